import Derived.Test.YtlbgcpmiedjmoaaDoorAmBC
import Derived.Lib.BytesEntry
import Derived.Laws.Externs
import Derived.Test.YtlbgcpmiedjmoaaDoorProg
import Derived.Test.YtlbgcpmiedjmoaaDoorCards
import Derived.Test.YtlbgcpmiedjmoaaDoorTie
import Derived.WalkKit
import Derived.ProofKit
import Derived.OpenShut
import Derived.Deep.DeepHandedRow
import Derived.Lib.LaidTab
set_option linter.unusedSimpArgs false
set_option linter.unusedVariables false
/- The functions of the program, in the small machine. -/
set_option maxRecDepth 100000
set_option maxHeartbeats 4000000
namespace Go.Am
open Go
def c7 : RFunc := ⟨91, .code (.seq (.region [⟨(some 3), .box 24 (.tmp 0), none⟩,
 ⟨(some 6), .mov (.val (.bool false)), none⟩])
 (.seq (.seq (.region [⟨(some 14), .fieldAddr 2 (.tmp 3), none⟩,
 ⟨(some 15), .load none (.tmp 14), none⟩,
 ⟨(some 16), .lenS (.tmp 15), none⟩,
 ⟨(some 17), .bin .gtr (.tmp 16) (.val (.int .i64 1200)), none⟩])
 (.cond (.tmp 17) (.seq (.region [⟨(some 18), .call (.val (.func (.func 19) [] [])) [], none⟩,
 ⟨(some 6), .mov (.tmp 18), none⟩])
 (.ret))
 (.skip)))
 (.seq (.region [⟨(some 19), .load (some 3) (.tmp 3), none⟩,
 ⟨(some 20), .call (.val (.func (.func 20) [] [])) [(.tmp 19)], none⟩,
 ⟨(some 7), .new 24 [(.int .i64 0), (.int .i64 0), .nslice], none⟩,
 ⟨none, .store 3 (.tmp 7) (.tmp 20), none⟩])
 (.seq (.region [⟨(some 22), .load (some 3) (.tmp 7), none⟩,
 ⟨(some 23), .mov (.tmp 1), none⟩,
 ⟨(some 24), .call (.val (.func (.func 60) [] [])) [(.tmp 22), (.tmp 23)], none⟩,
 ⟨(some 21), .mov (.tmp 24), none⟩,
 ⟨(some 25), .extract (.tmp 21) 0, none⟩,
 ⟨(some 26), .extract (.tmp 21) 1, none⟩,
 ⟨(some 8), .mov (.tmp 25), none⟩,
 ⟨(some 9), .mov (.tmp 26), none⟩])
 (.seq (.region [⟨(some 28), .load (some 3) (.tmp 7), none⟩,
 ⟨(some 29), .mov (.tmp 2), none⟩,
 ⟨(some 30), .call (.val (.func (.func 61) [] [])) [(.tmp 28), (.tmp 29)], none⟩,
 ⟨(some 27), .mov (.tmp 30), none⟩,
 ⟨(some 31), .extract (.tmp 27) 0, none⟩,
 ⟨(some 32), .extract (.tmp 27) 1, none⟩,
 ⟨(some 10), .new 24 [(.int .i64 0), (.int .i64 0), .nslice], none⟩,
 ⟨none, .store 3 (.tmp 10) (.tmp 31), none⟩,
 ⟨(some 11), .mov (.tmp 32), none⟩])
 (.seq (.seq (.region [⟨(some 33), .load (some 3) (.tmp 3), none⟩,
 ⟨(some 34), .call (.val (.func (.func 21) [] [])) [(.tmp 33)], none⟩,
 ⟨(some 12), .mov (.tmp 34), none⟩])
 (.seq (.region [⟨(some 35), .mov (.tmp 12), none⟩,
 ⟨(some 36), .bin .neq (.tmp 35) (.val (.int .i64 0)), none⟩])
 (.cond (.tmp 36) (.seq (.region [⟨(some 37), .mov (.tmp 9), none⟩,
 ⟨(some 38), .mov (.tmp 12), none⟩,
 ⟨(some 39), .bin .eql (.tmp 37) (.tmp 38), none⟩,
 ⟨(some 40), .mov (.tmp 39), none⟩,
 ⟨(some 41), .mov (.tmp 11), some (40, true)⟩,
 ⟨(some 42), .mov (.tmp 12), some (40, true)⟩,
 ⟨(some 43), .bin .eql (.tmp 41) (.tmp 42), some (40, true)⟩,
 ⟨(some 44), .pick (.tmp 40) (.tmp 43) (.val (.bool false)), none⟩,
 ⟨(some 45), .mov (.tmp 44), none⟩,
 ⟨(some 46), .mov (.tmp 8), some (45, true)⟩,
 ⟨(some 47), .lenS (.tmp 46), some (45, true)⟩,
 ⟨(some 48), .fieldAddr 2 (.tmp 10), some (45, true)⟩,
 ⟨(some 49), .load none (.tmp 48), some (45, true)⟩,
 ⟨(some 50), .lenS (.tmp 49), some (45, true)⟩,
 ⟨(some 51), .bin .add (.tmp 47) (.tmp 50), some (45, true)⟩,
 ⟨(some 52), .bin .eql (.tmp 51) (.val (.int .i64 0)), some (45, true)⟩,
 ⟨(some 53), .pick (.tmp 45) (.tmp 52) (.val (.bool false)), none⟩,
 ⟨(some 54), .mov (.tmp 53), none⟩,
 ⟨(some 55), .load (some 3) (.tmp 7), some (54, true)⟩,
 ⟨(some 56), .load (some 3) (.tmp 3), some (54, true)⟩,
 ⟨(some 57), .call (.val (.func (.func 32) [] [])) [(.tmp 55), (.tmp 56)], some (54, true)⟩,
 ⟨(some 58), .pick (.tmp 54) (.tmp 57) (.val (.bool false)), none⟩,
 ⟨(some 59), .mov (.tmp 58), none⟩,
 ⟨(some 60), .call (.val (.func (.func 19) [] [])) [], some (59, true)⟩,
 ⟨(some 61), .pick (.tmp 59) (.tmp 60) (.val (.bool false)), none⟩,
 ⟨(some 6), .mov (.tmp 61), none⟩])
 (.ret))
 (.skip))))
 (.seq (.region [⟨(some 62), .load (some 3) (.tmp 3), none⟩,
 ⟨(some 63), .mov (.tmp 1), none⟩,
 ⟨(some 64), .call (.val (.func (.func 62) [] [])) [(.tmp 62), (.tmp 63)], none⟩,
 ⟨(some 13), .mov (.tmp 64), none⟩])
 (.seq (.dregion [⟨⟨(some 65), .mov (.tmp 9), none⟩, 0, 0, true⟩,
 ⟨⟨(some 66), .bin .eql (.tmp 65) (.val (.int .i64 0)), none⟩, 1, 0, true⟩,
 ⟨⟨(some 67), .mov (.tmp 66), none⟩, 3, 0, true⟩,
 ⟨⟨(some 68), .mov (.tmp 11), some (67, true)⟩, 7, 0, true⟩,
 ⟨⟨(some 69), .bin .eql (.tmp 68) (.val (.int .i64 0)), some (67, true)⟩, 15, 0, true⟩,
 ⟨⟨(some 70), .pick (.tmp 67) (.tmp 69) (.val (.bool false)), none⟩, 31, 0, true⟩,
 ⟨⟨(some 71), .mov (.tmp 70), none⟩, 63, 0, true⟩,
 ⟨⟨(some 72), .mov (.tmp 8), some (71, true)⟩, 127, 0, true⟩,
 ⟨⟨(some 73), .mov (.tmp 13), some (71, true)⟩, 127, 0, true⟩,
 ⟨⟨(some 74), .call (.val (.func (.func 63) [] [])) [(.tmp 72), (.tmp 73), (.val (.func (.func 64) [] []))], some (71, true)⟩, 511, 2, false⟩,
 ⟨⟨(some 75), .pick (.tmp 71) (.tmp 74) (.val (.bool false)), none⟩, 1023, 0, false⟩,
 ⟨⟨(some 76), .mov (.tmp 75), none⟩, 2047, 0, false⟩,
 ⟨⟨(some 77), .load (some 3) (.tmp 10), some (76, true)⟩, 4095, 1, false⟩,
 ⟨⟨(some 78), .load (some 3) (.tmp 3), some (76, true)⟩, 4095, 1, false⟩,
 ⟨⟨(some 79), .mov (.tmp 2), some (76, true)⟩, 4095, 0, false⟩,
 ⟨⟨(some 80), .call (.val (.func (.func 66) [] [])) [(.tmp 78), (.tmp 79)], some (76, true)⟩, 28671, 2, false⟩,
 ⟨⟨(some 81), .call (.val (.func (.func 32) [] [])) [(.tmp 77), (.tmp 80)], some (76, true)⟩, 65535, 2, false⟩,
 ⟨⟨(some 82), .pick (.tmp 76) (.tmp 81) (.val (.bool false)), none⟩, 131071, 0, false⟩,
 ⟨⟨(some 83), .mov (.tmp 82), none⟩, 262143, 0, false⟩,
 ⟨⟨(some 84), .load (some 3) (.tmp 7), some (83, true)⟩, 524287, 1, false⟩,
 ⟨⟨(some 85), .load (some 3) (.tmp 3), some (83, true)⟩, 524287, 1, false⟩,
 ⟨⟨(some 86), .call (.val (.func (.func 32) [] [])) [(.tmp 84), (.tmp 85)], some (83, true)⟩, 2097151, 2, false⟩,
 ⟨⟨(some 87), .pick (.tmp 83) (.tmp 86) (.val (.bool false)), none⟩, 4194303, 0, false⟩,
 ⟨⟨(some 88), .mov (.tmp 87), none⟩, 8388607, 0, false⟩,
 ⟨⟨(some 89), .call (.val (.func (.func 19) [] [])) [], some (88, true)⟩, 16777215, 2, false⟩,
 ⟨⟨(some 90), .pick (.tmp 88) (.tmp 89) (.val (.bool false)), none⟩, 33554431, 0, false⟩,
 ⟨⟨(some 6), .mov (.tmp 90), none⟩, 67108863, 0, false⟩])
 (.ret))))))))), [.tmp 6]⟩
def c19 : RFunc := ⟨77, .code (.seq (.region [⟨(some 0), .mov (.val (.bool false)), none⟩])
 (.seq (.region [⟨(some 12), .call (.val (.func (.func 94) [] [])) [], none⟩,
 ⟨(some 1), .new 24 [(.int .i64 0), (.int .i64 0), .nslice], none⟩,
 ⟨none, .store 3 (.tmp 1) (.tmp 12), none⟩])
 (.seq (.region [⟨(some 14), .load (some 3) (.tmp 1), none⟩,
 ⟨(some 15), .call (.val (.func (.func 60) [] [])) [(.tmp 14), (.val (.bool true))], none⟩,
 ⟨(some 13), .mov (.tmp 15), none⟩,
 ⟨(some 16), .extract (.tmp 13) 0, none⟩,
 ⟨(some 17), .extract (.tmp 13) 1, none⟩,
 ⟨(some 2), .mov (.tmp 16), none⟩,
 ⟨(some 3), .mov (.tmp 17), none⟩])
 (.seq (.region [⟨(some 19), .load (some 3) (.tmp 1), none⟩,
 ⟨(some 20), .call (.val (.func (.func 60) [] [])) [(.tmp 19), (.val (.bool false))], none⟩,
 ⟨(some 18), .mov (.tmp 20), none⟩,
 ⟨(some 21), .extract (.tmp 18) 0, none⟩,
 ⟨(some 22), .extract (.tmp 18) 1, none⟩,
 ⟨(some 4), .mov (.tmp 21), none⟩,
 ⟨(some 5), .mov (.tmp 22), none⟩])
 (.seq (.region [⟨(some 24), .load (some 3) (.tmp 1), none⟩,
 ⟨(some 25), .call (.val (.func (.func 77) [] [])) [(.tmp 24), (.val (.int .i64 1))], none⟩,
 ⟨(some 23), .mov (.tmp 25), none⟩,
 ⟨(some 26), .extract (.tmp 23) 0, none⟩,
 ⟨(some 27), .extract (.tmp 23) 1, none⟩,
 ⟨(some 6), .new 24 [(.int .i64 0), (.int .i64 0), .nslice], none⟩,
 ⟨none, .store 3 (.tmp 6) (.tmp 26), none⟩,
 ⟨(some 7), .mov (.tmp 27), none⟩])
 (.seq (.region [⟨(some 29), .load (some 3) (.tmp 6), none⟩,
 ⟨(some 30), .call (.val (.func (.func 72) [] [])) [(.tmp 29)], none⟩,
 ⟨(some 28), .mov (.tmp 30), none⟩,
 ⟨(some 31), .extract (.tmp 28) 0, none⟩,
 ⟨(some 32), .extract (.tmp 28) 1, none⟩,
 ⟨(some 8), .mov (.tmp 31), none⟩,
 ⟨(some 9), .mov (.tmp 32), none⟩])
 (.seq (.region [⟨(some 34), .buildSlice 5 1 6 [(.int .u8 0), (.int .u8 0), (.int .u8 0), (.int .u8 0), (.int .u8 0), (.int .u8 0)] [(0, 1, (.val (.int .u8 1))), (1, 1, (.val (.int .u8 1))), (2, 1, (.val (.int .u8 1))), (3, 1, (.val (.int .u8 1))), (4, 1, (.val (.int .u8 1))), (5, 1, (.val (.int .u8 1)))], none⟩,
 ⟨(some 35), .build [(.int .i64 0), (.int .i64 0), .nslice] [(0, 1, (.val (.int .i64 2))), (1, 1, (.val (.int .i64 3))), (2, 1, (.tmp 34))], none⟩,
 ⟨(some 36), .call (.val (.func (.func 70) [] [])) [(.tmp 35)], none⟩,
 ⟨(some 33), .mov (.tmp 36), none⟩,
 ⟨(some 37), .extract (.tmp 33) 0, none⟩,
 ⟨(some 38), .extract (.tmp 33) 1, none⟩,
 ⟨(some 10), .new 24 [(.int .i64 0), (.int .i64 0), .nslice], none⟩,
 ⟨none, .store 3 (.tmp 10) (.tmp 37), none⟩,
 ⟨(some 11), .mov (.tmp 38), none⟩])
 (.seq (.region [⟨(some 39), .mov (.tmp 3), none⟩,
 ⟨(some 40), .bin .eql (.tmp 39) (.val (.int .i64 0)), none⟩,
 ⟨(some 41), .mov (.tmp 40), none⟩,
 ⟨(some 42), .mov (.tmp 5), some (41, true)⟩,
 ⟨(some 43), .bin .eql (.tmp 42) (.val (.int .i64 0)), some (41, true)⟩,
 ⟨(some 44), .pick (.tmp 41) (.tmp 43) (.val (.bool false)), none⟩,
 ⟨(some 45), .mov (.tmp 44), none⟩,
 ⟨(some 46), .mov (.tmp 7), some (45, true)⟩,
 ⟨(some 47), .bin .eql (.tmp 46) (.val (.int .i64 0)), some (45, true)⟩,
 ⟨(some 48), .pick (.tmp 45) (.tmp 47) (.val (.bool false)), none⟩,
 ⟨(some 49), .mov (.tmp 48), none⟩,
 ⟨(some 50), .mov (.tmp 9), some (49, true)⟩,
 ⟨(some 51), .bin .eql (.tmp 50) (.val (.int .i64 0)), some (49, true)⟩,
 ⟨(some 52), .pick (.tmp 49) (.tmp 51) (.val (.bool false)), none⟩,
 ⟨(some 53), .mov (.tmp 52), none⟩,
 ⟨(some 54), .mov (.tmp 11), some (53, true)⟩,
 ⟨(some 55), .bin .eql (.tmp 54) (.val (.int .i64 0)), some (53, true)⟩,
 ⟨(some 56), .pick (.tmp 53) (.tmp 55) (.val (.bool false)), none⟩,
 ⟨(some 57), .mov (.tmp 56), none⟩,
 ⟨(some 58), .mov (.tmp 2), some (57, true)⟩,
 ⟨(some 59), .lenS (.tmp 58), some (57, true)⟩,
 ⟨(some 60), .bin .eql (.tmp 59) (.val (.int .i64 1)), some (57, true)⟩,
 ⟨(some 61), .pick (.tmp 57) (.tmp 60) (.val (.bool false)), none⟩,
 ⟨(some 62), .mov (.tmp 61), none⟩,
 ⟨(some 63), .mov (.tmp 4), some (62, true)⟩,
 ⟨(some 64), .lenS (.tmp 63), some (62, true)⟩,
 ⟨(some 65), .bin .eql (.tmp 64) (.val (.int .i64 3)), some (62, true)⟩,
 ⟨(some 66), .pick (.tmp 62) (.tmp 65) (.val (.bool false)), none⟩,
 ⟨(some 67), .mov (.tmp 66), none⟩,
 ⟨(some 68), .mov (.tmp 8), some (67, true)⟩,
 ⟨(some 69), .bin .eql (.tmp 68) (.val (.str ⟨#[50, 32, 51, 10, 46, 35, 10, 35, 46, 10, 46, 35, 10]⟩)), some (67, true)⟩,
 ⟨(some 70), .pick (.tmp 67) (.tmp 69) (.val (.bool false)), none⟩,
 ⟨(some 71), .mov (.tmp 70), none⟩,
 ⟨(some 72), .load (some 3) (.tmp 10), some (71, true)⟩,
 ⟨(some 73), .buildSlice 5 1 6 [(.int .u8 0), (.int .u8 0), (.int .u8 0), (.int .u8 0), (.int .u8 0), (.int .u8 0)] [(0, 1, (.val (.int .u8 0))), (1, 1, (.val (.int .u8 0))), (2, 1, (.val (.int .u8 0))), (3, 1, (.val (.int .u8 0))), (4, 1, (.val (.int .u8 1))), (5, 1, (.val (.int .u8 1)))], some (71, true)⟩,
 ⟨(some 74), .build [(.int .i64 0), (.int .i64 0), .nslice] [(0, 1, (.val (.int .i64 2))), (1, 1, (.val (.int .i64 3))), (2, 1, (.tmp 73))], some (71, true)⟩,
 ⟨(some 75), .call (.val (.func (.func 32) [] [])) [(.tmp 72), (.tmp 74)], some (71, true)⟩,
 ⟨(some 76), .pick (.tmp 71) (.tmp 75) (.val (.bool false)), none⟩,
 ⟨(some 0), .mov (.tmp 76), none⟩])
 (.ret))))))))), [.tmp 0]⟩
def c20 : RFunc := ⟨11, .code (.seq (.region [⟨(some 1), .box 24 (.tmp 0), none⟩,
 ⟨(some 2), .new 24 [(.int .i64 0), (.int .i64 0), .nslice], none⟩])
 (.seq (.dregion [⟨⟨(some 3), .fieldAddr 0 (.tmp 1), none⟩, 0, 0, true⟩,
 ⟨⟨(some 4), .load none (.tmp 3), none⟩, 1, 1, true⟩,
 ⟨⟨(some 5), .fieldAddr 1 (.tmp 1), none⟩, 0, 0, true⟩,
 ⟨⟨(some 6), .load none (.tmp 5), none⟩, 4, 1, true⟩,
 ⟨⟨(some 7), .fieldAddr 2 (.tmp 1), none⟩, 0, 0, true⟩,
 ⟨⟨(some 8), .load none (.tmp 7), none⟩, 16, 1, true⟩,
 ⟨⟨(some 9), .call (.val (.func (.func 95) [] [])) [(.tmp 8)], none⟩, 48, 2, false⟩,
 ⟨⟨(some 10), .build [(.int .i64 0), (.int .i64 0), .nslice] [(0, 1, (.tmp 4)), (1, 1, (.tmp 6)), (2, 1, (.tmp 9))], none⟩, 127, 0, false⟩,
 ⟨⟨none, .store 3 (.tmp 2) (.tmp 10), none⟩, 255, 2, false⟩])
 (.ret))), [.cell 2 (some 3)]⟩
def c21 : RFunc := ⟨42, .code (.seq (.region [⟨(some 1), .box 24 (.tmp 0), none⟩,
 ⟨(some 2), .mov (.val (.int .i64 0)), none⟩])
 (.seq (.seq (.region [⟨(some 4), .fieldAddr 0 (.tmp 1), none⟩,
 ⟨(some 5), .load none (.tmp 4), none⟩,
 ⟨(some 6), .fieldAddr 1 (.tmp 1), none⟩,
 ⟨(some 7), .load none (.tmp 6), none⟩,
 ⟨(some 8), .call (.val (.func (.func 96) [] [])) [(.tmp 5), (.tmp 7)], none⟩,
 ⟨(some 9), .un .not (.tmp 8), none⟩,
 ⟨(some 10), .mov (.tmp 9), none⟩,
 ⟨(some 11), .fieldAddr 2 (.tmp 1), some (10, false)⟩,
 ⟨(some 12), .load none (.tmp 11), some (10, false)⟩,
 ⟨(some 13), .lenS (.tmp 12), some (10, false)⟩,
 ⟨(some 14), .fieldAddr 0 (.tmp 1), some (10, false)⟩,
 ⟨(some 15), .load none (.tmp 14), some (10, false)⟩,
 ⟨(some 16), .fieldAddr 1 (.tmp 1), some (10, false)⟩,
 ⟨(some 17), .load none (.tmp 16), some (10, false)⟩,
 ⟨(some 18), .bin .mul (.tmp 15) (.tmp 17), some (10, false)⟩,
 ⟨(some 19), .bin .neq (.tmp 13) (.tmp 18), some (10, false)⟩,
 ⟨(some 20), .pick (.tmp 10) (.val (.bool true)) (.tmp 19), none⟩])
 (.cond (.tmp 20) (.seq (.region [⟨(some 2), .mov (.val (.int .i64 2)), none⟩])
 (.ret))
 (.skip)))
 (.seq (.seq (.region [⟨(some 3), .mov (.val (.int .i64 0)), none⟩])
 (.block 0 (.loop (.seq (.seq (.region [⟨(some 21), .mov (.tmp 3), none⟩,
 ⟨(some 22), .fieldAddr 2 (.tmp 1), none⟩,
 ⟨(some 23), .load none (.tmp 22), none⟩,
 ⟨(some 24), .lenS (.tmp 23), none⟩,
 ⟨(some 25), .bin .lss (.tmp 21) (.tmp 24), none⟩])
 (.cond (.tmp 25) (.skip)
 (.exit 0)))
 (.seq (.block 1 (.seq (.region [⟨(some 28), .fieldAddr 2 (.tmp 1), none⟩,
 ⟨(some 29), .load none (.tmp 28), none⟩,
 ⟨(some 30), .mov (.tmp 3), none⟩,
 ⟨(some 31), .idxS 1 (.tmp 29) (.tmp 30), none⟩,
 ⟨(some 32), .load none (.tmp 31), none⟩,
 ⟨(some 33), .bin .neq (.tmp 32) (.val (.int .u8 0)), none⟩,
 ⟨(some 34), .mov (.tmp 33), none⟩,
 ⟨(some 35), .fieldAddr 2 (.tmp 1), some (34, true)⟩,
 ⟨(some 36), .load none (.tmp 35), some (34, true)⟩,
 ⟨(some 37), .mov (.tmp 3), some (34, true)⟩,
 ⟨(some 38), .idxS 1 (.tmp 36) (.tmp 37), some (34, true)⟩,
 ⟨(some 39), .load none (.tmp 38), some (34, true)⟩,
 ⟨(some 40), .bin .neq (.tmp 39) (.val (.int .u8 1)), some (34, true)⟩,
 ⟨(some 41), .pick (.tmp 34) (.tmp 40) (.val (.bool false)), none⟩])
 (.cond (.tmp 41) (.seq (.region [⟨(some 2), .mov (.val (.int .i64 3)), none⟩])
 (.ret))
 (.skip))))
 (.region [⟨(some 26), .mov (.tmp 3), none⟩,
 ⟨(some 27), .bin .add (.tmp 26) (.val (.int .i64 1)), none⟩,
 ⟨(some 3), .mov (.tmp 27), none⟩]))))))
 (.seq (.region [⟨(some 2), .mov (.val (.int .i64 0)), none⟩])
 (.ret))))), [.tmp 2]⟩
def c27 : RFunc := ⟨23, .code (.seq (.region [⟨(some 1), .box 24 (.tmp 0), none⟩,
 ⟨(some 2), .mov (.val (.int .i64 0)), none⟩])
 (.seq (.seq (.region [⟨(some 3), .fieldAddr 0 (.tmp 1), none⟩,
 ⟨(some 4), .load none (.tmp 3), none⟩,
 ⟨(some 5), .fieldAddr 1 (.tmp 1), none⟩,
 ⟨(some 6), .load none (.tmp 5), none⟩,
 ⟨(some 7), .fieldAddr 2 (.tmp 1), none⟩,
 ⟨(some 8), .load none (.tmp 7), none⟩,
 ⟨(some 9), .lenS (.tmp 8), none⟩,
 ⟨(some 10), .call (.val (.func (.func 106) [] [])) [(.tmp 4), (.tmp 6), (.tmp 9)], none⟩,
 ⟨(some 11), .un .not (.tmp 10), none⟩])
 (.cond (.tmp 11) (.seq (.region [⟨(some 2), .mov (.val (.int .i64 2)), none⟩])
 (.ret))
 (.skip)))
 (.seq (.seq (.dregion [⟨⟨(some 12), .fieldAddr 2 (.tmp 1), none⟩, 0, 0, true⟩,
 ⟨⟨(some 13), .load none (.tmp 12), none⟩, 1, 1, true⟩,
 ⟨⟨(some 14), .buildSlice 5 1 1 [(.int .u8 0)] [(0, 1, (.val (.int .u8 0)))], none⟩, 0, 3, true⟩,
 ⟨⟨(some 15), .call (.val (.func (.func 107) [] [])) [(.tmp 13), (.tmp 14)], none⟩, 7, 2, false⟩,
 ⟨⟨(some 16), .load (some 3) (.tmp 1), none⟩, 0, 1, true⟩,
 ⟨⟨(some 17), .call (.val (.func (.func 97) [] [])) [(.tmp 16)], none⟩, 31, 2, false⟩,
 ⟨⟨(some 18), .bin .add (.tmp 15) (.tmp 17), none⟩, 63, 0, false⟩,
 ⟨⟨(some 19), .fieldAddr 2 (.tmp 1), none⟩, 0, 0, true⟩,
 ⟨⟨(some 20), .load none (.tmp 19), none⟩, 128, 1, true⟩,
 ⟨⟨(some 21), .lenS (.tmp 20), none⟩, 384, 0, true⟩,
 ⟨⟨(some 22), .bin .neq (.tmp 18) (.tmp 21), none⟩, 1023, 0, false⟩])
 (.cond (.tmp 22) (.seq (.region [⟨(some 2), .mov (.val (.int .i64 3)), none⟩])
 (.ret))
 (.skip)))
 (.seq (.region [⟨(some 2), .mov (.val (.int .i64 0)), none⟩])
 (.ret))))), [.tmp 2]⟩
def c32 : RFunc := ⟨24, .code (.seq (.region [⟨(some 2), .box 24 (.tmp 0), none⟩,
 ⟨(some 3), .box 24 (.tmp 1), none⟩,
 ⟨(some 4), .mov (.val (.bool false)), none⟩])
 (.seq (.region [⟨(some 5), .fieldAddr 0 (.tmp 2), none⟩,
 ⟨(some 6), .load none (.tmp 5), none⟩,
 ⟨(some 7), .fieldAddr 0 (.tmp 3), none⟩,
 ⟨(some 8), .load none (.tmp 7), none⟩,
 ⟨(some 9), .bin .eql (.tmp 6) (.tmp 8), none⟩,
 ⟨(some 10), .mov (.tmp 9), none⟩,
 ⟨(some 11), .fieldAddr 1 (.tmp 2), some (10, true)⟩,
 ⟨(some 12), .load none (.tmp 11), some (10, true)⟩,
 ⟨(some 13), .fieldAddr 1 (.tmp 3), some (10, true)⟩,
 ⟨(some 14), .load none (.tmp 13), some (10, true)⟩,
 ⟨(some 15), .bin .eql (.tmp 12) (.tmp 14), some (10, true)⟩,
 ⟨(some 16), .pick (.tmp 10) (.tmp 15) (.val (.bool false)), none⟩,
 ⟨(some 17), .mov (.tmp 16), none⟩,
 ⟨(some 18), .fieldAddr 2 (.tmp 2), some (17, true)⟩,
 ⟨(some 19), .load none (.tmp 18), some (17, true)⟩,
 ⟨(some 20), .fieldAddr 2 (.tmp 3), some (17, true)⟩,
 ⟨(some 21), .load none (.tmp 20), some (17, true)⟩,
 ⟨(some 22), .call (.val (.func (.func 108) [] [])) [(.tmp 19), (.tmp 21)], some (17, true)⟩,
 ⟨(some 23), .pick (.tmp 17) (.tmp 22) (.val (.bool false)), none⟩,
 ⟨(some 4), .mov (.tmp 23), none⟩])
 (.ret))), [.tmp 4]⟩
def c35 : RFunc := ⟨38, .code (.seq (.region [⟨(some 3), .box 24 (.tmp 0), none⟩,
 ⟨(some 6), .mov (.val (.bool false)), none⟩])
 (.seq (.region [⟨(some 7), .mov (.tmp 1), none⟩,
 ⟨(some 8), .bin .geq (.tmp 7) (.val (.int .i64 0)), none⟩,
 ⟨(some 9), .mov (.tmp 8), none⟩,
 ⟨(some 10), .mov (.tmp 1), some (9, true)⟩,
 ⟨(some 11), .fieldAddr 0 (.tmp 3), some (9, true)⟩,
 ⟨(some 12), .load none (.tmp 11), some (9, true)⟩,
 ⟨(some 13), .bin .lss (.tmp 10) (.tmp 12), some (9, true)⟩,
 ⟨(some 14), .pick (.tmp 9) (.tmp 13) (.val (.bool false)), none⟩,
 ⟨(some 15), .mov (.tmp 14), none⟩,
 ⟨(some 16), .mov (.tmp 2), some (15, true)⟩,
 ⟨(some 17), .bin .geq (.tmp 16) (.val (.int .i64 0)), some (15, true)⟩,
 ⟨(some 18), .pick (.tmp 15) (.tmp 17) (.val (.bool false)), none⟩,
 ⟨(some 19), .mov (.tmp 18), none⟩,
 ⟨(some 20), .mov (.tmp 2), some (19, true)⟩,
 ⟨(some 21), .fieldAddr 1 (.tmp 3), some (19, true)⟩,
 ⟨(some 22), .load none (.tmp 21), some (19, true)⟩,
 ⟨(some 23), .bin .lss (.tmp 20) (.tmp 22), some (19, true)⟩,
 ⟨(some 24), .pick (.tmp 19) (.tmp 23) (.val (.bool false)), none⟩,
 ⟨(some 25), .mov (.tmp 24), none⟩,
 ⟨(some 26), .fieldAddr 2 (.tmp 3), some (25, true)⟩,
 ⟨(some 27), .load none (.tmp 26), some (25, true)⟩,
 ⟨(some 28), .mov (.tmp 2), some (25, true)⟩,
 ⟨(some 29), .fieldAddr 0 (.tmp 3), some (25, true)⟩,
 ⟨(some 30), .load none (.tmp 29), some (25, true)⟩,
 ⟨(some 31), .bin .mul (.tmp 28) (.tmp 30), some (25, true)⟩,
 ⟨(some 32), .mov (.tmp 1), some (25, true)⟩,
 ⟨(some 33), .bin .add (.tmp 31) (.tmp 32), some (25, true)⟩,
 ⟨(some 34), .idxS 1 (.tmp 27) (.tmp 33), some (25, true)⟩,
 ⟨(some 35), .load none (.tmp 34), some (25, true)⟩,
 ⟨(some 36), .bin .eql (.tmp 35) (.val (.int .u8 1)), some (25, true)⟩,
 ⟨(some 37), .pick (.tmp 25) (.tmp 36) (.val (.bool false)), none⟩,
 ⟨(some 6), .mov (.tmp 37), none⟩])
 (.ret))), [.tmp 6]⟩
def c51 : RFunc := ⟨44, .code (.seq (.region [⟨(some 1), .box 24 (.tmp 0), none⟩,
 ⟨(some 2), .mov (.val .nslice), none⟩,
 ⟨(some 3), .mov (.val .nslice), none⟩])
 (.seq (.dregion [⟨⟨(some 8), .fieldAddr 1 (.tmp 1), none⟩, 0, 0, true⟩,
 ⟨⟨(some 9), .load none (.tmp 8), none⟩, 1, 1, true⟩,
 ⟨⟨(some 10), .makeSlice 3 [(.int .i64 0)] 8 (.tmp 9) (.tmp 9), none⟩, 3, 3, true⟩,
 ⟨⟨(some 11), .fieldAddr 0 (.tmp 1), none⟩, 0, 0, true⟩,
 ⟨⟨(some 12), .load none (.tmp 11), none⟩, 8, 1, true⟩,
 ⟨⟨(some 13), .makeSlice 3 [(.int .i64 0)] 8 (.tmp 12) (.tmp 12), none⟩, 24, 3, true⟩,
 ⟨⟨(some 4), .mov (.tmp 10), none⟩, 7, 0, true⟩,
 ⟨⟨(some 5), .mov (.tmp 13), none⟩, 127, 0, true⟩])
 (.seq (.seq (.region [⟨(some 6), .mov (.val (.int .i64 0)), none⟩])
 (.block 0 (.loop (.seq (.seq (.region [⟨(some 14), .mov (.tmp 6), none⟩,
 ⟨(some 15), .fieldAddr 1 (.tmp 1), none⟩,
 ⟨(some 16), .load none (.tmp 15), none⟩,
 ⟨(some 17), .bin .lss (.tmp 14) (.tmp 16), none⟩])
 (.cond (.tmp 17) (.skip)
 (.exit 0)))
 (.seq (.block 1 (.seq (.region [⟨(some 7), .mov (.val (.int .i64 0)), none⟩])
 (.block 2 (.loop (.seq (.seq (.region [⟨(some 20), .mov (.tmp 7), none⟩,
 ⟨(some 21), .fieldAddr 0 (.tmp 1), none⟩,
 ⟨(some 22), .load none (.tmp 21), none⟩,
 ⟨(some 23), .bin .lss (.tmp 20) (.tmp 22), none⟩])
 (.cond (.tmp 23) (.skip)
 (.exit 2)))
 (.seq (.block 3 (.seq (.region [⟨(some 26), .load (some 3) (.tmp 1), none⟩,
 ⟨(some 27), .mov (.tmp 7), none⟩,
 ⟨(some 28), .mov (.tmp 6), none⟩,
 ⟨(some 29), .call (.val (.func (.func 35) [] [])) [(.tmp 26), (.tmp 27), (.tmp 28)], none⟩])
 (.cond (.tmp 29) (.seq (.region [⟨(some 30), .mov (.tmp 4), none⟩,
 ⟨(some 31), .mov (.tmp 6), none⟩,
 ⟨(some 32), .idxS 1 (.tmp 30) (.tmp 31), none⟩,
 ⟨(some 33), .load none (.tmp 32), none⟩,
 ⟨(some 34), .bin .add (.tmp 33) (.val (.int .i64 1)), none⟩,
 ⟨(some 35), .idxS 1 (.tmp 30) (.tmp 31), none⟩,
 ⟨none, .store 1 (.tmp 35) (.tmp 34), none⟩])
 (.region [⟨(some 36), .mov (.tmp 5), none⟩,
 ⟨(some 37), .mov (.tmp 7), none⟩,
 ⟨(some 38), .idxS 1 (.tmp 36) (.tmp 37), none⟩,
 ⟨(some 39), .load none (.tmp 38), none⟩,
 ⟨(some 40), .bin .add (.tmp 39) (.val (.int .i64 1)), none⟩,
 ⟨(some 41), .idxS 1 (.tmp 36) (.tmp 37), none⟩,
 ⟨none, .store 1 (.tmp 41) (.tmp 40), none⟩]))
 (.skip))))
 (.region [⟨(some 24), .mov (.tmp 7), none⟩,
 ⟨(some 25), .bin .add (.tmp 24) (.val (.int .i64 1)), none⟩,
 ⟨(some 7), .mov (.tmp 25), none⟩])))))))
 (.region [⟨(some 18), .mov (.tmp 6), none⟩,
 ⟨(some 19), .bin .add (.tmp 18) (.val (.int .i64 1)), none⟩,
 ⟨(some 6), .mov (.tmp 19), none⟩]))))))
 (.seq (.region [⟨(some 42), .mov (.tmp 4), none⟩,
 ⟨(some 43), .mov (.tmp 5), none⟩,
 ⟨(some 2), .mov (.tmp 42), none⟩,
 ⟨(some 3), .mov (.tmp 43), none⟩])
 (.ret))))), [.tmp 2, .tmp 3]⟩
def c52 : RFunc := ⟨82, .code (.seq (.region [⟨(some 1), .box 24 (.tmp 0), none⟩,
 ⟨(some 2), .new 46 [(.int .i64 0), (.int .i64 0), (.int .i64 0), (.int .i64 0)], none⟩])
 (.seq (.region [⟨(some 7), .load (some 3) (.tmp 1), none⟩,
 ⟨(some 8), .call (.val (.func (.func 51) [] [])) [(.tmp 7)], none⟩,
 ⟨(some 6), .mov (.tmp 8), none⟩,
 ⟨(some 9), .extract (.tmp 6) 0, none⟩,
 ⟨(some 10), .extract (.tmp 6) 1, none⟩,
 ⟨(some 3), .mov (.tmp 9), none⟩,
 ⟨(some 4), .mov (.tmp 10), none⟩])
 (.seq (.region [⟨(some 11), .fieldAddr 0 (.tmp 1), none⟩,
 ⟨(some 12), .load none (.tmp 11), none⟩,
 ⟨(some 13), .fieldAddr 1 (.tmp 1), none⟩,
 ⟨(some 14), .load none (.tmp 13), none⟩,
 ⟨(some 15), .build [(.int .i64 0), (.int .i64 0), (.int .i64 0), (.int .i64 0)] [(0, 1, (.val (.int .i64 0))), (1, 1, (.val (.int .i64 0))), (2, 1, (.tmp 12)), (3, 1, (.tmp 14))], none⟩,
 ⟨(some 5), .new 46 [(.int .i64 0), (.int .i64 0), (.int .i64 0), (.int .i64 0)], none⟩,
 ⟨none, .store 4 (.tmp 5) (.tmp 15), none⟩])
 (.seq (.block 0 (.loop (.seq (.seq (.region [⟨(some 16), .fieldAddr 3 (.tmp 5), none⟩,
 ⟨(some 17), .load none (.tmp 16), none⟩,
 ⟨(some 18), .bin .gtr (.tmp 17) (.val (.int .i64 0)), none⟩,
 ⟨(some 19), .mov (.tmp 18), none⟩,
 ⟨(some 20), .mov (.tmp 3), some (19, true)⟩,
 ⟨(some 21), .fieldAddr 1 (.tmp 5), some (19, true)⟩,
 ⟨(some 22), .load none (.tmp 21), some (19, true)⟩,
 ⟨(some 23), .fieldAddr 3 (.tmp 5), some (19, true)⟩,
 ⟨(some 24), .load none (.tmp 23), some (19, true)⟩,
 ⟨(some 25), .bin .add (.tmp 22) (.tmp 24), some (19, true)⟩,
 ⟨(some 26), .bin .sub (.tmp 25) (.val (.int .i64 1)), some (19, true)⟩,
 ⟨(some 27), .idxS 1 (.tmp 20) (.tmp 26), some (19, true)⟩,
 ⟨(some 28), .load none (.tmp 27), some (19, true)⟩,
 ⟨(some 29), .bin .eql (.tmp 28) (.val (.int .i64 0)), some (19, true)⟩,
 ⟨(some 30), .pick (.tmp 19) (.tmp 29) (.val (.bool false)), none⟩])
 (.cond (.tmp 30) (.skip)
 (.exit 0)))
 (.block 1 (.region [⟨(some 31), .fieldAddr 3 (.tmp 5), none⟩,
 ⟨(some 32), .load none (.tmp 31), none⟩,
 ⟨(some 33), .bin .sub (.tmp 32) (.val (.int .i64 1)), none⟩,
 ⟨(some 34), .fieldAddr 3 (.tmp 5), none⟩,
 ⟨none, .store 1 (.tmp 34) (.tmp 33), none⟩])))))
 (.seq (.seq (.region [⟨(some 35), .fieldAddr 3 (.tmp 5), none⟩,
 ⟨(some 36), .load none (.tmp 35), none⟩,
 ⟨(some 37), .bin .eql (.tmp 36) (.val (.int .i64 0)), none⟩])
 (.cond (.tmp 37) (.seq (.region [⟨(some 38), .build [(.int .i64 0), (.int .i64 0), (.int .i64 0), (.int .i64 0)] [], none⟩,
 ⟨none, .store 4 (.tmp 2) (.tmp 38), none⟩])
 (.ret))
 (.skip)))
 (.seq (.block 2 (.loop (.seq (.seq (.region [⟨(some 39), .mov (.tmp 3), none⟩,
 ⟨(some 40), .fieldAddr 1 (.tmp 5), none⟩,
 ⟨(some 41), .load none (.tmp 40), none⟩,
 ⟨(some 42), .idxS 1 (.tmp 39) (.tmp 41), none⟩,
 ⟨(some 43), .load none (.tmp 42), none⟩,
 ⟨(some 44), .bin .eql (.tmp 43) (.val (.int .i64 0)), none⟩])
 (.cond (.tmp 44) (.skip)
 (.exit 2)))
 (.block 3 (.seq (.region [⟨(some 45), .fieldAddr 1 (.tmp 5), none⟩,
 ⟨(some 46), .load none (.tmp 45), none⟩,
 ⟨(some 47), .bin .add (.tmp 46) (.val (.int .i64 1)), none⟩,
 ⟨(some 48), .fieldAddr 1 (.tmp 5), none⟩,
 ⟨none, .store 1 (.tmp 48) (.tmp 47), none⟩])
 (.region [⟨(some 49), .fieldAddr 3 (.tmp 5), none⟩,
 ⟨(some 50), .load none (.tmp 49), none⟩,
 ⟨(some 51), .bin .sub (.tmp 50) (.val (.int .i64 1)), none⟩,
 ⟨(some 52), .fieldAddr 3 (.tmp 5), none⟩,
 ⟨none, .store 1 (.tmp 52) (.tmp 51), none⟩]))))))
 (.seq (.block 4 (.loop (.seq (.seq (.region [⟨(some 53), .mov (.tmp 4), none⟩,
 ⟨(some 54), .fieldAddr 0 (.tmp 5), none⟩,
 ⟨(some 55), .load none (.tmp 54), none⟩,
 ⟨(some 56), .fieldAddr 2 (.tmp 5), none⟩,
 ⟨(some 57), .load none (.tmp 56), none⟩,
 ⟨(some 58), .bin .add (.tmp 55) (.tmp 57), none⟩,
 ⟨(some 59), .bin .sub (.tmp 58) (.val (.int .i64 1)), none⟩,
 ⟨(some 60), .idxS 1 (.tmp 53) (.tmp 59), none⟩,
 ⟨(some 61), .load none (.tmp 60), none⟩,
 ⟨(some 62), .bin .eql (.tmp 61) (.val (.int .i64 0)), none⟩])
 (.cond (.tmp 62) (.skip)
 (.exit 4)))
 (.block 5 (.region [⟨(some 63), .fieldAddr 2 (.tmp 5), none⟩,
 ⟨(some 64), .load none (.tmp 63), none⟩,
 ⟨(some 65), .bin .sub (.tmp 64) (.val (.int .i64 1)), none⟩,
 ⟨(some 66), .fieldAddr 2 (.tmp 5), none⟩,
 ⟨none, .store 1 (.tmp 66) (.tmp 65), none⟩])))))
 (.seq (.block 6 (.loop (.seq (.seq (.region [⟨(some 67), .mov (.tmp 4), none⟩,
 ⟨(some 68), .fieldAddr 0 (.tmp 5), none⟩,
 ⟨(some 69), .load none (.tmp 68), none⟩,
 ⟨(some 70), .idxS 1 (.tmp 67) (.tmp 69), none⟩,
 ⟨(some 71), .load none (.tmp 70), none⟩,
 ⟨(some 72), .bin .eql (.tmp 71) (.val (.int .i64 0)), none⟩])
 (.cond (.tmp 72) (.skip)
 (.exit 6)))
 (.block 7 (.seq (.region [⟨(some 73), .fieldAddr 0 (.tmp 5), none⟩,
 ⟨(some 74), .load none (.tmp 73), none⟩,
 ⟨(some 75), .bin .add (.tmp 74) (.val (.int .i64 1)), none⟩,
 ⟨(some 76), .fieldAddr 0 (.tmp 5), none⟩,
 ⟨none, .store 1 (.tmp 76) (.tmp 75), none⟩])
 (.region [⟨(some 77), .fieldAddr 2 (.tmp 5), none⟩,
 ⟨(some 78), .load none (.tmp 77), none⟩,
 ⟨(some 79), .bin .sub (.tmp 78) (.val (.int .i64 1)), none⟩,
 ⟨(some 80), .fieldAddr 2 (.tmp 5), none⟩,
 ⟨none, .store 1 (.tmp 80) (.tmp 79), none⟩]))))))
 (.seq (.region [⟨(some 81), .load (some 4) (.tmp 5), none⟩,
 ⟨none, .store 4 (.tmp 2) (.tmp 81), none⟩])
 (.ret)))))))))), [.cell 2 (some 4)]⟩
def c60 : RFunc := ⟨70, .code (.seq (.region [⟨(some 2), .box 24 (.tmp 0), none⟩,
 ⟨(some 4), .mov (.val .nslice), none⟩,
 ⟨(some 5), .mov (.val (.int .i64 0)), none⟩])
 (.seq (.seq (.region [⟨(some 14), .load (some 3) (.tmp 2), none⟩,
 ⟨(some 15), .call (.val (.func (.func 27) [] [])) [(.tmp 14)], none⟩,
 ⟨(some 6), .mov (.tmp 15), none⟩])
 (.seq (.region [⟨(some 16), .mov (.tmp 6), none⟩,
 ⟨(some 17), .bin .neq (.tmp 16) (.val (.int .i64 0)), none⟩])
 (.cond (.tmp 17) (.seq (.region [⟨(some 18), .mov (.tmp 6), none⟩,
 ⟨(some 4), .mov (.val .nslice), none⟩,
 ⟨(some 5), .mov (.tmp 18), none⟩])
 (.ret))
 (.skip))))
 (.seq (.region [⟨(some 20), .load (some 3) (.tmp 2), none⟩,
 ⟨(some 21), .mov (.tmp 1), none⟩,
 ⟨(some 22), .call (.val (.func (.func 121) [] [])) [(.tmp 20), (.tmp 21)], none⟩,
 ⟨(some 19), .mov (.tmp 22), none⟩,
 ⟨(some 23), .extract (.tmp 19) 0, none⟩,
 ⟨(some 24), .extract (.tmp 19) 1, none⟩,
 ⟨(some 7), .mov (.tmp 23), none⟩,
 ⟨(some 8), .mov (.tmp 24), none⟩])
 (.seq (.region [⟨(some 25), .mov (.tmp 8), none⟩,
 ⟨(some 26), .makeSlice 84 [(.int .i64 0), (.int .i64 0), (.int .i64 0), (.int .i64 0), .nslice] 56 (.tmp 25) (.tmp 25), none⟩,
 ⟨(some 9), .mov (.tmp 26), none⟩])
 (.seq (.seq (.region [⟨(some 27), .mov (.tmp 7), none⟩,
 ⟨(some 28), .lenS (.tmp 27), none⟩,
 ⟨(some 29), .mov (.val (.int .i64 0)), none⟩])
 (.block 0 (.loop (.seq (.region [⟨(some 30), .bin .lss (.tmp 29) (.tmp 28), none⟩])
 (.seq (.cond (.tmp 30) (.skip)
 (.exit 0))
 (.seq (.block 1 (.seq (.region [⟨(some 31), .mov (.tmp 29), none⟩,
 ⟨(some 32), .idxS 1 (.tmp 27) (.tmp 29), none⟩,
 ⟨(some 33), .load none (.tmp 32), none⟩,
 ⟨(some 10), .mov (.tmp 31), none⟩,
 ⟨(some 11), .mov (.tmp 33), none⟩])
 (.seq (.seq (.region [⟨(some 34), .mov (.tmp 11), none⟩,
 ⟨(some 35), .bin .eql (.tmp 34) (.val (.int .i64 0)), none⟩])
 (.cond (.tmp 35) (.exit 1)
 (.skip)))
 (.seq (.region [⟨(some 36), .mov (.tmp 9), none⟩,
 ⟨(some 37), .mov (.tmp 11), none⟩,
 ⟨(some 38), .bin .sub (.tmp 37) (.val (.int .i64 1)), none⟩,
 ⟨(some 39), .idxS 5 (.tmp 36) (.tmp 38), none⟩,
 ⟨(some 12), .mov (.tmp 39), none⟩])
 (.seq (.dregion [⟨⟨(some 40), .mov (.tmp 10), none⟩, 0, 0, true⟩,
 ⟨⟨(some 41), .fieldAddr 0 (.tmp 2), none⟩, 0, 0, true⟩,
 ⟨⟨(some 42), .load none (.tmp 41), none⟩, 2, 1, true⟩,
 ⟨⟨(some 43), .bin .rem (.tmp 40) (.tmp 42), none⟩, 7, 0, true⟩,
 ⟨⟨(some 44), .mov (.tmp 10), none⟩, 0, 0, true⟩,
 ⟨⟨(some 45), .fieldAddr 0 (.tmp 2), none⟩, 0, 0, true⟩,
 ⟨⟨(some 46), .load none (.tmp 45), none⟩, 32, 1, true⟩,
 ⟨⟨(some 47), .bin .quo (.tmp 44) (.tmp 46), none⟩, 112, 0, true⟩,
 ⟨⟨(some 48), .build [(.int .i64 0), (.int .i64 0)] [(0, 1, (.tmp 43)), (1, 1, (.tmp 47))], none⟩, 255, 0, true⟩,
 ⟨⟨(some 13), .new 88 [(.int .i64 0), (.int .i64 0)], none⟩, 0, 3, true⟩,
 ⟨⟨none, .store 2 (.tmp 13) (.tmp 48), none⟩, 1023, 2, false⟩])
 (.seq (.dregion [⟨⟨(some 49), .mov (.tmp 12), none⟩, 0, 0, true⟩,
 ⟨⟨(some 50), .mov (.tmp 12), none⟩, 0, 0, true⟩,
 ⟨⟨(some 51), .nilCheck (.tmp 50), none⟩, 2, 0, true⟩,
 ⟨⟨(some 52), .fieldAddr 0 (.tmp 51), none⟩, 6, 0, true⟩,
 ⟨⟨(some 53), .load (some 4) (.tmp 52), none⟩, 14, 1, true⟩,
 ⟨⟨(some 54), .load (some 2) (.tmp 13), none⟩, 0, 1, true⟩,
 ⟨⟨(some 55), .call (.val (.func (.func 122) [] [])) [(.tmp 53), (.tmp 54)], none⟩, 62, 2, false⟩,
 ⟨⟨(some 56), .nilCheck (.tmp 49), none⟩, 127, 0, true⟩,
 ⟨⟨(some 57), .fieldAddr 0 (.tmp 56), none⟩, 255, 0, true⟩,
 ⟨⟨none, .store 4 (.tmp 57) (.tmp 55), none⟩, 511, 2, false⟩])
 (.dregion [⟨⟨(some 58), .mov (.tmp 12), none⟩, 0, 0, true⟩,
 ⟨⟨(some 59), .mov (.tmp 12), none⟩, 0, 0, true⟩,
 ⟨⟨(some 60), .nilCheck (.tmp 59), none⟩, 2, 0, true⟩,
 ⟨⟨(some 61), .fieldAddr 4 (.tmp 60), none⟩, 6, 0, true⟩,
 ⟨⟨(some 62), .load none (.tmp 61), none⟩, 14, 1, true⟩,
 ⟨⟨(some 63), .load (some 2) (.tmp 13), none⟩, 0, 1, true⟩,
 ⟨⟨(some 64), .buildSlice 88 2 1 [(.int .i64 0), (.int .i64 0)] [(0, 2, (.tmp 63))], none⟩, 32, 3, true⟩,
 ⟨⟨(some 65), .append 88 2 16 (.tmp 62) (.tmp 64), none⟩, 126, 2, false⟩,
 ⟨⟨(some 66), .nilCheck (.tmp 58), none⟩, 255, 0, true⟩,
 ⟨⟨(some 67), .fieldAddr 4 (.tmp 66), none⟩, 511, 0, true⟩,
 ⟨⟨none, .store 1 (.tmp 67) (.tmp 65), none⟩, 1023, 2, false⟩])))))))
 (.region [⟨(some 68), .bin .add (.tmp 29) (.val (.int .i64 1)), none⟩,
 ⟨(some 29), .mov (.tmp 68), none⟩])))))))
 (.seq (.region [⟨(some 69), .mov (.tmp 9), none⟩,
 ⟨(some 4), .mov (.tmp 69), none⟩,
 ⟨(some 5), .mov (.val (.int .i64 0)), none⟩])
 (.ret))))))), [.tmp 4, .tmp 5]⟩
def c61 : RFunc := ⟨56, .code (.seq (.region [⟨(some 2), .box 24 (.tmp 0), none⟩,
 ⟨(some 4), .new 24 [(.int .i64 0), (.int .i64 0), .nslice], none⟩,
 ⟨(some 5), .mov (.val (.int .i64 0)), none⟩])
 (.seq (.region [⟨(some 14), .load (some 3) (.tmp 2), none⟩,
 ⟨(some 15), .call (.val (.func (.func 60) [] [])) [(.tmp 14), (.val (.bool true))], none⟩,
 ⟨(some 13), .mov (.tmp 15), none⟩,
 ⟨(some 16), .extract (.tmp 13) 0, none⟩,
 ⟨(some 17), .extract (.tmp 13) 1, none⟩,
 ⟨(some 6), .mov (.tmp 16), none⟩,
 ⟨(some 7), .mov (.tmp 17), none⟩])
 (.seq (.seq (.region [⟨(some 18), .mov (.tmp 7), none⟩,
 ⟨(some 19), .bin .neq (.tmp 18) (.val (.int .i64 0)), none⟩])
 (.cond (.tmp 19) (.seq (.region [⟨(some 20), .build [(.int .i64 0), (.int .i64 0), .nslice] [], none⟩,
 ⟨(some 21), .mov (.tmp 7), none⟩,
 ⟨none, .store 3 (.tmp 4) (.tmp 20), none⟩,
 ⟨(some 5), .mov (.tmp 21), none⟩])
 (.ret))
 (.skip)))
 (.seq (.region [⟨(some 22), .load (some 3) (.tmp 2), none⟩,
 ⟨(some 23), .call (.val (.func (.func 98) [] [])) [(.tmp 22)], none⟩,
 ⟨(some 8), .new 24 [(.int .i64 0), (.int .i64 0), .nslice], none⟩,
 ⟨none, .store 3 (.tmp 8) (.tmp 23), none⟩])
 (.seq (.seq (.region [⟨(some 24), .mov (.tmp 6), none⟩,
 ⟨(some 25), .lenS (.tmp 24), none⟩,
 ⟨(some 26), .mov (.val (.int .i64 0)), none⟩])
 (.block 0 (.loop (.seq (.region [⟨(some 27), .bin .lss (.tmp 26) (.tmp 25), none⟩])
 (.seq (.cond (.tmp 27) (.skip)
 (.exit 0))
 (.seq (.block 1 (.seq (.region [⟨(some 28), .idxS 5 (.tmp 24) (.tmp 26), none⟩,
 ⟨(some 29), .load (some 5) (.tmp 28), none⟩,
 ⟨(some 10), .new 84 [(.int .i64 0), (.int .i64 0), (.int .i64 0), (.int .i64 0), .nslice], none⟩,
 ⟨none, .store 5 (.tmp 10) (.tmp 29), none⟩])
 (.seq (.seq (.region [⟨(some 30), .fieldAddr 4 (.tmp 10), none⟩,
 ⟨(some 31), .load none (.tmp 30), none⟩,
 ⟨(some 32), .lenS (.tmp 31), none⟩,
 ⟨(some 33), .mov (.tmp 1), none⟩,
 ⟨(some 34), .bin .geq (.tmp 32) (.tmp 33), none⟩])
 (.cond (.tmp 34) (.exit 1)
 (.skip)))
 (.seq (.region [⟨(some 35), .fieldAddr 4 (.tmp 10), none⟩,
 ⟨(some 36), .load none (.tmp 35), none⟩,
 ⟨(some 37), .lenS (.tmp 36), none⟩,
 ⟨(some 38), .mov (.val (.int .i64 0)), none⟩])
 (.block 2 (.loop (.seq (.region [⟨(some 39), .bin .lss (.tmp 38) (.tmp 37), none⟩])
 (.seq (.cond (.tmp 39) (.skip)
 (.exit 2))
 (.seq (.block 3 (.seq (.region [⟨(some 40), .idxS 2 (.tmp 36) (.tmp 38), none⟩,
 ⟨(some 41), .load (some 2) (.tmp 40), none⟩,
 ⟨(some 12), .new 88 [(.int .i64 0), (.int .i64 0)], none⟩,
 ⟨none, .store 2 (.tmp 12) (.tmp 41), none⟩])
 (.region [⟨(some 42), .fieldAddr 2 (.tmp 8), none⟩,
 ⟨(some 43), .load none (.tmp 42), none⟩,
 ⟨(some 44), .fieldAddr 1 (.tmp 12), none⟩,
 ⟨(some 45), .load none (.tmp 44), none⟩,
 ⟨(some 46), .fieldAddr 0 (.tmp 8), none⟩,
 ⟨(some 47), .load none (.tmp 46), none⟩,
 ⟨(some 48), .bin .mul (.tmp 45) (.tmp 47), none⟩,
 ⟨(some 49), .fieldAddr 0 (.tmp 12), none⟩,
 ⟨(some 50), .load none (.tmp 49), none⟩,
 ⟨(some 51), .bin .add (.tmp 48) (.tmp 50), none⟩,
 ⟨(some 52), .idxS 1 (.tmp 43) (.tmp 51), none⟩,
 ⟨none, .store 1 (.tmp 52) (.val (.int .u8 0)), none⟩])))
 (.region [⟨(some 53), .bin .add (.tmp 38) (.val (.int .i64 1)), none⟩,
 ⟨(some 38), .mov (.tmp 53), none⟩]))))))))))
 (.region [⟨(some 54), .bin .add (.tmp 26) (.val (.int .i64 1)), none⟩,
 ⟨(some 26), .mov (.tmp 54), none⟩])))))))
 (.seq (.region [⟨(some 55), .load (some 3) (.tmp 8), none⟩,
 ⟨none, .store 3 (.tmp 4) (.tmp 55), none⟩,
 ⟨(some 5), .mov (.val (.int .i64 0)), none⟩])
 (.ret))))))), [.cell 4 (some 3), .tmp 5]⟩
def c62 : RFunc := ⟨192, .code (.seq (.region [⟨(some 2), .box 24 (.tmp 0), none⟩,
 ⟨(some 4), .mov (.val .nslice), none⟩])
 (.seq (.region [⟨(some 17), .fieldAddr 2 (.tmp 2), none⟩,
 ⟨(some 18), .load none (.tmp 17), none⟩,
 ⟨(some 19), .lenS (.tmp 18), none⟩,
 ⟨(some 20), .makeSlice 3 [(.int .i64 0)] 8 (.tmp 19) (.tmp 19), none⟩,
 ⟨(some 5), .mov (.tmp 20), none⟩])
 (.seq (.seq (.region [⟨(some 6), .mov (.val (.int .i64 0)), none⟩])
 (.block 0 (.loop (.seq (.seq (.region [⟨(some 21), .mov (.tmp 6), none⟩,
 ⟨(some 22), .mov (.tmp 5), none⟩,
 ⟨(some 23), .lenS (.tmp 22), none⟩,
 ⟨(some 24), .bin .lss (.tmp 21) (.tmp 23), none⟩])
 (.cond (.tmp 24) (.skip)
 (.exit 0)))
 (.seq (.block 1 (.region [⟨(some 27), .mov (.tmp 5), none⟩,
 ⟨(some 28), .mov (.tmp 6), none⟩,
 ⟨(some 29), .mov (.tmp 6), none⟩,
 ⟨(some 30), .idxS 1 (.tmp 27) (.tmp 28), none⟩,
 ⟨none, .store 1 (.tmp 30) (.tmp 29), none⟩]))
 (.region [⟨(some 25), .mov (.tmp 6), none⟩,
 ⟨(some 26), .bin .add (.tmp 25) (.val (.int .i64 1)), none⟩,
 ⟨(some 6), .mov (.tmp 26), none⟩]))))))
 (.seq (.region [⟨(some 7), .mov (.val (.bool true)), none⟩])
 (.seq (.block 2 (.loop (.seq (.seq (.region [⟨(some 31), .mov (.tmp 7), none⟩])
 (.cond (.tmp 31) (.skip)
 (.exit 2)))
 (.block 3 (.seq (.region [⟨(some 7), .mov (.val (.bool false)), none⟩])
 (.seq (.region [⟨(some 8), .mov (.val (.int .i64 0)), none⟩])
 (.block 4 (.loop (.seq (.seq (.region [⟨(some 32), .mov (.tmp 8), none⟩,
 ⟨(some 33), .fieldAddr 1 (.tmp 2), none⟩,
 ⟨(some 34), .load none (.tmp 33), none⟩,
 ⟨(some 35), .bin .lss (.tmp 32) (.tmp 34), none⟩])
 (.cond (.tmp 35) (.skip)
 (.exit 4)))
 (.seq (.block 5 (.seq (.region [⟨(some 9), .mov (.val (.int .i64 0)), none⟩])
 (.block 6 (.loop (.seq (.seq (.region [⟨(some 38), .mov (.tmp 9), none⟩,
 ⟨(some 39), .fieldAddr 0 (.tmp 2), none⟩,
 ⟨(some 40), .load none (.tmp 39), none⟩,
 ⟨(some 41), .bin .lss (.tmp 38) (.tmp 40), none⟩])
 (.cond (.tmp 41) (.skip)
 (.exit 6)))
 (.seq (.block 7 (.seq (.region [⟨(some 44), .mov (.tmp 8), none⟩,
 ⟨(some 45), .bin .sub (.tmp 44) (.val (.int .i64 1)), none⟩,
 ⟨(some 10), .mov (.tmp 45), none⟩])
 (.block 8 (.loop (.seq (.seq (.region [⟨(some 46), .mov (.tmp 10), none⟩,
 ⟨(some 47), .mov (.tmp 8), none⟩,
 ⟨(some 48), .bin .add (.tmp 47) (.val (.int .i64 1)), none⟩,
 ⟨(some 49), .bin .leq (.tmp 46) (.tmp 48), none⟩,
 ⟨(some 50), .mov (.tmp 49), none⟩,
 ⟨(some 51), .load (some 3) (.tmp 2), some (50, true)⟩,
 ⟨(some 52), .mov (.tmp 9), some (50, true)⟩,
 ⟨(some 53), .mov (.tmp 8), some (50, true)⟩,
 ⟨(some 54), .call (.val (.func (.func 35) [] [])) [(.tmp 51), (.tmp 52), (.tmp 53)], some (50, true)⟩,
 ⟨(some 55), .pick (.tmp 50) (.tmp 54) (.val (.bool false)), none⟩])
 (.cond (.tmp 55) (.skip)
 (.exit 8)))
 (.seq (.block 9 (.seq (.region [⟨(some 58), .mov (.tmp 9), none⟩,
 ⟨(some 59), .bin .sub (.tmp 58) (.val (.int .i64 1)), none⟩,
 ⟨(some 11), .mov (.tmp 59), none⟩])
 (.block 10 (.loop (.seq (.seq (.region [⟨(some 60), .mov (.tmp 11), none⟩,
 ⟨(some 61), .mov (.tmp 9), none⟩,
 ⟨(some 62), .bin .add (.tmp 61) (.val (.int .i64 1)), none⟩,
 ⟨(some 63), .bin .leq (.tmp 60) (.tmp 62), none⟩])
 (.cond (.tmp 63) (.skip)
 (.exit 10)))
 (.seq (.block 11 (.seq (.dregion [⟨⟨(some 66), .load (some 3) (.tmp 2), none⟩, 0, 1, true⟩,
 ⟨⟨(some 67), .mov (.tmp 11), none⟩, 0, 0, true⟩,
 ⟨⟨(some 68), .mov (.tmp 10), none⟩, 0, 0, true⟩,
 ⟨⟨(some 69), .call (.val (.func (.func 35) [] [])) [(.tmp 66), (.tmp 67), (.tmp 68)], none⟩, 7, 2, false⟩,
 ⟨⟨(some 70), .mov (.tmp 69), none⟩, 15, 0, false⟩,
 ⟨⟨(some 71), .mov (.tmp 9), some (70, true)⟩, 31, 0, false⟩,
 ⟨⟨(some 72), .mov (.tmp 8), some (70, true)⟩, 31, 0, false⟩,
 ⟨⟨(some 73), .build [(.int .i64 0), (.int .i64 0)] [(0, 1, (.tmp 71)), (1, 1, (.tmp 72))], some (70, true)⟩, 127, 0, false⟩,
 ⟨⟨(some 74), .mov (.tmp 11), some (70, true)⟩, 31, 0, false⟩,
 ⟨⟨(some 75), .mov (.tmp 10), some (70, true)⟩, 31, 0, false⟩,
 ⟨⟨(some 76), .build [(.int .i64 0), (.int .i64 0)] [(0, 1, (.tmp 74)), (1, 1, (.tmp 75))], some (70, true)⟩, 799, 0, false⟩,
 ⟨⟨(some 77), .mov (.tmp 1), some (70, true)⟩, 31, 0, false⟩,
 ⟨⟨(some 78), .call (.val (.func (.func 123) [] [])) [(.tmp 73), (.tmp 76), (.tmp 77)], some (70, true)⟩, 4095, 2, false⟩,
 ⟨⟨(some 79), .pick (.tmp 70) (.tmp 78) (.val (.bool false)), none⟩, 8191, 0, false⟩,
 ⟨⟨(some 80), .mov (.tmp 79), none⟩, 16383, 0, false⟩,
 ⟨⟨(some 81), .mov (.tmp 5), some (80, true)⟩, 32767, 0, false⟩,
 ⟨⟨(some 82), .mov (.tmp 10), some (80, true)⟩, 32767, 0, false⟩,
 ⟨⟨(some 83), .fieldAddr 0 (.tmp 2), some (80, true)⟩, 32767, 0, false⟩,
 ⟨⟨(some 84), .load none (.tmp 83), some (80, true)⟩, 163839, 1, false⟩,
 ⟨⟨(some 85), .bin .mul (.tmp 82) (.tmp 84), some (80, true)⟩, 491519, 0, false⟩,
 ⟨⟨(some 86), .mov (.tmp 11), some (80, true)⟩, 32767, 0, false⟩,
 ⟨⟨(some 87), .bin .add (.tmp 85) (.tmp 86), some (80, true)⟩, 2064383, 0, false⟩,
 ⟨⟨(some 88), .idxS 1 (.tmp 81) (.tmp 87), some (80, true)⟩, 4194303, 0, false⟩,
 ⟨⟨(some 89), .load none (.tmp 88), some (80, true)⟩, 8388607, 1, false⟩,
 ⟨⟨(some 90), .mov (.tmp 5), some (80, true)⟩, 32767, 0, false⟩,
 ⟨⟨(some 91), .mov (.tmp 8), some (80, true)⟩, 32767, 0, false⟩,
 ⟨⟨(some 92), .fieldAddr 0 (.tmp 2), some (80, true)⟩, 32767, 0, false⟩,
 ⟨⟨(some 93), .load none (.tmp 92), some (80, true)⟩, 67141631, 1, false⟩,
 ⟨⟨(some 94), .bin .mul (.tmp 91) (.tmp 93), some (80, true)⟩, 234913791, 0, false⟩,
 ⟨⟨(some 95), .mov (.tmp 9), some (80, true)⟩, 32767, 0, false⟩,
 ⟨⟨(some 96), .bin .add (.tmp 94) (.tmp 95), some (80, true)⟩, 1040220159, 0, false⟩,
 ⟨⟨(some 97), .idxS 1 (.tmp 90) (.tmp 96), some (80, true)⟩, 2130739199, 0, false⟩,
 ⟨⟨(some 98), .load none (.tmp 97), some (80, true)⟩, 4278222847, 1, false⟩,
 ⟨⟨(some 99), .bin .lss (.tmp 89) (.tmp 98), some (80, true)⟩, 8589934591, 0, false⟩,
 ⟨⟨(some 100), .pick (.tmp 80) (.tmp 99) (.val (.bool false)), none⟩, 17179869183, 0, false⟩])
 (.cond (.tmp 100) (.seq (.dregion [⟨⟨(some 101), .mov (.tmp 5), none⟩, 0, 0, true⟩,
 ⟨⟨(some 102), .mov (.tmp 8), none⟩, 0, 0, true⟩,
 ⟨⟨(some 103), .fieldAddr 0 (.tmp 2), none⟩, 0, 0, true⟩,
 ⟨⟨(some 104), .load none (.tmp 103), none⟩, 4, 1, true⟩,
 ⟨⟨(some 105), .bin .mul (.tmp 102) (.tmp 104), none⟩, 14, 0, true⟩,
 ⟨⟨(some 106), .mov (.tmp 9), none⟩, 0, 0, true⟩,
 ⟨⟨(some 107), .bin .add (.tmp 105) (.tmp 106), none⟩, 62, 0, true⟩,
 ⟨⟨(some 108), .mov (.tmp 5), none⟩, 0, 0, true⟩,
 ⟨⟨(some 109), .mov (.tmp 10), none⟩, 0, 0, true⟩,
 ⟨⟨(some 110), .fieldAddr 0 (.tmp 2), none⟩, 0, 0, true⟩,
 ⟨⟨(some 111), .load none (.tmp 110), none⟩, 512, 1, true⟩,
 ⟨⟨(some 112), .bin .mul (.tmp 109) (.tmp 111), none⟩, 1792, 0, true⟩,
 ⟨⟨(some 113), .mov (.tmp 11), none⟩, 0, 0, true⟩,
 ⟨⟨(some 114), .bin .add (.tmp 112) (.tmp 113), none⟩, 7936, 0, true⟩,
 ⟨⟨(some 115), .idxS 1 (.tmp 108) (.tmp 114), none⟩, 16256, 0, true⟩,
 ⟨⟨(some 116), .load none (.tmp 115), none⟩, 32640, 1, true⟩,
 ⟨⟨(some 117), .idxS 1 (.tmp 101) (.tmp 107), none⟩, 65535, 0, true⟩,
 ⟨⟨none, .store 1 (.tmp 117) (.tmp 116), none⟩, 131071, 2, false⟩])
 (.region [⟨(some 7), .mov (.val (.bool true)), none⟩]))
 (.skip))))
 (.region [⟨(some 64), .mov (.tmp 11), none⟩,
 ⟨(some 65), .bin .add (.tmp 64) (.val (.int .i64 1)), none⟩,
 ⟨(some 11), .mov (.tmp 65), none⟩])))))))
 (.region [⟨(some 56), .mov (.tmp 10), none⟩,
 ⟨(some 57), .bin .add (.tmp 56) (.val (.int .i64 1)), none⟩,
 ⟨(some 10), .mov (.tmp 57), none⟩])))))))
 (.region [⟨(some 42), .mov (.tmp 9), none⟩,
 ⟨(some 43), .bin .add (.tmp 42) (.val (.int .i64 1)), none⟩,
 ⟨(some 9), .mov (.tmp 43), none⟩])))))))
 (.region [⟨(some 36), .mov (.tmp 8), none⟩,
 ⟨(some 37), .bin .add (.tmp 36) (.val (.int .i64 1)), none⟩,
 ⟨(some 8), .mov (.tmp 37), none⟩])))))))))))
 (.seq (.region [⟨(some 12), .mov (.val .nslice), none⟩])
 (.seq (.seq (.region [⟨(some 13), .mov (.val (.int .i64 0)), none⟩])
 (.block 12 (.loop (.seq (.seq (.region [⟨(some 118), .mov (.tmp 13), none⟩,
 ⟨(some 119), .fieldAddr 2 (.tmp 2), none⟩,
 ⟨(some 120), .load none (.tmp 119), none⟩,
 ⟨(some 121), .lenS (.tmp 120), none⟩,
 ⟨(some 122), .bin .lss (.tmp 118) (.tmp 121), none⟩])
 (.cond (.tmp 122) (.skip)
 (.exit 12)))
 (.seq (.block 13 (.seq (.seq (.region [⟨(some 125), .fieldAddr 2 (.tmp 2), none⟩,
 ⟨(some 126), .load none (.tmp 125), none⟩,
 ⟨(some 127), .mov (.tmp 13), none⟩,
 ⟨(some 128), .idxS 1 (.tmp 126) (.tmp 127), none⟩,
 ⟨(some 129), .load none (.tmp 128), none⟩,
 ⟨(some 130), .bin .eql (.tmp 129) (.val (.int .u8 0)), none⟩,
 ⟨(some 131), .mov (.tmp 130), none⟩,
 ⟨(some 132), .mov (.tmp 5), some (131, false)⟩,
 ⟨(some 133), .mov (.tmp 13), some (131, false)⟩,
 ⟨(some 134), .idxS 1 (.tmp 132) (.tmp 133), some (131, false)⟩,
 ⟨(some 135), .load none (.tmp 134), some (131, false)⟩,
 ⟨(some 136), .mov (.tmp 13), some (131, false)⟩,
 ⟨(some 137), .bin .neq (.tmp 135) (.tmp 136), some (131, false)⟩,
 ⟨(some 138), .pick (.tmp 131) (.val (.bool true)) (.tmp 137), none⟩])
 (.cond (.tmp 138) (.exit 13)
 (.skip)))
 (.seq (.region [⟨(some 139), .fieldAddr 0 (.tmp 2), none⟩,
 ⟨(some 140), .load none (.tmp 139), none⟩,
 ⟨(some 141), .fieldAddr 1 (.tmp 2), none⟩,
 ⟨(some 142), .load none (.tmp 141), none⟩,
 ⟨(some 143), .call (.val (.func (.func 104) [] [])) [(.tmp 140), (.tmp 142)], none⟩,
 ⟨(some 14), .new 24 [(.int .i64 0), (.int .i64 0), .nslice], none⟩,
 ⟨none, .store 3 (.tmp 14) (.tmp 143), none⟩])
 (.seq (.region [⟨(some 15), .new 85 [(.int .i64 0), (.int .i64 0), (.int .i64 0), (.int .i64 0), .nslice], none⟩])
 (.seq (.seq (.region [⟨(some 144), .mov (.tmp 13), none⟩,
 ⟨(some 16), .mov (.tmp 144), none⟩])
 (.block 14 (.loop (.seq (.seq (.region [⟨(some 145), .mov (.tmp 16), none⟩,
 ⟨(some 146), .fieldAddr 2 (.tmp 2), none⟩,
 ⟨(some 147), .load none (.tmp 146), none⟩,
 ⟨(some 148), .lenS (.tmp 147), none⟩,
 ⟨(some 149), .bin .lss (.tmp 145) (.tmp 148), none⟩])
 (.cond (.tmp 149) (.skip)
 (.exit 14)))
 (.seq (.block 15 (.seq (.region [⟨(some 152), .fieldAddr 2 (.tmp 2), none⟩,
 ⟨(some 153), .load none (.tmp 152), none⟩,
 ⟨(some 154), .mov (.tmp 16), none⟩,
 ⟨(some 155), .idxS 1 (.tmp 153) (.tmp 154), none⟩,
 ⟨(some 156), .load none (.tmp 155), none⟩,
 ⟨(some 157), .bin .eql (.tmp 156) (.val (.int .u8 1)), none⟩,
 ⟨(some 158), .mov (.tmp 157), none⟩,
 ⟨(some 159), .mov (.tmp 5), some (158, true)⟩,
 ⟨(some 160), .mov (.tmp 16), some (158, true)⟩,
 ⟨(some 161), .idxS 1 (.tmp 159) (.tmp 160), some (158, true)⟩,
 ⟨(some 162), .load none (.tmp 161), some (158, true)⟩,
 ⟨(some 163), .mov (.tmp 13), some (158, true)⟩,
 ⟨(some 164), .bin .eql (.tmp 162) (.tmp 163), some (158, true)⟩,
 ⟨(some 165), .pick (.tmp 158) (.tmp 164) (.val (.bool false)), none⟩])
 (.cond (.tmp 165) (.seq (.dregion [⟨⟨(some 166), .fieldAddr 4 (.tmp 15), none⟩, 0, 0, true⟩,
 ⟨⟨(some 167), .load none (.tmp 166), none⟩, 1, 1, true⟩,
 ⟨⟨(some 168), .mov (.tmp 16), none⟩, 0, 0, true⟩,
 ⟨⟨(some 169), .fieldAddr 0 (.tmp 2), none⟩, 0, 0, true⟩,
 ⟨⟨(some 170), .load none (.tmp 169), none⟩, 8, 1, true⟩,
 ⟨⟨(some 171), .bin .rem (.tmp 168) (.tmp 170), none⟩, 28, 0, true⟩,
 ⟨⟨(some 172), .mov (.tmp 16), none⟩, 0, 0, true⟩,
 ⟨⟨(some 173), .fieldAddr 0 (.tmp 2), none⟩, 0, 0, true⟩,
 ⟨⟨(some 174), .load none (.tmp 173), none⟩, 128, 1, true⟩,
 ⟨⟨(some 175), .bin .quo (.tmp 172) (.tmp 174), none⟩, 448, 0, true⟩,
 ⟨⟨(some 176), .build [(.int .i64 0), (.int .i64 0)] [(0, 1, (.tmp 171)), (1, 1, (.tmp 175))], none⟩, 1020, 0, true⟩,
 ⟨⟨(some 177), .buildSlice 88 2 1 [(.int .i64 0), (.int .i64 0)] [(0, 2, (.tmp 176))], none⟩, 2044, 3, true⟩,
 ⟨⟨(some 178), .append 88 2 16 (.tmp 167) (.tmp 177), none⟩, 4095, 2, false⟩,
 ⟨⟨(some 179), .fieldAddr 4 (.tmp 15), none⟩, 8191, 0, true⟩,
 ⟨⟨none, .store 1 (.tmp 179) (.tmp 178), none⟩, 16383, 2, false⟩])
 (.region [⟨(some 180), .fieldAddr 2 (.tmp 14), none⟩,
 ⟨(some 181), .load none (.tmp 180), none⟩,
 ⟨(some 182), .mov (.tmp 16), none⟩,
 ⟨(some 183), .idxS 1 (.tmp 181) (.tmp 182), none⟩,
 ⟨none, .store 1 (.tmp 183) (.val (.int .u8 1)), none⟩]))
 (.skip))))
 (.region [⟨(some 150), .mov (.tmp 16), none⟩,
 ⟨(some 151), .bin .add (.tmp 150) (.val (.int .i64 1)), none⟩,
 ⟨(some 16), .mov (.tmp 151), none⟩]))))))
 (.seq (.region [⟨(some 184), .load (some 3) (.tmp 14), none⟩,
 ⟨(some 185), .call (.val (.func (.func 52) [] [])) [(.tmp 184)], none⟩,
 ⟨(some 186), .fieldAddr 0 (.tmp 15), none⟩,
 ⟨none, .store 4 (.tmp 186) (.tmp 185), none⟩])
 (.region [⟨(some 187), .mov (.tmp 12), none⟩,
 ⟨(some 188), .load (some 5) (.tmp 15), none⟩,
 ⟨(some 189), .buildSlice 85 5 1 [(.int .i64 0), (.int .i64 0), (.int .i64 0), (.int .i64 0), .nslice] [(0, 5, (.tmp 188))], none⟩,
 ⟨(some 190), .append 85 5 56 (.tmp 187) (.tmp 189), none⟩,
 ⟨(some 12), .mov (.tmp 190), none⟩])))))))
 (.region [⟨(some 123), .mov (.tmp 13), none⟩,
 ⟨(some 124), .bin .add (.tmp 123) (.val (.int .i64 1)), none⟩,
 ⟨(some 13), .mov (.tmp 124), none⟩]))))))
 (.seq (.region [⟨(some 191), .mov (.tmp 12), none⟩,
 ⟨(some 4), .mov (.tmp 191), none⟩])
 (.ret))))))))), [.tmp 4]⟩
def c63 : RFunc := ⟨32, .code (.seq (.region [⟨(some 6), .mov (.val (.bool false)), none⟩])
 (.seq (.seq (.region [⟨(some 10), .mov (.tmp 0), none⟩,
 ⟨(some 11), .lenS (.tmp 10), none⟩,
 ⟨(some 12), .mov (.tmp 1), none⟩,
 ⟨(some 13), .lenS (.tmp 12), none⟩,
 ⟨(some 14), .bin .neq (.tmp 11) (.tmp 13), none⟩])
 (.cond (.tmp 14) (.seq (.region [⟨(some 6), .mov (.val (.bool false)), none⟩])
 (.ret))
 (.skip)))
 (.seq (.seq (.region [⟨(some 15), .mov (.tmp 0), none⟩,
 ⟨(some 16), .lenS (.tmp 15), none⟩,
 ⟨(some 17), .mov (.val (.int .i64 0)), none⟩])
 (.block 0 (.loop (.seq (.region [⟨(some 18), .bin .lss (.tmp 17) (.tmp 16), none⟩])
 (.seq (.cond (.tmp 18) (.skip)
 (.exit 0))
 (.seq (.block 1 (.seq (.region [⟨(some 19), .mov (.tmp 17), none⟩,
 ⟨(some 20), .idxS 5 (.tmp 15) (.tmp 17), none⟩,
 ⟨(some 21), .load (some 5) (.tmp 20), none⟩,
 ⟨(some 8), .new 84 [(.int .i64 0), (.int .i64 0), (.int .i64 0), (.int .i64 0), .nslice], none⟩,
 ⟨(some 7), .mov (.tmp 19), none⟩,
 ⟨none, .store 5 (.tmp 8) (.tmp 21), none⟩])
 (.seq (.region [⟨(some 22), .mov (.tmp 1), none⟩,
 ⟨(some 23), .mov (.tmp 7), none⟩,
 ⟨(some 24), .idxS 5 (.tmp 22) (.tmp 23), none⟩,
 ⟨(some 25), .load (some 5) (.tmp 24), none⟩,
 ⟨(some 9), .new 85 [(.int .i64 0), (.int .i64 0), (.int .i64 0), (.int .i64 0), .nslice], none⟩,
 ⟨none, .store 5 (.tmp 9) (.tmp 25), none⟩])
 (.seq (.region [⟨(some 26), .mov (.tmp 2), none⟩,
 ⟨(some 27), .load (some 5) (.tmp 8), none⟩,
 ⟨(some 28), .load (some 5) (.tmp 9), none⟩,
 ⟨(some 29), .call (.tmp 26) [(.tmp 27), (.tmp 28)], none⟩,
 ⟨(some 30), .un .not (.tmp 29), none⟩])
 (.cond (.tmp 30) (.seq (.region [⟨(some 6), .mov (.val (.bool false)), none⟩])
 (.ret))
 (.skip))))))
 (.region [⟨(some 31), .bin .add (.tmp 17) (.val (.int .i64 1)), none⟩,
 ⟨(some 17), .mov (.tmp 31), none⟩])))))))
 (.seq (.region [⟨(some 6), .mov (.val (.bool true)), none⟩])
 (.ret))))), [.tmp 6]⟩
def c64 : RFunc := ⟨17, .code (.seq (.region [⟨(some 2), .box 84 (.tmp 0), none⟩,
 ⟨(some 3), .box 85 (.tmp 1), none⟩,
 ⟨(some 4), .mov (.val (.bool false)), none⟩])
 (.seq (.region [⟨(some 5), .fieldAddr 0 (.tmp 2), none⟩,
 ⟨(some 6), .load (some 4) (.tmp 5), none⟩,
 ⟨(some 7), .fieldAddr 0 (.tmp 3), none⟩,
 ⟨(some 8), .load (some 4) (.tmp 7), none⟩,
 ⟨(some 9), .eq false (.fields [some (0, 0, .int), some (1, 0, .int), some (2, 0, .int), some (3, 0, .int)]) (.tmp 6) (.tmp 8), none⟩,
 ⟨(some 10), .mov (.tmp 9), none⟩,
 ⟨(some 11), .fieldAddr 4 (.tmp 2), some (10, true)⟩,
 ⟨(some 12), .load none (.tmp 11), some (10, true)⟩,
 ⟨(some 13), .fieldAddr 4 (.tmp 3), some (10, true)⟩,
 ⟨(some 14), .load none (.tmp 13), some (10, true)⟩,
 ⟨(some 15), .call (.val (.func (.func 65) [] [])) [(.tmp 12), (.tmp 14)], some (10, true)⟩,
 ⟨(some 16), .pick (.tmp 10) (.tmp 15) (.val (.bool false)), none⟩,
 ⟨(some 4), .mov (.tmp 16), none⟩])
 (.ret))), [.tmp 4]⟩
def c65 : RFunc := ⟨26, .code (.seq (.region [⟨(some 4), .mov (.val (.bool false)), none⟩])
 (.seq (.seq (.region [⟨(some 6), .mov (.tmp 0), none⟩,
 ⟨(some 7), .lenS (.tmp 6), none⟩,
 ⟨(some 8), .mov (.tmp 1), none⟩,
 ⟨(some 9), .lenS (.tmp 8), none⟩,
 ⟨(some 10), .bin .neq (.tmp 7) (.tmp 9), none⟩])
 (.cond (.tmp 10) (.seq (.region [⟨(some 4), .mov (.val (.bool false)), none⟩])
 (.ret))
 (.skip)))
 (.seq (.seq (.region [⟨(some 11), .mov (.tmp 0), none⟩,
 ⟨(some 12), .lenS (.tmp 11), none⟩,
 ⟨(some 13), .mov (.val (.int .i64 0)), none⟩])
 (.block 0 (.loop (.seq (.region [⟨(some 14), .bin .lss (.tmp 13) (.tmp 12), none⟩])
 (.seq (.cond (.tmp 14) (.skip)
 (.exit 0))
 (.seq (.block 1 (.seq (.region [⟨(some 15), .mov (.tmp 13), none⟩,
 ⟨(some 5), .mov (.tmp 15), none⟩])
 (.seq (.dregion [⟨⟨(some 16), .mov (.tmp 0), none⟩, 0, 0, true⟩,
 ⟨⟨(some 17), .mov (.tmp 5), none⟩, 0, 0, true⟩,
 ⟨⟨(some 18), .idxS 2 (.tmp 16) (.tmp 17), none⟩, 3, 0, true⟩,
 ⟨⟨(some 19), .load (some 2) (.tmp 18), none⟩, 7, 1, true⟩,
 ⟨⟨(some 20), .mov (.tmp 1), none⟩, 0, 0, true⟩,
 ⟨⟨(some 21), .mov (.tmp 5), none⟩, 0, 0, true⟩,
 ⟨⟨(some 22), .idxS 2 (.tmp 20) (.tmp 21), none⟩, 48, 0, true⟩,
 ⟨⟨(some 23), .load (some 2) (.tmp 22), none⟩, 112, 1, true⟩,
 ⟨⟨(some 24), .eq true (.fields [some (0, 0, .int), some (1, 0, .int)]) (.tmp 19) (.tmp 23), none⟩, 255, 0, true⟩])
 (.cond (.tmp 24) (.seq (.region [⟨(some 4), .mov (.val (.bool false)), none⟩])
 (.ret))
 (.skip)))))
 (.region [⟨(some 25), .bin .add (.tmp 13) (.val (.int .i64 1)), none⟩,
 ⟨(some 13), .mov (.tmp 25), none⟩])))))))
 (.seq (.region [⟨(some 4), .mov (.val (.bool true)), none⟩])
 (.ret))))), [.tmp 4]⟩
def c66 : RFunc := ⟨63, .code (.seq (.region [⟨(some 2), .box 24 (.tmp 0), none⟩,
 ⟨(some 4), .new 24 [(.int .i64 0), (.int .i64 0), .nslice], none⟩])
 (.seq (.region [⟨(some 9), .fieldAddr 0 (.tmp 2), none⟩,
 ⟨(some 10), .load none (.tmp 9), none⟩,
 ⟨(some 11), .fieldAddr 1 (.tmp 2), none⟩,
 ⟨(some 12), .load none (.tmp 11), none⟩,
 ⟨(some 13), .call (.val (.func (.func 104) [] [])) [(.tmp 10), (.tmp 12)], none⟩,
 ⟨(some 5), .new 24 [(.int .i64 0), (.int .i64 0), .nslice], none⟩,
 ⟨none, .store 3 (.tmp 5) (.tmp 13), none⟩])
 (.seq (.region [⟨(some 14), .load (some 3) (.tmp 2), none⟩,
 ⟨(some 15), .call (.val (.func (.func 62) [] [])) [(.tmp 14), (.val (.bool true))], none⟩,
 ⟨(some 6), .mov (.tmp 15), none⟩])
 (.seq (.seq (.region [⟨(some 7), .mov (.val (.int .i64 0)), none⟩])
 (.block 0 (.loop (.seq (.seq (.region [⟨(some 16), .mov (.tmp 7), none⟩,
 ⟨(some 17), .mov (.tmp 6), none⟩,
 ⟨(some 18), .lenS (.tmp 17), none⟩,
 ⟨(some 19), .bin .lss (.tmp 16) (.tmp 18), none⟩])
 (.cond (.tmp 19) (.skip)
 (.exit 0)))
 (.seq (.block 1 (.seq (.region [⟨(some 8), .mov (.val (.int .i64 0)), none⟩])
 (.block 2 (.loop (.seq (.seq (.region [⟨(some 22), .mov (.tmp 8), none⟩,
 ⟨(some 23), .mov (.tmp 6), none⟩,
 ⟨(some 24), .mov (.tmp 7), none⟩,
 ⟨(some 25), .idxS 5 (.tmp 23) (.tmp 24), none⟩,
 ⟨(some 26), .fieldAddr 4 (.tmp 25), none⟩,
 ⟨(some 27), .load none (.tmp 26), none⟩,
 ⟨(some 28), .lenS (.tmp 27), none⟩,
 ⟨(some 29), .bin .lss (.tmp 22) (.tmp 28), none⟩,
 ⟨(some 30), .mov (.tmp 29), none⟩,
 ⟨(some 31), .mov (.tmp 6), some (30, true)⟩,
 ⟨(some 32), .mov (.tmp 7), some (30, true)⟩,
 ⟨(some 33), .idxS 5 (.tmp 31) (.tmp 32), some (30, true)⟩,
 ⟨(some 34), .fieldAddr 4 (.tmp 33), some (30, true)⟩,
 ⟨(some 35), .load none (.tmp 34), some (30, true)⟩,
 ⟨(some 36), .lenS (.tmp 35), some (30, true)⟩,
 ⟨(some 37), .mov (.tmp 1), some (30, true)⟩,
 ⟨(some 38), .bin .geq (.tmp 36) (.tmp 37), some (30, true)⟩,
 ⟨(some 39), .pick (.tmp 30) (.tmp 38) (.val (.bool false)), none⟩])
 (.cond (.tmp 39) (.skip)
 (.exit 2)))
 (.seq (.block 3 (.dregion [⟨⟨(some 42), .load (some 3) (.tmp 5), none⟩, 0, 1, true⟩,
 ⟨⟨(some 43), .mov (.tmp 6), none⟩, 0, 0, true⟩,
 ⟨⟨(some 44), .mov (.tmp 7), none⟩, 0, 0, true⟩,
 ⟨⟨(some 45), .idxS 5 (.tmp 43) (.tmp 44), none⟩, 6, 0, true⟩,
 ⟨⟨(some 46), .fieldAddr 4 (.tmp 45), none⟩, 14, 0, true⟩,
 ⟨⟨(some 47), .load none (.tmp 46), none⟩, 30, 1, true⟩,
 ⟨⟨(some 48), .mov (.tmp 8), none⟩, 0, 0, true⟩,
 ⟨⟨(some 49), .idxS 2 (.tmp 47) (.tmp 48), none⟩, 126, 0, true⟩,
 ⟨⟨(some 50), .fieldAddr 0 (.tmp 49), none⟩, 254, 0, true⟩,
 ⟨⟨(some 51), .load none (.tmp 50), none⟩, 510, 1, true⟩,
 ⟨⟨(some 52), .mov (.tmp 6), none⟩, 0, 0, true⟩,
 ⟨⟨(some 53), .mov (.tmp 7), none⟩, 0, 0, true⟩,
 ⟨⟨(some 54), .idxS 5 (.tmp 52) (.tmp 53), none⟩, 3072, 0, true⟩,
 ⟨⟨(some 55), .fieldAddr 4 (.tmp 54), none⟩, 7168, 0, true⟩,
 ⟨⟨(some 56), .load none (.tmp 55), none⟩, 15360, 1, true⟩,
 ⟨⟨(some 57), .mov (.tmp 8), none⟩, 0, 0, true⟩,
 ⟨⟨(some 58), .idxS 2 (.tmp 56) (.tmp 57), none⟩, 64512, 0, true⟩,
 ⟨⟨(some 59), .fieldAddr 1 (.tmp 58), none⟩, 130048, 0, true⟩,
 ⟨⟨(some 60), .load none (.tmp 59), none⟩, 261120, 1, true⟩,
 ⟨⟨(some 61), .call (.val (.func (.func 105) [] [])) [(.tmp 42), (.tmp 51), (.tmp 60)], none⟩, 524287, 2, false⟩]))
 (.region [⟨(some 40), .mov (.tmp 8), none⟩,
 ⟨(some 41), .bin .add (.tmp 40) (.val (.int .i64 1)), none⟩,
 ⟨(some 8), .mov (.tmp 41), none⟩])))))))
 (.region [⟨(some 20), .mov (.tmp 7), none⟩,
 ⟨(some 21), .bin .add (.tmp 20) (.val (.int .i64 1)), none⟩,
 ⟨(some 7), .mov (.tmp 21), none⟩]))))))
 (.seq (.region [⟨(some 62), .load (some 3) (.tmp 5), none⟩,
 ⟨none, .store 3 (.tmp 4) (.tmp 62), none⟩])
 (.ret)))))), [.cell 4 (some 3)]⟩
def c70 : RFunc := ⟨66, .code (.seq (.region [⟨(some 1), .box 24 (.tmp 0), none⟩,
 ⟨(some 2), .new 24 [(.int .i64 0), (.int .i64 0), .nslice], none⟩,
 ⟨(some 3), .mov (.val (.int .i64 0)), none⟩])
 (.scope (.seq (.seq (.region [⟨(some 9), .load (some 3) (.tmp 1), none⟩,
 ⟨(some 10), .call (.val (.func (.func 27) [] [])) [(.tmp 9)], none⟩,
 ⟨(some 4), .mov (.tmp 10), none⟩])
 (.seq (.region [⟨(some 11), .mov (.tmp 4), none⟩,
 ⟨(some 12), .bin .neq (.tmp 11) (.val (.int .i64 0)), none⟩])
 (.cond (.tmp 12) (.seq (.region [⟨(some 13), .build [(.int .i64 0), (.int .i64 0), .nslice] [], none⟩,
 ⟨(some 14), .mov (.tmp 4), none⟩,
 ⟨none, .store 3 (.tmp 2) (.tmp 13), none⟩,
 ⟨(some 3), .mov (.tmp 14), none⟩])
 (.ret))
 (.skip))))
 (.seq (.region [⟨(some 15), .load (some 3) (.tmp 1), none⟩,
 ⟨(some 16), .call (.val (.func (.func 98) [] [])) [(.tmp 15)], none⟩,
 ⟨(some 5), .new 24 [(.int .i64 0), (.int .i64 0), .nslice], none⟩,
 ⟨none, .store 3 (.tmp 5) (.tmp 16), none⟩])
 (.seq (.region [⟨(some 17), .fieldAddr 2 (.tmp 1), none⟩,
 ⟨(some 18), .load none (.tmp 17), none⟩,
 ⟨(some 19), .call (.val (.func (.func 127) [] [])) [(.tmp 18)], none⟩,
 ⟨(some 6), .mov (.tmp 19), none⟩])
 (.seq (.label)
 (.seq (.block 0 (.loop (.block 1 (.seq (.region [⟨(some 7), .mov (.val (.int .i64 0)), none⟩])
 (.block 2 (.loop (.seq (.block 3 (.seq (.region [⟨(some 22), .mov (.tmp 6), none⟩,
 ⟨(some 23), .mov (.tmp 7), none⟩,
 ⟨(some 24), .sliceS 1 (.tmp 22) (some (.tmp 23)) none none, none⟩,
 ⟨(some 25), .call (.val (.func (.func 128) [] [])) [(.tmp 24), (.val (.int .u8 1))], none⟩,
 ⟨(some 8), .mov (.tmp 25), none⟩])
 (.seq (.seq (.region [⟨(some 26), .mov (.tmp 8), none⟩,
 ⟨(some 27), .bin .lss (.tmp 26) (.val (.int .i64 0)), none⟩,
 ⟨(some 28), .mov (.tmp 27), none⟩,
 ⟨(some 29), .mov (.tmp 7), some (28, true)⟩,
 ⟨(some 30), .bin .eql (.tmp 29) (.val (.int .i64 0)), some (28, true)⟩,
 ⟨(some 31), .pick (.tmp 28) (.tmp 30) (.val (.bool false)), none⟩])
 (.cond (.tmp 31) (.exit 0)
 (.skip)))
 (.seq (.seq (.region [⟨(some 32), .mov (.tmp 8), none⟩,
 ⟨(some 33), .bin .lss (.tmp 32) (.val (.int .i64 0)), none⟩])
 (.cond (.tmp 33) (.exit 1)
 (.skip)))
 (.seq (.region [⟨(some 34), .mov (.tmp 7), none⟩,
 ⟨(some 35), .mov (.tmp 8), none⟩,
 ⟨(some 36), .bin .add (.tmp 34) (.tmp 35), none⟩,
 ⟨(some 7), .mov (.tmp 36), none⟩])
 (.seq (.region [⟨(some 37), .mov (.tmp 6), none⟩,
 ⟨(some 38), .mov (.tmp 7), none⟩,
 ⟨(some 39), .idxS 1 (.tmp 37) (.tmp 38), none⟩,
 ⟨none, .store 1 (.tmp 39) (.val (.int .u8 0)), none⟩])
 (.seq (.dregion [⟨⟨(some 40), .load (some 3) (.tmp 5), none⟩, 0, 1, true⟩,
 ⟨⟨(some 41), .mov (.tmp 7), none⟩, 0, 0, true⟩,
 ⟨⟨(some 42), .fieldAddr 0 (.tmp 1), none⟩, 0, 0, true⟩,
 ⟨⟨(some 43), .load none (.tmp 42), none⟩, 4, 1, true⟩,
 ⟨⟨(some 44), .bin .rem (.tmp 41) (.tmp 43), none⟩, 14, 0, true⟩,
 ⟨⟨(some 45), .mov (.tmp 7), none⟩, 0, 0, true⟩,
 ⟨⟨(some 46), .fieldAddr 0 (.tmp 1), none⟩, 0, 0, true⟩,
 ⟨⟨(some 47), .load none (.tmp 46), none⟩, 64, 1, true⟩,
 ⟨⟨(some 48), .bin .quo (.tmp 45) (.tmp 47), none⟩, 224, 0, true⟩,
 ⟨⟨(some 49), .call (.val (.func (.func 129) [] [])) [(.tmp 40), (.tmp 44), (.tmp 48)], none⟩, 511, 2, false⟩])
 (.cond (.tmp 49) (.seq (.region [⟨(some 50), .fieldAddr 2 (.tmp 5), none⟩,
 ⟨(some 51), .load none (.tmp 50), none⟩,
 ⟨(some 52), .mov (.tmp 7), none⟩,
 ⟨(some 53), .idxS 1 (.tmp 51) (.tmp 52), none⟩,
 ⟨none, .store 1 (.tmp 53) (.val (.int .u8 0)), none⟩])
 (.dregion [⟨⟨(some 54), .load (some 3) (.tmp 5), none⟩, 0, 1, true⟩,
 ⟨⟨(some 55), .mov (.tmp 6), none⟩, 0, 0, true⟩,
 ⟨⟨(some 56), .mov (.tmp 7), none⟩, 0, 0, true⟩,
 ⟨⟨(some 57), .fieldAddr 0 (.tmp 1), none⟩, 0, 0, true⟩,
 ⟨⟨(some 58), .load none (.tmp 57), none⟩, 8, 1, true⟩,
 ⟨⟨(some 59), .bin .rem (.tmp 56) (.tmp 58), none⟩, 28, 0, true⟩,
 ⟨⟨(some 60), .mov (.tmp 7), none⟩, 0, 0, true⟩,
 ⟨⟨(some 61), .fieldAddr 0 (.tmp 1), none⟩, 0, 0, true⟩,
 ⟨⟨(some 62), .load none (.tmp 61), none⟩, 128, 1, true⟩,
 ⟨⟨(some 63), .bin .quo (.tmp 60) (.tmp 62), none⟩, 448, 0, true⟩,
 ⟨⟨(some 64), .call (.val (.func (.func 130) [] [])) [(.tmp 54), (.tmp 55), (.tmp 59), (.tmp 63)], none⟩, 1023, 2, false⟩]))
 (.skip)))))))))
 (.region [⟨(some 20), .mov (.tmp 7), none⟩,
 ⟨(some 21), .bin .add (.tmp 20) (.val (.int .i64 1)), none⟩,
 ⟨(some 7), .mov (.tmp 21), none⟩]))))))))
 (.seq (.region [⟨(some 65), .load (some 3) (.tmp 5), none⟩,
 ⟨none, .store 3 (.tmp 2) (.tmp 65), none⟩,
 ⟨(some 3), .mov (.val (.int .i64 0)), none⟩])
 (.ret))))))))), [.cell 2 (some 3), .tmp 3]⟩
def c72 : RFunc := ⟨44, .code (.seq (.region [⟨(some 1), .box 24 (.tmp 0), none⟩,
 ⟨(some 2), .mov (.val (.str ⟨#[]⟩)), none⟩,
 ⟨(some 3), .mov (.val (.int .i64 0)), none⟩])
 (.seq (.seq (.region [⟨(some 9), .load (some 3) (.tmp 1), none⟩,
 ⟨(some 10), .call (.val (.func (.func 27) [] [])) [(.tmp 9)], none⟩,
 ⟨(some 4), .mov (.tmp 10), none⟩])
 (.seq (.region [⟨(some 11), .mov (.tmp 4), none⟩,
 ⟨(some 12), .bin .neq (.tmp 11) (.val (.int .i64 0)), none⟩])
 (.cond (.tmp 12) (.seq (.region [⟨(some 13), .mov (.tmp 4), none⟩,
 ⟨(some 2), .mov (.val (.str ⟨#[]⟩)), none⟩,
 ⟨(some 3), .mov (.tmp 13), none⟩])
 (.ret))
 (.skip))))
 (.seq (.region [⟨(some 5), .new 153 [.nptr, .nslice], none⟩])
 (.seq (.dregion [⟨⟨(some 14), .fieldAddr 0 (.tmp 1), none⟩, 0, 0, true⟩,
 ⟨⟨(some 15), .load none (.tmp 14), none⟩, 1, 1, true⟩,
 ⟨⟨(some 16), .call (.val (.func (.func 133) [] [])) [(.tmp 15)], none⟩, 3, 2, false⟩,
 ⟨⟨(some 17), .bin .add (.tmp 16) (.val (.str ⟨#[32]⟩)), none⟩, 7, 0, false⟩,
 ⟨⟨(some 18), .fieldAddr 1 (.tmp 1), none⟩, 0, 0, true⟩,
 ⟨⟨(some 19), .load none (.tmp 18), none⟩, 16, 1, true⟩,
 ⟨⟨(some 20), .call (.val (.func (.func 133) [] [])) [(.tmp 19)], none⟩, 55, 2, false⟩,
 ⟨⟨(some 21), .bin .add (.tmp 17) (.tmp 20), none⟩, 127, 0, false⟩,
 ⟨⟨(some 22), .bin .add (.tmp 21) (.val (.str ⟨#[10]⟩)), none⟩, 255, 0, false⟩,
 ⟨⟨(some 23), .call (.val (.func (.func 132) [] [])) [(.tmp 5), (.tmp 22)], none⟩, 511, 2, false⟩])
 (.seq (.seq (.region [⟨(some 24), .fieldAddr 1 (.tmp 1), none⟩,
 ⟨(some 25), .load none (.tmp 24), none⟩,
 ⟨(some 26), .mov (.val (.int .i64 0)), none⟩])
 (.block 0 (.loop (.seq (.region [⟨(some 27), .bin .lss (.tmp 26) (.tmp 25), none⟩])
 (.seq (.cond (.tmp 27) (.skip)
 (.exit 0))
 (.seq (.block 1 (.seq (.region [⟨(some 28), .mov (.tmp 26), none⟩,
 ⟨(some 6), .mov (.tmp 28), none⟩])
 (.seq (.seq (.region [⟨(some 29), .load (some 3) (.tmp 1), none⟩,
 ⟨(some 30), .mov (.tmp 6), none⟩,
 ⟨(some 31), .call (.val (.func (.func 118) [] [])) [(.tmp 29), (.tmp 30)], none⟩,
 ⟨(some 32), .lenS (.tmp 31), none⟩,
 ⟨(some 33), .mov (.val (.int .i64 0)), none⟩])
 (.block 2 (.loop (.seq (.region [⟨(some 34), .bin .lss (.tmp 33) (.tmp 32), none⟩])
 (.seq (.cond (.tmp 34) (.skip)
 (.exit 2))
 (.seq (.block 3 (.seq (.region [⟨(some 35), .idxS 1 (.tmp 31) (.tmp 33), none⟩,
 ⟨(some 36), .load none (.tmp 35), none⟩,
 ⟨(some 8), .mov (.tmp 36), none⟩])
 (.region [⟨(some 37), .mov (.tmp 8), none⟩,
 ⟨(some 38), .indexStr (.val (.str ⟨#[46, 35]⟩)) (.tmp 37), none⟩,
 ⟨(some 39), .call (.val (.func (.func 134) [] [])) [(.tmp 5), (.tmp 38)], none⟩])))
 (.region [⟨(some 40), .bin .add (.tmp 33) (.val (.int .i64 1)), none⟩,
 ⟨(some 33), .mov (.tmp 40), none⟩])))))))
 (.region [⟨(some 41), .call (.val (.func (.func 134) [] [])) [(.tmp 5), (.val (.int .u8 10))], none⟩]))))
 (.region [⟨(some 42), .bin .add (.tmp 26) (.val (.int .i64 1)), none⟩,
 ⟨(some 26), .mov (.tmp 42), none⟩])))))))
 (.seq (.region [⟨(some 43), .call (.val (.func (.func 135) [] [])) [(.tmp 5)], none⟩,
 ⟨(some 2), .mov (.tmp 43), none⟩,
 ⟨(some 3), .mov (.val (.int .i64 0)), none⟩])
 (.ret))))))), [.tmp 2, .tmp 3]⟩
def c77 : RFunc := ⟨35, .code (.seq (.region [⟨(some 2), .box 24 (.tmp 0), none⟩,
 ⟨(some 4), .new 24 [(.int .i64 0), (.int .i64 0), .nslice], none⟩,
 ⟨(some 5), .mov (.val (.int .i64 0)), none⟩])
 (.seq (.seq (.region [⟨(some 8), .load (some 3) (.tmp 2), none⟩,
 ⟨(some 9), .call (.val (.func (.func 27) [] [])) [(.tmp 8)], none⟩,
 ⟨(some 6), .mov (.tmp 9), none⟩])
 (.seq (.region [⟨(some 10), .mov (.tmp 6), none⟩,
 ⟨(some 11), .bin .neq (.tmp 10) (.val (.int .i64 0)), none⟩])
 (.cond (.tmp 11) (.seq (.region [⟨(some 12), .build [(.int .i64 0), (.int .i64 0), .nslice] [], none⟩,
 ⟨(some 13), .mov (.tmp 6), none⟩,
 ⟨none, .store 3 (.tmp 4) (.tmp 12), none⟩,
 ⟨(some 5), .mov (.tmp 13), none⟩])
 (.ret))
 (.skip))))
 (.seq (.seq (.region [⟨(some 14), .mov (.tmp 1), none⟩,
 ⟨(some 15), .bin .lss (.tmp 14) (.val (.int .i64 0)), none⟩,
 ⟨(some 16), .mov (.tmp 15), none⟩,
 ⟨(some 17), .mov (.tmp 1), some (16, false)⟩,
 ⟨(some 18), .bin .gtr (.tmp 17) (.val (.int .i64 7)), some (16, false)⟩,
 ⟨(some 19), .pick (.tmp 16) (.val (.bool true)) (.tmp 18), none⟩])
 (.cond (.tmp 19) (.seq (.region [⟨(some 20), .build [(.int .i64 0), (.int .i64 0), .nslice] [], none⟩,
 ⟨none, .store 3 (.tmp 4) (.tmp 20), none⟩,
 ⟨(some 5), .mov (.val (.int .i64 1)), none⟩])
 (.ret))
 (.skip)))
 (.seq (.region [⟨(some 21), .load (some 3) (.tmp 2), none⟩,
 ⟨(some 22), .call (.val (.func (.func 98) [] [])) [(.tmp 21)], none⟩,
 ⟨(some 7), .new 24 [(.int .i64 0), (.int .i64 0), .nslice], none⟩,
 ⟨none, .store 3 (.tmp 7) (.tmp 22), none⟩])
 (.seq (.seq (.region [⟨(some 23), .mov (.tmp 1), none⟩,
 ⟨(some 24), .bin .geq (.tmp 23) (.val (.int .i64 4)), none⟩])
 (.cond (.tmp 24) (.region [⟨(some 25), .load (some 3) (.tmp 7), none⟩,
 ⟨(some 26), .call (.val (.func (.func 142) [] [])) [(.tmp 25)], none⟩])
 (.skip)))
 (.seq (.seq (.region [⟨(some 27), .mov (.tmp 1), none⟩,
 ⟨(some 28), .bin .rem (.tmp 27) (.val (.int .i64 4)), none⟩,
 ⟨(some 29), .mov (.val (.int .i64 0)), none⟩])
 (.block 0 (.loop (.seq (.region [⟨(some 30), .bin .lss (.tmp 29) (.tmp 28), none⟩])
 (.seq (.cond (.tmp 30) (.skip)
 (.exit 0))
 (.seq (.block 1 (.region [⟨(some 31), .load (some 3) (.tmp 7), none⟩,
 ⟨(some 32), .call (.val (.func (.func 143) [] [])) [(.tmp 31)], none⟩,
 ⟨none, .store 3 (.tmp 7) (.tmp 32), none⟩]))
 (.region [⟨(some 33), .bin .add (.tmp 29) (.val (.int .i64 1)), none⟩,
 ⟨(some 29), .mov (.tmp 33), none⟩])))))))
 (.seq (.region [⟨(some 34), .load (some 3) (.tmp 7), none⟩,
 ⟨none, .store 3 (.tmp 4) (.tmp 34), none⟩,
 ⟨(some 5), .mov (.val (.int .i64 0)), none⟩])
 (.ret)))))))), [.cell 4 (some 3), .tmp 5]⟩
def c94 : RFunc := ⟨3, .code (.seq (.region [⟨(some 0), .new 24 [(.int .i64 0), (.int .i64 0), .nslice], none⟩])
 (.seq (.region [⟨(some 1), .buildSlice 5 1 6 [(.int .u8 0), (.int .u8 0), (.int .u8 0), (.int .u8 0), (.int .u8 0), (.int .u8 0)] [(0, 1, (.val (.int .u8 1))), (1, 1, (.val (.int .u8 0))), (2, 1, (.val (.int .u8 1))), (3, 1, (.val (.int .u8 0))), (4, 1, (.val (.int .u8 1))), (5, 1, (.val (.int .u8 0)))], none⟩,
 ⟨(some 2), .build [(.int .i64 0), (.int .i64 0), .nslice] [(0, 1, (.val (.int .i64 3))), (1, 1, (.val (.int .i64 2))), (2, 1, (.tmp 1))], none⟩,
 ⟨none, .store 3 (.tmp 0) (.tmp 2), none⟩])
 (.ret))), [.cell 0 (some 3)]⟩
def c95 : RFunc := ⟨7, .code (.seq (.region [⟨(some 2), .mov (.val .nslice), none⟩])
 (.seq (.region [⟨(some 3), .mov (.val .nslice), none⟩])
 (.seq (.region [⟨(some 4), .mov (.tmp 3), none⟩,
 ⟨(some 5), .mov (.tmp 0), none⟩,
 ⟨(some 6), .append 5 1 1 (.tmp 4) (.tmp 5), none⟩,
 ⟨(some 2), .mov (.tmp 6), none⟩])
 (.ret)))), [.tmp 2]⟩
def c96 : RFunc := ⟨19, .code (.seq (.region [⟨(some 4), .mov (.val (.bool false)), none⟩])
 (.seq (.region [⟨(some 5), .mov (.tmp 0), none⟩,
 ⟨(some 6), .bin .geq (.tmp 5) (.val (.int .i64 0)), none⟩,
 ⟨(some 7), .mov (.tmp 6), none⟩,
 ⟨(some 8), .mov (.tmp 0), some (7, true)⟩,
 ⟨(some 9), .bin .leq (.tmp 8) (.val (.int .i64 640)), some (7, true)⟩,
 ⟨(some 10), .pick (.tmp 7) (.tmp 9) (.val (.bool false)), none⟩,
 ⟨(some 11), .mov (.tmp 10), none⟩,
 ⟨(some 12), .mov (.tmp 1), some (11, true)⟩,
 ⟨(some 13), .bin .geq (.tmp 12) (.val (.int .i64 0)), some (11, true)⟩,
 ⟨(some 14), .pick (.tmp 11) (.tmp 13) (.val (.bool false)), none⟩,
 ⟨(some 15), .mov (.tmp 14), none⟩,
 ⟨(some 16), .mov (.tmp 1), some (15, true)⟩,
 ⟨(some 17), .bin .leq (.tmp 16) (.val (.int .i64 640)), some (15, true)⟩,
 ⟨(some 18), .pick (.tmp 15) (.tmp 17) (.val (.bool false)), none⟩,
 ⟨(some 4), .mov (.tmp 18), none⟩])
 (.ret))), [.tmp 4]⟩
def c97 : RFunc := ⟨7, .code (.seq (.region [⟨(some 1), .box 24 (.tmp 0), none⟩,
 ⟨(some 2), .mov (.val (.int .i64 0)), none⟩])
 (.seq (.region [⟨(some 3), .fieldAddr 2 (.tmp 1), none⟩,
 ⟨(some 4), .load none (.tmp 3), none⟩,
 ⟨(some 5), .buildSlice 5 1 1 [(.int .u8 0)] [(0, 1, (.val (.int .u8 1)))], none⟩,
 ⟨(some 6), .call (.val (.func (.func 107) [] [])) [(.tmp 4), (.tmp 5)], none⟩,
 ⟨(some 2), .mov (.tmp 6), none⟩])
 (.ret))), [.tmp 2]⟩
def c98 : RFunc := ⟨11, .code (.seq (.region [⟨(some 1), .box 24 (.tmp 0), none⟩,
 ⟨(some 2), .new 24 [(.int .i64 0), (.int .i64 0), .nslice], none⟩])
 (.seq (.dregion [⟨⟨(some 3), .fieldAddr 0 (.tmp 1), none⟩, 0, 0, true⟩,
 ⟨⟨(some 4), .load none (.tmp 3), none⟩, 1, 1, true⟩,
 ⟨⟨(some 5), .fieldAddr 1 (.tmp 1), none⟩, 0, 0, true⟩,
 ⟨⟨(some 6), .load none (.tmp 5), none⟩, 4, 1, true⟩,
 ⟨⟨(some 7), .fieldAddr 2 (.tmp 1), none⟩, 0, 0, true⟩,
 ⟨⟨(some 8), .load none (.tmp 7), none⟩, 16, 1, true⟩,
 ⟨⟨(some 9), .call (.val (.func (.func 127) [] [])) [(.tmp 8)], none⟩, 48, 2, false⟩,
 ⟨⟨(some 10), .build [(.int .i64 0), (.int .i64 0), .nslice] [(0, 1, (.tmp 4)), (1, 1, (.tmp 6)), (2, 1, (.tmp 9))], none⟩, 127, 0, false⟩,
 ⟨⟨none, .store 3 (.tmp 2) (.tmp 10), none⟩, 255, 2, false⟩])
 (.ret))), [.cell 2 (some 3)]⟩
def c101 : RFunc := ⟨8, .code (.seq (.region [⟨(some 4), .mov (.val (.int .u8 0)), none⟩])
 (.seq (.region [⟨(some 5), .mov (.tmp 0), none⟩,
 ⟨(some 6), .mov (.tmp 1), none⟩,
 ⟨(some 7), .bin .xor (.tmp 5) (.tmp 6), none⟩,
 ⟨(some 4), .mov (.tmp 7), none⟩])
 (.ret))), [.tmp 4]⟩
def c102 : RFunc := ⟨9, .code (.seq (.region [⟨(some 2), .mov (.val (.bool false)), none⟩])
 (.seq (.region [⟨(some 3), .mov (.tmp 0), none⟩,
 ⟨(some 4), .bin .geq (.tmp 3) (.val (.int .i64 0)), none⟩,
 ⟨(some 5), .mov (.tmp 4), none⟩,
 ⟨(some 6), .mov (.tmp 0), some (5, true)⟩,
 ⟨(some 7), .bin .leq (.tmp 6) (.val (.int .i64 640)), some (5, true)⟩,
 ⟨(some 8), .pick (.tmp 5) (.tmp 7) (.val (.bool false)), none⟩,
 ⟨(some 2), .mov (.tmp 8), none⟩])
 (.ret))), [.tmp 2]⟩
def c103 : RFunc := ⟨12, .code (.seq (.region [⟨(some 4), .new 24 [(.int .i64 0), (.int .i64 0), .nslice], none⟩])
 (.seq (.region [⟨(some 5), .mov (.tmp 0), none⟩,
 ⟨(some 6), .mov (.tmp 1), none⟩,
 ⟨(some 7), .mov (.tmp 0), none⟩,
 ⟨(some 8), .mov (.tmp 1), none⟩,
 ⟨(some 9), .bin .mul (.tmp 7) (.tmp 8), none⟩,
 ⟨(some 10), .makeSlice 5 [(.int .u8 0)] 1 (.tmp 9) (.tmp 9), none⟩,
 ⟨(some 11), .build [(.int .i64 0), (.int .i64 0), .nslice] [(0, 1, (.tmp 5)), (1, 1, (.tmp 6)), (2, 1, (.tmp 10))], none⟩,
 ⟨none, .store 3 (.tmp 4) (.tmp 11), none⟩])
 (.ret))), [.cell 4 (some 3)]⟩
def c104 : RFunc := ⟨12, .code (.seq (.region [⟨(some 4), .new 24 [(.int .i64 0), (.int .i64 0), .nslice], none⟩])
 (.seq (.region [⟨(some 5), .mov (.tmp 0), none⟩,
 ⟨(some 6), .mov (.tmp 1), none⟩,
 ⟨(some 7), .mov (.tmp 0), none⟩,
 ⟨(some 8), .mov (.tmp 1), none⟩,
 ⟨(some 9), .bin .mul (.tmp 7) (.tmp 8), none⟩,
 ⟨(some 10), .makeSlice 5 [(.int .u8 0)] 1 (.tmp 9) (.tmp 9), none⟩,
 ⟨(some 11), .build [(.int .i64 0), (.int .i64 0), .nslice] [(0, 1, (.tmp 5)), (1, 1, (.tmp 6)), (2, 1, (.tmp 10))], none⟩,
 ⟨none, .store 3 (.tmp 4) (.tmp 11), none⟩])
 (.ret))), [.cell 4 (some 3)]⟩
def c105 : RFunc := ⟨15, .code (.seq (.region [⟨(some 3), .box 24 (.tmp 0), none⟩])
 (.region [⟨(some 6), .fieldAddr 2 (.tmp 3), none⟩,
 ⟨(some 7), .load none (.tmp 6), none⟩,
 ⟨(some 8), .mov (.tmp 2), none⟩,
 ⟨(some 9), .fieldAddr 0 (.tmp 3), none⟩,
 ⟨(some 10), .load none (.tmp 9), none⟩,
 ⟨(some 11), .bin .mul (.tmp 8) (.tmp 10), none⟩,
 ⟨(some 12), .mov (.tmp 1), none⟩,
 ⟨(some 13), .bin .add (.tmp 11) (.tmp 12), none⟩,
 ⟨(some 14), .idxS 1 (.tmp 7) (.tmp 13), none⟩,
 ⟨none, .store 1 (.tmp 14) (.val (.int .u8 1)), none⟩])), []⟩
def c106 : RFunc := ⟨20, .code (.seq (.region [⟨(some 6), .mov (.val (.bool false)), none⟩])
 (.seq (.region [⟨(some 7), .mov (.tmp 0), none⟩,
 ⟨(some 8), .call (.val (.func (.func 102) [] [])) [(.tmp 7)], none⟩,
 ⟨(some 9), .mov (.tmp 8), none⟩,
 ⟨(some 10), .mov (.tmp 1), some (9, true)⟩,
 ⟨(some 11), .call (.val (.func (.func 102) [] [])) [(.tmp 10)], some (9, true)⟩,
 ⟨(some 12), .pick (.tmp 9) (.tmp 11) (.val (.bool false)), none⟩,
 ⟨(some 13), .mov (.tmp 12), none⟩,
 ⟨(some 14), .mov (.tmp 2), some (13, true)⟩,
 ⟨(some 15), .mov (.tmp 0), some (13, true)⟩,
 ⟨(some 16), .mov (.tmp 1), some (13, true)⟩,
 ⟨(some 17), .bin .mul (.tmp 15) (.tmp 16), some (13, true)⟩,
 ⟨(some 18), .bin .eql (.tmp 14) (.tmp 17), some (13, true)⟩,
 ⟨(some 19), .pick (.tmp 13) (.tmp 18) (.val (.bool false)), none⟩,
 ⟨(some 6), .mov (.tmp 19), none⟩])
 (.ret))), [.tmp 6]⟩
def c107 : RFunc := ⟨35, .code (.seq (.region [⟨(some 4), .mov (.val (.int .i64 0)), none⟩])
 (.seq (.seq (.region [⟨(some 7), .mov (.tmp 1), none⟩,
 ⟨(some 8), .lenS (.tmp 7), none⟩,
 ⟨(some 9), .bin .eql (.tmp 8) (.val (.int .i64 0)), none⟩])
 (.cond (.tmp 9) (.seq (.region [⟨(some 10), .mov (.tmp 0), none⟩,
 ⟨(some 11), .call (.val (.func (.func 153) [] [])) [(.tmp 10)], none⟩,
 ⟨(some 12), .bin .add (.tmp 11) (.val (.int .i64 1)), none⟩,
 ⟨(some 4), .mov (.tmp 12), none⟩])
 (.ret))
 (.skip)))
 (.seq (.seq (.region [⟨(some 13), .mov (.tmp 1), none⟩,
 ⟨(some 14), .lenS (.tmp 13), none⟩,
 ⟨(some 15), .bin .eql (.tmp 14) (.val (.int .i64 1)), none⟩])
 (.cond (.tmp 15) (.seq (.region [⟨(some 16), .mov (.tmp 0), none⟩,
 ⟨(some 17), .mov (.tmp 1), none⟩,
 ⟨(some 18), .idxS 1 (.tmp 17) (.val (.int .i64 0)), none⟩,
 ⟨(some 19), .load none (.tmp 18), none⟩,
 ⟨(some 20), .call (.val (.func (.func 154) [] [])) [(.tmp 16), (.tmp 19)], none⟩,
 ⟨(some 4), .mov (.tmp 20), none⟩])
 (.ret))
 (.skip)))
 (.seq (.region [⟨(some 5), .mov (.val (.int .i64 0)), none⟩])
 (.block 0 (.loop (.block 1 (.seq (.region [⟨(some 21), .mov (.tmp 0), none⟩,
 ⟨(some 22), .mov (.tmp 1), none⟩,
 ⟨(some 23), .call (.val (.func (.func 155) [] [])) [(.tmp 21), (.tmp 22)], none⟩,
 ⟨(some 6), .mov (.tmp 23), none⟩])
 (.seq (.seq (.region [⟨(some 24), .mov (.tmp 6), none⟩,
 ⟨(some 25), .bin .eql (.tmp 24) (.val (.int .i64 (-1))), none⟩])
 (.cond (.tmp 25) (.seq (.region [⟨(some 26), .mov (.tmp 5), none⟩,
 ⟨(some 4), .mov (.tmp 26), none⟩])
 (.ret))
 (.skip)))
 (.seq (.region [⟨(some 27), .mov (.tmp 5), none⟩,
 ⟨(some 28), .bin .add (.tmp 27) (.val (.int .i64 1)), none⟩,
 ⟨(some 5), .mov (.tmp 28), none⟩])
 (.region [⟨(some 29), .mov (.tmp 0), none⟩,
 ⟨(some 30), .mov (.tmp 6), none⟩,
 ⟨(some 31), .mov (.tmp 1), none⟩,
 ⟨(some 32), .lenS (.tmp 31), none⟩,
 ⟨(some 33), .bin .add (.tmp 30) (.tmp 32), none⟩,
 ⟨(some 34), .sliceS 1 (.tmp 29) (some (.tmp 33)) none none, none⟩,
 ⟨(some 0), .mov (.tmp 34), none⟩]))))))))))), [.tmp 4]⟩
def c108 : RFunc := ⟨26, .code (.seq (.region [⟨(some 4), .mov (.val (.bool false)), none⟩])
 (.seq (.seq (.region [⟨(some 6), .mov (.tmp 0), none⟩,
 ⟨(some 7), .lenS (.tmp 6), none⟩,
 ⟨(some 8), .mov (.tmp 1), none⟩,
 ⟨(some 9), .lenS (.tmp 8), none⟩,
 ⟨(some 10), .bin .neq (.tmp 7) (.tmp 9), none⟩])
 (.cond (.tmp 10) (.seq (.region [⟨(some 4), .mov (.val (.bool false)), none⟩])
 (.ret))
 (.skip)))
 (.seq (.seq (.region [⟨(some 5), .mov (.val (.int .i64 0)), none⟩])
 (.block 0 (.loop (.seq (.seq (.region [⟨(some 11), .mov (.tmp 5), none⟩,
 ⟨(some 12), .mov (.tmp 0), none⟩,
 ⟨(some 13), .lenS (.tmp 12), none⟩,
 ⟨(some 14), .bin .lss (.tmp 11) (.tmp 13), none⟩])
 (.cond (.tmp 14) (.skip)
 (.exit 0)))
 (.seq (.block 1 (.seq (.dregion [⟨⟨(some 17), .mov (.tmp 0), none⟩, 0, 0, true⟩,
 ⟨⟨(some 18), .mov (.tmp 5), none⟩, 0, 0, true⟩,
 ⟨⟨(some 19), .idxS 1 (.tmp 17) (.tmp 18), none⟩, 3, 0, true⟩,
 ⟨⟨(some 20), .load none (.tmp 19), none⟩, 7, 1, true⟩,
 ⟨⟨(some 21), .mov (.tmp 1), none⟩, 0, 0, true⟩,
 ⟨⟨(some 22), .mov (.tmp 5), none⟩, 0, 0, true⟩,
 ⟨⟨(some 23), .idxS 1 (.tmp 21) (.tmp 22), none⟩, 48, 0, true⟩,
 ⟨⟨(some 24), .load none (.tmp 23), none⟩, 112, 1, true⟩,
 ⟨⟨(some 25), .bin .neq (.tmp 20) (.tmp 24), none⟩, 255, 0, true⟩])
 (.cond (.tmp 25) (.seq (.region [⟨(some 4), .mov (.val (.bool false)), none⟩])
 (.ret))
 (.skip))))
 (.region [⟨(some 15), .mov (.tmp 5), none⟩,
 ⟨(some 16), .bin .add (.tmp 15) (.val (.int .i64 1)), none⟩,
 ⟨(some 5), .mov (.tmp 16), none⟩]))))))
 (.seq (.region [⟨(some 4), .mov (.val (.bool true)), none⟩])
 (.ret))))), [.tmp 4]⟩
def c109 : RFunc := ⟨38, .code (.seq (.region [⟨(some 3), .box 24 (.tmp 0), none⟩,
 ⟨(some 6), .mov (.val (.bool false)), none⟩])
 (.seq (.region [⟨(some 7), .mov (.tmp 1), none⟩,
 ⟨(some 8), .bin .geq (.tmp 7) (.val (.int .i64 0)), none⟩,
 ⟨(some 9), .mov (.tmp 8), none⟩,
 ⟨(some 10), .mov (.tmp 1), some (9, true)⟩,
 ⟨(some 11), .fieldAddr 0 (.tmp 3), some (9, true)⟩,
 ⟨(some 12), .load none (.tmp 11), some (9, true)⟩,
 ⟨(some 13), .bin .lss (.tmp 10) (.tmp 12), some (9, true)⟩,
 ⟨(some 14), .pick (.tmp 9) (.tmp 13) (.val (.bool false)), none⟩,
 ⟨(some 15), .mov (.tmp 14), none⟩,
 ⟨(some 16), .mov (.tmp 2), some (15, true)⟩,
 ⟨(some 17), .bin .geq (.tmp 16) (.val (.int .i64 0)), some (15, true)⟩,
 ⟨(some 18), .pick (.tmp 15) (.tmp 17) (.val (.bool false)), none⟩,
 ⟨(some 19), .mov (.tmp 18), none⟩,
 ⟨(some 20), .mov (.tmp 2), some (19, true)⟩,
 ⟨(some 21), .fieldAddr 1 (.tmp 3), some (19, true)⟩,
 ⟨(some 22), .load none (.tmp 21), some (19, true)⟩,
 ⟨(some 23), .bin .lss (.tmp 20) (.tmp 22), some (19, true)⟩,
 ⟨(some 24), .pick (.tmp 19) (.tmp 23) (.val (.bool false)), none⟩,
 ⟨(some 25), .mov (.tmp 24), none⟩,
 ⟨(some 26), .fieldAddr 2 (.tmp 3), some (25, true)⟩,
 ⟨(some 27), .load none (.tmp 26), some (25, true)⟩,
 ⟨(some 28), .mov (.tmp 2), some (25, true)⟩,
 ⟨(some 29), .fieldAddr 0 (.tmp 3), some (25, true)⟩,
 ⟨(some 30), .load none (.tmp 29), some (25, true)⟩,
 ⟨(some 31), .bin .mul (.tmp 28) (.tmp 30), some (25, true)⟩,
 ⟨(some 32), .mov (.tmp 1), some (25, true)⟩,
 ⟨(some 33), .bin .add (.tmp 31) (.tmp 32), some (25, true)⟩,
 ⟨(some 34), .idxS 1 (.tmp 27) (.tmp 33), some (25, true)⟩,
 ⟨(some 35), .load none (.tmp 34), some (25, true)⟩,
 ⟨(some 36), .bin .eql (.tmp 35) (.val (.int .u8 1)), some (25, true)⟩,
 ⟨(some 37), .pick (.tmp 25) (.tmp 36) (.val (.bool false)), none⟩,
 ⟨(some 6), .mov (.tmp 37), none⟩])
 (.ret))), [.tmp 6]⟩
def c118 : RFunc := ⟨17, .code (.seq (.region [⟨(some 2), .box 24 (.tmp 0), none⟩,
 ⟨(some 4), .mov (.val .nslice), none⟩])
 (.seq (.region [⟨(some 5), .fieldAddr 2 (.tmp 2), none⟩,
 ⟨(some 6), .load none (.tmp 5), none⟩,
 ⟨(some 7), .mov (.tmp 1), none⟩,
 ⟨(some 8), .fieldAddr 0 (.tmp 2), none⟩,
 ⟨(some 9), .load none (.tmp 8), none⟩,
 ⟨(some 10), .bin .mul (.tmp 7) (.tmp 9), none⟩,
 ⟨(some 11), .mov (.tmp 1), none⟩,
 ⟨(some 12), .bin .add (.tmp 11) (.val (.int .i64 1)), none⟩,
 ⟨(some 13), .fieldAddr 0 (.tmp 2), none⟩,
 ⟨(some 14), .load none (.tmp 13), none⟩,
 ⟨(some 15), .bin .mul (.tmp 12) (.tmp 14), none⟩,
 ⟨(some 16), .sliceS 1 (.tmp 6) (some (.tmp 10)) (some (.tmp 15)) none, none⟩,
 ⟨(some 4), .mov (.tmp 16), none⟩])
 (.ret))), [.tmp 4]⟩
def c121 : RFunc := ⟨40, .code (.seq (.region [⟨(some 2), .box 24 (.tmp 0), none⟩,
 ⟨(some 4), .mov (.val .nslice), none⟩,
 ⟨(some 5), .mov (.val (.int .i64 0)), none⟩])
 (.seq (.region [⟨(some 8), .fieldAddr 2 (.tmp 2), none⟩,
 ⟨(some 9), .load none (.tmp 8), none⟩,
 ⟨(some 10), .lenS (.tmp 9), none⟩,
 ⟨(some 11), .makeSlice 3 [(.int .i64 0)] 8 (.tmp 10) (.tmp 10), none⟩,
 ⟨(some 4), .mov (.tmp 11), none⟩])
 (.seq (.seq (.region [⟨(some 12), .fieldAddr 2 (.tmp 2), none⟩,
 ⟨(some 13), .load none (.tmp 12), none⟩,
 ⟨(some 14), .lenS (.tmp 13), none⟩,
 ⟨(some 15), .mov (.val (.int .i64 0)), none⟩])
 (.block 0 (.loop (.seq (.region [⟨(some 16), .bin .lss (.tmp 15) (.tmp 14), none⟩])
 (.seq (.cond (.tmp 16) (.skip)
 (.exit 0))
 (.seq (.block 1 (.seq (.region [⟨(some 17), .mov (.tmp 15), none⟩,
 ⟨(some 18), .idxS 1 (.tmp 13) (.tmp 15), none⟩,
 ⟨(some 19), .load none (.tmp 18), none⟩,
 ⟨(some 6), .mov (.tmp 17), none⟩,
 ⟨(some 7), .mov (.tmp 19), none⟩])
 (.seq (.region [⟨(some 20), .mov (.tmp 7), none⟩,
 ⟨(some 21), .bin .eql (.tmp 20) (.val (.int .u8 1)), none⟩,
 ⟨(some 22), .mov (.tmp 21), none⟩,
 ⟨(some 23), .mov (.tmp 4), some (22, true)⟩,
 ⟨(some 24), .mov (.tmp 6), some (22, true)⟩,
 ⟨(some 25), .idxS 1 (.tmp 23) (.tmp 24), some (22, true)⟩,
 ⟨(some 26), .load none (.tmp 25), some (22, true)⟩,
 ⟨(some 27), .bin .eql (.tmp 26) (.val (.int .i64 0)), some (22, true)⟩,
 ⟨(some 28), .pick (.tmp 22) (.tmp 27) (.val (.bool false)), none⟩])
 (.cond (.tmp 28) (.seq (.region [⟨(some 29), .mov (.tmp 5), none⟩,
 ⟨(some 30), .bin .add (.tmp 29) (.val (.int .i64 1)), none⟩,
 ⟨(some 5), .mov (.tmp 30), none⟩])
 (.region [⟨(some 31), .load (some 3) (.tmp 2), none⟩,
 ⟨(some 32), .mov (.tmp 1), none⟩,
 ⟨(some 33), .mov (.tmp 4), none⟩,
 ⟨(some 34), .mov (.tmp 6), none⟩,
 ⟨(some 35), .mov (.tmp 5), none⟩,
 ⟨(some 36), .call (.val (.func (.func 160) [] [])) [(.tmp 31), (.tmp 32), (.tmp 33), (.tmp 34), (.tmp 35)], none⟩]))
 (.skip)))))
 (.region [⟨(some 37), .bin .add (.tmp 15) (.val (.int .i64 1)), none⟩,
 ⟨(some 15), .mov (.tmp 37), none⟩])))))))
 (.seq (.region [⟨(some 38), .mov (.tmp 4), none⟩,
 ⟨(some 39), .mov (.tmp 5), none⟩,
 ⟨(some 4), .mov (.tmp 38), none⟩,
 ⟨(some 5), .mov (.tmp 39), none⟩])
 (.ret))))), [.tmp 4, .tmp 5]⟩
def c122 : RFunc := ⟨50, .code (.seq (.region [⟨(some 2), .box 46 (.tmp 0), none⟩,
 ⟨(some 3), .box 88 (.tmp 1), none⟩,
 ⟨(some 4), .new 46 [(.int .i64 0), (.int .i64 0), (.int .i64 0), (.int .i64 0)], none⟩])
 (.seq (.seq (.region [⟨(some 7), .fieldAddr 2 (.tmp 2), none⟩,
 ⟨(some 8), .load none (.tmp 7), none⟩,
 ⟨(some 9), .bin .eql (.tmp 8) (.val (.int .i64 0)), none⟩])
 (.cond (.tmp 9) (.seq (.region [⟨(some 10), .fieldAddr 0 (.tmp 3), none⟩,
 ⟨(some 11), .load none (.tmp 10), none⟩,
 ⟨(some 12), .fieldAddr 1 (.tmp 3), none⟩,
 ⟨(some 13), .load none (.tmp 12), none⟩,
 ⟨(some 14), .build [(.int .i64 0), (.int .i64 0), (.int .i64 0), (.int .i64 0)] [(0, 1, (.tmp 11)), (1, 1, (.tmp 13)), (2, 1, (.val (.int .i64 1))), (3, 1, (.val (.int .i64 1)))], none⟩,
 ⟨none, .store 4 (.tmp 4) (.tmp 14), none⟩])
 (.ret))
 (.skip)))
 (.seq (.dregion [⟨⟨(some 15), .fieldAddr 0 (.tmp 2), none⟩, 0, 0, true⟩,
 ⟨⟨(some 16), .load none (.tmp 15), none⟩, 1, 1, true⟩,
 ⟨⟨(some 17), .fieldAddr 0 (.tmp 3), none⟩, 0, 0, true⟩,
 ⟨⟨(some 18), .load none (.tmp 17), none⟩, 4, 1, true⟩,
 ⟨⟨(some 19), .minmax false [(.tmp 16), (.tmp 18)], none⟩, 15, 0, true⟩,
 ⟨⟨(some 20), .fieldAddr 1 (.tmp 2), none⟩, 0, 0, true⟩,
 ⟨⟨(some 21), .load none (.tmp 20), none⟩, 32, 1, true⟩,
 ⟨⟨(some 22), .fieldAddr 1 (.tmp 3), none⟩, 0, 0, true⟩,
 ⟨⟨(some 23), .load none (.tmp 22), none⟩, 128, 1, true⟩,
 ⟨⟨(some 24), .minmax false [(.tmp 21), (.tmp 23)], none⟩, 480, 0, true⟩,
 ⟨⟨(some 5), .mov (.tmp 19), none⟩, 31, 0, true⟩,
 ⟨⟨(some 6), .mov (.tmp 24), none⟩, 2047, 0, true⟩])
 (.seq (.region [⟨(some 25), .mov (.tmp 5), none⟩,
 ⟨(some 26), .mov (.tmp 6), none⟩,
 ⟨(some 27), .fieldAddr 0 (.tmp 2), none⟩,
 ⟨(some 28), .load none (.tmp 27), none⟩,
 ⟨(some 29), .fieldAddr 2 (.tmp 2), none⟩,
 ⟨(some 30), .load none (.tmp 29), none⟩,
 ⟨(some 31), .bin .add (.tmp 28) (.tmp 30), none⟩,
 ⟨(some 32), .fieldAddr 0 (.tmp 3), none⟩,
 ⟨(some 33), .load none (.tmp 32), none⟩,
 ⟨(some 34), .bin .add (.tmp 33) (.val (.int .i64 1)), none⟩,
 ⟨(some 35), .minmax true [(.tmp 31), (.tmp 34)], none⟩,
 ⟨(some 36), .mov (.tmp 5), none⟩,
 ⟨(some 37), .bin .sub (.tmp 35) (.tmp 36), none⟩,
 ⟨(some 38), .fieldAddr 1 (.tmp 2), none⟩,
 ⟨(some 39), .load none (.tmp 38), none⟩,
 ⟨(some 40), .fieldAddr 3 (.tmp 2), none⟩,
 ⟨(some 41), .load none (.tmp 40), none⟩,
 ⟨(some 42), .bin .add (.tmp 39) (.tmp 41), none⟩,
 ⟨(some 43), .fieldAddr 1 (.tmp 3), none⟩,
 ⟨(some 44), .load none (.tmp 43), none⟩,
 ⟨(some 45), .bin .add (.tmp 44) (.val (.int .i64 1)), none⟩,
 ⟨(some 46), .minmax true [(.tmp 42), (.tmp 45)], none⟩,
 ⟨(some 47), .mov (.tmp 6), none⟩,
 ⟨(some 48), .bin .sub (.tmp 46) (.tmp 47), none⟩,
 ⟨(some 49), .build [(.int .i64 0), (.int .i64 0), (.int .i64 0), (.int .i64 0)] [(0, 1, (.tmp 25)), (1, 1, (.tmp 26)), (2, 1, (.tmp 37)), (3, 1, (.tmp 48))], none⟩,
 ⟨none, .store 4 (.tmp 4) (.tmp 49), none⟩])
 (.ret))))), [.cell 4 (some 4)]⟩
def c123 : RFunc := ⟨42, .code (.seq (.region [⟨(some 3), .box 88 (.tmp 0), none⟩,
 ⟨(some 4), .box 88 (.tmp 1), none⟩,
 ⟨(some 6), .mov (.val (.bool false)), none⟩])
 (.seq (.dregion [⟨⟨(some 9), .fieldAddr 0 (.tmp 3), none⟩, 0, 0, true⟩,
 ⟨⟨(some 10), .load none (.tmp 9), none⟩, 1, 1, true⟩,
 ⟨⟨(some 11), .fieldAddr 0 (.tmp 4), none⟩, 0, 0, true⟩,
 ⟨⟨(some 12), .load none (.tmp 11), none⟩, 4, 1, true⟩,
 ⟨⟨(some 13), .bin .sub (.tmp 10) (.tmp 12), none⟩, 15, 0, true⟩,
 ⟨⟨(some 14), .fieldAddr 1 (.tmp 3), none⟩, 0, 0, true⟩,
 ⟨⟨(some 15), .load none (.tmp 14), none⟩, 32, 1, true⟩,
 ⟨⟨(some 16), .fieldAddr 1 (.tmp 4), none⟩, 0, 0, true⟩,
 ⟨⟨(some 17), .load none (.tmp 16), none⟩, 128, 1, true⟩,
 ⟨⟨(some 18), .bin .sub (.tmp 15) (.tmp 17), none⟩, 480, 0, true⟩,
 ⟨⟨(some 7), .mov (.tmp 13), none⟩, 31, 0, true⟩,
 ⟨⟨(some 8), .mov (.tmp 18), none⟩, 2047, 0, true⟩])
 (.seq (.seq (.region [⟨(some 19), .mov (.tmp 7), none⟩,
 ⟨(some 20), .bin .lss (.tmp 19) (.val (.int .i64 (-1))), none⟩,
 ⟨(some 21), .mov (.tmp 20), none⟩,
 ⟨(some 22), .mov (.tmp 7), some (21, false)⟩,
 ⟨(some 23), .bin .gtr (.tmp 22) (.val (.int .i64 1)), some (21, false)⟩,
 ⟨(some 24), .pick (.tmp 21) (.val (.bool true)) (.tmp 23), none⟩,
 ⟨(some 25), .mov (.tmp 24), none⟩,
 ⟨(some 26), .mov (.tmp 8), some (25, false)⟩,
 ⟨(some 27), .bin .lss (.tmp 26) (.val (.int .i64 (-1))), some (25, false)⟩,
 ⟨(some 28), .pick (.tmp 25) (.val (.bool true)) (.tmp 27), none⟩,
 ⟨(some 29), .mov (.tmp 28), none⟩,
 ⟨(some 30), .mov (.tmp 8), some (29, false)⟩,
 ⟨(some 31), .bin .gtr (.tmp 30) (.val (.int .i64 1)), some (29, false)⟩,
 ⟨(some 32), .pick (.tmp 29) (.val (.bool true)) (.tmp 31), none⟩])
 (.cond (.tmp 32) (.seq (.region [⟨(some 6), .mov (.val (.bool false)), none⟩])
 (.ret))
 (.skip)))
 (.seq (.region [⟨(some 33), .mov (.tmp 2), none⟩,
 ⟨(some 34), .mov (.tmp 33), none⟩,
 ⟨(some 35), .mov (.tmp 7), some (34, false)⟩,
 ⟨(some 36), .bin .eql (.tmp 35) (.val (.int .i64 0)), some (34, false)⟩,
 ⟨(some 37), .pick (.tmp 34) (.val (.bool true)) (.tmp 36), none⟩,
 ⟨(some 38), .mov (.tmp 37), none⟩,
 ⟨(some 39), .mov (.tmp 8), some (38, false)⟩,
 ⟨(some 40), .bin .eql (.tmp 39) (.val (.int .i64 0)), some (38, false)⟩,
 ⟨(some 41), .pick (.tmp 38) (.val (.bool true)) (.tmp 40), none⟩,
 ⟨(some 6), .mov (.tmp 41), none⟩])
 (.ret))))), [.tmp 6]⟩
def c126 : RFunc := ⟨28, .code (.seq (.region [⟨(some 4), .mov (.tmp 0), none⟩,
 ⟨(some 5), .lenS (.tmp 4), none⟩,
 ⟨(some 6), .bin .sub (.tmp 5) (.val (.int .i64 1)), none⟩,
 ⟨(some 2), .mov (.val (.int .i64 0)), none⟩,
 ⟨(some 3), .mov (.tmp 6), none⟩])
 (.block 0 (.loop (.seq (.seq (.region [⟨(some 7), .mov (.tmp 2), none⟩,
 ⟨(some 8), .mov (.tmp 3), none⟩,
 ⟨(some 9), .bin .lss (.tmp 7) (.tmp 8), none⟩])
 (.cond (.tmp 9) (.skip)
 (.exit 0)))
 (.seq (.block 1 (.dregion [⟨⟨(some 14), .mov (.tmp 0), none⟩, 0, 0, true⟩,
 ⟨⟨(some 15), .mov (.tmp 2), none⟩, 0, 0, true⟩,
 ⟨⟨(some 16), .mov (.tmp 0), none⟩, 0, 0, true⟩,
 ⟨⟨(some 17), .mov (.tmp 3), none⟩, 0, 0, true⟩,
 ⟨⟨(some 18), .mov (.tmp 0), none⟩, 0, 0, true⟩,
 ⟨⟨(some 19), .mov (.tmp 3), none⟩, 0, 0, true⟩,
 ⟨⟨(some 20), .idxS 1 (.tmp 18) (.tmp 19), none⟩, 48, 0, true⟩,
 ⟨⟨(some 21), .load none (.tmp 20), none⟩, 112, 1, true⟩,
 ⟨⟨(some 22), .mov (.tmp 0), none⟩, 0, 0, true⟩,
 ⟨⟨(some 23), .mov (.tmp 2), none⟩, 0, 0, true⟩,
 ⟨⟨(some 24), .idxS 1 (.tmp 22) (.tmp 23), none⟩, 768, 0, true⟩,
 ⟨⟨(some 25), .load none (.tmp 24), none⟩, 1792, 1, true⟩,
 ⟨⟨(some 26), .idxS 1 (.tmp 14) (.tmp 15), none⟩, 4083, 0, true⟩,
 ⟨⟨none, .store 1 (.tmp 26) (.tmp 21), none⟩, 8179, 2, false⟩,
 ⟨⟨(some 27), .idxS 1 (.tmp 16) (.tmp 17), none⟩, 16383, 0, true⟩,
 ⟨⟨none, .store 1 (.tmp 27) (.tmp 25), none⟩, 32767, 2, false⟩]))
 (.region [⟨(some 10), .mov (.tmp 2), none⟩,
 ⟨(some 11), .bin .add (.tmp 10) (.val (.int .i64 1)), none⟩,
 ⟨(some 12), .mov (.tmp 3), none⟩,
 ⟨(some 13), .bin .sub (.tmp 12) (.val (.int .i64 1)), none⟩,
 ⟨(some 2), .mov (.tmp 11), none⟩,
 ⟨(some 3), .mov (.tmp 13), none⟩])))))), []⟩
def c127 : RFunc := ⟨8, .code (.seq (.region [⟨(some 2), .mov (.val .nslice), none⟩])
 (.seq (.seq (.region [⟨(some 3), .mov (.tmp 0), none⟩,
 ⟨(some 4), .eq false .slice (.tmp 3) (.val .nslice), none⟩])
 (.cond (.tmp 4) (.seq (.region [⟨(some 2), .mov (.val .nslice), none⟩])
 (.ret))
 (.skip)))
 (.seq (.region [⟨(some 5), .buildSlice 5 1 0 [] [], none⟩,
 ⟨(some 6), .mov (.tmp 0), none⟩,
 ⟨(some 7), .append 5 1 1 (.tmp 5) (.tmp 6), none⟩,
 ⟨(some 2), .mov (.tmp 7), none⟩])
 (.ret)))), [.tmp 2]⟩
def c128 : RFunc := ⟨8, .code (.seq (.region [⟨(some 4), .mov (.val (.int .i64 0)), none⟩])
 (.seq (.region [⟨(some 5), .mov (.tmp 0), none⟩,
 ⟨(some 6), .mov (.tmp 1), none⟩,
 ⟨(some 7), .call (.val (.func (.func 162) [] [])) [(.tmp 5), (.tmp 6)], none⟩,
 ⟨(some 4), .mov (.tmp 7), none⟩])
 (.ret))), [.tmp 4]⟩
def c129 : RFunc := ⟨41, .code (.seq (.region [⟨(some 3), .box 24 (.tmp 0), none⟩,
 ⟨(some 6), .mov (.val (.bool false)), none⟩])
 (.seq (.region [⟨(some 7), .new 181 [(.bool false), (.bool false), (.bool false), (.bool false), (.bool false), (.bool false), (.bool false), (.bool false)], none⟩])
 (.seq (.region [⟨(some 8), .mov (.val (.int .i64 0)), none⟩])
 (.seq (.seq (.region [⟨(some 11), .load (some 16) (.val (.ptr 0 0)), none⟩,
 ⟨(some 12), .mov (.val (.int .i64 0)), none⟩])
 (.block 0 (.loop (.seq (.region [⟨(some 13), .bin .lss (.tmp 12) (.val (.int .i64 8)), none⟩])
 (.seq (.cond (.tmp 13) (.skip)
 (.exit 0))
 (.seq (.block 1 (.seq (.region [⟨(some 14), .mov (.tmp 12), none⟩,
 ⟨(some 15), .indexA 8 2 true (.tmp 11) (.tmp 12), none⟩,
 ⟨(some 10), .new 88 [(.int .i64 0), (.int .i64 0)], none⟩,
 ⟨(some 9), .mov (.tmp 14), none⟩,
 ⟨none, .store 2 (.tmp 10) (.tmp 15), none⟩])
 (.seq (.region [⟨(some 16), .mov (.tmp 9), none⟩,
 ⟨(some 17), .load (some 3) (.tmp 3), none⟩,
 ⟨(some 18), .mov (.tmp 1), none⟩,
 ⟨(some 19), .fieldAddr 0 (.tmp 10), none⟩,
 ⟨(some 20), .load none (.tmp 19), none⟩,
 ⟨(some 21), .bin .add (.tmp 18) (.tmp 20), none⟩,
 ⟨(some 22), .mov (.tmp 2), none⟩,
 ⟨(some 23), .fieldAddr 1 (.tmp 10), none⟩,
 ⟨(some 24), .load none (.tmp 23), none⟩,
 ⟨(some 25), .bin .add (.tmp 22) (.tmp 24), none⟩,
 ⟨(some 26), .call (.val (.func (.func 109) [] [])) [(.tmp 17), (.tmp 21), (.tmp 25)], none⟩,
 ⟨(some 27), .idxA 8 1 (.tmp 7) (.tmp 16), none⟩,
 ⟨none, .store 1 (.tmp 27) (.tmp 26), none⟩])
 (.seq (.region [⟨(some 28), .mov (.tmp 9), none⟩,
 ⟨(some 29), .idxA 8 1 (.tmp 7) (.tmp 28), none⟩,
 ⟨(some 30), .load none (.tmp 29), none⟩])
 (.cond (.tmp 30) (.region [⟨(some 31), .mov (.tmp 8), none⟩,
 ⟨(some 32), .bin .add (.tmp 31) (.val (.int .i64 1)), none⟩,
 ⟨(some 8), .mov (.tmp 32), none⟩])
 (.skip))))))
 (.region [⟨(some 33), .bin .add (.tmp 12) (.val (.int .i64 1)), none⟩,
 ⟨(some 12), .mov (.tmp 33), none⟩])))))))
 (.seq (.region [⟨(some 34), .load (some 8) (.tmp 7), none⟩,
 ⟨(some 35), .call (.val (.func (.func 163) [] [])) [(.tmp 34)], none⟩,
 ⟨(some 36), .bin .eql (.tmp 35) (.val (.int .i64 1)), none⟩,
 ⟨(some 37), .mov (.tmp 36), none⟩,
 ⟨(some 38), .mov (.tmp 8), some (37, true)⟩,
 ⟨(some 39), .bin .gtr (.tmp 38) (.val (.int .i64 1)), some (37, true)⟩,
 ⟨(some 40), .pick (.tmp 37) (.tmp 39) (.val (.bool false)), none⟩,
 ⟨(some 6), .mov (.tmp 40), none⟩])
 (.ret)))))), [.tmp 6]⟩
def c130 : RFunc := ⟨39, .code (.seq (.region [⟨(some 4), .box 24 (.tmp 0), none⟩])
 (.seq (.region [⟨(some 10), .load (some 16) (.val (.ptr 0 0)), none⟩,
 ⟨(some 11), .mov (.val (.int .i64 0)), none⟩])
 (.block 0 (.loop (.seq (.region [⟨(some 12), .bin .lss (.tmp 11) (.val (.int .i64 8)), none⟩])
 (.seq (.cond (.tmp 12) (.skip)
 (.exit 0))
 (.seq (.block 1 (.seq (.region [⟨(some 13), .indexA 8 2 true (.tmp 10) (.tmp 11), none⟩,
 ⟨(some 9), .new 88 [(.int .i64 0), (.int .i64 0)], none⟩,
 ⟨none, .store 2 (.tmp 9) (.tmp 13), none⟩])
 (.seq (.region [⟨(some 14), .load (some 3) (.tmp 4), none⟩,
 ⟨(some 15), .mov (.tmp 2), none⟩,
 ⟨(some 16), .fieldAddr 0 (.tmp 9), none⟩,
 ⟨(some 17), .load none (.tmp 16), none⟩,
 ⟨(some 18), .bin .add (.tmp 15) (.tmp 17), none⟩,
 ⟨(some 19), .mov (.tmp 3), none⟩,
 ⟨(some 20), .fieldAddr 1 (.tmp 9), none⟩,
 ⟨(some 21), .load none (.tmp 20), none⟩,
 ⟨(some 22), .bin .add (.tmp 19) (.tmp 21), none⟩,
 ⟨(some 23), .call (.val (.func (.func 109) [] [])) [(.tmp 14), (.tmp 18), (.tmp 22)], none⟩])
 (.cond (.tmp 23) (.region [⟨(some 24), .mov (.tmp 1), none⟩,
 ⟨(some 25), .mov (.tmp 3), none⟩,
 ⟨(some 26), .fieldAddr 1 (.tmp 9), none⟩,
 ⟨(some 27), .load none (.tmp 26), none⟩,
 ⟨(some 28), .bin .add (.tmp 25) (.tmp 27), none⟩,
 ⟨(some 29), .fieldAddr 0 (.tmp 4), none⟩,
 ⟨(some 30), .load none (.tmp 29), none⟩,
 ⟨(some 31), .bin .mul (.tmp 28) (.tmp 30), none⟩,
 ⟨(some 32), .mov (.tmp 2), none⟩,
 ⟨(some 33), .bin .add (.tmp 31) (.tmp 32), none⟩,
 ⟨(some 34), .fieldAddr 0 (.tmp 9), none⟩,
 ⟨(some 35), .load none (.tmp 34), none⟩,
 ⟨(some 36), .bin .add (.tmp 33) (.tmp 35), none⟩,
 ⟨(some 37), .idxS 1 (.tmp 24) (.tmp 36), none⟩,
 ⟨none, .store 1 (.tmp 37) (.val (.int .u8 1)), none⟩])
 (.skip)))))
 (.region [⟨(some 38), .bin .add (.tmp 11) (.val (.int .i64 1)), none⟩,
 ⟨(some 11), .mov (.tmp 38), none⟩])))))))), []⟩
def c132 : RFunc := ⟨19, .code (.seq (.region [⟨(some 4), .mov (.val (.int .i64 0)), none⟩,
 ⟨(some 5), .mov (.val .niface), none⟩])
 (.seq (.region [⟨(some 6), .mov (.tmp 0), none⟩,
 ⟨(some 7), .call (.val (.func (.func 164) [] [])) [(.tmp 6)], none⟩])
 (.seq (.region [⟨(some 8), .mov (.tmp 0), none⟩,
 ⟨(some 9), .mov (.tmp 0), none⟩,
 ⟨(some 10), .nilCheck (.tmp 9), none⟩,
 ⟨(some 11), .fieldAddr 1 (.tmp 10), none⟩,
 ⟨(some 12), .load none (.tmp 11), none⟩,
 ⟨(some 13), .mov (.tmp 1), none⟩,
 ⟨(some 14), .append 5 1 1 (.tmp 12) (.tmp 13), none⟩,
 ⟨(some 15), .nilCheck (.tmp 8), none⟩,
 ⟨(some 16), .fieldAddr 1 (.tmp 15), none⟩,
 ⟨none, .store 1 (.tmp 16) (.tmp 14), none⟩])
 (.seq (.region [⟨(some 17), .mov (.tmp 1), none⟩,
 ⟨(some 18), .lenStr (.tmp 17), none⟩,
 ⟨(some 4), .mov (.tmp 18), none⟩,
 ⟨(some 5), .mov (.val .niface), none⟩])
 (.ret))))), [.tmp 4, .tmp 5]⟩
def c133 : RFunc := ⟨5, .code (.seq (.region [⟨(some 2), .mov (.val (.str ⟨#[]⟩)), none⟩])
 (.seq (.region [⟨(some 3), .mov (.tmp 0), none⟩,
 ⟨(some 4), .call (.val (.func (.func 165) [] [])) [(.tmp 3)], none⟩,
 ⟨(some 2), .mov (.tmp 4), none⟩])
 (.ret))), [.tmp 2]⟩
def c134 : RFunc := ⟨17, .code (.seq (.region [⟨(some 4), .mov (.val .niface), none⟩])
 (.seq (.region [⟨(some 5), .mov (.tmp 0), none⟩,
 ⟨(some 6), .call (.val (.func (.func 164) [] [])) [(.tmp 5)], none⟩])
 (.seq (.region [⟨(some 7), .mov (.tmp 0), none⟩,
 ⟨(some 8), .mov (.tmp 0), none⟩,
 ⟨(some 9), .nilCheck (.tmp 8), none⟩,
 ⟨(some 10), .fieldAddr 1 (.tmp 9), none⟩,
 ⟨(some 11), .load none (.tmp 10), none⟩,
 ⟨(some 12), .mov (.tmp 1), none⟩,
 ⟨(some 13), .buildSlice 5 1 1 [(.int .u8 0)] [(0, 1, (.tmp 12))], none⟩,
 ⟨(some 14), .append 5 1 1 (.tmp 11) (.tmp 13), none⟩,
 ⟨(some 15), .nilCheck (.tmp 7), none⟩,
 ⟨(some 16), .fieldAddr 1 (.tmp 15), none⟩,
 ⟨none, .store 1 (.tmp 16) (.tmp 14), none⟩])
 (.seq (.region [⟨(some 4), .mov (.val .niface), none⟩])
 (.ret))))), [.tmp 4]⟩
def c135 : RFunc := ⟨14, .code (.seq (.region [⟨(some 2), .mov (.val (.str ⟨#[]⟩)), none⟩])
 (.seq (.dregion [⟨⟨(some 3), .mov (.tmp 0), none⟩, 0, 0, true⟩,
 ⟨⟨(some 4), .nilCheck (.tmp 3), none⟩, 1, 0, true⟩,
 ⟨⟨(some 5), .fieldAddr 1 (.tmp 4), none⟩, 3, 0, true⟩,
 ⟨⟨(some 6), .load none (.tmp 5), none⟩, 7, 1, true⟩,
 ⟨⟨(some 7), .sliceData 1 (.tmp 6), none⟩, 15, 1, true⟩,
 ⟨⟨(some 8), .mov (.tmp 0), none⟩, 0, 0, true⟩,
 ⟨⟨(some 9), .nilCheck (.tmp 8), none⟩, 32, 0, true⟩,
 ⟨⟨(some 10), .fieldAddr 1 (.tmp 9), none⟩, 96, 0, true⟩,
 ⟨⟨(some 11), .load none (.tmp 10), none⟩, 224, 1, true⟩,
 ⟨⟨(some 12), .lenS (.tmp 11), none⟩, 480, 0, true⟩,
 ⟨⟨(some 13), .unsafeStr 5 (.tmp 7) (.tmp 12), none⟩, 1023, 2, false⟩,
 ⟨⟨(some 2), .mov (.tmp 13), none⟩, 2047, 0, false⟩])
 (.ret))), [.tmp 2]⟩
def c142 : RFunc := ⟨13, .code (.seq (.region [⟨(some 1), .box 24 (.tmp 0), none⟩])
 (.seq (.region [⟨(some 3), .fieldAddr 1 (.tmp 1), none⟩,
 ⟨(some 4), .load none (.tmp 3), none⟩,
 ⟨(some 5), .mov (.val (.int .i64 0)), none⟩])
 (.block 0 (.loop (.seq (.region [⟨(some 6), .bin .lss (.tmp 5) (.tmp 4), none⟩])
 (.seq (.cond (.tmp 6) (.skip)
 (.exit 0))
 (.seq (.block 1 (.seq (.region [⟨(some 7), .mov (.tmp 5), none⟩,
 ⟨(some 2), .mov (.tmp 7), none⟩])
 (.region [⟨(some 8), .load (some 3) (.tmp 1), none⟩,
 ⟨(some 9), .mov (.tmp 2), none⟩,
 ⟨(some 10), .call (.val (.func (.func 118) [] [])) [(.tmp 8), (.tmp 9)], none⟩,
 ⟨(some 11), .call (.val (.func (.func 126) [] [])) [(.tmp 10)], none⟩])))
 (.region [⟨(some 12), .bin .add (.tmp 5) (.val (.int .i64 1)), none⟩,
 ⟨(some 5), .mov (.tmp 12), none⟩])))))))), []⟩
def c143 : RFunc := ⟨43, .code (.seq (.region [⟨(some 1), .box 24 (.tmp 0), none⟩,
 ⟨(some 2), .new 24 [(.int .i64 0), (.int .i64 0), .nslice], none⟩])
 (.seq (.region [⟨(some 7), .fieldAddr 1 (.tmp 1), none⟩,
 ⟨(some 8), .load none (.tmp 7), none⟩,
 ⟨(some 9), .fieldAddr 0 (.tmp 1), none⟩,
 ⟨(some 10), .load none (.tmp 9), none⟩,
 ⟨(some 11), .call (.val (.func (.func 103) [] [])) [(.tmp 8), (.tmp 10)], none⟩,
 ⟨(some 3), .new 24 [(.int .i64 0), (.int .i64 0), .nslice], none⟩,
 ⟨none, .store 3 (.tmp 3) (.tmp 11), none⟩])
 (.seq (.seq (.region [⟨(some 12), .fieldAddr 1 (.tmp 1), none⟩,
 ⟨(some 13), .load none (.tmp 12), none⟩,
 ⟨(some 14), .mov (.val (.int .i64 0)), none⟩])
 (.block 0 (.loop (.seq (.region [⟨(some 15), .bin .lss (.tmp 14) (.tmp 13), none⟩])
 (.seq (.cond (.tmp 15) (.skip)
 (.exit 0))
 (.seq (.block 1 (.seq (.region [⟨(some 16), .mov (.tmp 14), none⟩,
 ⟨(some 4), .mov (.tmp 16), none⟩])
 (.seq (.region [⟨(some 17), .load (some 3) (.tmp 1), none⟩,
 ⟨(some 18), .mov (.tmp 4), none⟩,
 ⟨(some 19), .call (.val (.func (.func 118) [] [])) [(.tmp 17), (.tmp 18)], none⟩,
 ⟨(some 20), .lenS (.tmp 19), none⟩,
 ⟨(some 21), .mov (.val (.int .i64 0)), none⟩])
 (.block 2 (.loop (.seq (.region [⟨(some 22), .bin .lss (.tmp 21) (.tmp 20), none⟩])
 (.seq (.cond (.tmp 22) (.skip)
 (.exit 2))
 (.seq (.block 3 (.seq (.region [⟨(some 23), .mov (.tmp 21), none⟩,
 ⟨(some 24), .idxS 1 (.tmp 19) (.tmp 21), none⟩,
 ⟨(some 25), .load none (.tmp 24), none⟩,
 ⟨(some 5), .mov (.tmp 23), none⟩,
 ⟨(some 6), .mov (.tmp 25), none⟩])
 (.region [⟨(some 26), .fieldAddr 2 (.tmp 3), none⟩,
 ⟨(some 27), .load none (.tmp 26), none⟩,
 ⟨(some 28), .mov (.tmp 5), none⟩,
 ⟨(some 29), .fieldAddr 0 (.tmp 3), none⟩,
 ⟨(some 30), .load none (.tmp 29), none⟩,
 ⟨(some 31), .bin .mul (.tmp 28) (.tmp 30), none⟩,
 ⟨(some 32), .fieldAddr 1 (.tmp 1), none⟩,
 ⟨(some 33), .load none (.tmp 32), none⟩,
 ⟨(some 34), .bin .add (.tmp 31) (.tmp 33), none⟩,
 ⟨(some 35), .bin .sub (.tmp 34) (.val (.int .i64 1)), none⟩,
 ⟨(some 36), .mov (.tmp 4), none⟩,
 ⟨(some 37), .bin .sub (.tmp 35) (.tmp 36), none⟩,
 ⟨(some 38), .mov (.tmp 6), none⟩,
 ⟨(some 39), .idxS 1 (.tmp 27) (.tmp 37), none⟩,
 ⟨none, .store 1 (.tmp 39) (.tmp 38), none⟩])))
 (.region [⟨(some 40), .bin .add (.tmp 21) (.val (.int .i64 1)), none⟩,
 ⟨(some 21), .mov (.tmp 40), none⟩])))))))))
 (.region [⟨(some 41), .bin .add (.tmp 14) (.val (.int .i64 1)), none⟩,
 ⟨(some 14), .mov (.tmp 41), none⟩])))))))
 (.seq (.region [⟨(some 42), .load (some 3) (.tmp 3), none⟩,
 ⟨none, .store 3 (.tmp 2) (.tmp 42), none⟩])
 (.ret))))), [.cell 2 (some 3)]⟩
def c147 : RFunc := ⟨8, .code (.seq (.region [⟨(some 4), .mov (.val (.int .u8 0)), none⟩])
 (.seq (.region [⟨(some 5), .mov (.tmp 0), none⟩,
 ⟨(some 6), .mov (.tmp 1), none⟩,
 ⟨(some 7), .bin .or (.tmp 5) (.tmp 6), none⟩,
 ⟨(some 4), .mov (.tmp 7), none⟩])
 (.ret))), [.tmp 4]⟩
def c148 : RFunc := ⟨8, .code (.seq (.region [⟨(some 4), .mov (.val (.int .u8 0)), none⟩])
 (.seq (.region [⟨(some 5), .mov (.tmp 0), none⟩,
 ⟨(some 6), .mov (.tmp 1), none⟩,
 ⟨(some 7), .bin .and (.tmp 5) (.tmp 6), none⟩,
 ⟨(some 4), .mov (.tmp 7), none⟩])
 (.ret))), [.tmp 4]⟩
def c149 : RFunc := ⟨8, .code (.seq (.region [⟨(some 4), .mov (.val (.int .u8 0)), none⟩])
 (.seq (.region [⟨(some 5), .mov (.tmp 0), none⟩,
 ⟨(some 6), .mov (.tmp 1), none⟩,
 ⟨(some 7), .bin .andNot (.tmp 5) (.tmp 6), none⟩,
 ⟨(some 4), .mov (.tmp 7), none⟩])
 (.ret))), [.tmp 4]⟩
def c153 : RFunc := ⟨27, .code (.seq (.region [⟨(some 2), .mov (.val (.int .i64 0)), none⟩])
 (.seq (.region [⟨(some 6), .mov (.tmp 0), none⟩,
 ⟨(some 7), .lenS (.tmp 6), none⟩,
 ⟨(some 3), .mov (.tmp 7), none⟩])
 (.seq (.region [⟨(some 4), .mov (.val (.int .i64 0)), none⟩])
 (.seq (.block 0 (.loop (.seq (.seq (.region [⟨(some 8), .mov (.tmp 4), none⟩,
 ⟨(some 9), .mov (.tmp 3), none⟩,
 ⟨(some 10), .bin .lss (.tmp 8) (.tmp 9), none⟩])
 (.cond (.tmp 10) (.skip)
 (.exit 0)))
 (.seq (.block 1 (.seq (.region [⟨(some 13), .mov (.tmp 0), none⟩,
 ⟨(some 14), .mov (.tmp 4), none⟩,
 ⟨(some 15), .idxS 1 (.tmp 13) (.tmp 14), none⟩,
 ⟨(some 16), .load none (.tmp 15), none⟩,
 ⟨(some 5), .mov (.tmp 16), none⟩])
 (.seq (.region [⟨(some 17), .mov (.tmp 5), none⟩,
 ⟨(some 18), .bin .geq (.tmp 17) (.val (.int .u8 128)), none⟩])
 (.cond (.tmp 18) (.seq (.region [⟨(some 19), .mov (.tmp 4), none⟩,
 ⟨(some 20), .mov (.tmp 0), none⟩,
 ⟨(some 21), .mov (.tmp 4), none⟩,
 ⟨(some 22), .sliceS 1 (.tmp 20) (some (.tmp 21)) none none, none⟩,
 ⟨(some 23), .bytesToStr (.tmp 22), none⟩,
 ⟨(some 24), .call (.val (.func (.func 170) [] [])) [(.tmp 23)], none⟩,
 ⟨(some 25), .bin .add (.tmp 19) (.tmp 24), none⟩,
 ⟨(some 2), .mov (.tmp 25), none⟩])
 (.ret))
 (.skip)))))
 (.region [⟨(some 11), .mov (.tmp 4), none⟩,
 ⟨(some 12), .bin .add (.tmp 11) (.val (.int .i64 1)), none⟩,
 ⟨(some 4), .mov (.tmp 12), none⟩])))))
 (.seq (.region [⟨(some 26), .mov (.tmp 4), none⟩,
 ⟨(some 2), .mov (.tmp 26), none⟩])
 (.ret)))))), [.tmp 2]⟩
def c155 : RFunc := ⟨200, .code (.seq (.region [⟨(some 4), .mov (.val (.int .i64 0)), none⟩])
 (.seq (.region [⟨(some 20), .mov (.tmp 1), none⟩,
 ⟨(some 21), .lenS (.tmp 20), none⟩,
 ⟨(some 5), .mov (.tmp 21), none⟩])
 (.seq (.block 0 (.seq (.region [⟨(some 23), .mov (.tmp 5), none⟩,
 ⟨(some 24), .bin .eql (.tmp 23) (.val (.int .i64 0)), none⟩,
 ⟨(some 22), .mov (.tmp 24), none⟩])
 (.cond (.tmp 22) (.seq (.region [⟨(some 4), .mov (.val (.int .i64 0)), none⟩])
 (.ret))
 (.seq (.region [⟨(some 26), .mov (.tmp 5), none⟩,
 ⟨(some 27), .bin .eql (.tmp 26) (.val (.int .i64 1)), none⟩,
 ⟨(some 25), .mov (.tmp 27), none⟩])
 (.cond (.tmp 25) (.seq (.region [⟨(some 28), .mov (.tmp 0), none⟩,
 ⟨(some 29), .mov (.tmp 1), none⟩,
 ⟨(some 30), .idxS 1 (.tmp 29) (.val (.int .i64 0)), none⟩,
 ⟨(some 31), .load none (.tmp 30), none⟩,
 ⟨(some 32), .call (.val (.func (.func 128) [] [])) [(.tmp 28), (.tmp 31)], none⟩,
 ⟨(some 4), .mov (.tmp 32), none⟩])
 (.ret))
 (.seq (.region [⟨(some 34), .mov (.tmp 5), none⟩,
 ⟨(some 35), .mov (.tmp 0), none⟩,
 ⟨(some 36), .lenS (.tmp 35), none⟩,
 ⟨(some 37), .bin .eql (.tmp 34) (.tmp 36), none⟩,
 ⟨(some 33), .mov (.tmp 37), none⟩])
 (.cond (.tmp 33) (.seq (.seq (.region [⟨(some 38), .mov (.tmp 1), none⟩,
 ⟨(some 39), .mov (.tmp 0), none⟩,
 ⟨(some 40), .call (.val (.func (.func 171) [] [])) [(.tmp 38), (.tmp 39)], none⟩])
 (.cond (.tmp 40) (.seq (.region [⟨(some 4), .mov (.val (.int .i64 0)), none⟩])
 (.ret))
 (.skip)))
 (.seq (.region [⟨(some 4), .mov (.val (.int .i64 (-1))), none⟩])
 (.ret)))
 (.seq (.region [⟨(some 42), .mov (.tmp 5), none⟩,
 ⟨(some 43), .mov (.tmp 0), none⟩,
 ⟨(some 44), .lenS (.tmp 43), none⟩,
 ⟨(some 45), .bin .gtr (.tmp 42) (.tmp 44), none⟩,
 ⟨(some 41), .mov (.tmp 45), none⟩])
 (.cond (.tmp 41) (.seq (.region [⟨(some 4), .mov (.val (.int .i64 (-1))), none⟩])
 (.ret))
 (.seq (.region [⟨(some 47), .mov (.tmp 5), none⟩,
 ⟨(some 48), .load none (.val (.ptr 1 0)), none⟩,
 ⟨(some 49), .bin .leq (.tmp 47) (.tmp 48), none⟩,
 ⟨(some 46), .mov (.tmp 49), none⟩])
 (.cond (.tmp 46) (.seq (.seq (.region [⟨(some 50), .mov (.tmp 0), none⟩,
 ⟨(some 51), .lenS (.tmp 50), none⟩,
 ⟨(some 52), .bin .leq (.tmp 51) (.val (.int .i64 64)), none⟩])
 (.cond (.tmp 52) (.seq (.region [⟨(some 53), .mov (.tmp 0), none⟩,
 ⟨(some 54), .mov (.tmp 1), none⟩,
 ⟨(some 55), .call (.val (.func (.func 172) [] [])) [(.tmp 53), (.tmp 54)], none⟩,
 ⟨(some 4), .mov (.tmp 55), none⟩])
 (.ret))
 (.skip)))
 (.seq (.region [⟨(some 56), .mov (.tmp 1), none⟩,
 ⟨(some 57), .idxS 1 (.tmp 56) (.val (.int .i64 0)), none⟩,
 ⟨(some 58), .load none (.tmp 57), none⟩,
 ⟨(some 6), .mov (.tmp 58), none⟩])
 (.seq (.region [⟨(some 59), .mov (.tmp 1), none⟩,
 ⟨(some 60), .idxS 1 (.tmp 59) (.val (.int .i64 1)), none⟩,
 ⟨(some 61), .load none (.tmp 60), none⟩,
 ⟨(some 7), .mov (.tmp 61), none⟩])
 (.seq (.region [⟨(some 8), .mov (.val (.int .i64 0)), none⟩])
 (.seq (.region [⟨(some 62), .mov (.tmp 0), none⟩,
 ⟨(some 63), .lenS (.tmp 62), none⟩,
 ⟨(some 64), .mov (.tmp 5), none⟩,
 ⟨(some 65), .bin .sub (.tmp 63) (.tmp 64), none⟩,
 ⟨(some 66), .bin .add (.tmp 65) (.val (.int .i64 1)), none⟩,
 ⟨(some 9), .mov (.tmp 66), none⟩])
 (.seq (.region [⟨(some 10), .mov (.val (.int .i64 0)), none⟩])
 (.seq (.block 1 (.loop (.seq (.seq (.region [⟨(some 67), .mov (.tmp 8), none⟩,
 ⟨(some 68), .mov (.tmp 9), none⟩,
 ⟨(some 69), .bin .lss (.tmp 67) (.tmp 68), none⟩])
 (.cond (.tmp 69) (.skip)
 (.exit 1)))
 (.block 2 (.seq (.seq (.region [⟨(some 70), .mov (.tmp 0), none⟩,
 ⟨(some 71), .mov (.tmp 8), none⟩,
 ⟨(some 72), .idxS 1 (.tmp 70) (.tmp 71), none⟩,
 ⟨(some 73), .load none (.tmp 72), none⟩,
 ⟨(some 74), .mov (.tmp 6), none⟩,
 ⟨(some 75), .bin .neq (.tmp 73) (.tmp 74), none⟩])
 (.cond (.tmp 75) (.seq (.region [⟨(some 76), .mov (.tmp 0), none⟩,
 ⟨(some 77), .mov (.tmp 8), none⟩,
 ⟨(some 78), .bin .add (.tmp 77) (.val (.int .i64 1)), none⟩,
 ⟨(some 79), .mov (.tmp 9), none⟩,
 ⟨(some 80), .sliceS 1 (.tmp 76) (some (.tmp 78)) (some (.tmp 79)) none, none⟩,
 ⟨(some 81), .mov (.tmp 6), none⟩,
 ⟨(some 82), .call (.val (.func (.func 128) [] [])) [(.tmp 80), (.tmp 81)], none⟩,
 ⟨(some 11), .mov (.tmp 82), none⟩])
 (.seq (.seq (.region [⟨(some 83), .mov (.tmp 11), none⟩,
 ⟨(some 84), .bin .lss (.tmp 83) (.val (.int .i64 0)), none⟩])
 (.cond (.tmp 84) (.seq (.region [⟨(some 4), .mov (.val (.int .i64 (-1))), none⟩])
 (.ret))
 (.skip)))
 (.region [⟨(some 85), .mov (.tmp 8), none⟩,
 ⟨(some 86), .mov (.tmp 11), none⟩,
 ⟨(some 87), .bin .add (.tmp 86) (.val (.int .i64 1)), none⟩,
 ⟨(some 88), .bin .add (.tmp 85) (.tmp 87), none⟩,
 ⟨(some 8), .mov (.tmp 88), none⟩])))
 (.skip)))
 (.seq (.seq (.region [⟨(some 89), .mov (.tmp 0), none⟩,
 ⟨(some 90), .mov (.tmp 8), none⟩,
 ⟨(some 91), .bin .add (.tmp 90) (.val (.int .i64 1)), none⟩,
 ⟨(some 92), .idxS 1 (.tmp 89) (.tmp 91), none⟩,
 ⟨(some 93), .load none (.tmp 92), none⟩,
 ⟨(some 94), .mov (.tmp 7), none⟩,
 ⟨(some 95), .bin .eql (.tmp 93) (.tmp 94), none⟩,
 ⟨(some 96), .mov (.tmp 95), none⟩,
 ⟨(some 97), .mov (.tmp 0), some (96, true)⟩,
 ⟨(some 98), .mov (.tmp 8), some (96, true)⟩,
 ⟨(some 99), .mov (.tmp 8), some (96, true)⟩,
 ⟨(some 100), .mov (.tmp 5), some (96, true)⟩,
 ⟨(some 101), .bin .add (.tmp 99) (.tmp 100), some (96, true)⟩,
 ⟨(some 102), .sliceS 1 (.tmp 97) (some (.tmp 98)) (some (.tmp 101)) none, some (96, true)⟩,
 ⟨(some 103), .mov (.tmp 1), some (96, true)⟩,
 ⟨(some 104), .call (.val (.func (.func 171) [] [])) [(.tmp 102), (.tmp 103)], some (96, true)⟩,
 ⟨(some 105), .pick (.tmp 96) (.tmp 104) (.val (.bool false)), none⟩])
 (.cond (.tmp 105) (.seq (.region [⟨(some 106), .mov (.tmp 8), none⟩,
 ⟨(some 4), .mov (.tmp 106), none⟩])
 (.ret))
 (.skip)))
 (.seq (.region [⟨(some 107), .mov (.tmp 10), none⟩,
 ⟨(some 108), .bin .add (.tmp 107) (.val (.int .i64 1)), none⟩,
 ⟨(some 10), .mov (.tmp 108), none⟩])
 (.seq (.region [⟨(some 109), .mov (.tmp 8), none⟩,
 ⟨(some 110), .bin .add (.tmp 109) (.val (.int .i64 1)), none⟩,
 ⟨(some 8), .mov (.tmp 110), none⟩])
 (.seq (.region [⟨(some 111), .mov (.tmp 10), none⟩,
 ⟨(some 112), .mov (.tmp 8), none⟩,
 ⟨(some 113), .call (.val (.func (.func 173) [] [])) [(.tmp 112)], none⟩,
 ⟨(some 114), .bin .gtr (.tmp 111) (.tmp 113), none⟩])
 (.cond (.tmp 114) (.seq (.region [⟨(some 115), .mov (.tmp 0), none⟩,
 ⟨(some 116), .mov (.tmp 8), none⟩,
 ⟨(some 117), .sliceS 1 (.tmp 115) (some (.tmp 116)) none none, none⟩,
 ⟨(some 118), .mov (.tmp 1), none⟩,
 ⟨(some 119), .call (.val (.func (.func 172) [] [])) [(.tmp 117), (.tmp 118)], none⟩,
 ⟨(some 12), .mov (.tmp 119), none⟩])
 (.seq (.seq (.region [⟨(some 120), .mov (.tmp 12), none⟩,
 ⟨(some 121), .bin .geq (.tmp 120) (.val (.int .i64 0)), none⟩])
 (.cond (.tmp 121) (.seq (.region [⟨(some 122), .mov (.tmp 12), none⟩,
 ⟨(some 123), .mov (.tmp 8), none⟩,
 ⟨(some 124), .bin .add (.tmp 122) (.tmp 123), none⟩,
 ⟨(some 4), .mov (.tmp 124), none⟩])
 (.ret))
 (.skip)))
 (.seq (.region [⟨(some 4), .mov (.val (.int .i64 (-1))), none⟩])
 (.ret))))
 (.skip)))))))))))
 (.seq (.region [⟨(some 4), .mov (.val (.int .i64 (-1))), none⟩])
 (.ret)))))))))
 (.skip))))))))))))
 (.seq (.region [⟨(some 125), .mov (.tmp 1), none⟩,
 ⟨(some 126), .idxS 1 (.tmp 125) (.val (.int .i64 0)), none⟩,
 ⟨(some 127), .load none (.tmp 126), none⟩,
 ⟨(some 13), .mov (.tmp 127), none⟩])
 (.seq (.region [⟨(some 128), .mov (.tmp 1), none⟩,
 ⟨(some 129), .idxS 1 (.tmp 128) (.val (.int .i64 1)), none⟩,
 ⟨(some 130), .load none (.tmp 129), none⟩,
 ⟨(some 14), .mov (.tmp 130), none⟩])
 (.seq (.region [⟨(some 15), .mov (.val (.int .i64 0)), none⟩])
 (.seq (.region [⟨(some 16), .mov (.val (.int .i64 0)), none⟩])
 (.seq (.region [⟨(some 131), .mov (.tmp 0), none⟩,
 ⟨(some 132), .lenS (.tmp 131), none⟩,
 ⟨(some 133), .mov (.tmp 5), none⟩,
 ⟨(some 134), .bin .sub (.tmp 132) (.tmp 133), none⟩,
 ⟨(some 135), .bin .add (.tmp 134) (.val (.int .i64 1)), none⟩,
 ⟨(some 17), .mov (.tmp 135), none⟩])
 (.seq (.block 3 (.loop (.seq (.seq (.region [⟨(some 136), .mov (.tmp 15), none⟩,
 ⟨(some 137), .mov (.tmp 17), none⟩,
 ⟨(some 138), .bin .lss (.tmp 136) (.tmp 137), none⟩])
 (.cond (.tmp 138) (.skip)
 (.exit 3)))
 (.block 4 (.seq (.seq (.region [⟨(some 139), .mov (.tmp 0), none⟩,
 ⟨(some 140), .mov (.tmp 15), none⟩,
 ⟨(some 141), .idxS 1 (.tmp 139) (.tmp 140), none⟩,
 ⟨(some 142), .load none (.tmp 141), none⟩,
 ⟨(some 143), .mov (.tmp 13), none⟩,
 ⟨(some 144), .bin .neq (.tmp 142) (.tmp 143), none⟩])
 (.cond (.tmp 144) (.seq (.region [⟨(some 145), .mov (.tmp 0), none⟩,
 ⟨(some 146), .mov (.tmp 15), none⟩,
 ⟨(some 147), .bin .add (.tmp 146) (.val (.int .i64 1)), none⟩,
 ⟨(some 148), .mov (.tmp 17), none⟩,
 ⟨(some 149), .sliceS 1 (.tmp 145) (some (.tmp 147)) (some (.tmp 148)) none, none⟩,
 ⟨(some 150), .mov (.tmp 13), none⟩,
 ⟨(some 151), .call (.val (.func (.func 128) [] [])) [(.tmp 149), (.tmp 150)], none⟩,
 ⟨(some 18), .mov (.tmp 151), none⟩])
 (.seq (.seq (.region [⟨(some 152), .mov (.tmp 18), none⟩,
 ⟨(some 153), .bin .lss (.tmp 152) (.val (.int .i64 0)), none⟩])
 (.cond (.tmp 153) (.exit 3)
 (.skip)))
 (.region [⟨(some 154), .mov (.tmp 15), none⟩,
 ⟨(some 155), .mov (.tmp 18), none⟩,
 ⟨(some 156), .bin .add (.tmp 155) (.val (.int .i64 1)), none⟩,
 ⟨(some 157), .bin .add (.tmp 154) (.tmp 156), none⟩,
 ⟨(some 15), .mov (.tmp 157), none⟩])))
 (.skip)))
 (.seq (.seq (.region [⟨(some 158), .mov (.tmp 0), none⟩,
 ⟨(some 159), .mov (.tmp 15), none⟩,
 ⟨(some 160), .bin .add (.tmp 159) (.val (.int .i64 1)), none⟩,
 ⟨(some 161), .idxS 1 (.tmp 158) (.tmp 160), none⟩,
 ⟨(some 162), .load none (.tmp 161), none⟩,
 ⟨(some 163), .mov (.tmp 14), none⟩,
 ⟨(some 164), .bin .eql (.tmp 162) (.tmp 163), none⟩,
 ⟨(some 165), .mov (.tmp 164), none⟩,
 ⟨(some 166), .mov (.tmp 0), some (165, true)⟩,
 ⟨(some 167), .mov (.tmp 15), some (165, true)⟩,
 ⟨(some 168), .mov (.tmp 15), some (165, true)⟩,
 ⟨(some 169), .mov (.tmp 5), some (165, true)⟩,
 ⟨(some 170), .bin .add (.tmp 168) (.tmp 169), some (165, true)⟩,
 ⟨(some 171), .sliceS 1 (.tmp 166) (some (.tmp 167)) (some (.tmp 170)) none, some (165, true)⟩,
 ⟨(some 172), .mov (.tmp 1), some (165, true)⟩,
 ⟨(some 173), .call (.val (.func (.func 171) [] [])) [(.tmp 171), (.tmp 172)], some (165, true)⟩,
 ⟨(some 174), .pick (.tmp 165) (.tmp 173) (.val (.bool false)), none⟩])
 (.cond (.tmp 174) (.seq (.region [⟨(some 175), .mov (.tmp 15), none⟩,
 ⟨(some 4), .mov (.tmp 175), none⟩])
 (.ret))
 (.skip)))
 (.seq (.region [⟨(some 176), .mov (.tmp 15), none⟩,
 ⟨(some 177), .bin .add (.tmp 176) (.val (.int .i64 1)), none⟩,
 ⟨(some 15), .mov (.tmp 177), none⟩])
 (.seq (.region [⟨(some 178), .mov (.tmp 16), none⟩,
 ⟨(some 179), .bin .add (.tmp 178) (.val (.int .i64 1)), none⟩,
 ⟨(some 16), .mov (.tmp 179), none⟩])
 (.seq (.region [⟨(some 180), .mov (.tmp 16), none⟩,
 ⟨(some 181), .mov (.tmp 15), none⟩,
 ⟨(some 182), .bin .shr (.tmp 181) (.val (.int .u64 4)), none⟩,
 ⟨(some 183), .bin .add (.val (.int .i64 4)) (.tmp 182), none⟩,
 ⟨(some 184), .bin .geq (.tmp 180) (.tmp 183), none⟩,
 ⟨(some 185), .mov (.tmp 184), none⟩,
 ⟨(some 186), .mov (.tmp 15), some (185, true)⟩,
 ⟨(some 187), .mov (.tmp 17), some (185, true)⟩,
 ⟨(some 188), .bin .lss (.tmp 186) (.tmp 187), some (185, true)⟩,
 ⟨(some 189), .pick (.tmp 185) (.tmp 188) (.val (.bool false)), none⟩])
 (.cond (.tmp 189) (.seq (.region [⟨(some 190), .mov (.tmp 0), none⟩,
 ⟨(some 191), .mov (.tmp 15), none⟩,
 ⟨(some 192), .sliceS 1 (.tmp 190) (some (.tmp 191)) none none, none⟩,
 ⟨(some 193), .mov (.tmp 1), none⟩,
 ⟨(some 194), .call (.val (.func (.func 174) [] [])) [(.tmp 192), (.tmp 193)], none⟩,
 ⟨(some 19), .mov (.tmp 194), none⟩])
 (.seq (.seq (.region [⟨(some 195), .mov (.tmp 19), none⟩,
 ⟨(some 196), .bin .lss (.tmp 195) (.val (.int .i64 0)), none⟩])
 (.cond (.tmp 196) (.seq (.region [⟨(some 4), .mov (.val (.int .i64 (-1))), none⟩])
 (.ret))
 (.skip)))
 (.seq (.region [⟨(some 197), .mov (.tmp 15), none⟩,
 ⟨(some 198), .mov (.tmp 19), none⟩,
 ⟨(some 199), .bin .add (.tmp 197) (.tmp 198), none⟩,
 ⟨(some 4), .mov (.tmp 199), none⟩])
 (.ret))))
 (.skip)))))))))))
 (.seq (.region [⟨(some 4), .mov (.val (.int .i64 (-1))), none⟩])
 (.ret))))))))))), [.tmp 4]⟩
def c160 : RFunc := ⟨94, .code (.seq (.region [⟨(some 5), .box 24 (.tmp 0), none⟩])
 (.seq (.region [⟨(some 10), .mov (.val (.int .i64 2)), none⟩])
 (.seq (.seq (.region [⟨(some 16), .mov (.tmp 1), none⟩])
 (.cond (.tmp 16) (.region [⟨(some 10), .mov (.val (.int .i64 1)), none⟩])
 (.skip)))
 (.seq (.region [⟨(some 17), .mov (.tmp 2), none⟩,
 ⟨(some 18), .mov (.tmp 3), none⟩,
 ⟨(some 19), .mov (.tmp 4), none⟩,
 ⟨(some 20), .idxS 1 (.tmp 17) (.tmp 18), none⟩,
 ⟨none, .store 1 (.tmp 20) (.tmp 19), none⟩])
 (.seq (.region [⟨(some 21), .mov (.tmp 3), none⟩,
 ⟨(some 22), .buildSlice 3 1 1 [(.int .i64 0)] [(0, 1, (.tmp 21))], none⟩,
 ⟨(some 11), .mov (.tmp 22), none⟩])
 (.block 0 (.loop (.seq (.seq (.region [⟨(some 23), .mov (.tmp 11), none⟩,
 ⟨(some 24), .lenS (.tmp 23), none⟩,
 ⟨(some 25), .bin .gtr (.tmp 24) (.val (.int .i64 0)), none⟩])
 (.cond (.tmp 25) (.skip)
 (.exit 0)))
 (.block 1 (.seq (.region [⟨(some 26), .mov (.tmp 11), none⟩,
 ⟨(some 27), .mov (.tmp 11), none⟩,
 ⟨(some 28), .lenS (.tmp 27), none⟩,
 ⟨(some 29), .bin .sub (.tmp 28) (.val (.int .i64 1)), none⟩,
 ⟨(some 30), .idxS 1 (.tmp 26) (.tmp 29), none⟩,
 ⟨(some 31), .load none (.tmp 30), none⟩,
 ⟨(some 12), .mov (.tmp 31), none⟩])
 (.seq (.region [⟨(some 32), .mov (.tmp 11), none⟩,
 ⟨(some 33), .mov (.tmp 11), none⟩,
 ⟨(some 34), .lenS (.tmp 33), none⟩,
 ⟨(some 35), .bin .sub (.tmp 34) (.val (.int .i64 1)), none⟩,
 ⟨(some 36), .sliceS 1 (.tmp 32) none (some (.tmp 35)) none, none⟩,
 ⟨(some 11), .mov (.tmp 36), none⟩])
 (.seq (.region [⟨(some 13), .mov (.val (.int .i64 0)), none⟩])
 (.block 2 (.loop (.seq (.seq (.region [⟨(some 37), .mov (.tmp 13), none⟩,
 ⟨(some 38), .bin .lss (.tmp 37) (.val (.int .i64 8)), none⟩])
 (.cond (.tmp 38) (.skip)
 (.exit 2)))
 (.seq (.block 3 (.seq (.dregion [⟨⟨(some 42), .mov (.tmp 12), none⟩, 0, 0, true⟩,
 ⟨⟨(some 43), .fieldAddr 0 (.tmp 5), none⟩, 0, 0, true⟩,
 ⟨⟨(some 44), .load none (.tmp 43), none⟩, 2, 1, true⟩,
 ⟨⟨(some 45), .bin .rem (.tmp 42) (.tmp 44), none⟩, 7, 0, true⟩,
 ⟨⟨(some 46), .mov (.tmp 13), none⟩, 0, 0, true⟩,
 ⟨⟨(some 47), .idxA 8 2 (.val (.ptr 0 0)) (.tmp 46), none⟩, 16, 0, true⟩,
 ⟨⟨(some 48), .fieldAddr 0 (.tmp 47), none⟩, 48, 0, true⟩,
 ⟨⟨(some 49), .load none (.tmp 48), none⟩, 112, 1, true⟩,
 ⟨⟨(some 50), .bin .add (.tmp 45) (.tmp 49), none⟩, 255, 0, true⟩,
 ⟨⟨(some 51), .mov (.tmp 12), none⟩, 0, 0, true⟩,
 ⟨⟨(some 52), .fieldAddr 0 (.tmp 5), none⟩, 0, 0, true⟩,
 ⟨⟨(some 53), .load none (.tmp 52), none⟩, 1024, 1, true⟩,
 ⟨⟨(some 54), .bin .quo (.tmp 51) (.tmp 53), none⟩, 3584, 0, true⟩,
 ⟨⟨(some 55), .mov (.tmp 13), none⟩, 0, 0, true⟩,
 ⟨⟨(some 56), .idxA 8 2 (.val (.ptr 0 0)) (.tmp 55), none⟩, 8192, 0, true⟩,
 ⟨⟨(some 57), .fieldAddr 1 (.tmp 56), none⟩, 24576, 0, true⟩,
 ⟨⟨(some 58), .load none (.tmp 57), none⟩, 57344, 1, true⟩,
 ⟨⟨(some 59), .bin .add (.tmp 54) (.tmp 58), none⟩, 130560, 0, true⟩,
 ⟨⟨(some 14), .mov (.tmp 50), none⟩, 511, 0, true⟩,
 ⟨⟨(some 15), .mov (.tmp 59), none⟩, 524287, 0, true⟩])
 (.seq (.region [⟨(some 60), .load (some 3) (.tmp 5), none⟩,
 ⟨(some 61), .mov (.tmp 14), none⟩,
 ⟨(some 62), .mov (.tmp 15), none⟩,
 ⟨(some 63), .call (.val (.func (.func 109) [] [])) [(.tmp 60), (.tmp 61), (.tmp 62)], none⟩,
 ⟨(some 64), .mov (.tmp 63), none⟩,
 ⟨(some 65), .mov (.tmp 2), some (64, true)⟩,
 ⟨(some 66), .mov (.tmp 15), some (64, true)⟩,
 ⟨(some 67), .fieldAddr 0 (.tmp 5), some (64, true)⟩,
 ⟨(some 68), .load none (.tmp 67), some (64, true)⟩,
 ⟨(some 69), .bin .mul (.tmp 66) (.tmp 68), some (64, true)⟩,
 ⟨(some 70), .mov (.tmp 14), some (64, true)⟩,
 ⟨(some 71), .bin .add (.tmp 69) (.tmp 70), some (64, true)⟩,
 ⟨(some 72), .idxS 1 (.tmp 65) (.tmp 71), some (64, true)⟩,
 ⟨(some 73), .load none (.tmp 72), some (64, true)⟩,
 ⟨(some 74), .bin .eql (.tmp 73) (.val (.int .i64 0)), some (64, true)⟩,
 ⟨(some 75), .pick (.tmp 64) (.tmp 74) (.val (.bool false)), none⟩])
 (.cond (.tmp 75) (.seq (.region [⟨(some 76), .mov (.tmp 2), none⟩,
 ⟨(some 77), .mov (.tmp 15), none⟩,
 ⟨(some 78), .fieldAddr 0 (.tmp 5), none⟩,
 ⟨(some 79), .load none (.tmp 78), none⟩,
 ⟨(some 80), .bin .mul (.tmp 77) (.tmp 79), none⟩,
 ⟨(some 81), .mov (.tmp 14), none⟩,
 ⟨(some 82), .bin .add (.tmp 80) (.tmp 81), none⟩,
 ⟨(some 83), .mov (.tmp 4), none⟩,
 ⟨(some 84), .idxS 1 (.tmp 76) (.tmp 82), none⟩,
 ⟨none, .store 1 (.tmp 84) (.tmp 83), none⟩])
 (.region [⟨(some 85), .mov (.tmp 11), none⟩,
 ⟨(some 86), .mov (.tmp 15), none⟩,
 ⟨(some 87), .fieldAddr 0 (.tmp 5), none⟩,
 ⟨(some 88), .load none (.tmp 87), none⟩,
 ⟨(some 89), .bin .mul (.tmp 86) (.tmp 88), none⟩,
 ⟨(some 90), .mov (.tmp 14), none⟩,
 ⟨(some 91), .bin .add (.tmp 89) (.tmp 90), none⟩,
 ⟨(some 92), .buildSlice 3 1 1 [(.int .i64 0)] [(0, 1, (.tmp 91))], none⟩,
 ⟨(some 93), .append 3 1 8 (.tmp 85) (.tmp 92), none⟩,
 ⟨(some 11), .mov (.tmp 93), none⟩]))
 (.skip)))))
 (.region [⟨(some 39), .mov (.tmp 13), none⟩,
 ⟨(some 40), .mov (.tmp 10), none⟩,
 ⟨(some 41), .bin .add (.tmp 39) (.tmp 40), none⟩,
 ⟨(some 13), .mov (.tmp 41), none⟩]))))))))))))))))), []⟩
def c163 : RFunc := ⟨29, .code (.seq (.region [⟨(some 1), .box 181 (.tmp 0), none⟩,
 ⟨(some 2), .mov (.val (.int .i64 0)), none⟩])
 (.seq (.region [⟨(some 3), .mov (.val (.int .i64 0)), none⟩])
 (.seq (.seq (.region [⟨(some 4), .mov (.val (.int .i64 0)), none⟩])
 (.block 0 (.loop (.seq (.seq (.region [⟨(some 5), .mov (.tmp 4), none⟩,
 ⟨(some 6), .bin .lss (.tmp 5) (.val (.int .i64 8)), none⟩])
 (.cond (.tmp 6) (.skip)
 (.exit 0)))
 (.seq (.block 1 (.seq (.region [⟨(some 9), .mov (.tmp 4), none⟩,
 ⟨(some 10), .idxA 8 1 (.tmp 1) (.tmp 9), none⟩,
 ⟨(some 11), .load none (.tmp 10), none⟩,
 ⟨(some 12), .un .not (.tmp 11), none⟩,
 ⟨(some 13), .mov (.tmp 12), none⟩,
 ⟨(some 14), .mov (.tmp 4), some (13, true)⟩,
 ⟨(some 15), .bin .add (.tmp 14) (.val (.int .i64 1)), some (13, true)⟩,
 ⟨(some 16), .idxA 8 1 (.tmp 1) (.tmp 15), some (13, true)⟩,
 ⟨(some 17), .load none (.tmp 16), some (13, true)⟩,
 ⟨(some 18), .mov (.tmp 17), some (13, true)⟩,
 ⟨(some 19), .mov (.tmp 4), some (18, false)⟩,
 ⟨(some 20), .bin .add (.tmp 19) (.val (.int .i64 2)), some (18, false)⟩,
 ⟨(some 21), .bin .rem (.tmp 20) (.val (.int .i64 8)), some (18, false)⟩,
 ⟨(some 22), .idxA 8 1 (.tmp 1) (.tmp 21), some (18, false)⟩,
 ⟨(some 23), .load none (.tmp 22), some (18, false)⟩,
 ⟨(some 24), .pick (.tmp 18) (.val (.bool true)) (.tmp 23), some (13, true)⟩,
 ⟨(some 25), .pick (.tmp 13) (.tmp 24) (.val (.bool false)), none⟩])
 (.cond (.tmp 25) (.region [⟨(some 26), .mov (.tmp 3), none⟩,
 ⟨(some 27), .bin .add (.tmp 26) (.val (.int .i64 1)), none⟩,
 ⟨(some 3), .mov (.tmp 27), none⟩])
 (.skip))))
 (.region [⟨(some 7), .mov (.tmp 4), none⟩,
 ⟨(some 8), .bin .add (.tmp 7) (.val (.int .i64 2)), none⟩,
 ⟨(some 4), .mov (.tmp 8), none⟩]))))))
 (.seq (.region [⟨(some 28), .mov (.tmp 3), none⟩,
 ⟨(some 2), .mov (.tmp 28), none⟩])
 (.ret))))), [.tmp 2]⟩
def c164 : RFunc := ⟨20, .code (.seq (.region [⟨(some 2), .mov (.tmp 0), none⟩,
 ⟨(some 3), .nilCheck (.tmp 2), none⟩,
 ⟨(some 4), .fieldAddr 0 (.tmp 3), none⟩,
 ⟨(some 5), .load none (.tmp 4), none⟩,
 ⟨(some 6), .eq false .ptr (.tmp 5) (.val .nptr), none⟩])
 (.cond (.tmp 6) (.region [⟨(some 7), .mov (.tmp 0), none⟩,
 ⟨(some 8), .mov (.tmp 0), none⟩,
 ⟨(some 9), .uptr 153 2 (.tmp 8), none⟩,
 ⟨(some 10), .call (.val (.func (.func 175) [] [])) [(.tmp 9)], none⟩,
 ⟨(some 11), .uptr 153 2 (.tmp 10), none⟩,
 ⟨(some 12), .nilCheck (.tmp 7), none⟩,
 ⟨(some 13), .fieldAddr 0 (.tmp 12), none⟩,
 ⟨none, .store 1 (.tmp 13) (.tmp 11), none⟩])
 (.seq (.region [⟨(some 14), .mov (.tmp 0), none⟩,
 ⟨(some 15), .nilCheck (.tmp 14), none⟩,
 ⟨(some 16), .fieldAddr 0 (.tmp 15), none⟩,
 ⟨(some 17), .load none (.tmp 16), none⟩,
 ⟨(some 18), .mov (.tmp 0), none⟩,
 ⟨(some 19), .eq true .ptr (.tmp 17) (.tmp 18), none⟩])
 (.cond (.tmp 19) (.fail)
 (.skip))))), []⟩
def c165 : RFunc := ⟨5, .code (.seq (.region [⟨(some 2), .mov (.val (.str ⟨#[]⟩)), none⟩])
 (.seq (.region [⟨(some 3), .mov (.tmp 0), none⟩,
 ⟨(some 4), .call (.val (.func (.func 176) [] [])) [(.tmp 3), (.val (.int .i64 10))], none⟩,
 ⟨(some 2), .mov (.tmp 4), none⟩])
 (.ret))), [.tmp 2]⟩
def c170 : RFunc := ⟨10, .code (.seq (.region [⟨(some 2), .mov (.val (.int .i64 0)), none⟩])
 (.seq (.seq (.fail)
 (.block 0 (.loop (.seq (.fail)
 (.seq (.cond (.tmp 6) (.skip)
 (.exit 0))
 (.block 1 (.region [⟨(some 7), .mov (.tmp 2), none⟩,
 ⟨(some 8), .bin .add (.tmp 7) (.val (.int .i64 1)), none⟩,
 ⟨(some 2), .mov (.tmp 8), none⟩])))))))
 (.seq (.region [⟨(some 9), .mov (.tmp 2), none⟩,
 ⟨(some 2), .mov (.tmp 9), none⟩])
 (.ret)))), [.tmp 2]⟩
def c171 : RFunc := ⟨10, .code (.seq (.region [⟨(some 4), .mov (.val (.bool false)), none⟩])
 (.seq (.region [⟨(some 5), .mov (.tmp 0), none⟩,
 ⟨(some 6), .bytesToStr (.tmp 5), none⟩,
 ⟨(some 7), .mov (.tmp 1), none⟩,
 ⟨(some 8), .bytesToStr (.tmp 7), none⟩,
 ⟨(some 9), .bin .eql (.tmp 6) (.tmp 8), none⟩,
 ⟨(some 4), .mov (.tmp 9), none⟩])
 (.ret))), [.tmp 4]⟩
def c173 : RFunc := ⟨6, .code (.seq (.region [⟨(some 2), .mov (.val (.int .i64 0)), none⟩])
 (.seq (.region [⟨(some 3), .mov (.tmp 0), none⟩,
 ⟨(some 4), .bin .add (.tmp 3) (.val (.int .i64 16)), none⟩,
 ⟨(some 5), .bin .quo (.tmp 4) (.val (.int .i64 8)), none⟩,
 ⟨(some 2), .mov (.tmp 5), none⟩])
 (.ret))), [.tmp 2]⟩
def c174 : RFunc := ⟨88, .code (.seq (.region [⟨(some 4), .mov (.val (.int .i64 0)), none⟩])
 (.seq (.region [⟨(some 12), .mov (.tmp 1), none⟩,
 ⟨(some 13), .call (.val (.func (.func 179) [] [])) [(.tmp 12)], none⟩,
 ⟨(some 11), .mov (.tmp 13), none⟩,
 ⟨(some 14), .extract (.tmp 11) 0, none⟩,
 ⟨(some 15), .extract (.tmp 11) 1, none⟩,
 ⟨(some 5), .mov (.tmp 14), none⟩,
 ⟨(some 6), .mov (.tmp 15), none⟩])
 (.seq (.region [⟨(some 16), .mov (.tmp 1), none⟩,
 ⟨(some 17), .lenS (.tmp 16), none⟩,
 ⟨(some 7), .mov (.tmp 17), none⟩])
 (.seq (.region [⟨(some 8), .mov (.val (.int .u32 0)), none⟩])
 (.seq (.seq (.region [⟨(some 9), .mov (.val (.int .i64 0)), none⟩])
 (.block 0 (.loop (.seq (.seq (.region [⟨(some 18), .mov (.tmp 9), none⟩,
 ⟨(some 19), .mov (.tmp 7), none⟩,
 ⟨(some 20), .bin .lss (.tmp 18) (.tmp 19), none⟩])
 (.cond (.tmp 20) (.skip)
 (.exit 0)))
 (.seq (.block 1 (.region [⟨(some 23), .mov (.tmp 8), none⟩,
 ⟨(some 24), .bin .mul (.tmp 23) (.val (.int .u32 16777619)), none⟩,
 ⟨(some 25), .mov (.tmp 0), none⟩,
 ⟨(some 26), .mov (.tmp 9), none⟩,
 ⟨(some 27), .idxS 1 (.tmp 25) (.tmp 26), none⟩,
 ⟨(some 28), .load none (.tmp 27), none⟩,
 ⟨(some 29), .convInt .u32 (.tmp 28), none⟩,
 ⟨(some 30), .bin .add (.tmp 24) (.tmp 29), none⟩,
 ⟨(some 8), .mov (.tmp 30), none⟩]))
 (.region [⟨(some 21), .mov (.tmp 9), none⟩,
 ⟨(some 22), .bin .add (.tmp 21) (.val (.int .i64 1)), none⟩,
 ⟨(some 9), .mov (.tmp 22), none⟩]))))))
 (.seq (.seq (.dregion [⟨⟨(some 31), .mov (.tmp 8), none⟩, 0, 0, true⟩,
 ⟨⟨(some 32), .mov (.tmp 5), none⟩, 0, 0, true⟩,
 ⟨⟨(some 33), .bin .eql (.tmp 31) (.tmp 32), none⟩, 3, 0, true⟩,
 ⟨⟨(some 34), .mov (.tmp 33), none⟩, 7, 0, true⟩,
 ⟨⟨(some 35), .mov (.tmp 0), some (34, true)⟩, 15, 0, true⟩,
 ⟨⟨(some 36), .mov (.tmp 7), some (34, true)⟩, 15, 0, true⟩,
 ⟨⟨(some 37), .sliceS 1 (.tmp 35) none (some (.tmp 36)) none, some (34, true)⟩, 63, 1, true⟩,
 ⟨⟨(some 38), .bytesToStr (.tmp 37), some (34, true)⟩, 127, 1, true⟩,
 ⟨⟨(some 39), .mov (.tmp 1), some (34, true)⟩, 15, 0, true⟩,
 ⟨⟨(some 40), .bytesToStr (.tmp 39), some (34, true)⟩, 271, 1, true⟩,
 ⟨⟨(some 41), .bin .eql (.tmp 38) (.tmp 40), some (34, true)⟩, 1023, 0, true⟩,
 ⟨⟨(some 42), .pick (.tmp 34) (.tmp 41) (.val (.bool false)), none⟩, 2047, 0, true⟩])
 (.cond (.tmp 42) (.seq (.region [⟨(some 4), .mov (.val (.int .i64 0)), none⟩])
 (.ret))
 (.skip)))
 (.seq (.seq (.region [⟨(some 43), .mov (.tmp 7), none⟩,
 ⟨(some 10), .mov (.tmp 43), none⟩])
 (.block 2 (.loop (.seq (.seq (.region [⟨(some 44), .mov (.tmp 10), none⟩,
 ⟨(some 45), .mov (.tmp 0), none⟩,
 ⟨(some 46), .lenS (.tmp 45), none⟩,
 ⟨(some 47), .bin .lss (.tmp 44) (.tmp 46), none⟩])
 (.cond (.tmp 47) (.skip)
 (.exit 2)))
 (.block 3 (.seq (.region [⟨(some 48), .mov (.tmp 8), none⟩,
 ⟨(some 49), .bin .mul (.tmp 48) (.val (.int .u32 16777619)), none⟩,
 ⟨(some 8), .mov (.tmp 49), none⟩])
 (.seq (.region [⟨(some 50), .mov (.tmp 8), none⟩,
 ⟨(some 51), .mov (.tmp 0), none⟩,
 ⟨(some 52), .mov (.tmp 10), none⟩,
 ⟨(some 53), .idxS 1 (.tmp 51) (.tmp 52), none⟩,
 ⟨(some 54), .load none (.tmp 53), none⟩,
 ⟨(some 55), .convInt .u32 (.tmp 54), none⟩,
 ⟨(some 56), .bin .add (.tmp 50) (.tmp 55), none⟩,
 ⟨(some 8), .mov (.tmp 56), none⟩])
 (.seq (.region [⟨(some 57), .mov (.tmp 8), none⟩,
 ⟨(some 58), .mov (.tmp 6), none⟩,
 ⟨(some 59), .mov (.tmp 0), none⟩,
 ⟨(some 60), .mov (.tmp 10), none⟩,
 ⟨(some 61), .mov (.tmp 7), none⟩,
 ⟨(some 62), .bin .sub (.tmp 60) (.tmp 61), none⟩,
 ⟨(some 63), .idxS 1 (.tmp 59) (.tmp 62), none⟩,
 ⟨(some 64), .load none (.tmp 63), none⟩,
 ⟨(some 65), .convInt .u32 (.tmp 64), none⟩,
 ⟨(some 66), .bin .mul (.tmp 58) (.tmp 65), none⟩,
 ⟨(some 67), .bin .sub (.tmp 57) (.tmp 66), none⟩,
 ⟨(some 8), .mov (.tmp 67), none⟩])
 (.seq (.region [⟨(some 68), .mov (.tmp 10), none⟩,
 ⟨(some 69), .bin .add (.tmp 68) (.val (.int .i64 1)), none⟩,
 ⟨(some 10), .mov (.tmp 69), none⟩])
 (.seq (.dregion [⟨⟨(some 70), .mov (.tmp 8), none⟩, 0, 0, true⟩,
 ⟨⟨(some 71), .mov (.tmp 5), none⟩, 0, 0, true⟩,
 ⟨⟨(some 72), .bin .eql (.tmp 70) (.tmp 71), none⟩, 3, 0, true⟩,
 ⟨⟨(some 73), .mov (.tmp 72), none⟩, 7, 0, true⟩,
 ⟨⟨(some 74), .mov (.tmp 0), some (73, true)⟩, 15, 0, true⟩,
 ⟨⟨(some 75), .mov (.tmp 10), some (73, true)⟩, 15, 0, true⟩,
 ⟨⟨(some 76), .mov (.tmp 7), some (73, true)⟩, 15, 0, true⟩,
 ⟨⟨(some 77), .bin .sub (.tmp 75) (.tmp 76), some (73, true)⟩, 111, 0, true⟩,
 ⟨⟨(some 78), .mov (.tmp 10), some (73, true)⟩, 15, 0, true⟩,
 ⟨⟨(some 79), .sliceS 1 (.tmp 74) (some (.tmp 77)) (some (.tmp 78)) none, some (73, true)⟩, 511, 1, true⟩,
 ⟨⟨(some 80), .bytesToStr (.tmp 79), some (73, true)⟩, 1023, 1, true⟩,
 ⟨⟨(some 81), .mov (.tmp 1), some (73, true)⟩, 15, 0, true⟩,
 ⟨⟨(some 82), .bytesToStr (.tmp 81), some (73, true)⟩, 2063, 1, true⟩,
 ⟨⟨(some 83), .bin .eql (.tmp 80) (.tmp 82), some (73, true)⟩, 8191, 0, true⟩,
 ⟨⟨(some 84), .pick (.tmp 73) (.tmp 83) (.val (.bool false)), none⟩, 16383, 0, true⟩])
 (.cond (.tmp 84) (.seq (.region [⟨(some 85), .mov (.tmp 10), none⟩,
 ⟨(some 86), .mov (.tmp 7), none⟩,
 ⟨(some 87), .bin .sub (.tmp 85) (.tmp 86), none⟩,
 ⟨(some 4), .mov (.tmp 87), none⟩])
 (.ret))
 (.skip))))))))))))
 (.seq (.region [⟨(some 4), .mov (.val (.int .i64 (-1))), none⟩])
 (.ret))))))))), [.tmp 4]⟩
def c176 : RFunc := ⟨54, .code (.seq (.region [⟨(some 4), .mov (.val (.str ⟨#[]⟩)), none⟩])
 (.seq (.seq (.region [⟨(some 10), .mov (.tmp 1), none⟩,
 ⟨(some 11), .bin .eql (.tmp 10) (.val (.int .i64 10)), none⟩])
 (.cond (.tmp 11) (.seq (.seq (.region [⟨(some 12), .mov (.tmp 0), none⟩,
 ⟨(some 13), .bin .leq (.val (.int .i64 0)) (.tmp 12), none⟩,
 ⟨(some 14), .mov (.tmp 13), none⟩,
 ⟨(some 15), .mov (.tmp 0), some (14, true)⟩,
 ⟨(some 16), .bin .lss (.tmp 15) (.val (.int .i64 100)), some (14, true)⟩,
 ⟨(some 17), .pick (.tmp 14) (.tmp 16) (.val (.bool false)), none⟩])
 (.cond (.tmp 17) (.seq (.region [⟨(some 18), .mov (.tmp 0), none⟩,
 ⟨(some 19), .call (.val (.func (.func 180) [] [])) [(.tmp 18)], none⟩,
 ⟨(some 4), .mov (.tmp 19), none⟩])
 (.ret))
 (.skip)))
 (.seq (.region [⟨(some 5), .new 198 [(.int .u8 0), (.int .u8 0), (.int .u8 0), (.int .u8 0), (.int .u8 0), (.int .u8 0), (.int .u8 0), (.int .u8 0), (.int .u8 0), (.int .u8 0), (.int .u8 0), (.int .u8 0), (.int .u8 0), (.int .u8 0), (.int .u8 0), (.int .u8 0), (.int .u8 0), (.int .u8 0), (.int .u8 0), (.int .u8 0), (.int .u8 0), (.int .u8 0), (.int .u8 0), (.int .u8 0)], none⟩])
 (.seq (.region [⟨(some 20), .mov (.tmp 0), none⟩,
 ⟨(some 21), .convInt .u64 (.tmp 20), none⟩,
 ⟨(some 6), .mov (.tmp 21), none⟩])
 (.seq (.seq (.region [⟨(some 22), .mov (.tmp 0), none⟩,
 ⟨(some 23), .bin .lss (.tmp 22) (.val (.int .i64 0)), none⟩])
 (.cond (.tmp 23) (.region [⟨(some 24), .mov (.tmp 6), none⟩,
 ⟨(some 25), .un .neg (.tmp 24), none⟩,
 ⟨(some 6), .mov (.tmp 25), none⟩])
 (.skip)))
 (.seq (.region [⟨(some 26), .mov (.tmp 6), none⟩,
 ⟨(some 27), .call (.val (.func (.func 181) [] [])) [(.tmp 26)], none⟩,
 ⟨(some 7), .mov (.tmp 27), none⟩])
 (.seq (.region [⟨(some 28), .mov (.tmp 7), none⟩,
 ⟨(some 29), .bin .add (.val (.int .i64 1)) (.tmp 28), none⟩,
 ⟨(some 30), .sliceArr 24 1 (.tmp 5) (some (.val (.int .i64 1))) (some (.tmp 29)) none, none⟩,
 ⟨(some 31), .mov (.tmp 6), none⟩,
 ⟨(some 32), .call (.val (.func (.func 182) [] [])) [(.tmp 30), (.tmp 31)], none⟩])
 (.seq (.seq (.region [⟨(some 33), .mov (.tmp 0), none⟩,
 ⟨(some 34), .bin .lss (.tmp 33) (.val (.int .i64 0)), none⟩])
 (.cond (.tmp 34) (.seq (.region [⟨(some 35), .idxA 24 1 (.tmp 5) (.val (.int .i64 0)), none⟩,
 ⟨none, .store 1 (.tmp 35) (.val (.int .u8 45)), none⟩])
 (.seq (.region [⟨(some 36), .mov (.tmp 7), none⟩,
 ⟨(some 37), .bin .add (.val (.int .i64 1)) (.tmp 36), none⟩,
 ⟨(some 38), .sliceArr 24 1 (.tmp 5) none (some (.tmp 37)) none, none⟩,
 ⟨(some 39), .bytesToStr (.tmp 38), none⟩,
 ⟨(some 4), .mov (.tmp 39), none⟩])
 (.ret)))
 (.skip)))
 (.seq (.region [⟨(some 40), .mov (.tmp 7), none⟩,
 ⟨(some 41), .bin .add (.val (.int .i64 1)) (.tmp 40), none⟩,
 ⟨(some 42), .sliceArr 24 1 (.tmp 5) (some (.val (.int .i64 1))) (some (.tmp 41)) none, none⟩,
 ⟨(some 43), .bytesToStr (.tmp 42), none⟩,
 ⟨(some 4), .mov (.tmp 43), none⟩])
 (.ret)))))))))
 (.skip)))
 (.seq (.region [⟨(some 45), .mov (.tmp 0), none⟩,
 ⟨(some 46), .convInt .u64 (.tmp 45), none⟩,
 ⟨(some 47), .mov (.tmp 1), none⟩,
 ⟨(some 48), .mov (.tmp 0), none⟩,
 ⟨(some 49), .bin .lss (.tmp 48) (.val (.int .i64 0)), none⟩,
 ⟨(some 50), .call (.val (.func (.func 183) [] [])) [(.val .nslice), (.tmp 46), (.tmp 47), (.tmp 49), (.val (.bool false))], none⟩,
 ⟨(some 44), .mov (.tmp 50), none⟩,
 ⟨(some 51), .extract (.tmp 44) 0, none⟩,
 ⟨(some 52), .extract (.tmp 44) 1, none⟩,
 ⟨(some 8), .mov (.tmp 51), none⟩,
 ⟨(some 9), .mov (.tmp 52), none⟩])
 (.seq (.region [⟨(some 53), .mov (.tmp 9), none⟩,
 ⟨(some 4), .mov (.tmp 53), none⟩])
 (.ret))))), [.tmp 4]⟩
def c179 : RFunc := ⟨40, .code (.seq (.region [⟨(some 2), .mov (.val (.int .u32 0)), none⟩,
 ⟨(some 3), .mov (.val (.int .u32 0)), none⟩])
 (.seq (.region [⟨(some 4), .mov (.val (.int .u32 0)), none⟩])
 (.seq (.seq (.region [⟨(some 5), .mov (.val (.int .i64 0)), none⟩])
 (.block 0 (.loop (.seq (.seq (.region [⟨(some 9), .mov (.tmp 5), none⟩,
 ⟨(some 10), .mov (.tmp 0), none⟩,
 ⟨(some 11), .lenS (.tmp 10), none⟩,
 ⟨(some 12), .bin .lss (.tmp 9) (.tmp 11), none⟩])
 (.cond (.tmp 12) (.skip)
 (.exit 0)))
 (.seq (.block 1 (.region [⟨(some 15), .mov (.tmp 4), none⟩,
 ⟨(some 16), .bin .mul (.tmp 15) (.val (.int .u32 16777619)), none⟩,
 ⟨(some 17), .mov (.tmp 0), none⟩,
 ⟨(some 18), .mov (.tmp 5), none⟩,
 ⟨(some 19), .idxS 1 (.tmp 17) (.tmp 18), none⟩,
 ⟨(some 20), .load none (.tmp 19), none⟩,
 ⟨(some 21), .convInt .u32 (.tmp 20), none⟩,
 ⟨(some 22), .bin .add (.tmp 16) (.tmp 21), none⟩,
 ⟨(some 4), .mov (.tmp 22), none⟩]))
 (.region [⟨(some 13), .mov (.tmp 5), none⟩,
 ⟨(some 14), .bin .add (.tmp 13) (.val (.int .i64 1)), none⟩,
 ⟨(some 5), .mov (.tmp 14), none⟩]))))))
 (.seq (.region [⟨(some 6), .mov (.val (.int .u32 1)), none⟩,
 ⟨(some 7), .mov (.val (.int .u32 16777619)), none⟩])
 (.seq (.seq (.region [⟨(some 23), .mov (.tmp 0), none⟩,
 ⟨(some 24), .lenS (.tmp 23), none⟩,
 ⟨(some 8), .mov (.tmp 24), none⟩])
 (.block 2 (.loop (.seq (.seq (.region [⟨(some 25), .mov (.tmp 8), none⟩,
 ⟨(some 26), .bin .gtr (.tmp 25) (.val (.int .i64 0)), none⟩])
 (.cond (.tmp 26) (.skip)
 (.exit 2)))
 (.seq (.block 3 (.seq (.seq (.region [⟨(some 29), .mov (.tmp 8), none⟩,
 ⟨(some 30), .bin .and (.tmp 29) (.val (.int .i64 1)), none⟩,
 ⟨(some 31), .bin .neq (.tmp 30) (.val (.int .i64 0)), none⟩])
 (.cond (.tmp 31) (.region [⟨(some 32), .mov (.tmp 6), none⟩,
 ⟨(some 33), .mov (.tmp 7), none⟩,
 ⟨(some 34), .bin .mul (.tmp 32) (.tmp 33), none⟩,
 ⟨(some 6), .mov (.tmp 34), none⟩])
 (.skip)))
 (.region [⟨(some 35), .mov (.tmp 7), none⟩,
 ⟨(some 36), .mov (.tmp 7), none⟩,
 ⟨(some 37), .bin .mul (.tmp 35) (.tmp 36), none⟩,
 ⟨(some 7), .mov (.tmp 37), none⟩])))
 (.region [⟨(some 27), .mov (.tmp 8), none⟩,
 ⟨(some 28), .bin .shr (.tmp 27) (.val (.int .u64 1)), none⟩,
 ⟨(some 8), .mov (.tmp 28), none⟩]))))))
 (.seq (.region [⟨(some 38), .mov (.tmp 4), none⟩,
 ⟨(some 39), .mov (.tmp 6), none⟩,
 ⟨(some 2), .mov (.tmp 38), none⟩,
 ⟨(some 3), .mov (.tmp 39), none⟩])
 (.ret))))))), [.tmp 2, .tmp 3]⟩
def c180 : RFunc := ⟨15, .code (.seq (.region [⟨(some 2), .mov (.val (.str ⟨#[]⟩)), none⟩])
 (.seq (.seq (.region [⟨(some 3), .mov (.tmp 0), none⟩,
 ⟨(some 4), .bin .lss (.tmp 3) (.val (.int .i64 10)), none⟩])
 (.cond (.tmp 4) (.seq (.region [⟨(some 5), .mov (.tmp 0), none⟩,
 ⟨(some 6), .mov (.tmp 0), none⟩,
 ⟨(some 7), .bin .add (.tmp 6) (.val (.int .i64 1)), none⟩,
 ⟨(some 8), .sliceStr (.val (.str ⟨#[48, 49, 50, 51, 52, 53, 54, 55, 56, 57, 97, 98, 99, 100, 101, 102, 103, 104, 105, 106, 107, 108, 109, 110, 111, 112, 113, 114, 115, 116, 117, 118, 119, 120, 121, 122]⟩)) (some (.tmp 5)) (some (.tmp 7)), none⟩,
 ⟨(some 2), .mov (.tmp 8), none⟩])
 (.ret))
 (.skip)))
 (.seq (.region [⟨(some 9), .mov (.tmp 0), none⟩,
 ⟨(some 10), .bin .mul (.tmp 9) (.val (.int .i64 2)), none⟩,
 ⟨(some 11), .mov (.tmp 0), none⟩,
 ⟨(some 12), .bin .mul (.tmp 11) (.val (.int .i64 2)), none⟩,
 ⟨(some 13), .bin .add (.tmp 12) (.val (.int .i64 2)), none⟩,
 ⟨(some 14), .sliceStr (.val (.str ⟨#[48, 48, 48, 49, 48, 50, 48, 51, 48, 52, 48, 53, 48, 54, 48, 55, 48, 56, 48, 57, 49, 48, 49, 49, 49, 50, 49, 51, 49, 52, 49, 53, 49, 54, 49, 55, 49, 56, 49, 57, 50, 48, 50, 49, 50, 50, 50, 51, 50, 52, 50, 53, 50, 54, 50, 55, 50, 56, 50, 57, 51, 48, 51, 49, 51, 50, 51, 51, 51, 52, 51, 53, 51, 54, 51, 55, 51, 56, 51, 57, 52, 48, 52, 49, 52, 50, 52, 51, 52, 52, 52, 53, 52, 54, 52, 55, 52, 56, 52, 57, 53, 48, 53, 49, 53, 50, 53, 51, 53, 52, 53, 53, 53, 54, 53, 55, 53, 56, 53, 57, 54, 48, 54, 49, 54, 50, 54, 51, 54, 52, 54, 53, 54, 54, 54, 55, 54, 56, 54, 57, 55, 48, 55, 49, 55, 50, 55, 51, 55, 52, 55, 53, 55, 54, 55, 55, 55, 56, 55, 57, 56, 48, 56, 49, 56, 50, 56, 51, 56, 52, 56, 53, 56, 54, 56, 55, 56, 56, 56, 57, 57, 48, 57, 49, 57, 50, 57, 51, 57, 52, 57, 53, 57, 54, 57, 55, 57, 56, 57, 57]⟩)) (some (.tmp 10)) (some (.tmp 13)), none⟩,
 ⟨(some 2), .mov (.tmp 14), none⟩])
 (.ret)))), [.tmp 2]⟩
def c181 : RFunc := ⟨15, .code (.seq (.region [⟨(some 2), .mov (.val (.int .i64 0)), none⟩])
 (.seq (.region [⟨(some 4), .mov (.tmp 0), none⟩,
 ⟨(some 5), .call (.val (.func (.func 188) [] [])) [(.tmp 4)], none⟩,
 ⟨(some 6), .call (.val (.func (.func 187) [] [])) [(.tmp 5)], none⟩,
 ⟨(some 3), .mov (.tmp 6), none⟩])
 (.seq (.region [⟨(some 7), .mov (.tmp 3), none⟩,
 ⟨(some 8), .mov (.tmp 0), none⟩,
 ⟨(some 9), .mov (.tmp 3), none⟩,
 ⟨(some 10), .idxA 20 1 (.val (.ptr 2 0)) (.tmp 9), none⟩,
 ⟨(some 11), .load none (.tmp 10), none⟩,
 ⟨(some 12), .bin .geq (.tmp 8) (.tmp 11), none⟩,
 ⟨(some 13), .call (.val (.func (.func 189) [] [])) [(.tmp 12)], none⟩,
 ⟨(some 14), .bin .add (.tmp 7) (.tmp 13), none⟩,
 ⟨(some 2), .mov (.tmp 14), none⟩])
 (.ret)))), [.tmp 2]⟩
def c182 : RFunc := ⟨167, .code (.seq (.region [⟨(some 17), .mov (.tmp 0), none⟩,
 ⟨(some 18), .lenS (.tmp 17), none⟩,
 ⟨(some 4), .mov (.tmp 18), none⟩])
 (.seq (.block 0 (.loop (.seq (.seq (.region [⟨(some 19), .mov (.tmp 4), none⟩,
 ⟨(some 20), .bin .geq (.tmp 19) (.val (.int .i64 8)), none⟩])
 (.cond (.tmp 20) (.skip)
 (.exit 0)))
 (.block 1 (.seq (.region [⟨(some 21), .mov (.tmp 1), none⟩,
 ⟨(some 22), .bin .rem (.tmp 21) (.val (.int .u64 100000000)), none⟩,
 ⟨(some 23), .convInt .u32 (.tmp 22), none⟩,
 ⟨(some 5), .mov (.tmp 23), none⟩])
 (.seq (.region [⟨(some 24), .mov (.tmp 1), none⟩,
 ⟨(some 25), .bin .quo (.tmp 24) (.val (.int .u64 100000000)), none⟩,
 ⟨(some 1), .mov (.tmp 25), none⟩])
 (.seq (.region [⟨(some 26), .mov (.tmp 5), none⟩,
 ⟨(some 27), .bin .quo (.tmp 26) (.val (.int .u32 10000)), none⟩,
 ⟨(some 28), .mov (.tmp 5), none⟩,
 ⟨(some 29), .bin .rem (.tmp 28) (.val (.int .u32 10000)), none⟩,
 ⟨(some 6), .mov (.tmp 27), none⟩,
 ⟨(some 7), .mov (.tmp 29), none⟩])
 (.seq (.region [⟨(some 30), .mov (.tmp 7), none⟩,
 ⟨(some 31), .bin .quo (.tmp 30) (.val (.int .u32 100)), none⟩,
 ⟨(some 32), .bin .mul (.tmp 31) (.val (.int .u32 2)), none⟩,
 ⟨(some 33), .mov (.tmp 7), none⟩,
 ⟨(some 34), .bin .rem (.tmp 33) (.val (.int .u32 100)), none⟩,
 ⟨(some 35), .bin .mul (.tmp 34) (.val (.int .u32 2)), none⟩,
 ⟨(some 8), .mov (.tmp 32), none⟩,
 ⟨(some 9), .mov (.tmp 35), none⟩])
 (.seq (.region [⟨(some 36), .mov (.tmp 6), none⟩,
 ⟨(some 37), .bin .quo (.tmp 36) (.val (.int .u32 100)), none⟩,
 ⟨(some 38), .bin .mul (.tmp 37) (.val (.int .u32 2)), none⟩,
 ⟨(some 39), .mov (.tmp 6), none⟩,
 ⟨(some 40), .bin .rem (.tmp 39) (.val (.int .u32 100)), none⟩,
 ⟨(some 41), .bin .mul (.tmp 40) (.val (.int .u32 2)), none⟩,
 ⟨(some 10), .mov (.tmp 38), none⟩,
 ⟨(some 11), .mov (.tmp 41), none⟩])
 (.seq (.dregion [⟨⟨(some 42), .mov (.tmp 0), none⟩, 0, 0, true⟩,
 ⟨⟨(some 43), .mov (.tmp 4), none⟩, 0, 0, true⟩,
 ⟨⟨(some 44), .bin .sub (.tmp 43) (.val (.int .i64 1)), none⟩, 2, 0, true⟩,
 ⟨⟨(some 45), .mov (.tmp 0), none⟩, 0, 0, true⟩,
 ⟨⟨(some 46), .mov (.tmp 4), none⟩, 0, 0, true⟩,
 ⟨⟨(some 47), .bin .sub (.tmp 46) (.val (.int .i64 2)), none⟩, 16, 0, true⟩,
 ⟨⟨(some 48), .mov (.tmp 9), none⟩, 0, 0, true⟩,
 ⟨⟨(some 49), .bin .add (.tmp 48) (.val (.int .u32 1)), none⟩, 64, 0, true⟩,
 ⟨⟨(some 50), .indexStr (.val (.str ⟨#[48, 48, 48, 49, 48, 50, 48, 51, 48, 52, 48, 53, 48, 54, 48, 55, 48, 56, 48, 57, 49, 48, 49, 49, 49, 50, 49, 51, 49, 52, 49, 53, 49, 54, 49, 55, 49, 56, 49, 57, 50, 48, 50, 49, 50, 50, 50, 51, 50, 52, 50, 53, 50, 54, 50, 55, 50, 56, 50, 57, 51, 48, 51, 49, 51, 50, 51, 51, 51, 52, 51, 53, 51, 54, 51, 55, 51, 56, 51, 57, 52, 48, 52, 49, 52, 50, 52, 51, 52, 52, 52, 53, 52, 54, 52, 55, 52, 56, 52, 57, 53, 48, 53, 49, 53, 50, 53, 51, 53, 52, 53, 53, 53, 54, 53, 55, 53, 56, 53, 57, 54, 48, 54, 49, 54, 50, 54, 51, 54, 52, 54, 53, 54, 54, 54, 55, 54, 56, 54, 57, 55, 48, 55, 49, 55, 50, 55, 51, 55, 52, 55, 53, 55, 54, 55, 55, 55, 56, 55, 57, 56, 48, 56, 49, 56, 50, 56, 51, 56, 52, 56, 53, 56, 54, 56, 55, 56, 56, 56, 57, 57, 48, 57, 49, 57, 50, 57, 51, 57, 52, 57, 53, 57, 54, 57, 55, 57, 56, 57, 57]⟩)) (.tmp 49), none⟩, 192, 0, true⟩,
 ⟨⟨(some 51), .mov (.tmp 9), none⟩, 0, 0, true⟩,
 ⟨⟨(some 52), .indexStr (.val (.str ⟨#[48, 48, 48, 49, 48, 50, 48, 51, 48, 52, 48, 53, 48, 54, 48, 55, 48, 56, 48, 57, 49, 48, 49, 49, 49, 50, 49, 51, 49, 52, 49, 53, 49, 54, 49, 55, 49, 56, 49, 57, 50, 48, 50, 49, 50, 50, 50, 51, 50, 52, 50, 53, 50, 54, 50, 55, 50, 56, 50, 57, 51, 48, 51, 49, 51, 50, 51, 51, 51, 52, 51, 53, 51, 54, 51, 55, 51, 56, 51, 57, 52, 48, 52, 49, 52, 50, 52, 51, 52, 52, 52, 53, 52, 54, 52, 55, 52, 56, 52, 57, 53, 48, 53, 49, 53, 50, 53, 51, 53, 52, 53, 53, 53, 54, 53, 55, 53, 56, 53, 57, 54, 48, 54, 49, 54, 50, 54, 51, 54, 52, 54, 53, 54, 54, 54, 55, 54, 56, 54, 57, 55, 48, 55, 49, 55, 50, 55, 51, 55, 52, 55, 53, 55, 54, 55, 55, 55, 56, 55, 57, 56, 48, 56, 49, 56, 50, 56, 51, 56, 52, 56, 53, 56, 54, 56, 55, 56, 56, 56, 57, 57, 48, 57, 49, 57, 50, 57, 51, 57, 52, 57, 53, 57, 54, 57, 55, 57, 56, 57, 57]⟩)) (.tmp 51), none⟩, 512, 0, true⟩,
 ⟨⟨(some 53), .idxS 1 (.tmp 42) (.tmp 44), none⟩, 455, 0, true⟩,
 ⟨⟨none, .store 1 (.tmp 53) (.tmp 50), none⟩, 2503, 2, false⟩,
 ⟨⟨(some 54), .idxS 1 (.tmp 45) (.tmp 47), none⟩, 8191, 0, true⟩,
 ⟨⟨none, .store 1 (.tmp 54) (.tmp 52), none⟩, 16383, 2, false⟩])
 (.seq (.dregion [⟨⟨(some 55), .mov (.tmp 0), none⟩, 0, 0, true⟩,
 ⟨⟨(some 56), .mov (.tmp 4), none⟩, 0, 0, true⟩,
 ⟨⟨(some 57), .bin .sub (.tmp 56) (.val (.int .i64 3)), none⟩, 2, 0, true⟩,
 ⟨⟨(some 58), .mov (.tmp 0), none⟩, 0, 0, true⟩,
 ⟨⟨(some 59), .mov (.tmp 4), none⟩, 0, 0, true⟩,
 ⟨⟨(some 60), .bin .sub (.tmp 59) (.val (.int .i64 4)), none⟩, 16, 0, true⟩,
 ⟨⟨(some 61), .mov (.tmp 8), none⟩, 0, 0, true⟩,
 ⟨⟨(some 62), .bin .add (.tmp 61) (.val (.int .u32 1)), none⟩, 64, 0, true⟩,
 ⟨⟨(some 63), .indexStr (.val (.str ⟨#[48, 48, 48, 49, 48, 50, 48, 51, 48, 52, 48, 53, 48, 54, 48, 55, 48, 56, 48, 57, 49, 48, 49, 49, 49, 50, 49, 51, 49, 52, 49, 53, 49, 54, 49, 55, 49, 56, 49, 57, 50, 48, 50, 49, 50, 50, 50, 51, 50, 52, 50, 53, 50, 54, 50, 55, 50, 56, 50, 57, 51, 48, 51, 49, 51, 50, 51, 51, 51, 52, 51, 53, 51, 54, 51, 55, 51, 56, 51, 57, 52, 48, 52, 49, 52, 50, 52, 51, 52, 52, 52, 53, 52, 54, 52, 55, 52, 56, 52, 57, 53, 48, 53, 49, 53, 50, 53, 51, 53, 52, 53, 53, 53, 54, 53, 55, 53, 56, 53, 57, 54, 48, 54, 49, 54, 50, 54, 51, 54, 52, 54, 53, 54, 54, 54, 55, 54, 56, 54, 57, 55, 48, 55, 49, 55, 50, 55, 51, 55, 52, 55, 53, 55, 54, 55, 55, 55, 56, 55, 57, 56, 48, 56, 49, 56, 50, 56, 51, 56, 52, 56, 53, 56, 54, 56, 55, 56, 56, 56, 57, 57, 48, 57, 49, 57, 50, 57, 51, 57, 52, 57, 53, 57, 54, 57, 55, 57, 56, 57, 57]⟩)) (.tmp 62), none⟩, 192, 0, true⟩,
 ⟨⟨(some 64), .mov (.tmp 8), none⟩, 0, 0, true⟩,
 ⟨⟨(some 65), .indexStr (.val (.str ⟨#[48, 48, 48, 49, 48, 50, 48, 51, 48, 52, 48, 53, 48, 54, 48, 55, 48, 56, 48, 57, 49, 48, 49, 49, 49, 50, 49, 51, 49, 52, 49, 53, 49, 54, 49, 55, 49, 56, 49, 57, 50, 48, 50, 49, 50, 50, 50, 51, 50, 52, 50, 53, 50, 54, 50, 55, 50, 56, 50, 57, 51, 48, 51, 49, 51, 50, 51, 51, 51, 52, 51, 53, 51, 54, 51, 55, 51, 56, 51, 57, 52, 48, 52, 49, 52, 50, 52, 51, 52, 52, 52, 53, 52, 54, 52, 55, 52, 56, 52, 57, 53, 48, 53, 49, 53, 50, 53, 51, 53, 52, 53, 53, 53, 54, 53, 55, 53, 56, 53, 57, 54, 48, 54, 49, 54, 50, 54, 51, 54, 52, 54, 53, 54, 54, 54, 55, 54, 56, 54, 57, 55, 48, 55, 49, 55, 50, 55, 51, 55, 52, 55, 53, 55, 54, 55, 55, 55, 56, 55, 57, 56, 48, 56, 49, 56, 50, 56, 51, 56, 52, 56, 53, 56, 54, 56, 55, 56, 56, 56, 57, 57, 48, 57, 49, 57, 50, 57, 51, 57, 52, 57, 53, 57, 54, 57, 55, 57, 56, 57, 57]⟩)) (.tmp 64), none⟩, 512, 0, true⟩,
 ⟨⟨(some 66), .idxS 1 (.tmp 55) (.tmp 57), none⟩, 455, 0, true⟩,
 ⟨⟨none, .store 1 (.tmp 66) (.tmp 63), none⟩, 2503, 2, false⟩,
 ⟨⟨(some 67), .idxS 1 (.tmp 58) (.tmp 60), none⟩, 8191, 0, true⟩,
 ⟨⟨none, .store 1 (.tmp 67) (.tmp 65), none⟩, 16383, 2, false⟩])
 (.seq (.dregion [⟨⟨(some 68), .mov (.tmp 0), none⟩, 0, 0, true⟩,
 ⟨⟨(some 69), .mov (.tmp 4), none⟩, 0, 0, true⟩,
 ⟨⟨(some 70), .bin .sub (.tmp 69) (.val (.int .i64 5)), none⟩, 2, 0, true⟩,
 ⟨⟨(some 71), .mov (.tmp 0), none⟩, 0, 0, true⟩,
 ⟨⟨(some 72), .mov (.tmp 4), none⟩, 0, 0, true⟩,
 ⟨⟨(some 73), .bin .sub (.tmp 72) (.val (.int .i64 6)), none⟩, 16, 0, true⟩,
 ⟨⟨(some 74), .mov (.tmp 11), none⟩, 0, 0, true⟩,
 ⟨⟨(some 75), .bin .add (.tmp 74) (.val (.int .u32 1)), none⟩, 64, 0, true⟩,
 ⟨⟨(some 76), .indexStr (.val (.str ⟨#[48, 48, 48, 49, 48, 50, 48, 51, 48, 52, 48, 53, 48, 54, 48, 55, 48, 56, 48, 57, 49, 48, 49, 49, 49, 50, 49, 51, 49, 52, 49, 53, 49, 54, 49, 55, 49, 56, 49, 57, 50, 48, 50, 49, 50, 50, 50, 51, 50, 52, 50, 53, 50, 54, 50, 55, 50, 56, 50, 57, 51, 48, 51, 49, 51, 50, 51, 51, 51, 52, 51, 53, 51, 54, 51, 55, 51, 56, 51, 57, 52, 48, 52, 49, 52, 50, 52, 51, 52, 52, 52, 53, 52, 54, 52, 55, 52, 56, 52, 57, 53, 48, 53, 49, 53, 50, 53, 51, 53, 52, 53, 53, 53, 54, 53, 55, 53, 56, 53, 57, 54, 48, 54, 49, 54, 50, 54, 51, 54, 52, 54, 53, 54, 54, 54, 55, 54, 56, 54, 57, 55, 48, 55, 49, 55, 50, 55, 51, 55, 52, 55, 53, 55, 54, 55, 55, 55, 56, 55, 57, 56, 48, 56, 49, 56, 50, 56, 51, 56, 52, 56, 53, 56, 54, 56, 55, 56, 56, 56, 57, 57, 48, 57, 49, 57, 50, 57, 51, 57, 52, 57, 53, 57, 54, 57, 55, 57, 56, 57, 57]⟩)) (.tmp 75), none⟩, 192, 0, true⟩,
 ⟨⟨(some 77), .mov (.tmp 11), none⟩, 0, 0, true⟩,
 ⟨⟨(some 78), .indexStr (.val (.str ⟨#[48, 48, 48, 49, 48, 50, 48, 51, 48, 52, 48, 53, 48, 54, 48, 55, 48, 56, 48, 57, 49, 48, 49, 49, 49, 50, 49, 51, 49, 52, 49, 53, 49, 54, 49, 55, 49, 56, 49, 57, 50, 48, 50, 49, 50, 50, 50, 51, 50, 52, 50, 53, 50, 54, 50, 55, 50, 56, 50, 57, 51, 48, 51, 49, 51, 50, 51, 51, 51, 52, 51, 53, 51, 54, 51, 55, 51, 56, 51, 57, 52, 48, 52, 49, 52, 50, 52, 51, 52, 52, 52, 53, 52, 54, 52, 55, 52, 56, 52, 57, 53, 48, 53, 49, 53, 50, 53, 51, 53, 52, 53, 53, 53, 54, 53, 55, 53, 56, 53, 57, 54, 48, 54, 49, 54, 50, 54, 51, 54, 52, 54, 53, 54, 54, 54, 55, 54, 56, 54, 57, 55, 48, 55, 49, 55, 50, 55, 51, 55, 52, 55, 53, 55, 54, 55, 55, 55, 56, 55, 57, 56, 48, 56, 49, 56, 50, 56, 51, 56, 52, 56, 53, 56, 54, 56, 55, 56, 56, 56, 57, 57, 48, 57, 49, 57, 50, 57, 51, 57, 52, 57, 53, 57, 54, 57, 55, 57, 56, 57, 57]⟩)) (.tmp 77), none⟩, 512, 0, true⟩,
 ⟨⟨(some 79), .idxS 1 (.tmp 68) (.tmp 70), none⟩, 455, 0, true⟩,
 ⟨⟨none, .store 1 (.tmp 79) (.tmp 76), none⟩, 2503, 2, false⟩,
 ⟨⟨(some 80), .idxS 1 (.tmp 71) (.tmp 73), none⟩, 8191, 0, true⟩,
 ⟨⟨none, .store 1 (.tmp 80) (.tmp 78), none⟩, 16383, 2, false⟩])
 (.seq (.dregion [⟨⟨(some 81), .mov (.tmp 0), none⟩, 0, 0, true⟩,
 ⟨⟨(some 82), .mov (.tmp 4), none⟩, 0, 0, true⟩,
 ⟨⟨(some 83), .bin .sub (.tmp 82) (.val (.int .i64 7)), none⟩, 2, 0, true⟩,
 ⟨⟨(some 84), .mov (.tmp 0), none⟩, 0, 0, true⟩,
 ⟨⟨(some 85), .mov (.tmp 4), none⟩, 0, 0, true⟩,
 ⟨⟨(some 86), .bin .sub (.tmp 85) (.val (.int .i64 8)), none⟩, 16, 0, true⟩,
 ⟨⟨(some 87), .mov (.tmp 10), none⟩, 0, 0, true⟩,
 ⟨⟨(some 88), .bin .add (.tmp 87) (.val (.int .u32 1)), none⟩, 64, 0, true⟩,
 ⟨⟨(some 89), .indexStr (.val (.str ⟨#[48, 48, 48, 49, 48, 50, 48, 51, 48, 52, 48, 53, 48, 54, 48, 55, 48, 56, 48, 57, 49, 48, 49, 49, 49, 50, 49, 51, 49, 52, 49, 53, 49, 54, 49, 55, 49, 56, 49, 57, 50, 48, 50, 49, 50, 50, 50, 51, 50, 52, 50, 53, 50, 54, 50, 55, 50, 56, 50, 57, 51, 48, 51, 49, 51, 50, 51, 51, 51, 52, 51, 53, 51, 54, 51, 55, 51, 56, 51, 57, 52, 48, 52, 49, 52, 50, 52, 51, 52, 52, 52, 53, 52, 54, 52, 55, 52, 56, 52, 57, 53, 48, 53, 49, 53, 50, 53, 51, 53, 52, 53, 53, 53, 54, 53, 55, 53, 56, 53, 57, 54, 48, 54, 49, 54, 50, 54, 51, 54, 52, 54, 53, 54, 54, 54, 55, 54, 56, 54, 57, 55, 48, 55, 49, 55, 50, 55, 51, 55, 52, 55, 53, 55, 54, 55, 55, 55, 56, 55, 57, 56, 48, 56, 49, 56, 50, 56, 51, 56, 52, 56, 53, 56, 54, 56, 55, 56, 56, 56, 57, 57, 48, 57, 49, 57, 50, 57, 51, 57, 52, 57, 53, 57, 54, 57, 55, 57, 56, 57, 57]⟩)) (.tmp 88), none⟩, 192, 0, true⟩,
 ⟨⟨(some 90), .mov (.tmp 10), none⟩, 0, 0, true⟩,
 ⟨⟨(some 91), .indexStr (.val (.str ⟨#[48, 48, 48, 49, 48, 50, 48, 51, 48, 52, 48, 53, 48, 54, 48, 55, 48, 56, 48, 57, 49, 48, 49, 49, 49, 50, 49, 51, 49, 52, 49, 53, 49, 54, 49, 55, 49, 56, 49, 57, 50, 48, 50, 49, 50, 50, 50, 51, 50, 52, 50, 53, 50, 54, 50, 55, 50, 56, 50, 57, 51, 48, 51, 49, 51, 50, 51, 51, 51, 52, 51, 53, 51, 54, 51, 55, 51, 56, 51, 57, 52, 48, 52, 49, 52, 50, 52, 51, 52, 52, 52, 53, 52, 54, 52, 55, 52, 56, 52, 57, 53, 48, 53, 49, 53, 50, 53, 51, 53, 52, 53, 53, 53, 54, 53, 55, 53, 56, 53, 57, 54, 48, 54, 49, 54, 50, 54, 51, 54, 52, 54, 53, 54, 54, 54, 55, 54, 56, 54, 57, 55, 48, 55, 49, 55, 50, 55, 51, 55, 52, 55, 53, 55, 54, 55, 55, 55, 56, 55, 57, 56, 48, 56, 49, 56, 50, 56, 51, 56, 52, 56, 53, 56, 54, 56, 55, 56, 56, 56, 57, 57, 48, 57, 49, 57, 50, 57, 51, 57, 52, 57, 53, 57, 54, 57, 55, 57, 56, 57, 57]⟩)) (.tmp 90), none⟩, 512, 0, true⟩,
 ⟨⟨(some 92), .idxS 1 (.tmp 81) (.tmp 83), none⟩, 455, 0, true⟩,
 ⟨⟨none, .store 1 (.tmp 92) (.tmp 89), none⟩, 2503, 2, false⟩,
 ⟨⟨(some 93), .idxS 1 (.tmp 84) (.tmp 86), none⟩, 8191, 0, true⟩,
 ⟨⟨none, .store 1 (.tmp 93) (.tmp 91), none⟩, 16383, 2, false⟩])
 (.region [⟨(some 94), .mov (.tmp 4), none⟩,
 ⟨(some 95), .bin .sub (.tmp 94) (.val (.int .i64 8)), none⟩,
 ⟨(some 4), .mov (.tmp 95), none⟩]))))))))))))))
 (.seq (.region [⟨(some 96), .mov (.tmp 1), none⟩,
 ⟨(some 97), .convInt .u32 (.tmp 96), none⟩,
 ⟨(some 12), .mov (.tmp 97), none⟩])
 (.seq (.seq (.region [⟨(some 98), .mov (.tmp 4), none⟩,
 ⟨(some 99), .bin .geq (.tmp 98) (.val (.int .i64 4)), none⟩])
 (.cond (.tmp 99) (.seq (.region [⟨(some 100), .mov (.tmp 12), none⟩,
 ⟨(some 101), .bin .rem (.tmp 100) (.val (.int .u32 10000)), none⟩,
 ⟨(some 13), .mov (.tmp 101), none⟩])
 (.seq (.region [⟨(some 102), .mov (.tmp 12), none⟩,
 ⟨(some 103), .bin .quo (.tmp 102) (.val (.int .u32 10000)), none⟩,
 ⟨(some 12), .mov (.tmp 103), none⟩])
 (.seq (.region [⟨(some 104), .mov (.tmp 13), none⟩,
 ⟨(some 105), .bin .quo (.tmp 104) (.val (.int .u32 100)), none⟩,
 ⟨(some 106), .bin .mul (.tmp 105) (.val (.int .u32 2)), none⟩,
 ⟨(some 107), .mov (.tmp 13), none⟩,
 ⟨(some 108), .bin .rem (.tmp 107) (.val (.int .u32 100)), none⟩,
 ⟨(some 109), .bin .mul (.tmp 108) (.val (.int .u32 2)), none⟩,
 ⟨(some 14), .mov (.tmp 106), none⟩,
 ⟨(some 15), .mov (.tmp 109), none⟩])
 (.seq (.dregion [⟨⟨(some 110), .mov (.tmp 0), none⟩, 0, 0, true⟩,
 ⟨⟨(some 111), .mov (.tmp 4), none⟩, 0, 0, true⟩,
 ⟨⟨(some 112), .bin .sub (.tmp 111) (.val (.int .i64 1)), none⟩, 2, 0, true⟩,
 ⟨⟨(some 113), .mov (.tmp 0), none⟩, 0, 0, true⟩,
 ⟨⟨(some 114), .mov (.tmp 4), none⟩, 0, 0, true⟩,
 ⟨⟨(some 115), .bin .sub (.tmp 114) (.val (.int .i64 2)), none⟩, 16, 0, true⟩,
 ⟨⟨(some 116), .mov (.tmp 15), none⟩, 0, 0, true⟩,
 ⟨⟨(some 117), .bin .add (.tmp 116) (.val (.int .u32 1)), none⟩, 64, 0, true⟩,
 ⟨⟨(some 118), .indexStr (.val (.str ⟨#[48, 48, 48, 49, 48, 50, 48, 51, 48, 52, 48, 53, 48, 54, 48, 55, 48, 56, 48, 57, 49, 48, 49, 49, 49, 50, 49, 51, 49, 52, 49, 53, 49, 54, 49, 55, 49, 56, 49, 57, 50, 48, 50, 49, 50, 50, 50, 51, 50, 52, 50, 53, 50, 54, 50, 55, 50, 56, 50, 57, 51, 48, 51, 49, 51, 50, 51, 51, 51, 52, 51, 53, 51, 54, 51, 55, 51, 56, 51, 57, 52, 48, 52, 49, 52, 50, 52, 51, 52, 52, 52, 53, 52, 54, 52, 55, 52, 56, 52, 57, 53, 48, 53, 49, 53, 50, 53, 51, 53, 52, 53, 53, 53, 54, 53, 55, 53, 56, 53, 57, 54, 48, 54, 49, 54, 50, 54, 51, 54, 52, 54, 53, 54, 54, 54, 55, 54, 56, 54, 57, 55, 48, 55, 49, 55, 50, 55, 51, 55, 52, 55, 53, 55, 54, 55, 55, 55, 56, 55, 57, 56, 48, 56, 49, 56, 50, 56, 51, 56, 52, 56, 53, 56, 54, 56, 55, 56, 56, 56, 57, 57, 48, 57, 49, 57, 50, 57, 51, 57, 52, 57, 53, 57, 54, 57, 55, 57, 56, 57, 57]⟩)) (.tmp 117), none⟩, 192, 0, true⟩,
 ⟨⟨(some 119), .mov (.tmp 15), none⟩, 0, 0, true⟩,
 ⟨⟨(some 120), .indexStr (.val (.str ⟨#[48, 48, 48, 49, 48, 50, 48, 51, 48, 52, 48, 53, 48, 54, 48, 55, 48, 56, 48, 57, 49, 48, 49, 49, 49, 50, 49, 51, 49, 52, 49, 53, 49, 54, 49, 55, 49, 56, 49, 57, 50, 48, 50, 49, 50, 50, 50, 51, 50, 52, 50, 53, 50, 54, 50, 55, 50, 56, 50, 57, 51, 48, 51, 49, 51, 50, 51, 51, 51, 52, 51, 53, 51, 54, 51, 55, 51, 56, 51, 57, 52, 48, 52, 49, 52, 50, 52, 51, 52, 52, 52, 53, 52, 54, 52, 55, 52, 56, 52, 57, 53, 48, 53, 49, 53, 50, 53, 51, 53, 52, 53, 53, 53, 54, 53, 55, 53, 56, 53, 57, 54, 48, 54, 49, 54, 50, 54, 51, 54, 52, 54, 53, 54, 54, 54, 55, 54, 56, 54, 57, 55, 48, 55, 49, 55, 50, 55, 51, 55, 52, 55, 53, 55, 54, 55, 55, 55, 56, 55, 57, 56, 48, 56, 49, 56, 50, 56, 51, 56, 52, 56, 53, 56, 54, 56, 55, 56, 56, 56, 57, 57, 48, 57, 49, 57, 50, 57, 51, 57, 52, 57, 53, 57, 54, 57, 55, 57, 56, 57, 57]⟩)) (.tmp 119), none⟩, 512, 0, true⟩,
 ⟨⟨(some 121), .idxS 1 (.tmp 110) (.tmp 112), none⟩, 455, 0, true⟩,
 ⟨⟨none, .store 1 (.tmp 121) (.tmp 118), none⟩, 2503, 2, false⟩,
 ⟨⟨(some 122), .idxS 1 (.tmp 113) (.tmp 115), none⟩, 8191, 0, true⟩,
 ⟨⟨none, .store 1 (.tmp 122) (.tmp 120), none⟩, 16383, 2, false⟩])
 (.seq (.dregion [⟨⟨(some 123), .mov (.tmp 0), none⟩, 0, 0, true⟩,
 ⟨⟨(some 124), .mov (.tmp 4), none⟩, 0, 0, true⟩,
 ⟨⟨(some 125), .bin .sub (.tmp 124) (.val (.int .i64 3)), none⟩, 2, 0, true⟩,
 ⟨⟨(some 126), .mov (.tmp 0), none⟩, 0, 0, true⟩,
 ⟨⟨(some 127), .mov (.tmp 4), none⟩, 0, 0, true⟩,
 ⟨⟨(some 128), .bin .sub (.tmp 127) (.val (.int .i64 4)), none⟩, 16, 0, true⟩,
 ⟨⟨(some 129), .mov (.tmp 14), none⟩, 0, 0, true⟩,
 ⟨⟨(some 130), .bin .add (.tmp 129) (.val (.int .u32 1)), none⟩, 64, 0, true⟩,
 ⟨⟨(some 131), .indexStr (.val (.str ⟨#[48, 48, 48, 49, 48, 50, 48, 51, 48, 52, 48, 53, 48, 54, 48, 55, 48, 56, 48, 57, 49, 48, 49, 49, 49, 50, 49, 51, 49, 52, 49, 53, 49, 54, 49, 55, 49, 56, 49, 57, 50, 48, 50, 49, 50, 50, 50, 51, 50, 52, 50, 53, 50, 54, 50, 55, 50, 56, 50, 57, 51, 48, 51, 49, 51, 50, 51, 51, 51, 52, 51, 53, 51, 54, 51, 55, 51, 56, 51, 57, 52, 48, 52, 49, 52, 50, 52, 51, 52, 52, 52, 53, 52, 54, 52, 55, 52, 56, 52, 57, 53, 48, 53, 49, 53, 50, 53, 51, 53, 52, 53, 53, 53, 54, 53, 55, 53, 56, 53, 57, 54, 48, 54, 49, 54, 50, 54, 51, 54, 52, 54, 53, 54, 54, 54, 55, 54, 56, 54, 57, 55, 48, 55, 49, 55, 50, 55, 51, 55, 52, 55, 53, 55, 54, 55, 55, 55, 56, 55, 57, 56, 48, 56, 49, 56, 50, 56, 51, 56, 52, 56, 53, 56, 54, 56, 55, 56, 56, 56, 57, 57, 48, 57, 49, 57, 50, 57, 51, 57, 52, 57, 53, 57, 54, 57, 55, 57, 56, 57, 57]⟩)) (.tmp 130), none⟩, 192, 0, true⟩,
 ⟨⟨(some 132), .mov (.tmp 14), none⟩, 0, 0, true⟩,
 ⟨⟨(some 133), .indexStr (.val (.str ⟨#[48, 48, 48, 49, 48, 50, 48, 51, 48, 52, 48, 53, 48, 54, 48, 55, 48, 56, 48, 57, 49, 48, 49, 49, 49, 50, 49, 51, 49, 52, 49, 53, 49, 54, 49, 55, 49, 56, 49, 57, 50, 48, 50, 49, 50, 50, 50, 51, 50, 52, 50, 53, 50, 54, 50, 55, 50, 56, 50, 57, 51, 48, 51, 49, 51, 50, 51, 51, 51, 52, 51, 53, 51, 54, 51, 55, 51, 56, 51, 57, 52, 48, 52, 49, 52, 50, 52, 51, 52, 52, 52, 53, 52, 54, 52, 55, 52, 56, 52, 57, 53, 48, 53, 49, 53, 50, 53, 51, 53, 52, 53, 53, 53, 54, 53, 55, 53, 56, 53, 57, 54, 48, 54, 49, 54, 50, 54, 51, 54, 52, 54, 53, 54, 54, 54, 55, 54, 56, 54, 57, 55, 48, 55, 49, 55, 50, 55, 51, 55, 52, 55, 53, 55, 54, 55, 55, 55, 56, 55, 57, 56, 48, 56, 49, 56, 50, 56, 51, 56, 52, 56, 53, 56, 54, 56, 55, 56, 56, 56, 57, 57, 48, 57, 49, 57, 50, 57, 51, 57, 52, 57, 53, 57, 54, 57, 55, 57, 56, 57, 57]⟩)) (.tmp 132), none⟩, 512, 0, true⟩,
 ⟨⟨(some 134), .idxS 1 (.tmp 123) (.tmp 125), none⟩, 455, 0, true⟩,
 ⟨⟨none, .store 1 (.tmp 134) (.tmp 131), none⟩, 2503, 2, false⟩,
 ⟨⟨(some 135), .idxS 1 (.tmp 126) (.tmp 128), none⟩, 8191, 0, true⟩,
 ⟨⟨none, .store 1 (.tmp 135) (.tmp 133), none⟩, 16383, 2, false⟩])
 (.region [⟨(some 136), .mov (.tmp 4), none⟩,
 ⟨(some 137), .bin .sub (.tmp 136) (.val (.int .i64 4)), none⟩,
 ⟨(some 4), .mov (.tmp 137), none⟩]))))))
 (.skip)))
 (.seq (.seq (.region [⟨(some 138), .mov (.tmp 4), none⟩,
 ⟨(some 139), .bin .geq (.tmp 138) (.val (.int .i64 2)), none⟩])
 (.cond (.tmp 139) (.seq (.region [⟨(some 140), .mov (.tmp 12), none⟩,
 ⟨(some 141), .bin .rem (.tmp 140) (.val (.int .u32 100)), none⟩,
 ⟨(some 142), .bin .mul (.tmp 141) (.val (.int .u32 2)), none⟩,
 ⟨(some 16), .mov (.tmp 142), none⟩])
 (.seq (.region [⟨(some 143), .mov (.tmp 12), none⟩,
 ⟨(some 144), .bin .quo (.tmp 143) (.val (.int .u32 100)), none⟩,
 ⟨(some 12), .mov (.tmp 144), none⟩])
 (.seq (.dregion [⟨⟨(some 145), .mov (.tmp 0), none⟩, 0, 0, true⟩,
 ⟨⟨(some 146), .mov (.tmp 4), none⟩, 0, 0, true⟩,
 ⟨⟨(some 147), .bin .sub (.tmp 146) (.val (.int .i64 1)), none⟩, 2, 0, true⟩,
 ⟨⟨(some 148), .mov (.tmp 0), none⟩, 0, 0, true⟩,
 ⟨⟨(some 149), .mov (.tmp 4), none⟩, 0, 0, true⟩,
 ⟨⟨(some 150), .bin .sub (.tmp 149) (.val (.int .i64 2)), none⟩, 16, 0, true⟩,
 ⟨⟨(some 151), .mov (.tmp 16), none⟩, 0, 0, true⟩,
 ⟨⟨(some 152), .bin .add (.tmp 151) (.val (.int .u32 1)), none⟩, 64, 0, true⟩,
 ⟨⟨(some 153), .indexStr (.val (.str ⟨#[48, 48, 48, 49, 48, 50, 48, 51, 48, 52, 48, 53, 48, 54, 48, 55, 48, 56, 48, 57, 49, 48, 49, 49, 49, 50, 49, 51, 49, 52, 49, 53, 49, 54, 49, 55, 49, 56, 49, 57, 50, 48, 50, 49, 50, 50, 50, 51, 50, 52, 50, 53, 50, 54, 50, 55, 50, 56, 50, 57, 51, 48, 51, 49, 51, 50, 51, 51, 51, 52, 51, 53, 51, 54, 51, 55, 51, 56, 51, 57, 52, 48, 52, 49, 52, 50, 52, 51, 52, 52, 52, 53, 52, 54, 52, 55, 52, 56, 52, 57, 53, 48, 53, 49, 53, 50, 53, 51, 53, 52, 53, 53, 53, 54, 53, 55, 53, 56, 53, 57, 54, 48, 54, 49, 54, 50, 54, 51, 54, 52, 54, 53, 54, 54, 54, 55, 54, 56, 54, 57, 55, 48, 55, 49, 55, 50, 55, 51, 55, 52, 55, 53, 55, 54, 55, 55, 55, 56, 55, 57, 56, 48, 56, 49, 56, 50, 56, 51, 56, 52, 56, 53, 56, 54, 56, 55, 56, 56, 56, 57, 57, 48, 57, 49, 57, 50, 57, 51, 57, 52, 57, 53, 57, 54, 57, 55, 57, 56, 57, 57]⟩)) (.tmp 152), none⟩, 192, 0, true⟩,
 ⟨⟨(some 154), .mov (.tmp 16), none⟩, 0, 0, true⟩,
 ⟨⟨(some 155), .indexStr (.val (.str ⟨#[48, 48, 48, 49, 48, 50, 48, 51, 48, 52, 48, 53, 48, 54, 48, 55, 48, 56, 48, 57, 49, 48, 49, 49, 49, 50, 49, 51, 49, 52, 49, 53, 49, 54, 49, 55, 49, 56, 49, 57, 50, 48, 50, 49, 50, 50, 50, 51, 50, 52, 50, 53, 50, 54, 50, 55, 50, 56, 50, 57, 51, 48, 51, 49, 51, 50, 51, 51, 51, 52, 51, 53, 51, 54, 51, 55, 51, 56, 51, 57, 52, 48, 52, 49, 52, 50, 52, 51, 52, 52, 52, 53, 52, 54, 52, 55, 52, 56, 52, 57, 53, 48, 53, 49, 53, 50, 53, 51, 53, 52, 53, 53, 53, 54, 53, 55, 53, 56, 53, 57, 54, 48, 54, 49, 54, 50, 54, 51, 54, 52, 54, 53, 54, 54, 54, 55, 54, 56, 54, 57, 55, 48, 55, 49, 55, 50, 55, 51, 55, 52, 55, 53, 55, 54, 55, 55, 55, 56, 55, 57, 56, 48, 56, 49, 56, 50, 56, 51, 56, 52, 56, 53, 56, 54, 56, 55, 56, 56, 56, 57, 57, 48, 57, 49, 57, 50, 57, 51, 57, 52, 57, 53, 57, 54, 57, 55, 57, 56, 57, 57]⟩)) (.tmp 154), none⟩, 512, 0, true⟩,
 ⟨⟨(some 156), .idxS 1 (.tmp 145) (.tmp 147), none⟩, 455, 0, true⟩,
 ⟨⟨none, .store 1 (.tmp 156) (.tmp 153), none⟩, 2503, 2, false⟩,
 ⟨⟨(some 157), .idxS 1 (.tmp 148) (.tmp 150), none⟩, 8191, 0, true⟩,
 ⟨⟨none, .store 1 (.tmp 157) (.tmp 155), none⟩, 16383, 2, false⟩])
 (.region [⟨(some 158), .mov (.tmp 4), none⟩,
 ⟨(some 159), .bin .sub (.tmp 158) (.val (.int .i64 2)), none⟩,
 ⟨(some 4), .mov (.tmp 159), none⟩]))))
 (.skip)))
 (.seq (.region [⟨(some 160), .mov (.tmp 4), none⟩,
 ⟨(some 161), .bin .gtr (.tmp 160) (.val (.int .i64 0)), none⟩])
 (.cond (.tmp 161) (.region [⟨(some 162), .mov (.tmp 0), none⟩,
 ⟨(some 163), .mov (.tmp 12), none⟩,
 ⟨(some 164), .bin .add (.val (.int .u32 48)) (.tmp 163), none⟩,
 ⟨(some 165), .convInt .u8 (.tmp 164), none⟩,
 ⟨(some 166), .idxS 1 (.tmp 162) (.val (.int .i64 0)), none⟩,
 ⟨none, .store 1 (.tmp 166) (.tmp 165), none⟩])
 (.skip)))))))), []⟩
def c183 : RFunc := ⟨102, .code (.seq (.region [⟨(some 10), .mov (.val .nslice), none⟩,
 ⟨(some 11), .mov (.val (.str ⟨#[]⟩)), none⟩])
 (.seq (.seq (.region [⟨(some 19), .mov (.tmp 2), none⟩,
 ⟨(some 20), .bin .lss (.tmp 19) (.val (.int .i64 2)), none⟩,
 ⟨(some 21), .mov (.tmp 20), none⟩,
 ⟨(some 22), .mov (.tmp 2), some (21, false)⟩,
 ⟨(some 23), .bin .eql (.tmp 22) (.val (.int .i64 10)), some (21, false)⟩,
 ⟨(some 24), .pick (.tmp 21) (.val (.bool true)) (.tmp 23), none⟩,
 ⟨(some 25), .mov (.tmp 24), none⟩,
 ⟨(some 26), .mov (.tmp 2), some (25, false)⟩,
 ⟨(some 27), .bin .gtr (.tmp 26) (.val (.int .i64 36)), some (25, false)⟩,
 ⟨(some 28), .pick (.tmp 25) (.val (.bool true)) (.tmp 27), none⟩])
 (.cond (.tmp 28) (.fail)
 (.skip)))
 (.seq (.region [⟨(some 12), .new 206 [(.int .u8 0), (.int .u8 0), (.int .u8 0), (.int .u8 0), (.int .u8 0), (.int .u8 0), (.int .u8 0), (.int .u8 0), (.int .u8 0), (.int .u8 0), (.int .u8 0), (.int .u8 0), (.int .u8 0), (.int .u8 0), (.int .u8 0), (.int .u8 0), (.int .u8 0), (.int .u8 0), (.int .u8 0), (.int .u8 0), (.int .u8 0), (.int .u8 0), (.int .u8 0), (.int .u8 0), (.int .u8 0), (.int .u8 0), (.int .u8 0), (.int .u8 0), (.int .u8 0), (.int .u8 0), (.int .u8 0), (.int .u8 0), (.int .u8 0), (.int .u8 0), (.int .u8 0), (.int .u8 0), (.int .u8 0), (.int .u8 0), (.int .u8 0), (.int .u8 0), (.int .u8 0), (.int .u8 0), (.int .u8 0), (.int .u8 0), (.int .u8 0), (.int .u8 0), (.int .u8 0), (.int .u8 0), (.int .u8 0), (.int .u8 0), (.int .u8 0), (.int .u8 0), (.int .u8 0), (.int .u8 0), (.int .u8 0), (.int .u8 0), (.int .u8 0), (.int .u8 0), (.int .u8 0), (.int .u8 0), (.int .u8 0), (.int .u8 0), (.int .u8 0), (.int .u8 0), (.int .u8 0)], none⟩])
 (.seq (.region [⟨(some 13), .mov (.val (.int .i64 65)), none⟩])
 (.seq (.seq (.region [⟨(some 30), .mov (.tmp 3), none⟩])
 (.cond (.tmp 30) (.region [⟨(some 31), .mov (.tmp 1), none⟩,
 ⟨(some 32), .un .neg (.tmp 31), none⟩,
 ⟨(some 1), .mov (.tmp 32), none⟩])
 (.skip)))
 (.seq (.seq (.region [⟨(some 33), .mov (.tmp 2), none⟩,
 ⟨(some 34), .call (.val (.func (.func 190) [] [])) [(.tmp 33)], none⟩])
 (.cond (.tmp 34) (.seq (.region [⟨(some 35), .mov (.tmp 2), none⟩,
 ⟨(some 36), .convInt .u64 (.tmp 35), none⟩,
 ⟨(some 37), .call (.val (.func (.func 191) [] [])) [(.tmp 36)], none⟩,
 ⟨(some 38), .convInt .u64 (.tmp 37), none⟩,
 ⟨(some 14), .mov (.tmp 38), none⟩])
 (.seq (.region [⟨(some 39), .mov (.tmp 2), none⟩,
 ⟨(some 40), .convInt .u64 (.tmp 39), none⟩,
 ⟨(some 15), .mov (.tmp 40), none⟩])
 (.seq (.region [⟨(some 41), .mov (.tmp 2), none⟩,
 ⟨(some 42), .convInt .u64 (.tmp 41), none⟩,
 ⟨(some 43), .bin .sub (.tmp 42) (.val (.int .u64 1)), none⟩,
 ⟨(some 16), .mov (.tmp 43), none⟩])
 (.seq (.block 0 (.loop (.seq (.seq (.region [⟨(some 44), .mov (.tmp 1), none⟩,
 ⟨(some 45), .mov (.tmp 15), none⟩,
 ⟨(some 46), .bin .geq (.tmp 44) (.tmp 45), none⟩])
 (.cond (.tmp 46) (.skip)
 (.exit 0)))
 (.block 1 (.seq (.region [⟨(some 47), .mov (.tmp 13), none⟩,
 ⟨(some 48), .bin .sub (.tmp 47) (.val (.int .i64 1)), none⟩,
 ⟨(some 13), .mov (.tmp 48), none⟩])
 (.seq (.region [⟨(some 49), .mov (.tmp 13), none⟩,
 ⟨(some 50), .mov (.tmp 1), none⟩,
 ⟨(some 51), .mov (.tmp 16), none⟩,
 ⟨(some 52), .bin .and (.tmp 50) (.tmp 51), none⟩,
 ⟨(some 53), .indexStr (.val (.str ⟨#[48, 49, 50, 51, 52, 53, 54, 55, 56, 57, 97, 98, 99, 100, 101, 102, 103, 104, 105, 106, 107, 108, 109, 110, 111, 112, 113, 114, 115, 116, 117, 118, 119, 120, 121, 122]⟩)) (.tmp 52), none⟩,
 ⟨(some 54), .idxA 65 1 (.tmp 12) (.tmp 49), none⟩,
 ⟨none, .store 1 (.tmp 54) (.tmp 53), none⟩])
 (.region [⟨(some 55), .mov (.tmp 1), none⟩,
 ⟨(some 56), .mov (.tmp 14), none⟩,
 ⟨(some 57), .bin .shr (.tmp 55) (.tmp 56), none⟩,
 ⟨(some 1), .mov (.tmp 57), none⟩])))))))
 (.seq (.region [⟨(some 58), .mov (.tmp 13), none⟩,
 ⟨(some 59), .bin .sub (.tmp 58) (.val (.int .i64 1)), none⟩,
 ⟨(some 13), .mov (.tmp 59), none⟩])
 (.region [⟨(some 60), .mov (.tmp 13), none⟩,
 ⟨(some 61), .mov (.tmp 1), none⟩,
 ⟨(some 62), .indexStr (.val (.str ⟨#[48, 49, 50, 51, 52, 53, 54, 55, 56, 57, 97, 98, 99, 100, 101, 102, 103, 104, 105, 106, 107, 108, 109, 110, 111, 112, 113, 114, 115, 116, 117, 118, 119, 120, 121, 122]⟩)) (.tmp 61), none⟩,
 ⟨(some 63), .idxA 65 1 (.tmp 12) (.tmp 60), none⟩,
 ⟨none, .store 1 (.tmp 63) (.tmp 62), none⟩]))))))
 (.seq (.region [⟨(some 64), .mov (.tmp 2), none⟩,
 ⟨(some 65), .convInt .u64 (.tmp 64), none⟩,
 ⟨(some 17), .mov (.tmp 65), none⟩])
 (.seq (.block 2 (.loop (.seq (.seq (.region [⟨(some 66), .mov (.tmp 1), none⟩,
 ⟨(some 67), .mov (.tmp 17), none⟩,
 ⟨(some 68), .bin .geq (.tmp 66) (.tmp 67), none⟩])
 (.cond (.tmp 68) (.skip)
 (.exit 2)))
 (.block 3 (.seq (.region [⟨(some 69), .mov (.tmp 13), none⟩,
 ⟨(some 70), .bin .sub (.tmp 69) (.val (.int .i64 1)), none⟩,
 ⟨(some 13), .mov (.tmp 70), none⟩])
 (.seq (.region [⟨(some 71), .mov (.tmp 1), none⟩,
 ⟨(some 72), .mov (.tmp 17), none⟩,
 ⟨(some 73), .bin .quo (.tmp 71) (.tmp 72), none⟩,
 ⟨(some 18), .mov (.tmp 73), none⟩])
 (.seq (.region [⟨(some 74), .mov (.tmp 13), none⟩,
 ⟨(some 75), .mov (.tmp 1), none⟩,
 ⟨(some 76), .mov (.tmp 18), none⟩,
 ⟨(some 77), .mov (.tmp 17), none⟩,
 ⟨(some 78), .bin .mul (.tmp 76) (.tmp 77), none⟩,
 ⟨(some 79), .bin .sub (.tmp 75) (.tmp 78), none⟩,
 ⟨(some 80), .indexStr (.val (.str ⟨#[48, 49, 50, 51, 52, 53, 54, 55, 56, 57, 97, 98, 99, 100, 101, 102, 103, 104, 105, 106, 107, 108, 109, 110, 111, 112, 113, 114, 115, 116, 117, 118, 119, 120, 121, 122]⟩)) (.tmp 79), none⟩,
 ⟨(some 81), .idxA 65 1 (.tmp 12) (.tmp 74), none⟩,
 ⟨none, .store 1 (.tmp 81) (.tmp 80), none⟩])
 (.region [⟨(some 82), .mov (.tmp 18), none⟩,
 ⟨(some 1), .mov (.tmp 82), none⟩]))))))))
 (.seq (.region [⟨(some 83), .mov (.tmp 13), none⟩,
 ⟨(some 84), .bin .sub (.tmp 83) (.val (.int .i64 1)), none⟩,
 ⟨(some 13), .mov (.tmp 84), none⟩])
 (.region [⟨(some 85), .mov (.tmp 13), none⟩,
 ⟨(some 86), .mov (.tmp 1), none⟩,
 ⟨(some 87), .indexStr (.val (.str ⟨#[48, 49, 50, 51, 52, 53, 54, 55, 56, 57, 97, 98, 99, 100, 101, 102, 103, 104, 105, 106, 107, 108, 109, 110, 111, 112, 113, 114, 115, 116, 117, 118, 119, 120, 121, 122]⟩)) (.tmp 86), none⟩,
 ⟨(some 88), .idxA 65 1 (.tmp 12) (.tmp 85), none⟩,
 ⟨none, .store 1 (.tmp 88) (.tmp 87), none⟩]))))))
 (.seq (.seq (.region [⟨(some 89), .mov (.tmp 3), none⟩])
 (.cond (.tmp 89) (.seq (.region [⟨(some 90), .mov (.tmp 13), none⟩,
 ⟨(some 91), .bin .sub (.tmp 90) (.val (.int .i64 1)), none⟩,
 ⟨(some 13), .mov (.tmp 91), none⟩])
 (.region [⟨(some 92), .mov (.tmp 13), none⟩,
 ⟨(some 93), .idxA 65 1 (.tmp 12) (.tmp 92), none⟩,
 ⟨none, .store 1 (.tmp 93) (.val (.int .u8 45)), none⟩]))
 (.skip)))
 (.seq (.seq (.region [⟨(some 94), .mov (.tmp 4), none⟩])
 (.cond (.tmp 94) (.seq (.region [⟨(some 95), .mov (.tmp 0), none⟩,
 ⟨(some 96), .mov (.tmp 13), none⟩,
 ⟨(some 97), .sliceArr 65 1 (.tmp 12) (some (.tmp 96)) none none, none⟩,
 ⟨(some 98), .append 5 1 1 (.tmp 95) (.tmp 97), none⟩,
 ⟨(some 10), .mov (.tmp 98), none⟩])
 (.ret))
 (.skip)))
 (.seq (.region [⟨(some 99), .mov (.tmp 13), none⟩,
 ⟨(some 100), .sliceArr 65 1 (.tmp 12) (some (.tmp 99)) none none, none⟩,
 ⟨(some 101), .bytesToStr (.tmp 100), none⟩,
 ⟨(some 11), .mov (.tmp 101), none⟩])
 (.ret)))))))))), [.tmp 10, .tmp 11]⟩
def c187 : RFunc := ⟨6, .code (.seq (.region [⟨(some 2), .mov (.val (.int .i64 0)), none⟩])
 (.seq (.region [⟨(some 3), .mov (.tmp 0), none⟩,
 ⟨(some 4), .bin .mul (.tmp 3) (.val (.int .i64 78913)), none⟩,
 ⟨(some 5), .bin .shr (.tmp 4) (.val (.int .u64 18)), none⟩,
 ⟨(some 2), .mov (.tmp 5), none⟩])
 (.ret))), [.tmp 2]⟩
def c188 : RFunc := ⟨25, .code (.seq (.region [⟨(some 2), .mov (.val (.int .i64 0)), none⟩])
 (.seq (.seq (.region [⟨(some 3), .mov (.tmp 0), none⟩,
 ⟨(some 4), .bin .geq (.tmp 3) (.val (.int .u64 4294967296)), none⟩])
 (.cond (.tmp 4) (.seq (.region [⟨(some 5), .mov (.tmp 0), none⟩,
 ⟨(some 6), .bin .shr (.tmp 5) (.val (.int .u64 32)), none⟩,
 ⟨(some 0), .mov (.tmp 6), none⟩])
 (.region [⟨(some 2), .mov (.val (.int .i64 32)), none⟩]))
 (.skip)))
 (.seq (.seq (.region [⟨(some 7), .mov (.tmp 0), none⟩,
 ⟨(some 8), .bin .geq (.tmp 7) (.val (.int .u64 65536)), none⟩])
 (.cond (.tmp 8) (.seq (.region [⟨(some 9), .mov (.tmp 0), none⟩,
 ⟨(some 10), .bin .shr (.tmp 9) (.val (.int .u64 16)), none⟩,
 ⟨(some 0), .mov (.tmp 10), none⟩])
 (.region [⟨(some 11), .mov (.tmp 2), none⟩,
 ⟨(some 12), .bin .add (.tmp 11) (.val (.int .i64 16)), none⟩,
 ⟨(some 2), .mov (.tmp 12), none⟩]))
 (.skip)))
 (.seq (.seq (.region [⟨(some 13), .mov (.tmp 0), none⟩,
 ⟨(some 14), .bin .geq (.tmp 13) (.val (.int .u64 256)), none⟩])
 (.cond (.tmp 14) (.seq (.region [⟨(some 15), .mov (.tmp 0), none⟩,
 ⟨(some 16), .bin .shr (.tmp 15) (.val (.int .u64 8)), none⟩,
 ⟨(some 0), .mov (.tmp 16), none⟩])
 (.region [⟨(some 17), .mov (.tmp 2), none⟩,
 ⟨(some 18), .bin .add (.tmp 17) (.val (.int .i64 8)), none⟩,
 ⟨(some 2), .mov (.tmp 18), none⟩]))
 (.skip)))
 (.seq (.region [⟨(some 19), .mov (.tmp 2), none⟩,
 ⟨(some 20), .mov (.tmp 0), none⟩,
 ⟨(some 21), .convInt .u8 (.tmp 20), none⟩,
 ⟨(some 22), .indexStr (.val (.str ⟨#[0, 1, 2, 2, 3, 3, 3, 3, 4, 4, 4, 4, 4, 4, 4, 4, 5, 5, 5, 5, 5, 5, 5, 5, 5, 5, 5, 5, 5, 5, 5, 5, 6, 6, 6, 6, 6, 6, 6, 6, 6, 6, 6, 6, 6, 6, 6, 6, 6, 6, 6, 6, 6, 6, 6, 6, 6, 6, 6, 6, 6, 6, 6, 6, 7, 7, 7, 7, 7, 7, 7, 7, 7, 7, 7, 7, 7, 7, 7, 7, 7, 7, 7, 7, 7, 7, 7, 7, 7, 7, 7, 7, 7, 7, 7, 7, 7, 7, 7, 7, 7, 7, 7, 7, 7, 7, 7, 7, 7, 7, 7, 7, 7, 7, 7, 7, 7, 7, 7, 7, 7, 7, 7, 7, 7, 7, 7, 7, 8, 8, 8, 8, 8, 8, 8, 8, 8, 8, 8, 8, 8, 8, 8, 8, 8, 8, 8, 8, 8, 8, 8, 8, 8, 8, 8, 8, 8, 8, 8, 8, 8, 8, 8, 8, 8, 8, 8, 8, 8, 8, 8, 8, 8, 8, 8, 8, 8, 8, 8, 8, 8, 8, 8, 8, 8, 8, 8, 8, 8, 8, 8, 8, 8, 8, 8, 8, 8, 8, 8, 8, 8, 8, 8, 8, 8, 8, 8, 8, 8, 8, 8, 8, 8, 8, 8, 8, 8, 8, 8, 8, 8, 8, 8, 8, 8, 8, 8, 8, 8, 8, 8, 8, 8, 8, 8, 8, 8, 8, 8, 8, 8, 8, 8, 8, 8, 8, 8, 8, 8, 8, 8, 8, 8, 8, 8, 8]⟩)) (.tmp 21), none⟩,
 ⟨(some 23), .convInt .i64 (.tmp 22), none⟩,
 ⟨(some 24), .bin .add (.tmp 19) (.tmp 23), none⟩,
 ⟨(some 2), .mov (.tmp 24), none⟩])
 (.ret)))))), [.tmp 2]⟩
def c189 : RFunc := ⟨4, .code (.seq (.region [⟨(some 2), .mov (.val (.int .i64 0)), none⟩])
 (.seq (.seq (.region [⟨(some 3), .mov (.tmp 0), none⟩])
 (.cond (.tmp 3) (.seq (.region [⟨(some 2), .mov (.val (.int .i64 1)), none⟩])
 (.ret))
 (.skip)))
 (.seq (.region [⟨(some 2), .mov (.val (.int .i64 0)), none⟩])
 (.ret)))), [.tmp 2]⟩
def c190 : RFunc := ⟨8, .code (.seq (.region [⟨(some 2), .mov (.val (.bool false)), none⟩])
 (.seq (.region [⟨(some 3), .mov (.tmp 0), none⟩,
 ⟨(some 4), .mov (.tmp 0), none⟩,
 ⟨(some 5), .bin .sub (.tmp 4) (.val (.int .i64 1)), none⟩,
 ⟨(some 6), .bin .and (.tmp 3) (.tmp 5), none⟩,
 ⟨(some 7), .bin .eql (.tmp 6) (.val (.int .i64 0)), none⟩,
 ⟨(some 2), .mov (.tmp 7), none⟩])
 (.ret))), [.tmp 2]⟩
def c191 : RFunc := ⟨8, .code (.seq (.region [⟨(some 2), .mov (.val (.int .i64 0)), none⟩])
 (.seq (.cond (.val (.bool false)) (.seq (.region [⟨(some 3), .mov (.tmp 0), none⟩,
 ⟨(some 4), .convInt .u32 (.tmp 3), none⟩,
 ⟨(some 5), .call (.val (.func (.func 193) [] [])) [(.tmp 4)], none⟩,
 ⟨(some 2), .mov (.tmp 5), none⟩])
 (.ret))
 (.skip))
 (.seq (.region [⟨(some 6), .mov (.tmp 0), none⟩,
 ⟨(some 7), .call (.val (.func (.func 194) [] [])) [(.tmp 6)], none⟩,
 ⟨(some 2), .mov (.tmp 7), none⟩])
 (.ret)))), [.tmp 2]⟩
def c193 : RFunc := ⟨14, .code (.seq (.region [⟨(some 2), .mov (.val (.int .i64 0)), none⟩])
 (.seq (.seq (.region [⟨(some 3), .mov (.tmp 0), none⟩,
 ⟨(some 4), .bin .eql (.tmp 3) (.val (.int .u32 0)), none⟩])
 (.cond (.tmp 4) (.seq (.region [⟨(some 2), .mov (.val (.int .i64 32)), none⟩])
 (.ret))
 (.skip)))
 (.seq (.region [⟨(some 5), .mov (.tmp 0), none⟩,
 ⟨(some 6), .mov (.tmp 0), none⟩,
 ⟨(some 7), .un .neg (.tmp 6), none⟩,
 ⟨(some 8), .bin .and (.tmp 5) (.tmp 7), none⟩,
 ⟨(some 9), .bin .mul (.tmp 8) (.val (.int .u32 125613361)), none⟩,
 ⟨(some 10), .bin .shr (.tmp 9) (.val (.int .u64 27)), none⟩,
 ⟨(some 11), .idxA 32 1 (.val (.ptr 3 0)) (.tmp 10), none⟩,
 ⟨(some 12), .load none (.tmp 11), none⟩,
 ⟨(some 13), .convInt .i64 (.tmp 12), none⟩,
 ⟨(some 2), .mov (.tmp 13), none⟩])
 (.ret)))), [.tmp 2]⟩
def c194 : RFunc := ⟨14, .code (.seq (.region [⟨(some 2), .mov (.val (.int .i64 0)), none⟩])
 (.seq (.seq (.region [⟨(some 3), .mov (.tmp 0), none⟩,
 ⟨(some 4), .bin .eql (.tmp 3) (.val (.int .u64 0)), none⟩])
 (.cond (.tmp 4) (.seq (.region [⟨(some 2), .mov (.val (.int .i64 64)), none⟩])
 (.ret))
 (.skip)))
 (.seq (.region [⟨(some 5), .mov (.tmp 0), none⟩,
 ⟨(some 6), .mov (.tmp 0), none⟩,
 ⟨(some 7), .un .neg (.tmp 6), none⟩,
 ⟨(some 8), .bin .and (.tmp 5) (.tmp 7), none⟩,
 ⟨(some 9), .bin .mul (.tmp 8) (.val (.int .u64 285870213051353865)), none⟩,
 ⟨(some 10), .bin .shr (.tmp 9) (.val (.int .u64 58)), none⟩,
 ⟨(some 11), .idxA 64 1 (.val (.ptr 4 0)) (.tmp 10), none⟩,
 ⟨(some 12), .load none (.tmp 11), none⟩,
 ⟨(some 13), .convInt .i64 (.tmp 12), none⟩,
 ⟨(some 2), .mov (.tmp 13), none⟩])
 (.ret)))), [.tmp 2]⟩
end Go.Am

/- The functions of the program, in the small machine. -/
set_option maxRecDepth 100000
set_option maxHeartbeats 4000000
namespace Go.Am
open Go
/-- The package-level table that the functions read. -/
def aroundT : List (Nat × List AVal) := [(0, [.int .i64 0, .int .i64 (-1), .int .i64 1, .int .i64 (-1), .int .i64 1, .int .i64 0, .int .i64 1, .int .i64 1, .int .i64 0, .int .i64 1, .int .i64 (-1), .int .i64 1, .int .i64 (-1), .int .i64 0, .int .i64 (-1), .int .i64 (-1)])]
def powT : List (Nat × List AVal) := [(2, [.int .u64 1, .int .u64 10, .int .u64 100, .int .u64 1000, .int .u64 10000, .int .u64 100000, .int .u64 1000000, .int .u64 10000000, .int .u64 100000000, .int .u64 1000000000, .int .u64 10000000000, .int .u64 100000000000, .int .u64 1000000000000, .int .u64 10000000000000, .int .u64 100000000000000, .int .u64 1000000000000000, .int .u64 10000000000000000, .int .u64 100000000000000000, .int .u64 1000000000000000000, .int .u64 10000000000000000000])]
def digF : List AVal → Option AVal
  | [.int .i64 n] => if 0 ≤ n ∧ n ≤ 640 then some (.str ⟨(digs n.toNat).toArray⟩) else none
  | _ => none
def ext : Exts := fun k args => match k with
  | 0 => aCount args
  | 1 => aIndexByte args
  | 2 => aSelf args
  | 3 => aClosed aroundT (.bool true) args
  | 4 => aFam powT digF args
  | 5 => aFam [] digF args
  | _ => M.fail
def prog0 : FuncId → Option RFunc := fun f => (cond (Nat.blt f 142) (cond (Nat.blt f 108) (cond (Nat.blt f 94) (cond (Nat.blt f 60) (cond (Nat.blt f 27) (cond (Nat.beq f 19) (some c19) none) (cond (Nat.blt f 32) (cond (Nat.beq f 27) (some c27) none) (cond (Nat.beq f 32) (some c32) none))) (cond (Nat.blt f 72) (cond (Nat.blt f 70) (cond (Nat.beq f 60) (some c60) none) (cond (Nat.beq f 70) (some c70) none)) (cond (Nat.blt f 77) (cond (Nat.beq f 72) (some c72) none) (cond (Nat.beq f 77) (some c77) none)))) (cond (Nat.blt f 102) (cond (Nat.blt f 97) (cond (Nat.beq f 94) (some c94) none) (cond (Nat.blt f 98) (cond (Nat.beq f 97) (some c97) none) (cond (Nat.beq f 98) (some c98) none))) (cond (Nat.blt f 106) (cond (Nat.blt f 103) (cond (Nat.beq f 102) (some c102) none) (cond (Nat.beq f 103) (some c103) none)) (cond (Nat.blt f 107) (cond (Nat.beq f 106) (some c106) none) (cond (Nat.beq f 107) (some c107) none))))) (cond (Nat.blt f 128) (cond (Nat.blt f 121) (cond (Nat.blt f 109) (cond (Nat.beq f 108) (some c108) none) (cond (Nat.blt f 118) (cond (Nat.beq f 109) (some c109) none) (cond (Nat.beq f 118) (some c118) none))) (cond (Nat.blt f 126) (cond (Nat.blt f 122) (cond (Nat.beq f 121) (some c121) none) (cond (Nat.beq f 122) (some c122) none)) (cond (Nat.blt f 127) (cond (Nat.beq f 126) (some c126) none) (cond (Nat.beq f 127) (some c127) none)))) (cond (Nat.blt f 132) (cond (Nat.blt f 129) (cond (Nat.beq f 128) (some c128) none) (cond (Nat.blt f 130) (cond (Nat.beq f 129) (some c129) none) (cond (Nat.beq f 130) (some c130) none))) (cond (Nat.blt f 134) (cond (Nat.blt f 133) (cond (Nat.beq f 132) (some c132) none) (cond (Nat.beq f 133) (some c133) none)) (cond (Nat.blt f 135) (cond (Nat.beq f 134) (some c134) none) (cond (Nat.beq f 135) (some c135) none)))))) (cond (Nat.blt f 175) (cond (Nat.blt f 163) (cond (Nat.blt f 154) (cond (Nat.blt f 143) (cond (Nat.beq f 142) (some c142) none) (cond (Nat.blt f 153) (cond (Nat.beq f 143) (some c143) none) (cond (Nat.beq f 153) (some c153) none))) (cond (Nat.blt f 160) (cond (Nat.blt f 155) (cond (Nat.beq f 154) (some ⟨0, .ext 0, []⟩) none) (cond (Nat.beq f 155) (some c155) none)) (cond (Nat.blt f 162) (cond (Nat.beq f 160) (some c160) none) (cond (Nat.beq f 162) (some ⟨0, .ext 1, []⟩) none)))) (cond (Nat.blt f 170) (cond (Nat.blt f 164) (cond (Nat.beq f 163) (some c163) none) (cond (Nat.blt f 165) (cond (Nat.beq f 164) (some c164) none) (cond (Nat.beq f 165) (some c165) none))) (cond (Nat.blt f 173) (cond (Nat.blt f 171) (cond (Nat.beq f 170) (some c170) none) (cond (Nat.beq f 171) (some c171) none)) (cond (Nat.blt f 174) (cond (Nat.beq f 173) (some c173) none) (cond (Nat.beq f 174) (some c174) none))))) (cond (Nat.blt f 187) (cond (Nat.blt f 180) (cond (Nat.blt f 176) (cond (Nat.beq f 175) (some ⟨0, .ext 2, []⟩) none) (cond (Nat.blt f 179) (cond (Nat.beq f 176) (some c176) none) (cond (Nat.beq f 179) (some c179) none))) (cond (Nat.blt f 182) (cond (Nat.blt f 181) (cond (Nat.beq f 180) (some c180) none) (cond (Nat.beq f 181) (some c181) none)) (cond (Nat.blt f 183) (cond (Nat.beq f 182) (some c182) none) (cond (Nat.beq f 183) (some c183) none)))) (cond (Nat.blt f 190) (cond (Nat.blt f 188) (cond (Nat.beq f 187) (some c187) none) (cond (Nat.blt f 189) (cond (Nat.beq f 188) (some c188) none) (cond (Nat.beq f 189) (some c189) none))) (cond (Nat.blt f 193) (cond (Nat.blt f 191) (cond (Nat.beq f 190) (some c190) none) (cond (Nat.beq f 191) (some c191) none)) (cond (Nat.blt f 194) (cond (Nat.beq f 193) (some c193) none) (cond (Nat.beq f 194) (some c194) none)))))))
def prog : FuncId → Option RFunc := fun f => (cond (Nat.blt f 105) (cond (Nat.blt f 62) (cond (Nat.blt f 32) (cond (Nat.blt f 20) (cond (Nat.blt f 19) (cond (Nat.beq f 7) (some c7) none) (cond (Nat.beq f 19) (some ⟨0, .ext 3, []⟩) none)) (cond (Nat.blt f 21) (cond (Nat.beq f 20) (some c20) none) (cond (Nat.blt f 27) (cond (Nat.beq f 21) (some c21) none) (cond (Nat.beq f 27) (some c27) none)))) (cond (Nat.blt f 52) (cond (Nat.blt f 35) (cond (Nat.beq f 32) (some c32) none) (cond (Nat.blt f 51) (cond (Nat.beq f 35) (some c35) none) (cond (Nat.beq f 51) (some c51) none))) (cond (Nat.blt f 60) (cond (Nat.beq f 52) (some c52) none) (cond (Nat.blt f 61) (cond (Nat.beq f 60) (some c60) none) (cond (Nat.beq f 61) (some c61) none))))) (cond (Nat.blt f 96) (cond (Nat.blt f 65) (cond (Nat.blt f 63) (cond (Nat.beq f 62) (some c62) none) (cond (Nat.blt f 64) (cond (Nat.beq f 63) (some c63) none) (cond (Nat.beq f 64) (some c64) none))) (cond (Nat.blt f 66) (cond (Nat.beq f 65) (some c65) none) (cond (Nat.blt f 95) (cond (Nat.beq f 66) (some c66) none) (cond (Nat.beq f 95) (some c95) none)))) (cond (Nat.blt f 101) (cond (Nat.blt f 97) (cond (Nat.beq f 96) (some c96) none) (cond (Nat.blt f 98) (cond (Nat.beq f 97) (some c97) none) (cond (Nat.beq f 98) (some c98) none))) (cond (Nat.blt f 102) (cond (Nat.beq f 101) (some c101) none) (cond (Nat.blt f 104) (cond (Nat.beq f 102) (some c102) none) (cond (Nat.beq f 104) (some c104) none)))))) (cond (Nat.blt f 148) (cond (Nat.blt f 121) (cond (Nat.blt f 107) (cond (Nat.blt f 106) (cond (Nat.beq f 105) (some c105) none) (cond (Nat.beq f 106) (some c106) none)) (cond (Nat.blt f 108) (cond (Nat.beq f 107) (some c107) none) (cond (Nat.blt f 109) (cond (Nat.beq f 108) (some c108) none) (cond (Nat.beq f 109) (some c109) none)))) (cond (Nat.blt f 127) (cond (Nat.blt f 122) (cond (Nat.beq f 121) (some c121) none) (cond (Nat.blt f 123) (cond (Nat.beq f 122) (some c122) none) (cond (Nat.beq f 123) (some c123) none))) (cond (Nat.blt f 128) (cond (Nat.beq f 127) (some c127) none) (cond (Nat.blt f 147) (cond (Nat.beq f 128) (some c128) none) (cond (Nat.beq f 147) (some c147) none))))) (cond (Nat.blt f 162) (cond (Nat.blt f 154) (cond (Nat.blt f 149) (cond (Nat.beq f 148) (some c148) none) (cond (Nat.blt f 153) (cond (Nat.beq f 149) (some c149) none) (cond (Nat.beq f 153) (some c153) none))) (cond (Nat.blt f 155) (cond (Nat.beq f 154) (some ⟨0, .ext 0, []⟩) none) (cond (Nat.blt f 160) (cond (Nat.beq f 155) (some c155) none) (cond (Nat.beq f 160) (some c160) none)))) (cond (Nat.blt f 173) (cond (Nat.blt f 170) (cond (Nat.beq f 162) (some ⟨0, .ext 1, []⟩) none) (cond (Nat.blt f 171) (cond (Nat.beq f 170) (some c170) none) (cond (Nat.beq f 171) (some c171) none))) (cond (Nat.blt f 174) (cond (Nat.beq f 173) (some c173) none) (cond (Nat.blt f 179) (cond (Nat.beq f 174) (some c174) none) (cond (Nat.beq f 179) (some c179) none)))))))
end Go.Am

/- Functions without a body do what the small machine says. -/
namespace Go.Am
open Go Go.RowKit

section
variable {P : Program} {S : Base} {m : RMap} {H H' : AHeap} {w : World}

theorem aBytesFn_some {f : List UInt8 → AVal} {e : Array Value → Sem Value} {bv : Value} (hstr : ∀ (s : ByteArray) (w : World), ∃ y, (e #[.string s, bv]).run P w = .ok y w ∧ emb m (f s.data.toList) = some y)
    (hnil : ∀ (l c : Nat) (w : World), ∃ y, (e #[.slice none l c, bv]).run P w = .ok y w ∧ emb m (f []) = some y)
    (hsl : ∀ (a : Addr) (n c : Nat) (xs : List Int) (w : World), xs.length = n → (∀ j x, xs[j]? = some x → w.cell? (a.add j) = some (.int .u8 x)) → ∃ y, (e #[.slice (some a) n c, bv]).run P w = .ok y w ∧ emb m (f (xs.map fun n => UInt8.ofNat n.toNat)) = some y)
    {av u : AVal} {x : Value} (ha : emb m av = some x) (h : HRel S m H w) (hx : aBytesFn f av H = some (u, H')) : ∃ y, (e #[x, bv]).run P w = .ok y w ∧ Out S m u H' y w := by
  cases av with
  | nslice =>
    obtain ⟨rfl, rfl⟩ := pure_some hx
    simp only [emb] at ha; cases ha
    obtain ⟨y, h1, h2⟩ := hnil 0 0 w
    exact ⟨y, h1, Out.same h h2⟩
  | str s =>
    obtain ⟨rfl, rfl⟩ := pure_some hx
    simp only [emb] at ha; cases ha
    obtain ⟨y, h1, h2⟩ := hstr s w
    exact ⟨y, h1, Out.same h h2⟩
  | slice r off len cap s =>
    obtain ⟨p, hp, rfl⟩ := emb_slice_some ha
    simp only [aBytesFn] at hx
    by_cases hs : s ≠ 1
    · rw [if_pos hs] at hx; exact (fail_some hx).elim
    · rw [if_neg hs] at hx
      obtain ⟨⟨cs, rw⟩, H1, h1, h2⟩ := bind_some hx
      obtain ⟨rfl, hr, e', hg⟩ := aRow_some h1
      simp only [] at h2
      by_cases hq : off + len ≤ cs.length
      · rw [if_pos hq] at h2
        cases hb : bytesOf ((cs.drop off).take len) with
        | none => rw [hb] at h2; exact (fail_some h2).elim
        | some l =>
          rw [hb] at h2
          obtain ⟨rfl, rfl⟩ := pure_some h2
          obtain ⟨ns, hns, rfl⟩ := bytesOf_some hb
          have hok := h.row r cs rw e' p hr hg hp
          have hlen : ns.length = len := by
            have h1 : ((cs.drop off).take len).length = len := by simp; omega
            rw [hns] at h1; simpa using h1
          obtain ⟨y, h3, h4⟩ := hsl (p.1.add off) len (capR cap ((p.2 - off) / s)) ns w hlen fun j b hj => by
            have hjn : j < len := by rw [← hlen]; exact (List.getElem?_eq_some_iff.1 hj).1
            have h1 : cs[off + j]? = some (.int .u8 b) := by
              have h2 : ((cs.drop off).take len)[j]? = some (.int .u8 b) := by rw [hns]; simp [hj]
              rw [List.getElem?_take_of_lt hjn, List.getElem?_drop] at h2; exact h2
            obtain ⟨y, h3, h4⟩ := hok.cell _ _ h1
            simp only [emb] at h3; cases h3
            rw [add_add]; exact h4
          exact ⟨y, h3, Out.same h h4⟩
      · rw [if_neg hq] at h2; exact (fail_some h2).elim
  | _ => exact (fail_some (H := H) hx).elim

theorem yields_extern {f : FuncId} {fn : Func} {e : Array Value → Sem Value} (hf : P.funcs[f]? = some fn) (hname : (fn.name == "runtime.NumGoroutine") = false)
    (hb : fn.body.isNone = true) (hn : Extern.findNext fn = none) (he : Extern.find fn = some e) {args : Array Value} {y : Value} {R : Value → World → Prop} (hr : (e args).run P w = .ok y w) (h : R y w) : Yields P (callFunc f args) w R := by
  unfold Yields
  rw [run_callFunc_extern hf hname hb hn he, hr]
  exact h

theorem sem_bind_of {α β : Type} {P : Program} {w : World} {x : Sem α} {f : α → Sem β} {a : α} {w' : World} {r : Result β} (h : x.run P w = .ok a w') (h2 : (x >>= f).run P w = r) : (f a).run P w' = r := by
  rw [← h2]
  simp [h]

theorem ext_count {ext : Exts} {k : Nat} (hk : ext k = aCount) {f : FuncId} {fn : Func} (hf : P.funcs[f]? = some fn) (hname : (fn.name == "runtime.NumGoroutine") = false)
    (hb : fn.body.isNone = true) (hn : Extern.findNext fn = none) (he : Extern.find fn = some Extern.BytealgCount.count) : ExtSim P ext f k := by
  intro S args H v H' m w vargs hG hx h ha
  rw [hk] at hx
  match args, hx, ha with
  | [x, .int .u8 b], hx, ha =>
    obtain ⟨y, ys, h1, h2, rfl⟩ := embL_cons ha
    obtain ⟨z, zs, h3, h4, rfl⟩ := embL_cons h2
    simp only [embL] at h4; cases h4
    simp only [emb] at h3; cases h3
    obtain ⟨q, h5, h6⟩ := aBytesFn_some (P := P) (e := Extern.BytealgCount.count) (bv := .int .u8 b) (f := fun l => .int .i64 (Lib.countByte l (UInt8.ofNat b.toNat)))
      (fun s w => ⟨_, Lib.run_countString s b w, by simp [emb] <;> rfl⟩)
      (fun l c w => ⟨_, Lib.run_countString .empty b w, by simp [emb] <;> rfl⟩)
      (fun a n c xs w hl hc => by
        have hload := Lib.run_loadBytesX (P := P) w xs a .empty hc
        rw [hl] at hload
        have hs := Lib.run_countString (P := P) ⟨(Lib.bytesOf xs).toArray⟩ b w
        have he : (⟨ByteArray.empty.data ++ (Lib.bytesOf xs).toArray⟩ : ByteArray) = ⟨(Lib.bytesOf xs).toArray⟩ := by
          apply ByteArray.ext
          show (#[] : Array UInt8) ++ (Lib.bytesOf xs).toArray = (Lib.bytesOf xs).toArray
          simp
        rw [he] at hload
        refine ⟨.int .i64 (Lib.countByte (Lib.bytesOf xs) b.toNat.toUInt8), ?_, by simp [emb] <;> rfl⟩
        have hb1 : (Extern.Bytes.bytesOf (.slice (some a) n c)).run P w = .ok ⟨(Lib.bytesOf xs).toArray⟩ w := by simpa [Extern.Bytes.bytesOf] using hload
        have hb2 : (Extern.Bytes.bytesOf (.string ⟨(Lib.bytesOf xs).toArray⟩)).run P w = .ok ⟨(Lib.bytesOf xs).toArray⟩ w := by simp [Extern.Bytes.bytesOf]
        refine sem_bind_ok hb1 ?_
        have hs2 := sem_bind_of hb2 hs
        exact hs2) h1 h hx
    exact yields_extern hf hname hb hn he h5 h6

theorem ext_indexByte {ext : Exts} {k : Nat} (hk : ext k = aIndexByte) {f : FuncId} {fn : Func} (hf : P.funcs[f]? = some fn) (hname : (fn.name == "runtime.NumGoroutine") = false)
    (hb : fn.body.isNone = true) (hn : Extern.findNext fn = none) (he : Extern.find fn = some Extern.BytealgIndexByte.indexByte) : ExtSim P ext f k := by
  intro S args H v H' m w vargs hG hx h ha
  rw [hk] at hx
  match args, hx, ha with
  | [x, .int .u8 b], hx, ha =>
    obtain ⟨y, ys, h1, h2, rfl⟩ := embL_cons ha
    obtain ⟨z, zs, h3, h4, rfl⟩ := embL_cons h2
    simp only [embL] at h4; cases h4
    simp only [emb] at h3; cases h3
    obtain ⟨q, h5, h6⟩ := aBytesFn_some (P := P) (e := Extern.BytealgIndexByte.indexByte) (bv := .int .u8 b) (f := fun l => .int .i64 (Lib.indexByte l (UInt8.ofNat b.toNat)))
      (fun s w => ⟨_, Lib.run_indexByteString s b w, by simp [emb] <;> rfl⟩)
      (fun l c w => ⟨_, Lib.run_indexByteNil w l c b, by simp [emb] <;> rfl⟩)
      (fun a n c xs w hl hc => by
        have hload := Lib.run_loadBytesX (P := P) w xs a .empty hc
        rw [hl] at hload
        have hs := Lib.run_indexByteString (P := P) ⟨(Lib.bytesOf xs).toArray⟩ b w
        have he : (⟨ByteArray.empty.data ++ (Lib.bytesOf xs).toArray⟩ : ByteArray) = ⟨(Lib.bytesOf xs).toArray⟩ := by
          apply ByteArray.ext
          show (#[] : Array UInt8) ++ (Lib.bytesOf xs).toArray = (Lib.bytesOf xs).toArray
          simp
        rw [he] at hload
        refine ⟨.int .i64 (Lib.indexByte (Lib.bytesOf xs) b.toNat.toUInt8), ?_, by simp [emb] <;> rfl⟩
        have hb1 : (Extern.Bytes.bytesOf (.slice (some a) n c)).run P w = .ok ⟨(Lib.bytesOf xs).toArray⟩ w := by simpa [Extern.Bytes.bytesOf] using hload
        have hb2 : (Extern.Bytes.bytesOf (.string ⟨(Lib.bytesOf xs).toArray⟩)).run P w = .ok ⟨(Lib.bytesOf xs).toArray⟩ w := by simp [Extern.Bytes.bytesOf]
        refine sem_bind_ok hb1 ?_
        have hs2 := sem_bind_of hb2 hs
        exact hs2) h1 h hx
    exact yields_extern hf hname hb hn he h5 h6

theorem ext_self {ext : Exts} {k : Nat} (hk : ext k = aSelf) {f : FuncId} {fn : Func} (hf : P.funcs[f]? = some fn) (hname : (fn.name == "runtime.NumGoroutine") = false)
    (hb : fn.body.isNone = true) (hn : Extern.findNext fn = none) (he : Extern.find fn = some Extern.AbiNoEscape.same) : ExtSim P ext f k := by
  intro S args H v H' m w vargs hG hx h ha
  rw [hk] at hx
  match args, hx, ha with
  | [x], hx, ha =>
    obtain ⟨y, ys, h1, h2, rfl⟩ := embL_cons ha
    simp only [embL] at h2; cases h2
    obtain ⟨rfl, rfl⟩ := pure_some hx
    have hr : (Extern.AbiNoEscape.same #[y]).run P w = .ok y w := by
      have : Extern.AbiNoEscape.same #[y] = pure y := rfl
      rw [this]; simp
    exact yields_extern hf hname hb hn he hr (Out.same h h1)
end
end Go.Am

/- The table of functions is right. -/
set_option maxRecDepth 100000
set_option maxHeartbeats 4000000
namespace Go.Am
open Go Go.Proofs
theorem ext_of {P : Program} {e e' : Exts} {f : FuncId} {k : Nat} (h : ExtSim P e f k) (hk : e' k = e k) : ExtSim P e' f k := fun S args H v H' m w vargs hG hx => h S args H v H' m w vargs hG (by rw [← hk]; exact hx)
theorem k7 : cFunc Tryd.prog Tryd.f7 = some c7 := by kernel_rfl
theorem k19 : cFunc Tryd.prog Tryd.f19 = some c19 := by kernel_rfl
theorem k20 : cFunc Tryd.prog Tryd.f20 = some c20 := by kernel_rfl
theorem k21 : cFunc Tryd.prog Tryd.f21 = some c21 := by kernel_rfl
theorem k27 : cFunc Tryd.prog Tryd.f27 = some c27 := by kernel_rfl
theorem k32 : cFunc Tryd.prog Tryd.f32 = some c32 := by kernel_rfl
theorem k35 : cFunc Tryd.prog Tryd.f35 = some c35 := by kernel_rfl
theorem k51 : cFunc Tryd.prog Tryd.f51 = some c51 := by kernel_rfl
theorem k52 : cFunc Tryd.prog Tryd.f52 = some c52 := by kernel_rfl
theorem k60 : cFunc Tryd.prog Tryd.f60 = some c60 := by kernel_rfl
theorem k61 : cFunc Tryd.prog Tryd.f61 = some c61 := by kernel_rfl
theorem k62 : cFunc Tryd.prog Tryd.f62 = some c62 := by kernel_rfl
theorem k63 : cFunc Tryd.prog Tryd.f63 = some c63 := by kernel_rfl
theorem k64 : cFunc Tryd.prog Tryd.f64 = some c64 := by kernel_rfl
theorem k65 : cFunc Tryd.prog Tryd.f65 = some c65 := by kernel_rfl
theorem k66 : cFunc Tryd.prog Tryd.f66 = some c66 := by kernel_rfl
theorem k70 : cFunc Tryd.prog Tryd.f70 = some c70 := by kernel_rfl
theorem k72 : cFunc Tryd.prog Tryd.f72 = some c72 := by kernel_rfl
theorem k77 : cFunc Tryd.prog Tryd.f77 = some c77 := by kernel_rfl
theorem k94 : cFunc Tryd.prog Tryd.f94 = some c94 := by kernel_rfl
theorem k95 : cFunc Tryd.prog Tryd.f95 = some c95 := by kernel_rfl
theorem k96 : cFunc Tryd.prog Tryd.f96 = some c96 := by kernel_rfl
theorem k97 : cFunc Tryd.prog Tryd.f97 = some c97 := by kernel_rfl
theorem k98 : cFunc Tryd.prog Tryd.f98 = some c98 := by kernel_rfl
theorem k101 : cFunc Tryd.prog Tryd.f101 = some c101 := by kernel_rfl
theorem k102 : cFunc Tryd.prog Tryd.f102 = some c102 := by kernel_rfl
theorem k103 : cFunc Tryd.prog Tryd.f103 = some c103 := by kernel_rfl
theorem k104 : cFunc Tryd.prog Tryd.f104 = some c104 := by kernel_rfl
theorem k105 : cFunc Tryd.prog Tryd.f105 = some c105 := by kernel_rfl
theorem k106 : cFunc Tryd.prog Tryd.f106 = some c106 := by kernel_rfl
theorem k107 : cFunc Tryd.prog Tryd.f107 = some c107 := by kernel_rfl
theorem k108 : cFunc Tryd.prog Tryd.f108 = some c108 := by kernel_rfl
theorem k109 : cFunc Tryd.prog Tryd.f109 = some c109 := by kernel_rfl
theorem k118 : cFunc Tryd.prog Tryd.f118 = some c118 := by kernel_rfl
theorem k121 : cFunc Tryd.prog Tryd.f121 = some c121 := by kernel_rfl
theorem k122 : cFunc Tryd.prog Tryd.f122 = some c122 := by kernel_rfl
theorem k123 : cFunc Tryd.prog Tryd.f123 = some c123 := by kernel_rfl
theorem k126 : cFunc Tryd.prog Tryd.f126 = some c126 := by kernel_rfl
theorem k127 : cFunc Tryd.prog Tryd.f127 = some c127 := by kernel_rfl
theorem k128 : cFunc Tryd.prog Tryd.f128 = some c128 := by kernel_rfl
theorem k129 : cFunc Tryd.prog Tryd.f129 = some c129 := by kernel_rfl
theorem k130 : cFunc Tryd.prog Tryd.f130 = some c130 := by kernel_rfl
theorem k132 : cFunc Tryd.prog Tryd.f132 = some c132 := by kernel_rfl
theorem k133 : cFunc Tryd.prog Tryd.f133 = some c133 := by kernel_rfl
theorem k134 : cFunc Tryd.prog Tryd.f134 = some c134 := by kernel_rfl
theorem k135 : cFunc Tryd.prog Tryd.f135 = some c135 := by kernel_rfl
theorem k142 : cFunc Tryd.prog Tryd.f142 = some c142 := by kernel_rfl
theorem k143 : cFunc Tryd.prog Tryd.f143 = some c143 := by kernel_rfl
theorem k147 : cFunc Tryd.prog Tryd.f147 = some c147 := by kernel_rfl
theorem k148 : cFunc Tryd.prog Tryd.f148 = some c148 := by kernel_rfl
theorem k149 : cFunc Tryd.prog Tryd.f149 = some c149 := by kernel_rfl
theorem k153 : cFunc Tryd.prog Tryd.f153 = some c153 := by kernel_rfl
theorem k154 : ExtSim Tryd.prog ext 154 0 := ext_count rfl Tryd.func154 (by kernel_rfl) (by kernel_rfl) (by kernel_rfl) (by kernel_rfl)
theorem k155 : cFunc Tryd.prog Tryd.f155 = some c155 := by kernel_rfl
theorem k160 : cFunc Tryd.prog Tryd.f160 = some c160 := by kernel_rfl
theorem k162 : ExtSim Tryd.prog ext 162 1 := ext_indexByte rfl Tryd.func162 (by kernel_rfl) (by kernel_rfl) (by kernel_rfl) (by kernel_rfl)
theorem k163 : cFunc Tryd.prog Tryd.f163 = some c163 := by kernel_rfl
theorem k164 : cFunc Tryd.prog Tryd.f164 = some c164 := by kernel_rfl
theorem k165 : cFunc Tryd.prog Tryd.f165 = some c165 := by kernel_rfl
theorem k170 : cFunc Tryd.prog Tryd.f170 = some c170 := by kernel_rfl
theorem k171 : cFunc Tryd.prog Tryd.f171 = some c171 := by kernel_rfl
theorem k173 : cFunc Tryd.prog Tryd.f173 = some c173 := by kernel_rfl
theorem k174 : cFunc Tryd.prog Tryd.f174 = some c174 := by kernel_rfl
theorem k175 : ExtSim Tryd.prog ext 175 2 := ext_self rfl Tryd.func175 (by kernel_rfl) (by kernel_rfl) (by kernel_rfl) (by kernel_rfl)
theorem k176 : cFunc Tryd.prog Tryd.f176 = some c176 := by kernel_rfl
theorem k179 : cFunc Tryd.prog Tryd.f179 = some c179 := by kernel_rfl
theorem k180 : cFunc Tryd.prog Tryd.f180 = some c180 := by kernel_rfl
theorem k181 : cFunc Tryd.prog Tryd.f181 = some c181 := by kernel_rfl
theorem k182 : cFunc Tryd.prog Tryd.f182 = some c182 := by kernel_rfl
theorem k183 : cFunc Tryd.prog Tryd.f183 = some c183 := by kernel_rfl
theorem k187 : cFunc Tryd.prog Tryd.f187 = some c187 := by kernel_rfl
theorem k188 : cFunc Tryd.prog Tryd.f188 = some c188 := by kernel_rfl
theorem k189 : cFunc Tryd.prog Tryd.f189 = some c189 := by kernel_rfl
theorem k190 : cFunc Tryd.prog Tryd.f190 = some c190 := by kernel_rfl
theorem k191 : cFunc Tryd.prog Tryd.f191 = some c191 := by kernel_rfl
theorem k193 : cFunc Tryd.prog Tryd.f193 = some c193 := by kernel_rfl
theorem k194 : cFunc Tryd.prog Tryd.f194 = some c194 := by kernel_rfl
theorem cond_some {α : Type} {b : Bool} {x y : Option α} {v : α} (h : cond b x y = some v) : (b = true ∧ x = some v) ∨ (b = false ∧ y = some v) := by cases b <;> simp_all
theorem progOk0 : ProgOk Tryd.prog ext prog0 := by
  refine ⟨rfl, by decide +kernel, ?_⟩
  intro f rf h
  unfold prog0 at h
  rcases cond_some h with ⟨_, h⟩ | ⟨_, h⟩
  · skip
    rcases cond_some h with ⟨_, h⟩ | ⟨_, h⟩
    · skip
      rcases cond_some h with ⟨_, h⟩ | ⟨_, h⟩
      · skip
        rcases cond_some h with ⟨_, h⟩ | ⟨_, h⟩
        · skip
          rcases cond_some h with ⟨_, h⟩ | ⟨_, h⟩
          · skip
            rcases cond_some h with ⟨hb, h⟩ | ⟨_, h⟩
            · obtain rfl := Nat.eq_of_beq_eq_true hb; cases h; exact Or.inl ⟨Tryd.f19, _, Tryd.func19, rfl, k19⟩
            · cases h
          · skip
            rcases cond_some h with ⟨_, h⟩ | ⟨_, h⟩
            · skip
              rcases cond_some h with ⟨hb, h⟩ | ⟨_, h⟩
              · obtain rfl := Nat.eq_of_beq_eq_true hb; cases h; exact Or.inl ⟨Tryd.f27, _, Tryd.func27, rfl, k27⟩
              · cases h
            · skip
              rcases cond_some h with ⟨hb, h⟩ | ⟨_, h⟩
              · obtain rfl := Nat.eq_of_beq_eq_true hb; cases h; exact Or.inl ⟨Tryd.f32, _, Tryd.func32, rfl, k32⟩
              · cases h
        · skip
          rcases cond_some h with ⟨_, h⟩ | ⟨_, h⟩
          · skip
            rcases cond_some h with ⟨_, h⟩ | ⟨_, h⟩
            · skip
              rcases cond_some h with ⟨hb, h⟩ | ⟨_, h⟩
              · obtain rfl := Nat.eq_of_beq_eq_true hb; cases h; exact Or.inl ⟨Tryd.f60, _, Tryd.func60, rfl, k60⟩
              · cases h
            · skip
              rcases cond_some h with ⟨hb, h⟩ | ⟨_, h⟩
              · obtain rfl := Nat.eq_of_beq_eq_true hb; cases h; exact Or.inl ⟨Tryd.f70, _, Tryd.func70, rfl, k70⟩
              · cases h
          · skip
            rcases cond_some h with ⟨_, h⟩ | ⟨_, h⟩
            · skip
              rcases cond_some h with ⟨hb, h⟩ | ⟨_, h⟩
              · obtain rfl := Nat.eq_of_beq_eq_true hb; cases h; exact Or.inl ⟨Tryd.f72, _, Tryd.func72, rfl, k72⟩
              · cases h
            · skip
              rcases cond_some h with ⟨hb, h⟩ | ⟨_, h⟩
              · obtain rfl := Nat.eq_of_beq_eq_true hb; cases h; exact Or.inl ⟨Tryd.f77, _, Tryd.func77, rfl, k77⟩
              · cases h
      · skip
        rcases cond_some h with ⟨_, h⟩ | ⟨_, h⟩
        · skip
          rcases cond_some h with ⟨_, h⟩ | ⟨_, h⟩
          · skip
            rcases cond_some h with ⟨hb, h⟩ | ⟨_, h⟩
            · obtain rfl := Nat.eq_of_beq_eq_true hb; cases h; exact Or.inl ⟨Tryd.f94, _, Tryd.func94, rfl, k94⟩
            · cases h
          · skip
            rcases cond_some h with ⟨_, h⟩ | ⟨_, h⟩
            · skip
              rcases cond_some h with ⟨hb, h⟩ | ⟨_, h⟩
              · obtain rfl := Nat.eq_of_beq_eq_true hb; cases h; exact Or.inl ⟨Tryd.f97, _, Tryd.func97, rfl, k97⟩
              · cases h
            · skip
              rcases cond_some h with ⟨hb, h⟩ | ⟨_, h⟩
              · obtain rfl := Nat.eq_of_beq_eq_true hb; cases h; exact Or.inl ⟨Tryd.f98, _, Tryd.func98, rfl, k98⟩
              · cases h
        · skip
          rcases cond_some h with ⟨_, h⟩ | ⟨_, h⟩
          · skip
            rcases cond_some h with ⟨_, h⟩ | ⟨_, h⟩
            · skip
              rcases cond_some h with ⟨hb, h⟩ | ⟨_, h⟩
              · obtain rfl := Nat.eq_of_beq_eq_true hb; cases h; exact Or.inl ⟨Tryd.f102, _, Tryd.func102, rfl, k102⟩
              · cases h
            · skip
              rcases cond_some h with ⟨hb, h⟩ | ⟨_, h⟩
              · obtain rfl := Nat.eq_of_beq_eq_true hb; cases h; exact Or.inl ⟨Tryd.f103, _, Tryd.func103, rfl, k103⟩
              · cases h
          · skip
            rcases cond_some h with ⟨_, h⟩ | ⟨_, h⟩
            · skip
              rcases cond_some h with ⟨hb, h⟩ | ⟨_, h⟩
              · obtain rfl := Nat.eq_of_beq_eq_true hb; cases h; exact Or.inl ⟨Tryd.f106, _, Tryd.func106, rfl, k106⟩
              · cases h
            · skip
              rcases cond_some h with ⟨hb, h⟩ | ⟨_, h⟩
              · obtain rfl := Nat.eq_of_beq_eq_true hb; cases h; exact Or.inl ⟨Tryd.f107, _, Tryd.func107, rfl, k107⟩
              · cases h
    · skip
      rcases cond_some h with ⟨_, h⟩ | ⟨_, h⟩
      · skip
        rcases cond_some h with ⟨_, h⟩ | ⟨_, h⟩
        · skip
          rcases cond_some h with ⟨_, h⟩ | ⟨_, h⟩
          · skip
            rcases cond_some h with ⟨hb, h⟩ | ⟨_, h⟩
            · obtain rfl := Nat.eq_of_beq_eq_true hb; cases h; exact Or.inl ⟨Tryd.f108, _, Tryd.func108, rfl, k108⟩
            · cases h
          · skip
            rcases cond_some h with ⟨_, h⟩ | ⟨_, h⟩
            · skip
              rcases cond_some h with ⟨hb, h⟩ | ⟨_, h⟩
              · obtain rfl := Nat.eq_of_beq_eq_true hb; cases h; exact Or.inl ⟨Tryd.f109, _, Tryd.func109, rfl, k109⟩
              · cases h
            · skip
              rcases cond_some h with ⟨hb, h⟩ | ⟨_, h⟩
              · obtain rfl := Nat.eq_of_beq_eq_true hb; cases h; exact Or.inl ⟨Tryd.f118, _, Tryd.func118, rfl, k118⟩
              · cases h
        · skip
          rcases cond_some h with ⟨_, h⟩ | ⟨_, h⟩
          · skip
            rcases cond_some h with ⟨_, h⟩ | ⟨_, h⟩
            · skip
              rcases cond_some h with ⟨hb, h⟩ | ⟨_, h⟩
              · obtain rfl := Nat.eq_of_beq_eq_true hb; cases h; exact Or.inl ⟨Tryd.f121, _, Tryd.func121, rfl, k121⟩
              · cases h
            · skip
              rcases cond_some h with ⟨hb, h⟩ | ⟨_, h⟩
              · obtain rfl := Nat.eq_of_beq_eq_true hb; cases h; exact Or.inl ⟨Tryd.f122, _, Tryd.func122, rfl, k122⟩
              · cases h
          · skip
            rcases cond_some h with ⟨_, h⟩ | ⟨_, h⟩
            · skip
              rcases cond_some h with ⟨hb, h⟩ | ⟨_, h⟩
              · obtain rfl := Nat.eq_of_beq_eq_true hb; cases h; exact Or.inl ⟨Tryd.f126, _, Tryd.func126, rfl, k126⟩
              · cases h
            · skip
              rcases cond_some h with ⟨hb, h⟩ | ⟨_, h⟩
              · obtain rfl := Nat.eq_of_beq_eq_true hb; cases h; exact Or.inl ⟨Tryd.f127, _, Tryd.func127, rfl, k127⟩
              · cases h
      · skip
        rcases cond_some h with ⟨_, h⟩ | ⟨_, h⟩
        · skip
          rcases cond_some h with ⟨_, h⟩ | ⟨_, h⟩
          · skip
            rcases cond_some h with ⟨hb, h⟩ | ⟨_, h⟩
            · obtain rfl := Nat.eq_of_beq_eq_true hb; cases h; exact Or.inl ⟨Tryd.f128, _, Tryd.func128, rfl, k128⟩
            · cases h
          · skip
            rcases cond_some h with ⟨_, h⟩ | ⟨_, h⟩
            · skip
              rcases cond_some h with ⟨hb, h⟩ | ⟨_, h⟩
              · obtain rfl := Nat.eq_of_beq_eq_true hb; cases h; exact Or.inl ⟨Tryd.f129, _, Tryd.func129, rfl, k129⟩
              · cases h
            · skip
              rcases cond_some h with ⟨hb, h⟩ | ⟨_, h⟩
              · obtain rfl := Nat.eq_of_beq_eq_true hb; cases h; exact Or.inl ⟨Tryd.f130, _, Tryd.func130, rfl, k130⟩
              · cases h
        · skip
          rcases cond_some h with ⟨_, h⟩ | ⟨_, h⟩
          · skip
            rcases cond_some h with ⟨_, h⟩ | ⟨_, h⟩
            · skip
              rcases cond_some h with ⟨hb, h⟩ | ⟨_, h⟩
              · obtain rfl := Nat.eq_of_beq_eq_true hb; cases h; exact Or.inl ⟨Tryd.f132, _, Tryd.func132, rfl, k132⟩
              · cases h
            · skip
              rcases cond_some h with ⟨hb, h⟩ | ⟨_, h⟩
              · obtain rfl := Nat.eq_of_beq_eq_true hb; cases h; exact Or.inl ⟨Tryd.f133, _, Tryd.func133, rfl, k133⟩
              · cases h
          · skip
            rcases cond_some h with ⟨_, h⟩ | ⟨_, h⟩
            · skip
              rcases cond_some h with ⟨hb, h⟩ | ⟨_, h⟩
              · obtain rfl := Nat.eq_of_beq_eq_true hb; cases h; exact Or.inl ⟨Tryd.f134, _, Tryd.func134, rfl, k134⟩
              · cases h
            · skip
              rcases cond_some h with ⟨hb, h⟩ | ⟨_, h⟩
              · obtain rfl := Nat.eq_of_beq_eq_true hb; cases h; exact Or.inl ⟨Tryd.f135, _, Tryd.func135, rfl, k135⟩
              · cases h
  · skip
    rcases cond_some h with ⟨_, h⟩ | ⟨_, h⟩
    · skip
      rcases cond_some h with ⟨_, h⟩ | ⟨_, h⟩
      · skip
        rcases cond_some h with ⟨_, h⟩ | ⟨_, h⟩
        · skip
          rcases cond_some h with ⟨_, h⟩ | ⟨_, h⟩
          · skip
            rcases cond_some h with ⟨hb, h⟩ | ⟨_, h⟩
            · obtain rfl := Nat.eq_of_beq_eq_true hb; cases h; exact Or.inl ⟨Tryd.f142, _, Tryd.func142, rfl, k142⟩
            · cases h
          · skip
            rcases cond_some h with ⟨_, h⟩ | ⟨_, h⟩
            · skip
              rcases cond_some h with ⟨hb, h⟩ | ⟨_, h⟩
              · obtain rfl := Nat.eq_of_beq_eq_true hb; cases h; exact Or.inl ⟨Tryd.f143, _, Tryd.func143, rfl, k143⟩
              · cases h
            · skip
              rcases cond_some h with ⟨hb, h⟩ | ⟨_, h⟩
              · obtain rfl := Nat.eq_of_beq_eq_true hb; cases h; exact Or.inl ⟨Tryd.f153, _, Tryd.func153, rfl, k153⟩
              · cases h
        · skip
          rcases cond_some h with ⟨_, h⟩ | ⟨_, h⟩
          · skip
            rcases cond_some h with ⟨_, h⟩ | ⟨_, h⟩
            · skip
              rcases cond_some h with ⟨hb, h⟩ | ⟨_, h⟩
              · obtain rfl := Nat.eq_of_beq_eq_true hb; cases h; exact Or.inr ⟨0, rfl, k154⟩
              · cases h
            · skip
              rcases cond_some h with ⟨hb, h⟩ | ⟨_, h⟩
              · obtain rfl := Nat.eq_of_beq_eq_true hb; cases h; exact Or.inl ⟨Tryd.f155, _, Tryd.func155, rfl, k155⟩
              · cases h
          · skip
            rcases cond_some h with ⟨_, h⟩ | ⟨_, h⟩
            · skip
              rcases cond_some h with ⟨hb, h⟩ | ⟨_, h⟩
              · obtain rfl := Nat.eq_of_beq_eq_true hb; cases h; exact Or.inl ⟨Tryd.f160, _, Tryd.func160, rfl, k160⟩
              · cases h
            · skip
              rcases cond_some h with ⟨hb, h⟩ | ⟨_, h⟩
              · obtain rfl := Nat.eq_of_beq_eq_true hb; cases h; exact Or.inr ⟨1, rfl, k162⟩
              · cases h
      · skip
        rcases cond_some h with ⟨_, h⟩ | ⟨_, h⟩
        · skip
          rcases cond_some h with ⟨_, h⟩ | ⟨_, h⟩
          · skip
            rcases cond_some h with ⟨hb, h⟩ | ⟨_, h⟩
            · obtain rfl := Nat.eq_of_beq_eq_true hb; cases h; exact Or.inl ⟨Tryd.f163, _, Tryd.func163, rfl, k163⟩
            · cases h
          · skip
            rcases cond_some h with ⟨_, h⟩ | ⟨_, h⟩
            · skip
              rcases cond_some h with ⟨hb, h⟩ | ⟨_, h⟩
              · obtain rfl := Nat.eq_of_beq_eq_true hb; cases h; exact Or.inl ⟨Tryd.f164, _, Tryd.func164, rfl, k164⟩
              · cases h
            · skip
              rcases cond_some h with ⟨hb, h⟩ | ⟨_, h⟩
              · obtain rfl := Nat.eq_of_beq_eq_true hb; cases h; exact Or.inl ⟨Tryd.f165, _, Tryd.func165, rfl, k165⟩
              · cases h
        · skip
          rcases cond_some h with ⟨_, h⟩ | ⟨_, h⟩
          · skip
            rcases cond_some h with ⟨_, h⟩ | ⟨_, h⟩
            · skip
              rcases cond_some h with ⟨hb, h⟩ | ⟨_, h⟩
              · obtain rfl := Nat.eq_of_beq_eq_true hb; cases h; exact Or.inl ⟨Tryd.f170, _, Tryd.func170, rfl, k170⟩
              · cases h
            · skip
              rcases cond_some h with ⟨hb, h⟩ | ⟨_, h⟩
              · obtain rfl := Nat.eq_of_beq_eq_true hb; cases h; exact Or.inl ⟨Tryd.f171, _, Tryd.func171, rfl, k171⟩
              · cases h
          · skip
            rcases cond_some h with ⟨_, h⟩ | ⟨_, h⟩
            · skip
              rcases cond_some h with ⟨hb, h⟩ | ⟨_, h⟩
              · obtain rfl := Nat.eq_of_beq_eq_true hb; cases h; exact Or.inl ⟨Tryd.f173, _, Tryd.func173, rfl, k173⟩
              · cases h
            · skip
              rcases cond_some h with ⟨hb, h⟩ | ⟨_, h⟩
              · obtain rfl := Nat.eq_of_beq_eq_true hb; cases h; exact Or.inl ⟨Tryd.f174, _, Tryd.func174, rfl, k174⟩
              · cases h
    · skip
      rcases cond_some h with ⟨_, h⟩ | ⟨_, h⟩
      · skip
        rcases cond_some h with ⟨_, h⟩ | ⟨_, h⟩
        · skip
          rcases cond_some h with ⟨_, h⟩ | ⟨_, h⟩
          · skip
            rcases cond_some h with ⟨hb, h⟩ | ⟨_, h⟩
            · obtain rfl := Nat.eq_of_beq_eq_true hb; cases h; exact Or.inr ⟨2, rfl, k175⟩
            · cases h
          · skip
            rcases cond_some h with ⟨_, h⟩ | ⟨_, h⟩
            · skip
              rcases cond_some h with ⟨hb, h⟩ | ⟨_, h⟩
              · obtain rfl := Nat.eq_of_beq_eq_true hb; cases h; exact Or.inl ⟨Tryd.f176, _, Tryd.func176, rfl, k176⟩
              · cases h
            · skip
              rcases cond_some h with ⟨hb, h⟩ | ⟨_, h⟩
              · obtain rfl := Nat.eq_of_beq_eq_true hb; cases h; exact Or.inl ⟨Tryd.f179, _, Tryd.func179, rfl, k179⟩
              · cases h
        · skip
          rcases cond_some h with ⟨_, h⟩ | ⟨_, h⟩
          · skip
            rcases cond_some h with ⟨_, h⟩ | ⟨_, h⟩
            · skip
              rcases cond_some h with ⟨hb, h⟩ | ⟨_, h⟩
              · obtain rfl := Nat.eq_of_beq_eq_true hb; cases h; exact Or.inl ⟨Tryd.f180, _, Tryd.func180, rfl, k180⟩
              · cases h
            · skip
              rcases cond_some h with ⟨hb, h⟩ | ⟨_, h⟩
              · obtain rfl := Nat.eq_of_beq_eq_true hb; cases h; exact Or.inl ⟨Tryd.f181, _, Tryd.func181, rfl, k181⟩
              · cases h
          · skip
            rcases cond_some h with ⟨_, h⟩ | ⟨_, h⟩
            · skip
              rcases cond_some h with ⟨hb, h⟩ | ⟨_, h⟩
              · obtain rfl := Nat.eq_of_beq_eq_true hb; cases h; exact Or.inl ⟨Tryd.f182, _, Tryd.func182, rfl, k182⟩
              · cases h
            · skip
              rcases cond_some h with ⟨hb, h⟩ | ⟨_, h⟩
              · obtain rfl := Nat.eq_of_beq_eq_true hb; cases h; exact Or.inl ⟨Tryd.f183, _, Tryd.func183, rfl, k183⟩
              · cases h
      · skip
        rcases cond_some h with ⟨_, h⟩ | ⟨_, h⟩
        · skip
          rcases cond_some h with ⟨_, h⟩ | ⟨_, h⟩
          · skip
            rcases cond_some h with ⟨hb, h⟩ | ⟨_, h⟩
            · obtain rfl := Nat.eq_of_beq_eq_true hb; cases h; exact Or.inl ⟨Tryd.f187, _, Tryd.func187, rfl, k187⟩
            · cases h
          · skip
            rcases cond_some h with ⟨_, h⟩ | ⟨_, h⟩
            · skip
              rcases cond_some h with ⟨hb, h⟩ | ⟨_, h⟩
              · obtain rfl := Nat.eq_of_beq_eq_true hb; cases h; exact Or.inl ⟨Tryd.f188, _, Tryd.func188, rfl, k188⟩
              · cases h
            · skip
              rcases cond_some h with ⟨hb, h⟩ | ⟨_, h⟩
              · obtain rfl := Nat.eq_of_beq_eq_true hb; cases h; exact Or.inl ⟨Tryd.f189, _, Tryd.func189, rfl, k189⟩
              · cases h
        · skip
          rcases cond_some h with ⟨_, h⟩ | ⟨_, h⟩
          · skip
            rcases cond_some h with ⟨_, h⟩ | ⟨_, h⟩
            · skip
              rcases cond_some h with ⟨hb, h⟩ | ⟨_, h⟩
              · obtain rfl := Nat.eq_of_beq_eq_true hb; cases h; exact Or.inl ⟨Tryd.f190, _, Tryd.func190, rfl, k190⟩
              · cases h
            · skip
              rcases cond_some h with ⟨hb, h⟩ | ⟨_, h⟩
              · obtain rfl := Nat.eq_of_beq_eq_true hb; cases h; exact Or.inl ⟨Tryd.f191, _, Tryd.func191, rfl, k191⟩
              · cases h
          · skip
            rcases cond_some h with ⟨_, h⟩ | ⟨_, h⟩
            · skip
              rcases cond_some h with ⟨hb, h⟩ | ⟨_, h⟩
              · obtain rfl := Nat.eq_of_beq_eq_true hb; cases h; exact Or.inl ⟨Tryd.f193, _, Tryd.func193, rfl, k193⟩
              · cases h
            · skip
              rcases cond_some h with ⟨hb, h⟩ | ⟨_, h⟩
              · obtain rfl := Nat.eq_of_beq_eq_true hb; cases h; exact Or.inl ⟨Tryd.f194, _, Tryd.func194, rfl, k194⟩
              · cases h
def isTrue : Option (AVal × AHeap) → Bool | some (.bool true, _) => true | _ => false
theorem isTrue_some {r : Option (AVal × AHeap)} (h : isTrue r = true) : ∃ H', r = some (.bool true, H') := by
  cases r with
  | none => cases h
  | some p =>
    obtain ⟨v, H'⟩ := p
    cases v with
    | bool b => cases b with
      | true => exact ⟨H', rfl⟩
      | false => cases h
    | _ => cases h
/-- The examples of the chapter hold. -/
theorem awake_true : isTrue (callN ext prog0 300 19 [] (tableHeap Tryd.prog.globals.size aroundT)) = true := by kernel_rfl
theorem mixed : Tryd.prog.follows .mixedOrders = true := by kernel_rfl
theorem k19e : ExtSim Tryd.prog ext 19 3 := ext_closed mixed progOk0 (T := aroundT) Tryd.func19 rfl (by decide +kernel) (v := .bool true) rfl (by kernel_rfl) (isTrue_some awake_true) rfl
theorem progOk : ProgOk Tryd.prog ext prog := by
  refine ⟨rfl, by decide +kernel, ?_⟩
  intro f rf h
  unfold prog at h
  rcases cond_some h with ⟨_, h⟩ | ⟨_, h⟩
  · skip
    rcases cond_some h with ⟨_, h⟩ | ⟨_, h⟩
    · skip
      rcases cond_some h with ⟨_, h⟩ | ⟨_, h⟩
      · skip
        rcases cond_some h with ⟨_, h⟩ | ⟨_, h⟩
        · skip
          rcases cond_some h with ⟨_, h⟩ | ⟨_, h⟩
          · skip
            rcases cond_some h with ⟨hb, h⟩ | ⟨_, h⟩
            · obtain rfl := Nat.eq_of_beq_eq_true hb; cases h; exact Or.inl ⟨Tryd.f7, _, Tryd.func7, rfl, k7⟩
            · cases h
          · skip
            rcases cond_some h with ⟨hb, h⟩ | ⟨_, h⟩
            · obtain rfl := Nat.eq_of_beq_eq_true hb; cases h; exact Or.inr ⟨3, rfl, k19e⟩
            · cases h
        · skip
          rcases cond_some h with ⟨_, h⟩ | ⟨_, h⟩
          · skip
            rcases cond_some h with ⟨hb, h⟩ | ⟨_, h⟩
            · obtain rfl := Nat.eq_of_beq_eq_true hb; cases h; exact Or.inl ⟨Tryd.f20, _, Tryd.func20, rfl, k20⟩
            · cases h
          · skip
            rcases cond_some h with ⟨_, h⟩ | ⟨_, h⟩
            · skip
              rcases cond_some h with ⟨hb, h⟩ | ⟨_, h⟩
              · obtain rfl := Nat.eq_of_beq_eq_true hb; cases h; exact Or.inl ⟨Tryd.f21, _, Tryd.func21, rfl, k21⟩
              · cases h
            · skip
              rcases cond_some h with ⟨hb, h⟩ | ⟨_, h⟩
              · obtain rfl := Nat.eq_of_beq_eq_true hb; cases h; exact Or.inl ⟨Tryd.f27, _, Tryd.func27, rfl, k27⟩
              · cases h
      · skip
        rcases cond_some h with ⟨_, h⟩ | ⟨_, h⟩
        · skip
          rcases cond_some h with ⟨_, h⟩ | ⟨_, h⟩
          · skip
            rcases cond_some h with ⟨hb, h⟩ | ⟨_, h⟩
            · obtain rfl := Nat.eq_of_beq_eq_true hb; cases h; exact Or.inl ⟨Tryd.f32, _, Tryd.func32, rfl, k32⟩
            · cases h
          · skip
            rcases cond_some h with ⟨_, h⟩ | ⟨_, h⟩
            · skip
              rcases cond_some h with ⟨hb, h⟩ | ⟨_, h⟩
              · obtain rfl := Nat.eq_of_beq_eq_true hb; cases h; exact Or.inl ⟨Tryd.f35, _, Tryd.func35, rfl, k35⟩
              · cases h
            · skip
              rcases cond_some h with ⟨hb, h⟩ | ⟨_, h⟩
              · obtain rfl := Nat.eq_of_beq_eq_true hb; cases h; exact Or.inl ⟨Tryd.f51, _, Tryd.func51, rfl, k51⟩
              · cases h
        · skip
          rcases cond_some h with ⟨_, h⟩ | ⟨_, h⟩
          · skip
            rcases cond_some h with ⟨hb, h⟩ | ⟨_, h⟩
            · obtain rfl := Nat.eq_of_beq_eq_true hb; cases h; exact Or.inl ⟨Tryd.f52, _, Tryd.func52, rfl, k52⟩
            · cases h
          · skip
            rcases cond_some h with ⟨_, h⟩ | ⟨_, h⟩
            · skip
              rcases cond_some h with ⟨hb, h⟩ | ⟨_, h⟩
              · obtain rfl := Nat.eq_of_beq_eq_true hb; cases h; exact Or.inl ⟨Tryd.f60, _, Tryd.func60, rfl, k60⟩
              · cases h
            · skip
              rcases cond_some h with ⟨hb, h⟩ | ⟨_, h⟩
              · obtain rfl := Nat.eq_of_beq_eq_true hb; cases h; exact Or.inl ⟨Tryd.f61, _, Tryd.func61, rfl, k61⟩
              · cases h
    · skip
      rcases cond_some h with ⟨_, h⟩ | ⟨_, h⟩
      · skip
        rcases cond_some h with ⟨_, h⟩ | ⟨_, h⟩
        · skip
          rcases cond_some h with ⟨_, h⟩ | ⟨_, h⟩
          · skip
            rcases cond_some h with ⟨hb, h⟩ | ⟨_, h⟩
            · obtain rfl := Nat.eq_of_beq_eq_true hb; cases h; exact Or.inl ⟨Tryd.f62, _, Tryd.func62, rfl, k62⟩
            · cases h
          · skip
            rcases cond_some h with ⟨_, h⟩ | ⟨_, h⟩
            · skip
              rcases cond_some h with ⟨hb, h⟩ | ⟨_, h⟩
              · obtain rfl := Nat.eq_of_beq_eq_true hb; cases h; exact Or.inl ⟨Tryd.f63, _, Tryd.func63, rfl, k63⟩
              · cases h
            · skip
              rcases cond_some h with ⟨hb, h⟩ | ⟨_, h⟩
              · obtain rfl := Nat.eq_of_beq_eq_true hb; cases h; exact Or.inl ⟨Tryd.f64, _, Tryd.func64, rfl, k64⟩
              · cases h
        · skip
          rcases cond_some h with ⟨_, h⟩ | ⟨_, h⟩
          · skip
            rcases cond_some h with ⟨hb, h⟩ | ⟨_, h⟩
            · obtain rfl := Nat.eq_of_beq_eq_true hb; cases h; exact Or.inl ⟨Tryd.f65, _, Tryd.func65, rfl, k65⟩
            · cases h
          · skip
            rcases cond_some h with ⟨_, h⟩ | ⟨_, h⟩
            · skip
              rcases cond_some h with ⟨hb, h⟩ | ⟨_, h⟩
              · obtain rfl := Nat.eq_of_beq_eq_true hb; cases h; exact Or.inl ⟨Tryd.f66, _, Tryd.func66, rfl, k66⟩
              · cases h
            · skip
              rcases cond_some h with ⟨hb, h⟩ | ⟨_, h⟩
              · obtain rfl := Nat.eq_of_beq_eq_true hb; cases h; exact Or.inl ⟨Tryd.f95, _, Tryd.func95, rfl, k95⟩
              · cases h
      · skip
        rcases cond_some h with ⟨_, h⟩ | ⟨_, h⟩
        · skip
          rcases cond_some h with ⟨_, h⟩ | ⟨_, h⟩
          · skip
            rcases cond_some h with ⟨hb, h⟩ | ⟨_, h⟩
            · obtain rfl := Nat.eq_of_beq_eq_true hb; cases h; exact Or.inl ⟨Tryd.f96, _, Tryd.func96, rfl, k96⟩
            · cases h
          · skip
            rcases cond_some h with ⟨_, h⟩ | ⟨_, h⟩
            · skip
              rcases cond_some h with ⟨hb, h⟩ | ⟨_, h⟩
              · obtain rfl := Nat.eq_of_beq_eq_true hb; cases h; exact Or.inl ⟨Tryd.f97, _, Tryd.func97, rfl, k97⟩
              · cases h
            · skip
              rcases cond_some h with ⟨hb, h⟩ | ⟨_, h⟩
              · obtain rfl := Nat.eq_of_beq_eq_true hb; cases h; exact Or.inl ⟨Tryd.f98, _, Tryd.func98, rfl, k98⟩
              · cases h
        · skip
          rcases cond_some h with ⟨_, h⟩ | ⟨_, h⟩
          · skip
            rcases cond_some h with ⟨hb, h⟩ | ⟨_, h⟩
            · obtain rfl := Nat.eq_of_beq_eq_true hb; cases h; exact Or.inl ⟨Tryd.f101, _, Tryd.func101, rfl, k101⟩
            · cases h
          · skip
            rcases cond_some h with ⟨_, h⟩ | ⟨_, h⟩
            · skip
              rcases cond_some h with ⟨hb, h⟩ | ⟨_, h⟩
              · obtain rfl := Nat.eq_of_beq_eq_true hb; cases h; exact Or.inl ⟨Tryd.f102, _, Tryd.func102, rfl, k102⟩
              · cases h
            · skip
              rcases cond_some h with ⟨hb, h⟩ | ⟨_, h⟩
              · obtain rfl := Nat.eq_of_beq_eq_true hb; cases h; exact Or.inl ⟨Tryd.f104, _, Tryd.func104, rfl, k104⟩
              · cases h
  · skip
    rcases cond_some h with ⟨_, h⟩ | ⟨_, h⟩
    · skip
      rcases cond_some h with ⟨_, h⟩ | ⟨_, h⟩
      · skip
        rcases cond_some h with ⟨_, h⟩ | ⟨_, h⟩
        · skip
          rcases cond_some h with ⟨_, h⟩ | ⟨_, h⟩
          · skip
            rcases cond_some h with ⟨hb, h⟩ | ⟨_, h⟩
            · obtain rfl := Nat.eq_of_beq_eq_true hb; cases h; exact Or.inl ⟨Tryd.f105, _, Tryd.func105, rfl, k105⟩
            · cases h
          · skip
            rcases cond_some h with ⟨hb, h⟩ | ⟨_, h⟩
            · obtain rfl := Nat.eq_of_beq_eq_true hb; cases h; exact Or.inl ⟨Tryd.f106, _, Tryd.func106, rfl, k106⟩
            · cases h
        · skip
          rcases cond_some h with ⟨_, h⟩ | ⟨_, h⟩
          · skip
            rcases cond_some h with ⟨hb, h⟩ | ⟨_, h⟩
            · obtain rfl := Nat.eq_of_beq_eq_true hb; cases h; exact Or.inl ⟨Tryd.f107, _, Tryd.func107, rfl, k107⟩
            · cases h
          · skip
            rcases cond_some h with ⟨_, h⟩ | ⟨_, h⟩
            · skip
              rcases cond_some h with ⟨hb, h⟩ | ⟨_, h⟩
              · obtain rfl := Nat.eq_of_beq_eq_true hb; cases h; exact Or.inl ⟨Tryd.f108, _, Tryd.func108, rfl, k108⟩
              · cases h
            · skip
              rcases cond_some h with ⟨hb, h⟩ | ⟨_, h⟩
              · obtain rfl := Nat.eq_of_beq_eq_true hb; cases h; exact Or.inl ⟨Tryd.f109, _, Tryd.func109, rfl, k109⟩
              · cases h
      · skip
        rcases cond_some h with ⟨_, h⟩ | ⟨_, h⟩
        · skip
          rcases cond_some h with ⟨_, h⟩ | ⟨_, h⟩
          · skip
            rcases cond_some h with ⟨hb, h⟩ | ⟨_, h⟩
            · obtain rfl := Nat.eq_of_beq_eq_true hb; cases h; exact Or.inl ⟨Tryd.f121, _, Tryd.func121, rfl, k121⟩
            · cases h
          · skip
            rcases cond_some h with ⟨_, h⟩ | ⟨_, h⟩
            · skip
              rcases cond_some h with ⟨hb, h⟩ | ⟨_, h⟩
              · obtain rfl := Nat.eq_of_beq_eq_true hb; cases h; exact Or.inl ⟨Tryd.f122, _, Tryd.func122, rfl, k122⟩
              · cases h
            · skip
              rcases cond_some h with ⟨hb, h⟩ | ⟨_, h⟩
              · obtain rfl := Nat.eq_of_beq_eq_true hb; cases h; exact Or.inl ⟨Tryd.f123, _, Tryd.func123, rfl, k123⟩
              · cases h
        · skip
          rcases cond_some h with ⟨_, h⟩ | ⟨_, h⟩
          · skip
            rcases cond_some h with ⟨hb, h⟩ | ⟨_, h⟩
            · obtain rfl := Nat.eq_of_beq_eq_true hb; cases h; exact Or.inl ⟨Tryd.f127, _, Tryd.func127, rfl, k127⟩
            · cases h
          · skip
            rcases cond_some h with ⟨_, h⟩ | ⟨_, h⟩
            · skip
              rcases cond_some h with ⟨hb, h⟩ | ⟨_, h⟩
              · obtain rfl := Nat.eq_of_beq_eq_true hb; cases h; exact Or.inl ⟨Tryd.f128, _, Tryd.func128, rfl, k128⟩
              · cases h
            · skip
              rcases cond_some h with ⟨hb, h⟩ | ⟨_, h⟩
              · obtain rfl := Nat.eq_of_beq_eq_true hb; cases h; exact Or.inl ⟨Tryd.f147, _, Tryd.func147, rfl, k147⟩
              · cases h
    · skip
      rcases cond_some h with ⟨_, h⟩ | ⟨_, h⟩
      · skip
        rcases cond_some h with ⟨_, h⟩ | ⟨_, h⟩
        · skip
          rcases cond_some h with ⟨_, h⟩ | ⟨_, h⟩
          · skip
            rcases cond_some h with ⟨hb, h⟩ | ⟨_, h⟩
            · obtain rfl := Nat.eq_of_beq_eq_true hb; cases h; exact Or.inl ⟨Tryd.f148, _, Tryd.func148, rfl, k148⟩
            · cases h
          · skip
            rcases cond_some h with ⟨_, h⟩ | ⟨_, h⟩
            · skip
              rcases cond_some h with ⟨hb, h⟩ | ⟨_, h⟩
              · obtain rfl := Nat.eq_of_beq_eq_true hb; cases h; exact Or.inl ⟨Tryd.f149, _, Tryd.func149, rfl, k149⟩
              · cases h
            · skip
              rcases cond_some h with ⟨hb, h⟩ | ⟨_, h⟩
              · obtain rfl := Nat.eq_of_beq_eq_true hb; cases h; exact Or.inl ⟨Tryd.f153, _, Tryd.func153, rfl, k153⟩
              · cases h
        · skip
          rcases cond_some h with ⟨_, h⟩ | ⟨_, h⟩
          · skip
            rcases cond_some h with ⟨hb, h⟩ | ⟨_, h⟩
            · obtain rfl := Nat.eq_of_beq_eq_true hb; cases h; exact Or.inr ⟨0, rfl, k154⟩
            · cases h
          · skip
            rcases cond_some h with ⟨_, h⟩ | ⟨_, h⟩
            · skip
              rcases cond_some h with ⟨hb, h⟩ | ⟨_, h⟩
              · obtain rfl := Nat.eq_of_beq_eq_true hb; cases h; exact Or.inl ⟨Tryd.f155, _, Tryd.func155, rfl, k155⟩
              · cases h
            · skip
              rcases cond_some h with ⟨hb, h⟩ | ⟨_, h⟩
              · obtain rfl := Nat.eq_of_beq_eq_true hb; cases h; exact Or.inl ⟨Tryd.f160, _, Tryd.func160, rfl, k160⟩
              · cases h
      · skip
        rcases cond_some h with ⟨_, h⟩ | ⟨_, h⟩
        · skip
          rcases cond_some h with ⟨_, h⟩ | ⟨_, h⟩
          · skip
            rcases cond_some h with ⟨hb, h⟩ | ⟨_, h⟩
            · obtain rfl := Nat.eq_of_beq_eq_true hb; cases h; exact Or.inr ⟨1, rfl, k162⟩
            · cases h
          · skip
            rcases cond_some h with ⟨_, h⟩ | ⟨_, h⟩
            · skip
              rcases cond_some h with ⟨hb, h⟩ | ⟨_, h⟩
              · obtain rfl := Nat.eq_of_beq_eq_true hb; cases h; exact Or.inl ⟨Tryd.f170, _, Tryd.func170, rfl, k170⟩
              · cases h
            · skip
              rcases cond_some h with ⟨hb, h⟩ | ⟨_, h⟩
              · obtain rfl := Nat.eq_of_beq_eq_true hb; cases h; exact Or.inl ⟨Tryd.f171, _, Tryd.func171, rfl, k171⟩
              · cases h
        · skip
          rcases cond_some h with ⟨_, h⟩ | ⟨_, h⟩
          · skip
            rcases cond_some h with ⟨hb, h⟩ | ⟨_, h⟩
            · obtain rfl := Nat.eq_of_beq_eq_true hb; cases h; exact Or.inl ⟨Tryd.f173, _, Tryd.func173, rfl, k173⟩
            · cases h
          · skip
            rcases cond_some h with ⟨_, h⟩ | ⟨_, h⟩
            · skip
              rcases cond_some h with ⟨hb, h⟩ | ⟨_, h⟩
              · obtain rfl := Nat.eq_of_beq_eq_true hb; cases h; exact Or.inl ⟨Tryd.f174, _, Tryd.func174, rfl, k174⟩
              · cases h
            · skip
              rcases cond_some h with ⟨hb, h⟩ | ⟨_, h⟩
              · obtain rfl := Nat.eq_of_beq_eq_true hb; cases h; exact Or.inl ⟨Tryd.f179, _, Tryd.func179, rfl, k179⟩
              · cases h
end Go.Am

/-
  What all laws of the seat share: a world that holds the listed tables, and the cells of the table around.
-/
set_option maxRecDepth 100000
set_option maxHeartbeats 4000000
namespace Go.Proofs.YtlbgcpmiedjmoaaDoor.Laid
open Go.ChangeShapes Go.WideShapes Go.ChangeAt Go.RowKit Go.Am

theorem own : ownKnob Tryd.prog.godebug = none := by kernel_rfl
theorem laidOut : laidOutB Tryd.prog = true := by kernel_rfl
theorem rowed : mapsRowed Tryd.prog = true := by kernel_rfl
theorem full : ∀ t e, t < Tryd.prog.types.size → Tryd.prog.underlying t = some (.slice e) → 0 < Tryd.prog.cellsOf e := slices_full_of Tryd.prog (by kernel_rfl)
theorem gAround : Tryd.prog.globalNamed "custos/image.around" = some 0 := by kernel_rfl

theorem around_cells {W : World} (h : laidMetH Tryd.prog Rows.imageGreysRow.laid W) : ∀ t ∈ aroundT, ∀ (i : Nat) (v : AVal), t.2[i]? = some v → ∃ x, emb (fun _ => none) v = some x ∧ W.cell? ⟨t.1, i, none⟩ = some x := by
  have h1 : laidMet Tryd.prog Rows.imageGreysRow.laid W := h
  intro t ht i v hv
  simp only [aroundT, List.mem_singleton] at ht
  subst ht
  have key : ∀ (l : List Value), flatD 3 Rows.laid_custos_image_around (Hd := Unit) = l → embL (fun _ => none) [.int .i64 0, .int .i64 (-1), .int .i64 1, .int .i64 (-1), .int .i64 1, .int .i64 0, .int .i64 1, .int .i64 1, .int .i64 0, .int .i64 1, .int .i64 (-1), .int .i64 1, .int .i64 (-1), .int .i64 0, .int .i64 (-1), .int .i64 (-1)] = some l → ∃ x, emb (fun _ => none) v = some x ∧ W.cell? ⟨0, i, none⟩ = some x := by
    intro l h2 h3
    obtain ⟨x, h4, h5⟩ := embL_get h3 hv
    exact ⟨x, h4, laid_cells laidOut rowed h1 (by simp [Rows.imageGreysRow]) (n := 3) gAround (by kernel_rfl : (Tryd.prog.globals[0]?).map (·.type) = some 182) (by decide +kernel) (by kernel_rfl) h2 h5⟩
  exact key _ rfl (by kernel_rfl)

noncomputable def laidWorld (os : Os) : World :=
  let h := (World.holding Tryd.prog os ⟨#[], #[], []⟩).heap
  let h := h.modify 0 fun
    | .cells _ t frozen => .cells #[.int .i64 0, .int .i64 (-1), .int .i64 1, .int .i64 (-1), .int .i64 1, .int .i64 0, .int .i64 1, .int .i64 1, .int .i64 0, .int .i64 1, .int .i64 (-1), .int .i64 1, .int .i64 (-1), .int .i64 0, .int .i64 (-1), .int .i64 (-1)] t frozen
    | o => o
  let h := h.modify 2 fun
    | .cells _ t frozen => .cells #[.int .u64 1, .int .u64 10, .int .u64 100, .int .u64 1000, .int .u64 10000, .int .u64 100000, .int .u64 1000000, .int .u64 10000000, .int .u64 100000000, .int .u64 1000000000, .int .u64 10000000000, .int .u64 100000000000, .int .u64 1000000000000, .int .u64 10000000000000, .int .u64 100000000000000, .int .u64 1000000000000000, .int .u64 10000000000000000, .int .u64 100000000000000000, .int .u64 1000000000000000000, .int .u64 10000000000000000000] t frozen
    | o => o
  let h := h.modify 3 fun
    | .cells _ t frozen => .cells #[.int .u8 0, .int .u8 1, .int .u8 28, .int .u8 2, .int .u8 29, .int .u8 14, .int .u8 24, .int .u8 3, .int .u8 30, .int .u8 22, .int .u8 20, .int .u8 15, .int .u8 25, .int .u8 17, .int .u8 4, .int .u8 8, .int .u8 31, .int .u8 27, .int .u8 13, .int .u8 23, .int .u8 21, .int .u8 19, .int .u8 16, .int .u8 7, .int .u8 26, .int .u8 12, .int .u8 18, .int .u8 6, .int .u8 11, .int .u8 5, .int .u8 10, .int .u8 9] t frozen
    | o => o
  let h := h.modify 4 fun
    | .cells _ t frozen => .cells #[.int .u8 0, .int .u8 1, .int .u8 56, .int .u8 2, .int .u8 57, .int .u8 49, .int .u8 28, .int .u8 3, .int .u8 61, .int .u8 58, .int .u8 42, .int .u8 50, .int .u8 38, .int .u8 29, .int .u8 17, .int .u8 4, .int .u8 62, .int .u8 47, .int .u8 59, .int .u8 36, .int .u8 45, .int .u8 43, .int .u8 51, .int .u8 22, .int .u8 53, .int .u8 39, .int .u8 33, .int .u8 30, .int .u8 24, .int .u8 18, .int .u8 12, .int .u8 5, .int .u8 63, .int .u8 55, .int .u8 48, .int .u8 27, .int .u8 60, .int .u8 41, .int .u8 37, .int .u8 16, .int .u8 46, .int .u8 35, .int .u8 44, .int .u8 21, .int .u8 52, .int .u8 32, .int .u8 23, .int .u8 11, .int .u8 54, .int .u8 26, .int .u8 40, .int .u8 15, .int .u8 34, .int .u8 20, .int .u8 31, .int .u8 10, .int .u8 25, .int .u8 14, .int .u8 19, .int .u8 9, .int .u8 13, .int .u8 8, .int .u8 7, .int .u8 6] t frozen
    | o => o
  { World.holding Tryd.prog os ⟨#[], #[], []⟩ with heap := h }
end Go.Proofs.YtlbgcpmiedjmoaaDoor.Laid
