import Derived.Test.YtcklaifhanehmaaDoorAmBC
import Derived.Lib.BytesEntry
import Derived.Laws.Externs
import Derived.Test.YtcklaifhanehmaaDoorProg
import Derived.Test.YtcklaifhanehmaaDoorCards
import Derived.Test.YtcklaifhanehmaaDoorTie
import Derived.WalkKit
import Derived.ProofKit
import Derived.OpenShut
import Derived.Deep.DeepHandedRow
import Derived.Lib.LaidTab
set_option linter.unusedSimpArgs false
set_option linter.unusedVariables false
/- The functions of the program, in the small machine. -/
set_option maxRecDepth 100000
set_option maxHeartbeats 4000000
namespace Go.Am
open Go
def c10 : RFunc := ⟨155, .code (.seq (.region [⟨(some 4), .mov (.val (.bool false)), none⟩])
 (.seq (.region [⟨(some 27), .mov (.tmp 0), none⟩,
 ⟨(some 28), .convInt .i64 (.tmp 27), none⟩,
 ⟨(some 29), .bin .rem (.tmp 28) (.val (.int .i64 5)), none⟩,
 ⟨(some 30), .call (.val (.func (.func 39) [] [])) [(.tmp 29)], none⟩,
 ⟨(some 26), .mov (.tmp 30), none⟩,
 ⟨(some 31), .extract (.tmp 26) 0, none⟩,
 ⟨(some 32), .extract (.tmp 26) 1, none⟩,
 ⟨(some 5), .mov (.tmp 31), none⟩,
 ⟨(some 6), .mov (.tmp 32), none⟩])
 (.seq (.region [⟨(some 34), .mov (.tmp 0), none⟩,
 ⟨(some 35), .convInt .i64 (.tmp 34), none⟩,
 ⟨(some 36), .bin .rem (.tmp 35) (.val (.int .i64 5)), none⟩,
 ⟨(some 37), .call (.val (.func (.func 39) [] [])) [(.tmp 36)], none⟩,
 ⟨(some 33), .mov (.tmp 37), none⟩,
 ⟨(some 38), .extract (.tmp 33) 0, none⟩,
 ⟨(some 39), .extract (.tmp 33) 1, none⟩,
 ⟨(some 7), .mov (.tmp 38), none⟩,
 ⟨(some 8), .mov (.tmp 39), none⟩])
 (.seq (.seq (.region [⟨(some 40), .mov (.tmp 6), none⟩,
 ⟨(some 41), .bin .neq (.tmp 40) (.val (.int .i64 0)), none⟩,
 ⟨(some 42), .mov (.tmp 41), none⟩,
 ⟨(some 43), .mov (.tmp 8), some (42, false)⟩,
 ⟨(some 44), .bin .neq (.tmp 43) (.val (.int .i64 0)), some (42, false)⟩,
 ⟨(some 45), .pick (.tmp 42) (.val (.bool true)) (.tmp 44), none⟩])
 (.cond (.tmp 45) (.seq (.region [⟨(some 4), .mov (.val (.bool false)), none⟩])
 (.ret))
 (.skip)))
 (.seq (.seq (.region [⟨(some 46), .mov (.tmp 1), none⟩,
 ⟨(some 47), .mov (.tmp 1), none⟩,
 ⟨(some 48), .lenS (.tmp 47), none⟩,
 ⟨(some 49), .minmax false [(.tmp 48), (.val (.int .i64 100))], none⟩,
 ⟨(some 50), .sliceS 1 (.tmp 46) none (some (.tmp 49)) none, none⟩,
 ⟨(some 51), .lenS (.tmp 50), none⟩,
 ⟨(some 52), .mov (.val (.int .i64 0)), none⟩])
 (.block 0 (.loop (.seq (.region [⟨(some 53), .bin .lss (.tmp 52) (.tmp 51), none⟩])
 (.seq (.cond (.tmp 53) (.skip)
 (.exit 0))
 (.seq (.block 1 (.seq (.region [⟨(some 54), .idxS 1 (.tmp 50) (.tmp 52), none⟩,
 ⟨(some 55), .load none (.tmp 54), none⟩,
 ⟨(some 10), .mov (.tmp 55), none⟩])
 (.seq (.region [⟨(some 56), .mov (.tmp 10), none⟩,
 ⟨(some 57), .bin .rem (.tmp 56) (.val (.int .u16 70)), none⟩,
 ⟨(some 58), .convInt .i64 (.tmp 57), none⟩,
 ⟨(some 59), .mov (.tmp 10), none⟩,
 ⟨(some 60), .bin .quo (.tmp 59) (.val (.int .u16 70)), none⟩,
 ⟨(some 61), .bin .rem (.tmp 60) (.val (.int .u16 3)), none⟩,
 ⟨(some 62), .convInt .i64 (.tmp 61), none⟩,
 ⟨(some 63), .bin .sub (.tmp 62) (.val (.int .i64 1)), none⟩,
 ⟨(some 11), .mov (.tmp 58), none⟩,
 ⟨(some 12), .mov (.tmp 63), none⟩])
 (.seq (.seq (.region [⟨(some 64), .mov (.tmp 10), none⟩,
 ⟨(some 65), .bin .quo (.tmp 64) (.val (.int .u16 256)), none⟩,
 ⟨(some 66), .bin .rem (.tmp 65) (.val (.int .u16 13)), none⟩,
 ⟨(some 67), .bin .eql (.tmp 66) (.val (.int .u16 0)), none⟩])
 (.cond (.tmp 67) (.seq (.region [⟨(some 68), .mov (.tmp 5), none⟩,
 ⟨(some 69), .call (.val (.func (.func 40) [] [])) [(.tmp 68)], none⟩,
 ⟨(some 70), .bin .neq (.tmp 69) (.val (.int .i64 0)), none⟩,
 ⟨(some 71), .mov (.tmp 70), none⟩,
 ⟨(some 72), .mov (.tmp 7), some (71, false)⟩,
 ⟨(some 73), .call (.val (.func (.func 40) [] [])) [(.tmp 72)], some (71, false)⟩,
 ⟨(some 74), .bin .neq (.tmp 73) (.val (.int .i64 0)), some (71, false)⟩,
 ⟨(some 75), .pick (.tmp 71) (.val (.bool true)) (.tmp 74), none⟩])
 (.cond (.tmp 75) (.seq (.region [⟨(some 4), .mov (.val (.bool false)), none⟩])
 (.ret))
 (.skip)))
 (.skip)))
 (.seq (.region [⟨(some 77), .mov (.tmp 5), none⟩,
 ⟨(some 78), .mov (.tmp 11), none⟩,
 ⟨(some 79), .call (.val (.func (.func 41) [] [])) [(.tmp 77), (.tmp 78)], none⟩,
 ⟨(some 76), .mov (.tmp 79), none⟩,
 ⟨(some 80), .extract (.tmp 76) 0, none⟩,
 ⟨(some 81), .extract (.tmp 76) 1, none⟩,
 ⟨(some 13), .mov (.tmp 80), none⟩,
 ⟨(some 14), .mov (.tmp 81), none⟩])
 (.seq (.region [⟨(some 83), .mov (.tmp 5), none⟩,
 ⟨(some 84), .mov (.tmp 11), none⟩,
 ⟨(some 85), .mov (.tmp 12), none⟩,
 ⟨(some 86), .call (.val (.func (.func 42) [] [])) [(.tmp 83), (.tmp 84), (.tmp 85)], none⟩,
 ⟨(some 82), .mov (.tmp 86), none⟩,
 ⟨(some 87), .extract (.tmp 82) 0, none⟩,
 ⟨(some 88), .extract (.tmp 82) 1, none⟩,
 ⟨(some 15), .mov (.tmp 87), none⟩,
 ⟨(some 16), .mov (.tmp 88), none⟩])
 (.seq (.region [⟨(some 90), .mov (.tmp 7), none⟩,
 ⟨(some 91), .mov (.tmp 11), none⟩,
 ⟨(some 92), .mov (.tmp 15), none⟩,
 ⟨(some 93), .call (.val (.func (.func 43) [] [])) [(.tmp 90), (.tmp 91), (.tmp 92)], none⟩,
 ⟨(some 89), .mov (.tmp 93), none⟩,
 ⟨(some 94), .extract (.tmp 89) 0, none⟩,
 ⟨(some 95), .extract (.tmp 89) 1, none⟩,
 ⟨(some 17), .mov (.tmp 94), none⟩,
 ⟨(some 18), .mov (.tmp 95), none⟩])
 (.seq (.seq (.region [⟨(some 96), .mov (.tmp 16), none⟩,
 ⟨(some 97), .bin .neq (.tmp 96) (.val (.int .i64 0)), none⟩,
 ⟨(some 98), .mov (.tmp 97), none⟩,
 ⟨(some 99), .mov (.tmp 18), some (98, false)⟩,
 ⟨(some 100), .bin .neq (.tmp 99) (.val (.int .i64 0)), some (98, false)⟩,
 ⟨(some 101), .pick (.tmp 98) (.val (.bool true)) (.tmp 100), none⟩,
 ⟨(some 102), .mov (.tmp 101), none⟩,
 ⟨(some 103), .mov (.tmp 17), some (102, false)⟩,
 ⟨(some 104), .mov (.tmp 12), some (102, false)⟩,
 ⟨(some 105), .bin .neq (.tmp 103) (.tmp 104), some (102, false)⟩,
 ⟨(some 106), .pick (.tmp 102) (.val (.bool true)) (.tmp 105), none⟩,
 ⟨(some 107), .mov (.tmp 106), none⟩,
 ⟨(some 108), .mov (.tmp 15), some (107, false)⟩,
 ⟨(some 109), .bin .eql (.tmp 108) (.val (.int .i64 0)), some (107, false)⟩,
 ⟨(some 110), .mov (.tmp 13), some (107, false)⟩,
 ⟨(some 111), .mov (.tmp 12), some (107, false)⟩,
 ⟨(some 112), .bin .eql (.tmp 110) (.tmp 111), some (107, false)⟩,
 ⟨(some 113), .eq true .bool (.tmp 109) (.tmp 112), some (107, false)⟩,
 ⟨(some 114), .pick (.tmp 107) (.val (.bool true)) (.tmp 113), none⟩])
 (.cond (.tmp 114) (.seq (.region [⟨(some 4), .mov (.val (.bool false)), none⟩])
 (.ret))
 (.skip)))
 (.seq (.seq (.region [⟨(some 115), .mov (.tmp 15), none⟩,
 ⟨(some 116), .bin .gtr (.tmp 115) (.val (.int .i64 0)), none⟩])
 (.cond (.tmp 116) (.seq (.region [⟨(some 118), .mov (.tmp 7), none⟩,
 ⟨(some 119), .mov (.tmp 11), none⟩,
 ⟨(some 120), .mov (.tmp 15), none⟩,
 ⟨(some 121), .call (.val (.func (.func 43) [] [])) [(.tmp 118), (.tmp 119), (.tmp 120)], none⟩,
 ⟨(some 117), .mov (.tmp 121), none⟩,
 ⟨(some 122), .extract (.tmp 117) 0, none⟩,
 ⟨(some 123), .extract (.tmp 117) 1, none⟩,
 ⟨(some 19), .mov (.tmp 122), none⟩,
 ⟨(some 20), .mov (.tmp 123), none⟩])
 (.seq (.region [⟨(some 124), .mov (.tmp 20), none⟩,
 ⟨(some 125), .bin .neq (.tmp 124) (.val (.int .i64 66)), none⟩])
 (.cond (.tmp 125) (.seq (.region [⟨(some 4), .mov (.val (.bool false)), none⟩])
 (.ret))
 (.skip))))
 (.skip)))
 (.seq (.region [⟨(some 126), .mov (.val (.int .i64 0)), none⟩])
 (.block 2 (.loop (.seq (.region [⟨(some 127), .bin .lss (.tmp 126) (.val (.int .i64 70)), none⟩])
 (.seq (.cond (.tmp 127) (.skip)
 (.exit 2))
 (.seq (.block 3 (.seq (.region [⟨(some 128), .mov (.tmp 126), none⟩,
 ⟨(some 21), .mov (.tmp 128), none⟩])
 (.seq (.region [⟨(some 130), .mov (.tmp 5), none⟩,
 ⟨(some 131), .mov (.tmp 21), none⟩,
 ⟨(some 132), .call (.val (.func (.func 41) [] [])) [(.tmp 130), (.tmp 131)], none⟩,
 ⟨(some 129), .mov (.tmp 132), none⟩,
 ⟨(some 133), .extract (.tmp 129) 0, none⟩,
 ⟨(some 134), .extract (.tmp 129) 1, none⟩,
 ⟨(some 22), .mov (.tmp 133), none⟩,
 ⟨(some 23), .mov (.tmp 134), none⟩])
 (.seq (.region [⟨(some 136), .mov (.tmp 7), none⟩,
 ⟨(some 137), .mov (.tmp 21), none⟩,
 ⟨(some 138), .call (.val (.func (.func 41) [] [])) [(.tmp 136), (.tmp 137)], none⟩,
 ⟨(some 135), .mov (.tmp 138), none⟩,
 ⟨(some 139), .extract (.tmp 135) 0, none⟩,
 ⟨(some 140), .extract (.tmp 135) 1, none⟩,
 ⟨(some 24), .mov (.tmp 139), none⟩,
 ⟨(some 25), .mov (.tmp 140), none⟩])
 (.seq (.region [⟨(some 141), .mov (.tmp 23), none⟩,
 ⟨(some 142), .bin .neq (.tmp 141) (.val (.int .i64 0)), none⟩,
 ⟨(some 143), .mov (.tmp 142), none⟩,
 ⟨(some 144), .mov (.tmp 25), some (143, false)⟩,
 ⟨(some 145), .bin .neq (.tmp 144) (.val (.int .i64 0)), some (143, false)⟩,
 ⟨(some 146), .pick (.tmp 143) (.val (.bool true)) (.tmp 145), none⟩,
 ⟨(some 147), .mov (.tmp 146), none⟩,
 ⟨(some 148), .mov (.tmp 22), some (147, false)⟩,
 ⟨(some 149), .mov (.tmp 24), some (147, false)⟩,
 ⟨(some 150), .bin .neq (.tmp 148) (.tmp 149), some (147, false)⟩,
 ⟨(some 151), .pick (.tmp 147) (.val (.bool true)) (.tmp 150), none⟩])
 (.cond (.tmp 151) (.seq (.region [⟨(some 4), .mov (.val (.bool false)), none⟩])
 (.ret))
 (.skip)))))))
 (.region [⟨(some 152), .bin .add (.tmp 126) (.val (.int .i64 1)), none⟩,
 ⟨(some 126), .mov (.tmp 152), none⟩]))))))))))))))))
 (.region [⟨(some 153), .bin .add (.tmp 52) (.val (.int .i64 1)), none⟩,
 ⟨(some 52), .mov (.tmp 153), none⟩])))))))
 (.seq (.region [⟨(some 154), .call (.val (.func (.func 15) [] [])) [], none⟩,
 ⟨(some 4), .mov (.tmp 154), none⟩])
 (.ret))))))), [.tmp 4]⟩
def c15 : RFunc := ⟨123, .code (.seq (.region [⟨(some 0), .mov (.val (.bool false)), none⟩])
 (.seq (.region [⟨(some 20), .call (.val (.func (.func 16) [] [])) [(.val (.int .i64 4)), (.val (.bool true)), (.val (.bool false))], none⟩,
 ⟨(some 19), .mov (.tmp 20), none⟩,
 ⟨(some 21), .extract (.tmp 19) 0, none⟩,
 ⟨(some 22), .extract (.tmp 19) 1, none⟩,
 ⟨(some 1), .new 23 [(.int .i64 0), (.int .i64 0)], none⟩,
 ⟨none, .store 2 (.tmp 1) (.tmp 21), none⟩,
 ⟨(some 2), .mov (.tmp 22), none⟩])
 (.seq (.region [⟨(some 24), .build [(.int .i64 0), (.int .i64 0)] [(0, 1, (.val (.int .i64 1))), (1, 1, (.val (.int .i64 3)))], none⟩,
 ⟨(some 25), .build [(.int .i64 0), (.int .i64 0)] [(0, 1, (.val (.int .i64 1))), (1, 1, (.val (.int .i64 6)))], none⟩,
 ⟨(some 26), .call (.val (.func (.func 33) [] [])) [(.tmp 24), (.tmp 25)], none⟩,
 ⟨(some 23), .mov (.tmp 26), none⟩,
 ⟨(some 27), .extract (.tmp 23) 0, none⟩,
 ⟨(some 28), .extract (.tmp 23) 1, none⟩,
 ⟨(some 3), .new 23 [(.int .i64 0), (.int .i64 0)], none⟩,
 ⟨none, .store 2 (.tmp 3) (.tmp 27), none⟩,
 ⟨(some 4), .mov (.tmp 28), none⟩])
 (.seq (.region [⟨(some 30), .build [(.int .i64 0), (.int .i64 0)] [(0, 1, (.val (.int .i64 34))), (1, 1, (.val (.int .i64 (-1))))], none⟩,
 ⟨(some 31), .call (.val (.func (.func 25) [] [])) [(.tmp 30)], none⟩,
 ⟨(some 29), .mov (.tmp 31), none⟩,
 ⟨(some 32), .extract (.tmp 29) 0, none⟩,
 ⟨(some 33), .extract (.tmp 29) 1, none⟩,
 ⟨(some 5), .mov (.tmp 32), none⟩,
 ⟨(some 6), .mov (.tmp 33), none⟩])
 (.seq (.region [⟨(some 35), .build [(.int .i64 0), (.int .i64 0)] [(0, 1, (.val (.int .i64 30)))], none⟩,
 ⟨(some 36), .build [(.int .i64 0), (.int .i64 0)] [(0, 1, (.val (.int .i64 2))), (1, 1, (.val (.int .i64 4)))], none⟩,
 ⟨(some 37), .call (.val (.func (.func 44) [] [])) [(.tmp 35), (.tmp 36)], none⟩,
 ⟨(some 34), .mov (.tmp 37), none⟩,
 ⟨(some 38), .extract (.tmp 34) 0, none⟩,
 ⟨(some 39), .extract (.tmp 34) 1, none⟩,
 ⟨(some 7), .new 38 [(.int .i64 0), (.int .i64 0)], none⟩,
 ⟨none, .store 2 (.tmp 7) (.tmp 38), none⟩,
 ⟨(some 8), .mov (.tmp 39), none⟩])
 (.seq (.region [⟨(some 41), .build [(.int .i64 0), (.int .i64 0)] [(0, 1, (.val (.int .i64 (-1)))), (1, 1, (.val (.int .i64 (-2))))], none⟩,
 ⟨(some 42), .call (.val (.func (.func 49) [] [])) [(.tmp 41)], none⟩,
 ⟨(some 40), .mov (.tmp 42), none⟩,
 ⟨(some 43), .extract (.tmp 40) 0, none⟩,
 ⟨(some 44), .extract (.tmp 40) 1, none⟩,
 ⟨(some 9), .mov (.tmp 43), none⟩,
 ⟨(some 10), .mov (.tmp 44), none⟩])
 (.seq (.region [⟨(some 46), .call (.val (.func (.func 39) [] [])) [(.val (.int .i64 1))], none⟩,
 ⟨(some 45), .mov (.tmp 46), none⟩,
 ⟨(some 47), .extract (.tmp 45) 0, none⟩,
 ⟨(some 48), .extract (.tmp 45) 1, none⟩,
 ⟨(some 11), .mov (.tmp 47), none⟩,
 ⟨(some 12), .mov (.tmp 48), none⟩])
 (.seq (.seq (.region [⟨(some 49), .mov (.tmp 2), none⟩,
 ⟨(some 50), .bin .neq (.tmp 49) (.val (.int .i64 0)), none⟩,
 ⟨(some 51), .mov (.tmp 50), none⟩,
 ⟨(some 52), .mov (.tmp 4), some (51, false)⟩,
 ⟨(some 53), .bin .neq (.tmp 52) (.val (.int .i64 0)), some (51, false)⟩,
 ⟨(some 54), .pick (.tmp 51) (.val (.bool true)) (.tmp 53), none⟩,
 ⟨(some 55), .mov (.tmp 54), none⟩,
 ⟨(some 56), .mov (.tmp 6), some (55, false)⟩,
 ⟨(some 57), .bin .neq (.tmp 56) (.val (.int .i64 0)), some (55, false)⟩,
 ⟨(some 58), .pick (.tmp 55) (.val (.bool true)) (.tmp 57), none⟩,
 ⟨(some 59), .mov (.tmp 58), none⟩,
 ⟨(some 60), .mov (.tmp 8), some (59, false)⟩,
 ⟨(some 61), .bin .neq (.tmp 60) (.val (.int .i64 0)), some (59, false)⟩,
 ⟨(some 62), .pick (.tmp 59) (.val (.bool true)) (.tmp 61), none⟩,
 ⟨(some 63), .mov (.tmp 62), none⟩,
 ⟨(some 64), .mov (.tmp 10), some (63, false)⟩,
 ⟨(some 65), .bin .neq (.tmp 64) (.val (.int .i64 0)), some (63, false)⟩,
 ⟨(some 66), .pick (.tmp 63) (.val (.bool true)) (.tmp 65), none⟩,
 ⟨(some 67), .mov (.tmp 66), none⟩,
 ⟨(some 68), .mov (.tmp 12), some (67, false)⟩,
 ⟨(some 69), .bin .neq (.tmp 68) (.val (.int .i64 0)), some (67, false)⟩,
 ⟨(some 70), .pick (.tmp 67) (.val (.bool true)) (.tmp 69), none⟩,
 ⟨(some 71), .mov (.tmp 70), none⟩,
 ⟨(some 72), .mov (.tmp 11), some (71, false)⟩,
 ⟨(some 73), .eq false .ptr (.tmp 72) (.val .nptr), some (71, false)⟩,
 ⟨(some 74), .pick (.tmp 71) (.val (.bool true)) (.tmp 73), none⟩])
 (.cond (.tmp 74) (.seq (.region [⟨(some 0), .mov (.val (.bool false)), none⟩])
 (.ret))
 (.skip)))
 (.seq (.region [⟨(some 76), .mov (.tmp 11), none⟩,
 ⟨(some 77), .call (.val (.func (.func 42) [] [])) [(.tmp 76), (.val (.int .i64 31)), (.val (.int .i64 1))], none⟩,
 ⟨(some 75), .mov (.tmp 77), none⟩,
 ⟨(some 78), .extract (.tmp 75) 0, none⟩,
 ⟨(some 79), .extract (.tmp 75) 1, none⟩,
 ⟨(some 13), .mov (.tmp 78), none⟩,
 ⟨(some 14), .mov (.tmp 79), none⟩])
 (.seq (.region [⟨(some 81), .mov (.tmp 11), none⟩,
 ⟨(some 82), .call (.val (.func (.func 42) [] [])) [(.tmp 81), (.val (.int .i64 31)), (.val (.int .i64 0))], none⟩,
 ⟨(some 80), .mov (.tmp 82), none⟩,
 ⟨(some 83), .extract (.tmp 80) 0, none⟩,
 ⟨(some 84), .extract (.tmp 80) 1, none⟩,
 ⟨(some 15), .mov (.tmp 83), none⟩,
 ⟨(some 16), .mov (.tmp 84), none⟩])
 (.seq (.region [⟨(some 86), .mov (.tmp 11), none⟩,
 ⟨(some 87), .call (.val (.func (.func 43) [] [])) [(.tmp 86), (.val (.int .i64 31)), (.val (.int .i64 3))], none⟩,
 ⟨(some 85), .mov (.tmp 87), none⟩,
 ⟨(some 88), .extract (.tmp 85) 0, none⟩,
 ⟨(some 89), .extract (.tmp 85) 1, none⟩,
 ⟨(some 17), .mov (.tmp 88), none⟩,
 ⟨(some 18), .mov (.tmp 89), none⟩])
 (.seq (.region [⟨(some 90), .load (some 2) (.tmp 1), none⟩,
 ⟨(some 91), .build [(.int .i64 0), (.int .i64 0)] [(0, 1, (.val (.int .i64 3))), (1, 1, (.val (.int .i64 8)))], none⟩,
 ⟨(some 92), .eq false (.fields [some (0, 0, .int), some (1, 0, .int)]) (.tmp 90) (.tmp 91), none⟩,
 ⟨(some 93), .mov (.tmp 92), none⟩,
 ⟨(some 94), .load (some 2) (.tmp 3), some (93, true)⟩,
 ⟨(some 95), .build [(.int .i64 0), (.int .i64 0)] [(0, 1, (.val (.int .i64 1))), (1, 1, (.val (.int .i64 2)))], some (93, true)⟩,
 ⟨(some 96), .eq false (.fields [some (0, 0, .int), some (1, 0, .int)]) (.tmp 94) (.tmp 95), some (93, true)⟩,
 ⟨(some 97), .pick (.tmp 93) (.tmp 96) (.val (.bool false)), none⟩,
 ⟨(some 98), .mov (.tmp 97), none⟩,
 ⟨(some 99), .mov (.tmp 5), some (98, true)⟩,
 ⟨(some 100), .bin .eql (.tmp 99) (.val (.str ⟨#[98, 98, 52]⟩)), some (98, true)⟩,
 ⟨(some 101), .pick (.tmp 98) (.tmp 100) (.val (.bool false)), none⟩,
 ⟨(some 102), .mov (.tmp 101), none⟩,
 ⟨(some 103), .load (some 2) (.tmp 7), some (102, true)⟩,
 ⟨(some 104), .build [(.int .i64 0), (.int .i64 0)] [(0, 1, (.val (.int .i64 32))), (1, 1, (.val (.int .i64 1)))], some (102, true)⟩,
 ⟨(some 105), .eq false (.fields [some (0, 0, .int), some (1, 0, .int)]) (.tmp 103) (.tmp 104), some (102, true)⟩,
 ⟨(some 106), .pick (.tmp 102) (.tmp 105) (.val (.bool false)), none⟩,
 ⟨(some 107), .mov (.tmp 106), none⟩,
 ⟨(some 108), .mov (.tmp 9), some (107, true)⟩,
 ⟨(some 109), .bin .eql (.tmp 108) (.val (.str ⟨#[45, 77, 50]⟩)), some (107, true)⟩,
 ⟨(some 110), .pick (.tmp 107) (.tmp 109) (.val (.bool false)), none⟩,
 ⟨(some 111), .mov (.tmp 110), none⟩,
 ⟨(some 112), .mov (.tmp 13), some (111, true)⟩,
 ⟨(some 113), .bin .eql (.tmp 112) (.val (.int .i64 0)), some (111, true)⟩,
 ⟨(some 114), .pick (.tmp 111) (.tmp 113) (.val (.bool false)), none⟩,
 ⟨(some 115), .mov (.tmp 114), none⟩,
 ⟨(some 116), .mov (.tmp 15), some (115, true)⟩,
 ⟨(some 117), .bin .eql (.tmp 116) (.val (.int .i64 3)), some (115, true)⟩,
 ⟨(some 118), .pick (.tmp 115) (.tmp 117) (.val (.bool false)), none⟩,
 ⟨(some 119), .mov (.tmp 118), none⟩,
 ⟨(some 120), .mov (.tmp 18), some (119, true)⟩,
 ⟨(some 121), .bin .eql (.tmp 120) (.val (.int .i64 66)), some (119, true)⟩,
 ⟨(some 122), .pick (.tmp 119) (.tmp 121) (.val (.bool false)), none⟩,
 ⟨(some 0), .mov (.tmp 122), none⟩])
 (.ret))))))))))))), [.tmp 0]⟩
def c16 : RFunc := ⟨34, .code (.seq (.region [⟨(some 6), .new 23 [(.int .i64 0), (.int .i64 0)], none⟩,
 ⟨(some 7), .mov (.val (.int .i64 0)), none⟩])
 (.seq (.seq (.region [⟨(some 10), .mov (.tmp 0), none⟩])
 (.block 0 (.seq (.seq (.region [⟨(some 13), .bin .eql (.tmp 10) (.val (.int .i64 1)), none⟩,
 ⟨(some 12), .mov (.tmp 13), none⟩])
 (.cond (.tmp 12) (.skip)
 (.seq (.region [⟨(some 14), .bin .eql (.tmp 10) (.val (.int .i64 2)), none⟩,
 ⟨(some 12), .mov (.tmp 14), none⟩])
 (.cond (.tmp 12) (.skip)
 (.seq (.region [⟨(some 15), .bin .eql (.tmp 10) (.val (.int .i64 4)), none⟩,
 ⟨(some 12), .mov (.tmp 15), none⟩])
 (.cond (.tmp 12) (.skip)
 (.seq (.region [⟨(some 16), .bin .eql (.tmp 10) (.val (.int .i64 8)), none⟩,
 ⟨(some 12), .mov (.tmp 16), none⟩])
 (.cond (.tmp 12) (.skip)
 (.region [⟨(some 17), .bin .eql (.tmp 10) (.val (.int .i64 16)), none⟩,
 ⟨(some 12), .mov (.tmp 17), none⟩])))))))))
 (.cond (.tmp 12) (.skip)
 (.seq (.region [⟨(some 11), .build [(.int .i64 0), (.int .i64 0)] [], none⟩,
 ⟨none, .store 2 (.tmp 6) (.tmp 11), none⟩,
 ⟨(some 7), .mov (.val (.int .i64 33)), none⟩])
 (.ret))))))
 (.seq (.region [⟨(some 18), .mov (.tmp 0), none⟩,
 ⟨(some 8), .mov (.val (.int .i64 1)), none⟩,
 ⟨(some 9), .mov (.tmp 18), none⟩])
 (.seq (.seq (.region [⟨(some 19), .mov (.tmp 1), none⟩])
 (.cond (.tmp 19) (.region [⟨(some 20), .mov (.tmp 8), none⟩,
 ⟨(some 21), .bin .mul (.val (.int .i64 3)) (.tmp 20), none⟩,
 ⟨(some 22), .mov (.tmp 9), none⟩,
 ⟨(some 23), .bin .mul (.val (.int .i64 2)) (.tmp 22), none⟩,
 ⟨(some 8), .mov (.tmp 21), none⟩,
 ⟨(some 9), .mov (.tmp 23), none⟩])
 (.skip)))
 (.seq (.seq (.region [⟨(some 24), .mov (.tmp 2), none⟩])
 (.cond (.tmp 24) (.region [⟨(some 25), .mov (.tmp 8), none⟩,
 ⟨(some 26), .bin .mul (.val (.int .i64 2)) (.tmp 25), none⟩,
 ⟨(some 27), .mov (.tmp 9), none⟩,
 ⟨(some 28), .bin .mul (.val (.int .i64 3)) (.tmp 27), none⟩,
 ⟨(some 8), .mov (.tmp 26), none⟩,
 ⟨(some 9), .mov (.tmp 28), none⟩])
 (.skip)))
 (.seq (.region [⟨(some 29), .mov (.tmp 8), none⟩,
 ⟨(some 30), .mov (.tmp 9), none⟩,
 ⟨(some 31), .call (.val (.func (.func 56) [] [])) [(.tmp 29), (.tmp 30)], none⟩,
 ⟨(some 32), .extract (.tmp 31) 0, none⟩,
 ⟨(some 33), .extract (.tmp 31) 1, none⟩,
 ⟨none, .store 2 (.tmp 6) (.tmp 32), none⟩,
 ⟨(some 7), .mov (.tmp 33), none⟩])
 (.ret))))))), [.cell 6 (some 2), .tmp 7]⟩
def c25 : RFunc := ⟨33, .code (.seq (.region [⟨(some 1), .box 38 (.tmp 0), none⟩,
 ⟨(some 2), .mov (.val (.str ⟨#[]⟩)), none⟩,
 ⟨(some 3), .mov (.val (.int .i64 0)), none⟩])
 (.seq (.seq (.region [⟨(some 7), .load (some 2) (.tmp 1), none⟩,
 ⟨(some 8), .call (.val (.func (.func 63) [] [])) [(.tmp 7)], none⟩,
 ⟨(some 9), .un .not (.tmp 8), none⟩])
 (.cond (.tmp 9) (.seq (.region [⟨(some 2), .mov (.val (.str ⟨#[]⟩)), none⟩,
 ⟨(some 3), .mov (.val (.int .i64 34)), none⟩])
 (.ret))
 (.skip)))
 (.seq (.region [⟨(some 10), .build [(.str ⟨#[]⟩), (.str ⟨#[]⟩), (.str ⟨#[]⟩)] [(0, 1, (.val (.str ⟨#[98]⟩))), (1, 1, (.val (.str ⟨#[]⟩))), (2, 1, (.val (.str ⟨#[35]⟩)))], none⟩,
 ⟨(some 4), .new 87 [(.str ⟨#[]⟩), (.str ⟨#[]⟩), (.str ⟨#[]⟩)], none⟩,
 ⟨none, .store 3 (.tmp 4) (.tmp 10), none⟩])
 (.seq (.dregion [⟨⟨(some 11), .fieldAddr 0 (.tmp 1), none⟩, 0, 0, true⟩,
 ⟨⟨(some 12), .load none (.tmp 11), none⟩, 1, 1, true⟩,
 ⟨⟨(some 13), .bin .rem (.tmp 12) (.val (.int .i64 7)), none⟩, 3, 0, true⟩,
 ⟨⟨(some 14), .fieldAddr 0 (.tmp 1), none⟩, 0, 0, true⟩,
 ⟨⟨(some 15), .load none (.tmp 14), none⟩, 8, 1, true⟩,
 ⟨⟨(some 16), .bin .quo (.tmp 15) (.val (.int .i64 7)), none⟩, 24, 0, true⟩,
 ⟨⟨(some 5), .mov (.tmp 13), none⟩, 7, 0, true⟩,
 ⟨⟨(some 6), .mov (.tmp 16), none⟩, 127, 0, true⟩])
 (.seq (.dregion [⟨⟨(some 17), .mov (.tmp 5), none⟩, 0, 0, true⟩,
 ⟨⟨(some 18), .mov (.tmp 5), none⟩, 0, 0, true⟩,
 ⟨⟨(some 19), .bin .add (.tmp 18) (.val (.int .i64 1)), none⟩, 2, 0, true⟩,
 ⟨⟨(some 20), .sliceStr (.val (.str ⟨#[99, 100, 101, 102, 103, 97, 98]⟩)) (some (.tmp 17)) (some (.tmp 19)), none⟩, 7, 0, true⟩,
 ⟨⟨(some 21), .fieldAddr 1 (.tmp 1), none⟩, 0, 0, true⟩,
 ⟨⟨(some 22), .load none (.tmp 21), none⟩, 16, 1, true⟩,
 ⟨⟨(some 23), .bin .add (.tmp 22) (.val (.int .i64 1)), none⟩, 48, 0, true⟩,
 ⟨⟨(some 24), .idxA 3 1 (.tmp 4) (.tmp 23), none⟩, 112, 0, true⟩,
 ⟨⟨(some 25), .load none (.tmp 24), none⟩, 240, 1, true⟩,
 ⟨⟨(some 26), .bin .add (.tmp 20) (.tmp 25), none⟩, 511, 0, true⟩,
 ⟨⟨(some 27), .mov (.tmp 6), none⟩, 0, 0, true⟩,
 ⟨⟨(some 28), .convInt .u8 (.tmp 27), none⟩, 1024, 0, true⟩,
 ⟨⟨(some 29), .bin .add (.val (.int .u8 48)) (.tmp 28), none⟩, 3072, 0, true⟩,
 ⟨⟨(some 30), .buildSlice 5 1 1 [(.int .u8 0)] [(0, 1, (.tmp 29))], none⟩, 7168, 3, true⟩,
 ⟨⟨(some 31), .bytesToStr (.tmp 30), none⟩, 15360, 1, true⟩,
 ⟨⟨(some 32), .bin .add (.tmp 26) (.tmp 31), none⟩, 32767, 0, true⟩,
 ⟨⟨(some 2), .mov (.tmp 32), none⟩, 65535, 0, true⟩,
 ⟨⟨(some 3), .mov (.val (.int .i64 0)), none⟩, 131071, 0, true⟩])
 (.ret)))))), [.tmp 2, .tmp 3]⟩
def c33 : RFunc := ⟨14, .code (.seq (.region [⟨(some 2), .box 23 (.tmp 0), none⟩,
 ⟨(some 3), .box 23 (.tmp 1), none⟩,
 ⟨(some 4), .new 23 [(.int .i64 0), (.int .i64 0)], none⟩,
 ⟨(some 5), .mov (.val (.int .i64 0)), none⟩])
 (.seq (.region [⟨(some 7), .build [.nfunc] [(0, 1, (.val (.func (.func 82) [] [])))], none⟩,
 ⟨(some 6), .new 110 [.nfunc], none⟩,
 ⟨none, .store 1 (.tmp 6) (.tmp 7), none⟩])
 (.seq (.region [⟨(some 8), .load (some 1) (.tmp 6), none⟩,
 ⟨(some 9), .load (some 2) (.tmp 2), none⟩,
 ⟨(some 10), .load (some 2) (.tmp 3), none⟩,
 ⟨(some 11), .call (.val (.func (.func 83) [] [])) [(.tmp 8), (.tmp 9), (.tmp 10)], none⟩,
 ⟨(some 12), .extract (.tmp 11) 0, none⟩,
 ⟨(some 13), .extract (.tmp 11) 1, none⟩,
 ⟨none, .store 2 (.tmp 4) (.tmp 12), none⟩,
 ⟨(some 5), .mov (.tmp 13), none⟩])
 (.ret)))), [.cell 4 (some 2), .tmp 5]⟩
def c39 : RFunc := ⟨19, .code (.seq (.region [⟨(some 2), .mov (.val .nptr), none⟩,
 ⟨(some 3), .mov (.val (.int .i64 0)), none⟩])
 (.seq (.seq (.region [⟨(some 5), .mov (.tmp 0), none⟩,
 ⟨(some 6), .call (.val (.func (.func 89) [] [])) [(.tmp 5)], none⟩,
 ⟨(some 7), .un .not (.tmp 6), none⟩])
 (.cond (.tmp 7) (.seq (.region [⟨(some 2), .mov (.val .nptr), none⟩,
 ⟨(some 3), .mov (.val (.int .i64 31)), none⟩])
 (.ret))
 (.skip)))
 (.seq (.region [⟨(some 8), .mov (.tmp 0), none⟩,
 ⟨(some 9), .build [(.int .i64 0)] [(0, 1, (.tmp 8))], none⟩,
 ⟨(some 10), .build [(.int .i64 0), .nptr, (.int .i64 0), (.int .i64 0), (.int .i64 0), (.int .i64 0), (.int .i64 0), (.int .i64 0), (.int .i64 0), (.int .i64 0), (.int .i64 0), (.int .i64 0), (.int .i64 0), (.int .i64 0), (.int .i64 0), (.int .i64 0), (.int .i64 0), (.int .i64 0), (.int .i64 0), (.int .i64 0), (.int .i64 0), (.int .i64 0), (.int .i64 0), (.int .i64 0), (.int .i64 0), (.int .i64 0), (.int .i64 0), (.int .i64 0), (.int .i64 0), (.int .i64 0), (.int .i64 0), (.int .i64 0), (.int .i64 0), (.int .i64 0), (.int .i64 0), (.int .i64 0), (.int .i64 0), (.int .i64 0), (.int .i64 0), (.int .i64 0), (.int .i64 0), (.int .i64 0), (.int .i64 0), (.int .i64 0), (.int .i64 0), (.int .i64 0), (.int .i64 0), (.int .i64 0), (.int .i64 0), (.int .i64 0), (.int .i64 0), (.int .i64 0), (.int .i64 0), (.int .i64 0), (.int .i64 0), (.int .i64 0), (.int .i64 0), (.int .i64 0), (.int .i64 0), (.int .i64 0), (.int .i64 0), (.int .i64 0), (.int .i64 0), (.int .i64 0), (.int .i64 0), (.int .i64 0), (.int .i64 0), (.int .i64 0), (.int .i64 0), (.int .i64 0), (.int .i64 0), (.int .i64 0)] [(0, 1, (.tmp 9))], none⟩,
 ⟨(some 11), .box 117 (.tmp 10), none⟩,
 ⟨(some 4), .mov (.tmp 11), none⟩])
 (.seq (.region [⟨(some 12), .mov (.tmp 4), none⟩,
 ⟨(some 13), .mov (.tmp 4), none⟩,
 ⟨(some 14), .nilCheck (.tmp 12), none⟩,
 ⟨(some 15), .fieldAddr 1 (.tmp 14), none⟩,
 ⟨none, .store 1 (.tmp 15) (.tmp 13), none⟩])
 (.seq (.region [⟨(some 16), .mov (.tmp 4), none⟩,
 ⟨(some 17), .call (.val (.func (.func 40) [] [])) [(.tmp 16)], none⟩])
 (.seq (.region [⟨(some 18), .mov (.tmp 4), none⟩,
 ⟨(some 2), .mov (.tmp 18), none⟩,
 ⟨(some 3), .mov (.val (.int .i64 0)), none⟩])
 (.ret))))))), [.tmp 2, .tmp 3]⟩
def c40 : RFunc := ⟨22, .code (.seq (.region [⟨(some 2), .mov (.val (.int .i64 0)), none⟩])
 (.seq (.seq (.region [⟨(some 4), .mov (.tmp 0), none⟩,
 ⟨(some 5), .call (.val (.func (.func 90) [] [])) [(.tmp 4)], none⟩,
 ⟨(some 6), .un .not (.tmp 5), none⟩])
 (.cond (.tmp 6) (.seq (.region [⟨(some 2), .mov (.val (.int .i64 7)), none⟩])
 (.ret))
 (.skip)))
 (.seq (.seq (.region [⟨(some 7), .mov (.val (.int .i64 0)), none⟩])
 (.block 0 (.loop (.seq (.region [⟨(some 8), .bin .lss (.tmp 7) (.val (.int .i64 70)), none⟩])
 (.seq (.cond (.tmp 8) (.skip)
 (.exit 0))
 (.seq (.block 1 (.seq (.region [⟨(some 9), .mov (.tmp 7), none⟩,
 ⟨(some 3), .mov (.tmp 9), none⟩])
 (.dregion [⟨⟨(some 10), .mov (.tmp 0), none⟩, 0, 0, true⟩,
 ⟨⟨(some 11), .mov (.tmp 3), none⟩, 0, 0, true⟩,
 ⟨⟨(some 12), .mov (.tmp 0), none⟩, 0, 0, true⟩,
 ⟨⟨(some 13), .nilCheck (.tmp 12), none⟩, 4, 0, true⟩,
 ⟨⟨(some 14), .fieldAddr 0 (.tmp 13), none⟩, 12, 0, true⟩,
 ⟨⟨(some 15), .load (some 1) (.tmp 14), none⟩, 28, 1, true⟩,
 ⟨⟨(some 16), .mov (.tmp 3), none⟩, 0, 0, true⟩,
 ⟨⟨(some 17), .call (.val (.func (.func 91) [] [])) [(.tmp 15), (.tmp 16)], none⟩, 124, 2, false⟩,
 ⟨⟨(some 18), .nilCheck (.tmp 10), none⟩, 1, 0, true⟩,
 ⟨⟨(some 19), .fieldAddr 2 (.tmp 18), none⟩, 257, 0, true⟩,
 ⟨⟨(some 20), .idxA 70 1 (.tmp 19) (.tmp 11), none⟩, 1023, 0, true⟩,
 ⟨⟨none, .store 1 (.tmp 20) (.tmp 17), none⟩, 2047, 2, false⟩])))
 (.region [⟨(some 21), .bin .add (.tmp 7) (.val (.int .i64 1)), none⟩,
 ⟨(some 7), .mov (.tmp 21), none⟩])))))))
 (.seq (.region [⟨(some 2), .mov (.val (.int .i64 0)), none⟩])
 (.ret))))), [.tmp 2]⟩
def c41 : RFunc := ⟨18, .code (.seq (.region [⟨(some 4), .mov (.val (.int .i64 0)), none⟩,
 ⟨(some 5), .mov (.val (.int .i64 0)), none⟩])
 (.seq (.seq (.region [⟨(some 6), .mov (.tmp 0), none⟩,
 ⟨(some 7), .call (.val (.func (.func 90) [] [])) [(.tmp 6)], none⟩,
 ⟨(some 8), .un .not (.tmp 7), none⟩])
 (.cond (.tmp 8) (.seq (.region [⟨(some 4), .mov (.val (.int .i64 0)), none⟩,
 ⟨(some 5), .mov (.val (.int .i64 7)), none⟩])
 (.ret))
 (.skip)))
 (.seq (.seq (.region [⟨(some 9), .mov (.tmp 1), none⟩,
 ⟨(some 10), .call (.val (.func (.func 92) [] [])) [(.tmp 9)], none⟩,
 ⟨(some 11), .un .not (.tmp 10), none⟩])
 (.cond (.tmp 11) (.seq (.region [⟨(some 4), .mov (.val (.int .i64 0)), none⟩,
 ⟨(some 5), .mov (.val (.int .i64 34)), none⟩])
 (.ret))
 (.skip)))
 (.seq (.region [⟨(some 12), .mov (.tmp 0), none⟩,
 ⟨(some 13), .mov (.tmp 1), none⟩,
 ⟨(some 14), .nilCheck (.tmp 12), none⟩,
 ⟨(some 15), .fieldAddr 2 (.tmp 14), none⟩,
 ⟨(some 16), .idxA 70 1 (.tmp 15) (.tmp 13), none⟩,
 ⟨(some 17), .load none (.tmp 16), none⟩,
 ⟨(some 4), .mov (.tmp 17), none⟩,
 ⟨(some 5), .mov (.val (.int .i64 0)), none⟩])
 (.ret))))), [.tmp 4, .tmp 5]⟩
def c42 : RFunc := ⟨35, .code (.seq (.region [⟨(some 6), .mov (.val (.int .i64 0)), none⟩,
 ⟨(some 7), .mov (.val (.int .i64 0)), none⟩])
 (.seq (.seq (.region [⟨(some 8), .mov (.tmp 0), none⟩,
 ⟨(some 9), .call (.val (.func (.func 90) [] [])) [(.tmp 8)], none⟩,
 ⟨(some 10), .un .not (.tmp 9), none⟩])
 (.cond (.tmp 10) (.seq (.region [⟨(some 6), .mov (.val (.int .i64 0)), none⟩,
 ⟨(some 7), .mov (.val (.int .i64 7)), none⟩])
 (.ret))
 (.skip)))
 (.seq (.seq (.region [⟨(some 11), .mov (.tmp 1), none⟩,
 ⟨(some 12), .call (.val (.func (.func 92) [] [])) [(.tmp 11)], none⟩,
 ⟨(some 13), .un .not (.tmp 12), none⟩,
 ⟨(some 14), .mov (.tmp 13), none⟩,
 ⟨(some 15), .mov (.tmp 2), some (14, false)⟩,
 ⟨(some 16), .call (.val (.func (.func 93) [] [])) [(.tmp 15)], some (14, false)⟩,
 ⟨(some 17), .un .not (.tmp 16), some (14, false)⟩,
 ⟨(some 18), .pick (.tmp 14) (.val (.bool true)) (.tmp 17), none⟩])
 (.cond (.tmp 18) (.seq (.region [⟨(some 6), .mov (.val (.int .i64 0)), none⟩,
 ⟨(some 7), .mov (.val (.int .i64 34)), none⟩])
 (.ret))
 (.skip)))
 (.seq (.seq (.region [⟨(some 19), .mov (.tmp 0), none⟩,
 ⟨(some 20), .mov (.tmp 1), none⟩,
 ⟨(some 21), .nilCheck (.tmp 19), none⟩,
 ⟨(some 22), .fieldAddr 2 (.tmp 21), none⟩,
 ⟨(some 23), .idxA 70 1 (.tmp 22) (.tmp 20), none⟩,
 ⟨(some 24), .load none (.tmp 23), none⟩,
 ⟨(some 25), .mov (.tmp 2), none⟩,
 ⟨(some 26), .bin .eql (.tmp 24) (.tmp 25), none⟩])
 (.cond (.tmp 26) (.seq (.region [⟨(some 6), .mov (.val (.int .i64 0)), none⟩,
 ⟨(some 7), .mov (.val (.int .i64 0)), none⟩])
 (.ret))
 (.skip)))
 (.seq (.region [⟨(some 27), .mov (.tmp 0), none⟩,
 ⟨(some 28), .mov (.tmp 1), none⟩,
 ⟨(some 29), .mov (.tmp 2), none⟩,
 ⟨(some 30), .nilCheck (.tmp 27), none⟩,
 ⟨(some 31), .fieldAddr 2 (.tmp 30), none⟩,
 ⟨(some 32), .idxA 70 1 (.tmp 31) (.tmp 28), none⟩,
 ⟨none, .store 1 (.tmp 32) (.tmp 29), none⟩])
 (.seq (.region [⟨(some 33), .mov (.tmp 2), none⟩,
 ⟨(some 34), .call (.val (.func (.func 94) [] [])) [(.tmp 33)], none⟩,
 ⟨(some 6), .mov (.tmp 34), none⟩,
 ⟨(some 7), .mov (.val (.int .i64 0)), none⟩])
 (.ret))))))), [.tmp 6, .tmp 7]⟩
def c43 : RFunc := ⟨49, .code (.seq (.region [⟨(some 6), .mov (.val (.int .i64 0)), none⟩,
 ⟨(some 7), .mov (.val (.int .i64 0)), none⟩])
 (.seq (.seq (.region [⟨(some 8), .mov (.tmp 0), none⟩,
 ⟨(some 9), .call (.val (.func (.func 90) [] [])) [(.tmp 8)], none⟩,
 ⟨(some 10), .un .not (.tmp 9), none⟩])
 (.cond (.tmp 10) (.seq (.region [⟨(some 6), .mov (.val (.int .i64 0)), none⟩,
 ⟨(some 7), .mov (.val (.int .i64 7)), none⟩])
 (.ret))
 (.skip)))
 (.seq (.seq (.region [⟨(some 11), .mov (.tmp 1), none⟩,
 ⟨(some 12), .call (.val (.func (.func 92) [] [])) [(.tmp 11)], none⟩,
 ⟨(some 13), .un .not (.tmp 12), none⟩])
 (.cond (.tmp 13) (.seq (.region [⟨(some 6), .mov (.val (.int .i64 0)), none⟩,
 ⟨(some 7), .mov (.val (.int .i64 34)), none⟩])
 (.ret))
 (.skip)))
 (.seq (.seq (.region [⟨(some 14), .mov (.tmp 2), none⟩,
 ⟨(some 15), .bin .eql (.tmp 14) (.val (.int .i64 0)), none⟩])
 (.cond (.tmp 15) (.seq (.region [⟨(some 16), .mov (.tmp 0), none⟩,
 ⟨(some 17), .mov (.tmp 1), none⟩,
 ⟨(some 18), .nilCheck (.tmp 16), none⟩,
 ⟨(some 19), .fieldAddr 2 (.tmp 18), none⟩,
 ⟨(some 20), .idxA 70 1 (.tmp 19) (.tmp 17), none⟩,
 ⟨(some 21), .load none (.tmp 20), none⟩,
 ⟨(some 6), .mov (.tmp 21), none⟩,
 ⟨(some 7), .mov (.val (.int .i64 0)), none⟩])
 (.ret))
 (.skip)))
 (.seq (.seq (.dregion [⟨⟨(some 22), .mov (.tmp 2), none⟩, 0, 0, true⟩,
 ⟨⟨(some 23), .call (.val (.func (.func 95) [] [])) [(.tmp 22)], none⟩, 1, 2, false⟩,
 ⟨⟨(some 24), .un .not (.tmp 23), none⟩, 3, 0, false⟩,
 ⟨⟨(some 25), .mov (.tmp 24), none⟩, 7, 0, false⟩,
 ⟨⟨(some 26), .mov (.tmp 0), some (25, false)⟩, 15, 0, false⟩,
 ⟨⟨(some 27), .mov (.tmp 1), some (25, false)⟩, 15, 0, false⟩,
 ⟨⟨(some 28), .nilCheck (.tmp 26), some (25, false)⟩, 31, 0, false⟩,
 ⟨⟨(some 29), .fieldAddr 2 (.tmp 28), some (25, false)⟩, 95, 0, false⟩,
 ⟨⟨(some 30), .idxA 70 1 (.tmp 29) (.tmp 27), some (25, false)⟩, 255, 0, false⟩,
 ⟨⟨(some 31), .load none (.tmp 30), some (25, false)⟩, 511, 1, false⟩,
 ⟨⟨(some 32), .mov (.tmp 2), some (25, false)⟩, 15, 0, false⟩,
 ⟨⟨(some 33), .call (.val (.func (.func 96) [] [])) [(.tmp 32)], some (25, false)⟩, 1039, 2, false⟩,
 ⟨⟨(some 34), .bin .eql (.tmp 31) (.tmp 33), some (25, false)⟩, 4095, 0, false⟩,
 ⟨⟨(some 35), .pick (.tmp 25) (.val (.bool true)) (.tmp 34), none⟩, 8191, 0, false⟩])
 (.cond (.tmp 35) (.seq (.region [⟨(some 6), .mov (.val (.int .i64 0)), none⟩,
 ⟨(some 7), .mov (.val (.int .i64 66)), none⟩])
 (.ret))
 (.skip)))
 (.seq (.dregion [⟨⟨(some 36), .mov (.tmp 0), none⟩, 0, 0, true⟩,
 ⟨⟨(some 37), .mov (.tmp 1), none⟩, 0, 0, true⟩,
 ⟨⟨(some 38), .mov (.tmp 2), none⟩, 0, 0, true⟩,
 ⟨⟨(some 39), .call (.val (.func (.func 96) [] [])) [(.tmp 38)], none⟩, 4, 2, false⟩,
 ⟨⟨(some 40), .nilCheck (.tmp 36), none⟩, 1, 0, true⟩,
 ⟨⟨(some 41), .fieldAddr 2 (.tmp 40), none⟩, 17, 0, true⟩,
 ⟨⟨(some 42), .idxA 70 1 (.tmp 41) (.tmp 37), none⟩, 63, 0, true⟩,
 ⟨⟨none, .store 1 (.tmp 42) (.tmp 39), none⟩, 127, 2, false⟩])
 (.seq (.region [⟨(some 43), .mov (.tmp 0), none⟩,
 ⟨(some 44), .mov (.tmp 1), none⟩,
 ⟨(some 45), .nilCheck (.tmp 43), none⟩,
 ⟨(some 46), .fieldAddr 2 (.tmp 45), none⟩,
 ⟨(some 47), .idxA 70 1 (.tmp 46) (.tmp 44), none⟩,
 ⟨(some 48), .load none (.tmp 47), none⟩,
 ⟨(some 6), .mov (.tmp 48), none⟩,
 ⟨(some 7), .mov (.val (.int .i64 0)), none⟩])
 (.ret)))))))), [.tmp 6, .tmp 7]⟩
def c44 : RFunc := ⟨49, .code (.seq (.region [⟨(some 2), .box 38 (.tmp 0), none⟩,
 ⟨(some 3), .box 47 (.tmp 1), none⟩,
 ⟨(some 4), .new 38 [(.int .i64 0), (.int .i64 0)], none⟩,
 ⟨(some 5), .mov (.val (.int .i64 0)), none⟩])
 (.seq (.seq (.region [⟨(some 8), .load (some 2) (.tmp 3), none⟩,
 ⟨(some 9), .call (.val (.func (.func 97) [] [])) [(.tmp 8)], none⟩,
 ⟨(some 10), .un .not (.tmp 9), none⟩])
 (.cond (.tmp 10) (.seq (.region [⟨(some 11), .build [(.int .i64 0), (.int .i64 0)] [], none⟩,
 ⟨none, .store 2 (.tmp 4) (.tmp 11), none⟩,
 ⟨(some 5), .mov (.val (.int .i64 8)), none⟩])
 (.ret))
 (.skip)))
 (.seq (.seq (.region [⟨(some 12), .load (some 2) (.tmp 2), none⟩,
 ⟨(some 13), .call (.val (.func (.func 63) [] [])) [(.tmp 12)], none⟩,
 ⟨(some 14), .un .not (.tmp 13), none⟩,
 ⟨(some 15), .mov (.tmp 14), none⟩,
 ⟨(some 16), .fieldAddr 0 (.tmp 2), some (15, false)⟩,
 ⟨(some 17), .load none (.tmp 16), some (15, false)⟩,
 ⟨(some 18), .fieldAddr 0 (.tmp 3), some (15, false)⟩,
 ⟨(some 19), .load none (.tmp 18), some (15, false)⟩,
 ⟨(some 20), .bin .add (.tmp 17) (.tmp 19), some (15, false)⟩,
 ⟨(some 21), .call (.val (.func (.func 92) [] [])) [(.tmp 20)], some (15, false)⟩,
 ⟨(some 22), .un .not (.tmp 21), some (15, false)⟩,
 ⟨(some 23), .pick (.tmp 15) (.val (.bool true)) (.tmp 22), none⟩])
 (.cond (.tmp 23) (.seq (.region [⟨(some 24), .build [(.int .i64 0), (.int .i64 0)] [], none⟩,
 ⟨none, .store 2 (.tmp 4) (.tmp 24), none⟩,
 ⟨(some 5), .mov (.val (.int .i64 34)), none⟩])
 (.ret))
 (.skip)))
 (.seq (.region [⟨(some 25), .fieldAddr 0 (.tmp 2), none⟩,
 ⟨(some 26), .load none (.tmp 25), none⟩,
 ⟨(some 27), .fieldAddr 0 (.tmp 3), none⟩,
 ⟨(some 28), .load none (.tmp 27), none⟩,
 ⟨(some 29), .bin .add (.tmp 26) (.tmp 28), none⟩,
 ⟨(some 6), .mov (.tmp 29), none⟩])
 (.seq (.dregion [⟨⟨(some 30), .mov (.tmp 6), none⟩, 0, 0, true⟩,
 ⟨⟨(some 31), .fieldAddr 0 (.tmp 2), none⟩, 0, 0, true⟩,
 ⟨⟨(some 32), .load none (.tmp 31), none⟩, 2, 1, true⟩,
 ⟨⟨(some 33), .call (.val (.func (.func 64) [] [])) [(.tmp 32)], none⟩, 6, 2, false⟩,
 ⟨⟨(some 34), .fieldAddr 1 (.tmp 2), none⟩, 0, 0, true⟩,
 ⟨⟨(some 35), .load none (.tmp 34), none⟩, 16, 1, true⟩,
 ⟨⟨(some 36), .bin .add (.tmp 33) (.tmp 35), none⟩, 62, 0, false⟩,
 ⟨⟨(some 37), .fieldAddr 1 (.tmp 3), none⟩, 0, 0, true⟩,
 ⟨⟨(some 38), .load none (.tmp 37), none⟩, 128, 1, true⟩,
 ⟨⟨(some 39), .bin .add (.tmp 36) (.tmp 38), none⟩, 510, 0, false⟩,
 ⟨⟨(some 40), .mov (.tmp 6), none⟩, 0, 0, true⟩,
 ⟨⟨(some 41), .call (.val (.func (.func 64) [] [])) [(.tmp 40)], none⟩, 1038, 2, false⟩,
 ⟨⟨(some 42), .bin .sub (.tmp 39) (.tmp 41), none⟩, 4094, 0, false⟩,
 ⟨⟨(some 43), .build [(.int .i64 0), (.int .i64 0)] [(0, 1, (.tmp 30)), (1, 1, (.tmp 42))], none⟩, 8191, 0, false⟩,
 ⟨⟨(some 7), .new 38 [(.int .i64 0), (.int .i64 0)], none⟩, 0, 3, true⟩,
 ⟨⟨none, .store 2 (.tmp 7) (.tmp 43), none⟩, 32767, 2, false⟩])
 (.seq (.seq (.region [⟨(some 44), .load (some 2) (.tmp 7), none⟩,
 ⟨(some 45), .call (.val (.func (.func 63) [] [])) [(.tmp 44)], none⟩,
 ⟨(some 46), .un .not (.tmp 45), none⟩])
 (.cond (.tmp 46) (.seq (.region [⟨(some 47), .build [(.int .i64 0), (.int .i64 0)] [], none⟩,
 ⟨none, .store 2 (.tmp 4) (.tmp 47), none⟩,
 ⟨(some 5), .mov (.val (.int .i64 34)), none⟩])
 (.ret))
 (.skip)))
 (.seq (.region [⟨(some 48), .load (some 2) (.tmp 7), none⟩,
 ⟨none, .store 2 (.tmp 4) (.tmp 48), none⟩,
 ⟨(some 5), .mov (.val (.int .i64 0)), none⟩])
 (.ret)))))))), [.cell 4 (some 2), .tmp 5]⟩
def c49 : RFunc := ⟨46, .code (.seq (.region [⟨(some 1), .box 47 (.tmp 0), none⟩,
 ⟨(some 2), .mov (.val (.str ⟨#[]⟩)), none⟩,
 ⟨(some 3), .mov (.val (.int .i64 0)), none⟩])
 (.seq (.seq (.region [⟨(some 7), .load (some 2) (.tmp 1), none⟩,
 ⟨(some 8), .call (.val (.func (.func 97) [] [])) [(.tmp 7)], none⟩,
 ⟨(some 9), .un .not (.tmp 8), none⟩])
 (.cond (.tmp 9) (.seq (.region [⟨(some 2), .mov (.val (.str ⟨#[]⟩)), none⟩,
 ⟨(some 3), .mov (.val (.int .i64 8)), none⟩])
 (.ret))
 (.skip)))
 (.seq (.region [⟨(some 4), .mov (.val (.str ⟨#[]⟩)), none⟩])
 (.seq (.seq (.region [⟨(some 10), .fieldAddr 0 (.tmp 1), none⟩,
 ⟨(some 11), .load none (.tmp 10), none⟩,
 ⟨(some 12), .bin .lss (.tmp 11) (.val (.int .i64 0)), none⟩,
 ⟨(some 13), .mov (.tmp 12), none⟩,
 ⟨(some 14), .fieldAddr 0 (.tmp 1), some (13, false)⟩,
 ⟨(some 15), .load none (.tmp 14), some (13, false)⟩,
 ⟨(some 16), .bin .eql (.tmp 15) (.val (.int .i64 0)), some (13, false)⟩,
 ⟨(some 17), .mov (.tmp 16), some (13, false)⟩,
 ⟨(some 18), .fieldAddr 1 (.tmp 1), some (17, true)⟩,
 ⟨(some 19), .load none (.tmp 18), some (17, true)⟩,
 ⟨(some 20), .bin .lss (.tmp 19) (.val (.int .i64 0)), some (17, true)⟩,
 ⟨(some 21), .pick (.tmp 17) (.tmp 20) (.val (.bool false)), some (13, false)⟩,
 ⟨(some 22), .pick (.tmp 13) (.val (.bool true)) (.tmp 21), none⟩])
 (.cond (.tmp 22) (.region [⟨(some 23), .load (some 2) (.tmp 1), none⟩,
 ⟨(some 24), .call (.val (.func (.func 98) [] [])) [(.tmp 23)], none⟩,
 ⟨(some 4), .mov (.val (.str ⟨#[45]⟩)), none⟩,
 ⟨none, .store 2 (.tmp 1) (.tmp 24), none⟩])
 (.skip)))
 (.seq (.seq (.region [⟨(some 25), .fieldAddr 0 (.tmp 1), none⟩,
 ⟨(some 26), .load none (.tmp 25), none⟩,
 ⟨(some 27), .call (.val (.func (.func 92) [] [])) [(.tmp 26)], none⟩,
 ⟨(some 28), .un .not (.tmp 27), none⟩])
 (.cond (.tmp 28) (.seq (.region [⟨(some 2), .mov (.val (.str ⟨#[]⟩)), none⟩,
 ⟨(some 3), .mov (.val (.int .i64 8)), none⟩])
 (.ret))
 (.skip)))
 (.seq (.dregion [⟨⟨(some 30), .call (.val (.func (.func 99) [] [])) [], none⟩, 0, 2, false⟩,
 ⟨⟨(some 31), .load (some 2) (.tmp 1), none⟩, 0, 1, true⟩,
 ⟨⟨(some 32), .call (.val (.func (.func 100) [] [])) [(.tmp 31)], none⟩, 3, 2, false⟩,
 ⟨⟨(some 33), .lookup (.fields [some (0, 0, .bool), some (1, 0, .int)]) (.str ⟨#[]⟩) true (.tmp 30) (.tmp 32), none⟩, 7, 1, false⟩,
 ⟨⟨(some 29), .mov (.tmp 33), none⟩, 15, 0, false⟩,
 ⟨⟨(some 34), .extract (.tmp 29) 0, none⟩, 31, 0, false⟩,
 ⟨⟨(some 35), .extract (.tmp 29) 1, none⟩, 31, 0, false⟩,
 ⟨⟨(some 5), .mov (.tmp 34), none⟩, 63, 0, false⟩,
 ⟨⟨(some 6), .mov (.tmp 35), none⟩, 255, 0, false⟩])
 (.seq (.seq (.region [⟨(some 36), .mov (.tmp 6), none⟩,
 ⟨(some 37), .un .not (.tmp 36), none⟩])
 (.cond (.tmp 37) (.seq (.region [⟨(some 2), .mov (.val (.str ⟨#[]⟩)), none⟩,
 ⟨(some 3), .mov (.val (.int .i64 8)), none⟩])
 (.ret))
 (.skip)))
 (.seq (.region [⟨(some 38), .mov (.tmp 4), none⟩,
 ⟨(some 39), .mov (.tmp 5), none⟩,
 ⟨(some 40), .bin .add (.tmp 38) (.tmp 39), none⟩,
 ⟨(some 41), .fieldAddr 0 (.tmp 1), none⟩,
 ⟨(some 42), .load none (.tmp 41), none⟩,
 ⟨(some 43), .bin .add (.tmp 42) (.val (.int .i64 1)), none⟩,
 ⟨(some 44), .call (.val (.func (.func 101) [] [])) [(.tmp 43)], none⟩,
 ⟨(some 45), .bin .add (.tmp 40) (.tmp 44), none⟩,
 ⟨(some 2), .mov (.tmp 45), none⟩,
 ⟨(some 3), .mov (.val (.int .i64 0)), none⟩])
 (.ret))))))))), [.tmp 2, .tmp 3]⟩
def c56 : RFunc := ⟨48, .code (.seq (.region [⟨(some 4), .new 23 [(.int .i64 0), (.int .i64 0)], none⟩,
 ⟨(some 5), .mov (.val (.int .i64 0)), none⟩])
 (.seq (.seq (.region [⟨(some 10), .mov (.tmp 1), none⟩,
 ⟨(some 11), .bin .eql (.tmp 10) (.val (.int .i64 0)), none⟩])
 (.cond (.tmp 11) (.seq (.region [⟨(some 12), .build [(.int .i64 0), (.int .i64 0)] [], none⟩,
 ⟨none, .store 2 (.tmp 4) (.tmp 12), none⟩,
 ⟨(some 5), .mov (.val (.int .i64 1)), none⟩])
 (.ret))
 (.skip)))
 (.seq (.region [⟨(some 13), .mov (.tmp 0), none⟩,
 ⟨(some 14), .call (.val (.func (.func 105) [] [])) [(.tmp 13)], none⟩,
 ⟨(some 15), .mov (.tmp 1), none⟩,
 ⟨(some 16), .call (.val (.func (.func 105) [] [])) [(.tmp 15)], none⟩,
 ⟨(some 6), .mov (.tmp 14), none⟩,
 ⟨(some 7), .mov (.tmp 16), none⟩])
 (.seq (.region [⟨(some 17), .mov (.tmp 6), none⟩,
 ⟨(some 18), .mov (.tmp 7), none⟩,
 ⟨(some 19), .call (.val (.func (.func 106) [] [])) [(.tmp 17), (.tmp 18)], none⟩,
 ⟨(some 8), .mov (.tmp 19), none⟩])
 (.seq (.dregion [⟨⟨(some 20), .mov (.tmp 6), none⟩, 0, 0, true⟩,
 ⟨⟨(some 21), .mov (.tmp 8), none⟩, 0, 0, true⟩,
 ⟨⟨(some 22), .bin .quo (.tmp 20) (.tmp 21), none⟩, 3, 0, true⟩,
 ⟨⟨(some 23), .mov (.tmp 7), none⟩, 0, 0, true⟩,
 ⟨⟨(some 24), .mov (.tmp 8), none⟩, 0, 0, true⟩,
 ⟨⟨(some 25), .bin .quo (.tmp 23) (.tmp 24), none⟩, 24, 0, true⟩,
 ⟨⟨(some 6), .mov (.tmp 22), none⟩, 7, 0, true⟩,
 ⟨⟨(some 7), .mov (.tmp 25), none⟩, 127, 0, true⟩])
 (.seq (.seq (.region [⟨(some 26), .mov (.tmp 6), none⟩,
 ⟨(some 27), .bin .gtr (.tmp 26) (.val (.int .u64 1048576)), none⟩,
 ⟨(some 28), .mov (.tmp 27), none⟩,
 ⟨(some 29), .mov (.tmp 7), some (28, false)⟩,
 ⟨(some 30), .bin .gtr (.tmp 29) (.val (.int .u64 1048576)), some (28, false)⟩,
 ⟨(some 31), .pick (.tmp 28) (.val (.bool true)) (.tmp 30), none⟩])
 (.cond (.tmp 31) (.seq (.region [⟨(some 32), .build [(.int .i64 0), (.int .i64 0)] [], none⟩,
 ⟨none, .store 2 (.tmp 4) (.tmp 32), none⟩,
 ⟨(some 5), .mov (.val (.int .i64 8)), none⟩])
 (.ret))
 (.skip)))
 (.seq (.region [⟨(some 33), .mov (.tmp 6), none⟩,
 ⟨(some 34), .convInt .i64 (.tmp 33), none⟩,
 ⟨(some 35), .mov (.tmp 7), none⟩,
 ⟨(some 36), .convInt .i64 (.tmp 35), none⟩,
 ⟨(some 37), .build [(.int .i64 0), (.int .i64 0)] [(0, 1, (.tmp 34)), (1, 1, (.tmp 36))], none⟩,
 ⟨(some 9), .new 23 [(.int .i64 0), (.int .i64 0)], none⟩,
 ⟨none, .store 2 (.tmp 9) (.tmp 37), none⟩])
 (.seq (.seq (.region [⟨(some 38), .mov (.tmp 0), none⟩,
 ⟨(some 39), .bin .lss (.tmp 38) (.val (.int .i64 0)), none⟩,
 ⟨(some 40), .mov (.tmp 1), none⟩,
 ⟨(some 41), .bin .lss (.tmp 40) (.val (.int .i64 0)), none⟩,
 ⟨(some 42), .eq true .bool (.tmp 39) (.tmp 41), none⟩])
 (.cond (.tmp 42) (.region [⟨(some 43), .fieldAddr 0 (.tmp 9), none⟩,
 ⟨(some 44), .load none (.tmp 43), none⟩,
 ⟨(some 45), .un .neg (.tmp 44), none⟩,
 ⟨(some 46), .fieldAddr 0 (.tmp 9), none⟩,
 ⟨none, .store 1 (.tmp 46) (.tmp 45), none⟩])
 (.skip)))
 (.seq (.region [⟨(some 47), .load (some 2) (.tmp 9), none⟩,
 ⟨none, .store 2 (.tmp 4) (.tmp 47), none⟩,
 ⟨(some 5), .mov (.val (.int .i64 0)), none⟩])
 (.ret)))))))))), [.cell 4 (some 2), .tmp 5]⟩
def c59 : RFunc := ⟨15, .code (.seq (.region [⟨(some 6), .mov (.val (.bool false)), none⟩])
 (.seq (.region [⟨(some 7), .mov (.tmp 1), none⟩,
 ⟨(some 8), .mov (.tmp 0), none⟩,
 ⟨(some 9), .bin .leq (.tmp 7) (.tmp 8), none⟩,
 ⟨(some 10), .mov (.tmp 9), none⟩,
 ⟨(some 11), .mov (.tmp 0), some (10, true)⟩,
 ⟨(some 12), .mov (.tmp 2), some (10, true)⟩,
 ⟨(some 13), .bin .leq (.tmp 11) (.tmp 12), some (10, true)⟩,
 ⟨(some 14), .pick (.tmp 10) (.tmp 13) (.val (.bool false)), none⟩,
 ⟨(some 6), .mov (.tmp 14), none⟩])
 (.ret))), [.tmp 6]⟩
def c63 : RFunc := ⟨11, .code (.seq (.region [⟨(some 1), .box 38 (.tmp 0), none⟩,
 ⟨(some 2), .mov (.val (.bool false)), none⟩])
 (.seq (.region [⟨(some 3), .fieldAddr 0 (.tmp 1), none⟩,
 ⟨(some 4), .load none (.tmp 3), none⟩,
 ⟨(some 5), .call (.val (.func (.func 92) [] [])) [(.tmp 4)], none⟩,
 ⟨(some 6), .mov (.tmp 5), none⟩,
 ⟨(some 7), .fieldAddr 1 (.tmp 1), some (6, true)⟩,
 ⟨(some 8), .load none (.tmp 7), some (6, true)⟩,
 ⟨(some 9), .call (.val (.func (.func 93) [] [])) [(.tmp 8)], some (6, true)⟩,
 ⟨(some 10), .pick (.tmp 6) (.tmp 9) (.val (.bool false)), none⟩,
 ⟨(some 2), .mov (.tmp 10), none⟩])
 (.ret))), [.tmp 2]⟩
def c64 : RFunc := ⟨13, .code (.seq (.region [⟨(some 2), .mov (.val (.int .i64 0)), none⟩])
 (.seq (.region [⟨(some 4), .build [(.int .i64 0), (.int .i64 0), (.int .i64 0), (.int .i64 0), (.int .i64 0), (.int .i64 0), (.int .i64 0)] [(0, 1, (.val (.int .i64 0))), (1, 1, (.val (.int .i64 2))), (2, 1, (.val (.int .i64 4))), (3, 1, (.val (.int .i64 5))), (4, 1, (.val (.int .i64 7))), (5, 1, (.val (.int .i64 9))), (6, 1, (.val (.int .i64 11)))], none⟩,
 ⟨(some 3), .new 136 [(.int .i64 0), (.int .i64 0), (.int .i64 0), (.int .i64 0), (.int .i64 0), (.int .i64 0), (.int .i64 0)], none⟩,
 ⟨none, .store 7 (.tmp 3) (.tmp 4), none⟩])
 (.seq (.region [⟨(some 5), .mov (.tmp 0), none⟩,
 ⟨(some 6), .bin .quo (.tmp 5) (.val (.int .i64 7)), none⟩,
 ⟨(some 7), .bin .mul (.val (.int .i64 12)) (.tmp 6), none⟩,
 ⟨(some 8), .mov (.tmp 0), none⟩,
 ⟨(some 9), .bin .rem (.tmp 8) (.val (.int .i64 7)), none⟩,
 ⟨(some 10), .idxA 7 1 (.tmp 3) (.tmp 9), none⟩,
 ⟨(some 11), .load none (.tmp 10), none⟩,
 ⟨(some 12), .bin .add (.tmp 7) (.tmp 11), none⟩,
 ⟨(some 2), .mov (.tmp 12), none⟩])
 (.ret)))), [.tmp 2]⟩
def c82 : RFunc := ⟨22, .code (.seq (.region [⟨(some 2), .box 23 (.tmp 0), none⟩,
 ⟨(some 3), .box 23 (.tmp 1), none⟩,
 ⟨(some 4), .mov (.val (.int .i64 0)), none⟩,
 ⟨(some 5), .mov (.val (.int .i64 0)), none⟩])
 (.seq (.dregion [⟨⟨(some 6), .fieldAddr 0 (.tmp 2), none⟩, 0, 0, true⟩,
 ⟨⟨(some 7), .load none (.tmp 6), none⟩, 1, 1, true⟩,
 ⟨⟨(some 8), .fieldAddr 1 (.tmp 3), none⟩, 0, 0, true⟩,
 ⟨⟨(some 9), .load none (.tmp 8), none⟩, 4, 1, true⟩,
 ⟨⟨(some 10), .bin .mul (.tmp 7) (.tmp 9), none⟩, 15, 0, true⟩,
 ⟨⟨(some 11), .fieldAddr 0 (.tmp 3), none⟩, 0, 0, true⟩,
 ⟨⟨(some 12), .load none (.tmp 11), none⟩, 32, 1, true⟩,
 ⟨⟨(some 13), .fieldAddr 1 (.tmp 2), none⟩, 0, 0, true⟩,
 ⟨⟨(some 14), .load none (.tmp 13), none⟩, 128, 1, true⟩,
 ⟨⟨(some 15), .bin .mul (.tmp 12) (.tmp 14), none⟩, 480, 0, true⟩,
 ⟨⟨(some 16), .bin .add (.tmp 10) (.tmp 15), none⟩, 1023, 0, true⟩,
 ⟨⟨(some 17), .fieldAddr 1 (.tmp 2), none⟩, 0, 0, true⟩,
 ⟨⟨(some 18), .load none (.tmp 17), none⟩, 2048, 1, true⟩,
 ⟨⟨(some 19), .fieldAddr 1 (.tmp 3), none⟩, 0, 0, true⟩,
 ⟨⟨(some 20), .load none (.tmp 19), none⟩, 8192, 1, true⟩,
 ⟨⟨(some 21), .bin .mul (.tmp 18) (.tmp 20), none⟩, 30720, 0, true⟩,
 ⟨⟨(some 4), .mov (.tmp 16), none⟩, 2047, 0, true⟩,
 ⟨⟨(some 5), .mov (.tmp 21), none⟩, 131071, 0, true⟩])
 (.ret))), [.tmp 4, .tmp 5]⟩
def c83 : RFunc := ⟨27, .code (.seq (.region [⟨(some 3), .box 110 (.tmp 0), none⟩,
 ⟨(some 4), .box 23 (.tmp 1), none⟩,
 ⟨(some 5), .box 23 (.tmp 2), none⟩,
 ⟨(some 6), .new 23 [(.int .i64 0), (.int .i64 0)], none⟩,
 ⟨(some 7), .mov (.val (.int .i64 0)), none⟩])
 (.seq (.seq (.region [⟨(some 8), .load (some 2) (.tmp 4), none⟩,
 ⟨(some 9), .call (.val (.func (.func 87) [] [])) [(.tmp 8)], none⟩,
 ⟨(some 10), .un .not (.tmp 9), none⟩,
 ⟨(some 11), .mov (.tmp 10), none⟩,
 ⟨(some 12), .load (some 2) (.tmp 5), some (11, false)⟩,
 ⟨(some 13), .call (.val (.func (.func 87) [] [])) [(.tmp 12)], some (11, false)⟩,
 ⟨(some 14), .un .not (.tmp 13), some (11, false)⟩,
 ⟨(some 15), .pick (.tmp 11) (.val (.bool true)) (.tmp 14), none⟩])
 (.cond (.tmp 15) (.seq (.region [⟨(some 16), .build [(.int .i64 0), (.int .i64 0)] [], none⟩,
 ⟨none, .store 2 (.tmp 6) (.tmp 16), none⟩,
 ⟨(some 7), .mov (.val (.int .i64 1)), none⟩])
 (.ret))
 (.skip)))
 (.seq (.region [⟨(some 17), .fieldAddr 0 (.tmp 3), none⟩,
 ⟨(some 18), .load none (.tmp 17), none⟩,
 ⟨(some 19), .load (some 2) (.tmp 4), none⟩,
 ⟨(some 20), .load (some 2) (.tmp 5), none⟩,
 ⟨(some 21), .call (.tmp 18) [(.tmp 19), (.tmp 20)], none⟩,
 ⟨(some 22), .extract (.tmp 21) 0, none⟩,
 ⟨(some 23), .extract (.tmp 21) 1, none⟩,
 ⟨(some 24), .call (.val (.func (.func 56) [] [])) [(.tmp 22), (.tmp 23)], none⟩,
 ⟨(some 25), .extract (.tmp 24) 0, none⟩,
 ⟨(some 26), .extract (.tmp 24) 1, none⟩,
 ⟨none, .store 2 (.tmp 6) (.tmp 25), none⟩,
 ⟨(some 7), .mov (.tmp 26), none⟩])
 (.ret)))), [.cell 6 (some 2), .tmp 7]⟩
def c87 : RFunc := ⟨21, .code (.seq (.region [⟨(some 1), .box 23 (.tmp 0), none⟩,
 ⟨(some 2), .mov (.val (.bool false)), none⟩])
 (.seq (.dregion [⟨⟨(some 3), .fieldAddr 0 (.tmp 1), none⟩, 0, 0, true⟩,
 ⟨⟨(some 4), .load none (.tmp 3), none⟩, 1, 1, true⟩,
 ⟨⟨(some 5), .call (.val (.func (.func 59) [] [])) [(.tmp 4), (.val (.int .i64 (-1048576))), (.val (.int .i64 1048576))], none⟩, 3, 2, false⟩,
 ⟨⟨(some 6), .mov (.tmp 5), none⟩, 7, 0, false⟩,
 ⟨⟨(some 7), .fieldAddr 1 (.tmp 1), some (6, true)⟩, 15, 0, false⟩,
 ⟨⟨(some 8), .load none (.tmp 7), some (6, true)⟩, 31, 1, false⟩,
 ⟨⟨(some 9), .call (.val (.func (.func 59) [] [])) [(.tmp 8), (.val (.int .i64 1)), (.val (.int .i64 1048576))], some (6, true)⟩, 63, 2, false⟩,
 ⟨⟨(some 10), .pick (.tmp 6) (.tmp 9) (.val (.bool false)), none⟩, 127, 0, false⟩,
 ⟨⟨(some 11), .mov (.tmp 10), none⟩, 255, 0, false⟩,
 ⟨⟨(some 12), .fieldAddr 0 (.tmp 1), some (11, true)⟩, 511, 0, false⟩,
 ⟨⟨(some 13), .load none (.tmp 12), some (11, true)⟩, 1023, 1, false⟩,
 ⟨⟨(some 14), .call (.val (.func (.func 105) [] [])) [(.tmp 13)], some (11, true)⟩, 2047, 2, false⟩,
 ⟨⟨(some 15), .fieldAddr 1 (.tmp 1), some (11, true)⟩, 511, 0, false⟩,
 ⟨⟨(some 16), .load none (.tmp 15), some (11, true)⟩, 4607, 1, false⟩,
 ⟨⟨(some 17), .call (.val (.func (.func 105) [] [])) [(.tmp 16)], some (11, true)⟩, 16383, 2, false⟩,
 ⟨⟨(some 18), .call (.val (.func (.func 106) [] [])) [(.tmp 14), (.tmp 17)], some (11, true)⟩, 32767, 2, false⟩,
 ⟨⟨(some 19), .bin .eql (.tmp 18) (.val (.int .u64 1)), some (11, true)⟩, 65535, 0, false⟩,
 ⟨⟨(some 20), .pick (.tmp 11) (.tmp 19) (.val (.bool false)), none⟩, 131071, 0, false⟩,
 ⟨⟨(some 2), .mov (.tmp 20), none⟩, 262143, 0, false⟩])
 (.ret))), [.tmp 2]⟩
def c89 : RFunc := ⟨5, .code (.seq (.region [⟨(some 2), .mov (.val (.bool false)), none⟩])
 (.seq (.region [⟨(some 3), .mov (.tmp 0), none⟩,
 ⟨(some 4), .call (.val (.func (.func 59) [] [])) [(.tmp 3), (.val (.int .i64 (-4))), (.val (.int .i64 4))], none⟩,
 ⟨(some 2), .mov (.tmp 4), none⟩])
 (.ret))), [.tmp 2]⟩
def c90 : RFunc := ⟨13, .code (.seq (.region [⟨(some 2), .mov (.val (.bool false)), none⟩])
 (.seq (.region [⟨(some 3), .mov (.tmp 0), none⟩,
 ⟨(some 4), .eq true .ptr (.tmp 3) (.val .nptr), none⟩,
 ⟨(some 5), .mov (.tmp 4), none⟩,
 ⟨(some 6), .mov (.tmp 0), some (5, true)⟩,
 ⟨(some 7), .nilCheck (.tmp 6), some (5, true)⟩,
 ⟨(some 8), .fieldAddr 1 (.tmp 7), some (5, true)⟩,
 ⟨(some 9), .load none (.tmp 8), some (5, true)⟩,
 ⟨(some 10), .mov (.tmp 0), some (5, true)⟩,
 ⟨(some 11), .eq false .ptr (.tmp 9) (.tmp 10), some (5, true)⟩,
 ⟨(some 12), .pick (.tmp 5) (.tmp 11) (.val (.bool false)), none⟩,
 ⟨(some 2), .mov (.tmp 12), none⟩])
 (.ret))), [.tmp 2]⟩
def c91 : RFunc := ⟨35, .code (.seq (.region [⟨(some 2), .box 115 (.tmp 0), none⟩,
 ⟨(some 4), .mov (.val (.int .i64 0)), none⟩])
 (.seq (.region [⟨(some 8), .build [(.int .i64 0), (.int .i64 0), (.int .i64 0), (.int .i64 0)] [(0, 1, (.val (.int .i64 3))), (1, 1, (.val (.int .i64 0))), (2, 1, (.val (.int .i64 4))), (3, 1, (.val (.int .i64 1)))], none⟩,
 ⟨(some 5), .new 143 [(.int .i64 0), (.int .i64 0), (.int .i64 0), (.int .i64 0)], none⟩,
 ⟨none, .store 4 (.tmp 5) (.tmp 8), none⟩])
 (.seq (.region [⟨(some 9), .build [(.int .i64 0), (.int .i64 0), (.int .i64 0), (.int .i64 0)] [(0, 1, (.val (.int .i64 6))), (1, 1, (.val (.int .i64 2))), (2, 1, (.val (.int .i64 5))), (3, 1, (.val (.int .i64 1)))], none⟩,
 ⟨(some 6), .new 143 [(.int .i64 0), (.int .i64 0), (.int .i64 0), (.int .i64 0)], none⟩,
 ⟨none, .store 4 (.tmp 6) (.tmp 9), none⟩])
 (.seq (.region [⟨(some 10), .mov (.tmp 1), none⟩,
 ⟨(some 11), .bin .rem (.tmp 10) (.val (.int .i64 7)), none⟩,
 ⟨(some 7), .mov (.tmp 11), none⟩])
 (.seq (.block 0 (.seq (.region [⟨(some 13), .fieldAddr 0 (.tmp 2), none⟩,
 ⟨(some 14), .load none (.tmp 13), none⟩,
 ⟨(some 15), .bin .gtr (.tmp 14) (.val (.int .i64 0)), none⟩,
 ⟨(some 16), .mov (.tmp 15), none⟩,
 ⟨(some 17), .fieldAddr 0 (.tmp 2), some (16, true)⟩,
 ⟨(some 18), .load none (.tmp 17), some (16, true)⟩,
 ⟨(some 19), .sliceArr 4 1 (.tmp 5) none (some (.tmp 18)) none, some (16, true)⟩,
 ⟨(some 20), .mov (.tmp 7), some (16, true)⟩,
 ⟨(some 21), .call (.val (.func (.func 116) [] [])) [(.tmp 19), (.tmp 20)], some (16, true)⟩,
 ⟨(some 22), .pick (.tmp 16) (.tmp 21) (.val (.bool false)), none⟩,
 ⟨(some 12), .mov (.tmp 22), none⟩])
 (.cond (.tmp 12) (.seq (.region [⟨(some 4), .mov (.val (.int .i64 1)), none⟩])
 (.ret))
 (.seq (.region [⟨(some 24), .fieldAddr 0 (.tmp 2), none⟩,
 ⟨(some 25), .load none (.tmp 24), none⟩,
 ⟨(some 26), .bin .lss (.tmp 25) (.val (.int .i64 0)), none⟩,
 ⟨(some 27), .mov (.tmp 26), none⟩,
 ⟨(some 28), .fieldAddr 0 (.tmp 2), some (27, true)⟩,
 ⟨(some 29), .load none (.tmp 28), some (27, true)⟩,
 ⟨(some 30), .un .neg (.tmp 29), some (27, true)⟩,
 ⟨(some 31), .sliceArr 4 1 (.tmp 6) none (some (.tmp 30)) none, some (27, true)⟩,
 ⟨(some 32), .mov (.tmp 7), some (27, true)⟩,
 ⟨(some 33), .call (.val (.func (.func 116) [] [])) [(.tmp 31), (.tmp 32)], some (27, true)⟩,
 ⟨(some 34), .pick (.tmp 27) (.tmp 33) (.val (.bool false)), none⟩,
 ⟨(some 23), .mov (.tmp 34), none⟩])
 (.cond (.tmp 23) (.seq (.region [⟨(some 4), .mov (.val (.int .i64 (-1))), none⟩])
 (.ret))
 (.skip))))))
 (.seq (.region [⟨(some 4), .mov (.val (.int .i64 0)), none⟩])
 (.ret))))))), [.tmp 4]⟩
def c92 : RFunc := ⟨5, .code (.seq (.region [⟨(some 2), .mov (.val (.bool false)), none⟩])
 (.seq (.region [⟨(some 3), .mov (.tmp 0), none⟩,
 ⟨(some 4), .call (.val (.func (.func 59) [] [])) [(.tmp 3), (.val (.int .i64 0)), (.val (.int .i64 69))], none⟩,
 ⟨(some 2), .mov (.tmp 4), none⟩])
 (.ret))), [.tmp 2]⟩
def c93 : RFunc := ⟨5, .code (.seq (.region [⟨(some 2), .mov (.val (.bool false)), none⟩])
 (.seq (.region [⟨(some 3), .mov (.tmp 0), none⟩,
 ⟨(some 4), .call (.val (.func (.func 59) [] [])) [(.tmp 3), (.val (.int .i64 (-1))), (.val (.int .i64 1))], none⟩,
 ⟨(some 2), .mov (.tmp 4), none⟩])
 (.ret))), [.tmp 2]⟩
def c94 : RFunc := ⟨8, .code (.seq (.region [⟨(some 2), .mov (.val (.int .i64 0)), none⟩])
 (.seq (.seq (.region [⟨(some 3), .mov (.tmp 0), none⟩])
 (.block 0 (.seq (.region [⟨(some 5), .bin .eql (.tmp 3) (.val (.int .i64 1)), none⟩,
 ⟨(some 4), .mov (.tmp 5), none⟩])
 (.cond (.tmp 4) (.seq (.region [⟨(some 2), .mov (.val (.int .i64 1)), none⟩])
 (.ret))
 (.seq (.region [⟨(some 7), .bin .eql (.tmp 3) (.val (.int .i64 (-1))), none⟩,
 ⟨(some 6), .mov (.tmp 7), none⟩])
 (.cond (.tmp 6) (.seq (.region [⟨(some 2), .mov (.val (.int .i64 2)), none⟩])
 (.ret))
 (.skip)))))))
 (.seq (.region [⟨(some 2), .mov (.val (.int .i64 3)), none⟩])
 (.ret)))), [.tmp 2]⟩
def c95 : RFunc := ⟨5, .code (.seq (.region [⟨(some 2), .mov (.val (.bool false)), none⟩])
 (.seq (.region [⟨(some 3), .mov (.tmp 0), none⟩,
 ⟨(some 4), .call (.val (.func (.func 59) [] [])) [(.tmp 3), (.val (.int .i64 0)), (.val (.int .i64 3))], none⟩,
 ⟨(some 2), .mov (.tmp 4), none⟩])
 (.ret))), [.tmp 2]⟩
def c96 : RFunc := ⟨8, .code (.seq (.region [⟨(some 2), .mov (.val (.int .i64 0)), none⟩])
 (.seq (.seq (.region [⟨(some 3), .mov (.tmp 0), none⟩])
 (.block 0 (.seq (.region [⟨(some 5), .bin .eql (.tmp 3) (.val (.int .i64 1)), none⟩,
 ⟨(some 4), .mov (.tmp 5), none⟩])
 (.cond (.tmp 4) (.seq (.region [⟨(some 2), .mov (.val (.int .i64 1)), none⟩])
 (.ret))
 (.seq (.region [⟨(some 7), .bin .eql (.tmp 3) (.val (.int .i64 2)), none⟩,
 ⟨(some 6), .mov (.tmp 7), none⟩])
 (.cond (.tmp 6) (.seq (.region [⟨(some 2), .mov (.val (.int .i64 (-1))), none⟩])
 (.ret))
 (.skip)))))))
 (.seq (.region [⟨(some 2), .mov (.val (.int .i64 0)), none⟩])
 (.ret)))), [.tmp 2]⟩
def c97 : RFunc := ⟨11, .code (.seq (.region [⟨(some 1), .box 47 (.tmp 0), none⟩,
 ⟨(some 2), .mov (.val (.bool false)), none⟩])
 (.seq (.region [⟨(some 3), .fieldAddr 0 (.tmp 1), none⟩,
 ⟨(some 4), .load none (.tmp 3), none⟩,
 ⟨(some 5), .call (.val (.func (.func 59) [] [])) [(.tmp 4), (.val (.int .i64 (-200))), (.val (.int .i64 200))], none⟩,
 ⟨(some 6), .mov (.tmp 5), none⟩,
 ⟨(some 7), .fieldAddr 1 (.tmp 1), some (6, true)⟩,
 ⟨(some 8), .load none (.tmp 7), some (6, true)⟩,
 ⟨(some 9), .call (.val (.func (.func 59) [] [])) [(.tmp 8), (.val (.int .i64 (-200))), (.val (.int .i64 200))], some (6, true)⟩,
 ⟨(some 10), .pick (.tmp 6) (.tmp 9) (.val (.bool false)), none⟩,
 ⟨(some 2), .mov (.tmp 10), none⟩])
 (.ret))), [.tmp 2]⟩
def c98 : RFunc := ⟨10, .code (.seq (.region [⟨(some 1), .box 47 (.tmp 0), none⟩,
 ⟨(some 2), .new 47 [(.int .i64 0), (.int .i64 0)], none⟩])
 (.seq (.region [⟨(some 3), .fieldAddr 0 (.tmp 1), none⟩,
 ⟨(some 4), .load none (.tmp 3), none⟩,
 ⟨(some 5), .un .neg (.tmp 4), none⟩,
 ⟨(some 6), .fieldAddr 1 (.tmp 1), none⟩,
 ⟨(some 7), .load none (.tmp 6), none⟩,
 ⟨(some 8), .un .neg (.tmp 7), none⟩,
 ⟨(some 9), .build [(.int .i64 0), (.int .i64 0)] [(0, 1, (.tmp 5)), (1, 1, (.tmp 8))], none⟩,
 ⟨none, .store 2 (.tmp 2) (.tmp 9), none⟩])
 (.ret))), [.cell 2 (some 2)]⟩
def c99 : RFunc := ⟨10, .code (.seq (.region [⟨(some 0), .mov (.val .nmap), none⟩])
 (.seq (.region [⟨(some 1), .mapLit [((.agg [(.bool true), (.int .i64 (-1))]), (.str ⟨#[100]⟩)), ((.agg [(.bool true), (.int .i64 0)]), (.str ⟨#[80]⟩)), ((.agg [(.bool true), (.int .i64 1)]), (.str ⟨#[65]⟩)), ((.agg [(.bool false), (.int .i64 (-2))]), (.str ⟨#[100]⟩)), ((.agg [(.bool false), (.int .i64 (-1))]), (.str ⟨#[109]⟩)), ((.agg [(.bool false), (.int .i64 0)]), (.str ⟨#[77]⟩)), ((.agg [(.bool false), (.int .i64 1)]), (.str ⟨#[65]⟩))], none⟩,
 ⟨(some 2), .mov (.val (.agg [(.bool true), (.int .i64 (-1))])), none⟩,
 ⟨(some 3), .mov (.val (.agg [(.bool true), (.int .i64 0)])), none⟩,
 ⟨(some 4), .mov (.val (.agg [(.bool true), (.int .i64 1)])), none⟩,
 ⟨(some 5), .mov (.val (.agg [(.bool false), (.int .i64 (-2))])), none⟩,
 ⟨(some 6), .mov (.val (.agg [(.bool false), (.int .i64 (-1))])), none⟩,
 ⟨(some 7), .mov (.val (.agg [(.bool false), (.int .i64 0)])), none⟩,
 ⟨(some 8), .mov (.val (.agg [(.bool false), (.int .i64 1)])), none⟩,
 ⟨(some 9), .mov (.tmp 1), none⟩,
 ⟨(some 0), .mov (.tmp 1), none⟩])
 (.ret))), [.tmp 0]⟩
def c100 : RFunc := ⟨24, .code (.seq (.region [⟨(some 1), .box 47 (.tmp 0), none⟩,
 ⟨(some 2), .new 123 [(.bool false), (.int .i64 0)], none⟩])
 (.seq (.region [⟨(some 4), .fieldAddr 0 (.tmp 1), none⟩,
 ⟨(some 5), .load none (.tmp 4), none⟩,
 ⟨(some 6), .bin .rem (.tmp 5) (.val (.int .i64 7)), none⟩,
 ⟨(some 3), .mov (.tmp 6), none⟩])
 (.seq (.dregion [⟨⟨(some 7), .mov (.tmp 3), none⟩, 0, 0, true⟩,
 ⟨⟨(some 8), .bin .eql (.tmp 7) (.val (.int .i64 0)), none⟩, 1, 0, true⟩,
 ⟨⟨(some 9), .mov (.tmp 8), none⟩, 3, 0, true⟩,
 ⟨⟨(some 10), .mov (.tmp 3), some (9, false)⟩, 7, 0, true⟩,
 ⟨⟨(some 11), .bin .eql (.tmp 10) (.val (.int .i64 3)), some (9, false)⟩, 15, 0, true⟩,
 ⟨⟨(some 12), .pick (.tmp 9) (.val (.bool true)) (.tmp 11), none⟩, 31, 0, true⟩,
 ⟨⟨(some 13), .mov (.tmp 12), none⟩, 63, 0, true⟩,
 ⟨⟨(some 14), .mov (.tmp 3), some (13, false)⟩, 127, 0, true⟩,
 ⟨⟨(some 15), .bin .eql (.tmp 14) (.val (.int .i64 4)), some (13, false)⟩, 255, 0, true⟩,
 ⟨⟨(some 16), .pick (.tmp 13) (.val (.bool true)) (.tmp 15), none⟩, 511, 0, true⟩,
 ⟨⟨(some 17), .fieldAddr 1 (.tmp 1), none⟩, 0, 0, true⟩,
 ⟨⟨(some 18), .load none (.tmp 17), none⟩, 1024, 1, true⟩,
 ⟨⟨(some 19), .fieldAddr 0 (.tmp 1), none⟩, 0, 0, true⟩,
 ⟨⟨(some 20), .load none (.tmp 19), none⟩, 4096, 1, true⟩,
 ⟨⟨(some 21), .call (.val (.func (.func 64) [] [])) [(.tmp 20)], none⟩, 12415, 2, false⟩,
 ⟨⟨(some 22), .bin .sub (.tmp 18) (.tmp 21), none⟩, 31871, 0, false⟩,
 ⟨⟨(some 23), .build [(.bool false), (.int .i64 0)] [(0, 1, (.tmp 16)), (1, 1, (.tmp 22))], none⟩, 65535, 0, false⟩,
 ⟨⟨none, .store 2 (.tmp 2) (.tmp 23), none⟩, 131071, 2, false⟩])
 (.ret)))), [.cell 2 (some 2)]⟩
def c101 : RFunc := ⟨5, .code (.seq (.region [⟨(some 2), .mov (.val (.str ⟨#[]⟩)), none⟩])
 (.seq (.region [⟨(some 3), .mov (.tmp 0), none⟩,
 ⟨(some 4), .call (.val (.func (.func 117) [] [])) [(.tmp 3)], none⟩,
 ⟨(some 2), .mov (.tmp 4), none⟩])
 (.ret))), [.tmp 2]⟩
def c105 : RFunc := ⟨10, .code (.seq (.region [⟨(some 2), .mov (.val (.int .u64 0)), none⟩])
 (.seq (.seq (.region [⟨(some 3), .mov (.tmp 0), none⟩,
 ⟨(some 4), .bin .lss (.tmp 3) (.val (.int .i64 0)), none⟩])
 (.cond (.tmp 4) (.seq (.region [⟨(some 5), .mov (.tmp 0), none⟩,
 ⟨(some 6), .convInt .u64 (.tmp 5), none⟩,
 ⟨(some 7), .un .neg (.tmp 6), none⟩,
 ⟨(some 2), .mov (.tmp 7), none⟩])
 (.ret))
 (.skip)))
 (.seq (.region [⟨(some 8), .mov (.tmp 0), none⟩,
 ⟨(some 9), .convInt .u64 (.tmp 8), none⟩,
 ⟨(some 2), .mov (.tmp 9), none⟩])
 (.ret)))), [.tmp 2]⟩
def c106 : RFunc := ⟨12, .code (.seq (.region [⟨(some 4), .mov (.val (.int .u64 0)), none⟩])
 (.seq (.block 0 (.loop (.seq (.seq (.region [⟨(some 5), .mov (.tmp 1), none⟩,
 ⟨(some 6), .bin .neq (.tmp 5) (.val (.int .u64 0)), none⟩])
 (.cond (.tmp 6) (.skip)
 (.exit 0)))
 (.block 1 (.dregion [⟨⟨(some 7), .mov (.tmp 1), none⟩, 0, 0, true⟩,
 ⟨⟨(some 8), .mov (.tmp 0), none⟩, 0, 0, true⟩,
 ⟨⟨(some 9), .mov (.tmp 1), none⟩, 0, 0, true⟩,
 ⟨⟨(some 10), .bin .rem (.tmp 8) (.tmp 9), none⟩, 6, 0, true⟩,
 ⟨⟨(some 0), .mov (.tmp 7), none⟩, 3, 0, true⟩,
 ⟨⟨(some 1), .mov (.tmp 10), none⟩, 31, 0, true⟩])))))
 (.seq (.region [⟨(some 11), .mov (.tmp 0), none⟩,
 ⟨(some 4), .mov (.tmp 11), none⟩])
 (.ret)))), [.tmp 4]⟩
def c116 : RFunc := ⟨9, .code (.seq (.region [⟨(some 4), .mov (.val (.bool false)), none⟩])
 (.seq (.region [⟨(some 5), .mov (.tmp 0), none⟩,
 ⟨(some 6), .mov (.tmp 1), none⟩,
 ⟨(some 7), .call (.val (.func (.func 122) [] [])) [(.tmp 5), (.tmp 6)], none⟩,
 ⟨(some 8), .bin .geq (.tmp 7) (.val (.int .i64 0)), none⟩,
 ⟨(some 4), .mov (.tmp 8), none⟩])
 (.ret))), [.tmp 4]⟩
def c117 : RFunc := ⟨5, .code (.seq (.region [⟨(some 2), .mov (.val (.str ⟨#[]⟩)), none⟩])
 (.seq (.region [⟨(some 3), .mov (.tmp 0), none⟩,
 ⟨(some 4), .call (.val (.func (.func 123) [] [])) [(.tmp 3), (.val (.int .i64 10))], none⟩,
 ⟨(some 2), .mov (.tmp 4), none⟩])
 (.ret))), [.tmp 2]⟩
def c122 : RFunc := ⟨19, .code (.seq (.region [⟨(some 4), .mov (.val (.int .i64 0)), none⟩])
 (.seq (.seq (.region [⟨(some 6), .mov (.tmp 0), none⟩,
 ⟨(some 7), .lenS (.tmp 6), none⟩,
 ⟨(some 8), .mov (.val (.int .i64 0)), none⟩])
 (.block 0 (.loop (.seq (.region [⟨(some 9), .bin .lss (.tmp 8) (.tmp 7), none⟩])
 (.seq (.cond (.tmp 9) (.skip)
 (.exit 0))
 (.seq (.block 1 (.seq (.region [⟨(some 10), .mov (.tmp 8), none⟩,
 ⟨(some 5), .mov (.tmp 10), none⟩])
 (.seq (.region [⟨(some 11), .mov (.tmp 1), none⟩,
 ⟨(some 12), .mov (.tmp 0), none⟩,
 ⟨(some 13), .mov (.tmp 5), none⟩,
 ⟨(some 14), .idxS 1 (.tmp 12) (.tmp 13), none⟩,
 ⟨(some 15), .load none (.tmp 14), none⟩,
 ⟨(some 16), .bin .eql (.tmp 11) (.tmp 15), none⟩])
 (.cond (.tmp 16) (.seq (.region [⟨(some 17), .mov (.tmp 5), none⟩,
 ⟨(some 4), .mov (.tmp 17), none⟩])
 (.ret))
 (.skip)))))
 (.region [⟨(some 18), .bin .add (.tmp 8) (.val (.int .i64 1)), none⟩,
 ⟨(some 8), .mov (.tmp 18), none⟩])))))))
 (.seq (.region [⟨(some 4), .mov (.val (.int .i64 (-1))), none⟩])
 (.ret)))), [.tmp 4]⟩
def c123 : RFunc := ⟨54, .code (.seq (.region [⟨(some 4), .mov (.val (.str ⟨#[]⟩)), none⟩])
 (.seq (.seq (.region [⟨(some 10), .mov (.tmp 1), none⟩,
 ⟨(some 11), .bin .eql (.tmp 10) (.val (.int .i64 10)), none⟩])
 (.cond (.tmp 11) (.seq (.seq (.region [⟨(some 12), .mov (.tmp 0), none⟩,
 ⟨(some 13), .bin .leq (.val (.int .i64 0)) (.tmp 12), none⟩,
 ⟨(some 14), .mov (.tmp 13), none⟩,
 ⟨(some 15), .mov (.tmp 0), some (14, true)⟩,
 ⟨(some 16), .bin .lss (.tmp 15) (.val (.int .i64 100)), some (14, true)⟩,
 ⟨(some 17), .pick (.tmp 14) (.tmp 16) (.val (.bool false)), none⟩])
 (.cond (.tmp 17) (.seq (.region [⟨(some 18), .mov (.tmp 0), none⟩,
 ⟨(some 19), .call (.val (.func (.func 130) [] [])) [(.tmp 18)], none⟩,
 ⟨(some 4), .mov (.tmp 19), none⟩])
 (.ret))
 (.skip)))
 (.seq (.region [⟨(some 5), .new 155 [(.int .u8 0), (.int .u8 0), (.int .u8 0), (.int .u8 0), (.int .u8 0), (.int .u8 0), (.int .u8 0), (.int .u8 0), (.int .u8 0), (.int .u8 0), (.int .u8 0), (.int .u8 0), (.int .u8 0), (.int .u8 0), (.int .u8 0), (.int .u8 0), (.int .u8 0), (.int .u8 0), (.int .u8 0), (.int .u8 0), (.int .u8 0), (.int .u8 0), (.int .u8 0), (.int .u8 0)], none⟩])
 (.seq (.region [⟨(some 20), .mov (.tmp 0), none⟩,
 ⟨(some 21), .convInt .u64 (.tmp 20), none⟩,
 ⟨(some 6), .mov (.tmp 21), none⟩])
 (.seq (.seq (.region [⟨(some 22), .mov (.tmp 0), none⟩,
 ⟨(some 23), .bin .lss (.tmp 22) (.val (.int .i64 0)), none⟩])
 (.cond (.tmp 23) (.region [⟨(some 24), .mov (.tmp 6), none⟩,
 ⟨(some 25), .un .neg (.tmp 24), none⟩,
 ⟨(some 6), .mov (.tmp 25), none⟩])
 (.skip)))
 (.seq (.region [⟨(some 26), .mov (.tmp 6), none⟩,
 ⟨(some 27), .call (.val (.func (.func 131) [] [])) [(.tmp 26)], none⟩,
 ⟨(some 7), .mov (.tmp 27), none⟩])
 (.seq (.region [⟨(some 28), .mov (.tmp 7), none⟩,
 ⟨(some 29), .bin .add (.val (.int .i64 1)) (.tmp 28), none⟩,
 ⟨(some 30), .sliceArr 24 1 (.tmp 5) (some (.val (.int .i64 1))) (some (.tmp 29)) none, none⟩,
 ⟨(some 31), .mov (.tmp 6), none⟩,
 ⟨(some 32), .call (.val (.func (.func 132) [] [])) [(.tmp 30), (.tmp 31)], none⟩])
 (.seq (.seq (.region [⟨(some 33), .mov (.tmp 0), none⟩,
 ⟨(some 34), .bin .lss (.tmp 33) (.val (.int .i64 0)), none⟩])
 (.cond (.tmp 34) (.seq (.region [⟨(some 35), .idxA 24 1 (.tmp 5) (.val (.int .i64 0)), none⟩,
 ⟨none, .store 1 (.tmp 35) (.val (.int .u8 45)), none⟩])
 (.seq (.region [⟨(some 36), .mov (.tmp 7), none⟩,
 ⟨(some 37), .bin .add (.val (.int .i64 1)) (.tmp 36), none⟩,
 ⟨(some 38), .sliceArr 24 1 (.tmp 5) none (some (.tmp 37)) none, none⟩,
 ⟨(some 39), .bytesToStr (.tmp 38), none⟩,
 ⟨(some 4), .mov (.tmp 39), none⟩])
 (.ret)))
 (.skip)))
 (.seq (.region [⟨(some 40), .mov (.tmp 7), none⟩,
 ⟨(some 41), .bin .add (.val (.int .i64 1)) (.tmp 40), none⟩,
 ⟨(some 42), .sliceArr 24 1 (.tmp 5) (some (.val (.int .i64 1))) (some (.tmp 41)) none, none⟩,
 ⟨(some 43), .bytesToStr (.tmp 42), none⟩,
 ⟨(some 4), .mov (.tmp 43), none⟩])
 (.ret)))))))))
 (.skip)))
 (.seq (.region [⟨(some 45), .mov (.tmp 0), none⟩,
 ⟨(some 46), .convInt .u64 (.tmp 45), none⟩,
 ⟨(some 47), .mov (.tmp 1), none⟩,
 ⟨(some 48), .mov (.tmp 0), none⟩,
 ⟨(some 49), .bin .lss (.tmp 48) (.val (.int .i64 0)), none⟩,
 ⟨(some 50), .call (.val (.func (.func 133) [] [])) [(.val .nslice), (.tmp 46), (.tmp 47), (.tmp 49), (.val (.bool false))], none⟩,
 ⟨(some 44), .mov (.tmp 50), none⟩,
 ⟨(some 51), .extract (.tmp 44) 0, none⟩,
 ⟨(some 52), .extract (.tmp 44) 1, none⟩,
 ⟨(some 8), .mov (.tmp 51), none⟩,
 ⟨(some 9), .mov (.tmp 52), none⟩])
 (.seq (.region [⟨(some 53), .mov (.tmp 9), none⟩,
 ⟨(some 4), .mov (.tmp 53), none⟩])
 (.ret))))), [.tmp 4]⟩
def c130 : RFunc := ⟨15, .code (.seq (.region [⟨(some 2), .mov (.val (.str ⟨#[]⟩)), none⟩])
 (.seq (.seq (.region [⟨(some 3), .mov (.tmp 0), none⟩,
 ⟨(some 4), .bin .lss (.tmp 3) (.val (.int .i64 10)), none⟩])
 (.cond (.tmp 4) (.seq (.region [⟨(some 5), .mov (.tmp 0), none⟩,
 ⟨(some 6), .mov (.tmp 0), none⟩,
 ⟨(some 7), .bin .add (.tmp 6) (.val (.int .i64 1)), none⟩,
 ⟨(some 8), .sliceStr (.val (.str ⟨#[48, 49, 50, 51, 52, 53, 54, 55, 56, 57, 97, 98, 99, 100, 101, 102, 103, 104, 105, 106, 107, 108, 109, 110, 111, 112, 113, 114, 115, 116, 117, 118, 119, 120, 121, 122]⟩)) (some (.tmp 5)) (some (.tmp 7)), none⟩,
 ⟨(some 2), .mov (.tmp 8), none⟩])
 (.ret))
 (.skip)))
 (.seq (.region [⟨(some 9), .mov (.tmp 0), none⟩,
 ⟨(some 10), .bin .mul (.tmp 9) (.val (.int .i64 2)), none⟩,
 ⟨(some 11), .mov (.tmp 0), none⟩,
 ⟨(some 12), .bin .mul (.tmp 11) (.val (.int .i64 2)), none⟩,
 ⟨(some 13), .bin .add (.tmp 12) (.val (.int .i64 2)), none⟩,
 ⟨(some 14), .sliceStr (.val (.str ⟨#[48, 48, 48, 49, 48, 50, 48, 51, 48, 52, 48, 53, 48, 54, 48, 55, 48, 56, 48, 57, 49, 48, 49, 49, 49, 50, 49, 51, 49, 52, 49, 53, 49, 54, 49, 55, 49, 56, 49, 57, 50, 48, 50, 49, 50, 50, 50, 51, 50, 52, 50, 53, 50, 54, 50, 55, 50, 56, 50, 57, 51, 48, 51, 49, 51, 50, 51, 51, 51, 52, 51, 53, 51, 54, 51, 55, 51, 56, 51, 57, 52, 48, 52, 49, 52, 50, 52, 51, 52, 52, 52, 53, 52, 54, 52, 55, 52, 56, 52, 57, 53, 48, 53, 49, 53, 50, 53, 51, 53, 52, 53, 53, 53, 54, 53, 55, 53, 56, 53, 57, 54, 48, 54, 49, 54, 50, 54, 51, 54, 52, 54, 53, 54, 54, 54, 55, 54, 56, 54, 57, 55, 48, 55, 49, 55, 50, 55, 51, 55, 52, 55, 53, 55, 54, 55, 55, 55, 56, 55, 57, 56, 48, 56, 49, 56, 50, 56, 51, 56, 52, 56, 53, 56, 54, 56, 55, 56, 56, 56, 57, 57, 48, 57, 49, 57, 50, 57, 51, 57, 52, 57, 53, 57, 54, 57, 55, 57, 56, 57, 57]⟩)) (some (.tmp 10)) (some (.tmp 13)), none⟩,
 ⟨(some 2), .mov (.tmp 14), none⟩])
 (.ret)))), [.tmp 2]⟩
def c131 : RFunc := ⟨15, .code (.seq (.region [⟨(some 2), .mov (.val (.int .i64 0)), none⟩])
 (.seq (.region [⟨(some 4), .mov (.tmp 0), none⟩,
 ⟨(some 5), .call (.val (.func (.func 138) [] [])) [(.tmp 4)], none⟩,
 ⟨(some 6), .call (.val (.func (.func 137) [] [])) [(.tmp 5)], none⟩,
 ⟨(some 3), .mov (.tmp 6), none⟩])
 (.seq (.region [⟨(some 7), .mov (.tmp 3), none⟩,
 ⟨(some 8), .mov (.tmp 0), none⟩,
 ⟨(some 9), .mov (.tmp 3), none⟩,
 ⟨(some 10), .idxA 20 1 (.val (.ptr 3 0)) (.tmp 9), none⟩,
 ⟨(some 11), .load none (.tmp 10), none⟩,
 ⟨(some 12), .bin .geq (.tmp 8) (.tmp 11), none⟩,
 ⟨(some 13), .call (.val (.func (.func 139) [] [])) [(.tmp 12)], none⟩,
 ⟨(some 14), .bin .add (.tmp 7) (.tmp 13), none⟩,
 ⟨(some 2), .mov (.tmp 14), none⟩])
 (.ret)))), [.tmp 2]⟩
def c132 : RFunc := ⟨167, .code (.seq (.region [⟨(some 17), .mov (.tmp 0), none⟩,
 ⟨(some 18), .lenS (.tmp 17), none⟩,
 ⟨(some 4), .mov (.tmp 18), none⟩])
 (.seq (.block 0 (.loop (.seq (.seq (.region [⟨(some 19), .mov (.tmp 4), none⟩,
 ⟨(some 20), .bin .geq (.tmp 19) (.val (.int .i64 8)), none⟩])
 (.cond (.tmp 20) (.skip)
 (.exit 0)))
 (.block 1 (.seq (.region [⟨(some 21), .mov (.tmp 1), none⟩,
 ⟨(some 22), .bin .rem (.tmp 21) (.val (.int .u64 100000000)), none⟩,
 ⟨(some 23), .convInt .u32 (.tmp 22), none⟩,
 ⟨(some 5), .mov (.tmp 23), none⟩])
 (.seq (.region [⟨(some 24), .mov (.tmp 1), none⟩,
 ⟨(some 25), .bin .quo (.tmp 24) (.val (.int .u64 100000000)), none⟩,
 ⟨(some 1), .mov (.tmp 25), none⟩])
 (.seq (.region [⟨(some 26), .mov (.tmp 5), none⟩,
 ⟨(some 27), .bin .quo (.tmp 26) (.val (.int .u32 10000)), none⟩,
 ⟨(some 28), .mov (.tmp 5), none⟩,
 ⟨(some 29), .bin .rem (.tmp 28) (.val (.int .u32 10000)), none⟩,
 ⟨(some 6), .mov (.tmp 27), none⟩,
 ⟨(some 7), .mov (.tmp 29), none⟩])
 (.seq (.region [⟨(some 30), .mov (.tmp 7), none⟩,
 ⟨(some 31), .bin .quo (.tmp 30) (.val (.int .u32 100)), none⟩,
 ⟨(some 32), .bin .mul (.tmp 31) (.val (.int .u32 2)), none⟩,
 ⟨(some 33), .mov (.tmp 7), none⟩,
 ⟨(some 34), .bin .rem (.tmp 33) (.val (.int .u32 100)), none⟩,
 ⟨(some 35), .bin .mul (.tmp 34) (.val (.int .u32 2)), none⟩,
 ⟨(some 8), .mov (.tmp 32), none⟩,
 ⟨(some 9), .mov (.tmp 35), none⟩])
 (.seq (.region [⟨(some 36), .mov (.tmp 6), none⟩,
 ⟨(some 37), .bin .quo (.tmp 36) (.val (.int .u32 100)), none⟩,
 ⟨(some 38), .bin .mul (.tmp 37) (.val (.int .u32 2)), none⟩,
 ⟨(some 39), .mov (.tmp 6), none⟩,
 ⟨(some 40), .bin .rem (.tmp 39) (.val (.int .u32 100)), none⟩,
 ⟨(some 41), .bin .mul (.tmp 40) (.val (.int .u32 2)), none⟩,
 ⟨(some 10), .mov (.tmp 38), none⟩,
 ⟨(some 11), .mov (.tmp 41), none⟩])
 (.seq (.dregion [⟨⟨(some 42), .mov (.tmp 0), none⟩, 0, 0, true⟩,
 ⟨⟨(some 43), .mov (.tmp 4), none⟩, 0, 0, true⟩,
 ⟨⟨(some 44), .bin .sub (.tmp 43) (.val (.int .i64 1)), none⟩, 2, 0, true⟩,
 ⟨⟨(some 45), .mov (.tmp 0), none⟩, 0, 0, true⟩,
 ⟨⟨(some 46), .mov (.tmp 4), none⟩, 0, 0, true⟩,
 ⟨⟨(some 47), .bin .sub (.tmp 46) (.val (.int .i64 2)), none⟩, 16, 0, true⟩,
 ⟨⟨(some 48), .mov (.tmp 9), none⟩, 0, 0, true⟩,
 ⟨⟨(some 49), .bin .add (.tmp 48) (.val (.int .u32 1)), none⟩, 64, 0, true⟩,
 ⟨⟨(some 50), .indexStr (.val (.str ⟨#[48, 48, 48, 49, 48, 50, 48, 51, 48, 52, 48, 53, 48, 54, 48, 55, 48, 56, 48, 57, 49, 48, 49, 49, 49, 50, 49, 51, 49, 52, 49, 53, 49, 54, 49, 55, 49, 56, 49, 57, 50, 48, 50, 49, 50, 50, 50, 51, 50, 52, 50, 53, 50, 54, 50, 55, 50, 56, 50, 57, 51, 48, 51, 49, 51, 50, 51, 51, 51, 52, 51, 53, 51, 54, 51, 55, 51, 56, 51, 57, 52, 48, 52, 49, 52, 50, 52, 51, 52, 52, 52, 53, 52, 54, 52, 55, 52, 56, 52, 57, 53, 48, 53, 49, 53, 50, 53, 51, 53, 52, 53, 53, 53, 54, 53, 55, 53, 56, 53, 57, 54, 48, 54, 49, 54, 50, 54, 51, 54, 52, 54, 53, 54, 54, 54, 55, 54, 56, 54, 57, 55, 48, 55, 49, 55, 50, 55, 51, 55, 52, 55, 53, 55, 54, 55, 55, 55, 56, 55, 57, 56, 48, 56, 49, 56, 50, 56, 51, 56, 52, 56, 53, 56, 54, 56, 55, 56, 56, 56, 57, 57, 48, 57, 49, 57, 50, 57, 51, 57, 52, 57, 53, 57, 54, 57, 55, 57, 56, 57, 57]⟩)) (.tmp 49), none⟩, 192, 0, true⟩,
 ⟨⟨(some 51), .mov (.tmp 9), none⟩, 0, 0, true⟩,
 ⟨⟨(some 52), .indexStr (.val (.str ⟨#[48, 48, 48, 49, 48, 50, 48, 51, 48, 52, 48, 53, 48, 54, 48, 55, 48, 56, 48, 57, 49, 48, 49, 49, 49, 50, 49, 51, 49, 52, 49, 53, 49, 54, 49, 55, 49, 56, 49, 57, 50, 48, 50, 49, 50, 50, 50, 51, 50, 52, 50, 53, 50, 54, 50, 55, 50, 56, 50, 57, 51, 48, 51, 49, 51, 50, 51, 51, 51, 52, 51, 53, 51, 54, 51, 55, 51, 56, 51, 57, 52, 48, 52, 49, 52, 50, 52, 51, 52, 52, 52, 53, 52, 54, 52, 55, 52, 56, 52, 57, 53, 48, 53, 49, 53, 50, 53, 51, 53, 52, 53, 53, 53, 54, 53, 55, 53, 56, 53, 57, 54, 48, 54, 49, 54, 50, 54, 51, 54, 52, 54, 53, 54, 54, 54, 55, 54, 56, 54, 57, 55, 48, 55, 49, 55, 50, 55, 51, 55, 52, 55, 53, 55, 54, 55, 55, 55, 56, 55, 57, 56, 48, 56, 49, 56, 50, 56, 51, 56, 52, 56, 53, 56, 54, 56, 55, 56, 56, 56, 57, 57, 48, 57, 49, 57, 50, 57, 51, 57, 52, 57, 53, 57, 54, 57, 55, 57, 56, 57, 57]⟩)) (.tmp 51), none⟩, 512, 0, true⟩,
 ⟨⟨(some 53), .idxS 1 (.tmp 42) (.tmp 44), none⟩, 455, 0, true⟩,
 ⟨⟨none, .store 1 (.tmp 53) (.tmp 50), none⟩, 2503, 2, false⟩,
 ⟨⟨(some 54), .idxS 1 (.tmp 45) (.tmp 47), none⟩, 8191, 0, true⟩,
 ⟨⟨none, .store 1 (.tmp 54) (.tmp 52), none⟩, 16383, 2, false⟩])
 (.seq (.dregion [⟨⟨(some 55), .mov (.tmp 0), none⟩, 0, 0, true⟩,
 ⟨⟨(some 56), .mov (.tmp 4), none⟩, 0, 0, true⟩,
 ⟨⟨(some 57), .bin .sub (.tmp 56) (.val (.int .i64 3)), none⟩, 2, 0, true⟩,
 ⟨⟨(some 58), .mov (.tmp 0), none⟩, 0, 0, true⟩,
 ⟨⟨(some 59), .mov (.tmp 4), none⟩, 0, 0, true⟩,
 ⟨⟨(some 60), .bin .sub (.tmp 59) (.val (.int .i64 4)), none⟩, 16, 0, true⟩,
 ⟨⟨(some 61), .mov (.tmp 8), none⟩, 0, 0, true⟩,
 ⟨⟨(some 62), .bin .add (.tmp 61) (.val (.int .u32 1)), none⟩, 64, 0, true⟩,
 ⟨⟨(some 63), .indexStr (.val (.str ⟨#[48, 48, 48, 49, 48, 50, 48, 51, 48, 52, 48, 53, 48, 54, 48, 55, 48, 56, 48, 57, 49, 48, 49, 49, 49, 50, 49, 51, 49, 52, 49, 53, 49, 54, 49, 55, 49, 56, 49, 57, 50, 48, 50, 49, 50, 50, 50, 51, 50, 52, 50, 53, 50, 54, 50, 55, 50, 56, 50, 57, 51, 48, 51, 49, 51, 50, 51, 51, 51, 52, 51, 53, 51, 54, 51, 55, 51, 56, 51, 57, 52, 48, 52, 49, 52, 50, 52, 51, 52, 52, 52, 53, 52, 54, 52, 55, 52, 56, 52, 57, 53, 48, 53, 49, 53, 50, 53, 51, 53, 52, 53, 53, 53, 54, 53, 55, 53, 56, 53, 57, 54, 48, 54, 49, 54, 50, 54, 51, 54, 52, 54, 53, 54, 54, 54, 55, 54, 56, 54, 57, 55, 48, 55, 49, 55, 50, 55, 51, 55, 52, 55, 53, 55, 54, 55, 55, 55, 56, 55, 57, 56, 48, 56, 49, 56, 50, 56, 51, 56, 52, 56, 53, 56, 54, 56, 55, 56, 56, 56, 57, 57, 48, 57, 49, 57, 50, 57, 51, 57, 52, 57, 53, 57, 54, 57, 55, 57, 56, 57, 57]⟩)) (.tmp 62), none⟩, 192, 0, true⟩,
 ⟨⟨(some 64), .mov (.tmp 8), none⟩, 0, 0, true⟩,
 ⟨⟨(some 65), .indexStr (.val (.str ⟨#[48, 48, 48, 49, 48, 50, 48, 51, 48, 52, 48, 53, 48, 54, 48, 55, 48, 56, 48, 57, 49, 48, 49, 49, 49, 50, 49, 51, 49, 52, 49, 53, 49, 54, 49, 55, 49, 56, 49, 57, 50, 48, 50, 49, 50, 50, 50, 51, 50, 52, 50, 53, 50, 54, 50, 55, 50, 56, 50, 57, 51, 48, 51, 49, 51, 50, 51, 51, 51, 52, 51, 53, 51, 54, 51, 55, 51, 56, 51, 57, 52, 48, 52, 49, 52, 50, 52, 51, 52, 52, 52, 53, 52, 54, 52, 55, 52, 56, 52, 57, 53, 48, 53, 49, 53, 50, 53, 51, 53, 52, 53, 53, 53, 54, 53, 55, 53, 56, 53, 57, 54, 48, 54, 49, 54, 50, 54, 51, 54, 52, 54, 53, 54, 54, 54, 55, 54, 56, 54, 57, 55, 48, 55, 49, 55, 50, 55, 51, 55, 52, 55, 53, 55, 54, 55, 55, 55, 56, 55, 57, 56, 48, 56, 49, 56, 50, 56, 51, 56, 52, 56, 53, 56, 54, 56, 55, 56, 56, 56, 57, 57, 48, 57, 49, 57, 50, 57, 51, 57, 52, 57, 53, 57, 54, 57, 55, 57, 56, 57, 57]⟩)) (.tmp 64), none⟩, 512, 0, true⟩,
 ⟨⟨(some 66), .idxS 1 (.tmp 55) (.tmp 57), none⟩, 455, 0, true⟩,
 ⟨⟨none, .store 1 (.tmp 66) (.tmp 63), none⟩, 2503, 2, false⟩,
 ⟨⟨(some 67), .idxS 1 (.tmp 58) (.tmp 60), none⟩, 8191, 0, true⟩,
 ⟨⟨none, .store 1 (.tmp 67) (.tmp 65), none⟩, 16383, 2, false⟩])
 (.seq (.dregion [⟨⟨(some 68), .mov (.tmp 0), none⟩, 0, 0, true⟩,
 ⟨⟨(some 69), .mov (.tmp 4), none⟩, 0, 0, true⟩,
 ⟨⟨(some 70), .bin .sub (.tmp 69) (.val (.int .i64 5)), none⟩, 2, 0, true⟩,
 ⟨⟨(some 71), .mov (.tmp 0), none⟩, 0, 0, true⟩,
 ⟨⟨(some 72), .mov (.tmp 4), none⟩, 0, 0, true⟩,
 ⟨⟨(some 73), .bin .sub (.tmp 72) (.val (.int .i64 6)), none⟩, 16, 0, true⟩,
 ⟨⟨(some 74), .mov (.tmp 11), none⟩, 0, 0, true⟩,
 ⟨⟨(some 75), .bin .add (.tmp 74) (.val (.int .u32 1)), none⟩, 64, 0, true⟩,
 ⟨⟨(some 76), .indexStr (.val (.str ⟨#[48, 48, 48, 49, 48, 50, 48, 51, 48, 52, 48, 53, 48, 54, 48, 55, 48, 56, 48, 57, 49, 48, 49, 49, 49, 50, 49, 51, 49, 52, 49, 53, 49, 54, 49, 55, 49, 56, 49, 57, 50, 48, 50, 49, 50, 50, 50, 51, 50, 52, 50, 53, 50, 54, 50, 55, 50, 56, 50, 57, 51, 48, 51, 49, 51, 50, 51, 51, 51, 52, 51, 53, 51, 54, 51, 55, 51, 56, 51, 57, 52, 48, 52, 49, 52, 50, 52, 51, 52, 52, 52, 53, 52, 54, 52, 55, 52, 56, 52, 57, 53, 48, 53, 49, 53, 50, 53, 51, 53, 52, 53, 53, 53, 54, 53, 55, 53, 56, 53, 57, 54, 48, 54, 49, 54, 50, 54, 51, 54, 52, 54, 53, 54, 54, 54, 55, 54, 56, 54, 57, 55, 48, 55, 49, 55, 50, 55, 51, 55, 52, 55, 53, 55, 54, 55, 55, 55, 56, 55, 57, 56, 48, 56, 49, 56, 50, 56, 51, 56, 52, 56, 53, 56, 54, 56, 55, 56, 56, 56, 57, 57, 48, 57, 49, 57, 50, 57, 51, 57, 52, 57, 53, 57, 54, 57, 55, 57, 56, 57, 57]⟩)) (.tmp 75), none⟩, 192, 0, true⟩,
 ⟨⟨(some 77), .mov (.tmp 11), none⟩, 0, 0, true⟩,
 ⟨⟨(some 78), .indexStr (.val (.str ⟨#[48, 48, 48, 49, 48, 50, 48, 51, 48, 52, 48, 53, 48, 54, 48, 55, 48, 56, 48, 57, 49, 48, 49, 49, 49, 50, 49, 51, 49, 52, 49, 53, 49, 54, 49, 55, 49, 56, 49, 57, 50, 48, 50, 49, 50, 50, 50, 51, 50, 52, 50, 53, 50, 54, 50, 55, 50, 56, 50, 57, 51, 48, 51, 49, 51, 50, 51, 51, 51, 52, 51, 53, 51, 54, 51, 55, 51, 56, 51, 57, 52, 48, 52, 49, 52, 50, 52, 51, 52, 52, 52, 53, 52, 54, 52, 55, 52, 56, 52, 57, 53, 48, 53, 49, 53, 50, 53, 51, 53, 52, 53, 53, 53, 54, 53, 55, 53, 56, 53, 57, 54, 48, 54, 49, 54, 50, 54, 51, 54, 52, 54, 53, 54, 54, 54, 55, 54, 56, 54, 57, 55, 48, 55, 49, 55, 50, 55, 51, 55, 52, 55, 53, 55, 54, 55, 55, 55, 56, 55, 57, 56, 48, 56, 49, 56, 50, 56, 51, 56, 52, 56, 53, 56, 54, 56, 55, 56, 56, 56, 57, 57, 48, 57, 49, 57, 50, 57, 51, 57, 52, 57, 53, 57, 54, 57, 55, 57, 56, 57, 57]⟩)) (.tmp 77), none⟩, 512, 0, true⟩,
 ⟨⟨(some 79), .idxS 1 (.tmp 68) (.tmp 70), none⟩, 455, 0, true⟩,
 ⟨⟨none, .store 1 (.tmp 79) (.tmp 76), none⟩, 2503, 2, false⟩,
 ⟨⟨(some 80), .idxS 1 (.tmp 71) (.tmp 73), none⟩, 8191, 0, true⟩,
 ⟨⟨none, .store 1 (.tmp 80) (.tmp 78), none⟩, 16383, 2, false⟩])
 (.seq (.dregion [⟨⟨(some 81), .mov (.tmp 0), none⟩, 0, 0, true⟩,
 ⟨⟨(some 82), .mov (.tmp 4), none⟩, 0, 0, true⟩,
 ⟨⟨(some 83), .bin .sub (.tmp 82) (.val (.int .i64 7)), none⟩, 2, 0, true⟩,
 ⟨⟨(some 84), .mov (.tmp 0), none⟩, 0, 0, true⟩,
 ⟨⟨(some 85), .mov (.tmp 4), none⟩, 0, 0, true⟩,
 ⟨⟨(some 86), .bin .sub (.tmp 85) (.val (.int .i64 8)), none⟩, 16, 0, true⟩,
 ⟨⟨(some 87), .mov (.tmp 10), none⟩, 0, 0, true⟩,
 ⟨⟨(some 88), .bin .add (.tmp 87) (.val (.int .u32 1)), none⟩, 64, 0, true⟩,
 ⟨⟨(some 89), .indexStr (.val (.str ⟨#[48, 48, 48, 49, 48, 50, 48, 51, 48, 52, 48, 53, 48, 54, 48, 55, 48, 56, 48, 57, 49, 48, 49, 49, 49, 50, 49, 51, 49, 52, 49, 53, 49, 54, 49, 55, 49, 56, 49, 57, 50, 48, 50, 49, 50, 50, 50, 51, 50, 52, 50, 53, 50, 54, 50, 55, 50, 56, 50, 57, 51, 48, 51, 49, 51, 50, 51, 51, 51, 52, 51, 53, 51, 54, 51, 55, 51, 56, 51, 57, 52, 48, 52, 49, 52, 50, 52, 51, 52, 52, 52, 53, 52, 54, 52, 55, 52, 56, 52, 57, 53, 48, 53, 49, 53, 50, 53, 51, 53, 52, 53, 53, 53, 54, 53, 55, 53, 56, 53, 57, 54, 48, 54, 49, 54, 50, 54, 51, 54, 52, 54, 53, 54, 54, 54, 55, 54, 56, 54, 57, 55, 48, 55, 49, 55, 50, 55, 51, 55, 52, 55, 53, 55, 54, 55, 55, 55, 56, 55, 57, 56, 48, 56, 49, 56, 50, 56, 51, 56, 52, 56, 53, 56, 54, 56, 55, 56, 56, 56, 57, 57, 48, 57, 49, 57, 50, 57, 51, 57, 52, 57, 53, 57, 54, 57, 55, 57, 56, 57, 57]⟩)) (.tmp 88), none⟩, 192, 0, true⟩,
 ⟨⟨(some 90), .mov (.tmp 10), none⟩, 0, 0, true⟩,
 ⟨⟨(some 91), .indexStr (.val (.str ⟨#[48, 48, 48, 49, 48, 50, 48, 51, 48, 52, 48, 53, 48, 54, 48, 55, 48, 56, 48, 57, 49, 48, 49, 49, 49, 50, 49, 51, 49, 52, 49, 53, 49, 54, 49, 55, 49, 56, 49, 57, 50, 48, 50, 49, 50, 50, 50, 51, 50, 52, 50, 53, 50, 54, 50, 55, 50, 56, 50, 57, 51, 48, 51, 49, 51, 50, 51, 51, 51, 52, 51, 53, 51, 54, 51, 55, 51, 56, 51, 57, 52, 48, 52, 49, 52, 50, 52, 51, 52, 52, 52, 53, 52, 54, 52, 55, 52, 56, 52, 57, 53, 48, 53, 49, 53, 50, 53, 51, 53, 52, 53, 53, 53, 54, 53, 55, 53, 56, 53, 57, 54, 48, 54, 49, 54, 50, 54, 51, 54, 52, 54, 53, 54, 54, 54, 55, 54, 56, 54, 57, 55, 48, 55, 49, 55, 50, 55, 51, 55, 52, 55, 53, 55, 54, 55, 55, 55, 56, 55, 57, 56, 48, 56, 49, 56, 50, 56, 51, 56, 52, 56, 53, 56, 54, 56, 55, 56, 56, 56, 57, 57, 48, 57, 49, 57, 50, 57, 51, 57, 52, 57, 53, 57, 54, 57, 55, 57, 56, 57, 57]⟩)) (.tmp 90), none⟩, 512, 0, true⟩,
 ⟨⟨(some 92), .idxS 1 (.tmp 81) (.tmp 83), none⟩, 455, 0, true⟩,
 ⟨⟨none, .store 1 (.tmp 92) (.tmp 89), none⟩, 2503, 2, false⟩,
 ⟨⟨(some 93), .idxS 1 (.tmp 84) (.tmp 86), none⟩, 8191, 0, true⟩,
 ⟨⟨none, .store 1 (.tmp 93) (.tmp 91), none⟩, 16383, 2, false⟩])
 (.region [⟨(some 94), .mov (.tmp 4), none⟩,
 ⟨(some 95), .bin .sub (.tmp 94) (.val (.int .i64 8)), none⟩,
 ⟨(some 4), .mov (.tmp 95), none⟩]))))))))))))))
 (.seq (.region [⟨(some 96), .mov (.tmp 1), none⟩,
 ⟨(some 97), .convInt .u32 (.tmp 96), none⟩,
 ⟨(some 12), .mov (.tmp 97), none⟩])
 (.seq (.seq (.region [⟨(some 98), .mov (.tmp 4), none⟩,
 ⟨(some 99), .bin .geq (.tmp 98) (.val (.int .i64 4)), none⟩])
 (.cond (.tmp 99) (.seq (.region [⟨(some 100), .mov (.tmp 12), none⟩,
 ⟨(some 101), .bin .rem (.tmp 100) (.val (.int .u32 10000)), none⟩,
 ⟨(some 13), .mov (.tmp 101), none⟩])
 (.seq (.region [⟨(some 102), .mov (.tmp 12), none⟩,
 ⟨(some 103), .bin .quo (.tmp 102) (.val (.int .u32 10000)), none⟩,
 ⟨(some 12), .mov (.tmp 103), none⟩])
 (.seq (.region [⟨(some 104), .mov (.tmp 13), none⟩,
 ⟨(some 105), .bin .quo (.tmp 104) (.val (.int .u32 100)), none⟩,
 ⟨(some 106), .bin .mul (.tmp 105) (.val (.int .u32 2)), none⟩,
 ⟨(some 107), .mov (.tmp 13), none⟩,
 ⟨(some 108), .bin .rem (.tmp 107) (.val (.int .u32 100)), none⟩,
 ⟨(some 109), .bin .mul (.tmp 108) (.val (.int .u32 2)), none⟩,
 ⟨(some 14), .mov (.tmp 106), none⟩,
 ⟨(some 15), .mov (.tmp 109), none⟩])
 (.seq (.dregion [⟨⟨(some 110), .mov (.tmp 0), none⟩, 0, 0, true⟩,
 ⟨⟨(some 111), .mov (.tmp 4), none⟩, 0, 0, true⟩,
 ⟨⟨(some 112), .bin .sub (.tmp 111) (.val (.int .i64 1)), none⟩, 2, 0, true⟩,
 ⟨⟨(some 113), .mov (.tmp 0), none⟩, 0, 0, true⟩,
 ⟨⟨(some 114), .mov (.tmp 4), none⟩, 0, 0, true⟩,
 ⟨⟨(some 115), .bin .sub (.tmp 114) (.val (.int .i64 2)), none⟩, 16, 0, true⟩,
 ⟨⟨(some 116), .mov (.tmp 15), none⟩, 0, 0, true⟩,
 ⟨⟨(some 117), .bin .add (.tmp 116) (.val (.int .u32 1)), none⟩, 64, 0, true⟩,
 ⟨⟨(some 118), .indexStr (.val (.str ⟨#[48, 48, 48, 49, 48, 50, 48, 51, 48, 52, 48, 53, 48, 54, 48, 55, 48, 56, 48, 57, 49, 48, 49, 49, 49, 50, 49, 51, 49, 52, 49, 53, 49, 54, 49, 55, 49, 56, 49, 57, 50, 48, 50, 49, 50, 50, 50, 51, 50, 52, 50, 53, 50, 54, 50, 55, 50, 56, 50, 57, 51, 48, 51, 49, 51, 50, 51, 51, 51, 52, 51, 53, 51, 54, 51, 55, 51, 56, 51, 57, 52, 48, 52, 49, 52, 50, 52, 51, 52, 52, 52, 53, 52, 54, 52, 55, 52, 56, 52, 57, 53, 48, 53, 49, 53, 50, 53, 51, 53, 52, 53, 53, 53, 54, 53, 55, 53, 56, 53, 57, 54, 48, 54, 49, 54, 50, 54, 51, 54, 52, 54, 53, 54, 54, 54, 55, 54, 56, 54, 57, 55, 48, 55, 49, 55, 50, 55, 51, 55, 52, 55, 53, 55, 54, 55, 55, 55, 56, 55, 57, 56, 48, 56, 49, 56, 50, 56, 51, 56, 52, 56, 53, 56, 54, 56, 55, 56, 56, 56, 57, 57, 48, 57, 49, 57, 50, 57, 51, 57, 52, 57, 53, 57, 54, 57, 55, 57, 56, 57, 57]⟩)) (.tmp 117), none⟩, 192, 0, true⟩,
 ⟨⟨(some 119), .mov (.tmp 15), none⟩, 0, 0, true⟩,
 ⟨⟨(some 120), .indexStr (.val (.str ⟨#[48, 48, 48, 49, 48, 50, 48, 51, 48, 52, 48, 53, 48, 54, 48, 55, 48, 56, 48, 57, 49, 48, 49, 49, 49, 50, 49, 51, 49, 52, 49, 53, 49, 54, 49, 55, 49, 56, 49, 57, 50, 48, 50, 49, 50, 50, 50, 51, 50, 52, 50, 53, 50, 54, 50, 55, 50, 56, 50, 57, 51, 48, 51, 49, 51, 50, 51, 51, 51, 52, 51, 53, 51, 54, 51, 55, 51, 56, 51, 57, 52, 48, 52, 49, 52, 50, 52, 51, 52, 52, 52, 53, 52, 54, 52, 55, 52, 56, 52, 57, 53, 48, 53, 49, 53, 50, 53, 51, 53, 52, 53, 53, 53, 54, 53, 55, 53, 56, 53, 57, 54, 48, 54, 49, 54, 50, 54, 51, 54, 52, 54, 53, 54, 54, 54, 55, 54, 56, 54, 57, 55, 48, 55, 49, 55, 50, 55, 51, 55, 52, 55, 53, 55, 54, 55, 55, 55, 56, 55, 57, 56, 48, 56, 49, 56, 50, 56, 51, 56, 52, 56, 53, 56, 54, 56, 55, 56, 56, 56, 57, 57, 48, 57, 49, 57, 50, 57, 51, 57, 52, 57, 53, 57, 54, 57, 55, 57, 56, 57, 57]⟩)) (.tmp 119), none⟩, 512, 0, true⟩,
 ⟨⟨(some 121), .idxS 1 (.tmp 110) (.tmp 112), none⟩, 455, 0, true⟩,
 ⟨⟨none, .store 1 (.tmp 121) (.tmp 118), none⟩, 2503, 2, false⟩,
 ⟨⟨(some 122), .idxS 1 (.tmp 113) (.tmp 115), none⟩, 8191, 0, true⟩,
 ⟨⟨none, .store 1 (.tmp 122) (.tmp 120), none⟩, 16383, 2, false⟩])
 (.seq (.dregion [⟨⟨(some 123), .mov (.tmp 0), none⟩, 0, 0, true⟩,
 ⟨⟨(some 124), .mov (.tmp 4), none⟩, 0, 0, true⟩,
 ⟨⟨(some 125), .bin .sub (.tmp 124) (.val (.int .i64 3)), none⟩, 2, 0, true⟩,
 ⟨⟨(some 126), .mov (.tmp 0), none⟩, 0, 0, true⟩,
 ⟨⟨(some 127), .mov (.tmp 4), none⟩, 0, 0, true⟩,
 ⟨⟨(some 128), .bin .sub (.tmp 127) (.val (.int .i64 4)), none⟩, 16, 0, true⟩,
 ⟨⟨(some 129), .mov (.tmp 14), none⟩, 0, 0, true⟩,
 ⟨⟨(some 130), .bin .add (.tmp 129) (.val (.int .u32 1)), none⟩, 64, 0, true⟩,
 ⟨⟨(some 131), .indexStr (.val (.str ⟨#[48, 48, 48, 49, 48, 50, 48, 51, 48, 52, 48, 53, 48, 54, 48, 55, 48, 56, 48, 57, 49, 48, 49, 49, 49, 50, 49, 51, 49, 52, 49, 53, 49, 54, 49, 55, 49, 56, 49, 57, 50, 48, 50, 49, 50, 50, 50, 51, 50, 52, 50, 53, 50, 54, 50, 55, 50, 56, 50, 57, 51, 48, 51, 49, 51, 50, 51, 51, 51, 52, 51, 53, 51, 54, 51, 55, 51, 56, 51, 57, 52, 48, 52, 49, 52, 50, 52, 51, 52, 52, 52, 53, 52, 54, 52, 55, 52, 56, 52, 57, 53, 48, 53, 49, 53, 50, 53, 51, 53, 52, 53, 53, 53, 54, 53, 55, 53, 56, 53, 57, 54, 48, 54, 49, 54, 50, 54, 51, 54, 52, 54, 53, 54, 54, 54, 55, 54, 56, 54, 57, 55, 48, 55, 49, 55, 50, 55, 51, 55, 52, 55, 53, 55, 54, 55, 55, 55, 56, 55, 57, 56, 48, 56, 49, 56, 50, 56, 51, 56, 52, 56, 53, 56, 54, 56, 55, 56, 56, 56, 57, 57, 48, 57, 49, 57, 50, 57, 51, 57, 52, 57, 53, 57, 54, 57, 55, 57, 56, 57, 57]⟩)) (.tmp 130), none⟩, 192, 0, true⟩,
 ⟨⟨(some 132), .mov (.tmp 14), none⟩, 0, 0, true⟩,
 ⟨⟨(some 133), .indexStr (.val (.str ⟨#[48, 48, 48, 49, 48, 50, 48, 51, 48, 52, 48, 53, 48, 54, 48, 55, 48, 56, 48, 57, 49, 48, 49, 49, 49, 50, 49, 51, 49, 52, 49, 53, 49, 54, 49, 55, 49, 56, 49, 57, 50, 48, 50, 49, 50, 50, 50, 51, 50, 52, 50, 53, 50, 54, 50, 55, 50, 56, 50, 57, 51, 48, 51, 49, 51, 50, 51, 51, 51, 52, 51, 53, 51, 54, 51, 55, 51, 56, 51, 57, 52, 48, 52, 49, 52, 50, 52, 51, 52, 52, 52, 53, 52, 54, 52, 55, 52, 56, 52, 57, 53, 48, 53, 49, 53, 50, 53, 51, 53, 52, 53, 53, 53, 54, 53, 55, 53, 56, 53, 57, 54, 48, 54, 49, 54, 50, 54, 51, 54, 52, 54, 53, 54, 54, 54, 55, 54, 56, 54, 57, 55, 48, 55, 49, 55, 50, 55, 51, 55, 52, 55, 53, 55, 54, 55, 55, 55, 56, 55, 57, 56, 48, 56, 49, 56, 50, 56, 51, 56, 52, 56, 53, 56, 54, 56, 55, 56, 56, 56, 57, 57, 48, 57, 49, 57, 50, 57, 51, 57, 52, 57, 53, 57, 54, 57, 55, 57, 56, 57, 57]⟩)) (.tmp 132), none⟩, 512, 0, true⟩,
 ⟨⟨(some 134), .idxS 1 (.tmp 123) (.tmp 125), none⟩, 455, 0, true⟩,
 ⟨⟨none, .store 1 (.tmp 134) (.tmp 131), none⟩, 2503, 2, false⟩,
 ⟨⟨(some 135), .idxS 1 (.tmp 126) (.tmp 128), none⟩, 8191, 0, true⟩,
 ⟨⟨none, .store 1 (.tmp 135) (.tmp 133), none⟩, 16383, 2, false⟩])
 (.region [⟨(some 136), .mov (.tmp 4), none⟩,
 ⟨(some 137), .bin .sub (.tmp 136) (.val (.int .i64 4)), none⟩,
 ⟨(some 4), .mov (.tmp 137), none⟩]))))))
 (.skip)))
 (.seq (.seq (.region [⟨(some 138), .mov (.tmp 4), none⟩,
 ⟨(some 139), .bin .geq (.tmp 138) (.val (.int .i64 2)), none⟩])
 (.cond (.tmp 139) (.seq (.region [⟨(some 140), .mov (.tmp 12), none⟩,
 ⟨(some 141), .bin .rem (.tmp 140) (.val (.int .u32 100)), none⟩,
 ⟨(some 142), .bin .mul (.tmp 141) (.val (.int .u32 2)), none⟩,
 ⟨(some 16), .mov (.tmp 142), none⟩])
 (.seq (.region [⟨(some 143), .mov (.tmp 12), none⟩,
 ⟨(some 144), .bin .quo (.tmp 143) (.val (.int .u32 100)), none⟩,
 ⟨(some 12), .mov (.tmp 144), none⟩])
 (.seq (.dregion [⟨⟨(some 145), .mov (.tmp 0), none⟩, 0, 0, true⟩,
 ⟨⟨(some 146), .mov (.tmp 4), none⟩, 0, 0, true⟩,
 ⟨⟨(some 147), .bin .sub (.tmp 146) (.val (.int .i64 1)), none⟩, 2, 0, true⟩,
 ⟨⟨(some 148), .mov (.tmp 0), none⟩, 0, 0, true⟩,
 ⟨⟨(some 149), .mov (.tmp 4), none⟩, 0, 0, true⟩,
 ⟨⟨(some 150), .bin .sub (.tmp 149) (.val (.int .i64 2)), none⟩, 16, 0, true⟩,
 ⟨⟨(some 151), .mov (.tmp 16), none⟩, 0, 0, true⟩,
 ⟨⟨(some 152), .bin .add (.tmp 151) (.val (.int .u32 1)), none⟩, 64, 0, true⟩,
 ⟨⟨(some 153), .indexStr (.val (.str ⟨#[48, 48, 48, 49, 48, 50, 48, 51, 48, 52, 48, 53, 48, 54, 48, 55, 48, 56, 48, 57, 49, 48, 49, 49, 49, 50, 49, 51, 49, 52, 49, 53, 49, 54, 49, 55, 49, 56, 49, 57, 50, 48, 50, 49, 50, 50, 50, 51, 50, 52, 50, 53, 50, 54, 50, 55, 50, 56, 50, 57, 51, 48, 51, 49, 51, 50, 51, 51, 51, 52, 51, 53, 51, 54, 51, 55, 51, 56, 51, 57, 52, 48, 52, 49, 52, 50, 52, 51, 52, 52, 52, 53, 52, 54, 52, 55, 52, 56, 52, 57, 53, 48, 53, 49, 53, 50, 53, 51, 53, 52, 53, 53, 53, 54, 53, 55, 53, 56, 53, 57, 54, 48, 54, 49, 54, 50, 54, 51, 54, 52, 54, 53, 54, 54, 54, 55, 54, 56, 54, 57, 55, 48, 55, 49, 55, 50, 55, 51, 55, 52, 55, 53, 55, 54, 55, 55, 55, 56, 55, 57, 56, 48, 56, 49, 56, 50, 56, 51, 56, 52, 56, 53, 56, 54, 56, 55, 56, 56, 56, 57, 57, 48, 57, 49, 57, 50, 57, 51, 57, 52, 57, 53, 57, 54, 57, 55, 57, 56, 57, 57]⟩)) (.tmp 152), none⟩, 192, 0, true⟩,
 ⟨⟨(some 154), .mov (.tmp 16), none⟩, 0, 0, true⟩,
 ⟨⟨(some 155), .indexStr (.val (.str ⟨#[48, 48, 48, 49, 48, 50, 48, 51, 48, 52, 48, 53, 48, 54, 48, 55, 48, 56, 48, 57, 49, 48, 49, 49, 49, 50, 49, 51, 49, 52, 49, 53, 49, 54, 49, 55, 49, 56, 49, 57, 50, 48, 50, 49, 50, 50, 50, 51, 50, 52, 50, 53, 50, 54, 50, 55, 50, 56, 50, 57, 51, 48, 51, 49, 51, 50, 51, 51, 51, 52, 51, 53, 51, 54, 51, 55, 51, 56, 51, 57, 52, 48, 52, 49, 52, 50, 52, 51, 52, 52, 52, 53, 52, 54, 52, 55, 52, 56, 52, 57, 53, 48, 53, 49, 53, 50, 53, 51, 53, 52, 53, 53, 53, 54, 53, 55, 53, 56, 53, 57, 54, 48, 54, 49, 54, 50, 54, 51, 54, 52, 54, 53, 54, 54, 54, 55, 54, 56, 54, 57, 55, 48, 55, 49, 55, 50, 55, 51, 55, 52, 55, 53, 55, 54, 55, 55, 55, 56, 55, 57, 56, 48, 56, 49, 56, 50, 56, 51, 56, 52, 56, 53, 56, 54, 56, 55, 56, 56, 56, 57, 57, 48, 57, 49, 57, 50, 57, 51, 57, 52, 57, 53, 57, 54, 57, 55, 57, 56, 57, 57]⟩)) (.tmp 154), none⟩, 512, 0, true⟩,
 ⟨⟨(some 156), .idxS 1 (.tmp 145) (.tmp 147), none⟩, 455, 0, true⟩,
 ⟨⟨none, .store 1 (.tmp 156) (.tmp 153), none⟩, 2503, 2, false⟩,
 ⟨⟨(some 157), .idxS 1 (.tmp 148) (.tmp 150), none⟩, 8191, 0, true⟩,
 ⟨⟨none, .store 1 (.tmp 157) (.tmp 155), none⟩, 16383, 2, false⟩])
 (.region [⟨(some 158), .mov (.tmp 4), none⟩,
 ⟨(some 159), .bin .sub (.tmp 158) (.val (.int .i64 2)), none⟩,
 ⟨(some 4), .mov (.tmp 159), none⟩]))))
 (.skip)))
 (.seq (.region [⟨(some 160), .mov (.tmp 4), none⟩,
 ⟨(some 161), .bin .gtr (.tmp 160) (.val (.int .i64 0)), none⟩])
 (.cond (.tmp 161) (.region [⟨(some 162), .mov (.tmp 0), none⟩,
 ⟨(some 163), .mov (.tmp 12), none⟩,
 ⟨(some 164), .bin .add (.val (.int .u32 48)) (.tmp 163), none⟩,
 ⟨(some 165), .convInt .u8 (.tmp 164), none⟩,
 ⟨(some 166), .idxS 1 (.tmp 162) (.val (.int .i64 0)), none⟩,
 ⟨none, .store 1 (.tmp 166) (.tmp 165), none⟩])
 (.skip)))))))), []⟩
def c133 : RFunc := ⟨102, .code (.seq (.region [⟨(some 10), .mov (.val .nslice), none⟩,
 ⟨(some 11), .mov (.val (.str ⟨#[]⟩)), none⟩])
 (.seq (.seq (.region [⟨(some 19), .mov (.tmp 2), none⟩,
 ⟨(some 20), .bin .lss (.tmp 19) (.val (.int .i64 2)), none⟩,
 ⟨(some 21), .mov (.tmp 20), none⟩,
 ⟨(some 22), .mov (.tmp 2), some (21, false)⟩,
 ⟨(some 23), .bin .eql (.tmp 22) (.val (.int .i64 10)), some (21, false)⟩,
 ⟨(some 24), .pick (.tmp 21) (.val (.bool true)) (.tmp 23), none⟩,
 ⟨(some 25), .mov (.tmp 24), none⟩,
 ⟨(some 26), .mov (.tmp 2), some (25, false)⟩,
 ⟨(some 27), .bin .gtr (.tmp 26) (.val (.int .i64 36)), some (25, false)⟩,
 ⟨(some 28), .pick (.tmp 25) (.val (.bool true)) (.tmp 27), none⟩])
 (.cond (.tmp 28) (.fail)
 (.skip)))
 (.seq (.region [⟨(some 12), .new 169 [(.int .u8 0), (.int .u8 0), (.int .u8 0), (.int .u8 0), (.int .u8 0), (.int .u8 0), (.int .u8 0), (.int .u8 0), (.int .u8 0), (.int .u8 0), (.int .u8 0), (.int .u8 0), (.int .u8 0), (.int .u8 0), (.int .u8 0), (.int .u8 0), (.int .u8 0), (.int .u8 0), (.int .u8 0), (.int .u8 0), (.int .u8 0), (.int .u8 0), (.int .u8 0), (.int .u8 0), (.int .u8 0), (.int .u8 0), (.int .u8 0), (.int .u8 0), (.int .u8 0), (.int .u8 0), (.int .u8 0), (.int .u8 0), (.int .u8 0), (.int .u8 0), (.int .u8 0), (.int .u8 0), (.int .u8 0), (.int .u8 0), (.int .u8 0), (.int .u8 0), (.int .u8 0), (.int .u8 0), (.int .u8 0), (.int .u8 0), (.int .u8 0), (.int .u8 0), (.int .u8 0), (.int .u8 0), (.int .u8 0), (.int .u8 0), (.int .u8 0), (.int .u8 0), (.int .u8 0), (.int .u8 0), (.int .u8 0), (.int .u8 0), (.int .u8 0), (.int .u8 0), (.int .u8 0), (.int .u8 0), (.int .u8 0), (.int .u8 0), (.int .u8 0), (.int .u8 0), (.int .u8 0)], none⟩])
 (.seq (.region [⟨(some 13), .mov (.val (.int .i64 65)), none⟩])
 (.seq (.seq (.region [⟨(some 30), .mov (.tmp 3), none⟩])
 (.cond (.tmp 30) (.region [⟨(some 31), .mov (.tmp 1), none⟩,
 ⟨(some 32), .un .neg (.tmp 31), none⟩,
 ⟨(some 1), .mov (.tmp 32), none⟩])
 (.skip)))
 (.seq (.seq (.region [⟨(some 33), .mov (.tmp 2), none⟩,
 ⟨(some 34), .call (.val (.func (.func 140) [] [])) [(.tmp 33)], none⟩])
 (.cond (.tmp 34) (.seq (.region [⟨(some 35), .mov (.tmp 2), none⟩,
 ⟨(some 36), .convInt .u64 (.tmp 35), none⟩,
 ⟨(some 37), .call (.val (.func (.func 141) [] [])) [(.tmp 36)], none⟩,
 ⟨(some 38), .convInt .u64 (.tmp 37), none⟩,
 ⟨(some 14), .mov (.tmp 38), none⟩])
 (.seq (.region [⟨(some 39), .mov (.tmp 2), none⟩,
 ⟨(some 40), .convInt .u64 (.tmp 39), none⟩,
 ⟨(some 15), .mov (.tmp 40), none⟩])
 (.seq (.region [⟨(some 41), .mov (.tmp 2), none⟩,
 ⟨(some 42), .convInt .u64 (.tmp 41), none⟩,
 ⟨(some 43), .bin .sub (.tmp 42) (.val (.int .u64 1)), none⟩,
 ⟨(some 16), .mov (.tmp 43), none⟩])
 (.seq (.block 0 (.loop (.seq (.seq (.region [⟨(some 44), .mov (.tmp 1), none⟩,
 ⟨(some 45), .mov (.tmp 15), none⟩,
 ⟨(some 46), .bin .geq (.tmp 44) (.tmp 45), none⟩])
 (.cond (.tmp 46) (.skip)
 (.exit 0)))
 (.block 1 (.seq (.region [⟨(some 47), .mov (.tmp 13), none⟩,
 ⟨(some 48), .bin .sub (.tmp 47) (.val (.int .i64 1)), none⟩,
 ⟨(some 13), .mov (.tmp 48), none⟩])
 (.seq (.region [⟨(some 49), .mov (.tmp 13), none⟩,
 ⟨(some 50), .mov (.tmp 1), none⟩,
 ⟨(some 51), .mov (.tmp 16), none⟩,
 ⟨(some 52), .bin .and (.tmp 50) (.tmp 51), none⟩,
 ⟨(some 53), .indexStr (.val (.str ⟨#[48, 49, 50, 51, 52, 53, 54, 55, 56, 57, 97, 98, 99, 100, 101, 102, 103, 104, 105, 106, 107, 108, 109, 110, 111, 112, 113, 114, 115, 116, 117, 118, 119, 120, 121, 122]⟩)) (.tmp 52), none⟩,
 ⟨(some 54), .idxA 65 1 (.tmp 12) (.tmp 49), none⟩,
 ⟨none, .store 1 (.tmp 54) (.tmp 53), none⟩])
 (.region [⟨(some 55), .mov (.tmp 1), none⟩,
 ⟨(some 56), .mov (.tmp 14), none⟩,
 ⟨(some 57), .bin .shr (.tmp 55) (.tmp 56), none⟩,
 ⟨(some 1), .mov (.tmp 57), none⟩])))))))
 (.seq (.region [⟨(some 58), .mov (.tmp 13), none⟩,
 ⟨(some 59), .bin .sub (.tmp 58) (.val (.int .i64 1)), none⟩,
 ⟨(some 13), .mov (.tmp 59), none⟩])
 (.region [⟨(some 60), .mov (.tmp 13), none⟩,
 ⟨(some 61), .mov (.tmp 1), none⟩,
 ⟨(some 62), .indexStr (.val (.str ⟨#[48, 49, 50, 51, 52, 53, 54, 55, 56, 57, 97, 98, 99, 100, 101, 102, 103, 104, 105, 106, 107, 108, 109, 110, 111, 112, 113, 114, 115, 116, 117, 118, 119, 120, 121, 122]⟩)) (.tmp 61), none⟩,
 ⟨(some 63), .idxA 65 1 (.tmp 12) (.tmp 60), none⟩,
 ⟨none, .store 1 (.tmp 63) (.tmp 62), none⟩]))))))
 (.seq (.region [⟨(some 64), .mov (.tmp 2), none⟩,
 ⟨(some 65), .convInt .u64 (.tmp 64), none⟩,
 ⟨(some 17), .mov (.tmp 65), none⟩])
 (.seq (.block 2 (.loop (.seq (.seq (.region [⟨(some 66), .mov (.tmp 1), none⟩,
 ⟨(some 67), .mov (.tmp 17), none⟩,
 ⟨(some 68), .bin .geq (.tmp 66) (.tmp 67), none⟩])
 (.cond (.tmp 68) (.skip)
 (.exit 2)))
 (.block 3 (.seq (.region [⟨(some 69), .mov (.tmp 13), none⟩,
 ⟨(some 70), .bin .sub (.tmp 69) (.val (.int .i64 1)), none⟩,
 ⟨(some 13), .mov (.tmp 70), none⟩])
 (.seq (.region [⟨(some 71), .mov (.tmp 1), none⟩,
 ⟨(some 72), .mov (.tmp 17), none⟩,
 ⟨(some 73), .bin .quo (.tmp 71) (.tmp 72), none⟩,
 ⟨(some 18), .mov (.tmp 73), none⟩])
 (.seq (.region [⟨(some 74), .mov (.tmp 13), none⟩,
 ⟨(some 75), .mov (.tmp 1), none⟩,
 ⟨(some 76), .mov (.tmp 18), none⟩,
 ⟨(some 77), .mov (.tmp 17), none⟩,
 ⟨(some 78), .bin .mul (.tmp 76) (.tmp 77), none⟩,
 ⟨(some 79), .bin .sub (.tmp 75) (.tmp 78), none⟩,
 ⟨(some 80), .indexStr (.val (.str ⟨#[48, 49, 50, 51, 52, 53, 54, 55, 56, 57, 97, 98, 99, 100, 101, 102, 103, 104, 105, 106, 107, 108, 109, 110, 111, 112, 113, 114, 115, 116, 117, 118, 119, 120, 121, 122]⟩)) (.tmp 79), none⟩,
 ⟨(some 81), .idxA 65 1 (.tmp 12) (.tmp 74), none⟩,
 ⟨none, .store 1 (.tmp 81) (.tmp 80), none⟩])
 (.region [⟨(some 82), .mov (.tmp 18), none⟩,
 ⟨(some 1), .mov (.tmp 82), none⟩]))))))))
 (.seq (.region [⟨(some 83), .mov (.tmp 13), none⟩,
 ⟨(some 84), .bin .sub (.tmp 83) (.val (.int .i64 1)), none⟩,
 ⟨(some 13), .mov (.tmp 84), none⟩])
 (.region [⟨(some 85), .mov (.tmp 13), none⟩,
 ⟨(some 86), .mov (.tmp 1), none⟩,
 ⟨(some 87), .indexStr (.val (.str ⟨#[48, 49, 50, 51, 52, 53, 54, 55, 56, 57, 97, 98, 99, 100, 101, 102, 103, 104, 105, 106, 107, 108, 109, 110, 111, 112, 113, 114, 115, 116, 117, 118, 119, 120, 121, 122]⟩)) (.tmp 86), none⟩,
 ⟨(some 88), .idxA 65 1 (.tmp 12) (.tmp 85), none⟩,
 ⟨none, .store 1 (.tmp 88) (.tmp 87), none⟩]))))))
 (.seq (.seq (.region [⟨(some 89), .mov (.tmp 3), none⟩])
 (.cond (.tmp 89) (.seq (.region [⟨(some 90), .mov (.tmp 13), none⟩,
 ⟨(some 91), .bin .sub (.tmp 90) (.val (.int .i64 1)), none⟩,
 ⟨(some 13), .mov (.tmp 91), none⟩])
 (.region [⟨(some 92), .mov (.tmp 13), none⟩,
 ⟨(some 93), .idxA 65 1 (.tmp 12) (.tmp 92), none⟩,
 ⟨none, .store 1 (.tmp 93) (.val (.int .u8 45)), none⟩]))
 (.skip)))
 (.seq (.seq (.region [⟨(some 94), .mov (.tmp 4), none⟩])
 (.cond (.tmp 94) (.seq (.region [⟨(some 95), .mov (.tmp 0), none⟩,
 ⟨(some 96), .mov (.tmp 13), none⟩,
 ⟨(some 97), .sliceArr 65 1 (.tmp 12) (some (.tmp 96)) none none, none⟩,
 ⟨(some 98), .append 5 1 1 (.tmp 95) (.tmp 97), none⟩,
 ⟨(some 10), .mov (.tmp 98), none⟩])
 (.ret))
 (.skip)))
 (.seq (.region [⟨(some 99), .mov (.tmp 13), none⟩,
 ⟨(some 100), .sliceArr 65 1 (.tmp 12) (some (.tmp 99)) none none, none⟩,
 ⟨(some 101), .bytesToStr (.tmp 100), none⟩,
 ⟨(some 11), .mov (.tmp 101), none⟩])
 (.ret)))))))))), [.tmp 10, .tmp 11]⟩
def c137 : RFunc := ⟨6, .code (.seq (.region [⟨(some 2), .mov (.val (.int .i64 0)), none⟩])
 (.seq (.region [⟨(some 3), .mov (.tmp 0), none⟩,
 ⟨(some 4), .bin .mul (.tmp 3) (.val (.int .i64 78913)), none⟩,
 ⟨(some 5), .bin .shr (.tmp 4) (.val (.int .u64 18)), none⟩,
 ⟨(some 2), .mov (.tmp 5), none⟩])
 (.ret))), [.tmp 2]⟩
def c138 : RFunc := ⟨25, .code (.seq (.region [⟨(some 2), .mov (.val (.int .i64 0)), none⟩])
 (.seq (.seq (.region [⟨(some 3), .mov (.tmp 0), none⟩,
 ⟨(some 4), .bin .geq (.tmp 3) (.val (.int .u64 4294967296)), none⟩])
 (.cond (.tmp 4) (.seq (.region [⟨(some 5), .mov (.tmp 0), none⟩,
 ⟨(some 6), .bin .shr (.tmp 5) (.val (.int .u64 32)), none⟩,
 ⟨(some 0), .mov (.tmp 6), none⟩])
 (.region [⟨(some 2), .mov (.val (.int .i64 32)), none⟩]))
 (.skip)))
 (.seq (.seq (.region [⟨(some 7), .mov (.tmp 0), none⟩,
 ⟨(some 8), .bin .geq (.tmp 7) (.val (.int .u64 65536)), none⟩])
 (.cond (.tmp 8) (.seq (.region [⟨(some 9), .mov (.tmp 0), none⟩,
 ⟨(some 10), .bin .shr (.tmp 9) (.val (.int .u64 16)), none⟩,
 ⟨(some 0), .mov (.tmp 10), none⟩])
 (.region [⟨(some 11), .mov (.tmp 2), none⟩,
 ⟨(some 12), .bin .add (.tmp 11) (.val (.int .i64 16)), none⟩,
 ⟨(some 2), .mov (.tmp 12), none⟩]))
 (.skip)))
 (.seq (.seq (.region [⟨(some 13), .mov (.tmp 0), none⟩,
 ⟨(some 14), .bin .geq (.tmp 13) (.val (.int .u64 256)), none⟩])
 (.cond (.tmp 14) (.seq (.region [⟨(some 15), .mov (.tmp 0), none⟩,
 ⟨(some 16), .bin .shr (.tmp 15) (.val (.int .u64 8)), none⟩,
 ⟨(some 0), .mov (.tmp 16), none⟩])
 (.region [⟨(some 17), .mov (.tmp 2), none⟩,
 ⟨(some 18), .bin .add (.tmp 17) (.val (.int .i64 8)), none⟩,
 ⟨(some 2), .mov (.tmp 18), none⟩]))
 (.skip)))
 (.seq (.region [⟨(some 19), .mov (.tmp 2), none⟩,
 ⟨(some 20), .mov (.tmp 0), none⟩,
 ⟨(some 21), .convInt .u8 (.tmp 20), none⟩,
 ⟨(some 22), .indexStr (.val (.str ⟨#[0, 1, 2, 2, 3, 3, 3, 3, 4, 4, 4, 4, 4, 4, 4, 4, 5, 5, 5, 5, 5, 5, 5, 5, 5, 5, 5, 5, 5, 5, 5, 5, 6, 6, 6, 6, 6, 6, 6, 6, 6, 6, 6, 6, 6, 6, 6, 6, 6, 6, 6, 6, 6, 6, 6, 6, 6, 6, 6, 6, 6, 6, 6, 6, 7, 7, 7, 7, 7, 7, 7, 7, 7, 7, 7, 7, 7, 7, 7, 7, 7, 7, 7, 7, 7, 7, 7, 7, 7, 7, 7, 7, 7, 7, 7, 7, 7, 7, 7, 7, 7, 7, 7, 7, 7, 7, 7, 7, 7, 7, 7, 7, 7, 7, 7, 7, 7, 7, 7, 7, 7, 7, 7, 7, 7, 7, 7, 7, 8, 8, 8, 8, 8, 8, 8, 8, 8, 8, 8, 8, 8, 8, 8, 8, 8, 8, 8, 8, 8, 8, 8, 8, 8, 8, 8, 8, 8, 8, 8, 8, 8, 8, 8, 8, 8, 8, 8, 8, 8, 8, 8, 8, 8, 8, 8, 8, 8, 8, 8, 8, 8, 8, 8, 8, 8, 8, 8, 8, 8, 8, 8, 8, 8, 8, 8, 8, 8, 8, 8, 8, 8, 8, 8, 8, 8, 8, 8, 8, 8, 8, 8, 8, 8, 8, 8, 8, 8, 8, 8, 8, 8, 8, 8, 8, 8, 8, 8, 8, 8, 8, 8, 8, 8, 8, 8, 8, 8, 8, 8, 8, 8, 8, 8, 8, 8, 8, 8, 8, 8, 8, 8, 8, 8, 8, 8, 8]⟩)) (.tmp 21), none⟩,
 ⟨(some 23), .convInt .i64 (.tmp 22), none⟩,
 ⟨(some 24), .bin .add (.tmp 19) (.tmp 23), none⟩,
 ⟨(some 2), .mov (.tmp 24), none⟩])
 (.ret)))))), [.tmp 2]⟩
def c139 : RFunc := ⟨4, .code (.seq (.region [⟨(some 2), .mov (.val (.int .i64 0)), none⟩])
 (.seq (.seq (.region [⟨(some 3), .mov (.tmp 0), none⟩])
 (.cond (.tmp 3) (.seq (.region [⟨(some 2), .mov (.val (.int .i64 1)), none⟩])
 (.ret))
 (.skip)))
 (.seq (.region [⟨(some 2), .mov (.val (.int .i64 0)), none⟩])
 (.ret)))), [.tmp 2]⟩
def c140 : RFunc := ⟨8, .code (.seq (.region [⟨(some 2), .mov (.val (.bool false)), none⟩])
 (.seq (.region [⟨(some 3), .mov (.tmp 0), none⟩,
 ⟨(some 4), .mov (.tmp 0), none⟩,
 ⟨(some 5), .bin .sub (.tmp 4) (.val (.int .i64 1)), none⟩,
 ⟨(some 6), .bin .and (.tmp 3) (.tmp 5), none⟩,
 ⟨(some 7), .bin .eql (.tmp 6) (.val (.int .i64 0)), none⟩,
 ⟨(some 2), .mov (.tmp 7), none⟩])
 (.ret))), [.tmp 2]⟩
def c141 : RFunc := ⟨8, .code (.seq (.region [⟨(some 2), .mov (.val (.int .i64 0)), none⟩])
 (.seq (.cond (.val (.bool false)) (.seq (.region [⟨(some 3), .mov (.tmp 0), none⟩,
 ⟨(some 4), .convInt .u32 (.tmp 3), none⟩,
 ⟨(some 5), .call (.val (.func (.func 144) [] [])) [(.tmp 4)], none⟩,
 ⟨(some 2), .mov (.tmp 5), none⟩])
 (.ret))
 (.skip))
 (.seq (.region [⟨(some 6), .mov (.tmp 0), none⟩,
 ⟨(some 7), .call (.val (.func (.func 145) [] [])) [(.tmp 6)], none⟩,
 ⟨(some 2), .mov (.tmp 7), none⟩])
 (.ret)))), [.tmp 2]⟩
def c144 : RFunc := ⟨14, .code (.seq (.region [⟨(some 2), .mov (.val (.int .i64 0)), none⟩])
 (.seq (.seq (.region [⟨(some 3), .mov (.tmp 0), none⟩,
 ⟨(some 4), .bin .eql (.tmp 3) (.val (.int .u32 0)), none⟩])
 (.cond (.tmp 4) (.seq (.region [⟨(some 2), .mov (.val (.int .i64 32)), none⟩])
 (.ret))
 (.skip)))
 (.seq (.region [⟨(some 5), .mov (.tmp 0), none⟩,
 ⟨(some 6), .mov (.tmp 0), none⟩,
 ⟨(some 7), .un .neg (.tmp 6), none⟩,
 ⟨(some 8), .bin .and (.tmp 5) (.tmp 7), none⟩,
 ⟨(some 9), .bin .mul (.tmp 8) (.val (.int .u32 125613361)), none⟩,
 ⟨(some 10), .bin .shr (.tmp 9) (.val (.int .u64 27)), none⟩,
 ⟨(some 11), .idxA 32 1 (.val (.ptr 4 0)) (.tmp 10), none⟩,
 ⟨(some 12), .load none (.tmp 11), none⟩,
 ⟨(some 13), .convInt .i64 (.tmp 12), none⟩,
 ⟨(some 2), .mov (.tmp 13), none⟩])
 (.ret)))), [.tmp 2]⟩
def c145 : RFunc := ⟨14, .code (.seq (.region [⟨(some 2), .mov (.val (.int .i64 0)), none⟩])
 (.seq (.seq (.region [⟨(some 3), .mov (.tmp 0), none⟩,
 ⟨(some 4), .bin .eql (.tmp 3) (.val (.int .u64 0)), none⟩])
 (.cond (.tmp 4) (.seq (.region [⟨(some 2), .mov (.val (.int .i64 64)), none⟩])
 (.ret))
 (.skip)))
 (.seq (.region [⟨(some 5), .mov (.tmp 0), none⟩,
 ⟨(some 6), .mov (.tmp 0), none⟩,
 ⟨(some 7), .un .neg (.tmp 6), none⟩,
 ⟨(some 8), .bin .and (.tmp 5) (.tmp 7), none⟩,
 ⟨(some 9), .bin .mul (.tmp 8) (.val (.int .u64 285870213051353865)), none⟩,
 ⟨(some 10), .bin .shr (.tmp 9) (.val (.int .u64 58)), none⟩,
 ⟨(some 11), .idxA 64 1 (.val (.ptr 5 0)) (.tmp 10), none⟩,
 ⟨(some 12), .load none (.tmp 11), none⟩,
 ⟨(some 13), .convInt .i64 (.tmp 12), none⟩,
 ⟨(some 2), .mov (.tmp 13), none⟩])
 (.ret)))), [.tmp 2]⟩
end Go.Am

/- The functions of the program, in the small machine. -/
set_option maxRecDepth 100000
set_option maxHeartbeats 4000000
namespace Go.Am
open Go
def aroundT : List (Nat × List AVal) := []
def ext : Exts := fun k args => match k with
  | 0 => aCount args
  | 1 => aIndexByte args
  | 2 => aSelf args
  | 3 => aClosed aroundT (.bool true) args
  | _ => M.fail
def prog0 : FuncId → Option RFunc := fun f => (cond (Nat.blt f 95) (cond (Nat.blt f 59) (cond (Nat.blt f 40) (cond (Nat.blt f 25) (cond (Nat.blt f 16) (cond (Nat.beq f 15) (some c15) none) (cond (Nat.beq f 16) (some c16) none)) (cond (Nat.blt f 33) (cond (Nat.beq f 25) (some c25) none) (cond (Nat.blt f 39) (cond (Nat.beq f 33) (some c33) none) (cond (Nat.beq f 39) (some c39) none)))) (cond (Nat.blt f 44) (cond (Nat.blt f 42) (cond (Nat.beq f 40) (some c40) none) (cond (Nat.blt f 43) (cond (Nat.beq f 42) (some c42) none) (cond (Nat.beq f 43) (some c43) none))) (cond (Nat.blt f 49) (cond (Nat.beq f 44) (some c44) none) (cond (Nat.blt f 56) (cond (Nat.beq f 49) (some c49) none) (cond (Nat.beq f 56) (some c56) none))))) (cond (Nat.blt f 89) (cond (Nat.blt f 82) (cond (Nat.blt f 63) (cond (Nat.beq f 59) (some c59) none) (cond (Nat.blt f 64) (cond (Nat.beq f 63) (some c63) none) (cond (Nat.beq f 64) (some c64) none))) (cond (Nat.blt f 83) (cond (Nat.beq f 82) (some c82) none) (cond (Nat.blt f 87) (cond (Nat.beq f 83) (some c83) none) (cond (Nat.beq f 87) (some c87) none)))) (cond (Nat.blt f 92) (cond (Nat.blt f 90) (cond (Nat.beq f 89) (some c89) none) (cond (Nat.blt f 91) (cond (Nat.beq f 90) (some c90) none) (cond (Nat.beq f 91) (some c91) none))) (cond (Nat.blt f 93) (cond (Nat.beq f 92) (some c92) none) (cond (Nat.blt f 94) (cond (Nat.beq f 93) (some c93) none) (cond (Nat.beq f 94) (some c94) none)))))) (cond (Nat.blt f 123) (cond (Nat.blt f 101) (cond (Nat.blt f 98) (cond (Nat.blt f 96) (cond (Nat.beq f 95) (some c95) none) (cond (Nat.blt f 97) (cond (Nat.beq f 96) (some c96) none) (cond (Nat.beq f 97) (some c97) none))) (cond (Nat.blt f 99) (cond (Nat.beq f 98) (some c98) none) (cond (Nat.blt f 100) (cond (Nat.beq f 99) (some c99) none) (cond (Nat.beq f 100) (some c100) none)))) (cond (Nat.blt f 116) (cond (Nat.blt f 105) (cond (Nat.beq f 101) (some c101) none) (cond (Nat.blt f 106) (cond (Nat.beq f 105) (some c105) none) (cond (Nat.beq f 106) (some c106) none))) (cond (Nat.blt f 117) (cond (Nat.beq f 116) (some c116) none) (cond (Nat.blt f 122) (cond (Nat.beq f 117) (some c117) none) (cond (Nat.beq f 122) (some c122) none))))) (cond (Nat.blt f 138) (cond (Nat.blt f 132) (cond (Nat.blt f 130) (cond (Nat.beq f 123) (some c123) none) (cond (Nat.blt f 131) (cond (Nat.beq f 130) (some c130) none) (cond (Nat.beq f 131) (some c131) none))) (cond (Nat.blt f 133) (cond (Nat.beq f 132) (some c132) none) (cond (Nat.blt f 137) (cond (Nat.beq f 133) (some c133) none) (cond (Nat.beq f 137) (some c137) none)))) (cond (Nat.blt f 141) (cond (Nat.blt f 139) (cond (Nat.beq f 138) (some c138) none) (cond (Nat.blt f 140) (cond (Nat.beq f 139) (some c139) none) (cond (Nat.beq f 140) (some c140) none))) (cond (Nat.blt f 144) (cond (Nat.beq f 141) (some c141) none) (cond (Nat.blt f 145) (cond (Nat.beq f 144) (some c144) none) (cond (Nat.beq f 145) (some c145) none)))))))
def prog : FuncId → Option RFunc := fun f => (cond (Nat.blt f 90) (cond (Nat.blt f 41) (cond (Nat.blt f 39) (cond (Nat.blt f 15) (cond (Nat.beq f 10) (some c10) none) (cond (Nat.beq f 15) (some ⟨0, .ext 3, []⟩) none)) (cond (Nat.blt f 40) (cond (Nat.beq f 39) (some c39) none) (cond (Nat.beq f 40) (some c40) none))) (cond (Nat.blt f 43) (cond (Nat.blt f 42) (cond (Nat.beq f 41) (some c41) none) (cond (Nat.beq f 42) (some c42) none)) (cond (Nat.blt f 59) (cond (Nat.beq f 43) (some c43) none) (cond (Nat.blt f 89) (cond (Nat.beq f 59) (some c59) none) (cond (Nat.beq f 89) (some c89) none))))) (cond (Nat.blt f 94) (cond (Nat.blt f 92) (cond (Nat.blt f 91) (cond (Nat.beq f 90) (some c90) none) (cond (Nat.beq f 91) (some c91) none)) (cond (Nat.blt f 93) (cond (Nat.beq f 92) (some c92) none) (cond (Nat.beq f 93) (some c93) none))) (cond (Nat.blt f 96) (cond (Nat.blt f 95) (cond (Nat.beq f 94) (some c94) none) (cond (Nat.beq f 95) (some c95) none)) (cond (Nat.blt f 116) (cond (Nat.beq f 96) (some c96) none) (cond (Nat.blt f 122) (cond (Nat.beq f 116) (some c116) none) (cond (Nat.beq f 122) (some c122) none))))))
end Go.Am

set_option maxHeartbeats 4000000
set_option maxRecDepth 100000
namespace Go.Am
open Go
attribute [local irreducible] Wp WpO WpX WpE

instance K_awake {H : AHeap} : PureCon ext prog 15 [] H 0 (.bool true) := ⟨fun n hn => by
 obtain ⟨k, rfl⟩ : ∃ k, n = k + 1 := ⟨n - 1, by unfold fuel0 at hn; omega⟩
 have e1 : prog 15 = some ⟨0, .ext 3, []⟩ := rfl
 refine ⟨.bool true, H, ?_, rfl, Ext.refl H⟩
 rw [call_ext e1]
 rfl⟩

/-- A number of 64 bits. -/
class R64 (d : Int) : Prop where
 lo : -9223372036854775808 ≤ d
 hi : d < 9223372036854775808
theorem wrap64 (x : Int) : R64 (IntKind.i64.wrap x) := by
 have : IntKind.i64.wrap x = (x + 2 ^ 63) % 2 ^ 64 - 2 ^ 63 := by
  unfold IntKind.wrap
  simp [IntKind.signed, IntKind.bits]
  try omega
 constructor <;> omega
end Go.Am

/- Plain arguments of the laws on tones, by their types. -/
namespace Go.Am
open Go Go.RowKit

section
variable {P : Program} {H : AHeap} {n : Nat} {t e : TypeId} {cs : List AVal}
theorem i8_of {i : Int} (h : (Lit.int .i8 i).wf = true) : -128 ≤ i ∧ i < 128 := by
  simp only [Lit.wf, IntKind.has] at h
  revert h
  simp [IntKind.min, IntKind.max, IntKind.bits, IntKind.signed]
  intro a b
  constructor <;> omega
end
end Go.Am

/- Functions without a body do what the small machine says. -/
namespace Go.Am
open Go Go.RowKit

section
variable {P : Program} {S : Base} {m : RMap} {H H' : AHeap} {w : World}

theorem aBytesFn_some {f : List UInt8 → AVal} {e : Array Value → Sem Value} {bv : Value} (hstr : ∀ (s : ByteArray) (w : World), ∃ y, (e #[.string s, bv]).run P w = .ok y w ∧ emb m (f s.data.toList) = some y)
    (hnil : ∀ (l c : Nat) (w : World), ∃ y, (e #[.slice none l c, bv]).run P w = .ok y w ∧ emb m (f []) = some y)
    (hsl : ∀ (a : Addr) (n c : Nat) (xs : List Int) (w : World), xs.length = n → (∀ j x, xs[j]? = some x → w.cell? (a.add j) = some (.int .u8 x)) → ∃ y, (e #[.slice (some a) n c, bv]).run P w = .ok y w ∧ emb m (f (xs.map fun n => UInt8.ofNat n.toNat)) = some y)
    {av u : AVal} {x : Value} (ha : emb m av = some x) (h : HRel S m H w) (hx : aBytesFn f av H = some (u, H')) : ∃ y, (e #[x, bv]).run P w = .ok y w ∧ Out S m u H' y w := by
  cases av with
  | nslice =>
    obtain ⟨rfl, rfl⟩ := pure_some hx
    simp only [emb] at ha; cases ha
    obtain ⟨y, h1, h2⟩ := hnil 0 0 w
    exact ⟨y, h1, Out.same h h2⟩
  | str s =>
    obtain ⟨rfl, rfl⟩ := pure_some hx
    simp only [emb] at ha; cases ha
    obtain ⟨y, h1, h2⟩ := hstr s w
    exact ⟨y, h1, Out.same h h2⟩
  | slice r off len cap s =>
    obtain ⟨p, hp, rfl⟩ := emb_slice_some ha
    simp only [aBytesFn] at hx
    by_cases hs : s ≠ 1
    · rw [if_pos hs] at hx; exact (fail_some hx).elim
    · rw [if_neg hs] at hx
      obtain ⟨⟨cs, rw⟩, H1, h1, h2⟩ := bind_some hx
      obtain ⟨rfl, hr, e', hg⟩ := aRow_some h1
      simp only [] at h2
      by_cases hq : off + len ≤ cs.length
      · rw [if_pos hq] at h2
        cases hb : bytesOf ((cs.drop off).take len) with
        | none => rw [hb] at h2; exact (fail_some h2).elim
        | some l =>
          rw [hb] at h2
          obtain ⟨rfl, rfl⟩ := pure_some h2
          obtain ⟨ns, hns, rfl⟩ := bytesOf_some hb
          have hok := h.row r cs rw e' p hr hg hp
          have hlen : ns.length = len := by
            have h1 : ((cs.drop off).take len).length = len := by simp; omega
            rw [hns] at h1; simpa using h1
          obtain ⟨y, h3, h4⟩ := hsl (p.1.add off) len (capR cap ((p.2 - off) / s)) ns w hlen fun j b hj => by
            have hjn : j < len := by rw [← hlen]; exact (List.getElem?_eq_some_iff.1 hj).1
            have h1 : cs[off + j]? = some (.int .u8 b) := by
              have h2 : ((cs.drop off).take len)[j]? = some (.int .u8 b) := by rw [hns]; simp [hj]
              rw [List.getElem?_take_of_lt hjn, List.getElem?_drop] at h2; exact h2
            obtain ⟨y, h3, h4⟩ := hok.cell _ _ h1
            simp only [emb] at h3; cases h3
            rw [add_add]; exact h4
          exact ⟨y, h3, Out.same h h4⟩
      · rw [if_neg hq] at h2; exact (fail_some h2).elim
  | _ => exact (fail_some (H := H) hx).elim

theorem yields_extern {f : FuncId} {fn : Func} {e : Array Value → Sem Value} (hf : P.funcs[f]? = some fn) (hname : (fn.name == "runtime.NumGoroutine") = false)
    (hb : fn.body.isNone = true) (hn : Extern.findNext fn = none) (he : Extern.find fn = some e) {args : Array Value} {y : Value} {R : Value → World → Prop} (hr : (e args).run P w = .ok y w) (h : R y w) : Yields P (callFunc f args) w R := by
  unfold Yields
  rw [run_callFunc_extern hf hname hb hn he, hr]
  exact h

theorem sem_bind_of {α β : Type} {P : Program} {w : World} {x : Sem α} {f : α → Sem β} {a : α} {w' : World} {r : Result β} (h : x.run P w = .ok a w') (h2 : (x >>= f).run P w = r) : (f a).run P w' = r := by
  rw [← h2]
  simp [h]

theorem ext_count {ext : Exts} {k : Nat} (hk : ext k = aCount) {f : FuncId} {fn : Func} (hf : P.funcs[f]? = some fn) (hname : (fn.name == "runtime.NumGoroutine") = false)
    (hb : fn.body.isNone = true) (hn : Extern.findNext fn = none) (he : Extern.find fn = some Extern.BytealgCount.count) : ExtSim P ext f k := by
  intro S args H v H' m w vargs hG hx h ha
  rw [hk] at hx
  match args, hx, ha with
  | [x, .int .u8 b], hx, ha =>
    obtain ⟨y, ys, h1, h2, rfl⟩ := embL_cons ha
    obtain ⟨z, zs, h3, h4, rfl⟩ := embL_cons h2
    simp only [embL] at h4; cases h4
    simp only [emb] at h3; cases h3
    obtain ⟨q, h5, h6⟩ := aBytesFn_some (P := P) (e := Extern.BytealgCount.count) (bv := .int .u8 b) (f := fun l => .int .i64 (Lib.countByte l (UInt8.ofNat b.toNat)))
      (fun s w => ⟨_, Lib.run_countString s b w, by simp [emb] <;> rfl⟩)
      (fun l c w => ⟨_, Lib.run_countString .empty b w, by simp [emb] <;> rfl⟩)
      (fun a n c xs w hl hc => by
        have hload := Lib.run_loadBytesX (P := P) w xs a .empty hc
        rw [hl] at hload
        have hs := Lib.run_countString (P := P) ⟨(Lib.bytesOf xs).toArray⟩ b w
        have he : (⟨ByteArray.empty.data ++ (Lib.bytesOf xs).toArray⟩ : ByteArray) = ⟨(Lib.bytesOf xs).toArray⟩ := by
          apply ByteArray.ext
          show (#[] : Array UInt8) ++ (Lib.bytesOf xs).toArray = (Lib.bytesOf xs).toArray
          simp
        rw [he] at hload
        refine ⟨.int .i64 (Lib.countByte (Lib.bytesOf xs) b.toNat.toUInt8), ?_, by simp [emb] <;> rfl⟩
        have hb1 : (Extern.Bytes.bytesOf (.slice (some a) n c)).run P w = .ok ⟨(Lib.bytesOf xs).toArray⟩ w := by simpa [Extern.Bytes.bytesOf] using hload
        have hb2 : (Extern.Bytes.bytesOf (.string ⟨(Lib.bytesOf xs).toArray⟩)).run P w = .ok ⟨(Lib.bytesOf xs).toArray⟩ w := by simp [Extern.Bytes.bytesOf]
        refine sem_bind_ok hb1 ?_
        have hs2 := sem_bind_of hb2 hs
        exact hs2) h1 h hx
    exact yields_extern hf hname hb hn he h5 h6

theorem ext_indexByte {ext : Exts} {k : Nat} (hk : ext k = aIndexByte) {f : FuncId} {fn : Func} (hf : P.funcs[f]? = some fn) (hname : (fn.name == "runtime.NumGoroutine") = false)
    (hb : fn.body.isNone = true) (hn : Extern.findNext fn = none) (he : Extern.find fn = some Extern.BytealgIndexByte.indexByte) : ExtSim P ext f k := by
  intro S args H v H' m w vargs hG hx h ha
  rw [hk] at hx
  match args, hx, ha with
  | [x, .int .u8 b], hx, ha =>
    obtain ⟨y, ys, h1, h2, rfl⟩ := embL_cons ha
    obtain ⟨z, zs, h3, h4, rfl⟩ := embL_cons h2
    simp only [embL] at h4; cases h4
    simp only [emb] at h3; cases h3
    obtain ⟨q, h5, h6⟩ := aBytesFn_some (P := P) (e := Extern.BytealgIndexByte.indexByte) (bv := .int .u8 b) (f := fun l => .int .i64 (Lib.indexByte l (UInt8.ofNat b.toNat)))
      (fun s w => ⟨_, Lib.run_indexByteString s b w, by simp [emb] <;> rfl⟩)
      (fun l c w => ⟨_, Lib.run_indexByteNil w l c b, by simp [emb] <;> rfl⟩)
      (fun a n c xs w hl hc => by
        have hload := Lib.run_loadBytesX (P := P) w xs a .empty hc
        rw [hl] at hload
        have hs := Lib.run_indexByteString (P := P) ⟨(Lib.bytesOf xs).toArray⟩ b w
        have he : (⟨ByteArray.empty.data ++ (Lib.bytesOf xs).toArray⟩ : ByteArray) = ⟨(Lib.bytesOf xs).toArray⟩ := by
          apply ByteArray.ext
          show (#[] : Array UInt8) ++ (Lib.bytesOf xs).toArray = (Lib.bytesOf xs).toArray
          simp
        rw [he] at hload
        refine ⟨.int .i64 (Lib.indexByte (Lib.bytesOf xs) b.toNat.toUInt8), ?_, by simp [emb] <;> rfl⟩
        have hb1 : (Extern.Bytes.bytesOf (.slice (some a) n c)).run P w = .ok ⟨(Lib.bytesOf xs).toArray⟩ w := by simpa [Extern.Bytes.bytesOf] using hload
        have hb2 : (Extern.Bytes.bytesOf (.string ⟨(Lib.bytesOf xs).toArray⟩)).run P w = .ok ⟨(Lib.bytesOf xs).toArray⟩ w := by simp [Extern.Bytes.bytesOf]
        refine sem_bind_ok hb1 ?_
        have hs2 := sem_bind_of hb2 hs
        exact hs2) h1 h hx
    exact yields_extern hf hname hb hn he h5 h6

theorem ext_self {ext : Exts} {k : Nat} (hk : ext k = aSelf) {f : FuncId} {fn : Func} (hf : P.funcs[f]? = some fn) (hname : (fn.name == "runtime.NumGoroutine") = false)
    (hb : fn.body.isNone = true) (hn : Extern.findNext fn = none) (he : Extern.find fn = some Extern.AbiNoEscape.same) : ExtSim P ext f k := by
  intro S args H v H' m w vargs hG hx h ha
  rw [hk] at hx
  match args, hx, ha with
  | [x], hx, ha =>
    obtain ⟨y, ys, h1, h2, rfl⟩ := embL_cons ha
    simp only [embL] at h2; cases h2
    obtain ⟨rfl, rfl⟩ := pure_some hx
    have hr : (Extern.AbiNoEscape.same #[y]).run P w = .ok y w := by
      have : Extern.AbiNoEscape.same #[y] = pure y := rfl
      rw [this]; simp
    exact yields_extern hf hname hb hn he hr (Out.same h h1)
end
end Go.Am

/- The table of functions is right. -/
set_option maxRecDepth 100000
set_option maxHeartbeats 4000000
namespace Go.Am
open Go Go.Proofs
theorem ext_of {P : Program} {e e' : Exts} {f : FuncId} {k : Nat} (h : ExtSim P e f k) (hk : e' k = e k) : ExtSim P e' f k := fun S args H v H' m w vargs hG hx => h S args H v H' m w vargs hG (by rw [← hk]; exact hx)
theorem k10 : cFunc Tryd.prog Tryd.f10 = some c10 := by kernel_rfl
theorem k15 : cFunc Tryd.prog Tryd.f15 = some c15 := by kernel_rfl
theorem k16 : cFunc Tryd.prog Tryd.f16 = some c16 := by kernel_rfl
theorem k25 : cFunc Tryd.prog Tryd.f25 = some c25 := by kernel_rfl
theorem k33 : cFunc Tryd.prog Tryd.f33 = some c33 := by kernel_rfl
theorem k39 : cFunc Tryd.prog Tryd.f39 = some c39 := by kernel_rfl
theorem k40 : cFunc Tryd.prog Tryd.f40 = some c40 := by kernel_rfl
theorem k41 : cFunc Tryd.prog Tryd.f41 = some c41 := by kernel_rfl
theorem k42 : cFunc Tryd.prog Tryd.f42 = some c42 := by kernel_rfl
theorem k43 : cFunc Tryd.prog Tryd.f43 = some c43 := by kernel_rfl
theorem k44 : cFunc Tryd.prog Tryd.f44 = some c44 := by kernel_rfl
theorem k49 : cFunc Tryd.prog Tryd.f49 = some c49 := by kernel_rfl
theorem k56 : cFunc Tryd.prog Tryd.f56 = some c56 := by kernel_rfl
theorem k59 : cFunc Tryd.prog Tryd.f59 = some c59 := by kernel_rfl
theorem k63 : cFunc Tryd.prog Tryd.f63 = some c63 := by kernel_rfl
theorem k64 : cFunc Tryd.prog Tryd.f64 = some c64 := by kernel_rfl
theorem k82 : cFunc Tryd.prog Tryd.f82 = some c82 := by kernel_rfl
theorem k83 : cFunc Tryd.prog Tryd.f83 = some c83 := by kernel_rfl
theorem k87 : cFunc Tryd.prog Tryd.f87 = some c87 := by kernel_rfl
theorem k89 : cFunc Tryd.prog Tryd.f89 = some c89 := by kernel_rfl
theorem k90 : cFunc Tryd.prog Tryd.f90 = some c90 := by kernel_rfl
theorem k91 : cFunc Tryd.prog Tryd.f91 = some c91 := by kernel_rfl
theorem k92 : cFunc Tryd.prog Tryd.f92 = some c92 := by kernel_rfl
theorem k93 : cFunc Tryd.prog Tryd.f93 = some c93 := by kernel_rfl
theorem k94 : cFunc Tryd.prog Tryd.f94 = some c94 := by kernel_rfl
theorem k95 : cFunc Tryd.prog Tryd.f95 = some c95 := by kernel_rfl
theorem k96 : cFunc Tryd.prog Tryd.f96 = some c96 := by kernel_rfl
theorem k97 : cFunc Tryd.prog Tryd.f97 = some c97 := by kernel_rfl
theorem k98 : cFunc Tryd.prog Tryd.f98 = some c98 := by kernel_rfl
theorem k99 : cFunc Tryd.prog Tryd.f99 = some c99 := by kernel_rfl
theorem k100 : cFunc Tryd.prog Tryd.f100 = some c100 := by kernel_rfl
theorem k101 : cFunc Tryd.prog Tryd.f101 = some c101 := by kernel_rfl
theorem k105 : cFunc Tryd.prog Tryd.f105 = some c105 := by kernel_rfl
theorem k106 : cFunc Tryd.prog Tryd.f106 = some c106 := by kernel_rfl
theorem k116 : cFunc Tryd.prog Tryd.f116 = some c116 := by kernel_rfl
theorem k117 : cFunc Tryd.prog Tryd.f117 = some c117 := by kernel_rfl
theorem k122 : cFunc Tryd.prog Tryd.f122 = some c122 := by kernel_rfl
theorem k123 : cFunc Tryd.prog Tryd.f123 = some c123 := by kernel_rfl
theorem k130 : cFunc Tryd.prog Tryd.f130 = some c130 := by kernel_rfl
theorem k131 : cFunc Tryd.prog Tryd.f131 = some c131 := by kernel_rfl
theorem k132 : cFunc Tryd.prog Tryd.f132 = some c132 := by kernel_rfl
theorem k133 : cFunc Tryd.prog Tryd.f133 = some c133 := by kernel_rfl
theorem k137 : cFunc Tryd.prog Tryd.f137 = some c137 := by kernel_rfl
theorem k138 : cFunc Tryd.prog Tryd.f138 = some c138 := by kernel_rfl
theorem k139 : cFunc Tryd.prog Tryd.f139 = some c139 := by kernel_rfl
theorem k140 : cFunc Tryd.prog Tryd.f140 = some c140 := by kernel_rfl
theorem k141 : cFunc Tryd.prog Tryd.f141 = some c141 := by kernel_rfl
theorem k144 : cFunc Tryd.prog Tryd.f144 = some c144 := by kernel_rfl
theorem k145 : cFunc Tryd.prog Tryd.f145 = some c145 := by kernel_rfl
theorem cond_some {α : Type} {b : Bool} {x y : Option α} {v : α} (h : cond b x y = some v) : (b = true ∧ x = some v) ∨ (b = false ∧ y = some v) := by cases b <;> simp_all
theorem progOk0 : ProgOk Tryd.prog ext prog0 := by
  refine ⟨rfl, by decide +kernel, ?_⟩
  intro f rf h
  unfold prog0 at h
  rcases cond_some h with ⟨_, h⟩ | ⟨_, h⟩
  · skip
    rcases cond_some h with ⟨_, h⟩ | ⟨_, h⟩
    · skip
      rcases cond_some h with ⟨_, h⟩ | ⟨_, h⟩
      · skip
        rcases cond_some h with ⟨_, h⟩ | ⟨_, h⟩
        · skip
          rcases cond_some h with ⟨_, h⟩ | ⟨_, h⟩
          · skip
            rcases cond_some h with ⟨hb, h⟩ | ⟨_, h⟩
            · obtain rfl := Nat.eq_of_beq_eq_true hb; cases h; exact Or.inl ⟨Tryd.f15, _, Tryd.func15, rfl, k15⟩
            · cases h
          · skip
            rcases cond_some h with ⟨hb, h⟩ | ⟨_, h⟩
            · obtain rfl := Nat.eq_of_beq_eq_true hb; cases h; exact Or.inl ⟨Tryd.f16, _, Tryd.func16, rfl, k16⟩
            · cases h
        · skip
          rcases cond_some h with ⟨_, h⟩ | ⟨_, h⟩
          · skip
            rcases cond_some h with ⟨hb, h⟩ | ⟨_, h⟩
            · obtain rfl := Nat.eq_of_beq_eq_true hb; cases h; exact Or.inl ⟨Tryd.f25, _, Tryd.func25, rfl, k25⟩
            · cases h
          · skip
            rcases cond_some h with ⟨_, h⟩ | ⟨_, h⟩
            · skip
              rcases cond_some h with ⟨hb, h⟩ | ⟨_, h⟩
              · obtain rfl := Nat.eq_of_beq_eq_true hb; cases h; exact Or.inl ⟨Tryd.f33, _, Tryd.func33, rfl, k33⟩
              · cases h
            · skip
              rcases cond_some h with ⟨hb, h⟩ | ⟨_, h⟩
              · obtain rfl := Nat.eq_of_beq_eq_true hb; cases h; exact Or.inl ⟨Tryd.f39, _, Tryd.func39, rfl, k39⟩
              · cases h
      · skip
        rcases cond_some h with ⟨_, h⟩ | ⟨_, h⟩
        · skip
          rcases cond_some h with ⟨_, h⟩ | ⟨_, h⟩
          · skip
            rcases cond_some h with ⟨hb, h⟩ | ⟨_, h⟩
            · obtain rfl := Nat.eq_of_beq_eq_true hb; cases h; exact Or.inl ⟨Tryd.f40, _, Tryd.func40, rfl, k40⟩
            · cases h
          · skip
            rcases cond_some h with ⟨_, h⟩ | ⟨_, h⟩
            · skip
              rcases cond_some h with ⟨hb, h⟩ | ⟨_, h⟩
              · obtain rfl := Nat.eq_of_beq_eq_true hb; cases h; exact Or.inl ⟨Tryd.f42, _, Tryd.func42, rfl, k42⟩
              · cases h
            · skip
              rcases cond_some h with ⟨hb, h⟩ | ⟨_, h⟩
              · obtain rfl := Nat.eq_of_beq_eq_true hb; cases h; exact Or.inl ⟨Tryd.f43, _, Tryd.func43, rfl, k43⟩
              · cases h
        · skip
          rcases cond_some h with ⟨_, h⟩ | ⟨_, h⟩
          · skip
            rcases cond_some h with ⟨hb, h⟩ | ⟨_, h⟩
            · obtain rfl := Nat.eq_of_beq_eq_true hb; cases h; exact Or.inl ⟨Tryd.f44, _, Tryd.func44, rfl, k44⟩
            · cases h
          · skip
            rcases cond_some h with ⟨_, h⟩ | ⟨_, h⟩
            · skip
              rcases cond_some h with ⟨hb, h⟩ | ⟨_, h⟩
              · obtain rfl := Nat.eq_of_beq_eq_true hb; cases h; exact Or.inl ⟨Tryd.f49, _, Tryd.func49, rfl, k49⟩
              · cases h
            · skip
              rcases cond_some h with ⟨hb, h⟩ | ⟨_, h⟩
              · obtain rfl := Nat.eq_of_beq_eq_true hb; cases h; exact Or.inl ⟨Tryd.f56, _, Tryd.func56, rfl, k56⟩
              · cases h
    · skip
      rcases cond_some h with ⟨_, h⟩ | ⟨_, h⟩
      · skip
        rcases cond_some h with ⟨_, h⟩ | ⟨_, h⟩
        · skip
          rcases cond_some h with ⟨_, h⟩ | ⟨_, h⟩
          · skip
            rcases cond_some h with ⟨hb, h⟩ | ⟨_, h⟩
            · obtain rfl := Nat.eq_of_beq_eq_true hb; cases h; exact Or.inl ⟨Tryd.f59, _, Tryd.func59, rfl, k59⟩
            · cases h
          · skip
            rcases cond_some h with ⟨_, h⟩ | ⟨_, h⟩
            · skip
              rcases cond_some h with ⟨hb, h⟩ | ⟨_, h⟩
              · obtain rfl := Nat.eq_of_beq_eq_true hb; cases h; exact Or.inl ⟨Tryd.f63, _, Tryd.func63, rfl, k63⟩
              · cases h
            · skip
              rcases cond_some h with ⟨hb, h⟩ | ⟨_, h⟩
              · obtain rfl := Nat.eq_of_beq_eq_true hb; cases h; exact Or.inl ⟨Tryd.f64, _, Tryd.func64, rfl, k64⟩
              · cases h
        · skip
          rcases cond_some h with ⟨_, h⟩ | ⟨_, h⟩
          · skip
            rcases cond_some h with ⟨hb, h⟩ | ⟨_, h⟩
            · obtain rfl := Nat.eq_of_beq_eq_true hb; cases h; exact Or.inl ⟨Tryd.f82, _, Tryd.func82, rfl, k82⟩
            · cases h
          · skip
            rcases cond_some h with ⟨_, h⟩ | ⟨_, h⟩
            · skip
              rcases cond_some h with ⟨hb, h⟩ | ⟨_, h⟩
              · obtain rfl := Nat.eq_of_beq_eq_true hb; cases h; exact Or.inl ⟨Tryd.f83, _, Tryd.func83, rfl, k83⟩
              · cases h
            · skip
              rcases cond_some h with ⟨hb, h⟩ | ⟨_, h⟩
              · obtain rfl := Nat.eq_of_beq_eq_true hb; cases h; exact Or.inl ⟨Tryd.f87, _, Tryd.func87, rfl, k87⟩
              · cases h
      · skip
        rcases cond_some h with ⟨_, h⟩ | ⟨_, h⟩
        · skip
          rcases cond_some h with ⟨_, h⟩ | ⟨_, h⟩
          · skip
            rcases cond_some h with ⟨hb, h⟩ | ⟨_, h⟩
            · obtain rfl := Nat.eq_of_beq_eq_true hb; cases h; exact Or.inl ⟨Tryd.f89, _, Tryd.func89, rfl, k89⟩
            · cases h
          · skip
            rcases cond_some h with ⟨_, h⟩ | ⟨_, h⟩
            · skip
              rcases cond_some h with ⟨hb, h⟩ | ⟨_, h⟩
              · obtain rfl := Nat.eq_of_beq_eq_true hb; cases h; exact Or.inl ⟨Tryd.f90, _, Tryd.func90, rfl, k90⟩
              · cases h
            · skip
              rcases cond_some h with ⟨hb, h⟩ | ⟨_, h⟩
              · obtain rfl := Nat.eq_of_beq_eq_true hb; cases h; exact Or.inl ⟨Tryd.f91, _, Tryd.func91, rfl, k91⟩
              · cases h
        · skip
          rcases cond_some h with ⟨_, h⟩ | ⟨_, h⟩
          · skip
            rcases cond_some h with ⟨hb, h⟩ | ⟨_, h⟩
            · obtain rfl := Nat.eq_of_beq_eq_true hb; cases h; exact Or.inl ⟨Tryd.f92, _, Tryd.func92, rfl, k92⟩
            · cases h
          · skip
            rcases cond_some h with ⟨_, h⟩ | ⟨_, h⟩
            · skip
              rcases cond_some h with ⟨hb, h⟩ | ⟨_, h⟩
              · obtain rfl := Nat.eq_of_beq_eq_true hb; cases h; exact Or.inl ⟨Tryd.f93, _, Tryd.func93, rfl, k93⟩
              · cases h
            · skip
              rcases cond_some h with ⟨hb, h⟩ | ⟨_, h⟩
              · obtain rfl := Nat.eq_of_beq_eq_true hb; cases h; exact Or.inl ⟨Tryd.f94, _, Tryd.func94, rfl, k94⟩
              · cases h
  · skip
    rcases cond_some h with ⟨_, h⟩ | ⟨_, h⟩
    · skip
      rcases cond_some h with ⟨_, h⟩ | ⟨_, h⟩
      · skip
        rcases cond_some h with ⟨_, h⟩ | ⟨_, h⟩
        · skip
          rcases cond_some h with ⟨_, h⟩ | ⟨_, h⟩
          · skip
            rcases cond_some h with ⟨hb, h⟩ | ⟨_, h⟩
            · obtain rfl := Nat.eq_of_beq_eq_true hb; cases h; exact Or.inl ⟨Tryd.f95, _, Tryd.func95, rfl, k95⟩
            · cases h
          · skip
            rcases cond_some h with ⟨_, h⟩ | ⟨_, h⟩
            · skip
              rcases cond_some h with ⟨hb, h⟩ | ⟨_, h⟩
              · obtain rfl := Nat.eq_of_beq_eq_true hb; cases h; exact Or.inl ⟨Tryd.f96, _, Tryd.func96, rfl, k96⟩
              · cases h
            · skip
              rcases cond_some h with ⟨hb, h⟩ | ⟨_, h⟩
              · obtain rfl := Nat.eq_of_beq_eq_true hb; cases h; exact Or.inl ⟨Tryd.f97, _, Tryd.func97, rfl, k97⟩
              · cases h
        · skip
          rcases cond_some h with ⟨_, h⟩ | ⟨_, h⟩
          · skip
            rcases cond_some h with ⟨hb, h⟩ | ⟨_, h⟩
            · obtain rfl := Nat.eq_of_beq_eq_true hb; cases h; exact Or.inl ⟨Tryd.f98, _, Tryd.func98, rfl, k98⟩
            · cases h
          · skip
            rcases cond_some h with ⟨_, h⟩ | ⟨_, h⟩
            · skip
              rcases cond_some h with ⟨hb, h⟩ | ⟨_, h⟩
              · obtain rfl := Nat.eq_of_beq_eq_true hb; cases h; exact Or.inl ⟨Tryd.f99, _, Tryd.func99, rfl, k99⟩
              · cases h
            · skip
              rcases cond_some h with ⟨hb, h⟩ | ⟨_, h⟩
              · obtain rfl := Nat.eq_of_beq_eq_true hb; cases h; exact Or.inl ⟨Tryd.f100, _, Tryd.func100, rfl, k100⟩
              · cases h
      · skip
        rcases cond_some h with ⟨_, h⟩ | ⟨_, h⟩
        · skip
          rcases cond_some h with ⟨_, h⟩ | ⟨_, h⟩
          · skip
            rcases cond_some h with ⟨hb, h⟩ | ⟨_, h⟩
            · obtain rfl := Nat.eq_of_beq_eq_true hb; cases h; exact Or.inl ⟨Tryd.f101, _, Tryd.func101, rfl, k101⟩
            · cases h
          · skip
            rcases cond_some h with ⟨_, h⟩ | ⟨_, h⟩
            · skip
              rcases cond_some h with ⟨hb, h⟩ | ⟨_, h⟩
              · obtain rfl := Nat.eq_of_beq_eq_true hb; cases h; exact Or.inl ⟨Tryd.f105, _, Tryd.func105, rfl, k105⟩
              · cases h
            · skip
              rcases cond_some h with ⟨hb, h⟩ | ⟨_, h⟩
              · obtain rfl := Nat.eq_of_beq_eq_true hb; cases h; exact Or.inl ⟨Tryd.f106, _, Tryd.func106, rfl, k106⟩
              · cases h
        · skip
          rcases cond_some h with ⟨_, h⟩ | ⟨_, h⟩
          · skip
            rcases cond_some h with ⟨hb, h⟩ | ⟨_, h⟩
            · obtain rfl := Nat.eq_of_beq_eq_true hb; cases h; exact Or.inl ⟨Tryd.f116, _, Tryd.func116, rfl, k116⟩
            · cases h
          · skip
            rcases cond_some h with ⟨_, h⟩ | ⟨_, h⟩
            · skip
              rcases cond_some h with ⟨hb, h⟩ | ⟨_, h⟩
              · obtain rfl := Nat.eq_of_beq_eq_true hb; cases h; exact Or.inl ⟨Tryd.f117, _, Tryd.func117, rfl, k117⟩
              · cases h
            · skip
              rcases cond_some h with ⟨hb, h⟩ | ⟨_, h⟩
              · obtain rfl := Nat.eq_of_beq_eq_true hb; cases h; exact Or.inl ⟨Tryd.f122, _, Tryd.func122, rfl, k122⟩
              · cases h
    · skip
      rcases cond_some h with ⟨_, h⟩ | ⟨_, h⟩
      · skip
        rcases cond_some h with ⟨_, h⟩ | ⟨_, h⟩
        · skip
          rcases cond_some h with ⟨_, h⟩ | ⟨_, h⟩
          · skip
            rcases cond_some h with ⟨hb, h⟩ | ⟨_, h⟩
            · obtain rfl := Nat.eq_of_beq_eq_true hb; cases h; exact Or.inl ⟨Tryd.f123, _, Tryd.func123, rfl, k123⟩
            · cases h
          · skip
            rcases cond_some h with ⟨_, h⟩ | ⟨_, h⟩
            · skip
              rcases cond_some h with ⟨hb, h⟩ | ⟨_, h⟩
              · obtain rfl := Nat.eq_of_beq_eq_true hb; cases h; exact Or.inl ⟨Tryd.f130, _, Tryd.func130, rfl, k130⟩
              · cases h
            · skip
              rcases cond_some h with ⟨hb, h⟩ | ⟨_, h⟩
              · obtain rfl := Nat.eq_of_beq_eq_true hb; cases h; exact Or.inl ⟨Tryd.f131, _, Tryd.func131, rfl, k131⟩
              · cases h
        · skip
          rcases cond_some h with ⟨_, h⟩ | ⟨_, h⟩
          · skip
            rcases cond_some h with ⟨hb, h⟩ | ⟨_, h⟩
            · obtain rfl := Nat.eq_of_beq_eq_true hb; cases h; exact Or.inl ⟨Tryd.f132, _, Tryd.func132, rfl, k132⟩
            · cases h
          · skip
            rcases cond_some h with ⟨_, h⟩ | ⟨_, h⟩
            · skip
              rcases cond_some h with ⟨hb, h⟩ | ⟨_, h⟩
              · obtain rfl := Nat.eq_of_beq_eq_true hb; cases h; exact Or.inl ⟨Tryd.f133, _, Tryd.func133, rfl, k133⟩
              · cases h
            · skip
              rcases cond_some h with ⟨hb, h⟩ | ⟨_, h⟩
              · obtain rfl := Nat.eq_of_beq_eq_true hb; cases h; exact Or.inl ⟨Tryd.f137, _, Tryd.func137, rfl, k137⟩
              · cases h
      · skip
        rcases cond_some h with ⟨_, h⟩ | ⟨_, h⟩
        · skip
          rcases cond_some h with ⟨_, h⟩ | ⟨_, h⟩
          · skip
            rcases cond_some h with ⟨hb, h⟩ | ⟨_, h⟩
            · obtain rfl := Nat.eq_of_beq_eq_true hb; cases h; exact Or.inl ⟨Tryd.f138, _, Tryd.func138, rfl, k138⟩
            · cases h
          · skip
            rcases cond_some h with ⟨_, h⟩ | ⟨_, h⟩
            · skip
              rcases cond_some h with ⟨hb, h⟩ | ⟨_, h⟩
              · obtain rfl := Nat.eq_of_beq_eq_true hb; cases h; exact Or.inl ⟨Tryd.f139, _, Tryd.func139, rfl, k139⟩
              · cases h
            · skip
              rcases cond_some h with ⟨hb, h⟩ | ⟨_, h⟩
              · obtain rfl := Nat.eq_of_beq_eq_true hb; cases h; exact Or.inl ⟨Tryd.f140, _, Tryd.func140, rfl, k140⟩
              · cases h
        · skip
          rcases cond_some h with ⟨_, h⟩ | ⟨_, h⟩
          · skip
            rcases cond_some h with ⟨hb, h⟩ | ⟨_, h⟩
            · obtain rfl := Nat.eq_of_beq_eq_true hb; cases h; exact Or.inl ⟨Tryd.f141, _, Tryd.func141, rfl, k141⟩
            · cases h
          · skip
            rcases cond_some h with ⟨_, h⟩ | ⟨_, h⟩
            · skip
              rcases cond_some h with ⟨hb, h⟩ | ⟨_, h⟩
              · obtain rfl := Nat.eq_of_beq_eq_true hb; cases h; exact Or.inl ⟨Tryd.f144, _, Tryd.func144, rfl, k144⟩
              · cases h
            · skip
              rcases cond_some h with ⟨hb, h⟩ | ⟨_, h⟩
              · obtain rfl := Nat.eq_of_beq_eq_true hb; cases h; exact Or.inl ⟨Tryd.f145, _, Tryd.func145, rfl, k145⟩
              · cases h
def isTrue : Option (AVal × AHeap) → Bool | some (.bool true, _) => true | _ => false
theorem isTrue_some {r : Option (AVal × AHeap)} (h : isTrue r = true) : ∃ H', r = some (.bool true, H') := by
  cases r with
  | none => cases h
  | some p =>
    obtain ⟨v, H'⟩ := p
    cases v with
    | bool b => cases b with
      | true => exact ⟨H', rfl⟩
      | false => cases h
    | _ => cases h
/-- The examples of the chapter hold. -/
theorem awake_true : isTrue (callN ext prog0 300 15 [] (tableHeap Tryd.prog.globals.size aroundT)) = true := by kernel_rfl
theorem mixed : Tryd.prog.follows .mixedOrders = true := by kernel_rfl
theorem k15e : ExtSim Tryd.prog ext 15 3 := ext_closed mixed progOk0 (T := aroundT) Tryd.func15 rfl (by decide +kernel) (v := .bool true) rfl (by kernel_rfl) (isTrue_some awake_true) rfl
theorem progOk : ProgOk Tryd.prog ext prog := by
  refine ⟨rfl, by decide +kernel, ?_⟩
  intro f rf h
  unfold prog at h
  rcases cond_some h with ⟨_, h⟩ | ⟨_, h⟩
  · skip
    rcases cond_some h with ⟨_, h⟩ | ⟨_, h⟩
    · skip
      rcases cond_some h with ⟨_, h⟩ | ⟨_, h⟩
      · skip
        rcases cond_some h with ⟨_, h⟩ | ⟨_, h⟩
        · skip
          rcases cond_some h with ⟨hb, h⟩ | ⟨_, h⟩
          · obtain rfl := Nat.eq_of_beq_eq_true hb; cases h; exact Or.inl ⟨Tryd.f10, _, Tryd.func10, rfl, k10⟩
          · cases h
        · skip
          rcases cond_some h with ⟨hb, h⟩ | ⟨_, h⟩
          · obtain rfl := Nat.eq_of_beq_eq_true hb; cases h; exact Or.inr ⟨3, rfl, k15e⟩
          · cases h
      · skip
        rcases cond_some h with ⟨_, h⟩ | ⟨_, h⟩
        · skip
          rcases cond_some h with ⟨hb, h⟩ | ⟨_, h⟩
          · obtain rfl := Nat.eq_of_beq_eq_true hb; cases h; exact Or.inl ⟨Tryd.f39, _, Tryd.func39, rfl, k39⟩
          · cases h
        · skip
          rcases cond_some h with ⟨hb, h⟩ | ⟨_, h⟩
          · obtain rfl := Nat.eq_of_beq_eq_true hb; cases h; exact Or.inl ⟨Tryd.f40, _, Tryd.func40, rfl, k40⟩
          · cases h
    · skip
      rcases cond_some h with ⟨_, h⟩ | ⟨_, h⟩
      · skip
        rcases cond_some h with ⟨_, h⟩ | ⟨_, h⟩
        · skip
          rcases cond_some h with ⟨hb, h⟩ | ⟨_, h⟩
          · obtain rfl := Nat.eq_of_beq_eq_true hb; cases h; exact Or.inl ⟨Tryd.f41, _, Tryd.func41, rfl, k41⟩
          · cases h
        · skip
          rcases cond_some h with ⟨hb, h⟩ | ⟨_, h⟩
          · obtain rfl := Nat.eq_of_beq_eq_true hb; cases h; exact Or.inl ⟨Tryd.f42, _, Tryd.func42, rfl, k42⟩
          · cases h
      · skip
        rcases cond_some h with ⟨_, h⟩ | ⟨_, h⟩
        · skip
          rcases cond_some h with ⟨hb, h⟩ | ⟨_, h⟩
          · obtain rfl := Nat.eq_of_beq_eq_true hb; cases h; exact Or.inl ⟨Tryd.f43, _, Tryd.func43, rfl, k43⟩
          · cases h
        · skip
          rcases cond_some h with ⟨_, h⟩ | ⟨_, h⟩
          · skip
            rcases cond_some h with ⟨hb, h⟩ | ⟨_, h⟩
            · obtain rfl := Nat.eq_of_beq_eq_true hb; cases h; exact Or.inl ⟨Tryd.f59, _, Tryd.func59, rfl, k59⟩
            · cases h
          · skip
            rcases cond_some h with ⟨hb, h⟩ | ⟨_, h⟩
            · obtain rfl := Nat.eq_of_beq_eq_true hb; cases h; exact Or.inl ⟨Tryd.f89, _, Tryd.func89, rfl, k89⟩
            · cases h
  · skip
    rcases cond_some h with ⟨_, h⟩ | ⟨_, h⟩
    · skip
      rcases cond_some h with ⟨_, h⟩ | ⟨_, h⟩
      · skip
        rcases cond_some h with ⟨_, h⟩ | ⟨_, h⟩
        · skip
          rcases cond_some h with ⟨hb, h⟩ | ⟨_, h⟩
          · obtain rfl := Nat.eq_of_beq_eq_true hb; cases h; exact Or.inl ⟨Tryd.f90, _, Tryd.func90, rfl, k90⟩
          · cases h
        · skip
          rcases cond_some h with ⟨hb, h⟩ | ⟨_, h⟩
          · obtain rfl := Nat.eq_of_beq_eq_true hb; cases h; exact Or.inl ⟨Tryd.f91, _, Tryd.func91, rfl, k91⟩
          · cases h
      · skip
        rcases cond_some h with ⟨_, h⟩ | ⟨_, h⟩
        · skip
          rcases cond_some h with ⟨hb, h⟩ | ⟨_, h⟩
          · obtain rfl := Nat.eq_of_beq_eq_true hb; cases h; exact Or.inl ⟨Tryd.f92, _, Tryd.func92, rfl, k92⟩
          · cases h
        · skip
          rcases cond_some h with ⟨hb, h⟩ | ⟨_, h⟩
          · obtain rfl := Nat.eq_of_beq_eq_true hb; cases h; exact Or.inl ⟨Tryd.f93, _, Tryd.func93, rfl, k93⟩
          · cases h
    · skip
      rcases cond_some h with ⟨_, h⟩ | ⟨_, h⟩
      · skip
        rcases cond_some h with ⟨_, h⟩ | ⟨_, h⟩
        · skip
          rcases cond_some h with ⟨hb, h⟩ | ⟨_, h⟩
          · obtain rfl := Nat.eq_of_beq_eq_true hb; cases h; exact Or.inl ⟨Tryd.f94, _, Tryd.func94, rfl, k94⟩
          · cases h
        · skip
          rcases cond_some h with ⟨hb, h⟩ | ⟨_, h⟩
          · obtain rfl := Nat.eq_of_beq_eq_true hb; cases h; exact Or.inl ⟨Tryd.f95, _, Tryd.func95, rfl, k95⟩
          · cases h
      · skip
        rcases cond_some h with ⟨_, h⟩ | ⟨_, h⟩
        · skip
          rcases cond_some h with ⟨hb, h⟩ | ⟨_, h⟩
          · obtain rfl := Nat.eq_of_beq_eq_true hb; cases h; exact Or.inl ⟨Tryd.f96, _, Tryd.func96, rfl, k96⟩
          · cases h
        · skip
          rcases cond_some h with ⟨_, h⟩ | ⟨_, h⟩
          · skip
            rcases cond_some h with ⟨hb, h⟩ | ⟨_, h⟩
            · obtain rfl := Nat.eq_of_beq_eq_true hb; cases h; exact Or.inl ⟨Tryd.f116, _, Tryd.func116, rfl, k116⟩
            · cases h
          · skip
            rcases cond_some h with ⟨hb, h⟩ | ⟨_, h⟩
            · obtain rfl := Nat.eq_of_beq_eq_true hb; cases h; exact Or.inl ⟨Tryd.f122, _, Tryd.func122, rfl, k122⟩
            · cases h
end Go.Am

/-
  What all laws of the seat share: a world that holds the listed tables.
-/
set_option maxRecDepth 100000
set_option maxHeartbeats 4000000
namespace Go.Proofs.YtcklaifhanehmaaDoor.Laid
open Go.ChangeShapes Go.WideShapes Go.ChangeAt Go.RowKit Go.Am

theorem own : ownKnob Tryd.prog.godebug = none := by kernel_rfl
theorem laidOut : laidOutB Tryd.prog = true := by kernel_rfl
theorem rowed : mapsRowed Tryd.prog = true := by kernel_rfl
theorem full : ∀ t e, t < Tryd.prog.types.size → Tryd.prog.underlying t = some (.slice e) → 0 < Tryd.prog.cellsOf e := slices_full_of Tryd.prog (by kernel_rfl)
theorem around_cells {W : World} : ∀ t ∈ aroundT, ∀ (i : Nat) (v : AVal), t.2[i]? = some v → ∃ x, emb (fun _ => none) v = some x ∧ W.cell? ⟨t.1, i, none⟩ = some x := by
  intro t ht; cases ht

noncomputable def laidWorld (os : Os) : World :=
  let h := (World.holding Tryd.prog os ⟨#[], #[], []⟩).heap
  let h := h.modify 3 fun
    | .cells _ t frozen => .cells #[.int .u64 1, .int .u64 10, .int .u64 100, .int .u64 1000, .int .u64 10000, .int .u64 100000, .int .u64 1000000, .int .u64 10000000, .int .u64 100000000, .int .u64 1000000000, .int .u64 10000000000, .int .u64 100000000000, .int .u64 1000000000000, .int .u64 10000000000000, .int .u64 100000000000000, .int .u64 1000000000000000, .int .u64 10000000000000000, .int .u64 100000000000000000, .int .u64 1000000000000000000, .int .u64 10000000000000000000] t frozen
    | o => o
  let h := h.modify 4 fun
    | .cells _ t frozen => .cells #[.int .u8 0, .int .u8 1, .int .u8 28, .int .u8 2, .int .u8 29, .int .u8 14, .int .u8 24, .int .u8 3, .int .u8 30, .int .u8 22, .int .u8 20, .int .u8 15, .int .u8 25, .int .u8 17, .int .u8 4, .int .u8 8, .int .u8 31, .int .u8 27, .int .u8 13, .int .u8 23, .int .u8 21, .int .u8 19, .int .u8 16, .int .u8 7, .int .u8 26, .int .u8 12, .int .u8 18, .int .u8 6, .int .u8 11, .int .u8 5, .int .u8 10, .int .u8 9] t frozen
    | o => o
  let h := h.modify 5 fun
    | .cells _ t frozen => .cells #[.int .u8 0, .int .u8 1, .int .u8 56, .int .u8 2, .int .u8 57, .int .u8 49, .int .u8 28, .int .u8 3, .int .u8 61, .int .u8 58, .int .u8 42, .int .u8 50, .int .u8 38, .int .u8 29, .int .u8 17, .int .u8 4, .int .u8 62, .int .u8 47, .int .u8 59, .int .u8 36, .int .u8 45, .int .u8 43, .int .u8 51, .int .u8 22, .int .u8 53, .int .u8 39, .int .u8 33, .int .u8 30, .int .u8 24, .int .u8 18, .int .u8 12, .int .u8 5, .int .u8 63, .int .u8 55, .int .u8 48, .int .u8 27, .int .u8 60, .int .u8 41, .int .u8 37, .int .u8 16, .int .u8 46, .int .u8 35, .int .u8 44, .int .u8 21, .int .u8 52, .int .u8 32, .int .u8 23, .int .u8 11, .int .u8 54, .int .u8 26, .int .u8 40, .int .u8 15, .int .u8 34, .int .u8 20, .int .u8 31, .int .u8 10, .int .u8 25, .int .u8 14, .int .u8 19, .int .u8 9, .int .u8 13, .int .u8 8, .int .u8 7, .int .u8 6] t frozen
    | o => o
  { World.holding Tryd.prog os ⟨#[], #[], []⟩ with heap := h }
end Go.Proofs.YtcklaifhanehmaaDoor.Laid

/- Short names of steps. -/
namespace Go.Am
open Go
section
variable {call : ACall} {lf : Nat} {fr : AFrame} {H : AHeap} {Q : RExit → AFrame → AHeap → Prop} {KF : AFrame → AHeap → Prop} {os : List ROper} {d : Nat}
theorem mI {x : ROpd} {k : IntKind} {n : Int} (hx : x.ev fr = .int k n) (h : WpO call os (upd fr d (.int k n)) H KF) : WpO call (⟨some d, .mov x, none⟩ :: os) fr H KF := Fo.mov hx h
theorem mB {x : ROpd} {b : Bool} (hx : x.ev fr = .bool b) (h : WpO call os (upd fr d (.bool b)) H KF) : WpO call (⟨some d, .mov x, none⟩ :: os) fr H KF := Fo.mov hx h
theorem mP {x : ROpd} {r o : Nat} (hx : x.ev fr = .ptr r o) (h : WpO call os (upd fr d (.ptr r o)) H KF) : WpO call (⟨some d, .mov x, none⟩ :: os) fr H KF := Fo.mov hx h
theorem mT {x : ROpd} {l : List AVal} (hx : x.ev fr = .tuple l) (h : WpO call os (upd fr d (.tuple l)) H KF) : WpO call (⟨some d, .mov x, none⟩ :: os) fr H KF := Fo.mov hx h
theorem tB {c a b : ROpd} {n : Bool} (hc : c.ev fr = .bool true) (hx : a.ev fr = .bool n) (h : WpO call os (upd fr d (.bool n)) H KF) : WpO call (⟨some d, .pick c a b, none⟩ :: os) fr H KF := Fo.pickT hc hx h
theorem fB {c a b : ROpd} {n : Bool} (hc : c.ev fr = .bool false) (hx : b.ev fr = .bool n) (h : WpO call os (upd fr d (.bool n)) H KF) : WpO call (⟨some d, .pick c a b, none⟩ :: os) fr H KF := Fo.pickF hc hx h
theorem sq {a b : RCode} (h : Wp call lf a fr H fun x fr' H' => match x with | .normal => Wp call lf b fr' H' Q | e => Q e fr' H') : Wp call lf (.seq a b) fr H Q := Wp.seq h
theorem rg {ops : List ROper} (h : ∀ KF : AFrame → AHeap → Prop, (∀ fr' H', Q .normal fr' H' → KF fr' H') → WpO call ops fr H KF) : Wp call lf (.region ops) fr H Q := Fr.region h
end
theorem nrmZ : type_of% nrm ∧ type_of% nrmS := ⟨nrm, nrmS⟩
end Go.Am

set_option maxHeartbeats 4000000
set_option maxRecDepth 100000
namespace Go.Am
open Go
attribute [local irreducible] Wp WpO WpX WpE

theorem wi64 (x : Int) : IntKind.i64.wrap x = (x + 2 ^ 63) % 2 ^ 64 - 2 ^ 63 := by
 unfold IntKind.wrap
 simp [IntKind.signed, IntKind.bits]
 try omega
theorem w64r {x : Int} (h1 : -9223372036854775808 ≤ x) (h2 : x < 9223372036854775808) : IntKind.i64.wrap x = x := by
 rw [wi64]; omega
def withinB (n least most : Int) : Bool := decide (least ≤ n) && decide (n ≤ most)
instance K_within {n a b : Int} {H : AHeap} : PureCon ext prog 59 [.int .i64 n, .int .i64 a, .int .i64 b] H 1 (.bool (withinB n a b)) := ⟨by
 refine con_of (show prog 59 = some c59 from rfl) rfl rfl fun m hn => ?_
 unfold withinB
 cases h1 : decide (a ≤ n)
 ·skip
  try simp only [↓nrmL, nrmZ, Nat.reduceEqDiff, ↓reduceIte, Nat.reduceAdd, Int.reduceBEq, Int.reduceBNe, h1]
  refine sq ?_
  refine rg fun KF hKF => ?_
  refine mB rfl ?_
  refine WpO.nil (hKF _ _ ?_)
  refine sq ?_
  refine rg fun KF hKF => ?_
  refine mI rfl ?_
  refine mI rfl ?_
  refine Fo.bin rfl rfl rfl (by simp only [↓nrmL, nrmZ, Nat.reduceEqDiff, ↓reduceIte, Nat.reduceAdd, Int.reduceBEq, Int.reduceBNe, h1]; rfl) ?_
  refine mB rfl ?_
  refine Fo.no rfl rfl ?_
  refine Fo.no rfl rfl ?_
  refine Fo.no rfl rfl ?_
  refine fB rfl rfl ?_
  refine mB rfl ?_
  refine WpO.nil (hKF _ _ ?_)
  refine Wp.ret ?_
  dsimp only [cond_true, cond_false]
  refine ⟨trivial, _, (by first | rfl | exact getAllC rfl rfl rfl rfl | exact getAllT rfl (getAllC rfl rfl rfl rfl) | exact getAllC rfl rfl rfl (getAllC rfl rfl rfl rfl) | exact getAllC1 rfl rfl rfl), ?_⟩
  exact ⟨rfl, Ext0.ext⟩
 ·skip
  try simp only [↓nrmL, nrmZ, Nat.reduceEqDiff, ↓reduceIte, Nat.reduceAdd, Int.reduceBEq, Int.reduceBNe, h1]
  refine sq ?_
  refine rg fun KF hKF => ?_
  refine mB rfl ?_
  refine WpO.nil (hKF _ _ ?_)
  refine sq ?_
  refine rg fun KF hKF => ?_
  refine mI rfl ?_
  refine mI rfl ?_
  refine Fo.bin rfl rfl rfl (by simp only [↓nrmL, nrmZ, Nat.reduceEqDiff, ↓reduceIte, Nat.reduceAdd, Int.reduceBEq, Int.reduceBNe, h1]; rfl) ?_
  refine mB rfl ?_
  refine Fo.yes rfl rfl ?_
  refine mI rfl ?_
  refine Fo.yes rfl rfl ?_
  refine mI rfl ?_
  refine Fo.yes rfl rfl ?_
  refine Fo.bin rfl rfl rfl rfl ?_
  refine tB rfl rfl ?_
  refine mB rfl ?_
  refine WpO.nil (hKF _ _ ?_)
  refine Wp.ret ?_
  dsimp only [cond_true, cond_false]
  refine ⟨trivial, _, (by first | rfl | exact getAllC rfl rfl rfl rfl | exact getAllT rfl (getAllC rfl rfl rfl rfl) | exact getAllC rfl rfl rfl (getAllC rfl rfl rfl rfl) | exact getAllC1 rfl rfl rfl), ?_⟩
  exact ⟨rfl, Ext0.ext⟩⟩

/-- A number without its sign. -/
def absU (n : Int) : Nat := n.natAbs % 2 ^ 64
theorem absU_lt (n : Int) : absU n < 2 ^ 64 := Nat.mod_lt _ (by decide)
end Go.Am

set_option maxHeartbeats 4000000
set_option maxRecDepth 100000
namespace Go.Am
open Go
attribute [local irreducible] Wp WpO WpX WpE

class U64 (n : Nat) : Prop where
 lt : n < 2 ^ 64
instance {n : Int} : U64 (absU n) := ⟨absU_lt n⟩
end Go.Am

set_option maxHeartbeats 4000000
set_option maxRecDepth 100000
namespace Go.Am
open Go
attribute [local irreducible] Wp WpO WpX WpE

end Go.Am

set_option maxHeartbeats 4000000
set_option maxRecDepth 100000
namespace Go.Am
open Go
attribute [local irreducible] Wp WpO WpX WpE

end Go.Am

set_option maxHeartbeats 4000000
set_option maxRecDepth 100000
namespace Go.Am
open Go
attribute [local irreducible] Wp WpO WpX WpE

instance {x : Int} : R64 (IntKind.i64.wrap x) := wrap64 x
end Go.Am

/- Loops of a few rounds, one by one; comparisons of pairs. -/
namespace Go.Am
open Go
section
variable {call : ACall} {lf : Nat} {fr : AFrame} {H : AHeap} {Q : RExit → AFrame → AHeap → Prop} {b : RCode}
/-- The rounds that are left. -/
def WpN (call : ACall) (lf : Nat) (b : RCode) (k : Nat) (fr : AFrame) (H : AHeap) (Q : RExit → AFrame → AHeap → Prop) : Prop := ∃ x fr' H', loopN (b.exec call lf) k fr H = some ((x, fr'), H') ∧ Q x fr' H'
theorem Wp.rounds (h : WpN call lf b lf fr H Q) : Wp call lf (.loop b) fr H Q := h
theorem WpN.round {k : Nat} (hk : 0 < k) (h : Wp call lf b fr H fun x fr' H' => match x with | .normal => WpN call lf b (k - 1) fr' H' Q | e => Q e fr' H') : WpN call lf b k fr H Q := by
  obtain ⟨j, rfl⟩ : ∃ j, k = j + 1 := ⟨k - 1, by omega⟩
  obtain ⟨x, fr', H', h1, h2⟩ := h
  cases x with
  | normal =>
    obtain ⟨y, f2, H2, h3, h4⟩ := h2
    refine ⟨y, f2, H2, ?_, h4⟩
    simp only [loopN, M.bind, h1]
    exact h3
  | exit id => exact ⟨_, _, _, by simp only [loopN, M.bind, h1, M.pure], h2⟩
  | ret => exact ⟨_, _, _, by simp only [loopN, M.bind, h1, M.pure], h2⟩

theorem exec_eqT {neg : Bool} {d : EqDesc} {x y : ROpd} {a b : AVal} {r : Bool} (hx : x.ev fr = a) (hy : y.ev fr = b) (h : aEq d a b = some r) : (ROp.eq neg d x y).exec call fr H = some (.bool (match neg with | true => !r | false => r), H) := by
  subst hx hy
  simp only [ROp.exec, h, M.pure]; cases neg <;> rfl
end
theorem bneS (x : Int) : (x != x) = false := by simp
theorem beqS (x : Int) : (x == x) = true := by simp
end Go.Am

set_option maxHeartbeats 4000000
set_option maxRecDepth 100000
set_option synthInstance.maxHeartbeats 2000000
set_option synthInstance.maxSize 4096
namespace Go.Am
open Go
attribute [local irreducible] Wp WpO WpX WpE

instance : R64 1 := ⟨by omega, by omega⟩
instance : R64 2 := ⟨by omega, by omega⟩
instance : R64 3 := ⟨by omega, by omega⟩
instance : R64 4 := ⟨by omega, by omega⟩
instance : R64 8 := ⟨by omega, by omega⟩
instance : R64 16 := ⟨by omega, by omega⟩
end Go.Am

set_option maxHeartbeats 4000000
set_option maxRecDepth 100000
set_option synthInstance.maxHeartbeats 2000000
set_option synthInstance.maxSize 4096
namespace Go.Am
open Go
attribute [local irreducible] Wp WpO WpX WpE

/-- One of the first numbers of a list. -/
def hasN (l : List Int) (k : Nat) (x : Int) : Bool := (l.take k).any (x == ·)
theorem hasN_succ {l : List Int} {k : Nat} {x : Int} (h : k < l.length) : hasN l (k + 1) x = (hasN l k x || x == l[k]) := by
 unfold hasN
 rw [List.take_succ_eq_append_getElem h, List.any_append]
 simp
theorem hasN_mono {l : List Int} {i k : Nat} {x : Int} (h : hasN l i x = true) (hk : i ≤ k) : hasN l k x = true := by
 unfold hasN at *
 obtain ⟨y, hy, e⟩ := List.any_eq_true.1 h
 refine List.any_eq_true.2 ⟨y, ?_, e⟩
 have : l.take i = (l.take k).take i := by rw [List.take_take, Nat.min_eq_left hk]
 rw [this] at hy
 exact List.mem_of_mem_take hy
theorem K_Index {r k : Nat} {a b c d x : Int} {rw : Bool} {e : TypeId} {H : AHeap} [hr : HasRow H r [.int .i64 a, .int .i64 b, .int .i64 c, .int .i64 d] rw e] (hk : k ≤ 4) :
  Con ext prog 1 122 [.slice r 0 k (some 4) 1, .int .i64 x] H fun v H' => (∃ j, v = .int .i64 j ∧ decide (j ≥ 0) = hasN [a, b, c, d] k x) ∧ Ext H H' := by
 refine con_of (show prog 122 = some c122 from rfl) rfl rfl fun m hn => ?_
 refine sq ?_
 refine rg fun KF hKF => ?_
 refine mI rfl ?_
 refine WpO.nil (hKF _ _ ?_)
 refine sq ?_
 refine sq ?_
 refine rg fun KF hKF => ?_
 refine Fo.mov (by simp only [↓nrmL, nrmK, Nat.reduceEqDiff, ↓reduceIte]; rfl) ?_
 refine Fo.now rfl rfl rfl ?_
 refine mI rfl ?_
 refine WpO.nil (hKF _ _ ?_)
 refine Wp.block ?_
 dsimp only [cond_true, cond_false]
 refine Wp.loopS [4, 5, 8, 9, 10, 11, 12, 13, 14, 15, 16, 17, 18] (fun i : Nat => [(8, .int .i64 (i : Int))]) (fun H3 i H2 => i ≤ k ∧ hasN [a, b, c, d] i x = false ∧ H2 = H3) (fun i => k - i) 0 rfl (fun _ => rfl) ⟨rfl, trivial⟩ ⟨Nat.zero_le _, rfl, rfl⟩ (by unfold fuel0 at hn; omega) ?_
 rintro i g H2 ⟨hi, hno, rfl⟩
 simp only [↓nrmL, nrmZ, Nat.reduceEqDiff, ↓reduceIte, Nat.reduceAdd, Int.reduceBEq, Int.reduceBNe]
 by_cases hik : i < k
 ·have h1 : decide ((i : Int) < (k : Int)) = true := by simp; omega
  have wk : IntKind.i64.wrap ((i : Int) + 1) = ((i + 1 : Nat) : Int) := by rw [w64r (by omega) (by omega)]; omega
  try simp only [↓nrmL, nrmZ, Nat.reduceEqDiff, ↓reduceIte, Nat.reduceAdd, Int.reduceBEq, Int.reduceBNe, h1]
  refine sq ?_
  refine rg fun KF hKF => ?_
  refine Fo.bin rfl rfl rfl (by simp only [↓nrmL, nrmZ, Nat.reduceEqDiff, ↓reduceIte, Nat.reduceAdd, Int.reduceBEq, Int.reduceBNe, h1]; rfl) ?_
  refine WpO.nil (hKF _ _ ?_)
  refine sq ?_
  refine Wp.cond (b := true) rfl ?_
  refine Wp.skip ?_
  refine sq ?_
  refine Wp.block ?_
  refine sq ?_
  refine rg fun KF hKF => ?_
  refine mI rfl ?_
  refine mI rfl ?_
  refine WpO.nil (hKF _ _ ?_)
  refine sq ?_
  refine rg fun KF hKF => ?_
  refine mI rfl ?_
  refine Fo.mov (by simp only [↓nrmL, nrmK, Nat.reduceEqDiff, ↓reduceIte]; rfl) ?_
  refine mI rfl ?_
  refine WpO.do (WpX.idxS rfl rfl (by omega) (by omega) ?_)
  rcases (show i = 0 ∨ i = 1 ∨ i = 2 ∨ i = 3 by omega) with rfl | rfl | rfl | rfl
  ·cases h2 : x == a
   ·skip
    try simp only [↓nrmL, nrmZ, Nat.reduceEqDiff, ↓reduceIte, Nat.reduceAdd, Int.reduceBEq, Int.reduceBNe, h2, wk]
    refine Fo.ld rfl rfl ?_
    refine Fo.bin rfl rfl rfl (by simp only [↓nrmL, nrmZ, Nat.reduceEqDiff, ↓reduceIte, Nat.reduceAdd, Int.reduceBEq, Int.reduceBNe, h2, wk]; rfl) ?_
    refine WpO.nil (hKF _ _ ?_)
    refine Wp.cond (b := false) rfl ?_
    refine Wp.skip ?_
    refine rg fun KF hKF => ?_
    refine Fo.bin rfl rfl rfl (by simp only [↓nrmL, nrmZ, Nat.reduceEqDiff, ↓reduceIte, Nat.reduceAdd, Int.reduceBEq, Int.reduceBNe, h2, wk]; rfl) ?_
    refine mI rfl ?_
    refine WpO.nil (hKF _ _ ?_)
    dsimp only [cond_true, cond_false]
    exact ⟨1, by omega, ⟨rfl, trivial⟩, by omega, by rw [hasN_succ (by simp), hno]; simpa using h2, rfl⟩
   ·skip
    try simp only [↓nrmL, nrmZ, Nat.reduceEqDiff, ↓reduceIte, Nat.reduceAdd, Int.reduceBEq, Int.reduceBNe, h2]
    refine Fo.ld rfl rfl ?_
    refine Fo.bin rfl rfl rfl (by simp only [↓nrmL, nrmZ, Nat.reduceEqDiff, ↓reduceIte, Nat.reduceAdd, Int.reduceBEq, Int.reduceBNe, h2]; rfl) ?_
    refine WpO.nil (hKF _ _ ?_)
    refine Wp.cond (b := true) rfl ?_
    refine sq ?_
    refine rg fun KF hKF => ?_
    refine mI rfl ?_
    refine mI rfl ?_
    refine WpO.nil (hKF _ _ ?_)
    refine Wp.ret ?_
    dsimp only [cond_true, cond_false]
    refine ⟨trivial, _, (by first | rfl | exact getAllC rfl rfl rfl rfl | exact getAllT rfl (getAllC rfl rfl rfl rfl) | exact getAllC rfl rfl rfl (getAllC rfl rfl rfl rfl) | exact getAllC1 rfl rfl rfl), ?_⟩
    exact ⟨⟨_, rfl, by rw [hasN_mono (i := 1) (by rw [hasN_succ (by simp), hno]; simpa using h2) (by omega)]; rfl⟩, Ext.refl _⟩
  ·cases h2 : x == b
   ·skip
    try simp only [↓nrmL, nrmZ, Nat.reduceEqDiff, ↓reduceIte, Nat.reduceAdd, Int.reduceBEq, Int.reduceBNe, h2, wk]
    refine Fo.ld rfl rfl ?_
    refine Fo.bin rfl rfl rfl (by simp only [↓nrmL, nrmZ, Nat.reduceEqDiff, ↓reduceIte, Nat.reduceAdd, Int.reduceBEq, Int.reduceBNe, h2, wk]; rfl) ?_
    refine WpO.nil (hKF _ _ ?_)
    refine Wp.cond (b := false) rfl ?_
    refine Wp.skip ?_
    refine rg fun KF hKF => ?_
    refine Fo.bin rfl rfl rfl (by simp only [↓nrmL, nrmZ, Nat.reduceEqDiff, ↓reduceIte, Nat.reduceAdd, Int.reduceBEq, Int.reduceBNe, h2, wk]; rfl) ?_
    refine mI rfl ?_
    refine WpO.nil (hKF _ _ ?_)
    dsimp only [cond_true, cond_false]
    exact ⟨2, by omega, ⟨rfl, trivial⟩, by omega, by rw [hasN_succ (by simp), hno]; simpa using h2, rfl⟩
   ·skip
    try simp only [↓nrmL, nrmZ, Nat.reduceEqDiff, ↓reduceIte, Nat.reduceAdd, Int.reduceBEq, Int.reduceBNe, h2]
    refine Fo.ld rfl rfl ?_
    refine Fo.bin rfl rfl rfl (by simp only [↓nrmL, nrmZ, Nat.reduceEqDiff, ↓reduceIte, Nat.reduceAdd, Int.reduceBEq, Int.reduceBNe, h2]; rfl) ?_
    refine WpO.nil (hKF _ _ ?_)
    refine Wp.cond (b := true) rfl ?_
    refine sq ?_
    refine rg fun KF hKF => ?_
    refine mI rfl ?_
    refine mI rfl ?_
    refine WpO.nil (hKF _ _ ?_)
    refine Wp.ret ?_
    dsimp only [cond_true, cond_false]
    refine ⟨trivial, _, (by first | rfl | exact getAllC rfl rfl rfl rfl | exact getAllT rfl (getAllC rfl rfl rfl rfl) | exact getAllC rfl rfl rfl (getAllC rfl rfl rfl rfl) | exact getAllC1 rfl rfl rfl), ?_⟩
    exact ⟨⟨_, rfl, by rw [hasN_mono (i := 2) (by rw [hasN_succ (by simp), hno]; simpa using h2) (by omega)]; rfl⟩, Ext.refl _⟩
  ·cases h2 : x == c
   ·skip
    try simp only [↓nrmL, nrmZ, Nat.reduceEqDiff, ↓reduceIte, Nat.reduceAdd, Int.reduceBEq, Int.reduceBNe, h2, wk]
    refine Fo.ld rfl rfl ?_
    refine Fo.bin rfl rfl rfl (by simp only [↓nrmL, nrmZ, Nat.reduceEqDiff, ↓reduceIte, Nat.reduceAdd, Int.reduceBEq, Int.reduceBNe, h2, wk]; rfl) ?_
    refine WpO.nil (hKF _ _ ?_)
    refine Wp.cond (b := false) rfl ?_
    refine Wp.skip ?_
    refine rg fun KF hKF => ?_
    refine Fo.bin rfl rfl rfl (by simp only [↓nrmL, nrmZ, Nat.reduceEqDiff, ↓reduceIte, Nat.reduceAdd, Int.reduceBEq, Int.reduceBNe, h2, wk]; rfl) ?_
    refine mI rfl ?_
    refine WpO.nil (hKF _ _ ?_)
    dsimp only [cond_true, cond_false]
    exact ⟨3, by omega, ⟨rfl, trivial⟩, by omega, by rw [hasN_succ (by simp), hno]; simpa using h2, rfl⟩
   ·skip
    try simp only [↓nrmL, nrmZ, Nat.reduceEqDiff, ↓reduceIte, Nat.reduceAdd, Int.reduceBEq, Int.reduceBNe, h2]
    refine Fo.ld rfl rfl ?_
    refine Fo.bin rfl rfl rfl (by simp only [↓nrmL, nrmZ, Nat.reduceEqDiff, ↓reduceIte, Nat.reduceAdd, Int.reduceBEq, Int.reduceBNe, h2]; rfl) ?_
    refine WpO.nil (hKF _ _ ?_)
    refine Wp.cond (b := true) rfl ?_
    refine sq ?_
    refine rg fun KF hKF => ?_
    refine mI rfl ?_
    refine mI rfl ?_
    refine WpO.nil (hKF _ _ ?_)
    refine Wp.ret ?_
    dsimp only [cond_true, cond_false]
    refine ⟨trivial, _, (by first | rfl | exact getAllC rfl rfl rfl rfl | exact getAllT rfl (getAllC rfl rfl rfl rfl) | exact getAllC rfl rfl rfl (getAllC rfl rfl rfl rfl) | exact getAllC1 rfl rfl rfl), ?_⟩
    exact ⟨⟨_, rfl, by rw [hasN_mono (i := 3) (by rw [hasN_succ (by simp), hno]; simpa using h2) (by omega)]; rfl⟩, Ext.refl _⟩
  ·cases h2 : x == d
   ·skip
    try simp only [↓nrmL, nrmZ, Nat.reduceEqDiff, ↓reduceIte, Nat.reduceAdd, Int.reduceBEq, Int.reduceBNe, h2, wk]
    refine Fo.ld rfl rfl ?_
    refine Fo.bin rfl rfl rfl (by simp only [↓nrmL, nrmZ, Nat.reduceEqDiff, ↓reduceIte, Nat.reduceAdd, Int.reduceBEq, Int.reduceBNe, h2, wk]; rfl) ?_
    refine WpO.nil (hKF _ _ ?_)
    refine Wp.cond (b := false) rfl ?_
    refine Wp.skip ?_
    refine rg fun KF hKF => ?_
    refine Fo.bin rfl rfl rfl (by simp only [↓nrmL, nrmZ, Nat.reduceEqDiff, ↓reduceIte, Nat.reduceAdd, Int.reduceBEq, Int.reduceBNe, h2, wk]; rfl) ?_
    refine mI rfl ?_
    refine WpO.nil (hKF _ _ ?_)
    dsimp only [cond_true, cond_false]
    exact ⟨4, by omega, ⟨rfl, trivial⟩, by omega, by rw [hasN_succ (by simp), hno]; simpa using h2, rfl⟩
   ·skip
    try simp only [↓nrmL, nrmZ, Nat.reduceEqDiff, ↓reduceIte, Nat.reduceAdd, Int.reduceBEq, Int.reduceBNe, h2]
    refine Fo.ld rfl rfl ?_
    refine Fo.bin rfl rfl rfl (by simp only [↓nrmL, nrmZ, Nat.reduceEqDiff, ↓reduceIte, Nat.reduceAdd, Int.reduceBEq, Int.reduceBNe, h2]; rfl) ?_
    refine WpO.nil (hKF _ _ ?_)
    refine Wp.cond (b := true) rfl ?_
    refine sq ?_
    refine rg fun KF hKF => ?_
    refine mI rfl ?_
    refine mI rfl ?_
    refine WpO.nil (hKF _ _ ?_)
    refine Wp.ret ?_
    dsimp only [cond_true, cond_false]
    refine ⟨trivial, _, (by first | rfl | exact getAllC rfl rfl rfl rfl | exact getAllT rfl (getAllC rfl rfl rfl rfl) | exact getAllC rfl rfl rfl (getAllC rfl rfl rfl rfl) | exact getAllC1 rfl rfl rfl), ?_⟩
    exact ⟨⟨_, rfl, by rw [hasN_mono (i := 4) (by rw [hasN_succ (by simp), hno]; simpa using h2) (by omega)]; rfl⟩, Ext.refl _⟩
 ·have hik' : i = k := by omega
  subst hik'
  have h1 : decide ((i : Int) < (i : Int)) = false := by simp
  try simp only [↓nrmL, nrmZ, Nat.reduceEqDiff, ↓reduceIte, Nat.reduceAdd, Int.reduceBEq, Int.reduceBNe, h1]
  refine sq ?_
  refine rg fun KF hKF => ?_
  refine Fo.bin rfl rfl rfl (by simp only [↓nrmL, nrmZ, Nat.reduceEqDiff, ↓reduceIte, Nat.reduceAdd, Int.reduceBEq, Int.reduceBNe, h1]; rfl) ?_
  refine WpO.nil (hKF _ _ ?_)
  refine sq ?_
  refine Wp.cond (b := false) rfl ?_
  refine Wp.exit ?_
  refine sq ?_
  refine rg fun KF hKF => ?_
  refine mI rfl ?_
  refine WpO.nil (hKF _ _ ?_)
  refine Wp.ret ?_
  dsimp only [cond_true, cond_false]
  refine ⟨trivial, _, (by first | rfl | exact getAllC rfl rfl rfl rfl | exact getAllT rfl (getAllC rfl rfl rfl rfl) | exact getAllC rfl rfl rfl (getAllC rfl rfl rfl rfl) | exact getAllC1 rfl rfl rfl), ?_⟩
  exact ⟨⟨_, rfl, by rw [hno]; rfl⟩, Ext.refl _⟩
theorem K_Contains {r k : Nat} {a b c d x : Int} {rw : Bool} {e : TypeId} {H : AHeap} [hr : HasRow H r [.int .i64 a, .int .i64 b, .int .i64 c, .int .i64 d] rw e] (hk : k ≤ 4) :
  PureCon ext prog 116 [.slice r 0 k (some 4) 1, .int .i64 x] H 2 (.bool (hasN [a, b, c, d] k x)) := ⟨by
 refine con_of (show prog 116 = some c116 from rfl) rfl rfl fun m hn => ?_
 refine sq ?_
 refine rg fun KF hKF => ?_
 refine mB rfl ?_
 refine WpO.nil (hKF _ _ ?_)
 refine sq ?_
 refine rg fun KF hKF => ?_
 refine Fo.mov (by simp only [↓nrmL, nrmK, Nat.reduceEqDiff, ↓reduceIte]; rfl) ?_
 refine mI rfl ?_
 refine WpO.do (WpX.conD hn rfl rfl (by simp only [↓nrmL, nrmZ, Nat.reduceEqDiff, ↓reduceIte, Nat.reduceAdd, Int.reduceBEq, Int.reduceBNe, List.map] <;> rfl) (K_Index hk) fun v H5 h5 => ?_)
 obtain ⟨⟨j, rfl, hj⟩, hx⟩ := h5
 haveI : ExtI _ H5 := ⟨hx⟩
 try simp only [↓nrmL, nrmZ, Nat.reduceEqDiff, ↓reduceIte, Nat.reduceAdd, Int.reduceBEq, Int.reduceBNe, hj]
 refine Fo.bin rfl rfl rfl (by simp only [↓nrmL, nrmZ, Nat.reduceEqDiff, ↓reduceIte, Nat.reduceAdd, Int.reduceBEq, Int.reduceBNe, hj]; rfl) ?_
 refine mB rfl ?_
 refine WpO.nil (hKF _ _ ?_)
 refine Wp.ret ?_
 dsimp only [cond_true, cond_false]
 refine ⟨trivial, _, (by first | rfl | exact getAllC rfl rfl rfl rfl | exact getAllT rfl (getAllC rfl rfl rfl rfl) | exact getAllC rfl rfl rfl (getAllC rfl rfl rfl rfl) | exact getAllC1 rfl rfl rfl), ?_⟩
 exact ⟨rfl, Ext0.ext⟩⟩
instance {r : Nat} {a b c d x : Int} {rw : Bool} {e : TypeId} {H : AHeap} [hr : HasRow H r [.int .i64 a, .int .i64 b, .int .i64 c, .int .i64 d] rw e] : PureCon ext prog 116 [.slice r 0 1 (some 4) 1, .int .i64 x] H 2 (.bool (hasN [a, b, c, d] 1 x)) := K_Contains (by omega)
instance {r : Nat} {a b c d x : Int} {rw : Bool} {e : TypeId} {H : AHeap} [hr : HasRow H r [.int .i64 a, .int .i64 b, .int .i64 c, .int .i64 d] rw e] : PureCon ext prog 116 [.slice r 0 2 (some 4) 1, .int .i64 x] H 2 (.bool (hasN [a, b, c, d] 2 x)) := K_Contains (by omega)
instance {r : Nat} {a b c d x : Int} {rw : Bool} {e : TypeId} {H : AHeap} [hr : HasRow H r [.int .i64 a, .int .i64 b, .int .i64 c, .int .i64 d] rw e] : PureCon ext prog 116 [.slice r 0 3 (some 4) 1, .int .i64 x] H 2 (.bool (hasN [a, b, c, d] 3 x)) := K_Contains (by omega)
instance {r : Nat} {a b c d x : Int} {rw : Bool} {e : TypeId} {H : AHeap} [hr : HasRow H r [.int .i64 a, .int .i64 b, .int .i64 c, .int .i64 d] rw e] : PureCon ext prog 116 [.slice r 0 4 (some 4) 1, .int .i64 x] H 2 (.bool (hasN [a, b, c, d] 4 x)) := K_Contains (by omega)
end Go.Am

set_option maxHeartbeats 4000000
set_option maxRecDepth 100000
set_option synthInstance.maxHeartbeats 2000000
set_option synthInstance.maxSize 4096
namespace Go.Am
open Go
attribute [local irreducible] Wp WpO WpX WpE

def keyB (k : Int) : Bool := withinB k (-4) 4
def stepB (s : Int) : Bool := withinB s 0 69
def altB (a : Int) : Bool := withinB a (-1) 1
instance K_isKey {k : Int} {H : AHeap} : PureCon ext prog 89 [.int .i64 k] H 2 (.bool (keyB k)) := ⟨by
 refine con_of (show prog 89 = some c89 from rfl) rfl rfl fun m hn => ?_
 unfold keyB
 refine sq ?_
 refine rg fun KF hKF => ?_
 refine mB rfl ?_
 refine WpO.nil (hKF _ _ ?_)
 refine sq ?_
 refine rg fun KF hKF => ?_
 refine mI rfl ?_
 refine Fo.pcall (v' := ?_) hn rfl (by simp only [↓nrmL, nrmZ, Nat.reduceEqDiff, ↓reduceIte, Nat.reduceAdd, Int.reduceBEq, Int.reduceBNe, List.map]; rfl) rfl ?hv fun _ _ => ?_; case hv => rfl
 refine mB rfl ?_
 refine WpO.nil (hKF _ _ ?_)
 refine Wp.ret ?_
 dsimp only [cond_true, cond_false]
 refine ⟨trivial, _, (by first | rfl | exact getAllC rfl rfl rfl rfl | exact getAllT rfl (getAllC rfl rfl rfl rfl) | exact getAllC rfl rfl rfl (getAllC rfl rfl rfl rfl) | exact getAllC1 rfl rfl rfl), ?_⟩
 exact ⟨rfl, Ext0.ext⟩⟩
instance K_isStep {k : Int} {H : AHeap} : PureCon ext prog 92 [.int .i64 k] H 2 (.bool (stepB k)) := ⟨by
 refine con_of (show prog 92 = some c92 from rfl) rfl rfl fun m hn => ?_
 unfold stepB
 refine sq ?_
 refine rg fun KF hKF => ?_
 refine mB rfl ?_
 refine WpO.nil (hKF _ _ ?_)
 refine sq ?_
 refine rg fun KF hKF => ?_
 refine mI rfl ?_
 refine Fo.pcall (v' := ?_) hn rfl (by simp only [↓nrmL, nrmZ, Nat.reduceEqDiff, ↓reduceIte, Nat.reduceAdd, Int.reduceBEq, Int.reduceBNe, List.map]; rfl) rfl ?hv fun _ _ => ?_; case hv => rfl
 refine mB rfl ?_
 refine WpO.nil (hKF _ _ ?_)
 refine Wp.ret ?_
 dsimp only [cond_true, cond_false]
 refine ⟨trivial, _, (by first | rfl | exact getAllC rfl rfl rfl rfl | exact getAllT rfl (getAllC rfl rfl rfl rfl) | exact getAllC rfl rfl rfl (getAllC rfl rfl rfl rfl) | exact getAllC1 rfl rfl rfl), ?_⟩
 exact ⟨rfl, Ext0.ext⟩⟩
instance K_isAlteration {k : Int} {H : AHeap} : PureCon ext prog 93 [.int .i64 k] H 2 (.bool (altB k)) := ⟨by
 refine con_of (show prog 93 = some c93 from rfl) rfl rfl fun m hn => ?_
 unfold altB
 refine sq ?_
 refine rg fun KF hKF => ?_
 refine mB rfl ?_
 refine WpO.nil (hKF _ _ ?_)
 refine sq ?_
 refine rg fun KF hKF => ?_
 refine mI rfl ?_
 refine Fo.pcall (v' := ?_) hn rfl (by simp only [↓nrmL, nrmZ, Nat.reduceEqDiff, ↓reduceIte, Nat.reduceAdd, Int.reduceBEq, Int.reduceBNe, List.map]; rfl) rfl ?hv fun _ _ => ?_; case hv => rfl
 refine mB rfl ?_
 refine WpO.nil (hKF _ _ ?_)
 refine Wp.ret ?_
 dsimp only [cond_true, cond_false]
 refine ⟨trivial, _, (by first | rfl | exact getAllC rfl rfl rfl rfl | exact getAllT rfl (getAllC rfl rfl rfl rfl) | exact getAllC rfl rfl rfl (getAllC rfl rfl rfl rfl) | exact getAllC1 rfl rfl rfl), ?_⟩
 exact ⟨rfl, Ext0.ext⟩⟩
instance K_isAccidental {k : Int} {H : AHeap} : PureCon ext prog 95 [.int .i64 k] H 2 (.bool (withinB k 0 3)) := ⟨by
 refine con_of (show prog 95 = some c95 from rfl) rfl rfl fun m hn => ?_
 refine sq ?_
 refine rg fun KF hKF => ?_
 refine mB rfl ?_
 refine WpO.nil (hKF _ _ ?_)
 refine sq ?_
 refine rg fun KF hKF => ?_
 refine mI rfl ?_
 refine Fo.pcall (v' := ?_) hn rfl (by simp only [↓nrmL, nrmZ, Nat.reduceEqDiff, ↓reduceIte, Nat.reduceAdd, Int.reduceBEq, Int.reduceBNe, List.map]; rfl) rfl ?hv fun _ _ => ?_; case hv => rfl
 refine mB rfl ?_
 refine WpO.nil (hKF _ _ ?_)
 refine Wp.ret ?_
 dsimp only [cond_true, cond_false]
 refine ⟨trivial, _, (by first | rfl | exact getAllC rfl rfl rfl rfl | exact getAllT rfl (getAllC rfl rfl rfl rfl) | exact getAllC rfl rfl rfl (getAllC rfl rfl rfl rfl) | exact getAllC1 rfl rfl rfl), ?_⟩
 exact ⟨rfl, Ext0.ext⟩⟩
class KeyI (k : Int) : Prop where
 lo : -4 ≤ k
 hi : k ≤ 4
theorem keyI_of {k : Int} (h : keyB k = true) : KeyI k := by
 unfold keyB withinB at h
 simp only [Bool.and_eq_true, decide_eq_true_eq] at h
 exact ⟨h.1, h.2⟩
/-- The alteration of a step in a key. -/
def alterS (k s : Int) : Int :=
 bif decide (k > 0) && hasN [3, 0, 4, 1] k.toNat (s.tmod 7) then 1 else bif decide (k < 0) && hasN [6, 2, 5, 1] (-k).toNat (s.tmod 7) then -1 else 0
theorem exec_sliceArr4 {call : ACall} {fr : AFrame} {H : AHeap} {x y : ROpd} {r k : Nat} (hx : x.ev fr = .ptr r 0) (hy : y.ev fr = .int .i64 (k : Int)) (hk : k ≤ 4) : (ROp.sliceArr 4 1 x none (some y) none).exec call fr H = some (.slice r 0 k (some 4) 1, H) := by
 have h1 : aBound 4 (.int .i64 (k : Int)) = some k := by
  simp only [aBound]; rw [if_pos (by omega)]; simp
 simp only [ROp.exec, hx, hy, aSliceArr, Option.map_some, Option.map_none, aBounds, aHigh, capD, h1, aLow, M.ofOption, M.pure]
 rfl
instance K_alter {k s : Int} {H : AHeap} [hk : KeyI k] : PureCon ext prog 91 [.agg [.int .i64 k], .int .i64 s] H 3 (.int .i64 (alterS k s)) := ⟨by
 refine con_of (show prog 91 = some c91 from rfl) rfl rfl fun m hn => ?_
 have := hk.lo; have := hk.hi
 rcases Int.lt_trichotomy k 0 with h | h | h
 ·obtain ⟨j, rfl⟩ : ∃ j : Nat, k = -(j : Int) := ⟨(-k).toNat, by omega⟩
  have h1 : decide (-(j : Int) > 0) = false := decide_eq_false (by omega)
  have h2 : decide (-(j : Int) < 0) = true := decide_eq_true (by omega)
  have h3 : IntKind.i64.wrap (0 - -(j : Int)) = (j : Int) := by rw [w64r (by omega) (by omega)]; omega
  have ht : (- -(j : Int)).toNat = j := by omega
  have e : alterS (-(j : Int)) s = bif hasN [6, 2, 5, 1] j (s.tmod 7) then -1 else 0 := by unfold alterS; rw [h1, h2, ht]; rfl
  haveI hc : ∀ {r : Nat} {a b c d x : Int} {rw : Bool} {e : TypeId} {H : AHeap} [HasRow H r [.int .i64 a, .int .i64 b, .int .i64 c, .int .i64 d] rw e], PureCon ext prog 116 [.slice r 0 j (some 4) 1, .int .i64 x] H 2 (.bool (hasN [a, b, c, d] j x)) := K_Contains (by omega)
  cases h4 : hasN [6, 2, 5, 1] j (s.tmod 7)
  ·skip
   try simp only [↓nrmL, nrmZ, Nat.reduceEqDiff, ↓reduceIte, Nat.reduceAdd, Int.reduceBEq, Int.reduceBNe, h1, h2, h3]
   refine sq ?_
   refine rg fun KF hKF => ?_
   refine Fo.boxA rfl ?_
   refine mI rfl ?_
   refine WpO.nil (hKF _ _ ?_)
   refine sq ?_
   refine rg fun KF hKF => ?_
   refine Fo.build (by repeat (first | refine aFill1 (by first | exact (rfl : _ = AVal.int _ _) | exact (rfl : _ = AVal.ptr _ _) | exact (rfl : _ = AVal.bool _) | exact (rfl : _ = AVal.agg _) | exact (rfl : _ = AVal.tuple _) | exact (rfl : _ = AVal.func _ _ _) | exact (rfl : _ = AVal.nslice) | ((try simp only [↓nrmL, nrmK, Nat.reduceEqDiff, ↓reduceIte]); rfl)) rfl ?_ | rfl)) (by simp only [↓nrmL, nrmZ, Nat.reduceEqDiff, ↓reduceIte, Nat.reduceAdd, Int.reduceBEq, Int.reduceBNe, h1, h2, h3]; rfl) ?_
   refine Fo.new ?_
   refine Fo.st rfl (rfl : _ = AVal.agg _) rfl rfl rfl (by repeat (first | rfl | refine allOne_cons ?_)) (by simp only [↓nrmL, nrmZ, Nat.reduceEqDiff, ↓reduceIte, Nat.reduceAdd, Int.reduceBEq, Int.reduceBNe, h1, h2, h3]; rfl) ?_
   refine WpO.nil (hKF _ _ ?_)
   refine sq ?_
   refine rg fun KF hKF => ?_
   refine Fo.build (by repeat (first | refine aFill1 (by first | exact (rfl : _ = AVal.int _ _) | exact (rfl : _ = AVal.ptr _ _) | exact (rfl : _ = AVal.bool _) | exact (rfl : _ = AVal.agg _) | exact (rfl : _ = AVal.tuple _) | exact (rfl : _ = AVal.func _ _ _) | exact (rfl : _ = AVal.nslice) | ((try simp only [↓nrmL, nrmK, Nat.reduceEqDiff, ↓reduceIte]); rfl)) rfl ?_ | rfl)) (by simp only [↓nrmL, nrmZ, Nat.reduceEqDiff, ↓reduceIte, Nat.reduceAdd, Int.reduceBEq, Int.reduceBNe, h1, h2, h3]; rfl) ?_
   refine Fo.new ?_
   refine Fo.st rfl (rfl : _ = AVal.agg _) rfl rfl rfl (by repeat (first | rfl | refine allOne_cons ?_)) (by simp only [↓nrmL, nrmZ, Nat.reduceEqDiff, ↓reduceIte, Nat.reduceAdd, Int.reduceBEq, Int.reduceBNe, h1, h2, h3]; rfl) ?_
   refine WpO.nil (hKF _ _ ?_)
   refine sq ?_
   refine rg fun KF hKF => ?_
   refine mI rfl ?_
   refine Fo.bin rfl rfl rfl rfl ?_
   refine mI rfl ?_
   refine WpO.nil (hKF _ _ ?_)
   refine sq ?_
   refine Wp.block ?_
   refine sq ?_
   refine rg fun KF hKF => ?_
   refine Fo.fa rfl ?_
   refine Fo.ld rfl rfl ?_
   refine Fo.bin rfl rfl rfl (by simp only [↓nrmL, nrmZ, Nat.reduceEqDiff, ↓reduceIte, Nat.reduceAdd, Int.reduceBEq, Int.reduceBNe, h1, h2, h3]; rfl) ?_
   refine mB rfl ?_
   refine Fo.no rfl rfl ?_
   refine Fo.no rfl rfl ?_
   refine Fo.no rfl rfl ?_
   refine Fo.no rfl rfl ?_
   refine Fo.no rfl rfl ?_
   refine fB rfl rfl ?_
   refine mB rfl ?_
   refine WpO.nil (hKF _ _ ?_)
   refine Wp.cond (b := false) rfl ?_
   refine sq ?_
   refine rg fun KF hKF => ?_
   refine Fo.fa rfl ?_
   refine Fo.ld rfl rfl ?_
   refine Fo.bin rfl rfl rfl (by simp only [↓nrmL, nrmZ, Nat.reduceEqDiff, ↓reduceIte, Nat.reduceAdd, Int.reduceBEq, Int.reduceBNe, h1, h2, h3]; rfl) ?_
   refine mB rfl ?_
   refine Fo.yes rfl rfl ?_
   refine Fo.fa rfl ?_
   refine Fo.yes rfl rfl ?_
   refine Fo.ld rfl rfl ?_
   refine Fo.yes rfl rfl ?_
   refine Fo.now rfl rfl (by simp only [↓nrmL, nrmZ, Nat.reduceEqDiff, ↓reduceIte, Nat.reduceAdd, Int.reduceBEq, Int.reduceBNe, h1, h2, h3]; rfl) ?_
   refine Fo.yes rfl rfl ?_
   refine Fo.now rfl (exec_sliceArr4 rfl rfl (by omega)) rfl ?_
   try simp only [↓nrmL, nrmZ, Nat.reduceEqDiff, ↓reduceIte, Nat.reduceAdd, Int.reduceBEq, Int.reduceBNe, h4]
   refine Fo.yes rfl rfl ?_
   refine mI rfl ?_
   refine Fo.yes rfl rfl ?_
   refine Fo.pcall (v' := ?_) hn rfl (by simp only [↓nrmL, nrmZ, Nat.reduceEqDiff, ↓reduceIte, Nat.reduceAdd, Int.reduceBEq, Int.reduceBNe, h4, List.map]; rfl) rfl ?hv fun _ _ => ?_; case hv => (simp only [↓nrmL, nrmZ, Nat.reduceEqDiff, ↓reduceIte, Nat.reduceAdd, Int.reduceBEq, Int.reduceBNe, h4]; rfl)
   refine tB rfl rfl ?_
   refine mB rfl ?_
   refine WpO.nil (hKF _ _ ?_)
   refine Wp.cond (b := false) rfl ?_
   refine Wp.skip ?_
   refine sq ?_
   refine rg fun KF hKF => ?_
   refine mI rfl ?_
   refine WpO.nil (hKF _ _ ?_)
   refine Wp.ret ?_
   dsimp only [cond_true, cond_false]
   refine ⟨trivial, _, (by first | rfl | exact getAllC rfl rfl rfl rfl | exact getAllT rfl (getAllC rfl rfl rfl rfl) | exact getAllC rfl rfl rfl (getAllC rfl rfl rfl rfl) | exact getAllC1 rfl rfl rfl), ?_⟩
   exact ⟨by rw [e, h4]; rfl, Ext0.ext⟩
  ·skip
   try simp only [↓nrmL, nrmZ, Nat.reduceEqDiff, ↓reduceIte, Nat.reduceAdd, Int.reduceBEq, Int.reduceBNe, h1, h2, h3]
   refine sq ?_
   refine rg fun KF hKF => ?_
   refine Fo.boxA rfl ?_
   refine mI rfl ?_
   refine WpO.nil (hKF _ _ ?_)
   refine sq ?_
   refine rg fun KF hKF => ?_
   refine Fo.build (by repeat (first | refine aFill1 (by first | exact (rfl : _ = AVal.int _ _) | exact (rfl : _ = AVal.ptr _ _) | exact (rfl : _ = AVal.bool _) | exact (rfl : _ = AVal.agg _) | exact (rfl : _ = AVal.tuple _) | exact (rfl : _ = AVal.func _ _ _) | exact (rfl : _ = AVal.nslice) | ((try simp only [↓nrmL, nrmK, Nat.reduceEqDiff, ↓reduceIte]); rfl)) rfl ?_ | rfl)) (by simp only [↓nrmL, nrmZ, Nat.reduceEqDiff, ↓reduceIte, Nat.reduceAdd, Int.reduceBEq, Int.reduceBNe, h1, h2, h3]; rfl) ?_
   refine Fo.new ?_
   refine Fo.st rfl (rfl : _ = AVal.agg _) rfl rfl rfl (by repeat (first | rfl | refine allOne_cons ?_)) (by simp only [↓nrmL, nrmZ, Nat.reduceEqDiff, ↓reduceIte, Nat.reduceAdd, Int.reduceBEq, Int.reduceBNe, h1, h2, h3]; rfl) ?_
   refine WpO.nil (hKF _ _ ?_)
   refine sq ?_
   refine rg fun KF hKF => ?_
   refine Fo.build (by repeat (first | refine aFill1 (by first | exact (rfl : _ = AVal.int _ _) | exact (rfl : _ = AVal.ptr _ _) | exact (rfl : _ = AVal.bool _) | exact (rfl : _ = AVal.agg _) | exact (rfl : _ = AVal.tuple _) | exact (rfl : _ = AVal.func _ _ _) | exact (rfl : _ = AVal.nslice) | ((try simp only [↓nrmL, nrmK, Nat.reduceEqDiff, ↓reduceIte]); rfl)) rfl ?_ | rfl)) (by simp only [↓nrmL, nrmZ, Nat.reduceEqDiff, ↓reduceIte, Nat.reduceAdd, Int.reduceBEq, Int.reduceBNe, h1, h2, h3]; rfl) ?_
   refine Fo.new ?_
   refine Fo.st rfl (rfl : _ = AVal.agg _) rfl rfl rfl (by repeat (first | rfl | refine allOne_cons ?_)) (by simp only [↓nrmL, nrmZ, Nat.reduceEqDiff, ↓reduceIte, Nat.reduceAdd, Int.reduceBEq, Int.reduceBNe, h1, h2, h3]; rfl) ?_
   refine WpO.nil (hKF _ _ ?_)
   refine sq ?_
   refine rg fun KF hKF => ?_
   refine mI rfl ?_
   refine Fo.bin rfl rfl rfl rfl ?_
   refine mI rfl ?_
   refine WpO.nil (hKF _ _ ?_)
   refine sq ?_
   refine Wp.block ?_
   refine sq ?_
   refine rg fun KF hKF => ?_
   refine Fo.fa rfl ?_
   refine Fo.ld rfl rfl ?_
   refine Fo.bin rfl rfl rfl (by simp only [↓nrmL, nrmZ, Nat.reduceEqDiff, ↓reduceIte, Nat.reduceAdd, Int.reduceBEq, Int.reduceBNe, h1, h2, h3]; rfl) ?_
   refine mB rfl ?_
   refine Fo.no rfl rfl ?_
   refine Fo.no rfl rfl ?_
   refine Fo.no rfl rfl ?_
   refine Fo.no rfl rfl ?_
   refine Fo.no rfl rfl ?_
   refine fB rfl rfl ?_
   refine mB rfl ?_
   refine WpO.nil (hKF _ _ ?_)
   refine Wp.cond (b := false) rfl ?_
   refine sq ?_
   refine rg fun KF hKF => ?_
   refine Fo.fa rfl ?_
   refine Fo.ld rfl rfl ?_
   refine Fo.bin rfl rfl rfl (by simp only [↓nrmL, nrmZ, Nat.reduceEqDiff, ↓reduceIte, Nat.reduceAdd, Int.reduceBEq, Int.reduceBNe, h1, h2, h3]; rfl) ?_
   refine mB rfl ?_
   refine Fo.yes rfl rfl ?_
   refine Fo.fa rfl ?_
   refine Fo.yes rfl rfl ?_
   refine Fo.ld rfl rfl ?_
   refine Fo.yes rfl rfl ?_
   refine Fo.now rfl rfl (by simp only [↓nrmL, nrmZ, Nat.reduceEqDiff, ↓reduceIte, Nat.reduceAdd, Int.reduceBEq, Int.reduceBNe, h1, h2, h3]; rfl) ?_
   refine Fo.yes rfl rfl ?_
   refine Fo.now rfl (exec_sliceArr4 rfl rfl (by omega)) rfl ?_
   try simp only [↓nrmL, nrmZ, Nat.reduceEqDiff, ↓reduceIte, Nat.reduceAdd, Int.reduceBEq, Int.reduceBNe, h4]
   refine Fo.yes rfl rfl ?_
   refine mI rfl ?_
   refine Fo.yes rfl rfl ?_
   refine Fo.pcall (v' := ?_) hn rfl (by simp only [↓nrmL, nrmZ, Nat.reduceEqDiff, ↓reduceIte, Nat.reduceAdd, Int.reduceBEq, Int.reduceBNe, h4, List.map]; rfl) rfl ?hv fun _ _ => ?_; case hv => (simp only [↓nrmL, nrmZ, Nat.reduceEqDiff, ↓reduceIte, Nat.reduceAdd, Int.reduceBEq, Int.reduceBNe, h4]; rfl)
   refine tB rfl rfl ?_
   refine mB rfl ?_
   refine WpO.nil (hKF _ _ ?_)
   refine Wp.cond (b := true) rfl ?_
   refine sq ?_
   refine rg fun KF hKF => ?_
   refine mI rfl ?_
   refine WpO.nil (hKF _ _ ?_)
   refine Wp.ret ?_
   dsimp only [cond_true, cond_false]
   refine ⟨trivial, _, (by first | rfl | exact getAllC rfl rfl rfl rfl | exact getAllT rfl (getAllC rfl rfl rfl rfl) | exact getAllC rfl rfl rfl (getAllC rfl rfl rfl rfl) | exact getAllC1 rfl rfl rfl), ?_⟩
   exact ⟨by rw [e, h4]; rfl, Ext0.ext⟩
 ·subst h
  have h1 : decide ((0 : Int) > 0) = false := rfl
  have h2 : decide ((0 : Int) < 0) = false := rfl
  try simp only [↓nrmL, nrmZ, Nat.reduceEqDiff, ↓reduceIte, Nat.reduceAdd, Int.reduceBEq, Int.reduceBNe, h1, h2]
  refine sq ?_
  refine rg fun KF hKF => ?_
  refine Fo.boxA rfl ?_
  refine mI rfl ?_
  refine WpO.nil (hKF _ _ ?_)
  refine sq ?_
  refine rg fun KF hKF => ?_
  refine Fo.build (by repeat (first | refine aFill1 (by first | exact (rfl : _ = AVal.int _ _) | exact (rfl : _ = AVal.ptr _ _) | exact (rfl : _ = AVal.bool _) | exact (rfl : _ = AVal.agg _) | exact (rfl : _ = AVal.tuple _) | exact (rfl : _ = AVal.func _ _ _) | exact (rfl : _ = AVal.nslice) | ((try simp only [↓nrmL, nrmK, Nat.reduceEqDiff, ↓reduceIte]); rfl)) rfl ?_ | rfl)) (by simp only [↓nrmL, nrmZ, Nat.reduceEqDiff, ↓reduceIte, Nat.reduceAdd, Int.reduceBEq, Int.reduceBNe, h1, h2]; rfl) ?_
  refine Fo.new ?_
  refine Fo.st rfl (rfl : _ = AVal.agg _) rfl rfl rfl (by repeat (first | rfl | refine allOne_cons ?_)) (by simp only [↓nrmL, nrmZ, Nat.reduceEqDiff, ↓reduceIte, Nat.reduceAdd, Int.reduceBEq, Int.reduceBNe, h1, h2]; rfl) ?_
  refine WpO.nil (hKF _ _ ?_)
  refine sq ?_
  refine rg fun KF hKF => ?_
  refine Fo.build (by repeat (first | refine aFill1 (by first | exact (rfl : _ = AVal.int _ _) | exact (rfl : _ = AVal.ptr _ _) | exact (rfl : _ = AVal.bool _) | exact (rfl : _ = AVal.agg _) | exact (rfl : _ = AVal.tuple _) | exact (rfl : _ = AVal.func _ _ _) | exact (rfl : _ = AVal.nslice) | ((try simp only [↓nrmL, nrmK, Nat.reduceEqDiff, ↓reduceIte]); rfl)) rfl ?_ | rfl)) (by simp only [↓nrmL, nrmZ, Nat.reduceEqDiff, ↓reduceIte, Nat.reduceAdd, Int.reduceBEq, Int.reduceBNe, h1, h2]; rfl) ?_
  refine Fo.new ?_
  refine Fo.st rfl (rfl : _ = AVal.agg _) rfl rfl rfl (by repeat (first | rfl | refine allOne_cons ?_)) (by simp only [↓nrmL, nrmZ, Nat.reduceEqDiff, ↓reduceIte, Nat.reduceAdd, Int.reduceBEq, Int.reduceBNe, h1, h2]; rfl) ?_
  refine WpO.nil (hKF _ _ ?_)
  refine sq ?_
  refine rg fun KF hKF => ?_
  refine mI rfl ?_
  refine Fo.bin rfl rfl rfl rfl ?_
  refine mI rfl ?_
  refine WpO.nil (hKF _ _ ?_)
  refine sq ?_
  refine Wp.block ?_
  refine sq ?_
  refine rg fun KF hKF => ?_
  refine Fo.fa rfl ?_
  refine Fo.ld rfl rfl ?_
  refine Fo.bin rfl rfl rfl (by simp only [↓nrmL, nrmZ, Nat.reduceEqDiff, ↓reduceIte, Nat.reduceAdd, Int.reduceBEq, Int.reduceBNe, h1, h2]; rfl) ?_
  refine mB rfl ?_
  refine Fo.no rfl rfl ?_
  refine Fo.no rfl rfl ?_
  refine Fo.no rfl rfl ?_
  refine Fo.no rfl rfl ?_
  refine Fo.no rfl rfl ?_
  refine fB rfl rfl ?_
  refine mB rfl ?_
  refine WpO.nil (hKF _ _ ?_)
  refine Wp.cond (b := false) rfl ?_
  refine sq ?_
  refine rg fun KF hKF => ?_
  refine Fo.fa rfl ?_
  refine Fo.ld rfl rfl ?_
  refine Fo.bin rfl rfl rfl (by simp only [↓nrmL, nrmZ, Nat.reduceEqDiff, ↓reduceIte, Nat.reduceAdd, Int.reduceBEq, Int.reduceBNe, h1, h2]; rfl) ?_
  refine mB rfl ?_
  refine Fo.no rfl rfl ?_
  refine Fo.no rfl rfl ?_
  refine Fo.no rfl rfl ?_
  refine Fo.no rfl rfl ?_
  refine Fo.no rfl rfl ?_
  refine Fo.no rfl rfl ?_
  refine fB rfl rfl ?_
  refine mB rfl ?_
  refine WpO.nil (hKF _ _ ?_)
  refine Wp.cond (b := false) rfl ?_
  refine Wp.skip ?_
  refine sq ?_
  refine rg fun KF hKF => ?_
  refine mI rfl ?_
  refine WpO.nil (hKF _ _ ?_)
  refine Wp.ret ?_
  dsimp only [cond_true, cond_false]
  refine ⟨trivial, _, (by first | rfl | exact getAllC rfl rfl rfl rfl | exact getAllT rfl (getAllC rfl rfl rfl rfl) | exact getAllC rfl rfl rfl (getAllC rfl rfl rfl rfl) | exact getAllC1 rfl rfl rfl), ?_⟩
  exact ⟨rfl, Ext0.ext⟩
 ·obtain ⟨j, rfl⟩ : ∃ j : Nat, k = (j : Int) := ⟨k.toNat, by omega⟩
  have h1 : decide ((j : Int) > 0) = true := decide_eq_true (by omega)
  have h2 : decide ((j : Int) < 0) = false := decide_eq_false (by omega)
  have ht : ((j : Int)).toNat = j := by omega
  have e : alterS (j : Int) s = bif hasN [3, 0, 4, 1] j (s.tmod 7) then 1 else 0 := by unfold alterS; rw [h1, h2, ht]; rfl
  haveI hc : ∀ {r : Nat} {a b c d x : Int} {rw : Bool} {e : TypeId} {H : AHeap} [HasRow H r [.int .i64 a, .int .i64 b, .int .i64 c, .int .i64 d] rw e], PureCon ext prog 116 [.slice r 0 j (some 4) 1, .int .i64 x] H 2 (.bool (hasN [a, b, c, d] j x)) := K_Contains (by omega)
  cases h4 : hasN [3, 0, 4, 1] j (s.tmod 7)
  ·skip
   try simp only [↓nrmL, nrmZ, Nat.reduceEqDiff, ↓reduceIte, Nat.reduceAdd, Int.reduceBEq, Int.reduceBNe, h1, h2]
   refine sq ?_
   refine rg fun KF hKF => ?_
   refine Fo.boxA rfl ?_
   refine mI rfl ?_
   refine WpO.nil (hKF _ _ ?_)
   refine sq ?_
   refine rg fun KF hKF => ?_
   refine Fo.build (by repeat (first | refine aFill1 (by first | exact (rfl : _ = AVal.int _ _) | exact (rfl : _ = AVal.ptr _ _) | exact (rfl : _ = AVal.bool _) | exact (rfl : _ = AVal.agg _) | exact (rfl : _ = AVal.tuple _) | exact (rfl : _ = AVal.func _ _ _) | exact (rfl : _ = AVal.nslice) | ((try simp only [↓nrmL, nrmK, Nat.reduceEqDiff, ↓reduceIte]); rfl)) rfl ?_ | rfl)) (by simp only [↓nrmL, nrmZ, Nat.reduceEqDiff, ↓reduceIte, Nat.reduceAdd, Int.reduceBEq, Int.reduceBNe, h1, h2]; rfl) ?_
   refine Fo.new ?_
   refine Fo.st rfl (rfl : _ = AVal.agg _) rfl rfl rfl (by repeat (first | rfl | refine allOne_cons ?_)) (by simp only [↓nrmL, nrmZ, Nat.reduceEqDiff, ↓reduceIte, Nat.reduceAdd, Int.reduceBEq, Int.reduceBNe, h1, h2]; rfl) ?_
   refine WpO.nil (hKF _ _ ?_)
   refine sq ?_
   refine rg fun KF hKF => ?_
   refine Fo.build (by repeat (first | refine aFill1 (by first | exact (rfl : _ = AVal.int _ _) | exact (rfl : _ = AVal.ptr _ _) | exact (rfl : _ = AVal.bool _) | exact (rfl : _ = AVal.agg _) | exact (rfl : _ = AVal.tuple _) | exact (rfl : _ = AVal.func _ _ _) | exact (rfl : _ = AVal.nslice) | ((try simp only [↓nrmL, nrmK, Nat.reduceEqDiff, ↓reduceIte]); rfl)) rfl ?_ | rfl)) (by simp only [↓nrmL, nrmZ, Nat.reduceEqDiff, ↓reduceIte, Nat.reduceAdd, Int.reduceBEq, Int.reduceBNe, h1, h2]; rfl) ?_
   refine Fo.new ?_
   refine Fo.st rfl (rfl : _ = AVal.agg _) rfl rfl rfl (by repeat (first | rfl | refine allOne_cons ?_)) (by simp only [↓nrmL, nrmZ, Nat.reduceEqDiff, ↓reduceIte, Nat.reduceAdd, Int.reduceBEq, Int.reduceBNe, h1, h2]; rfl) ?_
   refine WpO.nil (hKF _ _ ?_)
   refine sq ?_
   refine rg fun KF hKF => ?_
   refine mI rfl ?_
   refine Fo.bin rfl rfl rfl rfl ?_
   refine mI rfl ?_
   refine WpO.nil (hKF _ _ ?_)
   refine sq ?_
   refine Wp.block ?_
   refine sq ?_
   refine rg fun KF hKF => ?_
   refine Fo.fa rfl ?_
   refine Fo.ld rfl rfl ?_
   refine Fo.bin rfl rfl rfl (by simp only [↓nrmL, nrmZ, Nat.reduceEqDiff, ↓reduceIte, Nat.reduceAdd, Int.reduceBEq, Int.reduceBNe, h1, h2]; rfl) ?_
   refine mB rfl ?_
   refine Fo.yes rfl rfl ?_
   refine Fo.fa rfl ?_
   refine Fo.yes rfl rfl ?_
   refine Fo.ld rfl rfl ?_
   refine Fo.yes rfl rfl ?_
   refine Fo.now rfl (exec_sliceArr4 rfl rfl (by omega)) rfl ?_
   try simp only [↓nrmL, nrmZ, Nat.reduceEqDiff, ↓reduceIte, Nat.reduceAdd, Int.reduceBEq, Int.reduceBNe, h4, h2]
   refine Fo.yes rfl rfl ?_
   refine mI rfl ?_
   refine Fo.yes rfl rfl ?_
   refine Fo.pcall (v' := ?_) hn rfl (by simp only [↓nrmL, nrmZ, Nat.reduceEqDiff, ↓reduceIte, Nat.reduceAdd, Int.reduceBEq, Int.reduceBNe, h4, h2, List.map]; rfl) rfl ?hv fun _ _ => ?_; case hv => (simp only [↓nrmL, nrmZ, Nat.reduceEqDiff, ↓reduceIte, Nat.reduceAdd, Int.reduceBEq, Int.reduceBNe, h4, h2]; rfl)
   refine tB rfl rfl ?_
   refine mB rfl ?_
   refine WpO.nil (hKF _ _ ?_)
   refine Wp.cond (b := false) rfl ?_
   refine sq ?_
   refine rg fun KF hKF => ?_
   refine Fo.fa rfl ?_
   refine Fo.ld rfl rfl ?_
   refine Fo.bin rfl rfl rfl (by simp only [↓nrmL, nrmZ, Nat.reduceEqDiff, ↓reduceIte, Nat.reduceAdd, Int.reduceBEq, Int.reduceBNe, h4, h2]; rfl) ?_
   refine mB rfl ?_
   refine Fo.no rfl rfl ?_
   refine Fo.no rfl rfl ?_
   refine Fo.no rfl rfl ?_
   refine Fo.no rfl rfl ?_
   refine Fo.no rfl rfl ?_
   refine Fo.no rfl rfl ?_
   refine fB rfl rfl ?_
   refine mB rfl ?_
   refine WpO.nil (hKF _ _ ?_)
   refine Wp.cond (b := false) rfl ?_
   refine Wp.skip ?_
   refine sq ?_
   refine rg fun KF hKF => ?_
   refine mI rfl ?_
   refine WpO.nil (hKF _ _ ?_)
   refine Wp.ret ?_
   dsimp only [cond_true, cond_false]
   refine ⟨trivial, _, (by first | rfl | exact getAllC rfl rfl rfl rfl | exact getAllT rfl (getAllC rfl rfl rfl rfl) | exact getAllC rfl rfl rfl (getAllC rfl rfl rfl rfl) | exact getAllC1 rfl rfl rfl), ?_⟩
   exact ⟨by rw [e, h4]; rfl, Ext0.ext⟩
  ·skip
   try simp only [↓nrmL, nrmZ, Nat.reduceEqDiff, ↓reduceIte, Nat.reduceAdd, Int.reduceBEq, Int.reduceBNe, h1, h2]
   refine sq ?_
   refine rg fun KF hKF => ?_
   refine Fo.boxA rfl ?_
   refine mI rfl ?_
   refine WpO.nil (hKF _ _ ?_)
   refine sq ?_
   refine rg fun KF hKF => ?_
   refine Fo.build (by repeat (first | refine aFill1 (by first | exact (rfl : _ = AVal.int _ _) | exact (rfl : _ = AVal.ptr _ _) | exact (rfl : _ = AVal.bool _) | exact (rfl : _ = AVal.agg _) | exact (rfl : _ = AVal.tuple _) | exact (rfl : _ = AVal.func _ _ _) | exact (rfl : _ = AVal.nslice) | ((try simp only [↓nrmL, nrmK, Nat.reduceEqDiff, ↓reduceIte]); rfl)) rfl ?_ | rfl)) (by simp only [↓nrmL, nrmZ, Nat.reduceEqDiff, ↓reduceIte, Nat.reduceAdd, Int.reduceBEq, Int.reduceBNe, h1, h2]; rfl) ?_
   refine Fo.new ?_
   refine Fo.st rfl (rfl : _ = AVal.agg _) rfl rfl rfl (by repeat (first | rfl | refine allOne_cons ?_)) (by simp only [↓nrmL, nrmZ, Nat.reduceEqDiff, ↓reduceIte, Nat.reduceAdd, Int.reduceBEq, Int.reduceBNe, h1, h2]; rfl) ?_
   refine WpO.nil (hKF _ _ ?_)
   refine sq ?_
   refine rg fun KF hKF => ?_
   refine Fo.build (by repeat (first | refine aFill1 (by first | exact (rfl : _ = AVal.int _ _) | exact (rfl : _ = AVal.ptr _ _) | exact (rfl : _ = AVal.bool _) | exact (rfl : _ = AVal.agg _) | exact (rfl : _ = AVal.tuple _) | exact (rfl : _ = AVal.func _ _ _) | exact (rfl : _ = AVal.nslice) | ((try simp only [↓nrmL, nrmK, Nat.reduceEqDiff, ↓reduceIte]); rfl)) rfl ?_ | rfl)) (by simp only [↓nrmL, nrmZ, Nat.reduceEqDiff, ↓reduceIte, Nat.reduceAdd, Int.reduceBEq, Int.reduceBNe, h1, h2]; rfl) ?_
   refine Fo.new ?_
   refine Fo.st rfl (rfl : _ = AVal.agg _) rfl rfl rfl (by repeat (first | rfl | refine allOne_cons ?_)) (by simp only [↓nrmL, nrmZ, Nat.reduceEqDiff, ↓reduceIte, Nat.reduceAdd, Int.reduceBEq, Int.reduceBNe, h1, h2]; rfl) ?_
   refine WpO.nil (hKF _ _ ?_)
   refine sq ?_
   refine rg fun KF hKF => ?_
   refine mI rfl ?_
   refine Fo.bin rfl rfl rfl rfl ?_
   refine mI rfl ?_
   refine WpO.nil (hKF _ _ ?_)
   refine sq ?_
   refine Wp.block ?_
   refine sq ?_
   refine rg fun KF hKF => ?_
   refine Fo.fa rfl ?_
   refine Fo.ld rfl rfl ?_
   refine Fo.bin rfl rfl rfl (by simp only [↓nrmL, nrmZ, Nat.reduceEqDiff, ↓reduceIte, Nat.reduceAdd, Int.reduceBEq, Int.reduceBNe, h1, h2]; rfl) ?_
   refine mB rfl ?_
   refine Fo.yes rfl rfl ?_
   refine Fo.fa rfl ?_
   refine Fo.yes rfl rfl ?_
   refine Fo.ld rfl rfl ?_
   refine Fo.yes rfl rfl ?_
   refine Fo.now rfl (exec_sliceArr4 rfl rfl (by omega)) rfl ?_
   try simp only [↓nrmL, nrmZ, Nat.reduceEqDiff, ↓reduceIte, Nat.reduceAdd, Int.reduceBEq, Int.reduceBNe, h4]
   refine Fo.yes rfl rfl ?_
   refine mI rfl ?_
   refine Fo.yes rfl rfl ?_
   refine Fo.pcall (v' := ?_) hn rfl (by simp only [↓nrmL, nrmZ, Nat.reduceEqDiff, ↓reduceIte, Nat.reduceAdd, Int.reduceBEq, Int.reduceBNe, h4, List.map]; rfl) rfl ?hv fun _ _ => ?_; case hv => (simp only [↓nrmL, nrmZ, Nat.reduceEqDiff, ↓reduceIte, Nat.reduceAdd, Int.reduceBEq, Int.reduceBNe, h4]; rfl)
   refine tB rfl rfl ?_
   refine mB rfl ?_
   refine WpO.nil (hKF _ _ ?_)
   refine Wp.cond (b := true) rfl ?_
   refine sq ?_
   refine rg fun KF hKF => ?_
   refine mI rfl ?_
   refine WpO.nil (hKF _ _ ?_)
   refine Wp.ret ?_
   dsimp only [cond_true, cond_false]
   refine ⟨trivial, _, (by first | rfl | exact getAllC rfl rfl rfl rfl | exact getAllT rfl (getAllC rfl rfl rfl rfl) | exact getAllC rfl rfl rfl (getAllC rfl rfl rfl rfl) | exact getAllC1 rfl rfl rfl), ?_⟩
   exact ⟨by rw [e, h4]; rfl, Ext0.ext⟩⟩
end Go.Am

set_option maxHeartbeats 4000000
set_option maxRecDepth 100000
set_option synthInstance.maxHeartbeats 2000000
set_option synthInstance.maxSize 4096
namespace Go.Am
open Go
attribute [local irreducible] Wp WpO WpX WpE

def meantI (a : Int) : Int := bif a == 1 then 1 else bif a == 2 then -1 else 0
instance K_meant {a : Int} {H : AHeap} : PureCon ext prog 96 [.int .i64 a] H 1 (.int .i64 (meantI a)) := ⟨by
 refine con_of (show prog 96 = some c96 from rfl) rfl rfl fun m hn => ?_
 unfold meantI
 cases h1 : (a == 1)
 ·cases h2 : (a == 2)
  ·skip
   try simp only [↓nrmL, nrmZ, Nat.reduceEqDiff, ↓reduceIte, Nat.reduceAdd, Int.reduceBEq, Int.reduceBNe, h1, h2]
   refine sq ?_
   refine rg fun KF hKF => ?_
   refine mI rfl ?_
   refine WpO.nil (hKF _ _ ?_)
   refine sq ?_
   refine sq ?_
   refine rg fun KF hKF => ?_
   refine mI rfl ?_
   refine WpO.nil (hKF _ _ ?_)
   refine Wp.block ?_
   refine sq ?_
   refine rg fun KF hKF => ?_
   refine Fo.bin rfl rfl rfl (by simp only [↓nrmL, nrmZ, Nat.reduceEqDiff, ↓reduceIte, Nat.reduceAdd, Int.reduceBEq, Int.reduceBNe, h1, h2]; rfl) ?_
   refine mB rfl ?_
   refine WpO.nil (hKF _ _ ?_)
   refine Wp.cond (b := false) rfl ?_
   refine sq ?_
   refine rg fun KF hKF => ?_
   refine Fo.bin rfl rfl rfl (by simp only [↓nrmL, nrmZ, Nat.reduceEqDiff, ↓reduceIte, Nat.reduceAdd, Int.reduceBEq, Int.reduceBNe, h1, h2]; rfl) ?_
   refine mB rfl ?_
   refine WpO.nil (hKF _ _ ?_)
   refine Wp.cond (b := false) rfl ?_
   refine Wp.skip ?_
   refine sq ?_
   refine rg fun KF hKF => ?_
   refine mI rfl ?_
   refine WpO.nil (hKF _ _ ?_)
   refine Wp.ret ?_
   dsimp only [cond_true, cond_false]
   refine ⟨trivial, _, (by first | rfl | exact getAllC rfl rfl rfl rfl | exact getAllT rfl (getAllC rfl rfl rfl rfl) | exact getAllC rfl rfl rfl (getAllC rfl rfl rfl rfl) | exact getAllC1 rfl rfl rfl), ?_⟩
   exact ⟨rfl, Ext0.ext⟩
  ·skip
   try simp only [↓nrmL, nrmZ, Nat.reduceEqDiff, ↓reduceIte, Nat.reduceAdd, Int.reduceBEq, Int.reduceBNe, h1, h2]
   refine sq ?_
   refine rg fun KF hKF => ?_
   refine mI rfl ?_
   refine WpO.nil (hKF _ _ ?_)
   refine sq ?_
   refine sq ?_
   refine rg fun KF hKF => ?_
   refine mI rfl ?_
   refine WpO.nil (hKF _ _ ?_)
   refine Wp.block ?_
   refine sq ?_
   refine rg fun KF hKF => ?_
   refine Fo.bin rfl rfl rfl (by simp only [↓nrmL, nrmZ, Nat.reduceEqDiff, ↓reduceIte, Nat.reduceAdd, Int.reduceBEq, Int.reduceBNe, h1, h2]; rfl) ?_
   refine mB rfl ?_
   refine WpO.nil (hKF _ _ ?_)
   refine Wp.cond (b := false) rfl ?_
   refine sq ?_
   refine rg fun KF hKF => ?_
   refine Fo.bin rfl rfl rfl (by simp only [↓nrmL, nrmZ, Nat.reduceEqDiff, ↓reduceIte, Nat.reduceAdd, Int.reduceBEq, Int.reduceBNe, h1, h2]; rfl) ?_
   refine mB rfl ?_
   refine WpO.nil (hKF _ _ ?_)
   refine Wp.cond (b := true) rfl ?_
   refine sq ?_
   refine rg fun KF hKF => ?_
   refine mI rfl ?_
   refine WpO.nil (hKF _ _ ?_)
   refine Wp.ret ?_
   dsimp only [cond_true, cond_false]
   refine ⟨trivial, _, (by first | rfl | exact getAllC rfl rfl rfl rfl | exact getAllT rfl (getAllC rfl rfl rfl rfl) | exact getAllC rfl rfl rfl (getAllC rfl rfl rfl rfl) | exact getAllC1 rfl rfl rfl), ?_⟩
   exact ⟨rfl, Ext0.ext⟩
 ·skip
  try simp only [↓nrmL, nrmZ, Nat.reduceEqDiff, ↓reduceIte, Nat.reduceAdd, Int.reduceBEq, Int.reduceBNe, h1]
  refine sq ?_
  refine rg fun KF hKF => ?_
  refine mI rfl ?_
  refine WpO.nil (hKF _ _ ?_)
  refine sq ?_
  refine sq ?_
  refine rg fun KF hKF => ?_
  refine mI rfl ?_
  refine WpO.nil (hKF _ _ ?_)
  refine Wp.block ?_
  refine sq ?_
  refine rg fun KF hKF => ?_
  refine Fo.bin rfl rfl rfl (by simp only [↓nrmL, nrmZ, Nat.reduceEqDiff, ↓reduceIte, Nat.reduceAdd, Int.reduceBEq, Int.reduceBNe, h1]; rfl) ?_
  refine mB rfl ?_
  refine WpO.nil (hKF _ _ ?_)
  refine Wp.cond (b := true) rfl ?_
  refine sq ?_
  refine rg fun KF hKF => ?_
  refine mI rfl ?_
  refine WpO.nil (hKF _ _ ?_)
  refine Wp.ret ?_
  dsimp only [cond_true, cond_false]
  refine ⟨trivial, _, (by first | rfl | exact getAllC rfl rfl rfl rfl | exact getAllT rfl (getAllC rfl rfl rfl rfl) | exact getAllC rfl rfl rfl (getAllC rfl rfl rfl rfl) | exact getAllC1 rfl rfl rfl), ?_⟩
  exact ⟨rfl, Ext0.ext⟩⟩
end Go.Am

set_option maxHeartbeats 4000000
set_option maxRecDepth 100000
set_option synthInstance.maxHeartbeats 2000000
set_option synthInstance.maxSize 4096
namespace Go.Am
open Go
attribute [local irreducible] Wp WpO WpX WpE

class StepI (s : Int) : Prop where
 lo : 0 ≤ s
 hi : s ≤ 69
theorem stepI_of {s : Int} (h : stepB s = true) : StepI s := by
 unfold stepB withinB at h
 simp only [Bool.and_eq_true, decide_eq_true_eq] at h
 exact ⟨h.1, h.2⟩
theorem stepB_of {s : Int} (h1 : 0 ≤ s) (h2 : s ≤ 69) : stepB s = true := by
 unfold stepB withinB; rw [decide_eq_true h1, decide_eq_true h2]; rfl
end Go.Am

/- States: rows that hold a key, themselves, and 70 alterations. -/
namespace Go.Am
open Go

/-- A slice that stands for a whole row. -/
abbrev rowP (r : Nat) : AVal := .slice r 0 0 none 1
/-- A row that begins with some cells, and then holds 70 numbers. -/
class StAt (H : AHeap) (r : Nat) (pre : outParam (List AVal)) (e : outParam TypeId) (L : outParam (List Int)) : Prop where
  row : HasRow H r (pre ++ cellsI L) true e
  len : L.length = 70
section
variable {H H' : AHeap} {r : Nat} {pre : List AVal} {e : TypeId} {L : List Int} {q : AVal} {o : AObj}
instance [s : StAt H r pre e L] : HasRow H r (pre ++ cellsI L) true e := s.row
instance {s : Nat} [h : NeR r s] : RowNe (rowP r) s := ⟨fun _ _ _ _ _ e => by cases e; exact h.ne⟩
instance [x : ExtI H H'] [s : StAt H r pre e L] : StAt H' r pre e L := ⟨inferInstance, s.len⟩
instance [s : StAt H r pre e L] : StAt (H.push o) r pre e L := ⟨inferInstance, s.len⟩
instance [x : ExtP H H' q] [s : StAt H r pre e L] [n : RowNe q r] : StAt H' r pre e L := ⟨inferInstance, s.len⟩
theorem StAt.lt (s : StAt H r pre e L) : r < H.n := s.row.lt
theorem StAt.keep (s : StAt H r pre e L) (hg : H'.get r = H.get r) (hn : H.n ≤ H'.n) : StAt H' r pre e L := ⟨⟨Nat.lt_of_lt_of_le s.row.lt hn, by rw [hg]; exact s.row.get⟩, s.len⟩
/-- One number is set. -/
theorem StAt.set (s : StAt H r pre e L) (j : Nat) (v : Int) : StAt (H.set r (.row (pre ++ cellsI (L.set j v)) true e)) r pre e (L.set j v) :=
  ⟨⟨s.row.lt, set_get_eq⟩, by rw [List.length_set]; exact s.len⟩
theorem extP_set : ExtP H (H.set r o) (rowP r) := ⟨Nat.le_refl _, fun s _ h => set_get_ne (fun e => h.ne _ _ _ _ _ rfl e.symm)⟩
end
theorem st_get {pre : List AVal} {L : List Int} {m j : Nat} (hm : pre.length = m) (hL : L.length = 70) (hj : j < 70) : (pre ++ cellsI L)[m + j]? = some (.int .i64 (L.getD j 0)) := by
  subst hm
  rw [List.getElem?_append_right (by omega), show pre.length + j - pre.length = j by omega, get_ints (by omega)]
  simp [List.getD_eq_getElem?_getD, List.getElem?_eq_getElem (show j < L.length by omega)]
theorem st_set {pre : List AVal} {L : List Int} {m j : Nat} (hm : pre.length = m) (v : Int) : setAt (pre ++ cellsI L) (m + j) [.int .i64 v] = pre ++ cellsI (L.set j v) := by
  subst hm
  rw [setAt_one, List.set_append_right _ _ (by omega), show pre.length + j - pre.length = j by omega, set_ints]
theorem set_same {L : List Int} {j : Nat} {v : Int} (h : L.getD j 0 = v) (hj : j < L.length) : L.set j v = L := by
  rw [List.getD_eq_getElem?_getD, List.getElem?_eq_getElem hj, Option.getD_some] at h
  subst h; exact List.set_getElem_self hj
section
variable {call : ACall} {fr : AFrame} {H : AHeap}
theorem exec_idxA {n r off j : Nat} {k : IntKind} {x i : ROpd} (hx : x.ev fr = .ptr r off) (hi : i.ev fr = .int k (j : Int)) (h : j < n) : (ROp.idxA n 1 x i).exec call fr H = some (.ptr r (off + j), H) := by
  simp only [ROp.exec, hx, hi, aIdxA, if_pos (show (0 : Int) ≤ (j : Int) ∧ (j : Int) < (n : Int) by omega), M.ofOption, M.pure, Int.toNat_natCast, Nat.mul_one]
theorem exec_stS {r m j : Nat} {pre : List AVal} {e : TypeId} {v : Int} {L : List Int} {a x : ROpd} (hm : pre.length = m) (ha : a.ev fr = .ptr r (m + j)) (hx : x.ev fr = .int .i64 v) [s : StAt H r pre e L] (hj : j < 70) : (ROp.store 1 a x).exec call fr H = some (aundef, H.set r (.row (pre ++ cellsI (L.set j v)) true e)) := by
  have h1 : r < H.n := s.row.lt
  have h2 := s.row.get
  have h3 : (m + j) + 1 ≤ (pre ++ cellsI L).length := by
    have := s.len
    simp only [List.length_append, cellsI_length, hm]; omega
  have h4 := st_set (L := L) (j := j) hm v
  obtain ⟨u, H1, q1, rfl, rfl⟩ := WpX.store (call := call) (fr := fr) (H := H) (n := 1) (K := fun u H1 => u = aundef ∧ H1 = H.set r (.row (setAt (pre ++ cellsI L) (m + j) [.int .i64 v]) true e)) ha hx rfl h1 h2 h3 rfl ⟨rfl, rfl⟩
  rw [h4] at q1
  exact q1
theorem Fo.stS {KF : AFrame → AHeap → Prop} {os : List ROper} {r m j : Nat} {pre : List AVal} {e : TypeId} {v : Int} {L : List Int} {a x : ROpd} (hm : pre.length = m) (ha : a.ev fr = .ptr r (m + j)) (hx : x.ev fr = .int .i64 v) [s : StAt H r pre e L] (hj : j < 70)
    (h : ∀ H1, StAt H1 r pre e (L.set j v) → ExtP H H1 (rowP r) → WpO call os fr H1 KF) : WpO call (⟨none, .store 1 a x, none⟩ :: os) fr H KF :=
  WpO.step rfl ⟨_, _, exec_stS hm ha hx hj, h _ (s.set j v) extP_set⟩
theorem WpE.stS {n ref : Nat} {its : List DItem} {H0 : AHeap} {E : List (Nat × AHeap)} {Rd : List (Nat × (AHeap → Bool))} {K : AFrame → AHeap → Prop} {b : Nat} {pr : Bool} {r m j : Nat} {pre : List AVal} {e : TypeId} {v : Int} {L : List Int} {a x : ROpd} (hm : pre.length = m) (ha : a.ev fr = .ptr r (m + j)) (hx : x.ev fr = .int .i64 v) [s : StAt H r pre e L] (hj : j < 70)
    (h : ∀ H1, StAt H1 r pre e (L.set j v) → ExtP H H1 (rowP r) → AllR b H1 Rd ∧ WpE call (n + 1) ref its H0 ((n, H) :: E) Rd fr H1 K) : WpE call n ref (⟨⟨none, .store 1 a x, none⟩, b, 2, pr⟩ :: its) H0 E Rd fr H K := by
  obtain ⟨h1, h2⟩ := h _ (s.set j v) extP_set
  exact WpE.effect rfl (exec_stS hm ha hx hj) h1 h2
end
theorem aEq_ptr (r o : Nat) : aEq .ptr (.ptr r o) (.ptr r o) = some true := by simp [aEq]

/- what the calls answer -/
def holdS (L : List Int) (s : Int) : Int := L.getD s.toNat 0
def atS (L : List Int) (s : Int) : Int × Int := bif stepB s then (holdS L s, 0) else (0, 34)
def accS (a : Int) : Int := bif a == 1 then 1 else bif a == -1 then 2 else 3
def prS (L : List Int) (s a : Int) : Int × Int := bif stepB s && altB a then (bif holdS L s == a then (0, 0) else (accS a, 0)) else (0, 34)
def prL (L : List Int) (s a : Int) : List Int := bif stepB s && altB a then L.set s.toNat a else L
def heS (L : List Int) (s c : Int) : Int × Int := bif stepB s then (bif c == 0 then (holdS L s, 0) else bif withinB c 0 3 then (bif holdS L s == meantI c then (0, 66) else (meantI c, 0)) else (0, 66)) else (0, 34)
def heL (L : List Int) (s c : Int) : List Int := bif stepB s && !(c == 0) && withinB c 0 3 && !(holdS L s == meantI c) then L.set s.toNat (meantI c) else L
def keyL (k : Int) : List Int := (List.range 70).map fun i => alterS k (i : Nat)
theorem keyL_length (k : Int) : (keyL k).length = 70 := by simp [keyL]
/-- The first ones are those of the key. -/
def keyP (k : Int) (L : List Int) (i : Nat) : List Int := (keyL k).take i ++ L.drop i
theorem keyP_zero (k : Int) (L : List Int) : keyP k L 0 = L := by simp [keyP]
theorem keyP_all {k : Int} {L : List Int} (h : L.length = 70) : keyP k L 70 = keyL k := by
  unfold keyP
  rw [List.take_of_length_le (by rw [keyL_length]; omega), List.drop_eq_nil_of_le (by omega), List.append_nil]
theorem keyP_succ {k : Int} {L : List Int} (h : L.length = 70) {i : Nat} (hi : i < 70) : (keyP k L i).set i (alterS k (i : Nat)) = keyP k L (i + 1) := by
  have hk := keyL_length k
  have h1 : (keyL k)[i]'(by omega) = alterS k (i : Nat) := by simp [keyL]
  unfold keyP
  rw [List.set_append_right _ _ (by simp; omega), List.take_succ_eq_append_getElem (show i < (keyL k).length by omega), List.append_assoc, h1]
  congr 1
  rw [List.length_take, hk, Nat.min_eq_left (by omega), Nat.sub_self, List.drop_eq_getElem_cons (show i < L.length by omega)]
  rfl
/- lists of 16 bits -/
def cellsU (l : List Nat) : List AVal := l.map fun (n : Nat) => AVal.int .u16 ((n : Nat) : Int)
abbrev U16I (H : AHeap) (p : AVal) (l : List Nat) : Prop := SliceAt H p 1 l.length (cellsU l)
theorem cellsU_get {l : List Nat} {i : Nat} (h : i < l.length) : (cellsU l)[i]? = some (.int .u16 ((l[i] : Nat) : Int)) := by simp [cellsU, h]
theorem cellsU_take (l : List Nat) (n : Nat) : (cellsU l).take n = cellsU (l.take n) := by simp [cellsU, List.map_take]
section
variable {call : ACall} {fr : AFrame} {H : AHeap}
/-- The first elements of a slice. -/
theorem exec_pre {x y : ROpd} {p : AVal} {k : IntKind} {n b : Nat} {cs : List AVal} (hx : x.ev fr = p) (hy : y.ev fr = .int k (b : Int)) (hb : b ≤ n) [s : SliceAt H p 1 n cs] :
    ∃ v, (ROp.sliceS 1 x none (some y) none).exec call fr H = some (v, H) ∧ SliceAt H v 1 b (cs.take b) ∧ OneV v ∧ (∀ r off len cap sz, v = .slice r off len cap sz → ∃ off' len' cap' sz', p = .slice r off' len' cap' sz') := by
  have hbd : ∀ y0, b ≤ y0 → aBound y0 (.int k (b : Int)) = some b := by
    intro y0 hy0
    simp only [aBound]
    rw [if_pos (by omega), Int.toNat_natCast]
  rcases s.it with ⟨rfl, rfl, rfl⟩ | ⟨r, off, cap, row, rw, e, rfl, hr, hg, hl, hc, hcap⟩
  · have : b = 0 := by omega
    subst this
    refine ⟨.nslice, ?_, ⟨Or.inl ⟨rfl, rfl, rfl⟩⟩, inferInstance, fun _ _ _ _ _ e => by cases e⟩
    simp only [ROp.exec, hx, Option.map_none, Option.map_some, hy, aSliceS, aBounds, aHigh, capD, hbd 0 (Nat.le_refl _), aLow, M.pure]
  · rw [Nat.mul_one] at hl hc
    have hb0 : aBounds n cap none (some (.int k (b : Int))) none = some (0, b, cap) := by
      simp only [aBounds, aHigh, hbd _ (Nat.le_trans hb hcap), aLow]
    have hs : ∀ cap', b ≤ capD b cap' → SliceAt H (.slice r off b cap' 1) 1 b (cs.take b) := fun cap' h' =>
      ⟨Or.inr ⟨r, off, cap', row, rw, e, rfl, hr, hg, by omega, by rw [Nat.mul_one, ← hc, List.take_take, Nat.min_eq_left hb], h'⟩⟩
    cases cap with
    | some c =>
      simp only [capD] at hcap
      by_cases hc0 : c = 0
      · have : b = 0 := by omega
        subst this
        refine ⟨.slice r off 0 (some 0) 1, ?_, hs _ (Nat.zero_le _), inferInstance, fun _ _ _ _ _ e => by cases e; exact ⟨_, _, _, _, rfl⟩⟩
        simp only [ROp.exec, hx, Option.map_none, Option.map_some, hy, aSliceS, ne_eq, not_true, if_false, hb0, M.pure, if_pos hc0]
      · refine ⟨.slice r off b (some c) 1, ?_, hs _ (by simp only [capD]; omega), inferInstance, fun _ _ _ _ _ e => by cases e; exact ⟨_, _, _, _, rfl⟩⟩
        simp only [ROp.exec, hx, Option.map_none, Option.map_some, hy, aSliceS, ne_eq, not_true, if_false, hb0, M.pure, if_neg hc0, Nat.zero_mul, Nat.add_zero, Nat.sub_zero]
    | none =>
      refine ⟨.slice r off b none 1, ?_, hs _ (Nat.le_refl _), inferInstance, fun _ _ _ _ _ e => by cases e; exact ⟨_, _, _, _, rfl⟩⟩
      have h2 : ¬ row.length < off + n := by omega
      have hrow : aRow r H = some ((row, rw), H) := by simp only [aRow, if_pos hr, hg]
      simp only [ROp.exec, hx, Option.map_none, Option.map_some, hy, aSliceS, ne_eq, not_true, if_false, hb0, Nat.mul_one, Nat.one_ne_zero, M.bind, hrow, if_neg h2, or_true, if_true, M.pure, Nat.add_zero, Nat.sub_zero]
theorem Fo.pre {KF : AFrame → AHeap → Prop} {os : List ROper} {d : Nat} {x y : ROpd} {p : AVal} {k : IntKind} {n b : Nat} {cs : List AVal} (hx : x.ev fr = p) (hy : y.ev fr = .int k (b : Int)) (hb : b ≤ n) [s : SliceAt H p 1 n cs]
    (h : ∀ v, SliceAt H v 1 b (cs.take b) → OneV v → (∀ r off len cap sz, v = .slice r off len cap sz → ∃ off' len' cap' sz', p = .slice r off' len' cap' sz') → WpO call os (upd fr d v) H KF) : WpO call (⟨some d, .sliceS 1 x none (some y) none, none⟩ :: os) fr H KF := by
  obtain ⟨v, h1, h2, h3, h4⟩ := exec_pre (call := call) hx hy hb (s := s)
  exact WpO.step rfl ⟨v, H, h1, h v h2 h3 h4⟩
end

section
variable {call : ACall} {fr : AFrame} {H : AHeap} {KF : AFrame → AHeap → Prop} {os : List ROper} {d : Nat}
end
end Go.Am

set_option maxHeartbeats 4000000
set_option maxRecDepth 100000
set_option synthInstance.maxHeartbeats 2000000
set_option synthInstance.maxSize 1000000000
namespace Go.Am
open Go
attribute [local irreducible] Wp WpO WpX WpE

/-- No state: nothing, or one that points to nothing. -/
class NoSt (H : AHeap) (p : AVal) : Prop where
 it : p = .nptr ∨ ∃ r k L, p = .ptr r 0 ∧ HasRow H r (.int .i64 k :: .nptr :: L) true 234
instance K_made {r : Nat} {k : Int} {L : List Int} {H : AHeap} [s : StAt H r [.int .i64 k, .ptr r 0] 234 L] : PureCon ext prog 90 [.ptr r 0] H 1 (.bool true) := ⟨by
 refine con_of (show prog 90 = some c90 from rfl) rfl rfl fun m hn => ?_
 refine sq ?_
 refine rg fun KF hKF => ?_
 refine mB rfl ?_
 refine WpO.nil (hKF _ _ ?_)
 refine sq ?_
 refine rg fun KF hKF => ?_
 refine mP rfl ?_
 refine Fo.now rfl rfl (by simp only [↓nrmL, nrmZ, Nat.reduceEqDiff, ↓reduceIte, Nat.reduceAdd, Int.reduceBEq, Int.reduceBNe]; rfl) ?_
 refine mB rfl ?_
 refine Fo.yes rfl rfl ?_
 refine mP rfl ?_
 refine Fo.yes rfl rfl ?_
 refine Fo.now rfl rfl rfl ?_
 refine Fo.yes rfl rfl ?_
 refine Fo.fa rfl ?_
 refine Fo.yes rfl rfl ?_
 refine Fo.ld rfl rfl ?_
 refine Fo.yes rfl rfl ?_
 refine mP rfl ?_
 refine Fo.yes rfl rfl ?_
 refine Fo.now rfl (exec_eqT rfl rfl (aEq_ptr r 0)) rfl ?_
 refine tB rfl rfl ?_
 refine mB rfl ?_
 refine WpO.nil (hKF _ _ ?_)
 refine Wp.ret ?_
 dsimp only [cond_true, cond_false]
 refine ⟨trivial, _, (by first | rfl | exact getAllC rfl rfl rfl rfl | exact getAllT rfl (getAllC rfl rfl rfl rfl) | exact getAllC rfl rfl rfl (getAllC rfl rfl rfl rfl) | exact getAllC1 rfl rfl rfl), ?_⟩
 exact ⟨rfl, Ext0.ext⟩⟩
instance K_made0 {p : AVal} {H : AHeap} [s : NoSt H p] : PureCon ext prog 90 [p] H 1 (.bool false) := ⟨by
 refine con_of (show prog 90 = some c90 from rfl) rfl rfl fun m hn => ?_
 rcases s.it with rfl | ⟨r, k, L, rfl, hr⟩
 ·skip
  refine sq ?_
  refine rg fun KF hKF => ?_
  refine mB rfl ?_
  refine WpO.nil (hKF _ _ ?_)
  refine sq ?_
  refine rg fun KF hKF => ?_
  refine Fo.mov (by simp only [↓nrmL, nrmK, Nat.reduceEqDiff, ↓reduceIte]; rfl) ?_
  refine Fo.now rfl rfl (by simp only [↓nrmL, nrmZ, Nat.reduceEqDiff, ↓reduceIte, Nat.reduceAdd, Int.reduceBEq, Int.reduceBNe]; rfl) ?_
  refine mB rfl ?_
  refine Fo.no rfl rfl ?_
  refine Fo.no rfl rfl ?_
  refine Fo.no rfl rfl ?_
  refine Fo.no rfl rfl ?_
  refine Fo.no rfl rfl ?_
  refine Fo.no rfl rfl ?_
  refine fB rfl rfl ?_
  refine mB rfl ?_
  refine WpO.nil (hKF _ _ ?_)
  refine Wp.ret ?_
  dsimp only [cond_true, cond_false]
  refine ⟨trivial, _, (by first | rfl | exact getAllC rfl rfl rfl rfl | exact getAllT rfl (getAllC rfl rfl rfl rfl) | exact getAllC rfl rfl rfl (getAllC rfl rfl rfl rfl) | exact getAllC1 rfl rfl rfl), ?_⟩
  exact ⟨rfl, Ext0.ext⟩
 ·skip
  refine sq ?_
  refine rg fun KF hKF => ?_
  refine mB rfl ?_
  refine WpO.nil (hKF _ _ ?_)
  refine sq ?_
  refine rg fun KF hKF => ?_
  refine mP rfl ?_
  refine Fo.now rfl rfl (by simp only [↓nrmL, nrmZ, Nat.reduceEqDiff, ↓reduceIte, Nat.reduceAdd, Int.reduceBEq, Int.reduceBNe]; rfl) ?_
  refine mB rfl ?_
  refine Fo.yes rfl rfl ?_
  refine mP rfl ?_
  refine Fo.yes rfl rfl ?_
  refine Fo.now rfl rfl rfl ?_
  refine Fo.yes rfl rfl ?_
  refine Fo.fa rfl ?_
  refine Fo.yes rfl rfl ?_
  refine Fo.ld rfl rfl ?_
  refine Fo.yes rfl rfl ?_
  refine mP rfl ?_
  refine Fo.yes rfl rfl ?_
  refine Fo.now rfl rfl (by simp only [↓nrmL, nrmZ, Nat.reduceEqDiff, ↓reduceIte, Nat.reduceAdd, Int.reduceBEq, Int.reduceBNe]; rfl) ?_
  refine tB rfl rfl ?_
  refine mB rfl ?_
  refine WpO.nil (hKF _ _ ?_)
  refine Wp.ret ?_
  dsimp only [cond_true, cond_false]
  refine ⟨trivial, _, (by first | rfl | exact getAllC rfl rfl rfl rfl | exact getAllT rfl (getAllC rfl rfl rfl rfl) | exact getAllC rfl rfl rfl (getAllC rfl rfl rfl rfl) | exact getAllC1 rfl rfl rfl), ?_⟩
  exact ⟨rfl, Ext0.ext⟩⟩
instance K_At {r : Nat} {k s : Int} {L : List Int} {H : AHeap} [st : StAt H r [.int .i64 k, .ptr r 0] 234 L] : PureCon ext prog 41 [.ptr r 0, .int .i64 s] H 3 (.tuple [.int .i64 (atS L s).1, .int .i64 (atS L s).2]) := ⟨by
 refine con_of (show prog 41 = some c41 from rfl) rfl rfl fun m hn => ?_
 unfold atS
 cases h1 : stepB s
 ·skip
  try simp only [↓nrmL, nrmZ, Nat.reduceEqDiff, ↓reduceIte, Nat.reduceAdd, Int.reduceBEq, Int.reduceBNe, h1]
  refine sq ?_
  refine rg fun KF hKF => ?_
  refine mI rfl ?_
  refine mI rfl ?_
  refine WpO.nil (hKF _ _ ?_)
  refine sq ?_
  refine sq ?_
  refine rg fun KF hKF => ?_
  refine mP rfl ?_
  refine Fo.pcall (v' := ?_) hn rfl (by simp only [↓nrmL, nrmZ, Nat.reduceEqDiff, ↓reduceIte, Nat.reduceAdd, Int.reduceBEq, Int.reduceBNe, h1, List.map]; rfl) rfl ?hv fun _ _ => ?_; case hv => rfl
  refine Fo.now rfl rfl (by simp only [↓nrmL, nrmZ, Nat.reduceEqDiff, ↓reduceIte, Nat.reduceAdd, Int.reduceBEq, Int.reduceBNe, h1]; rfl) ?_
  refine WpO.nil (hKF _ _ ?_)
  refine Wp.cond (b := false) rfl ?_
  refine Wp.skip ?_
  refine sq ?_
  refine sq ?_
  refine rg fun KF hKF => ?_
  refine mI rfl ?_
  refine Fo.pcall (v' := ?_) hn rfl (by simp only [↓nrmL, nrmZ, Nat.reduceEqDiff, ↓reduceIte, Nat.reduceAdd, Int.reduceBEq, Int.reduceBNe, h1, List.map]; rfl) rfl ?hv fun _ _ => ?_; case hv => (simp only [↓nrmL, nrmZ, Nat.reduceEqDiff, ↓reduceIte, Nat.reduceAdd, Int.reduceBEq, Int.reduceBNe, h1]; rfl)
  refine Fo.now rfl rfl (by simp only [↓nrmL, nrmZ, Nat.reduceEqDiff, ↓reduceIte, Nat.reduceAdd, Int.reduceBEq, Int.reduceBNe, h1]; rfl) ?_
  refine WpO.nil (hKF _ _ ?_)
  refine Wp.cond (b := true) rfl ?_
  refine sq ?_
  refine rg fun KF hKF => ?_
  refine mI rfl ?_
  refine mI rfl ?_
  refine WpO.nil (hKF _ _ ?_)
  refine Wp.ret ?_
  dsimp only [cond_true, cond_false]
  refine ⟨trivial, _, (by first | rfl | exact getAllC rfl rfl rfl rfl | exact getAllT rfl (getAllC rfl rfl rfl rfl) | exact getAllC rfl rfl rfl (getAllC rfl rfl rfl rfl) | exact getAllC1 rfl rfl rfl), ?_⟩
  exact ⟨rfl, Ext0.ext⟩
 haveI hs := stepI_of h1
 obtain ⟨j, rfl⟩ : ∃ j : Nat, s = j := ⟨s.toNat, by have := hs.lo; omega⟩
 have hj : j < 70 := by have := hs.hi; omega
 try simp only [↓nrmL, nrmZ, Nat.reduceEqDiff, ↓reduceIte, Nat.reduceAdd, Int.reduceBEq, Int.reduceBNe, h1]
 refine sq ?_
 refine rg fun KF hKF => ?_
 refine mI rfl ?_
 refine mI rfl ?_
 refine WpO.nil (hKF _ _ ?_)
 refine sq ?_
 refine sq ?_
 refine rg fun KF hKF => ?_
 refine mP rfl ?_
 refine Fo.pcall (v' := ?_) hn rfl (by simp only [↓nrmL, nrmZ, Nat.reduceEqDiff, ↓reduceIte, Nat.reduceAdd, Int.reduceBEq, Int.reduceBNe, h1, List.map]; rfl) rfl ?hv fun _ _ => ?_; case hv => rfl
 refine Fo.now rfl rfl (by simp only [↓nrmL, nrmZ, Nat.reduceEqDiff, ↓reduceIte, Nat.reduceAdd, Int.reduceBEq, Int.reduceBNe, h1]; rfl) ?_
 refine WpO.nil (hKF _ _ ?_)
 refine Wp.cond (b := false) rfl ?_
 refine Wp.skip ?_
 refine sq ?_
 refine sq ?_
 refine rg fun KF hKF => ?_
 refine mI rfl ?_
 refine Fo.pcall (v' := ?_) hn rfl (by simp only [↓nrmL, nrmZ, Nat.reduceEqDiff, ↓reduceIte, Nat.reduceAdd, Int.reduceBEq, Int.reduceBNe, h1, List.map]; rfl) rfl ?hv fun _ _ => ?_; case hv => (simp only [↓nrmL, nrmZ, Nat.reduceEqDiff, ↓reduceIte, Nat.reduceAdd, Int.reduceBEq, Int.reduceBNe, h1]; rfl)
 refine Fo.now rfl rfl (by simp only [↓nrmL, nrmZ, Nat.reduceEqDiff, ↓reduceIte, Nat.reduceAdd, Int.reduceBEq, Int.reduceBNe, h1]; rfl) ?_
 refine WpO.nil (hKF _ _ ?_)
 refine Wp.cond (b := false) rfl ?_
 refine Wp.skip ?_
 refine sq ?_
 refine rg fun KF hKF => ?_
 refine mP rfl ?_
 refine mI rfl ?_
 refine Fo.now rfl rfl rfl ?_
 refine Fo.fa rfl ?_
 refine Fo.now rfl (exec_idxA rfl rfl hj) rfl ?_
 refine Fo.ld rfl (st_get rfl st.len hj) ?_
 refine mI rfl ?_
 refine mI rfl ?_
 refine WpO.nil (hKF _ _ ?_)
 refine Wp.ret ?_
 dsimp only [cond_true, cond_false]
 refine ⟨trivial, _, (by first | rfl | exact getAllC rfl rfl rfl rfl | exact getAllT rfl (getAllC rfl rfl rfl rfl) | exact getAllC rfl rfl rfl (getAllC rfl rfl rfl rfl) | exact getAllC1 rfl rfl rfl), ?_⟩
 exact ⟨by unfold holdS; rfl, Ext0.ext⟩⟩
instance K_At0 {p : AVal} {s : Int} {H : AHeap} [NoSt H p] : PureCon ext prog 41 [p, .int .i64 s] H 3 (.tuple [.int .i64 0, .int .i64 7]) := ⟨by
 refine con_of (show prog 41 = some c41 from rfl) rfl rfl fun m hn => ?_
 refine sq ?_
 refine rg fun KF hKF => ?_
 refine mI rfl ?_
 refine mI rfl ?_
 refine WpO.nil (hKF _ _ ?_)
 refine sq ?_
 refine sq ?_
 refine rg fun KF hKF => ?_
 refine Fo.mov (by simp only [↓nrmL, nrmK, Nat.reduceEqDiff, ↓reduceIte]; rfl) ?_
 refine Fo.pcall (v' := ?_) hn rfl (by simp only [↓nrmL, nrmZ, Nat.reduceEqDiff, ↓reduceIte, Nat.reduceAdd, Int.reduceBEq, Int.reduceBNe, List.map]; rfl) rfl ?hv fun _ _ => ?_; case hv => rfl
 refine Fo.now rfl rfl (by simp only [↓nrmL, nrmZ, Nat.reduceEqDiff, ↓reduceIte, Nat.reduceAdd, Int.reduceBEq, Int.reduceBNe]; rfl) ?_
 refine WpO.nil (hKF _ _ ?_)
 refine Wp.cond (b := true) rfl ?_
 refine sq ?_
 refine rg fun KF hKF => ?_
 refine mI rfl ?_
 refine mI rfl ?_
 refine WpO.nil (hKF _ _ ?_)
 refine Wp.ret ?_
 dsimp only [cond_true, cond_false]
 refine ⟨trivial, _, (by first | rfl | exact getAllC rfl rfl rfl rfl | exact getAllT rfl (getAllC rfl rfl rfl rfl) | exact getAllC rfl rfl rfl (getAllC rfl rfl rfl rfl) | exact getAllC1 rfl rfl rfl), ?_⟩
 exact ⟨rfl, Ext0.ext⟩⟩
instance K_printed {a : Int} {H : AHeap} : PureCon ext prog 94 [.int .i64 a] H 1 (.int .i64 (accS a)) := ⟨by
 refine con_of (show prog 94 = some c94 from rfl) rfl rfl fun m hn => ?_
 unfold accS
 cases h1 : a == 1
 ·cases h2 : a == -1
  ·skip
   try simp only [↓nrmL, nrmZ, Nat.reduceEqDiff, ↓reduceIte, Nat.reduceAdd, Int.reduceBEq, Int.reduceBNe, h1, h2]
   refine sq ?_
   refine rg fun KF hKF => ?_
   refine mI rfl ?_
   refine WpO.nil (hKF _ _ ?_)
   refine sq ?_
   refine sq ?_
   refine rg fun KF hKF => ?_
   refine mI rfl ?_
   refine WpO.nil (hKF _ _ ?_)
   refine Wp.block ?_
   refine sq ?_
   refine rg fun KF hKF => ?_
   refine Fo.bin rfl rfl rfl (by simp only [↓nrmL, nrmZ, Nat.reduceEqDiff, ↓reduceIte, Nat.reduceAdd, Int.reduceBEq, Int.reduceBNe, h1, h2]; rfl) ?_
   refine mB rfl ?_
   refine WpO.nil (hKF _ _ ?_)
   refine Wp.cond (b := false) rfl ?_
   refine sq ?_
   refine rg fun KF hKF => ?_
   refine Fo.bin rfl rfl rfl (by simp only [↓nrmL, nrmZ, Nat.reduceEqDiff, ↓reduceIte, Nat.reduceAdd, Int.reduceBEq, Int.reduceBNe, h1, h2]; rfl) ?_
   refine mB rfl ?_
   refine WpO.nil (hKF _ _ ?_)
   refine Wp.cond (b := false) rfl ?_
   refine Wp.skip ?_
   refine sq ?_
   refine rg fun KF hKF => ?_
   refine mI rfl ?_
   refine WpO.nil (hKF _ _ ?_)
   refine Wp.ret ?_
   dsimp only [cond_true, cond_false]
   refine ⟨trivial, _, (by first | rfl | exact getAllC rfl rfl rfl rfl | exact getAllT rfl (getAllC rfl rfl rfl rfl) | exact getAllC rfl rfl rfl (getAllC rfl rfl rfl rfl) | exact getAllC1 rfl rfl rfl), ?_⟩
   exact ⟨rfl, Ext0.ext⟩
  ·skip
   try simp only [↓nrmL, nrmZ, Nat.reduceEqDiff, ↓reduceIte, Nat.reduceAdd, Int.reduceBEq, Int.reduceBNe, h1, h2]
   refine sq ?_
   refine rg fun KF hKF => ?_
   refine mI rfl ?_
   refine WpO.nil (hKF _ _ ?_)
   refine sq ?_
   refine sq ?_
   refine rg fun KF hKF => ?_
   refine mI rfl ?_
   refine WpO.nil (hKF _ _ ?_)
   refine Wp.block ?_
   refine sq ?_
   refine rg fun KF hKF => ?_
   refine Fo.bin rfl rfl rfl (by simp only [↓nrmL, nrmZ, Nat.reduceEqDiff, ↓reduceIte, Nat.reduceAdd, Int.reduceBEq, Int.reduceBNe, h1, h2]; rfl) ?_
   refine mB rfl ?_
   refine WpO.nil (hKF _ _ ?_)
   refine Wp.cond (b := false) rfl ?_
   refine sq ?_
   refine rg fun KF hKF => ?_
   refine Fo.bin rfl rfl rfl (by simp only [↓nrmL, nrmZ, Nat.reduceEqDiff, ↓reduceIte, Nat.reduceAdd, Int.reduceBEq, Int.reduceBNe, h1, h2]; rfl) ?_
   refine mB rfl ?_
   refine WpO.nil (hKF _ _ ?_)
   refine Wp.cond (b := true) rfl ?_
   refine sq ?_
   refine rg fun KF hKF => ?_
   refine mI rfl ?_
   refine WpO.nil (hKF _ _ ?_)
   refine Wp.ret ?_
   dsimp only [cond_true, cond_false]
   refine ⟨trivial, _, (by first | rfl | exact getAllC rfl rfl rfl rfl | exact getAllT rfl (getAllC rfl rfl rfl rfl) | exact getAllC rfl rfl rfl (getAllC rfl rfl rfl rfl) | exact getAllC1 rfl rfl rfl), ?_⟩
   exact ⟨rfl, Ext0.ext⟩
 ·skip
  try simp only [↓nrmL, nrmZ, Nat.reduceEqDiff, ↓reduceIte, Nat.reduceAdd, Int.reduceBEq, Int.reduceBNe, h1]
  refine sq ?_
  refine rg fun KF hKF => ?_
  refine mI rfl ?_
  refine WpO.nil (hKF _ _ ?_)
  refine sq ?_
  refine sq ?_
  refine rg fun KF hKF => ?_
  refine mI rfl ?_
  refine WpO.nil (hKF _ _ ?_)
  refine Wp.block ?_
  refine sq ?_
  refine rg fun KF hKF => ?_
  refine Fo.bin rfl rfl rfl (by simp only [↓nrmL, nrmZ, Nat.reduceEqDiff, ↓reduceIte, Nat.reduceAdd, Int.reduceBEq, Int.reduceBNe, h1]; rfl) ?_
  refine mB rfl ?_
  refine WpO.nil (hKF _ _ ?_)
  refine Wp.cond (b := true) rfl ?_
  refine sq ?_
  refine rg fun KF hKF => ?_
  refine mI rfl ?_
  refine WpO.nil (hKF _ _ ?_)
  refine Wp.ret ?_
  dsimp only [cond_true, cond_false]
  refine ⟨trivial, _, (by first | rfl | exact getAllC rfl rfl rfl rfl | exact getAllT rfl (getAllC rfl rfl rfl rfl) | exact getAllC rfl rfl rfl (getAllC rfl rfl rfl rfl) | exact getAllC1 rfl rfl rfl), ?_⟩
  exact ⟨rfl, Ext0.ext⟩⟩
theorem K_Print {r : Nat} {k s a : Int} {L : List Int} {H : AHeap} (st : StAt H r [.int .i64 k, .ptr r 0] 234 L) : Con ext prog 3 42 [.ptr r 0, .int .i64 s, .int .i64 a] H fun v H' => v = .tuple [.int .i64 (prS L s a).1, .int .i64 (prS L s a).2] ∧ StAt H' r [.int .i64 k, .ptr r 0] 234 (prL L s a) ∧ ExtP H H' (rowP r) := by
 refine con_of (show prog 42 = some c42 from rfl) rfl rfl fun m hn => ?_
 unfold prS prL
 haveI := st
 cases h1 : stepB s
 ·skip
  try simp only [↓nrmL, nrmZ, Nat.reduceEqDiff, ↓reduceIte, Nat.reduceAdd, Int.reduceBEq, Int.reduceBNe, h1]
  refine sq ?_
  refine rg fun KF hKF => ?_
  refine mI rfl ?_
  refine mI rfl ?_
  refine WpO.nil (hKF _ _ ?_)
  refine sq ?_
  refine sq ?_
  refine rg fun KF hKF => ?_
  refine mP rfl ?_
  refine Fo.pcall (v' := ?_) hn rfl (by simp only [↓nrmL, nrmZ, Nat.reduceEqDiff, ↓reduceIte, Nat.reduceAdd, Int.reduceBEq, Int.reduceBNe, h1, List.map]; rfl) rfl ?hv fun _ _ => ?_; case hv => rfl
  refine Fo.now rfl rfl (by simp only [↓nrmL, nrmZ, Nat.reduceEqDiff, ↓reduceIte, Nat.reduceAdd, Int.reduceBEq, Int.reduceBNe, h1]; rfl) ?_
  refine WpO.nil (hKF _ _ ?_)
  refine Wp.cond (b := false) rfl ?_
  refine Wp.skip ?_
  refine sq ?_
  refine sq ?_
  refine rg fun KF hKF => ?_
  refine mI rfl ?_
  refine Fo.pcall (v' := ?_) hn rfl (by simp only [↓nrmL, nrmZ, Nat.reduceEqDiff, ↓reduceIte, Nat.reduceAdd, Int.reduceBEq, Int.reduceBNe, h1, List.map]; rfl) rfl ?hv fun _ _ => ?_; case hv => (simp only [↓nrmL, nrmZ, Nat.reduceEqDiff, ↓reduceIte, Nat.reduceAdd, Int.reduceBEq, Int.reduceBNe, h1]; rfl)
  refine Fo.now rfl rfl (by simp only [↓nrmL, nrmZ, Nat.reduceEqDiff, ↓reduceIte, Nat.reduceAdd, Int.reduceBEq, Int.reduceBNe, h1]; rfl) ?_
  refine mB rfl ?_
  refine Fo.no rfl rfl ?_
  refine Fo.no rfl rfl ?_
  refine Fo.no rfl rfl ?_
  refine tB rfl rfl ?_
  refine WpO.nil (hKF _ _ ?_)
  refine Wp.cond (b := true) rfl ?_
  refine sq ?_
  refine rg fun KF hKF => ?_
  refine mI rfl ?_
  refine mI rfl ?_
  refine WpO.nil (hKF _ _ ?_)
  refine Wp.ret ?_
  dsimp only [cond_true, cond_false]
  refine ⟨trivial, _, (by first | rfl | exact getAllC rfl rfl rfl rfl | exact getAllT rfl (getAllC rfl rfl rfl rfl) | exact getAllC rfl rfl rfl (getAllC rfl rfl rfl rfl) | exact getAllC1 rfl rfl rfl), ?_⟩
  exact ⟨rfl, inferInstance, ExtP0.ext⟩
 cases h2 : altB a
 ·skip
  try simp only [↓nrmL, nrmZ, Nat.reduceEqDiff, ↓reduceIte, Nat.reduceAdd, Int.reduceBEq, Int.reduceBNe, h1, h2]
  refine sq ?_
  refine rg fun KF hKF => ?_
  refine mI rfl ?_
  refine mI rfl ?_
  refine WpO.nil (hKF _ _ ?_)
  refine sq ?_
  refine sq ?_
  refine rg fun KF hKF => ?_
  refine mP rfl ?_
  refine Fo.pcall (v' := ?_) hn rfl (by simp only [↓nrmL, nrmZ, Nat.reduceEqDiff, ↓reduceIte, Nat.reduceAdd, Int.reduceBEq, Int.reduceBNe, h1, h2, List.map]; rfl) rfl ?hv fun _ _ => ?_; case hv => rfl
  refine Fo.now rfl rfl (by simp only [↓nrmL, nrmZ, Nat.reduceEqDiff, ↓reduceIte, Nat.reduceAdd, Int.reduceBEq, Int.reduceBNe, h1, h2]; rfl) ?_
  refine WpO.nil (hKF _ _ ?_)
  refine Wp.cond (b := false) rfl ?_
  refine Wp.skip ?_
  refine sq ?_
  refine sq ?_
  refine rg fun KF hKF => ?_
  refine mI rfl ?_
  refine Fo.pcall (v' := ?_) hn rfl (by simp only [↓nrmL, nrmZ, Nat.reduceEqDiff, ↓reduceIte, Nat.reduceAdd, Int.reduceBEq, Int.reduceBNe, h1, h2, List.map]; rfl) rfl ?hv fun _ _ => ?_; case hv => (simp only [↓nrmL, nrmZ, Nat.reduceEqDiff, ↓reduceIte, Nat.reduceAdd, Int.reduceBEq, Int.reduceBNe, h1, h2]; rfl)
  refine Fo.now rfl rfl (by simp only [↓nrmL, nrmZ, Nat.reduceEqDiff, ↓reduceIte, Nat.reduceAdd, Int.reduceBEq, Int.reduceBNe, h1, h2]; rfl) ?_
  refine mB rfl ?_
  refine Fo.yes rfl rfl ?_
  refine mI rfl ?_
  refine Fo.yes rfl rfl ?_
  refine Fo.pcall (v' := ?_) hn rfl (by simp only [↓nrmL, nrmZ, Nat.reduceEqDiff, ↓reduceIte, Nat.reduceAdd, Int.reduceBEq, Int.reduceBNe, h1, h2, List.map]; rfl) rfl ?hv fun _ _ => ?_; case hv => (simp only [↓nrmL, nrmZ, Nat.reduceEqDiff, ↓reduceIte, Nat.reduceAdd, Int.reduceBEq, Int.reduceBNe, h1, h2]; rfl)
  refine Fo.yes rfl rfl ?_
  refine Fo.now rfl rfl (by simp only [↓nrmL, nrmZ, Nat.reduceEqDiff, ↓reduceIte, Nat.reduceAdd, Int.reduceBEq, Int.reduceBNe, h1, h2]; rfl) ?_
  refine fB rfl rfl ?_
  refine WpO.nil (hKF _ _ ?_)
  refine Wp.cond (b := true) rfl ?_
  refine sq ?_
  refine rg fun KF hKF => ?_
  refine mI rfl ?_
  refine mI rfl ?_
  refine WpO.nil (hKF _ _ ?_)
  refine Wp.ret ?_
  dsimp only [cond_true, cond_false]
  refine ⟨trivial, _, (by first | rfl | exact getAllC rfl rfl rfl rfl | exact getAllT rfl (getAllC rfl rfl rfl rfl) | exact getAllC rfl rfl rfl (getAllC rfl rfl rfl rfl) | exact getAllC1 rfl rfl rfl), ?_⟩
  exact ⟨rfl, inferInstance, ExtP0.ext⟩
 haveI hs := stepI_of h1
 obtain ⟨j, rfl⟩ : ∃ j : Nat, s = j := ⟨s.toNat, by have := hs.lo; omega⟩
 have hj : j < 70 := by have := hs.hi; omega
 have e : holdS L (j : Int) = L.getD j 0 := by unfold holdS; rfl
 cases h3 : L.getD j 0 == a
 ·skip
  try simp only [↓nrmL, nrmZ, Nat.reduceEqDiff, ↓reduceIte, Nat.reduceAdd, Int.reduceBEq, Int.reduceBNe, h1, h2]
  refine sq ?_
  refine rg fun KF hKF => ?_
  refine mI rfl ?_
  refine mI rfl ?_
  refine WpO.nil (hKF _ _ ?_)
  refine sq ?_
  refine sq ?_
  refine rg fun KF hKF => ?_
  refine mP rfl ?_
  refine Fo.pcall (v' := ?_) hn rfl (by simp only [↓nrmL, nrmZ, Nat.reduceEqDiff, ↓reduceIte, Nat.reduceAdd, Int.reduceBEq, Int.reduceBNe, h1, h2, List.map]; rfl) rfl ?hv fun _ _ => ?_; case hv => rfl
  refine Fo.now rfl rfl (by simp only [↓nrmL, nrmZ, Nat.reduceEqDiff, ↓reduceIte, Nat.reduceAdd, Int.reduceBEq, Int.reduceBNe, h1, h2]; rfl) ?_
  refine WpO.nil (hKF _ _ ?_)
  refine Wp.cond (b := false) rfl ?_
  refine Wp.skip ?_
  refine sq ?_
  refine sq ?_
  refine rg fun KF hKF => ?_
  refine mI rfl ?_
  refine Fo.pcall (v' := ?_) hn rfl (by simp only [↓nrmL, nrmZ, Nat.reduceEqDiff, ↓reduceIte, Nat.reduceAdd, Int.reduceBEq, Int.reduceBNe, h1, h2, List.map]; rfl) rfl ?hv fun _ _ => ?_; case hv => (simp only [↓nrmL, nrmZ, Nat.reduceEqDiff, ↓reduceIte, Nat.reduceAdd, Int.reduceBEq, Int.reduceBNe, h1, h2]; rfl)
  refine Fo.now rfl rfl (by simp only [↓nrmL, nrmZ, Nat.reduceEqDiff, ↓reduceIte, Nat.reduceAdd, Int.reduceBEq, Int.reduceBNe, h1, h2]; rfl) ?_
  refine mB rfl ?_
  refine Fo.yes rfl rfl ?_
  refine mI rfl ?_
  refine Fo.yes rfl rfl ?_
  refine Fo.pcall (v' := ?_) hn rfl (by simp only [↓nrmL, nrmZ, Nat.reduceEqDiff, ↓reduceIte, Nat.reduceAdd, Int.reduceBEq, Int.reduceBNe, h1, h2, List.map]; rfl) rfl ?hv fun _ _ => ?_; case hv => (simp only [↓nrmL, nrmZ, Nat.reduceEqDiff, ↓reduceIte, Nat.reduceAdd, Int.reduceBEq, Int.reduceBNe, h1, h2]; rfl)
  refine Fo.yes rfl rfl ?_
  refine Fo.now rfl rfl (by simp only [↓nrmL, nrmZ, Nat.reduceEqDiff, ↓reduceIte, Nat.reduceAdd, Int.reduceBEq, Int.reduceBNe, h1, h2]; rfl) ?_
  refine fB rfl rfl ?_
  refine WpO.nil (hKF _ _ ?_)
  refine Wp.cond (b := false) rfl ?_
  refine Wp.skip ?_
  refine sq ?_
  refine sq ?_
  refine rg fun KF hKF => ?_
  refine mP rfl ?_
  refine mI rfl ?_
  refine Fo.now rfl rfl rfl ?_
  refine Fo.fa rfl ?_
  refine Fo.now rfl (exec_idxA rfl rfl hj) rfl ?_
  refine Fo.ld rfl (st_get rfl st.len hj) ?_
  try simp only [↓nrmL, nrmZ, Nat.reduceEqDiff, ↓reduceIte, Nat.reduceAdd, Int.reduceBEq, Int.reduceBNe, h3]
  refine mI rfl ?_
  refine Fo.bin rfl rfl rfl (by simp only [↓nrmL, nrmZ, Nat.reduceEqDiff, ↓reduceIte, Nat.reduceAdd, Int.reduceBEq, Int.reduceBNe, h3]; rfl) ?_
  refine WpO.nil (hKF _ _ ?_)
  refine Wp.cond (b := false) rfl ?_
  refine Wp.skip ?_
  refine sq ?_
  refine rg fun KF hKF => ?_
  refine mP rfl ?_
  refine mI rfl ?_
  refine mI rfl ?_
  refine Fo.now rfl rfl rfl ?_
  refine Fo.fa rfl ?_
  refine Fo.now rfl (exec_idxA rfl rfl hj) rfl ?_
  refine Fo.stS (m := 2) (j := j) rfl rfl rfl hj fun H9 hs9 hx9 => ?_
  refine WpO.nil (hKF _ _ ?_)
  refine sq ?_
  refine rg fun KF hKF => ?_
  refine mI rfl ?_
  refine Fo.pcall (v' := ?_) hn rfl (by simp only [↓nrmL, nrmZ, Nat.reduceEqDiff, ↓reduceIte, Nat.reduceAdd, Int.reduceBEq, Int.reduceBNe, List.map]; rfl) rfl ?hv fun _ _ => ?_; case hv => rfl
  refine mI rfl ?_
  refine mI rfl ?_
  refine WpO.nil (hKF _ _ ?_)
  refine Wp.ret ?_
  dsimp only [cond_true, cond_false]
  refine ⟨trivial, _, (by first | rfl | exact getAllC rfl rfl rfl rfl | exact getAllT rfl (getAllC rfl rfl rfl rfl) | exact getAllC rfl rfl rfl (getAllC rfl rfl rfl rfl) | exact getAllC1 rfl rfl rfl), ?_⟩
  exact ⟨by rw [e, h3]; rfl, inferInstance, ExtP0.ext⟩
 ·skip
  try simp only [↓nrmL, nrmZ, Nat.reduceEqDiff, ↓reduceIte, Nat.reduceAdd, Int.reduceBEq, Int.reduceBNe, h1, h2]
  refine sq ?_
  refine rg fun KF hKF => ?_
  refine mI rfl ?_
  refine mI rfl ?_
  refine WpO.nil (hKF _ _ ?_)
  refine sq ?_
  refine sq ?_
  refine rg fun KF hKF => ?_
  refine mP rfl ?_
  refine Fo.pcall (v' := ?_) hn rfl (by simp only [↓nrmL, nrmZ, Nat.reduceEqDiff, ↓reduceIte, Nat.reduceAdd, Int.reduceBEq, Int.reduceBNe, h1, h2, List.map]; rfl) rfl ?hv fun _ _ => ?_; case hv => rfl
  refine Fo.now rfl rfl (by simp only [↓nrmL, nrmZ, Nat.reduceEqDiff, ↓reduceIte, Nat.reduceAdd, Int.reduceBEq, Int.reduceBNe, h1, h2]; rfl) ?_
  refine WpO.nil (hKF _ _ ?_)
  refine Wp.cond (b := false) rfl ?_
  refine Wp.skip ?_
  refine sq ?_
  refine sq ?_
  refine rg fun KF hKF => ?_
  refine mI rfl ?_
  refine Fo.pcall (v' := ?_) hn rfl (by simp only [↓nrmL, nrmZ, Nat.reduceEqDiff, ↓reduceIte, Nat.reduceAdd, Int.reduceBEq, Int.reduceBNe, h1, h2, List.map]; rfl) rfl ?hv fun _ _ => ?_; case hv => (simp only [↓nrmL, nrmZ, Nat.reduceEqDiff, ↓reduceIte, Nat.reduceAdd, Int.reduceBEq, Int.reduceBNe, h1, h2]; rfl)
  refine Fo.now rfl rfl (by simp only [↓nrmL, nrmZ, Nat.reduceEqDiff, ↓reduceIte, Nat.reduceAdd, Int.reduceBEq, Int.reduceBNe, h1, h2]; rfl) ?_
  refine mB rfl ?_
  refine Fo.yes rfl rfl ?_
  refine mI rfl ?_
  refine Fo.yes rfl rfl ?_
  refine Fo.pcall (v' := ?_) hn rfl (by simp only [↓nrmL, nrmZ, Nat.reduceEqDiff, ↓reduceIte, Nat.reduceAdd, Int.reduceBEq, Int.reduceBNe, h1, h2, List.map]; rfl) rfl ?hv fun _ _ => ?_; case hv => (simp only [↓nrmL, nrmZ, Nat.reduceEqDiff, ↓reduceIte, Nat.reduceAdd, Int.reduceBEq, Int.reduceBNe, h1, h2]; rfl)
  refine Fo.yes rfl rfl ?_
  refine Fo.now rfl rfl (by simp only [↓nrmL, nrmZ, Nat.reduceEqDiff, ↓reduceIte, Nat.reduceAdd, Int.reduceBEq, Int.reduceBNe, h1, h2]; rfl) ?_
  refine fB rfl rfl ?_
  refine WpO.nil (hKF _ _ ?_)
  refine Wp.cond (b := false) rfl ?_
  refine Wp.skip ?_
  refine sq ?_
  refine sq ?_
  refine rg fun KF hKF => ?_
  refine mP rfl ?_
  refine mI rfl ?_
  refine Fo.now rfl rfl rfl ?_
  refine Fo.fa rfl ?_
  refine Fo.now rfl (exec_idxA rfl rfl hj) rfl ?_
  refine Fo.ld rfl (st_get rfl st.len hj) ?_
  try simp only [↓nrmL, nrmZ, Nat.reduceEqDiff, ↓reduceIte, Nat.reduceAdd, Int.reduceBEq, Int.reduceBNe, h3]
  refine mI rfl ?_
  refine Fo.bin rfl rfl rfl (by simp only [↓nrmL, nrmZ, Nat.reduceEqDiff, ↓reduceIte, Nat.reduceAdd, Int.reduceBEq, Int.reduceBNe, h3]; rfl) ?_
  refine WpO.nil (hKF _ _ ?_)
  refine Wp.cond (b := true) rfl ?_
  refine sq ?_
  refine rg fun KF hKF => ?_
  refine mI rfl ?_
  refine mI rfl ?_
  refine WpO.nil (hKF _ _ ?_)
  refine Wp.ret ?_
  dsimp only [cond_true, cond_false]
  refine ⟨trivial, _, (by first | rfl | exact getAllC rfl rfl rfl rfl | exact getAllT rfl (getAllC rfl rfl rfl rfl) | exact getAllC rfl rfl rfl (getAllC rfl rfl rfl rfl) | exact getAllC1 rfl rfl rfl), ?_⟩
  refine ⟨by rw [e, h3]; rfl, ?_, ExtP0.ext⟩
  have h4 : L.set j a = L := set_same (by simpa using h3) (by rw [st.len]; exact hj)
  show StAt _ r _ _ (L.set j a)
  rw [h4]
  infer_instance
end Go.Am
