import Derived.Test.YtpochhefklmnfaaAmBC
import Derived.Lib.BytesEntry
import Derived.Laws.Externs
import Derived.Test.YtpochhefklmnfaaProg
import Derived.Test.YtpochhefklmnfaaRows
import Derived.WalkKit
import Derived.ProofKit
import Derived.OpenShut
import Derived.Deep.DeepHandedRow
import Derived.Lib.LaidTab
set_option linter.unusedSimpArgs false
set_option linter.unusedVariables false
set_option maxRecDepth 100000
set_option maxHeartbeats 4000000
namespace Go.Am
open Go
def aroundT : List (Nat × List AVal) := []
def c7 : RFunc := ⟨166,.code (.seq (.region [⟨some 10,.mov (.val (.bool false)),none⟩]) (.seq (.region [⟨some 25,.mov (.tmp 0),none⟩,⟨some 26,.mov (.tmp 1),none⟩,⟨some 27,.call (.val (.func (.func 40) [] [])) [.tmp 25,.tmp 26],none⟩,⟨some 11,.new 24 [(.int .i64 0),(.int .i64 0),.nslice],none⟩,⟨none,.store 3 (.tmp 11) (.tmp 27),none⟩]) (.seq (.seq (.region [⟨some 28,.fieldAddr 0 (.tmp 11),none⟩,⟨some 29,.load none (.tmp 28),none⟩,⟨some 30,.bin .eql (.tmp 29) (.val (.int .i64 0)),none⟩,⟨some 31,.mov (.tmp 30),none⟩,⟨some 32,.fieldAddr 1 (.tmp 11),some (31,false)⟩,⟨some 33,.load none (.tmp 32),some (31,false)⟩,⟨some 34,.bin .eql (.tmp 33) (.val (.int .i64 0)),some (31,false)⟩,⟨some 35,.pick (.tmp 31) (.val (.bool true)) (.tmp 34),none⟩]) (.cond (.tmp 35) (.seq (.region [⟨some 37,.load (some 3) (.tmp 11),none⟩,⟨some 38,.call (.val (.func (.func 18) [] [])) [.tmp 37],none⟩,⟨some 36,.mov (.tmp 38),none⟩,⟨some 39,.extract (.tmp 36) 0,none⟩,⟨some 40,.extract (.tmp 36) 1,none⟩,⟨some 12,.mov (.tmp 39),none⟩,⟨some 13,.mov (.tmp 40),none⟩]) (.seq (.region [⟨some 41,.mov (.tmp 13),none⟩,⟨some 42,.bin .eql (.tmp 41) (.val (.int .i64 0)),none⟩,⟨some 43,.mov (.tmp 42),none⟩,⟨some 44,.mov (.tmp 12),some (43,true)⟩,⟨some 45,.lenS (.tmp 44),some (43,true)⟩,⟨some 46,.bin .eql (.tmp 45) (.val (.int .i64 0)),some (43,true)⟩,⟨some 47,.pick (.tmp 43) (.tmp 46) (.val (.bool false)),none⟩,⟨some 48,.mov (.tmp 47),none⟩,⟨some 49,.call (.val (.func (.func 12) [] [])) [],some (48,true)⟩,⟨some 50,.pick (.tmp 48) (.tmp 49) (.val (.bool false)),none⟩,⟨some 10,.mov (.tmp 50),none⟩]) .ret)) .skip)) (.seq (.seq (.region [⟨some 51,.mov (.tmp 2),none⟩,⟨some 52,.bin .rem (.tmp 51) (.val (.int .u8 3)),none⟩,⟨some 53,.bin .eql (.tmp 52) (.val (.int .u8 0)),none⟩]) (.cond (.tmp 53) (.seq (.region [⟨some 54,.fieldAddr 0 (.tmp 11),none⟩,⟨some 55,.load none (.tmp 54),none⟩,⟨some 56,.mov (.val (.int .i64 0)),none⟩]) (.block 0 (.loop (.seq (.region [⟨some 57,.bin .lss (.tmp 56) (.tmp 55),none⟩]) (.seq (.cond (.tmp 57) .skip (.exit 0)) (.seq (.block 1 (.seq (.region [⟨some 58,.mov (.tmp 56),none⟩,⟨some 14,.mov (.tmp 58),none⟩]) (.dregion [⟨⟨some 59,.fieldAddr 2 (.tmp 11),none⟩,0,0,true⟩,⟨⟨some 60,.load none (.tmp 59),none⟩,1,1,true⟩,⟨⟨some 61,.mov (.tmp 2),none⟩,0,0,true⟩,⟨⟨some 62,.convInt .i64 (.tmp 61),none⟩,4,0,true⟩,⟨⟨some 63,.fieldAddr 1 (.tmp 11),none⟩,0,0,true⟩,⟨⟨some 64,.load none (.tmp 63),none⟩,16,1,true⟩,⟨⟨some 65,.bin .rem (.tmp 62) (.tmp 64),none⟩,60,0,true⟩,⟨⟨some 66,.fieldAddr 0 (.tmp 11),none⟩,0,0,true⟩,⟨⟨some 67,.load none (.tmp 66),none⟩,128,1,true⟩,⟨⟨some 68,.bin .mul (.tmp 65) (.tmp 67),none⟩,508,0,true⟩,⟨⟨some 69,.mov (.tmp 14),none⟩,0,0,true⟩,⟨⟨some 70,.bin .add (.tmp 68) (.tmp 69),none⟩,2044,0,true⟩,⟨⟨some 71,.idxS 1 (.tmp 60) (.tmp 70),none⟩,4095,0,true⟩,⟨⟨none,.store 1 (.tmp 71) (.val (.int .u8 1)),none⟩,8191,2,false⟩]))) (.region [⟨some 72,.bin .add (.tmp 56) (.val (.int .i64 1)),none⟩,⟨some 56,.mov (.tmp 72),none⟩]))))))) .skip)) (.seq (.region [⟨some 74,.load (some 3) (.tmp 11),none⟩,⟨some 75,.call (.val (.func (.func 18) [] [])) [.tmp 74],none⟩,⟨some 73,.mov (.tmp 75),none⟩,⟨some 76,.extract (.tmp 73) 0,none⟩,⟨some 77,.extract (.tmp 73) 1,none⟩,⟨some 15,.mov (.tmp 76),none⟩,⟨some 16,.mov (.tmp 77),none⟩]) (.seq (.dregion [⟨⟨some 79,.load (some 3) (.tmp 11),none⟩,0,1,true⟩,⟨⟨some 80,.load (some 3) (.tmp 11),none⟩,0,1,true⟩,⟨⟨some 81,.mov (.tmp 3),none⟩,0,0,true⟩,⟨⟨some 82,.mov (.tmp 4),none⟩,0,0,true⟩,⟨⟨some 83,.call (.val (.func (.func 41) [] [])) [.tmp 80,.tmp 81,.tmp 82],none⟩,14,2,false⟩,⟨⟨some 84,.call (.val (.func (.func 15) [] [])) [.tmp 79,.tmp 83],none⟩,31,2,false⟩,⟨⟨some 78,.mov (.tmp 84),none⟩,63,0,false⟩,⟨⟨some 85,.extract (.tmp 78) 0,none⟩,127,0,false⟩,⟨⟨some 86,.extract (.tmp 78) 1,none⟩,127,0,false⟩,⟨⟨some 17,.mov (.tmp 85),none⟩,255,0,false⟩,⟨⟨some 18,.mov (.tmp 86),none⟩,1023,0,false⟩]) (.seq (.seq (.region [⟨some 87,.mov (.tmp 16),none⟩,⟨some 88,.bin .neq (.tmp 87) (.val (.int .i64 0)),none⟩,⟨some 89,.mov (.tmp 88),none⟩,⟨some 90,.mov (.tmp 18),some (89,false)⟩,⟨some 91,.bin .neq (.tmp 90) (.val (.int .i64 0)),some (89,false)⟩,⟨some 92,.pick (.tmp 89) (.val (.bool true)) (.tmp 91),none⟩,⟨some 93,.mov (.tmp 92),none⟩,⟨some 94,.mov (.tmp 15),some (93,false)⟩,⟨some 95,.lenS (.tmp 94),some (93,false)⟩,⟨some 96,.bin .eql (.tmp 95) (.val (.int .i64 0)),some (93,false)⟩,⟨some 97,.mov (.tmp 96),some (93,false)⟩,⟨some 98,.mov (.tmp 17),some (97,true)⟩,⟨some 99,.bin .mul (.val (.int .i64 8)) (.tmp 98),some (97,true)⟩,⟨some 100,.fieldAddr 0 (.tmp 11),some (97,true)⟩,⟨some 101,.load none (.tmp 100),some (97,true)⟩,⟨some 102,.bin .leq (.tmp 99) (.tmp 101),some (97,true)⟩,⟨some 103,.pick (.tmp 97) (.tmp 102) (.val (.bool false)),some (93,false)⟩,⟨some 104,.pick (.tmp 93) (.val (.bool true)) (.tmp 103),none⟩]) (.cond (.tmp 104) (.seq (.region [⟨some 10,.mov (.val (.bool false)),none⟩]) .ret) .skip)) (.seq (.region [⟨some 19,.mov (.val (.int .i64 1073741824)),none⟩]) (.seq (.seq (.region [⟨some 105,.mov (.tmp 15),none⟩,⟨some 106,.lenS (.tmp 105),none⟩,⟨some 107,.mov (.val (.int .i64 0)),none⟩]) (.block 2 (.loop (.seq (.region [⟨some 108,.bin .lss (.tmp 107) (.tmp 106),none⟩]) (.seq (.cond (.tmp 108) .skip (.exit 2)) (.seq (.block 3 (.seq (.region [⟨some 109,.mov (.tmp 107),none⟩,⟨some 110,.idxS 1 (.tmp 105) (.tmp 107),none⟩,⟨some 111,.load none (.tmp 110),none⟩,⟨some 20,.mov (.tmp 109),none⟩,⟨some 21,.mov (.tmp 111),none⟩]) (.seq (.region [⟨some 113,.load (some 3) (.tmp 11),none⟩,⟨some 114,.mov (.tmp 21),none⟩,⟨some 115,.call (.val (.func (.func 15) [] [])) [.tmp 113,.tmp 114],none⟩,⟨some 112,.mov (.tmp 115),none⟩,⟨some 116,.extract (.tmp 112) 0,none⟩,⟨some 117,.extract (.tmp 112) 1,none⟩,⟨some 22,.mov (.tmp 116),none⟩,⟨some 23,.mov (.tmp 117),none⟩]) (.seq (.seq (.region [⟨some 118,.mov (.tmp 23),none⟩,⟨some 119,.bin .neq (.tmp 118) (.val (.int .i64 0)),none⟩,⟨some 120,.mov (.tmp 119),none⟩,⟨some 121,.mov (.tmp 22),some (120,false)⟩,⟨some 122,.bin .mul (.val (.int .i64 8)) (.tmp 121),some (120,false)⟩,⟨some 123,.fieldAddr 0 (.tmp 11),some (120,false)⟩,⟨some 124,.load none (.tmp 123),some (120,false)⟩,⟨some 125,.bin .gtr (.tmp 122) (.tmp 124),some (120,false)⟩,⟨some 126,.pick (.tmp 120) (.val (.bool true)) (.tmp 125),none⟩]) (.cond (.tmp 126) (.seq (.region [⟨some 10,.mov (.val (.bool false)),none⟩]) .ret) .skip)) (.seq (.region [⟨some 127,.mov (.tmp 19),none⟩,⟨some 128,.mov (.tmp 22),none⟩,⟨some 129,.minmax false [.tmp 127,.tmp 128],none⟩,⟨some 19,.mov (.tmp 129),none⟩]) (.seq (.region [⟨some 130,.mov (.tmp 21),none⟩,⟨some 131,.lenS (.tmp 130),none⟩,⟨some 132,.mov (.val (.int .i64 0)),none⟩]) (.block 4 (.loop (.seq (.region [⟨some 133,.bin .lss (.tmp 132) (.tmp 131),none⟩]) (.seq (.cond (.tmp 133) .skip (.exit 4)) (.seq (.block 5 (.seq (.region [⟨some 134,.mov (.tmp 132),none⟩,⟨some 24,.mov (.tmp 134),none⟩]) (.seq (.dregion [⟨⟨some 135,.mov (.tmp 20),none⟩,0,0,true⟩,⟨⟨some 136,.bin .gtr (.tmp 135) (.val (.int .i64 0)),none⟩,1,0,true⟩,⟨⟨some 137,.mov (.tmp 136),none⟩,3,0,true⟩,⟨⟨some 138,.mov (.tmp 21),some (137,true)⟩,7,0,true⟩,⟨⟨some 139,.mov (.tmp 24),some (137,true)⟩,7,0,true⟩,⟨⟨some 140,.idxS 1 (.tmp 138) (.tmp 139),some (137,true)⟩,31,0,true⟩,⟨⟨some 141,.load none (.tmp 140),some (137,true)⟩,63,1,true⟩,⟨⟨some 142,.mov (.tmp 15),some (137,true)⟩,7,0,true⟩,⟨⟨some 143,.mov (.tmp 20),some (137,true)⟩,7,0,true⟩,⟨⟨some 144,.bin .sub (.tmp 143) (.val (.int .i64 1)),some (137,true)⟩,263,0,true⟩,⟨⟨some 145,.idxS 1 (.tmp 142) (.tmp 144),some (137,true)⟩,903,0,true⟩,⟨⟨some 146,.load none (.tmp 145),some (137,true)⟩,1927,1,true⟩,⟨⟨some 147,.mov (.tmp 24),some (137,true)⟩,7,0,true⟩,⟨⟨some 148,.idxS 1 (.tmp 146) (.tmp 147),some (137,true)⟩,8071,0,true⟩,⟨⟨some 149,.load none (.tmp 148),some (137,true)⟩,16263,1,true⟩,⟨⟨some 150,.bin .sub (.tmp 141) (.tmp 149),some (137,true)⟩,32767,0,true⟩,⟨⟨some 151,.bin .leq (.tmp 150) (.val (.int .i64 2)),some (137,true)⟩,65535,0,true⟩,⟨⟨some 152,.pick (.tmp 137) (.tmp 151) (.val (.bool false)),none⟩,131071,0,true⟩]) (.cond (.tmp 152) (.seq (.region [⟨some 10,.mov (.val (.bool false)),none⟩]) .ret) .skip)))) (.region [⟨some 153,.bin .add (.tmp 132) (.val (.int .i64 1)),none⟩,⟨some 132,.mov (.tmp 153),none⟩])))))))))))) (.region [⟨some 154,.bin .add (.tmp 107) (.val (.int .i64 1)),none⟩,⟨some 107,.mov (.tmp 154),none⟩]))))))) (.seq (.region [⟨some 155,.mov (.tmp 15),none⟩,⟨some 156,.lenS (.tmp 155),none⟩,⟨some 157,.bin .eql (.tmp 156) (.val (.int .i64 0)),none⟩,⟨some 158,.mov (.tmp 157),none⟩,⟨some 159,.mov (.tmp 17),some (158,false)⟩,⟨some 160,.mov (.tmp 19),some (158,false)⟩,⟨some 161,.bin .geq (.tmp 159) (.tmp 160),some (158,false)⟩,⟨some 162,.pick (.tmp 158) (.val (.bool true)) (.tmp 161),none⟩,⟨some 163,.mov (.tmp 162),none⟩,⟨some 164,.call (.val (.func (.func 12) [] [])) [],some (163,true)⟩,⟨some 165,.pick (.tmp 163) (.tmp 164) (.val (.bool false)),none⟩,⟨some 10,.mov (.tmp 165),none⟩]) .ret)))))))))),[.tmp 10]⟩
def c12 : RFunc := ⟨84,.code (.seq (.region [⟨some 0,.mov (.val (.bool false)),none⟩]) (.seq (.region [⟨some 6,.call (.val (.func (.func 47) [] [])) [(.val (.int .i64 7))],none⟩,⟨some 1,.new 24 [(.int .i64 0),(.int .i64 0),.nslice],none⟩,⟨none,.store 3 (.tmp 1) (.tmp 6),none⟩]) (.seq (.region [⟨some 8,.load (some 3) (.tmp 1),none⟩,⟨some 9,.call (.val (.func (.func 18) [] [])) [.tmp 8],none⟩,⟨some 7,.mov (.tmp 9),none⟩,⟨some 10,.extract (.tmp 7) 0,none⟩,⟨some 11,.extract (.tmp 7) 1,none⟩,⟨some 2,.mov (.tmp 10),none⟩,⟨some 3,.mov (.tmp 11),none⟩]) (.seq (.dregion [⟨⟨some 13,.load (some 3) (.tmp 1),none⟩,0,1,true⟩,⟨⟨some 14,.buildSlice 3 1 1 [(.int .i64 0)] [(0,1,(.val (.int .i64 2)))],none⟩,0,3,true⟩,⟨⟨some 15,.call (.val (.func (.func 48) [] [])) [(.val (.int .i64 16)),.tmp 14],none⟩,2,2,false⟩,⟨⟨some 16,.idxS 1 (.tmp 15) (.val (.int .i64 0)),none⟩,6,0,false⟩,⟨⟨some 17,.load none (.tmp 16),none⟩,14,1,false⟩,⟨⟨some 18,.call (.val (.func (.func 15) [] [])) [.tmp 13,.tmp 17],none⟩,31,2,false⟩,⟨⟨some 12,.mov (.tmp 18),none⟩,63,0,false⟩,⟨⟨some 19,.extract (.tmp 12) 0,none⟩,127,0,false⟩,⟨⟨some 20,.extract (.tmp 12) 1,none⟩,127,0,false⟩,⟨⟨some 4,.mov (.tmp 19),none⟩,255,0,false⟩,⟨⟨some 5,.mov (.tmp 20),none⟩,1023,0,false⟩]) (.seq (.seq (.dregion [⟨⟨some 21,.mov (.tmp 3),none⟩,0,0,true⟩,⟨⟨some 22,.bin .neq (.tmp 21) (.val (.int .i64 0)),none⟩,1,0,true⟩,⟨⟨some 23,.mov (.tmp 22),none⟩,3,0,true⟩,⟨⟨some 24,.mov (.tmp 5),some (23,false)⟩,7,0,true⟩,⟨⟨some 25,.bin .neq (.tmp 24) (.val (.int .i64 0)),some (23,false)⟩,15,0,true⟩,⟨⟨some 26,.pick (.tmp 23) (.val (.bool true)) (.tmp 25),none⟩,31,0,true⟩,⟨⟨some 27,.mov (.tmp 26),none⟩,63,0,true⟩,⟨⟨some 28,.mov (.tmp 2),some (27,false)⟩,127,0,true⟩,⟨⟨some 29,.lenS (.tmp 28),some (27,false)⟩,255,0,true⟩,⟨⟨some 30,.bin .neq (.tmp 29) (.val (.int .i64 1)),some (27,false)⟩,511,0,true⟩,⟨⟨some 31,.pick (.tmp 27) (.val (.bool true)) (.tmp 30),none⟩,1023,0,true⟩,⟨⟨some 32,.mov (.tmp 31),none⟩,2047,0,true⟩,⟨⟨some 33,.mov (.tmp 2),some (32,false)⟩,4095,0,true⟩,⟨⟨some 34,.idxS 1 (.tmp 33) (.val (.int .i64 0)),some (32,false)⟩,8191,0,true⟩,⟨⟨some 35,.load none (.tmp 34),some (32,false)⟩,16383,1,true⟩,⟨⟨some 36,.buildSlice 3 1 1 [(.int .i64 0)] [(0,1,(.val (.int .i64 2)))],some (32,false)⟩,4095,3,true⟩,⟨⟨some 37,.call (.val (.func (.func 48) [] [])) [(.val (.int .i64 16)),.tmp 36],some (32,false)⟩,36863,2,false⟩,⟨⟨some 38,.idxS 1 (.tmp 37) (.val (.int .i64 0)),some (32,false)⟩,102399,0,false⟩,⟨⟨some 39,.load none (.tmp 38),some (32,false)⟩,233471,1,false⟩,⟨⟨some 40,.call (.val (.func (.func 17) [] [])) [.tmp 35,.tmp 39],some (32,false)⟩,524287,2,false⟩,⟨⟨some 41,.un .not (.tmp 40),some (32,false)⟩,1048575,0,false⟩,⟨⟨some 42,.pick (.tmp 32) (.val (.bool true)) (.tmp 41),none⟩,2097151,0,false⟩,⟨⟨some 43,.mov (.tmp 42),none⟩,4194303,0,false⟩,⟨⟨some 44,.mov (.tmp 4),some (43,false)⟩,8388607,0,false⟩,⟨⟨some 45,.bin .neq (.tmp 44) (.val (.int .i64 2)),some (43,false)⟩,16777215,0,false⟩,⟨⟨some 46,.pick (.tmp 43) (.val (.bool true)) (.tmp 45),none⟩,33554431,0,false⟩]) (.cond (.tmp 46) (.seq (.region [⟨some 0,.mov (.val (.bool false)),none⟩]) .ret) .skip)) (.seq (.region [⟨some 47,.fieldAddr 2 (.tmp 1),none⟩,⟨some 48,.load none (.tmp 47),none⟩,⟨some 49,.idxS 1 (.tmp 48) (.val (.int .i64 23)),none⟩,⟨none,.store 1 (.tmp 49) (.val (.int .u8 1)),none⟩]) (.seq (.region [⟨some 51,.load (some 3) (.tmp 1),none⟩,⟨some 52,.call (.val (.func (.func 18) [] [])) [.tmp 51],none⟩,⟨some 50,.mov (.tmp 52),none⟩,⟨some 53,.extract (.tmp 50) 0,none⟩,⟨some 54,.extract (.tmp 50) 1,none⟩,⟨some 2,.mov (.tmp 53),none⟩,⟨some 3,.mov (.tmp 54),none⟩]) (.seq (.region [⟨some 55,.mov (.tmp 3),none⟩,⟨some 56,.bin .eql (.tmp 55) (.val (.int .i64 0)),none⟩,⟨some 57,.mov (.tmp 56),none⟩,⟨some 58,.mov (.tmp 2),some (57,true)⟩,⟨some 59,.lenS (.tmp 58),some (57,true)⟩,⟨some 60,.bin .eql (.tmp 59) (.val (.int .i64 1)),some (57,true)⟩,⟨some 61,.pick (.tmp 57) (.tmp 60) (.val (.bool false)),none⟩,⟨some 62,.mov (.tmp 61),none⟩,⟨some 63,.mov (.tmp 2),some (62,true)⟩,⟨some 64,.idxS 1 (.tmp 63) (.val (.int .i64 0)),some (62,true)⟩,⟨some 65,.load none (.tmp 64),some (62,true)⟩,⟨some 66,.idxS 1 (.tmp 65) (.val (.int .i64 7)),some (62,true)⟩,⟨some 67,.load none (.tmp 66),some (62,true)⟩,⟨some 68,.bin .eql (.tmp 67) (.val (.int .i64 1)),some (62,true)⟩,⟨some 69,.pick (.tmp 62) (.tmp 68) (.val (.bool false)),none⟩,⟨some 70,.mov (.tmp 69),none⟩,⟨some 71,.buildSlice 3 1 5 [(.int .i64 0),(.int .i64 0),(.int .i64 0),(.int .i64 0),(.int .i64 0)] [(0,1,(.val (.int .i64 4))),(1,1,(.val (.int .i64 10))),(2,1,(.val (.int .i64 16))),(3,1,(.val (.int .i64 22))),(4,1,(.val (.int .i64 28)))],some (70,true)⟩,⟨some 72,.call (.val (.func (.func 48) [] [])) [(.val (.int .i64 3)),.tmp 71],some (70,true)⟩,⟨some 73,.call (.val (.func (.func 27) [] [])) [.tmp 72],some (70,true)⟩,⟨some 74,.lenS (.tmp 73),some (70,true)⟩,⟨some 75,.bin .eql (.tmp 74) (.val (.int .i64 1)),some (70,true)⟩,⟨some 76,.pick (.tmp 70) (.tmp 75) (.val (.bool false)),none⟩,⟨some 77,.mov (.tmp 76),none⟩,⟨some 78,.buildSlice 3 1 5 [(.int .i64 0),(.int .i64 0),(.int .i64 0),(.int .i64 0),(.int .i64 0)] [(0,1,(.val (.int .i64 4))),(1,1,(.val (.int .i64 10))),(2,1,(.val (.int .i64 16))),(3,1,(.val (.int .i64 22))),(4,1,(.val (.int .i64 31)))],some (77,true)⟩,⟨some 79,.call (.val (.func (.func 48) [] [])) [(.val (.int .i64 3)),.tmp 78],some (77,true)⟩,⟨some 80,.call (.val (.func (.func 27) [] [])) [.tmp 79],some (77,true)⟩,⟨some 81,.lenS (.tmp 80),some (77,true)⟩,⟨some 82,.bin .eql (.tmp 81) (.val (.int .i64 0)),some (77,true)⟩,⟨some 83,.pick (.tmp 77) (.tmp 82) (.val (.bool false)),none⟩,⟨some 0,.mov (.tmp 83),none⟩]) .ret)))))))),[.tmp 0]⟩
def c14 : RFunc := ⟨8,.code (.seq (.region [⟨some 2,.mov (.val .nslice),none⟩]) (.seq (.seq (.region [⟨some 3,.mov (.tmp 0),none⟩,⟨some 4,.eq false .slice (.tmp 3) (.val .nslice),none⟩]) (.cond (.tmp 4) (.seq (.region [⟨some 2,.mov (.val .nslice),none⟩]) .ret) .skip)) (.seq (.region [⟨some 5,.buildSlice 3 1 0 [] [],none⟩,⟨some 6,.mov (.tmp 0),none⟩,⟨some 7,.append 3 1 8 (.tmp 5) (.tmp 6),none⟩,⟨some 2,.mov (.tmp 7),none⟩]) .ret))),[.tmp 2]⟩
def c15 : RFunc := ⟨45,.code (.seq (.region [⟨some 2,.box 24 (.tmp 0),none⟩,⟨some 4,.mov (.val (.int .i64 0)),none⟩,⟨some 5,.mov (.val (.int .i64 0)),none⟩]) (.seq (.seq (.region [⟨some 10,.load (some 3) (.tmp 2),none⟩,⟨some 11,.call (.val (.func (.func 50) [] [])) [.tmp 10],none⟩,⟨some 6,.mov (.tmp 11),none⟩]) (.seq (.region [⟨some 12,.mov (.tmp 6),none⟩,⟨some 13,.bin .neq (.tmp 12) (.val (.int .i64 0)),none⟩]) (.cond (.tmp 13) (.seq (.region [⟨some 14,.mov (.tmp 6),none⟩,⟨some 4,.mov (.val (.int .i64 0)),none⟩,⟨some 5,.mov (.tmp 14),none⟩]) .ret) .skip))) (.seq (.seq (.region [⟨some 15,.load (some 3) (.tmp 2),none⟩,⟨some 16,.mov (.tmp 1),none⟩,⟨some 17,.call (.val (.func (.func 51) [] [])) [.tmp 15,.tmp 16],none⟩,⟨some 18,.un .not (.tmp 17),none⟩]) (.cond (.tmp 18) (.seq (.region [⟨some 4,.mov (.val (.int .i64 0)),none⟩,⟨some 5,.mov (.val (.int .i64 1)),none⟩]) .ret) .skip)) (.seq (.region [⟨some 7,.mov (.val (.int .i64 0)),none⟩]) (.seq (.seq (.region [⟨some 19,.mov (.tmp 1),none⟩,⟨some 20,.lenS (.tmp 19),none⟩,⟨some 21,.mov (.val (.int .i64 0)),none⟩]) (.block 0 (.loop (.seq (.region [⟨some 22,.bin .lss (.tmp 21) (.tmp 20),none⟩]) (.seq (.cond (.tmp 22) .skip (.exit 0)) (.seq (.block 1 (.seq (.region [⟨some 23,.mov (.tmp 21),none⟩,⟨some 24,.idxS 1 (.tmp 19) (.tmp 21),none⟩,⟨some 25,.load none (.tmp 24),none⟩,⟨some 8,.mov (.tmp 23),none⟩,⟨some 9,.mov (.tmp 25),none⟩]) (.seq (.region [⟨some 26,.mov (.tmp 7),none⟩,⟨some 27,.load (some 3) (.tmp 2),none⟩,⟨some 28,.mov (.tmp 8),none⟩,⟨some 29,.mov (.tmp 9),none⟩,⟨some 30,.call (.val (.func (.func 52) [] [])) [.tmp 27,.tmp 28,.tmp 29],none⟩,⟨some 31,.bin .add (.tmp 26) (.tmp 30),none⟩,⟨some 7,.mov (.tmp 31),none⟩]) (.seq (.region [⟨some 32,.mov (.tmp 8),none⟩,⟨some 33,.bin .gtr (.tmp 32) (.val (.int .i64 0)),none⟩]) (.cond (.tmp 33) (.region [⟨some 34,.mov (.tmp 7),none⟩,⟨some 35,.mov (.tmp 1),none⟩,⟨some 36,.mov (.tmp 8),none⟩,⟨some 37,.bin .sub (.tmp 36) (.val (.int .i64 1)),none⟩,⟨some 38,.idxS 1 (.tmp 35) (.tmp 37),none⟩,⟨some 39,.load none (.tmp 38),none⟩,⟨some 40,.mov (.tmp 9),none⟩,⟨some 41,.call (.val (.func (.func 53) [] [])) [.tmp 39,.tmp 40],none⟩,⟨some 42,.bin .add (.tmp 34) (.tmp 41),none⟩,⟨some 7,.mov (.tmp 42),none⟩]) .skip))))) (.region [⟨some 43,.bin .add (.tmp 21) (.val (.int .i64 1)),none⟩,⟨some 21,.mov (.tmp 43),none⟩]))))))) (.seq (.region [⟨some 44,.mov (.tmp 7),none⟩,⟨some 4,.mov (.tmp 44),none⟩,⟨some 5,.mov (.val (.int .i64 0)),none⟩]) .ret)))))),[.tmp 4,.tmp 5]⟩
def c17 : RFunc := ⟨26,.code (.seq (.region [⟨some 4,.mov (.val (.bool false)),none⟩]) (.seq (.seq (.region [⟨some 6,.mov (.tmp 0),none⟩,⟨some 7,.lenS (.tmp 6),none⟩,⟨some 8,.mov (.tmp 1),none⟩,⟨some 9,.lenS (.tmp 8),none⟩,⟨some 10,.bin .neq (.tmp 7) (.tmp 9),none⟩]) (.cond (.tmp 10) (.seq (.region [⟨some 4,.mov (.val (.bool false)),none⟩]) .ret) .skip)) (.seq (.seq (.region [⟨some 11,.mov (.tmp 0),none⟩,⟨some 12,.lenS (.tmp 11),none⟩,⟨some 13,.mov (.val (.int .i64 0)),none⟩]) (.block 0 (.loop (.seq (.region [⟨some 14,.bin .lss (.tmp 13) (.tmp 12),none⟩]) (.seq (.cond (.tmp 14) .skip (.exit 0)) (.seq (.block 1 (.seq (.region [⟨some 15,.mov (.tmp 13),none⟩,⟨some 5,.mov (.tmp 15),none⟩]) (.seq (.dregion [⟨⟨some 16,.mov (.tmp 0),none⟩,0,0,true⟩,⟨⟨some 17,.mov (.tmp 5),none⟩,0,0,true⟩,⟨⟨some 18,.idxS 1 (.tmp 16) (.tmp 17),none⟩,3,0,true⟩,⟨⟨some 19,.load none (.tmp 18),none⟩,7,1,true⟩,⟨⟨some 20,.mov (.tmp 1),none⟩,0,0,true⟩,⟨⟨some 21,.mov (.tmp 5),none⟩,0,0,true⟩,⟨⟨some 22,.idxS 1 (.tmp 20) (.tmp 21),none⟩,48,0,true⟩,⟨⟨some 23,.load none (.tmp 22),none⟩,112,1,true⟩,⟨⟨some 24,.bin .neq (.tmp 19) (.tmp 23),none⟩,255,0,true⟩]) (.cond (.tmp 24) (.seq (.region [⟨some 4,.mov (.val (.bool false)),none⟩]) .ret) .skip)))) (.region [⟨some 25,.bin .add (.tmp 13) (.val (.int .i64 1)),none⟩,⟨some 13,.mov (.tmp 25),none⟩]))))))) (.seq (.region [⟨some 4,.mov (.val (.bool true)),none⟩]) .ret)))),[.tmp 4]⟩
def c18 : RFunc := ⟨42,.code (.seq (.region [⟨some 1,.box 24 (.tmp 0),none⟩,⟨some 2,.mov (.val .nslice),none⟩,⟨some 3,.mov (.val (.int .i64 0)),none⟩]) (.seq (.seq (.region [⟨some 8,.load (some 3) (.tmp 1),none⟩,⟨some 9,.call (.val (.func (.func 50) [] [])) [.tmp 8],none⟩,⟨some 4,.mov (.tmp 9),none⟩]) (.seq (.region [⟨some 10,.mov (.tmp 4),none⟩,⟨some 11,.bin .neq (.tmp 10) (.val (.int .i64 0)),none⟩]) (.cond (.tmp 11) (.seq (.region [⟨some 12,.mov (.tmp 4),none⟩,⟨some 2,.mov (.val .nslice),none⟩,⟨some 3,.mov (.tmp 12),none⟩]) .ret) .skip))) (.seq (.seq (.region [⟨some 13,.fieldAddr 2 (.tmp 1),none⟩,⟨some 14,.load none (.tmp 13),none⟩,⟨some 15,.lenS (.tmp 14),none⟩,⟨some 16,.bin .eql (.tmp 15) (.val (.int .i64 0)),none⟩]) (.cond (.tmp 16) (.seq (.region [⟨some 2,.mov (.val .nslice),none⟩,⟨some 3,.mov (.val (.int .i64 0)),none⟩]) .ret) .skip)) (.seq (.region [⟨some 17,.load (some 3) (.tmp 1),none⟩,⟨some 18,.call (.val (.func (.func 56) [] [])) [.tmp 17],none⟩,⟨some 5,.new 83 [(.int .i64 0),(.int .i64 0),.nslice,.nslice],none⟩,⟨none,.store 4 (.tmp 5) (.tmp 18),none⟩]) (.seq (.region [⟨some 6,.mov (.val .nslice),none⟩]) (.seq (.block 0 (.loop (.seq (.seq (.dregion [⟨⟨some 19,.mov (.tmp 6),none⟩,0,0,true⟩,⟨⟨some 20,.lenS (.tmp 19),none⟩,1,0,true⟩,⟨⟨some 21,.bin .lss (.tmp 20) (.val (.int .i64 60)),none⟩,3,0,true⟩,⟨⟨some 22,.mov (.tmp 21),none⟩,7,0,true⟩,⟨⟨some 23,.load (some 4) (.tmp 5),some (22,true)⟩,15,1,true⟩,⟨⟨some 24,.call (.val (.func (.func 57) [] [])) [.tmp 23],some (22,true)⟩,31,2,false⟩,⟨⟨some 25,.bin .mul (.val (.int .i64 8)) (.tmp 24),some (22,true)⟩,63,0,false⟩,⟨⟨some 26,.fieldAddr 0 (.tmp 5),some (22,true)⟩,15,0,true⟩,⟨⟨some 27,.load none (.tmp 26),some (22,true)⟩,143,1,true⟩,⟨⟨some 28,.bin .leq (.tmp 25) (.tmp 27),some (22,true)⟩,511,0,false⟩,⟨⟨some 29,.pick (.tmp 22) (.tmp 28) (.val (.bool false)),none⟩,1023,0,false⟩]) (.cond (.tmp 29) .skip (.exit 0))) (.block 1 (.seq (.region [⟨some 30,.load (some 4) (.tmp 5),none⟩,⟨some 31,.call (.val (.func (.func 58) [] [])) [.tmp 30],none⟩,⟨some 7,.mov (.tmp 31),none⟩]) (.seq (.region [⟨some 32,.load (some 4) (.tmp 5),none⟩,⟨some 33,.mov (.tmp 7),none⟩,⟨some 34,.call (.val (.func (.func 59) [] [])) [.tmp 32,.tmp 33],none⟩]) (.region [⟨some 35,.mov (.tmp 6),none⟩,⟨some 36,.mov (.tmp 7),none⟩,⟨some 37,.buildSlice 25 1 1 [.nslice] [(0,1,(.tmp 36))],none⟩,⟨some 38,.append 25 1 24 (.tmp 35) (.tmp 37),none⟩,⟨some 6,.mov (.tmp 38),none⟩]))))))) (.seq (.region [⟨some 39,.mov (.tmp 6),none⟩,⟨some 40,.call (.val (.func (.func 60) [] [])) [.tmp 39,(.val (.func (.func 61) [] []))],none⟩]) (.seq (.region [⟨some 41,.mov (.tmp 6),none⟩,⟨some 2,.mov (.tmp 41),none⟩,⟨some 3,.mov (.val (.int .i64 0)),none⟩]) .ret)))))))),[.tmp 2,.tmp 3]⟩
def c27 : RFunc := ⟨23,.code (.seq (.region [⟨some 2,.mov (.val .nslice),none⟩]) (.scope (.seq (.region [⟨some 3,.mov (.val .nslice),none⟩]) (.seq .label (.seq (.block 0 (.loop (.block 1 (.block 2 (.seq (.region [⟨some 7,.mov (.tmp 0),none⟩,⟨some 8,.lenS (.tmp 7),none⟩,⟨some 9,.bin .lss (.tmp 8) (.val (.int .i64 5)),none⟩,⟨some 6,.mov (.tmp 9),none⟩]) (.cond (.tmp 6) (.exit 0) (.seq (.region [⟨some 11,.mov (.tmp 0),none⟩,⟨some 12,.sliceS 1 (.tmp 11) none (some (.val (.int .i64 5))) none,none⟩,⟨some 13,.call (.val (.func (.func 72) [] [])) [.tmp 12],none⟩,⟨some 10,.mov (.tmp 13),none⟩]) (.cond (.tmp 10) (.seq (.region [⟨some 14,.mov (.tmp 3),none⟩,⟨some 15,.mov (.tmp 0),none⟩,⟨some 16,.sliceS 1 (.tmp 15) none (some (.val (.int .i64 5))) none,none⟩,⟨some 17,.call (.val (.func (.func 73) [] [])) [.tmp 16],none⟩,⟨some 18,.buildSlice 43 1 1 [.nslice] [(0,1,(.tmp 17))],none⟩,⟨some 19,.append 43 1 24 (.tmp 14) (.tmp 18),none⟩,⟨some 3,.mov (.tmp 19),none⟩]) (.region [⟨some 20,.mov (.tmp 0),none⟩,⟨some 21,.sliceS 1 (.tmp 20) (some (.val (.int .i64 5))) none none,none⟩,⟨some 0,.mov (.tmp 21),none⟩])) (.region [⟨some 4,.mov (.tmp 0),none⟩,⟨some 5,.sliceS 1 (.tmp 4) (some (.val (.int .i64 1))) none none,none⟩,⟨some 0,.mov (.tmp 5),none⟩]))))))))) (.seq (.region [⟨some 22,.mov (.tmp 3),none⟩,⟨some 2,.mov (.tmp 22),none⟩]) .ret)))))),[.tmp 2]⟩
def c40 : RFunc := ⟨49,.code (.seq (.region [⟨some 4,.new 24 [(.int .i64 0),(.int .i64 0),.nslice],none⟩]) (.seq (.region [⟨some 9,.mov (.tmp 0),none⟩,⟨some 10,.bin .rem (.tmp 9) (.val (.int .u16 41)),none⟩,⟨some 11,.convInt .i64 (.tmp 10),none⟩,⟨some 12,.mov (.tmp 0),none⟩,⟨some 13,.bin .quo (.tmp 12) (.val (.int .u16 41)),none⟩,⟨some 14,.bin .rem (.tmp 13) (.val (.int .u16 31)),none⟩,⟨some 15,.convInt .i64 (.tmp 14),none⟩,⟨some 5,.mov (.tmp 11),none⟩,⟨some 6,.mov (.tmp 15),none⟩]) (.seq (.region [⟨some 16,.mov (.tmp 5),none⟩,⟨some 17,.mov (.tmp 6),none⟩,⟨some 18,.mov (.tmp 5),none⟩,⟨some 19,.mov (.tmp 6),none⟩,⟨some 20,.bin .mul (.tmp 18) (.tmp 19),none⟩,⟨some 21,.makeSlice 5 [(.int .u8 0)] 1 (.tmp 20) (.tmp 20),none⟩,⟨some 22,.build [(.int .i64 0),(.int .i64 0),.nslice] [(0,1,(.tmp 16)),(1,1,(.tmp 17)),(2,1,(.tmp 21))],none⟩,⟨some 7,.new 24 [(.int .i64 0),(.int .i64 0),.nslice],none⟩,⟨none,.store 3 (.tmp 7) (.tmp 22),none⟩]) (.seq (.seq (.region [⟨some 23,.fieldAddr 2 (.tmp 7),none⟩,⟨some 24,.load none (.tmp 23),none⟩,⟨some 25,.lenS (.tmp 24),none⟩,⟨some 26,.mov (.val (.int .i64 0)),none⟩]) (.block 0 (.loop (.seq (.region [⟨some 27,.bin .lss (.tmp 26) (.tmp 25),none⟩]) (.seq (.cond (.tmp 27) .skip (.exit 0)) (.seq (.block 1 (.seq (.region [⟨some 28,.mov (.tmp 26),none⟩,⟨some 8,.mov (.tmp 28),none⟩]) (.seq (.region [⟨some 29,.mov (.tmp 8),none⟩,⟨some 30,.bin .quo (.tmp 29) (.val (.int .i64 8)),none⟩,⟨some 31,.mov (.tmp 1),none⟩,⟨some 32,.lenS (.tmp 31),none⟩,⟨some 33,.bin .lss (.tmp 30) (.tmp 32),none⟩]) (.cond (.tmp 33) (.dregion [⟨⟨some 34,.fieldAddr 2 (.tmp 7),none⟩,0,0,true⟩,⟨⟨some 35,.load none (.tmp 34),none⟩,1,1,true⟩,⟨⟨some 36,.mov (.tmp 8),none⟩,0,0,true⟩,⟨⟨some 37,.mov (.tmp 1),none⟩,0,0,true⟩,⟨⟨some 38,.mov (.tmp 8),none⟩,0,0,true⟩,⟨⟨some 39,.bin .quo (.tmp 38) (.val (.int .i64 8)),none⟩,16,0,true⟩,⟨⟨some 40,.idxS 1 (.tmp 37) (.tmp 39),none⟩,56,0,true⟩,⟨⟨some 41,.load none (.tmp 40),none⟩,120,1,true⟩,⟨⟨some 42,.mov (.tmp 8),none⟩,0,0,true⟩,⟨⟨some 43,.bin .rem (.tmp 42) (.val (.int .i64 8)),none⟩,256,0,true⟩,⟨⟨some 44,.bin .shr (.tmp 41) (.tmp 43),none⟩,1016,0,true⟩,⟨⟨some 45,.bin .and (.tmp 44) (.val (.int .u8 1)),none⟩,2040,0,true⟩,⟨⟨some 46,.idxS 1 (.tmp 35) (.tmp 36),none⟩,4095,0,true⟩,⟨⟨none,.store 1 (.tmp 46) (.tmp 45),none⟩,8191,2,false⟩]) .skip)))) (.region [⟨some 47,.bin .add (.tmp 26) (.val (.int .i64 1)),none⟩,⟨some 26,.mov (.tmp 47),none⟩]))))))) (.seq (.region [⟨some 48,.load (some 3) (.tmp 7),none⟩,⟨none,.store 3 (.tmp 4) (.tmp 48),none⟩]) .ret))))),[.cell 4 (some 3)]⟩
def c41 : RFunc := ⟨57,.code (.seq (.region [⟨some 3,.box 24 (.tmp 0),none⟩,⟨some 6,.mov (.val .nslice),none⟩]) (.seq (.region [⟨some 10,.mov (.tmp 1),none⟩,⟨some 11,.convInt .i64 (.tmp 10),none⟩,⟨some 12,.fieldAddr 1 (.tmp 3),none⟩,⟨some 13,.load none (.tmp 12),none⟩,⟨some 14,.bin .rem (.tmp 11) (.tmp 13),none⟩,⟨some 15,.buildSlice 3 1 1 [(.int .i64 0)] [(0,1,(.tmp 14))],none⟩,⟨some 7,.mov (.tmp 15),none⟩]) (.seq (.seq (.region [⟨some 8,.mov (.val (.int .i64 1)),none⟩]) (.block 0 (.loop (.seq (.seq (.region [⟨some 16,.mov (.tmp 8),none⟩,⟨some 17,.fieldAddr 0 (.tmp 3),none⟩,⟨some 18,.load none (.tmp 17),none⟩,⟨some 19,.bin .lss (.tmp 16) (.tmp 18),none⟩]) (.cond (.tmp 19) .skip (.exit 0))) (.seq (.block 1 (.seq (.region [⟨some 9,.mov (.val (.int .i64 0)),none⟩]) (.seq (.seq (.region [⟨some 22,.mov (.tmp 8),none⟩,⟨some 23,.bin .quo (.tmp 22) (.val (.int .i64 4)),none⟩,⟨some 24,.mov (.tmp 2),none⟩,⟨some 25,.lenS (.tmp 24),none⟩,⟨some 26,.bin .lss (.tmp 23) (.tmp 25),none⟩]) (.cond (.tmp 26) (.region [⟨some 27,.mov (.tmp 2),none⟩,⟨some 28,.mov (.tmp 8),none⟩,⟨some 29,.bin .quo (.tmp 28) (.val (.int .i64 4)),none⟩,⟨some 30,.idxS 1 (.tmp 27) (.tmp 29),none⟩,⟨some 31,.load none (.tmp 30),none⟩,⟨some 32,.mov (.tmp 8),none⟩,⟨some 33,.bin .rem (.tmp 32) (.val (.int .i64 4)),none⟩,⟨some 34,.bin .mul (.val (.int .i64 2)) (.tmp 33),none⟩,⟨some 35,.bin .shr (.tmp 31) (.tmp 34),none⟩,⟨some 36,.bin .and (.tmp 35) (.val (.int .u8 3)),none⟩,⟨some 37,.convInt .i64 (.tmp 36),none⟩,⟨some 38,.bin .sub (.tmp 37) (.val (.int .i64 1)),none⟩,⟨some 9,.mov (.tmp 38),none⟩]) .skip)) (.seq (.seq (.region [⟨some 39,.mov (.tmp 9),none⟩,⟨some 40,.bin .gtr (.tmp 39) (.val (.int .i64 1)),none⟩]) (.cond (.tmp 40) (.region [⟨some 9,.mov (.val (.int .i64 0)),none⟩]) .skip)) (.dregion [⟨⟨some 41,.mov (.tmp 7),none⟩,0,0,true⟩,⟨⟨some 42,.mov (.tmp 7),none⟩,0,0,true⟩,⟨⟨some 43,.mov (.tmp 8),none⟩,0,0,true⟩,⟨⟨some 44,.bin .sub (.tmp 43) (.val (.int .i64 1)),none⟩,4,0,true⟩,⟨⟨some 45,.idxS 1 (.tmp 42) (.tmp 44),none⟩,14,0,true⟩,⟨⟨some 46,.load none (.tmp 45),none⟩,30,1,true⟩,⟨⟨some 47,.mov (.tmp 9),none⟩,0,0,true⟩,⟨⟨some 48,.bin .add (.tmp 46) (.tmp 47),none⟩,126,0,true⟩,⟨⟨some 49,.minmax true [.tmp 48,(.val (.int .i64 0))],none⟩,254,0,true⟩,⟨⟨some 50,.fieldAddr 1 (.tmp 3),none⟩,0,0,true⟩,⟨⟨some 51,.load none (.tmp 50),none⟩,512,1,true⟩,⟨⟨some 52,.bin .sub (.tmp 51) (.val (.int .i64 1)),none⟩,1536,0,true⟩,⟨⟨some 53,.minmax false [.tmp 49,.tmp 52],none⟩,4094,0,true⟩,⟨⟨some 54,.buildSlice 3 1 1 [(.int .i64 0)] [(0,1,(.tmp 53))],none⟩,8190,3,true⟩,⟨⟨some 55,.append 3 1 8 (.tmp 41) (.tmp 54),none⟩,16383,2,false⟩,⟨⟨some 7,.mov (.tmp 55),none⟩,32767,0,false⟩]))))) (.region [⟨some 20,.mov (.tmp 8),none⟩,⟨some 21,.bin .add (.tmp 20) (.val (.int .i64 1)),none⟩,⟨some 8,.mov (.tmp 21),none⟩])))))) (.seq (.region [⟨some 56,.mov (.tmp 7),none⟩,⟨some 6,.mov (.tmp 56),none⟩]) .ret)))),[.tmp 6]⟩
def c47 : RFunc := ⟨20,.code (.seq (.region [⟨some 2,.new 24 [(.int .i64 0),(.int .i64 0),.nslice],none⟩]) (.seq (.region [⟨some 5,.makeSlice 5 [(.int .u8 0)] 1 (.val (.int .i64 80)) (.val (.int .i64 80)),none⟩,⟨some 6,.build [(.int .i64 0),(.int .i64 0),.nslice] [(0,1,(.val (.int .i64 16))),(1,1,(.val (.int .i64 5))),(2,1,(.tmp 5))],none⟩,⟨some 3,.new 24 [(.int .i64 0),(.int .i64 0),.nslice],none⟩,⟨none,.store 3 (.tmp 3) (.tmp 6),none⟩]) (.seq (.seq (.region [⟨some 7,.mov (.val (.int .i64 0)),none⟩]) (.block 0 (.loop (.seq (.region [⟨some 8,.bin .lss (.tmp 7) (.val (.int .i64 16)),none⟩]) (.seq (.cond (.tmp 8) .skip (.exit 0)) (.seq (.block 1 (.seq (.region [⟨some 9,.mov (.tmp 7),none⟩,⟨some 4,.mov (.tmp 9),none⟩]) (.seq (.region [⟨some 10,.mov (.tmp 4),none⟩,⟨some 11,.mov (.tmp 0),none⟩,⟨some 12,.bin .neq (.tmp 10) (.tmp 11),none⟩]) (.cond (.tmp 12) (.region [⟨some 13,.fieldAddr 2 (.tmp 3),none⟩,⟨some 14,.load none (.tmp 13),none⟩,⟨some 15,.mov (.tmp 4),none⟩,⟨some 16,.bin .add (.val (.int .i64 32)) (.tmp 15),none⟩,⟨some 17,.idxS 1 (.tmp 14) (.tmp 16),none⟩,⟨none,.store 1 (.tmp 17) (.val (.int .u8 1)),none⟩]) .skip)))) (.region [⟨some 18,.bin .add (.tmp 7) (.val (.int .i64 1)),none⟩,⟨some 7,.mov (.tmp 18),none⟩]))))))) (.seq (.region [⟨some 19,.load (some 3) (.tmp 3),none⟩,⟨none,.store 3 (.tmp 2) (.tmp 19),none⟩]) .ret)))),[.cell 2 (some 3)]⟩
def c48 : RFunc := ⟨34,.code (.seq (.region [⟨some 4,.mov (.val .nslice),none⟩]) (.seq (.region [⟨some 5,.mov (.val .nslice),none⟩]) (.seq (.seq (.region [⟨some 10,.mov (.tmp 1),none⟩,⟨some 11,.lenS (.tmp 10),none⟩,⟨some 12,.mov (.val (.int .i64 0)),none⟩]) (.block 0 (.loop (.seq (.region [⟨some 13,.bin .lss (.tmp 12) (.tmp 11),none⟩]) (.seq (.cond (.tmp 13) .skip (.exit 0)) (.seq (.block 1 (.seq (.region [⟨some 14,.idxS 1 (.tmp 10) (.tmp 12),none⟩,⟨some 15,.load none (.tmp 14),none⟩,⟨some 7,.mov (.tmp 15),none⟩]) (.seq (.region [⟨some 16,.mov (.tmp 0),none⟩,⟨some 17,.makeSlice 3 [(.int .i64 0)] 8 (.tmp 16) (.tmp 16),none⟩,⟨some 8,.mov (.tmp 17),none⟩]) (.seq (.seq (.region [⟨some 18,.mov (.tmp 8),none⟩,⟨some 19,.lenS (.tmp 18),none⟩,⟨some 20,.mov (.val (.int .i64 0)),none⟩]) (.block 2 (.loop (.seq (.region [⟨some 21,.bin .lss (.tmp 20) (.tmp 19),none⟩]) (.seq (.cond (.tmp 21) .skip (.exit 2)) (.seq (.block 3 (.seq (.region [⟨some 22,.mov (.tmp 20),none⟩,⟨some 9,.mov (.tmp 22),none⟩]) (.region [⟨some 23,.mov (.tmp 8),none⟩,⟨some 24,.mov (.tmp 9),none⟩,⟨some 25,.mov (.tmp 7),none⟩,⟨some 26,.idxS 1 (.tmp 23) (.tmp 24),none⟩,⟨none,.store 1 (.tmp 26) (.tmp 25),none⟩]))) (.region [⟨some 27,.bin .add (.tmp 20) (.val (.int .i64 1)),none⟩,⟨some 20,.mov (.tmp 27),none⟩]))))))) (.region [⟨some 28,.mov (.tmp 5),none⟩,⟨some 29,.mov (.tmp 8),none⟩,⟨some 30,.buildSlice 25 1 1 [.nslice] [(0,1,(.tmp 29))],none⟩,⟨some 31,.append 25 1 24 (.tmp 28) (.tmp 30),none⟩,⟨some 5,.mov (.tmp 31),none⟩]))))) (.region [⟨some 32,.bin .add (.tmp 12) (.val (.int .i64 1)),none⟩,⟨some 12,.mov (.tmp 32),none⟩]))))))) (.seq (.region [⟨some 33,.mov (.tmp 5),none⟩,⟨some 4,.mov (.tmp 33),none⟩]) .ret)))),[.tmp 4]⟩
def c50 : RFunc := ⟨23,.code (.seq (.region [⟨some 1,.box 24 (.tmp 0),none⟩,⟨some 2,.mov (.val (.int .i64 0)),none⟩]) (.seq (.seq (.region [⟨some 3,.fieldAddr 0 (.tmp 1),none⟩,⟨some 4,.load none (.tmp 3),none⟩,⟨some 5,.fieldAddr 1 (.tmp 1),none⟩,⟨some 6,.load none (.tmp 5),none⟩,⟨some 7,.fieldAddr 2 (.tmp 1),none⟩,⟨some 8,.load none (.tmp 7),none⟩,⟨some 9,.lenS (.tmp 8),none⟩,⟨some 10,.call (.val (.func (.func 90) [] [])) [.tmp 4,.tmp 6,.tmp 9],none⟩,⟨some 11,.un .not (.tmp 10),none⟩]) (.cond (.tmp 11) (.seq (.region [⟨some 2,.mov (.val (.int .i64 2)),none⟩]) .ret) .skip)) (.seq (.seq (.dregion [⟨⟨some 12,.fieldAddr 2 (.tmp 1),none⟩,0,0,true⟩,⟨⟨some 13,.load none (.tmp 12),none⟩,1,1,true⟩,⟨⟨some 14,.buildSlice 5 1 1 [(.int .u8 0)] [(0,1,(.val (.int .u8 0)))],none⟩,0,3,true⟩,⟨⟨some 15,.call (.val (.func (.func 91) [] [])) [.tmp 13,.tmp 14],none⟩,7,2,false⟩,⟨⟨some 16,.load (some 3) (.tmp 1),none⟩,0,1,true⟩,⟨⟨some 17,.call (.val (.func (.func 86) [] [])) [.tmp 16],none⟩,31,2,false⟩,⟨⟨some 18,.bin .add (.tmp 15) (.tmp 17),none⟩,63,0,false⟩,⟨⟨some 19,.fieldAddr 2 (.tmp 1),none⟩,0,0,true⟩,⟨⟨some 20,.load none (.tmp 19),none⟩,128,1,true⟩,⟨⟨some 21,.lenS (.tmp 20),none⟩,384,0,true⟩,⟨⟨some 22,.bin .neq (.tmp 18) (.tmp 21),none⟩,1023,0,false⟩]) (.cond (.tmp 22) (.seq (.region [⟨some 2,.mov (.val (.int .i64 3)),none⟩]) .ret) .skip)) (.seq (.region [⟨some 2,.mov (.val (.int .i64 0)),none⟩]) .ret)))),[.tmp 2]⟩
def c51 : RFunc := ⟨55,.code (.seq (.region [⟨some 2,.box 24 (.tmp 0),none⟩,⟨some 4,.mov (.val (.bool false)),none⟩]) (.seq (.seq (.region [⟨some 7,.mov (.tmp 1),none⟩,⟨some 8,.lenS (.tmp 7),none⟩,⟨some 9,.bin .eql (.tmp 8) (.val (.int .i64 0)),none⟩,⟨some 10,.mov (.tmp 9),none⟩,⟨some 11,.mov (.tmp 1),some (10,false)⟩,⟨some 12,.lenS (.tmp 11),some (10,false)⟩,⟨some 13,.fieldAddr 0 (.tmp 2),some (10,false)⟩,⟨some 14,.load none (.tmp 13),some (10,false)⟩,⟨some 15,.bin .neq (.tmp 12) (.tmp 14),some (10,false)⟩,⟨some 16,.pick (.tmp 10) (.val (.bool true)) (.tmp 15),none⟩]) (.cond (.tmp 16) (.seq (.region [⟨some 4,.mov (.val (.bool false)),none⟩]) .ret) .skip)) (.seq (.seq (.region [⟨some 17,.mov (.tmp 1),none⟩,⟨some 18,.lenS (.tmp 17),none⟩,⟨some 19,.mov (.val (.int .i64 0)),none⟩]) (.block 0 (.loop (.seq (.region [⟨some 20,.bin .lss (.tmp 19) (.tmp 18),none⟩]) (.seq (.cond (.tmp 20) .skip (.exit 0)) (.seq (.block 1 (.seq (.region [⟨some 21,.mov (.tmp 19),none⟩,⟨some 22,.idxS 1 (.tmp 17) (.tmp 19),none⟩,⟨some 23,.load none (.tmp 22),none⟩,⟨some 5,.mov (.tmp 21),none⟩,⟨some 6,.mov (.tmp 23),none⟩]) (.seq (.seq (.region [⟨some 24,.mov (.tmp 6),none⟩,⟨some 25,.bin .lss (.tmp 24) (.val (.int .i64 0)),none⟩,⟨some 26,.mov (.tmp 25),none⟩,⟨some 27,.mov (.tmp 6),some (26,false)⟩,⟨some 28,.fieldAddr 1 (.tmp 2),some (26,false)⟩,⟨some 29,.load none (.tmp 28),some (26,false)⟩,⟨some 30,.bin .geq (.tmp 27) (.tmp 29),some (26,false)⟩,⟨some 31,.pick (.tmp 26) (.val (.bool true)) (.tmp 30),none⟩]) (.cond (.tmp 31) (.seq (.region [⟨some 4,.mov (.val (.bool false)),none⟩]) .ret) .skip)) (.seq (.region [⟨some 32,.mov (.tmp 5),none⟩,⟨some 33,.bin .gtr (.tmp 32) (.val (.int .i64 0)),none⟩,⟨some 34,.mov (.tmp 33),none⟩,⟨some 35,.mov (.tmp 6),some (34,true)⟩,⟨some 36,.mov (.tmp 1),some (34,true)⟩,⟨some 37,.mov (.tmp 5),some (34,true)⟩,⟨some 38,.bin .sub (.tmp 37) (.val (.int .i64 1)),some (34,true)⟩,⟨some 39,.idxS 1 (.tmp 36) (.tmp 38),some (34,true)⟩,⟨some 40,.load none (.tmp 39),some (34,true)⟩,⟨some 41,.bin .sub (.tmp 40) (.val (.int .i64 1)),some (34,true)⟩,⟨some 42,.bin .lss (.tmp 35) (.tmp 41),some (34,true)⟩,⟨some 43,.mov (.tmp 42),some (34,true)⟩,⟨some 44,.mov (.tmp 6),some (43,false)⟩,⟨some 45,.mov (.tmp 1),some (43,false)⟩,⟨some 46,.mov (.tmp 5),some (43,false)⟩,⟨some 47,.bin .sub (.tmp 46) (.val (.int .i64 1)),some (43,false)⟩,⟨some 48,.idxS 1 (.tmp 45) (.tmp 47),some (43,false)⟩,⟨some 49,.load none (.tmp 48),some (43,false)⟩,⟨some 50,.bin .add (.tmp 49) (.val (.int .i64 1)),some (43,false)⟩,⟨some 51,.bin .gtr (.tmp 44) (.tmp 50),some (43,false)⟩,⟨some 52,.pick (.tmp 43) (.val (.bool true)) (.tmp 51),some (34,true)⟩,⟨some 53,.pick (.tmp 34) (.tmp 52) (.val (.bool false)),none⟩]) (.cond (.tmp 53) (.seq (.region [⟨some 4,.mov (.val (.bool false)),none⟩]) .ret) .skip))))) (.region [⟨some 54,.bin .add (.tmp 19) (.val (.int .i64 1)),none⟩,⟨some 19,.mov (.tmp 54),none⟩]))))))) (.seq (.region [⟨some 4,.mov (.val (.bool true)),none⟩]) .ret)))),[.tmp 4]⟩
def c52 : RFunc := ⟨18,.code (.seq (.region [⟨some 3,.box 24 (.tmp 0),none⟩,⟨some 6,.mov (.val (.int .i64 0)),none⟩]) (.seq (.seq (.region [⟨some 7,.fieldAddr 2 (.tmp 3),none⟩,⟨some 8,.load none (.tmp 7),none⟩,⟨some 9,.mov (.tmp 2),none⟩,⟨some 10,.fieldAddr 0 (.tmp 3),none⟩,⟨some 11,.load none (.tmp 10),none⟩,⟨some 12,.bin .mul (.tmp 9) (.tmp 11),none⟩,⟨some 13,.mov (.tmp 1),none⟩,⟨some 14,.bin .add (.tmp 12) (.tmp 13),none⟩,⟨some 15,.idxS 1 (.tmp 8) (.tmp 14),none⟩,⟨some 16,.load none (.tmp 15),none⟩,⟨some 17,.bin .eql (.tmp 16) (.val (.int .u8 1)),none⟩]) (.cond (.tmp 17) (.seq (.region [⟨some 6,.mov (.val (.int .i64 0)),none⟩]) .ret) .skip)) (.seq (.region [⟨some 6,.mov (.val (.int .i64 2)),none⟩]) .ret))),[.tmp 6]⟩
def c53 : RFunc := ⟨8,.code (.seq (.region [⟨some 4,.mov (.val (.int .i64 0)),none⟩]) (.seq (.seq (.region [⟨some 5,.mov (.tmp 0),none⟩,⟨some 6,.mov (.tmp 1),none⟩,⟨some 7,.bin .eql (.tmp 5) (.tmp 6),none⟩]) (.cond (.tmp 7) (.seq (.region [⟨some 4,.mov (.val (.int .i64 0)),none⟩]) .ret) .skip)) (.seq (.region [⟨some 4,.mov (.val (.int .i64 1)),none⟩]) .ret))),[.tmp 4]⟩
def c56 : RFunc := ⟨45,.code (.seq (.region [⟨some 1,.box 24 (.tmp 0),none⟩,⟨some 2,.new 83 [(.int .i64 0),(.int .i64 0),.nslice,.nslice],none⟩]) (.seq (.dregion [⟨⟨some 6,.fieldAddr 0 (.tmp 1),none⟩,0,0,true⟩,⟨⟨some 7,.load none (.tmp 6),none⟩,1,1,true⟩,⟨⟨some 8,.fieldAddr 1 (.tmp 1),none⟩,0,0,true⟩,⟨⟨some 9,.load none (.tmp 8),none⟩,4,1,true⟩,⟨⟨some 10,.fieldAddr 2 (.tmp 1),none⟩,0,0,true⟩,⟨⟨some 11,.load none (.tmp 10),none⟩,16,1,true⟩,⟨⟨some 12,.lenS (.tmp 11),none⟩,48,0,true⟩,⟨⟨some 13,.makeSlice 3 [(.int .i64 0)] 8 (.tmp 12) (.tmp 12),none⟩,112,3,true⟩,⟨⟨some 14,.fieldAddr 2 (.tmp 1),none⟩,0,0,true⟩,⟨⟨some 15,.load none (.tmp 14),none⟩,256,1,true⟩,⟨⟨some 16,.lenS (.tmp 15),none⟩,768,0,true⟩,⟨⟨some 17,.makeSlice 3 [(.int .i64 0)] 8 (.tmp 16) (.tmp 16),none⟩,1792,3,true⟩,⟨⟨some 18,.build [(.int .i64 0),(.int .i64 0),.nslice,.nslice] [(0,1,(.tmp 7)),(1,1,(.tmp 9)),(2,1,(.tmp 13)),(3,1,(.tmp 17))],none⟩,4095,0,true⟩,⟨⟨some 3,.new 83 [(.int .i64 0),(.int .i64 0),.nslice,.nslice],none⟩,0,3,true⟩,⟨⟨none,.store 4 (.tmp 3) (.tmp 18),none⟩,16383,2,false⟩]) (.seq (.seq (.region [⟨some 19,.fieldAddr 0 (.tmp 3),none⟩,⟨some 20,.load none (.tmp 19),none⟩,⟨some 21,.mov (.val (.int .i64 0)),none⟩]) (.block 0 (.loop (.seq (.region [⟨some 22,.bin .lss (.tmp 21) (.tmp 20),none⟩]) (.seq (.cond (.tmp 22) .skip (.exit 0)) (.seq (.block 1 (.seq (.region [⟨some 23,.mov (.tmp 21),none⟩,⟨some 4,.mov (.tmp 23),none⟩]) (.seq (.region [⟨some 24,.fieldAddr 1 (.tmp 3),none⟩,⟨some 25,.load none (.tmp 24),none⟩,⟨some 26,.mov (.val (.int .i64 0)),none⟩]) (.block 2 (.loop (.seq (.region [⟨some 27,.bin .lss (.tmp 26) (.tmp 25),none⟩]) (.seq (.cond (.tmp 27) .skip (.exit 2)) (.seq (.block 3 (.seq (.region [⟨some 28,.mov (.tmp 26),none⟩,⟨some 5,.mov (.tmp 28),none⟩]) (.dregion [⟨⟨some 29,.fieldAddr 2 (.tmp 3),none⟩,0,0,true⟩,⟨⟨some 30,.load none (.tmp 29),none⟩,1,1,true⟩,⟨⟨some 31,.mov (.tmp 4),none⟩,0,0,true⟩,⟨⟨some 32,.fieldAddr 1 (.tmp 3),none⟩,0,0,true⟩,⟨⟨some 33,.load none (.tmp 32),none⟩,8,1,true⟩,⟨⟨some 34,.bin .mul (.tmp 31) (.tmp 33),none⟩,28,0,true⟩,⟨⟨some 35,.mov (.tmp 5),none⟩,0,0,true⟩,⟨⟨some 36,.bin .add (.tmp 34) (.tmp 35),none⟩,124,0,true⟩,⟨⟨some 37,.load (some 3) (.tmp 1),none⟩,0,1,true⟩,⟨⟨some 38,.mov (.tmp 4),none⟩,0,0,true⟩,⟨⟨some 39,.mov (.tmp 5),none⟩,0,0,true⟩,⟨⟨some 40,.call (.val (.func (.func 52) [] [])) [.tmp 37,.tmp 38,.tmp 39],none⟩,1792,2,false⟩,⟨⟨some 41,.idxS 1 (.tmp 30) (.tmp 36),none⟩,4095,0,true⟩,⟨⟨none,.store 1 (.tmp 41) (.tmp 40),none⟩,8191,2,false⟩]))) (.region [⟨some 42,.bin .add (.tmp 26) (.val (.int .i64 1)),none⟩,⟨some 26,.mov (.tmp 42),none⟩]))))))))) (.region [⟨some 43,.bin .add (.tmp 21) (.val (.int .i64 1)),none⟩,⟨some 21,.mov (.tmp 43),none⟩]))))))) (.seq (.region [⟨some 44,.load (some 4) (.tmp 3),none⟩,⟨none,.store 4 (.tmp 2) (.tmp 44),none⟩]) .ret)))),[.cell 2 (some 4)]⟩
def c57 : RFunc := ⟨34,.code (.seq (.region [⟨some 1,.box 83 (.tmp 0),none⟩,⟨some 2,.mov (.val (.int .i64 0)),none⟩]) (.seq (.region [⟨some 7,.mkFunc (.func 93) [] [.tmp 1],none⟩,⟨some 3,.mov (.tmp 7),none⟩]) (.seq (.seq (.region [⟨some 8,.fieldAddr 0 (.tmp 1),none⟩,⟨some 9,.load none (.tmp 8),none⟩,⟨some 10,.bin .sub (.tmp 9) (.val (.int .i64 1)),none⟩,⟨some 4,.mov (.tmp 10),none⟩]) (.block 0 (.loop (.seq (.seq (.region [⟨some 11,.mov (.tmp 4),none⟩,⟨some 12,.bin .geq (.tmp 11) (.val (.int .i64 0)),none⟩]) (.cond (.tmp 12) .skip (.exit 0))) (.seq (.block 1 (.seq (.region [⟨some 15,.load (some 4) (.tmp 1),none⟩,⟨some 16,.mov (.tmp 4),none⟩,⟨some 17,.call (.val (.func (.func 95) [] [])) [.tmp 15,.tmp 16],none⟩,⟨some 5,.mov (.tmp 17),none⟩]) (.seq (.region [⟨some 18,.mov (.tmp 5),none⟩,⟨some 19,.lenS (.tmp 18),none⟩,⟨some 20,.mov (.val (.int .i64 0)),none⟩]) (.block 2 (.loop (.seq (.region [⟨some 21,.bin .lss (.tmp 20) (.tmp 19),none⟩]) (.seq (.cond (.tmp 21) .skip (.exit 2)) (.seq (.block 3 (.seq (.region [⟨some 22,.mov (.tmp 20),none⟩,⟨some 6,.mov (.tmp 22),none⟩]) (.region [⟨some 23,.mov (.tmp 5),none⟩,⟨some 24,.mov (.tmp 6),none⟩,⟨some 25,.mov (.tmp 3),none⟩,⟨some 26,.mov (.tmp 4),none⟩,⟨some 27,.mov (.tmp 6),none⟩,⟨some 28,.call (.tmp 25) [.tmp 26,.tmp 27],none⟩,⟨some 29,.idxS 1 (.tmp 23) (.tmp 24),none⟩,⟨none,.store 1 (.tmp 29) (.tmp 28),none⟩]))) (.region [⟨some 30,.bin .add (.tmp 20) (.val (.int .i64 1)),none⟩,⟨some 20,.mov (.tmp 30),none⟩]))))))))) (.region [⟨some 13,.mov (.tmp 4),none⟩,⟨some 14,.bin .sub (.tmp 13) (.val (.int .i64 1)),none⟩,⟨some 4,.mov (.tmp 14),none⟩])))))) (.seq (.region [⟨some 31,.load (some 4) (.tmp 1),none⟩,⟨some 32,.call (.val (.func (.func 95) [] [])) [.tmp 31,(.val (.int .i64 0))],none⟩,⟨some 33,.call (.val (.func (.func 79) [] [])) [.tmp 32],none⟩,⟨some 2,.mov (.tmp 33),none⟩]) .ret)))),[.tmp 2]⟩
def c58 : RFunc := ⟨39,.code (.seq (.region [⟨some 1,.box 83 (.tmp 0),none⟩,⟨some 2,.mov (.val .nslice),none⟩]) (.seq (.region [⟨some 6,.load (some 4) (.tmp 1),none⟩,⟨some 7,.call (.val (.func (.func 95) [] [])) [.tmp 6,(.val (.int .i64 0))],none⟩,⟨some 3,.mov (.tmp 7),none⟩]) (.seq (.region [⟨some 8,.fieldAddr 0 (.tmp 1),none⟩,⟨some 9,.load none (.tmp 8),none⟩,⟨some 10,.makeSlice 3 [(.int .i64 0)] 8 (.tmp 9) (.tmp 9),none⟩,⟨some 4,.mov (.tmp 10),none⟩]) (.seq (.region [⟨some 11,.mov (.tmp 4),none⟩,⟨some 12,.mov (.tmp 3),none⟩,⟨some 13,.mov (.tmp 3),none⟩,⟨some 14,.call (.val (.func (.func 79) [] [])) [.tmp 13],none⟩,⟨some 15,.call (.val (.func (.func 96) [] [])) [.tmp 12,.tmp 14],none⟩,⟨some 16,.idxS 1 (.tmp 11) (.val (.int .i64 0)),none⟩,⟨none,.store 1 (.tmp 16) (.tmp 15),none⟩]) (.seq (.seq (.region [⟨some 5,.mov (.val (.int .i64 1)),none⟩]) (.block 0 (.loop (.seq (.seq (.region [⟨some 17,.mov (.tmp 5),none⟩,⟨some 18,.fieldAddr 0 (.tmp 1),none⟩,⟨some 19,.load none (.tmp 18),none⟩,⟨some 20,.bin .lss (.tmp 17) (.tmp 19),none⟩]) (.cond (.tmp 20) .skip (.exit 0))) (.seq (.block 1 (.dregion [⟨⟨some 24,.mov (.tmp 4),none⟩,0,0,true⟩,⟨⟨some 25,.mov (.tmp 5),none⟩,0,0,true⟩,⟨⟨some 26,.load (some 4) (.tmp 1),none⟩,0,1,true⟩,⟨⟨some 27,.mov (.tmp 5),none⟩,0,0,true⟩,⟨⟨some 28,.call (.val (.func (.func 95) [] [])) [.tmp 26,.tmp 27],none⟩,12,2,false⟩,⟨⟨some 29,.mov (.tmp 4),none⟩,0,0,true⟩,⟨⟨some 30,.mov (.tmp 5),none⟩,0,0,true⟩,⟨⟨some 31,.bin .sub (.tmp 30) (.val (.int .i64 1)),none⟩,64,0,true⟩,⟨⟨some 32,.idxS 1 (.tmp 29) (.tmp 31),none⟩,224,0,true⟩,⟨⟨some 33,.load none (.tmp 32),none⟩,480,1,true⟩,⟨⟨some 34,.call (.val (.func (.func 94) [] [])) [.tmp 28,.tmp 33],none⟩,1020,2,false⟩,⟨⟨some 23,.mov (.tmp 34),none⟩,2044,0,false⟩,⟨⟨some 35,.extract (.tmp 23) 0,none⟩,4092,0,false⟩,⟨⟨some 36,.extract (.tmp 23) 1,none⟩,4092,0,false⟩,⟨⟨some 37,.idxS 1 (.tmp 24) (.tmp 25),none⟩,8191,0,true⟩,⟨⟨none,.store 1 (.tmp 37) (.tmp 35),none⟩,24575,2,false⟩])) (.region [⟨some 21,.mov (.tmp 5),none⟩,⟨some 22,.bin .add (.tmp 21) (.val (.int .i64 1)),none⟩,⟨some 5,.mov (.tmp 22),none⟩])))))) (.seq (.region [⟨some 38,.mov (.tmp 4),none⟩,⟨some 2,.mov (.tmp 38),none⟩]) .ret)))))),[.tmp 2]⟩
def c59 : RFunc := ⟨37,.code (.seq (.region [⟨some 2,.box 83 (.tmp 0),none⟩]) (.seq (.region [⟨some 7,.mov (.tmp 1),none⟩,⟨some 8,.lenS (.tmp 7),none⟩,⟨some 9,.mov (.val (.int .i64 0)),none⟩]) (.block 0 (.loop (.seq (.region [⟨some 10,.bin .lss (.tmp 9) (.tmp 8),none⟩]) (.seq (.cond (.tmp 10) .skip (.exit 0)) (.seq (.block 1 (.seq (.region [⟨some 11,.mov (.tmp 9),none⟩,⟨some 12,.idxS 1 (.tmp 7) (.tmp 9),none⟩,⟨some 13,.load none (.tmp 12),none⟩,⟨some 4,.mov (.tmp 11),none⟩,⟨some 5,.mov (.tmp 13),none⟩]) (.seq (.region [⟨some 14,.mov (.tmp 5),none⟩,⟨some 15,.bin .sub (.tmp 14) (.val (.int .i64 2)),none⟩,⟨some 16,.minmax true [.tmp 15,(.val (.int .i64 0))],none⟩,⟨some 6,.mov (.tmp 16),none⟩]) (.block 2 (.loop (.seq (.seq (.region [⟨some 17,.mov (.tmp 6),none⟩,⟨some 18,.mov (.tmp 5),none⟩,⟨some 19,.bin .add (.tmp 18) (.val (.int .i64 2)),none⟩,⟨some 20,.fieldAddr 1 (.tmp 2),none⟩,⟨some 21,.load none (.tmp 20),none⟩,⟨some 22,.bin .sub (.tmp 21) (.val (.int .i64 1)),none⟩,⟨some 23,.minmax false [.tmp 19,.tmp 22],none⟩,⟨some 24,.bin .leq (.tmp 17) (.tmp 23),none⟩]) (.cond (.tmp 24) .skip (.exit 2))) (.seq (.block 3 (.region [⟨some 27,.fieldAddr 2 (.tmp 2),none⟩,⟨some 28,.load none (.tmp 27),none⟩,⟨some 29,.mov (.tmp 4),none⟩,⟨some 30,.fieldAddr 1 (.tmp 2),none⟩,⟨some 31,.load none (.tmp 30),none⟩,⟨some 32,.bin .mul (.tmp 29) (.tmp 31),none⟩,⟨some 33,.mov (.tmp 6),none⟩,⟨some 34,.bin .add (.tmp 32) (.tmp 33),none⟩,⟨some 35,.idxS 1 (.tmp 28) (.tmp 34),none⟩,⟨none,.store 1 (.tmp 35) (.val (.int .i64 1920)),none⟩])) (.region [⟨some 25,.mov (.tmp 6),none⟩,⟨some 26,.bin .add (.tmp 25) (.val (.int .i64 1)),none⟩,⟨some 6,.mov (.tmp 26),none⟩])))))))) (.region [⟨some 36,.bin .add (.tmp 9) (.val (.int .i64 1)),none⟩,⟨some 9,.mov (.tmp 36),none⟩])))))))),[]⟩
def c60 : RFunc := ⟨14,.code (.seq (.region [⟨some 5,.mov (.tmp 0),none⟩,⟨some 6,.lenS (.tmp 5),none⟩,⟨some 4,.mov (.tmp 6),none⟩]) (.region [⟨some 7,.mov (.tmp 0),none⟩,⟨some 8,.mov (.tmp 4),none⟩,⟨some 9,.mov (.tmp 4),none⟩,⟨some 10,.convInt .u64 (.tmp 9),none⟩,⟨some 11,.call (.val (.func (.func 98) [] [])) [.tmp 10],none⟩,⟨some 12,.mov (.tmp 1),none⟩,⟨some 13,.call (.val (.func (.func 97) [] [])) [.tmp 7,(.val (.int .i64 0)),.tmp 8,.tmp 11,.tmp 12],none⟩])),[]⟩
def c61 : RFunc := ⟨12,.code (.seq (.region [⟨some 4,.mov (.val (.int .i64 0)),none⟩]) (.seq (.dregion [⟨⟨some 5,.mov (.tmp 0),none⟩,0,0,true⟩,⟨⟨some 6,.idxS 1 (.tmp 5) (.val (.int .i64 0)),none⟩,1,0,true⟩,⟨⟨some 7,.load none (.tmp 6),none⟩,3,1,true⟩,⟨⟨some 8,.mov (.tmp 1),none⟩,0,0,true⟩,⟨⟨some 9,.idxS 1 (.tmp 8) (.val (.int .i64 0)),none⟩,8,0,true⟩,⟨⟨some 10,.load none (.tmp 9),none⟩,24,1,true⟩,⟨⟨some 11,.call (.val (.func (.func 62) [] [])) [.tmp 7,.tmp 10],none⟩,63,2,false⟩,⟨⟨some 4,.mov (.tmp 11),none⟩,127,0,false⟩]) .ret)),[.tmp 4]⟩
def c62 : RFunc := ⟨20,.code (.seq (.region [⟨some 4,.mov (.val (.int .i64 0)),none⟩]) (.seq (.region [⟨some 7,.mov (.tmp 0),none⟩,⟨some 8,.call (.val (.func (.func 99) [] [])) [.tmp 7],none⟩,⟨some 5,.mov (.tmp 8),none⟩]) (.seq (.region [⟨some 9,.mov (.tmp 1),none⟩,⟨some 10,.call (.val (.func (.func 99) [] [])) [.tmp 9],none⟩,⟨some 6,.mov (.tmp 10),none⟩]) (.seq (.seq (.region [⟨some 11,.mov (.tmp 5),none⟩]) (.cond (.tmp 11) (.seq (.seq (.region [⟨some 12,.mov (.tmp 6),none⟩]) (.cond (.tmp 12) (.seq (.region [⟨some 4,.mov (.val (.int .i64 0)),none⟩]) .ret) .skip)) (.seq (.region [⟨some 4,.mov (.val (.int .i64 (-1))),none⟩]) .ret)) .skip)) (.seq (.seq (.region [⟨some 13,.mov (.tmp 6),none⟩]) (.cond (.tmp 13) (.seq (.region [⟨some 4,.mov (.val (.int .i64 1)),none⟩]) .ret) .skip)) (.seq (.seq (.region [⟨some 14,.mov (.tmp 0),none⟩,⟨some 15,.mov (.tmp 1),none⟩,⟨some 16,.bin .lss (.tmp 14) (.tmp 15),none⟩]) (.cond (.tmp 16) (.seq (.region [⟨some 4,.mov (.val (.int .i64 (-1))),none⟩]) .ret) .skip)) (.seq (.seq (.region [⟨some 17,.mov (.tmp 0),none⟩,⟨some 18,.mov (.tmp 1),none⟩,⟨some 19,.bin .gtr (.tmp 17) (.tmp 18),none⟩]) (.cond (.tmp 19) (.seq (.region [⟨some 4,.mov (.val (.int .i64 1)),none⟩]) .ret) .skip)) (.seq (.region [⟨some 4,.mov (.val (.int .i64 0)),none⟩]) .ret)))))))),[.tmp 4]⟩
def c72 : RFunc := ⟨78,.code (.seq (.region [⟨some 2,.mov (.val (.bool false)),none⟩]) (.seq (.region [⟨some 12,.mov (.tmp 0),none⟩,⟨some 13,.idxS 1 (.tmp 12) (.val (.int .i64 0)),none⟩,⟨some 14,.load none (.tmp 13),none⟩,⟨some 15,.lenS (.tmp 14),none⟩,⟨some 3,.mov (.tmp 15),none⟩]) (.seq (.seq (.region [⟨some 16,.mov (.tmp 3),none⟩,⟨some 17,.bin .eql (.tmp 16) (.val (.int .i64 0)),none⟩]) (.cond (.tmp 17) (.seq (.region [⟨some 2,.mov (.val (.bool false)),none⟩]) .ret) .skip)) (.seq (.region [⟨some 4,.mov (.val (.int .i64 64)),none⟩,⟨some 5,.mov (.val (.int .i64 2)),none⟩]) (.seq (.seq (.region [⟨some 18,.mov (.tmp 0),none⟩,⟨some 19,.sliceS 1 (.tmp 18) (some (.val (.int .i64 1))) none none,none⟩,⟨some 20,.lenS (.tmp 19),none⟩,⟨some 21,.mov (.val (.int .i64 0)),none⟩]) (.block 0 (.loop (.seq (.region [⟨some 22,.bin .lss (.tmp 21) (.tmp 20),none⟩]) (.seq (.cond (.tmp 22) .skip (.exit 0)) (.seq (.block 1 (.seq (.region [⟨some 23,.mov (.tmp 21),none⟩,⟨some 24,.idxS 1 (.tmp 19) (.tmp 21),none⟩,⟨some 25,.load none (.tmp 24),none⟩,⟨some 6,.mov (.tmp 23),none⟩,⟨some 7,.mov (.tmp 25),none⟩]) (.seq (.region [⟨some 26,.mov (.tmp 0),none⟩,⟨some 27,.mov (.tmp 6),none⟩,⟨some 28,.idxS 1 (.tmp 26) (.tmp 27),none⟩,⟨some 29,.load none (.tmp 28),none⟩,⟨some 8,.mov (.tmp 29),none⟩]) (.seq (.seq (.region [⟨some 30,.mov (.tmp 7),none⟩,⟨some 31,.lenS (.tmp 30),none⟩,⟨some 32,.mov (.tmp 3),none⟩,⟨some 33,.bin .neq (.tmp 31) (.tmp 32),none⟩]) (.cond (.tmp 33) (.seq (.region [⟨some 2,.mov (.val (.bool false)),none⟩]) .ret) .skip)) (.seq (.region [⟨some 34,.mov (.tmp 3),none⟩,⟨some 35,.bin .sub (.tmp 34) (.val (.int .i64 1)),none⟩,⟨some 36,.build [(.int .i64 0),(.int .i64 0)] [(0,1,(.val (.int .i64 0))),(1,1,(.tmp 35))],none⟩,⟨some 37,.mov (.val (.int .i64 0)),none⟩]) (.block 2 (.loop (.seq (.region [⟨some 38,.bin .lss (.tmp 37) (.val (.int .i64 2)),none⟩]) (.seq (.cond (.tmp 38) .skip (.exit 2)) (.seq (.block 3 (.seq (.region [⟨some 39,.indexA 2 1 false (.tmp 36) (.tmp 37),none⟩,⟨some 10,.mov (.tmp 39),none⟩]) (.seq (.dregion [⟨⟨some 40,.mov (.tmp 7),none⟩,0,0,true⟩,⟨⟨some 41,.mov (.tmp 10),none⟩,0,0,true⟩,⟨⟨some 42,.idxS 1 (.tmp 40) (.tmp 41),none⟩,3,0,true⟩,⟨⟨some 43,.load none (.tmp 42),none⟩,7,1,true⟩,⟨⟨some 44,.mov (.tmp 8),none⟩,0,0,true⟩,⟨⟨some 45,.mov (.tmp 10),none⟩,0,0,true⟩,⟨⟨some 46,.idxS 1 (.tmp 44) (.tmp 45),none⟩,48,0,true⟩,⟨⟨some 47,.load none (.tmp 46),none⟩,112,1,true⟩,⟨⟨some 48,.bin .sub (.tmp 43) (.tmp 47),none⟩,255,0,true⟩,⟨⟨some 11,.mov (.tmp 48),none⟩,511,0,true⟩]) (.seq (.seq (.dregion [⟨⟨some 49,.mov (.tmp 7),none⟩,0,0,true⟩,⟨⟨some 50,.mov (.tmp 10),none⟩,0,0,true⟩,⟨⟨some 51,.idxS 1 (.tmp 49) (.tmp 50),none⟩,3,0,true⟩,⟨⟨some 52,.load none (.tmp 51),none⟩,7,1,true⟩,⟨⟨some 53,.mov (.tmp 8),none⟩,0,0,true⟩,⟨⟨some 54,.mov (.tmp 10),none⟩,0,0,true⟩,⟨⟨some 55,.idxS 1 (.tmp 53) (.tmp 54),none⟩,48,0,true⟩,⟨⟨some 56,.load none (.tmp 55),none⟩,112,1,true⟩,⟨⟨some 57,.bin .lss (.tmp 52) (.tmp 56),none⟩,255,0,true⟩,⟨⟨some 58,.mov (.tmp 57),none⟩,511,0,true⟩,⟨⟨some 59,.mov (.tmp 11),some (58,false)⟩,1023,0,true⟩,⟨⟨some 60,.bin .lss (.tmp 59) (.val (.int .i64 2)),some (58,false)⟩,2047,0,true⟩,⟨⟨some 61,.pick (.tmp 58) (.val (.bool true)) (.tmp 60),none⟩,4095,0,true⟩,⟨⟨some 62,.mov (.tmp 61),none⟩,8191,0,true⟩,⟨⟨some 63,.mov (.tmp 11),some (62,false)⟩,16383,0,true⟩,⟨⟨some 64,.bin .gtr (.tmp 63) (.val (.int .i64 64)),some (62,false)⟩,32767,0,true⟩,⟨⟨some 65,.pick (.tmp 62) (.val (.bool true)) (.tmp 64),none⟩,65535,0,true⟩]) (.cond (.tmp 65) (.seq (.region [⟨some 2,.mov (.val (.bool false)),none⟩]) .ret) .skip)) (.region [⟨some 66,.mov (.tmp 4),none⟩,⟨some 67,.mov (.tmp 11),none⟩,⟨some 68,.minmax false [.tmp 66,.tmp 67],none⟩,⟨some 69,.mov (.tmp 5),none⟩,⟨some 70,.mov (.tmp 11),none⟩,⟨some 71,.minmax true [.tmp 69,.tmp 70],none⟩,⟨some 4,.mov (.tmp 68),none⟩,⟨some 5,.mov (.tmp 71),none⟩]))))) (.region [⟨some 72,.bin .add (.tmp 37) (.val (.int .i64 1)),none⟩,⟨some 37,.mov (.tmp 72),none⟩]))))))))))) (.region [⟨some 73,.bin .add (.tmp 21) (.val (.int .i64 1)),none⟩,⟨some 21,.mov (.tmp 73),none⟩]))))))) (.seq (.region [⟨some 74,.mov (.tmp 5),none⟩,⟨some 75,.mov (.tmp 4),none⟩,⟨some 76,.bin .sub (.tmp 74) (.tmp 75),none⟩,⟨some 77,.bin .leq (.tmp 76) (.val (.int .i64 2)),none⟩,⟨some 2,.mov (.tmp 77),none⟩]) .ret)))))),[.tmp 2]⟩
def c73 : RFunc := ⟨21,.code (.seq (.region [⟨some 2,.new 43 [.nslice],none⟩]) (.seq (.region [⟨some 3,.new 43 [.nslice],none⟩]) (.seq (.seq (.region [⟨some 6,.mov (.tmp 0),none⟩,⟨some 7,.lenS (.tmp 6),none⟩,⟨some 8,.mov (.val (.int .i64 0)),none⟩]) (.block 0 (.loop (.seq (.region [⟨some 9,.bin .lss (.tmp 8) (.tmp 7),none⟩]) (.seq (.cond (.tmp 9) .skip (.exit 0)) (.seq (.block 1 (.seq (.region [⟨some 10,.idxS 1 (.tmp 6) (.tmp 8),none⟩,⟨some 11,.load none (.tmp 10),none⟩,⟨some 5,.mov (.tmp 11),none⟩]) (.dregion [⟨⟨some 12,.fieldAddr 0 (.tmp 3),none⟩,0,0,true⟩,⟨⟨some 13,.load none (.tmp 12),none⟩,1,1,true⟩,⟨⟨some 14,.mov (.tmp 5),none⟩,0,0,true⟩,⟨⟨some 15,.call (.val (.func (.func 14) [] [])) [.tmp 14],none⟩,4,2,false⟩,⟨⟨some 16,.buildSlice 25 1 1 [.nslice] [(0,1,(.tmp 15))],none⟩,12,2,false⟩,⟨⟨some 17,.append 25 1 24 (.tmp 13) (.tmp 16),none⟩,31,2,false⟩,⟨⟨some 18,.fieldAddr 0 (.tmp 3),none⟩,63,0,true⟩,⟨⟨none,.store 1 (.tmp 18) (.tmp 17),none⟩,127,2,false⟩]))) (.region [⟨some 19,.bin .add (.tmp 8) (.val (.int .i64 1)),none⟩,⟨some 8,.mov (.tmp 19),none⟩]))))))) (.seq (.region [⟨some 20,.load (some 1) (.tmp 3),none⟩,⟨none,.store 1 (.tmp 2) (.tmp 20),none⟩]) .ret)))),[.cell 2 (some 1)]⟩
def c79 : RFunc := ⟨25,.code (.seq (.region [⟨some 2,.mov (.val (.int .i64 0)),none⟩]) (.seq (.seq (.region [⟨some 5,.mov (.tmp 0),none⟩,⟨some 6,.lenS (.tmp 5),none⟩,⟨some 7,.bin .lss (.tmp 6) (.val (.int .i64 1)),none⟩]) (.cond (.tmp 7) .fail .skip)) (.seq (.region [⟨some 9,.mov (.tmp 0),none⟩,⟨some 10,.idxS 1 (.tmp 9) (.val (.int .i64 0)),none⟩,⟨some 11,.load none (.tmp 10),none⟩,⟨some 3,.mov (.tmp 11),none⟩]) (.seq (.seq (.region [⟨some 4,.mov (.val (.int .i64 1)),none⟩]) (.block 0 (.loop (.seq (.seq (.region [⟨some 12,.mov (.tmp 4),none⟩,⟨some 13,.mov (.tmp 0),none⟩,⟨some 14,.lenS (.tmp 13),none⟩,⟨some 15,.bin .lss (.tmp 12) (.tmp 14),none⟩]) (.cond (.tmp 15) .skip (.exit 0))) (.seq (.block 1 (.region [⟨some 18,.mov (.tmp 3),none⟩,⟨some 19,.mov (.tmp 0),none⟩,⟨some 20,.mov (.tmp 4),none⟩,⟨some 21,.idxS 1 (.tmp 19) (.tmp 20),none⟩,⟨some 22,.load none (.tmp 21),none⟩,⟨some 23,.minmax false [.tmp 18,.tmp 22],none⟩,⟨some 3,.mov (.tmp 23),none⟩])) (.region [⟨some 16,.mov (.tmp 4),none⟩,⟨some 17,.bin .add (.tmp 16) (.val (.int .i64 1)),none⟩,⟨some 4,.mov (.tmp 17),none⟩])))))) (.seq (.region [⟨some 24,.mov (.tmp 3),none⟩,⟨some 2,.mov (.tmp 24),none⟩]) .ret))))),[.tmp 2]⟩
def c86 : RFunc := ⟨7,.code (.seq (.region [⟨some 1,.box 24 (.tmp 0),none⟩,⟨some 2,.mov (.val (.int .i64 0)),none⟩]) (.seq (.region [⟨some 3,.fieldAddr 2 (.tmp 1),none⟩,⟨some 4,.load none (.tmp 3),none⟩,⟨some 5,.buildSlice 5 1 1 [(.int .u8 0)] [(0,1,(.val (.int .u8 1)))],none⟩,⟨some 6,.call (.val (.func (.func 91) [] [])) [.tmp 4,.tmp 5],none⟩,⟨some 2,.mov (.tmp 6),none⟩]) .ret)),[.tmp 2]⟩
def c90 : RFunc := ⟨20,.code (.seq (.region [⟨some 6,.mov (.val (.bool false)),none⟩]) (.seq (.region [⟨some 7,.mov (.tmp 0),none⟩,⟨some 8,.call (.val (.func (.func 103) [] [])) [.tmp 7],none⟩,⟨some 9,.mov (.tmp 8),none⟩,⟨some 10,.mov (.tmp 1),some (9,true)⟩,⟨some 11,.call (.val (.func (.func 103) [] [])) [.tmp 10],some (9,true)⟩,⟨some 12,.pick (.tmp 9) (.tmp 11) (.val (.bool false)),none⟩,⟨some 13,.mov (.tmp 12),none⟩,⟨some 14,.mov (.tmp 2),some (13,true)⟩,⟨some 15,.mov (.tmp 0),some (13,true)⟩,⟨some 16,.mov (.tmp 1),some (13,true)⟩,⟨some 17,.bin .mul (.tmp 15) (.tmp 16),some (13,true)⟩,⟨some 18,.bin .eql (.tmp 14) (.tmp 17),some (13,true)⟩,⟨some 19,.pick (.tmp 13) (.tmp 18) (.val (.bool false)),none⟩,⟨some 6,.mov (.tmp 19),none⟩]) .ret)),[.tmp 6]⟩
def c91 : RFunc := ⟨35,.code (.seq (.region [⟨some 4,.mov (.val (.int .i64 0)),none⟩]) (.seq (.seq (.region [⟨some 7,.mov (.tmp 1),none⟩,⟨some 8,.lenS (.tmp 7),none⟩,⟨some 9,.bin .eql (.tmp 8) (.val (.int .i64 0)),none⟩]) (.cond (.tmp 9) (.seq (.region [⟨some 10,.mov (.tmp 0),none⟩,⟨some 11,.call (.val (.func (.func 110) [] [])) [.tmp 10],none⟩,⟨some 12,.bin .add (.tmp 11) (.val (.int .i64 1)),none⟩,⟨some 4,.mov (.tmp 12),none⟩]) .ret) .skip)) (.seq (.seq (.region [⟨some 13,.mov (.tmp 1),none⟩,⟨some 14,.lenS (.tmp 13),none⟩,⟨some 15,.bin .eql (.tmp 14) (.val (.int .i64 1)),none⟩]) (.cond (.tmp 15) (.seq (.region [⟨some 16,.mov (.tmp 0),none⟩,⟨some 17,.mov (.tmp 1),none⟩,⟨some 18,.idxS 1 (.tmp 17) (.val (.int .i64 0)),none⟩,⟨some 19,.load none (.tmp 18),none⟩,⟨some 20,.call (.val (.func (.func 111) [] [])) [.tmp 16,.tmp 19],none⟩,⟨some 4,.mov (.tmp 20),none⟩]) .ret) .skip)) (.seq (.region [⟨some 5,.mov (.val (.int .i64 0)),none⟩]) (.block 0 (.loop (.block 1 (.seq (.region [⟨some 21,.mov (.tmp 0),none⟩,⟨some 22,.mov (.tmp 1),none⟩,⟨some 23,.call (.val (.func (.func 112) [] [])) [.tmp 21,.tmp 22],none⟩,⟨some 6,.mov (.tmp 23),none⟩]) (.seq (.seq (.region [⟨some 24,.mov (.tmp 6),none⟩,⟨some 25,.bin .eql (.tmp 24) (.val (.int .i64 (-1))),none⟩]) (.cond (.tmp 25) (.seq (.region [⟨some 26,.mov (.tmp 5),none⟩,⟨some 4,.mov (.tmp 26),none⟩]) .ret) .skip)) (.seq (.region [⟨some 27,.mov (.tmp 5),none⟩,⟨some 28,.bin .add (.tmp 27) (.val (.int .i64 1)),none⟩,⟨some 5,.mov (.tmp 28),none⟩]) (.region [⟨some 29,.mov (.tmp 0),none⟩,⟨some 30,.mov (.tmp 6),none⟩,⟨some 31,.mov (.tmp 1),none⟩,⟨some 32,.lenS (.tmp 31),none⟩,⟨some 33,.bin .add (.tmp 30) (.tmp 32),none⟩,⟨some 34,.sliceS 1 (.tmp 29) (some (.tmp 33)) none none,none⟩,⟨some 0,.mov (.tmp 34),none⟩]))))))))))),[.tmp 4]⟩
def c93 : RFunc := ⟨37,.code (.seq (.region [⟨some 5,.mov (.val (.int .i64 0)),none⟩]) (.seq (.region [⟨some 9,.fieldAddr 2 (.tmp 2),none⟩,⟨some 10,.load none (.tmp 9),none⟩,⟨some 11,.mov (.tmp 0),none⟩,⟨some 12,.fieldAddr 1 (.tmp 2),none⟩,⟨some 13,.load none (.tmp 12),none⟩,⟨some 14,.bin .mul (.tmp 11) (.tmp 13),none⟩,⟨some 15,.mov (.tmp 1),none⟩,⟨some 16,.bin .add (.tmp 14) (.tmp 15),none⟩,⟨some 17,.idxS 1 (.tmp 10) (.tmp 16),none⟩,⟨some 18,.load none (.tmp 17),none⟩,⟨some 6,.mov (.tmp 18),none⟩]) (.seq (.seq (.region [⟨some 19,.mov (.tmp 0),none⟩,⟨some 20,.fieldAddr 0 (.tmp 2),none⟩,⟨some 21,.load none (.tmp 20),none⟩,⟨some 22,.bin .sub (.tmp 21) (.val (.int .i64 1)),none⟩,⟨some 23,.bin .lss (.tmp 19) (.tmp 22),none⟩]) (.cond (.tmp 23) (.seq (.region [⟨some 25,.load (some 4) (.tmp 2),none⟩,⟨some 26,.mov (.tmp 0),none⟩,⟨some 27,.bin .add (.tmp 26) (.val (.int .i64 1)),none⟩,⟨some 28,.call (.val (.func (.func 95) [] [])) [.tmp 25,.tmp 27],none⟩,⟨some 29,.mov (.tmp 1),none⟩,⟨some 30,.call (.val (.func (.func 94) [] [])) [.tmp 28,.tmp 29],none⟩,⟨some 24,.mov (.tmp 30),none⟩,⟨some 31,.extract (.tmp 24) 0,none⟩,⟨some 32,.extract (.tmp 24) 1,none⟩,⟨some 7,.mov (.tmp 31),none⟩,⟨some 8,.mov (.tmp 32),none⟩]) (.region [⟨some 33,.mov (.tmp 6),none⟩,⟨some 34,.mov (.tmp 8),none⟩,⟨some 35,.bin .add (.tmp 33) (.tmp 34),none⟩,⟨some 6,.mov (.tmp 35),none⟩])) .skip)) (.seq (.region [⟨some 36,.mov (.tmp 6),none⟩,⟨some 5,.mov (.tmp 36),none⟩]) .ret)))),[.tmp 5]⟩
def c94 : RFunc := ⟨28,.ranges (.seq (.region [⟨some 2,.box 25 (.tmp 0),none⟩,⟨some 3,.box 3 (.tmp 1),none⟩,⟨some 4,.new 3 [(.int .i64 0)],none⟩,⟨some 5,.new 3 [(.int .i64 0)],none⟩]) (.seq (.region [⟨none,.store 1 (.tmp 5) (.val (.int .i64 1920)),none⟩]) (.seq (.seq (.region [⟨some 8,.load none (.tmp 3),none⟩,⟨some 9,.load none (.tmp 2),none⟩,⟨some 10,.lenS (.tmp 9),none⟩,⟨some 11,.call (.val (.func (.func 113) [] [])) [.tmp 8,.tmp 10],none⟩]) (.block 0 (.rangeFunc [2,3,4,5,6,7,8,9,10,11,12,13,14,15,16,17,18,19,20,21,22,23,24,25,26,27,28,29,30,31,32,33,34,35,36,37,38,39,40,41,42,43,44,45,46,47,48,49,50,51,52,53,54,55,56,57,58,59,60,61,62,63,64,65,66,67,68,69,70,71,72,73,74,75,76,77,78,79,80,81,82,83,84,85,86,87,88,89,90,91,92,93,94,95,96,97,98,99,100,101,102,103,104,105,106,107,108,109,110,112,113,114,115,116,117,118,119,120,121,122,123,124,125,126,127,128,129,131,132,133,134,135,136,137,138,139,141,142] 28 (.tmp 11) [12] (.region [⟨some 6,.mov (.tmp 12),none⟩]) (.block 1 (.seq (.dregion [⟨⟨some 13,.load none (.tmp 2),none⟩,0,1,true⟩,⟨⟨some 14,.mov (.tmp 6),none⟩,0,0,true⟩,⟨⟨some 15,.idxS 1 (.tmp 13) (.tmp 14),none⟩,3,0,true⟩,⟨⟨some 16,.load none (.tmp 15),none⟩,7,1,true⟩,⟨⟨some 17,.load none (.tmp 3),none⟩,0,1,true⟩,⟨⟨some 18,.mov (.tmp 6),none⟩,0,0,true⟩,⟨⟨some 19,.call (.val (.func (.func 53) [] [])) [.tmp 17,.tmp 18],none⟩,48,2,false⟩,⟨⟨some 20,.bin .add (.tmp 16) (.tmp 19),none⟩,127,0,false⟩,⟨⟨some 7,.mov (.tmp 20),none⟩,255,0,false⟩]) (.seq (.region [⟨some 21,.mov (.tmp 7),none⟩,⟨some 22,.load none (.tmp 5),none⟩,⟨some 23,.bin .lss (.tmp 21) (.tmp 22),none⟩]) (.cond (.tmp 23) (.region [⟨some 24,.mov (.tmp 6),none⟩,⟨some 25,.mov (.tmp 7),none⟩,⟨none,.store 1 (.tmp 4) (.tmp 24),none⟩,⟨none,.store 1 (.tmp 5) (.tmp 25),none⟩]) .skip))))))) (.seq (.dregion [⟨⟨some 26,.load none (.tmp 4),none⟩,0,1,true⟩,⟨⟨some 27,.load none (.tmp 5),none⟩,0,1,true⟩,⟨⟨none,.store 1 (.tmp 4) (.tmp 26),none⟩,1,2,false⟩,⟨⟨none,.store 1 (.tmp 5) (.tmp 27),none⟩,7,2,false⟩]) .ret)))),[.cell 4 none,.cell 5 none]⟩
def c95 : RFunc := ⟨17,.code (.seq (.region [⟨some 2,.box 83 (.tmp 0),none⟩,⟨some 4,.mov (.val .nslice),none⟩]) (.seq (.region [⟨some 5,.fieldAddr 3 (.tmp 2),none⟩,⟨some 6,.load none (.tmp 5),none⟩,⟨some 7,.mov (.tmp 1),none⟩,⟨some 8,.fieldAddr 1 (.tmp 2),none⟩,⟨some 9,.load none (.tmp 8),none⟩,⟨some 10,.bin .mul (.tmp 7) (.tmp 9),none⟩,⟨some 11,.mov (.tmp 1),none⟩,⟨some 12,.bin .add (.tmp 11) (.val (.int .i64 1)),none⟩,⟨some 13,.fieldAddr 1 (.tmp 2),none⟩,⟨some 14,.load none (.tmp 13),none⟩,⟨some 15,.bin .mul (.tmp 12) (.tmp 14),none⟩,⟨some 16,.sliceS 1 (.tmp 6) (some (.tmp 10)) (some (.tmp 15)) none,none⟩,⟨some 4,.mov (.tmp 16),none⟩]) .ret)),[.tmp 4]⟩
def c96 : RFunc := ⟨19,.code (.seq (.region [⟨some 4,.mov (.val (.int .i64 0)),none⟩]) (.seq (.seq (.region [⟨some 6,.mov (.tmp 0),none⟩,⟨some 7,.lenS (.tmp 6),none⟩,⟨some 8,.mov (.val (.int .i64 0)),none⟩]) (.block 0 (.loop (.seq (.region [⟨some 9,.bin .lss (.tmp 8) (.tmp 7),none⟩]) (.seq (.cond (.tmp 9) .skip (.exit 0)) (.seq (.block 1 (.seq (.region [⟨some 10,.mov (.tmp 8),none⟩,⟨some 5,.mov (.tmp 10),none⟩]) (.seq (.region [⟨some 11,.mov (.tmp 1),none⟩,⟨some 12,.mov (.tmp 0),none⟩,⟨some 13,.mov (.tmp 5),none⟩,⟨some 14,.idxS 1 (.tmp 12) (.tmp 13),none⟩,⟨some 15,.load none (.tmp 14),none⟩,⟨some 16,.bin .eql (.tmp 11) (.tmp 15),none⟩]) (.cond (.tmp 16) (.seq (.region [⟨some 17,.mov (.tmp 5),none⟩,⟨some 4,.mov (.tmp 17),none⟩]) .ret) .skip)))) (.region [⟨some 18,.bin .add (.tmp 8) (.val (.int .i64 1)),none⟩,⟨some 8,.mov (.tmp 18),none⟩]))))))) (.seq (.region [⟨some 4,.mov (.val (.int .i64 (-1))),none⟩]) .ret))),[.tmp 4]⟩
def c97 : RFunc := ⟨148,.code (.seq (.region [⟨some 10,.mov (.val (.bool true)),none⟩]) (.seq (.region [⟨some 11,.mov (.val (.bool true)),none⟩]) (.block 0 (.loop (.block 1 (.seq (.region [⟨some 21,.mov (.tmp 2),none⟩,⟨some 22,.mov (.tmp 1),none⟩,⟨some 23,.bin .sub (.tmp 21) (.tmp 22),none⟩,⟨some 12,.mov (.tmp 23),none⟩]) (.seq (.seq (.region [⟨some 24,.mov (.tmp 12),none⟩,⟨some 25,.bin .leq (.tmp 24) (.val (.int .i64 12)),none⟩]) (.cond (.tmp 25) (.seq (.region [⟨some 26,.mov (.tmp 0),none⟩,⟨some 27,.mov (.tmp 1),none⟩,⟨some 28,.mov (.tmp 2),none⟩,⟨some 29,.mov (.tmp 4),none⟩,⟨some 30,.call (.val (.func (.func 114) [] [])) [.tmp 26,.tmp 27,.tmp 28,.tmp 29],none⟩]) .ret) .skip)) (.seq (.seq (.region [⟨some 31,.mov (.tmp 3),none⟩,⟨some 32,.bin .eql (.tmp 31) (.val (.int .i64 0)),none⟩]) (.cond (.tmp 32) (.seq (.region [⟨some 33,.mov (.tmp 0),none⟩,⟨some 34,.mov (.tmp 1),none⟩,⟨some 35,.mov (.tmp 2),none⟩,⟨some 36,.mov (.tmp 4),none⟩,⟨some 37,.call (.val (.func (.func 115) [] [])) [.tmp 33,.tmp 34,.tmp 35,.tmp 36],none⟩]) .ret) .skip)) (.seq (.seq (.region [⟨some 38,.mov (.tmp 10),none⟩,⟨some 39,.un .not (.tmp 38),none⟩]) (.cond (.tmp 39) (.seq (.region [⟨some 40,.mov (.tmp 0),none⟩,⟨some 41,.mov (.tmp 1),none⟩,⟨some 42,.mov (.tmp 2),none⟩,⟨some 43,.mov (.tmp 4),none⟩,⟨some 44,.call (.val (.func (.func 116) [] [])) [.tmp 40,.tmp 41,.tmp 42,.tmp 43],none⟩]) (.region [⟨some 45,.mov (.tmp 3),none⟩,⟨some 46,.bin .sub (.tmp 45) (.val (.int .i64 1)),none⟩,⟨some 3,.mov (.tmp 46),none⟩])) .skip)) (.seq (.region [⟨some 48,.mov (.tmp 0),none⟩,⟨some 49,.mov (.tmp 1),none⟩,⟨some 50,.mov (.tmp 2),none⟩,⟨some 51,.mov (.tmp 4),none⟩,⟨some 52,.call (.val (.func (.func 117) [] [])) [.tmp 48,.tmp 49,.tmp 50,.tmp 51],none⟩,⟨some 47,.mov (.tmp 52),none⟩,⟨some 53,.extract (.tmp 47) 0,none⟩,⟨some 54,.extract (.tmp 47) 1,none⟩,⟨some 13,.mov (.tmp 53),none⟩,⟨some 14,.mov (.tmp 54),none⟩]) (.seq (.seq (.region [⟨some 55,.mov (.tmp 14),none⟩,⟨some 56,.bin .eql (.tmp 55) (.val (.int .i64 2)),none⟩]) (.cond (.tmp 56) (.seq (.region [⟨some 57,.mov (.tmp 0),none⟩,⟨some 58,.mov (.tmp 1),none⟩,⟨some 59,.mov (.tmp 2),none⟩,⟨some 60,.mov (.tmp 4),none⟩,⟨some 61,.call (.val (.func (.func 118) [] [])) [.tmp 57,.tmp 58,.tmp 59,.tmp 60],none⟩]) (.seq (.region [⟨some 62,.mov (.tmp 2),none⟩,⟨some 63,.bin .sub (.tmp 62) (.val (.int .i64 1)),none⟩,⟨some 64,.mov (.tmp 13),none⟩,⟨some 65,.mov (.tmp 1),none⟩,⟨some 66,.bin .sub (.tmp 64) (.tmp 65),none⟩,⟨some 67,.bin .sub (.tmp 63) (.tmp 66),none⟩,⟨some 13,.mov (.tmp 67),none⟩]) (.region [⟨some 14,.mov (.val (.int .i64 1)),none⟩]))) .skip)) (.seq (.seq (.region [⟨some 68,.mov (.tmp 10),none⟩,⟨some 69,.mov (.tmp 68),none⟩,⟨some 70,.mov (.tmp 11),some (69,true)⟩,⟨some 71,.pick (.tmp 69) (.tmp 70) (.val (.bool false)),none⟩,⟨some 72,.mov (.tmp 71),none⟩,⟨some 73,.mov (.tmp 14),some (72,true)⟩,⟨some 74,.bin .eql (.tmp 73) (.val (.int .i64 1)),some (72,true)⟩,⟨some 75,.pick (.tmp 72) (.tmp 74) (.val (.bool false)),none⟩]) (.cond (.tmp 75) (.seq (.region [⟨some 76,.mov (.tmp 0),none⟩,⟨some 77,.mov (.tmp 1),none⟩,⟨some 78,.mov (.tmp 2),none⟩,⟨some 79,.mov (.tmp 4),none⟩,⟨some 80,.call (.val (.func (.func 119) [] [])) [.tmp 76,.tmp 77,.tmp 78,.tmp 79],none⟩]) (.cond (.tmp 80) .ret .skip)) .skip)) (.seq (.seq (.dregion [⟨⟨some 81,.mov (.tmp 1),none⟩,0,0,true⟩,⟨⟨some 82,.bin .gtr (.tmp 81) (.val (.int .i64 0)),none⟩,1,0,true⟩,⟨⟨some 83,.mov (.tmp 82),none⟩,3,0,true⟩,⟨⟨some 84,.mov (.tmp 4),some (83,true)⟩,7,0,true⟩,⟨⟨some 85,.mov (.tmp 0),some (83,true)⟩,7,0,true⟩,⟨⟨some 86,.mov (.tmp 1),some (83,true)⟩,7,0,true⟩,⟨⟨some 87,.bin .sub (.tmp 86) (.val (.int .i64 1)),some (83,true)⟩,39,0,true⟩,⟨⟨some 88,.idxS 1 (.tmp 85) (.tmp 87),some (83,true)⟩,119,0,true⟩,⟨⟨some 89,.load none (.tmp 88),some (83,true)⟩,247,1,true⟩,⟨⟨some 90,.mov (.tmp 0),some (83,true)⟩,7,0,true⟩,⟨⟨some 91,.mov (.tmp 13),some (83,true)⟩,7,0,true⟩,⟨⟨some 92,.idxS 1 (.tmp 90) (.tmp 91),some (83,true)⟩,1543,0,true⟩,⟨⟨some 93,.load none (.tmp 92),some (83,true)⟩,3591,1,true⟩,⟨⟨some 94,.call (.tmp 84) [.tmp 89,.tmp 93],some (83,true)⟩,8191,2,false⟩,⟨⟨some 95,.bin .lss (.tmp 94) (.val (.int .i64 0)),some (83,true)⟩,16383,0,false⟩,⟨⟨some 96,.un .not (.tmp 95),some (83,true)⟩,32767,0,false⟩,⟨⟨some 97,.pick (.tmp 83) (.tmp 96) (.val (.bool false)),none⟩,65535,0,false⟩]) (.cond (.tmp 97) (.seq (.region [⟨some 98,.mov (.tmp 0),none⟩,⟨some 99,.mov (.tmp 1),none⟩,⟨some 100,.mov (.tmp 2),none⟩,⟨some 101,.mov (.tmp 13),none⟩,⟨some 102,.mov (.tmp 4),none⟩,⟨some 103,.call (.val (.func (.func 120) [] [])) [.tmp 98,.tmp 99,.tmp 100,.tmp 101,.tmp 102],none⟩,⟨some 15,.mov (.tmp 103),none⟩]) (.seq (.region [⟨some 104,.mov (.tmp 15),none⟩,⟨some 1,.mov (.tmp 104),none⟩]) (.exit 1))) .skip)) (.seq (.region [⟨some 106,.mov (.tmp 0),none⟩,⟨some 107,.mov (.tmp 1),none⟩,⟨some 108,.mov (.tmp 2),none⟩,⟨some 109,.mov (.tmp 13),none⟩,⟨some 110,.mov (.tmp 4),none⟩,⟨some 111,.call (.val (.func (.func 121) [] [])) [.tmp 106,.tmp 107,.tmp 108,.tmp 109,.tmp 110],none⟩,⟨some 105,.mov (.tmp 111),none⟩,⟨some 112,.extract (.tmp 105) 0,none⟩,⟨some 113,.extract (.tmp 105) 1,none⟩,⟨some 16,.mov (.tmp 112),none⟩,⟨some 17,.mov (.tmp 113),none⟩]) (.seq (.region [⟨some 114,.mov (.tmp 17),none⟩,⟨some 11,.mov (.tmp 114),none⟩]) (.seq (.region [⟨some 115,.mov (.tmp 16),none⟩,⟨some 116,.mov (.tmp 1),none⟩,⟨some 117,.bin .sub (.tmp 115) (.tmp 116),none⟩,⟨some 118,.mov (.tmp 2),none⟩,⟨some 119,.mov (.tmp 16),none⟩,⟨some 120,.bin .sub (.tmp 118) (.tmp 119),none⟩,⟨some 18,.mov (.tmp 117),none⟩,⟨some 19,.mov (.tmp 120),none⟩]) (.seq (.region [⟨some 121,.mov (.tmp 12),none⟩,⟨some 122,.bin .quo (.tmp 121) (.val (.int .i64 8)),none⟩,⟨some 20,.mov (.tmp 122),none⟩]) (.seq (.region [⟨some 123,.mov (.tmp 18),none⟩,⟨some 124,.mov (.tmp 19),none⟩,⟨some 125,.bin .lss (.tmp 123) (.tmp 124),none⟩]) (.cond (.tmp 125) (.seq (.region [⟨some 126,.mov (.tmp 18),none⟩,⟨some 127,.mov (.tmp 20),none⟩,⟨some 128,.bin .geq (.tmp 126) (.tmp 127),none⟩,⟨some 10,.mov (.tmp 128),none⟩]) (.seq (.region [⟨some 129,.mov (.tmp 0),none⟩,⟨some 130,.mov (.tmp 1),none⟩,⟨some 131,.mov (.tmp 16),none⟩,⟨some 132,.mov (.tmp 3),none⟩,⟨some 133,.mov (.tmp 4),none⟩,⟨some 134,.call (.val (.func (.func 97) [] [])) [.tmp 129,.tmp 130,.tmp 131,.tmp 132,.tmp 133],none⟩]) (.region [⟨some 135,.mov (.tmp 16),none⟩,⟨some 136,.bin .add (.tmp 135) (.val (.int .i64 1)),none⟩,⟨some 1,.mov (.tmp 136),none⟩]))) (.seq (.region [⟨some 137,.mov (.tmp 19),none⟩,⟨some 138,.mov (.tmp 20),none⟩,⟨some 139,.bin .geq (.tmp 137) (.tmp 138),none⟩,⟨some 10,.mov (.tmp 139),none⟩]) (.seq (.region [⟨some 140,.mov (.tmp 0),none⟩,⟨some 141,.mov (.tmp 16),none⟩,⟨some 142,.bin .add (.tmp 141) (.val (.int .i64 1)),none⟩,⟨some 143,.mov (.tmp 2),none⟩,⟨some 144,.mov (.tmp 3),none⟩,⟨some 145,.mov (.tmp 4),none⟩,⟨some 146,.call (.val (.func (.func 97) [] [])) [.tmp 140,.tmp 142,.tmp 143,.tmp 144,.tmp 145],none⟩]) (.region [⟨some 147,.mov (.tmp 16),none⟩,⟨some 2,.mov (.tmp 147),none⟩])))))))))))))))))))))),[]⟩
def c98 : RFunc := ⟨8,.code (.seq (.region [⟨some 2,.mov (.val (.int .i64 0)),none⟩]) (.seq (.cond (.val (.bool false)) (.seq (.region [⟨some 3,.mov (.tmp 0),none⟩,⟨some 4,.convInt .u32 (.tmp 3),none⟩,⟨some 5,.call (.val (.func (.func 122) [] [])) [.tmp 4],none⟩,⟨some 2,.mov (.tmp 5),none⟩]) .ret) .skip) (.seq (.region [⟨some 6,.mov (.tmp 0),none⟩,⟨some 7,.call (.val (.func (.func 123) [] [])) [.tmp 6],none⟩,⟨some 2,.mov (.tmp 7),none⟩]) .ret))),[.tmp 2]⟩
def c99 : RFunc := ⟨6,.code (.seq (.region [⟨some 2,.mov (.val (.bool false)),none⟩]) (.seq (.region [⟨some 3,.mov (.tmp 0),none⟩,⟨some 4,.mov (.tmp 0),none⟩,⟨some 5,.bin .neq (.tmp 3) (.tmp 4),none⟩,⟨some 2,.mov (.tmp 5),none⟩]) .ret)),[.tmp 2]⟩
def c103 : RFunc := ⟨9,.code (.seq (.region [⟨some 2,.mov (.val (.bool false)),none⟩]) (.seq (.region [⟨some 3,.mov (.tmp 0),none⟩,⟨some 4,.bin .geq (.tmp 3) (.val (.int .i64 0)),none⟩,⟨some 5,.mov (.tmp 4),none⟩,⟨some 6,.mov (.tmp 0),some (5,true)⟩,⟨some 7,.bin .leq (.tmp 6) (.val (.int .i64 640)),some (5,true)⟩,⟨some 8,.pick (.tmp 5) (.tmp 7) (.val (.bool false)),none⟩,⟨some 2,.mov (.tmp 8),none⟩]) .ret)),[.tmp 2]⟩
def c110 : RFunc := ⟨27,.code (.seq (.region [⟨some 2,.mov (.val (.int .i64 0)),none⟩]) (.seq (.region [⟨some 6,.mov (.tmp 0),none⟩,⟨some 7,.lenS (.tmp 6),none⟩,⟨some 3,.mov (.tmp 7),none⟩]) (.seq (.region [⟨some 4,.mov (.val (.int .i64 0)),none⟩]) (.seq (.block 0 (.loop (.seq (.seq (.region [⟨some 8,.mov (.tmp 4),none⟩,⟨some 9,.mov (.tmp 3),none⟩,⟨some 10,.bin .lss (.tmp 8) (.tmp 9),none⟩]) (.cond (.tmp 10) .skip (.exit 0))) (.seq (.block 1 (.seq (.region [⟨some 13,.mov (.tmp 0),none⟩,⟨some 14,.mov (.tmp 4),none⟩,⟨some 15,.idxS 1 (.tmp 13) (.tmp 14),none⟩,⟨some 16,.load none (.tmp 15),none⟩,⟨some 5,.mov (.tmp 16),none⟩]) (.seq (.region [⟨some 17,.mov (.tmp 5),none⟩,⟨some 18,.bin .geq (.tmp 17) (.val (.int .u8 128)),none⟩]) (.cond (.tmp 18) (.seq (.region [⟨some 19,.mov (.tmp 4),none⟩,⟨some 20,.mov (.tmp 0),none⟩,⟨some 21,.mov (.tmp 4),none⟩,⟨some 22,.sliceS 1 (.tmp 20) (some (.tmp 21)) none none,none⟩,⟨some 23,.bytesToStr (.tmp 22),none⟩,⟨some 24,.call (.val (.func (.func 127) [] [])) [.tmp 23],none⟩,⟨some 25,.bin .add (.tmp 19) (.tmp 24),none⟩,⟨some 2,.mov (.tmp 25),none⟩]) .ret) .skip)))) (.region [⟨some 11,.mov (.tmp 4),none⟩,⟨some 12,.bin .add (.tmp 11) (.val (.int .i64 1)),none⟩,⟨some 4,.mov (.tmp 12),none⟩]))))) (.seq (.region [⟨some 26,.mov (.tmp 4),none⟩,⟨some 2,.mov (.tmp 26),none⟩]) .ret))))),[.tmp 2]⟩
def c112 : RFunc := ⟨200,.code (.seq (.region [⟨some 4,.mov (.val (.int .i64 0)),none⟩]) (.seq (.region [⟨some 20,.mov (.tmp 1),none⟩,⟨some 21,.lenS (.tmp 20),none⟩,⟨some 5,.mov (.tmp 21),none⟩]) (.seq (.block 0 (.seq (.region [⟨some 23,.mov (.tmp 5),none⟩,⟨some 24,.bin .eql (.tmp 23) (.val (.int .i64 0)),none⟩,⟨some 22,.mov (.tmp 24),none⟩]) (.cond (.tmp 22) (.seq (.region [⟨some 4,.mov (.val (.int .i64 0)),none⟩]) .ret) (.seq (.region [⟨some 26,.mov (.tmp 5),none⟩,⟨some 27,.bin .eql (.tmp 26) (.val (.int .i64 1)),none⟩,⟨some 25,.mov (.tmp 27),none⟩]) (.cond (.tmp 25) (.seq (.region [⟨some 28,.mov (.tmp 0),none⟩,⟨some 29,.mov (.tmp 1),none⟩,⟨some 30,.idxS 1 (.tmp 29) (.val (.int .i64 0)),none⟩,⟨some 31,.load none (.tmp 30),none⟩,⟨some 32,.call (.val (.func (.func 128) [] [])) [.tmp 28,.tmp 31],none⟩,⟨some 4,.mov (.tmp 32),none⟩]) .ret) (.seq (.region [⟨some 34,.mov (.tmp 5),none⟩,⟨some 35,.mov (.tmp 0),none⟩,⟨some 36,.lenS (.tmp 35),none⟩,⟨some 37,.bin .eql (.tmp 34) (.tmp 36),none⟩,⟨some 33,.mov (.tmp 37),none⟩]) (.cond (.tmp 33) (.seq (.seq (.region [⟨some 38,.mov (.tmp 1),none⟩,⟨some 39,.mov (.tmp 0),none⟩,⟨some 40,.call (.val (.func (.func 129) [] [])) [.tmp 38,.tmp 39],none⟩]) (.cond (.tmp 40) (.seq (.region [⟨some 4,.mov (.val (.int .i64 0)),none⟩]) .ret) .skip)) (.seq (.region [⟨some 4,.mov (.val (.int .i64 (-1))),none⟩]) .ret)) (.seq (.region [⟨some 42,.mov (.tmp 5),none⟩,⟨some 43,.mov (.tmp 0),none⟩,⟨some 44,.lenS (.tmp 43),none⟩,⟨some 45,.bin .gtr (.tmp 42) (.tmp 44),none⟩,⟨some 41,.mov (.tmp 45),none⟩]) (.cond (.tmp 41) (.seq (.region [⟨some 4,.mov (.val (.int .i64 (-1))),none⟩]) .ret) (.seq (.region [⟨some 47,.mov (.tmp 5),none⟩,⟨some 48,.load none (.val (.ptr 0 0)),none⟩,⟨some 49,.bin .leq (.tmp 47) (.tmp 48),none⟩,⟨some 46,.mov (.tmp 49),none⟩]) (.cond (.tmp 46) (.seq (.seq (.region [⟨some 50,.mov (.tmp 0),none⟩,⟨some 51,.lenS (.tmp 50),none⟩,⟨some 52,.bin .leq (.tmp 51) (.val (.int .i64 64)),none⟩]) (.cond (.tmp 52) (.seq (.region [⟨some 53,.mov (.tmp 0),none⟩,⟨some 54,.mov (.tmp 1),none⟩,⟨some 55,.call (.val (.func (.func 130) [] [])) [.tmp 53,.tmp 54],none⟩,⟨some 4,.mov (.tmp 55),none⟩]) .ret) .skip)) (.seq (.region [⟨some 56,.mov (.tmp 1),none⟩,⟨some 57,.idxS 1 (.tmp 56) (.val (.int .i64 0)),none⟩,⟨some 58,.load none (.tmp 57),none⟩,⟨some 6,.mov (.tmp 58),none⟩]) (.seq (.region [⟨some 59,.mov (.tmp 1),none⟩,⟨some 60,.idxS 1 (.tmp 59) (.val (.int .i64 1)),none⟩,⟨some 61,.load none (.tmp 60),none⟩,⟨some 7,.mov (.tmp 61),none⟩]) (.seq (.region [⟨some 8,.mov (.val (.int .i64 0)),none⟩]) (.seq (.region [⟨some 62,.mov (.tmp 0),none⟩,⟨some 63,.lenS (.tmp 62),none⟩,⟨some 64,.mov (.tmp 5),none⟩,⟨some 65,.bin .sub (.tmp 63) (.tmp 64),none⟩,⟨some 66,.bin .add (.tmp 65) (.val (.int .i64 1)),none⟩,⟨some 9,.mov (.tmp 66),none⟩]) (.seq (.region [⟨some 10,.mov (.val (.int .i64 0)),none⟩]) (.seq (.block 1 (.loop (.seq (.seq (.region [⟨some 67,.mov (.tmp 8),none⟩,⟨some 68,.mov (.tmp 9),none⟩,⟨some 69,.bin .lss (.tmp 67) (.tmp 68),none⟩]) (.cond (.tmp 69) .skip (.exit 1))) (.block 2 (.seq (.seq (.region [⟨some 70,.mov (.tmp 0),none⟩,⟨some 71,.mov (.tmp 8),none⟩,⟨some 72,.idxS 1 (.tmp 70) (.tmp 71),none⟩,⟨some 73,.load none (.tmp 72),none⟩,⟨some 74,.mov (.tmp 6),none⟩,⟨some 75,.bin .neq (.tmp 73) (.tmp 74),none⟩]) (.cond (.tmp 75) (.seq (.region [⟨some 76,.mov (.tmp 0),none⟩,⟨some 77,.mov (.tmp 8),none⟩,⟨some 78,.bin .add (.tmp 77) (.val (.int .i64 1)),none⟩,⟨some 79,.mov (.tmp 9),none⟩,⟨some 80,.sliceS 1 (.tmp 76) (some (.tmp 78)) (some (.tmp 79)) none,none⟩,⟨some 81,.mov (.tmp 6),none⟩,⟨some 82,.call (.val (.func (.func 128) [] [])) [.tmp 80,.tmp 81],none⟩,⟨some 11,.mov (.tmp 82),none⟩]) (.seq (.seq (.region [⟨some 83,.mov (.tmp 11),none⟩,⟨some 84,.bin .lss (.tmp 83) (.val (.int .i64 0)),none⟩]) (.cond (.tmp 84) (.seq (.region [⟨some 4,.mov (.val (.int .i64 (-1))),none⟩]) .ret) .skip)) (.region [⟨some 85,.mov (.tmp 8),none⟩,⟨some 86,.mov (.tmp 11),none⟩,⟨some 87,.bin .add (.tmp 86) (.val (.int .i64 1)),none⟩,⟨some 88,.bin .add (.tmp 85) (.tmp 87),none⟩,⟨some 8,.mov (.tmp 88),none⟩]))) .skip)) (.seq (.seq (.region [⟨some 89,.mov (.tmp 0),none⟩,⟨some 90,.mov (.tmp 8),none⟩,⟨some 91,.bin .add (.tmp 90) (.val (.int .i64 1)),none⟩,⟨some 92,.idxS 1 (.tmp 89) (.tmp 91),none⟩,⟨some 93,.load none (.tmp 92),none⟩,⟨some 94,.mov (.tmp 7),none⟩,⟨some 95,.bin .eql (.tmp 93) (.tmp 94),none⟩,⟨some 96,.mov (.tmp 95),none⟩,⟨some 97,.mov (.tmp 0),some (96,true)⟩,⟨some 98,.mov (.tmp 8),some (96,true)⟩,⟨some 99,.mov (.tmp 8),some (96,true)⟩,⟨some 100,.mov (.tmp 5),some (96,true)⟩,⟨some 101,.bin .add (.tmp 99) (.tmp 100),some (96,true)⟩,⟨some 102,.sliceS 1 (.tmp 97) (some (.tmp 98)) (some (.tmp 101)) none,some (96,true)⟩,⟨some 103,.mov (.tmp 1),some (96,true)⟩,⟨some 104,.call (.val (.func (.func 129) [] [])) [.tmp 102,.tmp 103],some (96,true)⟩,⟨some 105,.pick (.tmp 96) (.tmp 104) (.val (.bool false)),none⟩]) (.cond (.tmp 105) (.seq (.region [⟨some 106,.mov (.tmp 8),none⟩,⟨some 4,.mov (.tmp 106),none⟩]) .ret) .skip)) (.seq (.region [⟨some 107,.mov (.tmp 10),none⟩,⟨some 108,.bin .add (.tmp 107) (.val (.int .i64 1)),none⟩,⟨some 10,.mov (.tmp 108),none⟩]) (.seq (.region [⟨some 109,.mov (.tmp 8),none⟩,⟨some 110,.bin .add (.tmp 109) (.val (.int .i64 1)),none⟩,⟨some 8,.mov (.tmp 110),none⟩]) (.seq (.region [⟨some 111,.mov (.tmp 10),none⟩,⟨some 112,.mov (.tmp 8),none⟩,⟨some 113,.call (.val (.func (.func 131) [] [])) [.tmp 112],none⟩,⟨some 114,.bin .gtr (.tmp 111) (.tmp 113),none⟩]) (.cond (.tmp 114) (.seq (.region [⟨some 115,.mov (.tmp 0),none⟩,⟨some 116,.mov (.tmp 8),none⟩,⟨some 117,.sliceS 1 (.tmp 115) (some (.tmp 116)) none none,none⟩,⟨some 118,.mov (.tmp 1),none⟩,⟨some 119,.call (.val (.func (.func 130) [] [])) [.tmp 117,.tmp 118],none⟩,⟨some 12,.mov (.tmp 119),none⟩]) (.seq (.seq (.region [⟨some 120,.mov (.tmp 12),none⟩,⟨some 121,.bin .geq (.tmp 120) (.val (.int .i64 0)),none⟩]) (.cond (.tmp 121) (.seq (.region [⟨some 122,.mov (.tmp 12),none⟩,⟨some 123,.mov (.tmp 8),none⟩,⟨some 124,.bin .add (.tmp 122) (.tmp 123),none⟩,⟨some 4,.mov (.tmp 124),none⟩]) .ret) .skip)) (.seq (.region [⟨some 4,.mov (.val (.int .i64 (-1))),none⟩]) .ret))) .skip)))))))))) (.seq (.region [⟨some 4,.mov (.val (.int .i64 (-1))),none⟩]) .ret)))))))) .skip))))))))))) (.seq (.region [⟨some 125,.mov (.tmp 1),none⟩,⟨some 126,.idxS 1 (.tmp 125) (.val (.int .i64 0)),none⟩,⟨some 127,.load none (.tmp 126),none⟩,⟨some 13,.mov (.tmp 127),none⟩]) (.seq (.region [⟨some 128,.mov (.tmp 1),none⟩,⟨some 129,.idxS 1 (.tmp 128) (.val (.int .i64 1)),none⟩,⟨some 130,.load none (.tmp 129),none⟩,⟨some 14,.mov (.tmp 130),none⟩]) (.seq (.region [⟨some 15,.mov (.val (.int .i64 0)),none⟩]) (.seq (.region [⟨some 16,.mov (.val (.int .i64 0)),none⟩]) (.seq (.region [⟨some 131,.mov (.tmp 0),none⟩,⟨some 132,.lenS (.tmp 131),none⟩,⟨some 133,.mov (.tmp 5),none⟩,⟨some 134,.bin .sub (.tmp 132) (.tmp 133),none⟩,⟨some 135,.bin .add (.tmp 134) (.val (.int .i64 1)),none⟩,⟨some 17,.mov (.tmp 135),none⟩]) (.seq (.block 3 (.loop (.seq (.seq (.region [⟨some 136,.mov (.tmp 15),none⟩,⟨some 137,.mov (.tmp 17),none⟩,⟨some 138,.bin .lss (.tmp 136) (.tmp 137),none⟩]) (.cond (.tmp 138) .skip (.exit 3))) (.block 4 (.seq (.seq (.region [⟨some 139,.mov (.tmp 0),none⟩,⟨some 140,.mov (.tmp 15),none⟩,⟨some 141,.idxS 1 (.tmp 139) (.tmp 140),none⟩,⟨some 142,.load none (.tmp 141),none⟩,⟨some 143,.mov (.tmp 13),none⟩,⟨some 144,.bin .neq (.tmp 142) (.tmp 143),none⟩]) (.cond (.tmp 144) (.seq (.region [⟨some 145,.mov (.tmp 0),none⟩,⟨some 146,.mov (.tmp 15),none⟩,⟨some 147,.bin .add (.tmp 146) (.val (.int .i64 1)),none⟩,⟨some 148,.mov (.tmp 17),none⟩,⟨some 149,.sliceS 1 (.tmp 145) (some (.tmp 147)) (some (.tmp 148)) none,none⟩,⟨some 150,.mov (.tmp 13),none⟩,⟨some 151,.call (.val (.func (.func 128) [] [])) [.tmp 149,.tmp 150],none⟩,⟨some 18,.mov (.tmp 151),none⟩]) (.seq (.seq (.region [⟨some 152,.mov (.tmp 18),none⟩,⟨some 153,.bin .lss (.tmp 152) (.val (.int .i64 0)),none⟩]) (.cond (.tmp 153) (.exit 3) .skip)) (.region [⟨some 154,.mov (.tmp 15),none⟩,⟨some 155,.mov (.tmp 18),none⟩,⟨some 156,.bin .add (.tmp 155) (.val (.int .i64 1)),none⟩,⟨some 157,.bin .add (.tmp 154) (.tmp 156),none⟩,⟨some 15,.mov (.tmp 157),none⟩]))) .skip)) (.seq (.seq (.region [⟨some 158,.mov (.tmp 0),none⟩,⟨some 159,.mov (.tmp 15),none⟩,⟨some 160,.bin .add (.tmp 159) (.val (.int .i64 1)),none⟩,⟨some 161,.idxS 1 (.tmp 158) (.tmp 160),none⟩,⟨some 162,.load none (.tmp 161),none⟩,⟨some 163,.mov (.tmp 14),none⟩,⟨some 164,.bin .eql (.tmp 162) (.tmp 163),none⟩,⟨some 165,.mov (.tmp 164),none⟩,⟨some 166,.mov (.tmp 0),some (165,true)⟩,⟨some 167,.mov (.tmp 15),some (165,true)⟩,⟨some 168,.mov (.tmp 15),some (165,true)⟩,⟨some 169,.mov (.tmp 5),some (165,true)⟩,⟨some 170,.bin .add (.tmp 168) (.tmp 169),some (165,true)⟩,⟨some 171,.sliceS 1 (.tmp 166) (some (.tmp 167)) (some (.tmp 170)) none,some (165,true)⟩,⟨some 172,.mov (.tmp 1),some (165,true)⟩,⟨some 173,.call (.val (.func (.func 129) [] [])) [.tmp 171,.tmp 172],some (165,true)⟩,⟨some 174,.pick (.tmp 165) (.tmp 173) (.val (.bool false)),none⟩]) (.cond (.tmp 174) (.seq (.region [⟨some 175,.mov (.tmp 15),none⟩,⟨some 4,.mov (.tmp 175),none⟩]) .ret) .skip)) (.seq (.region [⟨some 176,.mov (.tmp 15),none⟩,⟨some 177,.bin .add (.tmp 176) (.val (.int .i64 1)),none⟩,⟨some 15,.mov (.tmp 177),none⟩]) (.seq (.region [⟨some 178,.mov (.tmp 16),none⟩,⟨some 179,.bin .add (.tmp 178) (.val (.int .i64 1)),none⟩,⟨some 16,.mov (.tmp 179),none⟩]) (.seq (.region [⟨some 180,.mov (.tmp 16),none⟩,⟨some 181,.mov (.tmp 15),none⟩,⟨some 182,.bin .shr (.tmp 181) (.val (.int .u64 4)),none⟩,⟨some 183,.bin .add (.val (.int .i64 4)) (.tmp 182),none⟩,⟨some 184,.bin .geq (.tmp 180) (.tmp 183),none⟩,⟨some 185,.mov (.tmp 184),none⟩,⟨some 186,.mov (.tmp 15),some (185,true)⟩,⟨some 187,.mov (.tmp 17),some (185,true)⟩,⟨some 188,.bin .lss (.tmp 186) (.tmp 187),some (185,true)⟩,⟨some 189,.pick (.tmp 185) (.tmp 188) (.val (.bool false)),none⟩]) (.cond (.tmp 189) (.seq (.region [⟨some 190,.mov (.tmp 0),none⟩,⟨some 191,.mov (.tmp 15),none⟩,⟨some 192,.sliceS 1 (.tmp 190) (some (.tmp 191)) none none,none⟩,⟨some 193,.mov (.tmp 1),none⟩,⟨some 194,.call (.val (.func (.func 132) [] [])) [.tmp 192,.tmp 193],none⟩,⟨some 19,.mov (.tmp 194),none⟩]) (.seq (.seq (.region [⟨some 195,.mov (.tmp 19),none⟩,⟨some 196,.bin .lss (.tmp 195) (.val (.int .i64 0)),none⟩]) (.cond (.tmp 196) (.seq (.region [⟨some 4,.mov (.val (.int .i64 (-1))),none⟩]) .ret) .skip)) (.seq (.region [⟨some 197,.mov (.tmp 15),none⟩,⟨some 198,.mov (.tmp 19),none⟩,⟨some 199,.bin .add (.tmp 197) (.tmp 198),none⟩,⟨some 4,.mov (.tmp 199),none⟩]) .ret))) .skip)))))))))) (.seq (.region [⟨some 4,.mov (.val (.int .i64 (-1))),none⟩]) .ret)))))))))),[.tmp 4]⟩
def c113 : RFunc := ⟨6,.code (.seq (.region [⟨some 2,.box 3 (.tmp 0),none⟩,⟨some 3,.box 3 (.tmp 1),none⟩,⟨some 4,.mov (.val .nfunc),none⟩]) (.seq (.region [⟨some 5,.mkFunc (.func 133) [] [.tmp 2,.tmp 3],none⟩,⟨some 4,.mov (.tmp 5),none⟩]) .ret)),[.tmp 4]⟩
def c114 : RFunc := ⟨53,.code (.seq (.region [⟨some 10,.mov (.tmp 1),none⟩,⟨some 11,.bin .add (.tmp 10) (.val (.int .i64 1)),none⟩,⟨some 8,.mov (.tmp 11),none⟩]) (.block 0 (.loop (.seq (.seq (.region [⟨some 12,.mov (.tmp 8),none⟩,⟨some 13,.mov (.tmp 2),none⟩,⟨some 14,.bin .lss (.tmp 12) (.tmp 13),none⟩]) (.cond (.tmp 14) .skip (.exit 0))) (.seq (.block 1 (.seq (.region [⟨some 17,.mov (.tmp 8),none⟩,⟨some 9,.mov (.tmp 17),none⟩]) (.block 2 (.loop (.seq (.seq (.dregion [⟨⟨some 18,.mov (.tmp 9),none⟩,0,0,true⟩,⟨⟨some 19,.mov (.tmp 1),none⟩,0,0,true⟩,⟨⟨some 20,.bin .gtr (.tmp 18) (.tmp 19),none⟩,3,0,true⟩,⟨⟨some 21,.mov (.tmp 20),none⟩,7,0,true⟩,⟨⟨some 22,.mov (.tmp 3),some (21,true)⟩,15,0,true⟩,⟨⟨some 23,.mov (.tmp 0),some (21,true)⟩,15,0,true⟩,⟨⟨some 24,.mov (.tmp 9),some (21,true)⟩,15,0,true⟩,⟨⟨some 25,.idxS 1 (.tmp 23) (.tmp 24),some (21,true)⟩,111,0,true⟩,⟨⟨some 26,.load none (.tmp 25),some (21,true)⟩,239,1,true⟩,⟨⟨some 27,.mov (.tmp 0),some (21,true)⟩,15,0,true⟩,⟨⟨some 28,.mov (.tmp 9),some (21,true)⟩,15,0,true⟩,⟨⟨some 29,.bin .sub (.tmp 28) (.val (.int .i64 1)),some (21,true)⟩,1039,0,true⟩,⟨⟨some 30,.idxS 1 (.tmp 27) (.tmp 29),some (21,true)⟩,3599,0,true⟩,⟨⟨some 31,.load none (.tmp 30),some (21,true)⟩,7695,1,true⟩,⟨⟨some 32,.call (.tmp 22) [.tmp 26,.tmp 31],some (21,true)⟩,16383,2,false⟩,⟨⟨some 33,.bin .lss (.tmp 32) (.val (.int .i64 0)),some (21,true)⟩,32767,0,false⟩,⟨⟨some 34,.pick (.tmp 21) (.tmp 33) (.val (.bool false)),none⟩,65535,0,false⟩]) (.cond (.tmp 34) .skip (.exit 2))) (.seq (.block 3 (.dregion [⟨⟨some 37,.mov (.tmp 0),none⟩,0,0,true⟩,⟨⟨some 38,.mov (.tmp 9),none⟩,0,0,true⟩,⟨⟨some 39,.mov (.tmp 0),none⟩,0,0,true⟩,⟨⟨some 40,.mov (.tmp 9),none⟩,0,0,true⟩,⟨⟨some 41,.bin .sub (.tmp 40) (.val (.int .i64 1)),none⟩,8,0,true⟩,⟨⟨some 42,.mov (.tmp 0),none⟩,0,0,true⟩,⟨⟨some 43,.mov (.tmp 9),none⟩,0,0,true⟩,⟨⟨some 44,.bin .sub (.tmp 43) (.val (.int .i64 1)),none⟩,64,0,true⟩,⟨⟨some 45,.idxS 1 (.tmp 42) (.tmp 44),none⟩,224,0,true⟩,⟨⟨some 46,.load none (.tmp 45),none⟩,480,1,true⟩,⟨⟨some 47,.mov (.tmp 0),none⟩,0,0,true⟩,⟨⟨some 48,.mov (.tmp 9),none⟩,0,0,true⟩,⟨⟨some 49,.idxS 1 (.tmp 47) (.tmp 48),none⟩,3072,0,true⟩,⟨⟨some 50,.load none (.tmp 49),none⟩,7168,1,true⟩,⟨⟨some 51,.idxS 1 (.tmp 37) (.tmp 38),none⟩,16355,0,true⟩,⟨⟨none,.store 1 (.tmp 51) (.tmp 46),none⟩,32739,2,false⟩,⟨⟨some 52,.idxS 1 (.tmp 39) (.tmp 41),none⟩,65535,0,true⟩,⟨⟨none,.store 1 (.tmp 52) (.tmp 50),none⟩,131071,2,false⟩])) (.region [⟨some 35,.mov (.tmp 9),none⟩,⟨some 36,.bin .sub (.tmp 35) (.val (.int .i64 1)),none⟩,⟨some 9,.mov (.tmp 36),none⟩]))))))) (.region [⟨some 15,.mov (.tmp 8),none⟩,⟨some 16,.bin .add (.tmp 15) (.val (.int .i64 1)),none⟩,⟨some 8,.mov (.tmp 16),none⟩])))))),[]⟩
def c115 : RFunc := ⟨60,.code (.seq (.region [⟨some 13,.mov (.tmp 1),none⟩,⟨some 8,.mov (.tmp 13),none⟩]) (.seq (.region [⟨some 9,.mov (.val (.int .i64 0)),none⟩]) (.seq (.region [⟨some 14,.mov (.tmp 2),none⟩,⟨some 15,.mov (.tmp 1),none⟩,⟨some 16,.bin .sub (.tmp 14) (.tmp 15),none⟩,⟨some 10,.mov (.tmp 16),none⟩]) (.seq (.seq (.region [⟨some 17,.mov (.tmp 10),none⟩,⟨some 18,.bin .sub (.tmp 17) (.val (.int .i64 1)),none⟩,⟨some 19,.bin .quo (.tmp 18) (.val (.int .i64 2)),none⟩,⟨some 11,.mov (.tmp 19),none⟩]) (.block 0 (.loop (.seq (.seq (.region [⟨some 20,.mov (.tmp 11),none⟩,⟨some 21,.bin .geq (.tmp 20) (.val (.int .i64 0)),none⟩]) (.cond (.tmp 21) .skip (.exit 0))) (.seq (.block 1 (.region [⟨some 24,.mov (.tmp 0),none⟩,⟨some 25,.mov (.tmp 11),none⟩,⟨some 26,.mov (.tmp 10),none⟩,⟨some 27,.mov (.tmp 8),none⟩,⟨some 28,.mov (.tmp 3),none⟩,⟨some 29,.call (.val (.func (.func 134) [] [])) [.tmp 24,.tmp 25,.tmp 26,.tmp 27,.tmp 28],none⟩])) (.region [⟨some 22,.mov (.tmp 11),none⟩,⟨some 23,.bin .sub (.tmp 22) (.val (.int .i64 1)),none⟩,⟨some 11,.mov (.tmp 23),none⟩])))))) (.seq (.region [⟨some 30,.mov (.tmp 10),none⟩,⟨some 31,.bin .sub (.tmp 30) (.val (.int .i64 1)),none⟩,⟨some 12,.mov (.tmp 31),none⟩]) (.block 2 (.loop (.seq (.seq (.region [⟨some 32,.mov (.tmp 12),none⟩,⟨some 33,.bin .geq (.tmp 32) (.val (.int .i64 0)),none⟩]) (.cond (.tmp 33) .skip (.exit 2))) (.seq (.block 3 (.seq (.dregion [⟨⟨some 36,.mov (.tmp 0),none⟩,0,0,true⟩,⟨⟨some 37,.mov (.tmp 8),none⟩,0,0,true⟩,⟨⟨some 38,.mov (.tmp 0),none⟩,0,0,true⟩,⟨⟨some 39,.mov (.tmp 8),none⟩,0,0,true⟩,⟨⟨some 40,.mov (.tmp 12),none⟩,0,0,true⟩,⟨⟨some 41,.bin .add (.tmp 39) (.tmp 40),none⟩,24,0,true⟩,⟨⟨some 42,.mov (.tmp 0),none⟩,0,0,true⟩,⟨⟨some 43,.mov (.tmp 8),none⟩,0,0,true⟩,⟨⟨some 44,.mov (.tmp 12),none⟩,0,0,true⟩,⟨⟨some 45,.bin .add (.tmp 43) (.tmp 44),none⟩,384,0,true⟩,⟨⟨some 46,.idxS 1 (.tmp 42) (.tmp 45),none⟩,960,0,true⟩,⟨⟨some 47,.load none (.tmp 46),none⟩,1984,1,true⟩,⟨⟨some 48,.mov (.tmp 0),none⟩,0,0,true⟩,⟨⟨some 49,.mov (.tmp 8),none⟩,0,0,true⟩,⟨⟨some 50,.idxS 1 (.tmp 48) (.tmp 49),none⟩,12288,0,true⟩,⟨⟨some 51,.load none (.tmp 50),none⟩,28672,1,true⟩,⟨⟨some 52,.idxS 1 (.tmp 36) (.tmp 37),none⟩,65475,0,true⟩,⟨⟨none,.store 1 (.tmp 52) (.tmp 47),none⟩,131011,2,false⟩,⟨⟨some 53,.idxS 1 (.tmp 38) (.tmp 41),none⟩,262143,0,true⟩,⟨⟨none,.store 1 (.tmp 53) (.tmp 51),none⟩,524287,2,false⟩]) (.region [⟨some 54,.mov (.tmp 0),none⟩,⟨some 55,.mov (.tmp 9),none⟩,⟨some 56,.mov (.tmp 12),none⟩,⟨some 57,.mov (.tmp 8),none⟩,⟨some 58,.mov (.tmp 3),none⟩,⟨some 59,.call (.val (.func (.func 134) [] [])) [.tmp 54,.tmp 55,.tmp 56,.tmp 57,.tmp 58],none⟩]))) (.region [⟨some 34,.mov (.tmp 12),none⟩,⟨some 35,.bin .sub (.tmp 34) (.val (.int .i64 1)),none⟩,⟨some 12,.mov (.tmp 35),none⟩])))))))))),[]⟩
def c116 : RFunc := ⟨67,.code (.seq (.region [⟨some 13,.mov (.tmp 2),none⟩,⟨some 14,.mov (.tmp 1),none⟩,⟨some 15,.bin .sub (.tmp 13) (.tmp 14),none⟩,⟨some 8,.mov (.tmp 15),none⟩]) (.seq (.region [⟨some 16,.mov (.tmp 8),none⟩,⟨some 17,.bin .geq (.tmp 16) (.val (.int .i64 8)),none⟩]) (.cond (.tmp 17) (.seq (.region [⟨some 18,.mov (.tmp 8),none⟩,⟨some 19,.convInt .u64 (.tmp 18),none⟩,⟨some 9,.new 151 [(.int .u64 0)],none⟩,⟨none,.store 1 (.tmp 9) (.tmp 19),none⟩]) (.seq (.region [⟨some 20,.mov (.tmp 8),none⟩,⟨some 21,.call (.val (.func (.func 135) [] [])) [.tmp 20],none⟩,⟨some 10,.mov (.tmp 21),none⟩]) (.seq (.region [⟨some 22,.mov (.tmp 1),none⟩,⟨some 23,.mov (.tmp 8),none⟩,⟨some 24,.bin .quo (.tmp 23) (.val (.int .i64 4)),none⟩,⟨some 25,.bin .mul (.tmp 24) (.val (.int .i64 2)),none⟩,⟨some 26,.bin .add (.tmp 22) (.tmp 25),none⟩,⟨some 27,.bin .sub (.tmp 26) (.val (.int .i64 1)),none⟩,⟨some 11,.mov (.tmp 27),none⟩]) (.block 0 (.loop (.seq (.seq (.region [⟨some 28,.mov (.tmp 11),none⟩,⟨some 29,.mov (.tmp 1),none⟩,⟨some 30,.mov (.tmp 8),none⟩,⟨some 31,.bin .quo (.tmp 30) (.val (.int .i64 4)),none⟩,⟨some 32,.bin .mul (.tmp 31) (.val (.int .i64 2)),none⟩,⟨some 33,.bin .add (.tmp 29) (.tmp 32),none⟩,⟨some 34,.bin .add (.tmp 33) (.val (.int .i64 1)),none⟩,⟨some 35,.bin .leq (.tmp 28) (.tmp 34),none⟩]) (.cond (.tmp 35) .skip (.exit 0))) (.seq (.block 1 (.seq (.region [⟨some 38,.call (.val (.func (.func 136) [] [])) [.tmp 9],none⟩,⟨some 39,.mov (.tmp 10),none⟩,⟨some 40,.bin .sub (.tmp 39) (.val (.int .u64 1)),none⟩,⟨some 41,.bin .and (.tmp 38) (.tmp 40),none⟩,⟨some 42,.convInt .i64 (.tmp 41),none⟩,⟨some 12,.mov (.tmp 42),none⟩]) (.seq (.seq (.region [⟨some 43,.mov (.tmp 12),none⟩,⟨some 44,.mov (.tmp 8),none⟩,⟨some 45,.bin .geq (.tmp 43) (.tmp 44),none⟩]) (.cond (.tmp 45) (.region [⟨some 46,.mov (.tmp 12),none⟩,⟨some 47,.mov (.tmp 8),none⟩,⟨some 48,.bin .sub (.tmp 46) (.tmp 47),none⟩,⟨some 12,.mov (.tmp 48),none⟩]) .skip)) (.dregion [⟨⟨some 49,.mov (.tmp 0),none⟩,0,0,true⟩,⟨⟨some 50,.mov (.tmp 11),none⟩,0,0,true⟩,⟨⟨some 51,.mov (.tmp 0),none⟩,0,0,true⟩,⟨⟨some 52,.mov (.tmp 1),none⟩,0,0,true⟩,⟨⟨some 53,.mov (.tmp 12),none⟩,0,0,true⟩,⟨⟨some 54,.bin .add (.tmp 52) (.tmp 53),none⟩,24,0,true⟩,⟨⟨some 55,.mov (.tmp 0),none⟩,0,0,true⟩,⟨⟨some 56,.mov (.tmp 1),none⟩,0,0,true⟩,⟨⟨some 57,.mov (.tmp 12),none⟩,0,0,true⟩,⟨⟨some 58,.bin .add (.tmp 56) (.tmp 57),none⟩,384,0,true⟩,⟨⟨some 59,.idxS 1 (.tmp 55) (.tmp 58),none⟩,960,0,true⟩,⟨⟨some 60,.load none (.tmp 59),none⟩,1984,1,true⟩,⟨⟨some 61,.mov (.tmp 0),none⟩,0,0,true⟩,⟨⟨some 62,.mov (.tmp 11),none⟩,0,0,true⟩,⟨⟨some 63,.idxS 1 (.tmp 61) (.tmp 62),none⟩,12288,0,true⟩,⟨⟨some 64,.load none (.tmp 63),none⟩,28672,1,true⟩,⟨⟨some 65,.idxS 1 (.tmp 49) (.tmp 50),none⟩,65475,0,true⟩,⟨⟨none,.store 1 (.tmp 65) (.tmp 60),none⟩,131011,2,false⟩,⟨⟨some 66,.idxS 1 (.tmp 51) (.tmp 54),none⟩,262143,0,true⟩,⟨⟨none,.store 1 (.tmp 66) (.tmp 64),none⟩,524287,2,false⟩])))) (.region [⟨some 36,.mov (.tmp 11),none⟩,⟨some 37,.bin .add (.tmp 36) (.val (.int .i64 1)),none⟩,⟨some 11,.mov (.tmp 37),none⟩])))))))) .skip))),[]⟩
def c117 : RFunc := ⟨63,.code (.seq (.region [⟨some 8,.mov (.val (.int .i64 0)),none⟩,⟨some 9,.mov (.val (.int .i64 0)),none⟩]) (.seq (.region [⟨some 15,.mov (.tmp 2),none⟩,⟨some 16,.mov (.tmp 1),none⟩,⟨some 17,.bin .sub (.tmp 15) (.tmp 16),none⟩,⟨some 10,.mov (.tmp 17),none⟩]) (.seq (.region [⟨some 11,.new 3 [(.int .i64 0)],none⟩]) (.seq (.region [⟨some 18,.mov (.tmp 1),none⟩,⟨some 19,.mov (.tmp 10),none⟩,⟨some 20,.bin .quo (.tmp 19) (.val (.int .i64 4)),none⟩,⟨some 21,.bin .mul (.tmp 20) (.val (.int .i64 1)),none⟩,⟨some 22,.bin .add (.tmp 18) (.tmp 21),none⟩,⟨some 12,.mov (.tmp 22),none⟩]) (.seq (.region [⟨some 23,.mov (.tmp 1),none⟩,⟨some 24,.mov (.tmp 10),none⟩,⟨some 25,.bin .quo (.tmp 24) (.val (.int .i64 4)),none⟩,⟨some 26,.bin .mul (.tmp 25) (.val (.int .i64 2)),none⟩,⟨some 27,.bin .add (.tmp 23) (.tmp 26),none⟩,⟨some 13,.mov (.tmp 27),none⟩]) (.seq (.region [⟨some 28,.mov (.tmp 1),none⟩,⟨some 29,.mov (.tmp 10),none⟩,⟨some 30,.bin .quo (.tmp 29) (.val (.int .i64 4)),none⟩,⟨some 31,.bin .mul (.tmp 30) (.val (.int .i64 3)),none⟩,⟨some 32,.bin .add (.tmp 28) (.tmp 31),none⟩,⟨some 14,.mov (.tmp 32),none⟩]) (.seq (.seq (.region [⟨some 33,.mov (.tmp 10),none⟩,⟨some 34,.bin .geq (.tmp 33) (.val (.int .i64 8)),none⟩]) (.cond (.tmp 34) (.seq (.seq (.region [⟨some 35,.mov (.tmp 10),none⟩,⟨some 36,.bin .geq (.tmp 35) (.val (.int .i64 50)),none⟩]) (.cond (.tmp 36) (.seq (.region [⟨some 37,.mov (.tmp 0),none⟩,⟨some 38,.mov (.tmp 12),none⟩,⟨some 39,.mov (.tmp 3),none⟩,⟨some 40,.call (.val (.func (.func 137) [] [])) [.tmp 37,.tmp 38,.tmp 11,.tmp 39],none⟩,⟨some 12,.mov (.tmp 40),none⟩]) (.seq (.region [⟨some 41,.mov (.tmp 0),none⟩,⟨some 42,.mov (.tmp 13),none⟩,⟨some 43,.mov (.tmp 3),none⟩,⟨some 44,.call (.val (.func (.func 137) [] [])) [.tmp 41,.tmp 42,.tmp 11,.tmp 43],none⟩,⟨some 13,.mov (.tmp 44),none⟩]) (.region [⟨some 45,.mov (.tmp 0),none⟩,⟨some 46,.mov (.tmp 14),none⟩,⟨some 47,.mov (.tmp 3),none⟩,⟨some 48,.call (.val (.func (.func 137) [] [])) [.tmp 45,.tmp 46,.tmp 11,.tmp 47],none⟩,⟨some 14,.mov (.tmp 48),none⟩]))) .skip)) (.region [⟨some 49,.mov (.tmp 0),none⟩,⟨some 50,.mov (.tmp 12),none⟩,⟨some 51,.mov (.tmp 13),none⟩,⟨some 52,.mov (.tmp 14),none⟩,⟨some 53,.mov (.tmp 3),none⟩,⟨some 54,.call (.val (.func (.func 138) [] [])) [.tmp 49,.tmp 50,.tmp 51,.tmp 52,.tmp 11,.tmp 53],none⟩,⟨some 13,.mov (.tmp 54),none⟩])) .skip)) (.seq (.region [⟨some 55,.load none (.tmp 11),none⟩]) (.block 0 (.seq (.region [⟨some 58,.bin .eql (.tmp 55) (.val (.int .i64 0)),none⟩,⟨some 57,.mov (.tmp 58),none⟩]) (.cond (.tmp 57) (.seq (.region [⟨some 59,.mov (.tmp 13),none⟩,⟨some 8,.mov (.tmp 59),none⟩,⟨some 9,.mov (.val (.int .i64 1)),none⟩]) .ret) (.seq (.region [⟨some 61,.bin .eql (.tmp 55) (.val (.int .i64 12)),none⟩,⟨some 60,.mov (.tmp 61),none⟩]) (.cond (.tmp 60) (.seq (.region [⟨some 62,.mov (.tmp 13),none⟩,⟨some 8,.mov (.tmp 62),none⟩,⟨some 9,.mov (.val (.int .i64 2)),none⟩]) .ret) (.seq (.region [⟨some 56,.mov (.tmp 13),none⟩,⟨some 8,.mov (.tmp 56),none⟩,⟨some 9,.mov (.val (.int .i64 0)),none⟩]) .ret)))))))))))))),[.tmp 8,.tmp 9]⟩
def c118 : RFunc := ⟨34,.code (.seq (.region [⟨some 10,.mov (.tmp 1),none⟩,⟨some 8,.mov (.tmp 10),none⟩]) (.seq (.region [⟨some 11,.mov (.tmp 2),none⟩,⟨some 12,.bin .sub (.tmp 11) (.val (.int .i64 1)),none⟩,⟨some 9,.mov (.tmp 12),none⟩]) (.block 0 (.loop (.seq (.seq (.region [⟨some 13,.mov (.tmp 8),none⟩,⟨some 14,.mov (.tmp 9),none⟩,⟨some 15,.bin .lss (.tmp 13) (.tmp 14),none⟩]) (.cond (.tmp 15) .skip (.exit 0))) (.block 1 (.seq (.dregion [⟨⟨some 16,.mov (.tmp 0),none⟩,0,0,true⟩,⟨⟨some 17,.mov (.tmp 8),none⟩,0,0,true⟩,⟨⟨some 18,.mov (.tmp 0),none⟩,0,0,true⟩,⟨⟨some 19,.mov (.tmp 9),none⟩,0,0,true⟩,⟨⟨some 20,.mov (.tmp 0),none⟩,0,0,true⟩,⟨⟨some 21,.mov (.tmp 9),none⟩,0,0,true⟩,⟨⟨some 22,.idxS 1 (.tmp 20) (.tmp 21),none⟩,48,0,true⟩,⟨⟨some 23,.load none (.tmp 22),none⟩,112,1,true⟩,⟨⟨some 24,.mov (.tmp 0),none⟩,0,0,true⟩,⟨⟨some 25,.mov (.tmp 8),none⟩,0,0,true⟩,⟨⟨some 26,.idxS 1 (.tmp 24) (.tmp 25),none⟩,768,0,true⟩,⟨⟨some 27,.load none (.tmp 26),none⟩,1792,1,true⟩,⟨⟨some 28,.idxS 1 (.tmp 16) (.tmp 17),none⟩,4083,0,true⟩,⟨⟨none,.store 1 (.tmp 28) (.tmp 23),none⟩,8179,2,false⟩,⟨⟨some 29,.idxS 1 (.tmp 18) (.tmp 19),none⟩,16383,0,true⟩,⟨⟨none,.store 1 (.tmp 29) (.tmp 27),none⟩,32767,2,false⟩]) (.seq (.region [⟨some 30,.mov (.tmp 8),none⟩,⟨some 31,.bin .add (.tmp 30) (.val (.int .i64 1)),none⟩,⟨some 8,.mov (.tmp 31),none⟩]) (.region [⟨some 32,.mov (.tmp 9),none⟩,⟨some 33,.bin .sub (.tmp 32) (.val (.int .i64 1)),none⟩,⟨some 9,.mov (.tmp 33),none⟩]))))))))),[]⟩
def c119 : RFunc := ⟨141,.code (.seq (.region [⟨some 8,.mov (.val (.bool false)),none⟩]) (.seq (.region [⟨some 13,.mov (.tmp 1),none⟩,⟨some 14,.bin .add (.tmp 13) (.val (.int .i64 1)),none⟩,⟨some 9,.mov (.tmp 14),none⟩]) (.seq (.seq (.region [⟨some 10,.mov (.val (.int .i64 0)),none⟩]) (.block 0 (.loop (.seq (.seq (.region [⟨some 15,.mov (.tmp 10),none⟩,⟨some 16,.bin .lss (.tmp 15) (.val (.int .i64 5)),none⟩]) (.cond (.tmp 16) .skip (.exit 0))) (.seq (.block 1 (.seq (.block 2 (.loop (.seq (.seq (.dregion [⟨⟨some 19,.mov (.tmp 9),none⟩,0,0,true⟩,⟨⟨some 20,.mov (.tmp 2),none⟩,0,0,true⟩,⟨⟨some 21,.bin .lss (.tmp 19) (.tmp 20),none⟩,3,0,true⟩,⟨⟨some 22,.mov (.tmp 21),none⟩,7,0,true⟩,⟨⟨some 23,.mov (.tmp 3),some (22,true)⟩,15,0,true⟩,⟨⟨some 24,.mov (.tmp 0),some (22,true)⟩,15,0,true⟩,⟨⟨some 25,.mov (.tmp 9),some (22,true)⟩,15,0,true⟩,⟨⟨some 26,.idxS 1 (.tmp 24) (.tmp 25),some (22,true)⟩,111,0,true⟩,⟨⟨some 27,.load none (.tmp 26),some (22,true)⟩,239,1,true⟩,⟨⟨some 28,.mov (.tmp 0),some (22,true)⟩,15,0,true⟩,⟨⟨some 29,.mov (.tmp 9),some (22,true)⟩,15,0,true⟩,⟨⟨some 30,.bin .sub (.tmp 29) (.val (.int .i64 1)),some (22,true)⟩,1039,0,true⟩,⟨⟨some 31,.idxS 1 (.tmp 28) (.tmp 30),some (22,true)⟩,3599,0,true⟩,⟨⟨some 32,.load none (.tmp 31),some (22,true)⟩,7695,1,true⟩,⟨⟨some 33,.call (.tmp 23) [.tmp 27,.tmp 32],some (22,true)⟩,16383,2,false⟩,⟨⟨some 34,.bin .lss (.tmp 33) (.val (.int .i64 0)),some (22,true)⟩,32767,0,false⟩,⟨⟨some 35,.un .not (.tmp 34),some (22,true)⟩,65535,0,false⟩,⟨⟨some 36,.pick (.tmp 22) (.tmp 35) (.val (.bool false)),none⟩,131071,0,false⟩]) (.cond (.tmp 36) .skip (.exit 2))) (.block 3 (.region [⟨some 37,.mov (.tmp 9),none⟩,⟨some 38,.bin .add (.tmp 37) (.val (.int .i64 1)),none⟩,⟨some 9,.mov (.tmp 38),none⟩]))))) (.seq (.seq (.region [⟨some 39,.mov (.tmp 9),none⟩,⟨some 40,.mov (.tmp 2),none⟩,⟨some 41,.bin .eql (.tmp 39) (.tmp 40),none⟩]) (.cond (.tmp 41) (.seq (.region [⟨some 8,.mov (.val (.bool true)),none⟩]) .ret) .skip)) (.seq (.seq (.region [⟨some 42,.mov (.tmp 2),none⟩,⟨some 43,.mov (.tmp 1),none⟩,⟨some 44,.bin .sub (.tmp 42) (.tmp 43),none⟩,⟨some 45,.bin .lss (.tmp 44) (.val (.int .i64 50)),none⟩]) (.cond (.tmp 45) (.seq (.region [⟨some 8,.mov (.val (.bool false)),none⟩]) .ret) .skip)) (.seq (.dregion [⟨⟨some 46,.mov (.tmp 0),none⟩,0,0,true⟩,⟨⟨some 47,.mov (.tmp 9),none⟩,0,0,true⟩,⟨⟨some 48,.mov (.tmp 0),none⟩,0,0,true⟩,⟨⟨some 49,.mov (.tmp 9),none⟩,0,0,true⟩,⟨⟨some 50,.bin .sub (.tmp 49) (.val (.int .i64 1)),none⟩,8,0,true⟩,⟨⟨some 51,.mov (.tmp 0),none⟩,0,0,true⟩,⟨⟨some 52,.mov (.tmp 9),none⟩,0,0,true⟩,⟨⟨some 53,.bin .sub (.tmp 52) (.val (.int .i64 1)),none⟩,64,0,true⟩,⟨⟨some 54,.idxS 1 (.tmp 51) (.tmp 53),none⟩,224,0,true⟩,⟨⟨some 55,.load none (.tmp 54),none⟩,480,1,true⟩,⟨⟨some 56,.mov (.tmp 0),none⟩,0,0,true⟩,⟨⟨some 57,.mov (.tmp 9),none⟩,0,0,true⟩,⟨⟨some 58,.idxS 1 (.tmp 56) (.tmp 57),none⟩,3072,0,true⟩,⟨⟨some 59,.load none (.tmp 58),none⟩,7168,1,true⟩,⟨⟨some 60,.idxS 1 (.tmp 46) (.tmp 47),none⟩,16355,0,true⟩,⟨⟨none,.store 1 (.tmp 60) (.tmp 55),none⟩,32739,2,false⟩,⟨⟨some 61,.idxS 1 (.tmp 48) (.tmp 50),none⟩,65535,0,true⟩,⟨⟨none,.store 1 (.tmp 61) (.tmp 59),none⟩,131071,2,false⟩]) (.seq (.seq (.region [⟨some 62,.mov (.tmp 9),none⟩,⟨some 63,.mov (.tmp 1),none⟩,⟨some 64,.bin .sub (.tmp 62) (.tmp 63),none⟩,⟨some 65,.bin .geq (.tmp 64) (.val (.int .i64 2)),none⟩]) (.cond (.tmp 65) (.seq (.region [⟨some 66,.mov (.tmp 9),none⟩,⟨some 67,.bin .sub (.tmp 66) (.val (.int .i64 1)),none⟩,⟨some 11,.mov (.tmp 67),none⟩]) (.block 4 (.loop (.seq (.seq (.region [⟨some 68,.mov (.tmp 11),none⟩,⟨some 69,.bin .geq (.tmp 68) (.val (.int .i64 1)),none⟩]) (.cond (.tmp 69) .skip (.exit 4))) (.seq (.block 5 (.seq (.seq (.dregion [⟨⟨some 72,.mov (.tmp 3),none⟩,0,0,true⟩,⟨⟨some 73,.mov (.tmp 0),none⟩,0,0,true⟩,⟨⟨some 74,.mov (.tmp 11),none⟩,0,0,true⟩,⟨⟨some 75,.idxS 1 (.tmp 73) (.tmp 74),none⟩,6,0,true⟩,⟨⟨some 76,.load none (.tmp 75),none⟩,14,1,true⟩,⟨⟨some 77,.mov (.tmp 0),none⟩,0,0,true⟩,⟨⟨some 78,.mov (.tmp 11),none⟩,0,0,true⟩,⟨⟨some 79,.bin .sub (.tmp 78) (.val (.int .i64 1)),none⟩,64,0,true⟩,⟨⟨some 80,.idxS 1 (.tmp 77) (.tmp 79),none⟩,224,0,true⟩,⟨⟨some 81,.load none (.tmp 80),none⟩,480,1,true⟩,⟨⟨some 82,.call (.tmp 72) [.tmp 76,.tmp 81],none⟩,1023,2,false⟩,⟨⟨some 83,.bin .lss (.tmp 82) (.val (.int .i64 0)),none⟩,2047,0,false⟩,⟨⟨some 84,.un .not (.tmp 83),none⟩,4095,0,false⟩]) (.cond (.tmp 84) (.exit 4) .skip)) (.dregion [⟨⟨some 85,.mov (.tmp 0),none⟩,0,0,true⟩,⟨⟨some 86,.mov (.tmp 11),none⟩,0,0,true⟩,⟨⟨some 87,.mov (.tmp 0),none⟩,0,0,true⟩,⟨⟨some 88,.mov (.tmp 11),none⟩,0,0,true⟩,⟨⟨some 89,.bin .sub (.tmp 88) (.val (.int .i64 1)),none⟩,8,0,true⟩,⟨⟨some 90,.mov (.tmp 0),none⟩,0,0,true⟩,⟨⟨some 91,.mov (.tmp 11),none⟩,0,0,true⟩,⟨⟨some 92,.bin .sub (.tmp 91) (.val (.int .i64 1)),none⟩,64,0,true⟩,⟨⟨some 93,.idxS 1 (.tmp 90) (.tmp 92),none⟩,224,0,true⟩,⟨⟨some 94,.load none (.tmp 93),none⟩,480,1,true⟩,⟨⟨some 95,.mov (.tmp 0),none⟩,0,0,true⟩,⟨⟨some 96,.mov (.tmp 11),none⟩,0,0,true⟩,⟨⟨some 97,.idxS 1 (.tmp 95) (.tmp 96),none⟩,3072,0,true⟩,⟨⟨some 98,.load none (.tmp 97),none⟩,7168,1,true⟩,⟨⟨some 99,.idxS 1 (.tmp 85) (.tmp 86),none⟩,16355,0,true⟩,⟨⟨none,.store 1 (.tmp 99) (.tmp 94),none⟩,32739,2,false⟩,⟨⟨some 100,.idxS 1 (.tmp 87) (.tmp 89),none⟩,65535,0,true⟩,⟨⟨none,.store 1 (.tmp 100) (.tmp 98),none⟩,131071,2,false⟩]))) (.region [⟨some 70,.mov (.tmp 11),none⟩,⟨some 71,.bin .sub (.tmp 70) (.val (.int .i64 1)),none⟩,⟨some 11,.mov (.tmp 71),none⟩])))))) .skip)) (.seq (.region [⟨some 101,.mov (.tmp 2),none⟩,⟨some 102,.mov (.tmp 9),none⟩,⟨some 103,.bin .sub (.tmp 101) (.tmp 102),none⟩,⟨some 104,.bin .geq (.tmp 103) (.val (.int .i64 2)),none⟩]) (.cond (.tmp 104) (.seq (.region [⟨some 105,.mov (.tmp 9),none⟩,⟨some 106,.bin .add (.tmp 105) (.val (.int .i64 1)),none⟩,⟨some 12,.mov (.tmp 106),none⟩]) (.block 6 (.loop (.seq (.seq (.region [⟨some 107,.mov (.tmp 12),none⟩,⟨some 108,.mov (.tmp 2),none⟩,⟨some 109,.bin .lss (.tmp 107) (.tmp 108),none⟩]) (.cond (.tmp 109) .skip (.exit 6))) (.seq (.block 7 (.seq (.seq (.dregion [⟨⟨some 112,.mov (.tmp 3),none⟩,0,0,true⟩,⟨⟨some 113,.mov (.tmp 0),none⟩,0,0,true⟩,⟨⟨some 114,.mov (.tmp 12),none⟩,0,0,true⟩,⟨⟨some 115,.idxS 1 (.tmp 113) (.tmp 114),none⟩,6,0,true⟩,⟨⟨some 116,.load none (.tmp 115),none⟩,14,1,true⟩,⟨⟨some 117,.mov (.tmp 0),none⟩,0,0,true⟩,⟨⟨some 118,.mov (.tmp 12),none⟩,0,0,true⟩,⟨⟨some 119,.bin .sub (.tmp 118) (.val (.int .i64 1)),none⟩,64,0,true⟩,⟨⟨some 120,.idxS 1 (.tmp 117) (.tmp 119),none⟩,224,0,true⟩,⟨⟨some 121,.load none (.tmp 120),none⟩,480,1,true⟩,⟨⟨some 122,.call (.tmp 112) [.tmp 116,.tmp 121],none⟩,1023,2,false⟩,⟨⟨some 123,.bin .lss (.tmp 122) (.val (.int .i64 0)),none⟩,2047,0,false⟩,⟨⟨some 124,.un .not (.tmp 123),none⟩,4095,0,false⟩]) (.cond (.tmp 124) (.exit 6) .skip)) (.dregion [⟨⟨some 125,.mov (.tmp 0),none⟩,0,0,true⟩,⟨⟨some 126,.mov (.tmp 12),none⟩,0,0,true⟩,⟨⟨some 127,.mov (.tmp 0),none⟩,0,0,true⟩,⟨⟨some 128,.mov (.tmp 12),none⟩,0,0,true⟩,⟨⟨some 129,.bin .sub (.tmp 128) (.val (.int .i64 1)),none⟩,8,0,true⟩,⟨⟨some 130,.mov (.tmp 0),none⟩,0,0,true⟩,⟨⟨some 131,.mov (.tmp 12),none⟩,0,0,true⟩,⟨⟨some 132,.bin .sub (.tmp 131) (.val (.int .i64 1)),none⟩,64,0,true⟩,⟨⟨some 133,.idxS 1 (.tmp 130) (.tmp 132),none⟩,224,0,true⟩,⟨⟨some 134,.load none (.tmp 133),none⟩,480,1,true⟩,⟨⟨some 135,.mov (.tmp 0),none⟩,0,0,true⟩,⟨⟨some 136,.mov (.tmp 12),none⟩,0,0,true⟩,⟨⟨some 137,.idxS 1 (.tmp 135) (.tmp 136),none⟩,3072,0,true⟩,⟨⟨some 138,.load none (.tmp 137),none⟩,7168,1,true⟩,⟨⟨some 139,.idxS 1 (.tmp 125) (.tmp 126),none⟩,16355,0,true⟩,⟨⟨none,.store 1 (.tmp 139) (.tmp 134),none⟩,32739,2,false⟩,⟨⟨some 140,.idxS 1 (.tmp 127) (.tmp 129),none⟩,65535,0,true⟩,⟨⟨none,.store 1 (.tmp 140) (.tmp 138),none⟩,131071,2,false⟩]))) (.region [⟨some 110,.mov (.tmp 12),none⟩,⟨some 111,.bin .add (.tmp 110) (.val (.int .i64 1)),none⟩,⟨some 12,.mov (.tmp 111),none⟩])))))) .skip)))))))) (.region [⟨some 17,.mov (.tmp 10),none⟩,⟨some 18,.bin .add (.tmp 17) (.val (.int .i64 1)),none⟩,⟨some 10,.mov (.tmp 18),none⟩])))))) (.seq (.region [⟨some 8,.mov (.val (.bool false)),none⟩]) .ret)))),[.tmp 8]⟩
def c120 : RFunc := ⟨90,.code (.seq (.region [⟨some 10,.mov (.val (.int .i64 0)),none⟩]) (.seq (.dregion [⟨⟨some 13,.mov (.tmp 0),none⟩,0,0,true⟩,⟨⟨some 14,.mov (.tmp 1),none⟩,0,0,true⟩,⟨⟨some 15,.mov (.tmp 0),none⟩,0,0,true⟩,⟨⟨some 16,.mov (.tmp 3),none⟩,0,0,true⟩,⟨⟨some 17,.mov (.tmp 0),none⟩,0,0,true⟩,⟨⟨some 18,.mov (.tmp 3),none⟩,0,0,true⟩,⟨⟨some 19,.idxS 1 (.tmp 17) (.tmp 18),none⟩,48,0,true⟩,⟨⟨some 20,.load none (.tmp 19),none⟩,112,1,true⟩,⟨⟨some 21,.mov (.tmp 0),none⟩,0,0,true⟩,⟨⟨some 22,.mov (.tmp 1),none⟩,0,0,true⟩,⟨⟨some 23,.idxS 1 (.tmp 21) (.tmp 22),none⟩,768,0,true⟩,⟨⟨some 24,.load none (.tmp 23),none⟩,1792,1,true⟩,⟨⟨some 25,.idxS 1 (.tmp 13) (.tmp 14),none⟩,4083,0,true⟩,⟨⟨none,.store 1 (.tmp 25) (.tmp 20),none⟩,8179,2,false⟩,⟨⟨some 26,.idxS 1 (.tmp 15) (.tmp 16),none⟩,16383,0,true⟩,⟨⟨none,.store 1 (.tmp 26) (.tmp 24),none⟩,32767,2,false⟩]) (.seq (.region [⟨some 27,.mov (.tmp 1),none⟩,⟨some 28,.bin .add (.tmp 27) (.val (.int .i64 1)),none⟩,⟨some 29,.mov (.tmp 2),none⟩,⟨some 30,.bin .sub (.tmp 29) (.val (.int .i64 1)),none⟩,⟨some 11,.mov (.tmp 28),none⟩,⟨some 12,.mov (.tmp 30),none⟩]) (.seq (.block 0 (.loop (.block 1 (.seq (.block 2 (.loop (.seq (.seq (.dregion [⟨⟨some 31,.mov (.tmp 11),none⟩,0,0,true⟩,⟨⟨some 32,.mov (.tmp 12),none⟩,0,0,true⟩,⟨⟨some 33,.bin .leq (.tmp 31) (.tmp 32),none⟩,3,0,true⟩,⟨⟨some 34,.mov (.tmp 33),none⟩,7,0,true⟩,⟨⟨some 35,.mov (.tmp 4),some (34,true)⟩,15,0,true⟩,⟨⟨some 36,.mov (.tmp 0),some (34,true)⟩,15,0,true⟩,⟨⟨some 37,.mov (.tmp 1),some (34,true)⟩,15,0,true⟩,⟨⟨some 38,.idxS 1 (.tmp 36) (.tmp 37),some (34,true)⟩,111,0,true⟩,⟨⟨some 39,.load none (.tmp 38),some (34,true)⟩,239,1,true⟩,⟨⟨some 40,.mov (.tmp 0),some (34,true)⟩,15,0,true⟩,⟨⟨some 41,.mov (.tmp 11),some (34,true)⟩,15,0,true⟩,⟨⟨some 42,.idxS 1 (.tmp 40) (.tmp 41),some (34,true)⟩,1551,0,true⟩,⟨⟨some 43,.load none (.tmp 42),some (34,true)⟩,3599,1,true⟩,⟨⟨some 44,.call (.tmp 35) [.tmp 39,.tmp 43],some (34,true)⟩,8191,2,false⟩,⟨⟨some 45,.bin .lss (.tmp 44) (.val (.int .i64 0)),some (34,true)⟩,16383,0,false⟩,⟨⟨some 46,.un .not (.tmp 45),some (34,true)⟩,32767,0,false⟩,⟨⟨some 47,.pick (.tmp 34) (.tmp 46) (.val (.bool false)),none⟩,65535,0,false⟩]) (.cond (.tmp 47) .skip (.exit 2))) (.block 3 (.region [⟨some 48,.mov (.tmp 11),none⟩,⟨some 49,.bin .add (.tmp 48) (.val (.int .i64 1)),none⟩,⟨some 11,.mov (.tmp 49),none⟩]))))) (.seq (.block 4 (.loop (.seq (.seq (.dregion [⟨⟨some 50,.mov (.tmp 11),none⟩,0,0,true⟩,⟨⟨some 51,.mov (.tmp 12),none⟩,0,0,true⟩,⟨⟨some 52,.bin .leq (.tmp 50) (.tmp 51),none⟩,3,0,true⟩,⟨⟨some 53,.mov (.tmp 52),none⟩,7,0,true⟩,⟨⟨some 54,.mov (.tmp 4),some (53,true)⟩,15,0,true⟩,⟨⟨some 55,.mov (.tmp 0),some (53,true)⟩,15,0,true⟩,⟨⟨some 56,.mov (.tmp 1),some (53,true)⟩,15,0,true⟩,⟨⟨some 57,.idxS 1 (.tmp 55) (.tmp 56),some (53,true)⟩,111,0,true⟩,⟨⟨some 58,.load none (.tmp 57),some (53,true)⟩,239,1,true⟩,⟨⟨some 59,.mov (.tmp 0),some (53,true)⟩,15,0,true⟩,⟨⟨some 60,.mov (.tmp 12),some (53,true)⟩,15,0,true⟩,⟨⟨some 61,.idxS 1 (.tmp 59) (.tmp 60),some (53,true)⟩,1551,0,true⟩,⟨⟨some 62,.load none (.tmp 61),some (53,true)⟩,3599,1,true⟩,⟨⟨some 63,.call (.tmp 54) [.tmp 58,.tmp 62],some (53,true)⟩,8191,2,false⟩,⟨⟨some 64,.bin .lss (.tmp 63) (.val (.int .i64 0)),some (53,true)⟩,16383,0,false⟩,⟨⟨some 65,.pick (.tmp 53) (.tmp 64) (.val (.bool false)),none⟩,32767,0,false⟩]) (.cond (.tmp 65) .skip (.exit 4))) (.block 5 (.region [⟨some 66,.mov (.tmp 12),none⟩,⟨some 67,.bin .sub (.tmp 66) (.val (.int .i64 1)),none⟩,⟨some 12,.mov (.tmp 67),none⟩]))))) (.seq (.seq (.region [⟨some 68,.mov (.tmp 11),none⟩,⟨some 69,.mov (.tmp 12),none⟩,⟨some 70,.bin .gtr (.tmp 68) (.tmp 69),none⟩]) (.cond (.tmp 70) (.exit 0) .skip)) (.seq (.dregion [⟨⟨some 71,.mov (.tmp 0),none⟩,0,0,true⟩,⟨⟨some 72,.mov (.tmp 11),none⟩,0,0,true⟩,⟨⟨some 73,.mov (.tmp 0),none⟩,0,0,true⟩,⟨⟨some 74,.mov (.tmp 12),none⟩,0,0,true⟩,⟨⟨some 75,.mov (.tmp 0),none⟩,0,0,true⟩,⟨⟨some 76,.mov (.tmp 12),none⟩,0,0,true⟩,⟨⟨some 77,.idxS 1 (.tmp 75) (.tmp 76),none⟩,48,0,true⟩,⟨⟨some 78,.load none (.tmp 77),none⟩,112,1,true⟩,⟨⟨some 79,.mov (.tmp 0),none⟩,0,0,true⟩,⟨⟨some 80,.mov (.tmp 11),none⟩,0,0,true⟩,⟨⟨some 81,.idxS 1 (.tmp 79) (.tmp 80),none⟩,768,0,true⟩,⟨⟨some 82,.load none (.tmp 81),none⟩,1792,1,true⟩,⟨⟨some 83,.idxS 1 (.tmp 71) (.tmp 72),none⟩,4083,0,true⟩,⟨⟨none,.store 1 (.tmp 83) (.tmp 78),none⟩,8179,2,false⟩,⟨⟨some 84,.idxS 1 (.tmp 73) (.tmp 74),none⟩,16383,0,true⟩,⟨⟨none,.store 1 (.tmp 84) (.tmp 82),none⟩,32767,2,false⟩]) (.seq (.region [⟨some 85,.mov (.tmp 11),none⟩,⟨some 86,.bin .add (.tmp 85) (.val (.int .i64 1)),none⟩,⟨some 11,.mov (.tmp 86),none⟩]) (.region [⟨some 87,.mov (.tmp 12),none⟩,⟨some 88,.bin .sub (.tmp 87) (.val (.int .i64 1)),none⟩,⟨some 12,.mov (.tmp 88),none⟩]))))))))) (.seq (.region [⟨some 89,.mov (.tmp 11),none⟩,⟨some 10,.mov (.tmp 89),none⟩]) .ret))))),[.tmp 10]⟩
def c121 : RFunc := ⟨178,.code (.seq (.region [⟨some 10,.mov (.val (.int .i64 0)),none⟩,⟨some 11,.mov (.val (.bool false)),none⟩]) (.seq (.dregion [⟨⟨some 14,.mov (.tmp 0),none⟩,0,0,true⟩,⟨⟨some 15,.mov (.tmp 1),none⟩,0,0,true⟩,⟨⟨some 16,.mov (.tmp 0),none⟩,0,0,true⟩,⟨⟨some 17,.mov (.tmp 3),none⟩,0,0,true⟩,⟨⟨some 18,.mov (.tmp 0),none⟩,0,0,true⟩,⟨⟨some 19,.mov (.tmp 3),none⟩,0,0,true⟩,⟨⟨some 20,.idxS 1 (.tmp 18) (.tmp 19),none⟩,48,0,true⟩,⟨⟨some 21,.load none (.tmp 20),none⟩,112,1,true⟩,⟨⟨some 22,.mov (.tmp 0),none⟩,0,0,true⟩,⟨⟨some 23,.mov (.tmp 1),none⟩,0,0,true⟩,⟨⟨some 24,.idxS 1 (.tmp 22) (.tmp 23),none⟩,768,0,true⟩,⟨⟨some 25,.load none (.tmp 24),none⟩,1792,1,true⟩,⟨⟨some 26,.idxS 1 (.tmp 14) (.tmp 15),none⟩,4083,0,true⟩,⟨⟨none,.store 1 (.tmp 26) (.tmp 21),none⟩,8179,2,false⟩,⟨⟨some 27,.idxS 1 (.tmp 16) (.tmp 17),none⟩,16383,0,true⟩,⟨⟨none,.store 1 (.tmp 27) (.tmp 25),none⟩,32767,2,false⟩]) (.seq (.region [⟨some 28,.mov (.tmp 1),none⟩,⟨some 29,.bin .add (.tmp 28) (.val (.int .i64 1)),none⟩,⟨some 30,.mov (.tmp 2),none⟩,⟨some 31,.bin .sub (.tmp 30) (.val (.int .i64 1)),none⟩,⟨some 12,.mov (.tmp 29),none⟩,⟨some 13,.mov (.tmp 31),none⟩]) (.seq (.block 0 (.loop (.seq (.seq (.dregion [⟨⟨some 32,.mov (.tmp 12),none⟩,0,0,true⟩,⟨⟨some 33,.mov (.tmp 13),none⟩,0,0,true⟩,⟨⟨some 34,.bin .leq (.tmp 32) (.tmp 33),none⟩,3,0,true⟩,⟨⟨some 35,.mov (.tmp 34),none⟩,7,0,true⟩,⟨⟨some 36,.mov (.tmp 4),some (35,true)⟩,15,0,true⟩,⟨⟨some 37,.mov (.tmp 0),some (35,true)⟩,15,0,true⟩,⟨⟨some 38,.mov (.tmp 12),some (35,true)⟩,15,0,true⟩,⟨⟨some 39,.idxS 1 (.tmp 37) (.tmp 38),some (35,true)⟩,111,0,true⟩,⟨⟨some 40,.load none (.tmp 39),some (35,true)⟩,239,1,true⟩,⟨⟨some 41,.mov (.tmp 0),some (35,true)⟩,15,0,true⟩,⟨⟨some 42,.mov (.tmp 1),some (35,true)⟩,15,0,true⟩,⟨⟨some 43,.idxS 1 (.tmp 41) (.tmp 42),some (35,true)⟩,1551,0,true⟩,⟨⟨some 44,.load none (.tmp 43),some (35,true)⟩,3599,1,true⟩,⟨⟨some 45,.call (.tmp 36) [.tmp 40,.tmp 44],some (35,true)⟩,8191,2,false⟩,⟨⟨some 46,.bin .lss (.tmp 45) (.val (.int .i64 0)),some (35,true)⟩,16383,0,false⟩,⟨⟨some 47,.pick (.tmp 35) (.tmp 46) (.val (.bool false)),none⟩,32767,0,false⟩]) (.cond (.tmp 47) .skip (.exit 0))) (.block 1 (.region [⟨some 48,.mov (.tmp 12),none⟩,⟨some 49,.bin .add (.tmp 48) (.val (.int .i64 1)),none⟩,⟨some 12,.mov (.tmp 49),none⟩]))))) (.seq (.block 2 (.loop (.seq (.seq (.dregion [⟨⟨some 50,.mov (.tmp 12),none⟩,0,0,true⟩,⟨⟨some 51,.mov (.tmp 13),none⟩,0,0,true⟩,⟨⟨some 52,.bin .leq (.tmp 50) (.tmp 51),none⟩,3,0,true⟩,⟨⟨some 53,.mov (.tmp 52),none⟩,7,0,true⟩,⟨⟨some 54,.mov (.tmp 4),some (53,true)⟩,15,0,true⟩,⟨⟨some 55,.mov (.tmp 0),some (53,true)⟩,15,0,true⟩,⟨⟨some 56,.mov (.tmp 13),some (53,true)⟩,15,0,true⟩,⟨⟨some 57,.idxS 1 (.tmp 55) (.tmp 56),some (53,true)⟩,111,0,true⟩,⟨⟨some 58,.load none (.tmp 57),some (53,true)⟩,239,1,true⟩,⟨⟨some 59,.mov (.tmp 0),some (53,true)⟩,15,0,true⟩,⟨⟨some 60,.mov (.tmp 1),some (53,true)⟩,15,0,true⟩,⟨⟨some 61,.idxS 1 (.tmp 59) (.tmp 60),some (53,true)⟩,1551,0,true⟩,⟨⟨some 62,.load none (.tmp 61),some (53,true)⟩,3599,1,true⟩,⟨⟨some 63,.call (.tmp 54) [.tmp 58,.tmp 62],some (53,true)⟩,8191,2,false⟩,⟨⟨some 64,.bin .lss (.tmp 63) (.val (.int .i64 0)),some (53,true)⟩,16383,0,false⟩,⟨⟨some 65,.un .not (.tmp 64),some (53,true)⟩,32767,0,false⟩,⟨⟨some 66,.pick (.tmp 53) (.tmp 65) (.val (.bool false)),none⟩,65535,0,false⟩]) (.cond (.tmp 66) .skip (.exit 2))) (.block 3 (.region [⟨some 67,.mov (.tmp 13),none⟩,⟨some 68,.bin .sub (.tmp 67) (.val (.int .i64 1)),none⟩,⟨some 13,.mov (.tmp 68),none⟩]))))) (.seq (.seq (.region [⟨some 69,.mov (.tmp 12),none⟩,⟨some 70,.mov (.tmp 13),none⟩,⟨some 71,.bin .gtr (.tmp 69) (.tmp 70),none⟩]) (.cond (.tmp 71) (.seq (.dregion [⟨⟨some 72,.mov (.tmp 0),none⟩,0,0,true⟩,⟨⟨some 73,.mov (.tmp 13),none⟩,0,0,true⟩,⟨⟨some 74,.mov (.tmp 0),none⟩,0,0,true⟩,⟨⟨some 75,.mov (.tmp 1),none⟩,0,0,true⟩,⟨⟨some 76,.mov (.tmp 0),none⟩,0,0,true⟩,⟨⟨some 77,.mov (.tmp 1),none⟩,0,0,true⟩,⟨⟨some 78,.idxS 1 (.tmp 76) (.tmp 77),none⟩,48,0,true⟩,⟨⟨some 79,.load none (.tmp 78),none⟩,112,1,true⟩,⟨⟨some 80,.mov (.tmp 0),none⟩,0,0,true⟩,⟨⟨some 81,.mov (.tmp 13),none⟩,0,0,true⟩,⟨⟨some 82,.idxS 1 (.tmp 80) (.tmp 81),none⟩,768,0,true⟩,⟨⟨some 83,.load none (.tmp 82),none⟩,1792,1,true⟩,⟨⟨some 84,.idxS 1 (.tmp 72) (.tmp 73),none⟩,4083,0,true⟩,⟨⟨none,.store 1 (.tmp 84) (.tmp 79),none⟩,8179,2,false⟩,⟨⟨some 85,.idxS 1 (.tmp 74) (.tmp 75),none⟩,16383,0,true⟩,⟨⟨none,.store 1 (.tmp 85) (.tmp 83),none⟩,32767,2,false⟩]) (.seq (.region [⟨some 86,.mov (.tmp 13),none⟩,⟨some 10,.mov (.tmp 86),none⟩,⟨some 11,.mov (.val (.bool true)),none⟩]) .ret)) .skip)) (.seq (.dregion [⟨⟨some 87,.mov (.tmp 0),none⟩,0,0,true⟩,⟨⟨some 88,.mov (.tmp 12),none⟩,0,0,true⟩,⟨⟨some 89,.mov (.tmp 0),none⟩,0,0,true⟩,⟨⟨some 90,.mov (.tmp 13),none⟩,0,0,true⟩,⟨⟨some 91,.mov (.tmp 0),none⟩,0,0,true⟩,⟨⟨some 92,.mov (.tmp 13),none⟩,0,0,true⟩,⟨⟨some 93,.idxS 1 (.tmp 91) (.tmp 92),none⟩,48,0,true⟩,⟨⟨some 94,.load none (.tmp 93),none⟩,112,1,true⟩,⟨⟨some 95,.mov (.tmp 0),none⟩,0,0,true⟩,⟨⟨some 96,.mov (.tmp 12),none⟩,0,0,true⟩,⟨⟨some 97,.idxS 1 (.tmp 95) (.tmp 96),none⟩,768,0,true⟩,⟨⟨some 98,.load none (.tmp 97),none⟩,1792,1,true⟩,⟨⟨some 99,.idxS 1 (.tmp 87) (.tmp 88),none⟩,4083,0,true⟩,⟨⟨none,.store 1 (.tmp 99) (.tmp 94),none⟩,8179,2,false⟩,⟨⟨some 100,.idxS 1 (.tmp 89) (.tmp 90),none⟩,16383,0,true⟩,⟨⟨none,.store 1 (.tmp 100) (.tmp 98),none⟩,32767,2,false⟩]) (.seq (.region [⟨some 101,.mov (.tmp 12),none⟩,⟨some 102,.bin .add (.tmp 101) (.val (.int .i64 1)),none⟩,⟨some 12,.mov (.tmp 102),none⟩]) (.seq (.region [⟨some 103,.mov (.tmp 13),none⟩,⟨some 104,.bin .sub (.tmp 103) (.val (.int .i64 1)),none⟩,⟨some 13,.mov (.tmp 104),none⟩]) (.seq (.block 4 (.loop (.block 5 (.seq (.block 6 (.loop (.seq (.seq (.dregion [⟨⟨some 105,.mov (.tmp 12),none⟩,0,0,true⟩,⟨⟨some 106,.mov (.tmp 13),none⟩,0,0,true⟩,⟨⟨some 107,.bin .leq (.tmp 105) (.tmp 106),none⟩,3,0,true⟩,⟨⟨some 108,.mov (.tmp 107),none⟩,7,0,true⟩,⟨⟨some 109,.mov (.tmp 4),some (108,true)⟩,15,0,true⟩,⟨⟨some 110,.mov (.tmp 0),some (108,true)⟩,15,0,true⟩,⟨⟨some 111,.mov (.tmp 12),some (108,true)⟩,15,0,true⟩,⟨⟨some 112,.idxS 1 (.tmp 110) (.tmp 111),some (108,true)⟩,111,0,true⟩,⟨⟨some 113,.load none (.tmp 112),some (108,true)⟩,239,1,true⟩,⟨⟨some 114,.mov (.tmp 0),some (108,true)⟩,15,0,true⟩,⟨⟨some 115,.mov (.tmp 1),some (108,true)⟩,15,0,true⟩,⟨⟨some 116,.idxS 1 (.tmp 114) (.tmp 115),some (108,true)⟩,1551,0,true⟩,⟨⟨some 117,.load none (.tmp 116),some (108,true)⟩,3599,1,true⟩,⟨⟨some 118,.call (.tmp 109) [.tmp 113,.tmp 117],some (108,true)⟩,8191,2,false⟩,⟨⟨some 119,.bin .lss (.tmp 118) (.val (.int .i64 0)),some (108,true)⟩,16383,0,false⟩,⟨⟨some 120,.pick (.tmp 108) (.tmp 119) (.val (.bool false)),none⟩,32767,0,false⟩]) (.cond (.tmp 120) .skip (.exit 6))) (.block 7 (.region [⟨some 121,.mov (.tmp 12),none⟩,⟨some 122,.bin .add (.tmp 121) (.val (.int .i64 1)),none⟩,⟨some 12,.mov (.tmp 122),none⟩]))))) (.seq (.block 8 (.loop (.seq (.seq (.dregion [⟨⟨some 123,.mov (.tmp 12),none⟩,0,0,true⟩,⟨⟨some 124,.mov (.tmp 13),none⟩,0,0,true⟩,⟨⟨some 125,.bin .leq (.tmp 123) (.tmp 124),none⟩,3,0,true⟩,⟨⟨some 126,.mov (.tmp 125),none⟩,7,0,true⟩,⟨⟨some 127,.mov (.tmp 4),some (126,true)⟩,15,0,true⟩,⟨⟨some 128,.mov (.tmp 0),some (126,true)⟩,15,0,true⟩,⟨⟨some 129,.mov (.tmp 13),some (126,true)⟩,15,0,true⟩,⟨⟨some 130,.idxS 1 (.tmp 128) (.tmp 129),some (126,true)⟩,111,0,true⟩,⟨⟨some 131,.load none (.tmp 130),some (126,true)⟩,239,1,true⟩,⟨⟨some 132,.mov (.tmp 0),some (126,true)⟩,15,0,true⟩,⟨⟨some 133,.mov (.tmp 1),some (126,true)⟩,15,0,true⟩,⟨⟨some 134,.idxS 1 (.tmp 132) (.tmp 133),some (126,true)⟩,1551,0,true⟩,⟨⟨some 135,.load none (.tmp 134),some (126,true)⟩,3599,1,true⟩,⟨⟨some 136,.call (.tmp 127) [.tmp 131,.tmp 135],some (126,true)⟩,8191,2,false⟩,⟨⟨some 137,.bin .lss (.tmp 136) (.val (.int .i64 0)),some (126,true)⟩,16383,0,false⟩,⟨⟨some 138,.un .not (.tmp 137),some (126,true)⟩,32767,0,false⟩,⟨⟨some 139,.pick (.tmp 126) (.tmp 138) (.val (.bool false)),none⟩,65535,0,false⟩]) (.cond (.tmp 139) .skip (.exit 8))) (.block 9 (.region [⟨some 140,.mov (.tmp 13),none⟩,⟨some 141,.bin .sub (.tmp 140) (.val (.int .i64 1)),none⟩,⟨some 13,.mov (.tmp 141),none⟩]))))) (.seq (.seq (.region [⟨some 142,.mov (.tmp 12),none⟩,⟨some 143,.mov (.tmp 13),none⟩,⟨some 144,.bin .gtr (.tmp 142) (.tmp 143),none⟩]) (.cond (.tmp 144) (.exit 4) .skip)) (.seq (.dregion [⟨⟨some 145,.mov (.tmp 0),none⟩,0,0,true⟩,⟨⟨some 146,.mov (.tmp 12),none⟩,0,0,true⟩,⟨⟨some 147,.mov (.tmp 0),none⟩,0,0,true⟩,⟨⟨some 148,.mov (.tmp 13),none⟩,0,0,true⟩,⟨⟨some 149,.mov (.tmp 0),none⟩,0,0,true⟩,⟨⟨some 150,.mov (.tmp 13),none⟩,0,0,true⟩,⟨⟨some 151,.idxS 1 (.tmp 149) (.tmp 150),none⟩,48,0,true⟩,⟨⟨some 152,.load none (.tmp 151),none⟩,112,1,true⟩,⟨⟨some 153,.mov (.tmp 0),none⟩,0,0,true⟩,⟨⟨some 154,.mov (.tmp 12),none⟩,0,0,true⟩,⟨⟨some 155,.idxS 1 (.tmp 153) (.tmp 154),none⟩,768,0,true⟩,⟨⟨some 156,.load none (.tmp 155),none⟩,1792,1,true⟩,⟨⟨some 157,.idxS 1 (.tmp 145) (.tmp 146),none⟩,4083,0,true⟩,⟨⟨none,.store 1 (.tmp 157) (.tmp 152),none⟩,8179,2,false⟩,⟨⟨some 158,.idxS 1 (.tmp 147) (.tmp 148),none⟩,16383,0,true⟩,⟨⟨none,.store 1 (.tmp 158) (.tmp 156),none⟩,32767,2,false⟩]) (.seq (.region [⟨some 159,.mov (.tmp 12),none⟩,⟨some 160,.bin .add (.tmp 159) (.val (.int .i64 1)),none⟩,⟨some 12,.mov (.tmp 160),none⟩]) (.region [⟨some 161,.mov (.tmp 13),none⟩,⟨some 162,.bin .sub (.tmp 161) (.val (.int .i64 1)),none⟩,⟨some 13,.mov (.tmp 162),none⟩]))))))))) (.seq (.dregion [⟨⟨some 163,.mov (.tmp 0),none⟩,0,0,true⟩,⟨⟨some 164,.mov (.tmp 13),none⟩,0,0,true⟩,⟨⟨some 165,.mov (.tmp 0),none⟩,0,0,true⟩,⟨⟨some 166,.mov (.tmp 1),none⟩,0,0,true⟩,⟨⟨some 167,.mov (.tmp 0),none⟩,0,0,true⟩,⟨⟨some 168,.mov (.tmp 1),none⟩,0,0,true⟩,⟨⟨some 169,.idxS 1 (.tmp 167) (.tmp 168),none⟩,48,0,true⟩,⟨⟨some 170,.load none (.tmp 169),none⟩,112,1,true⟩,⟨⟨some 171,.mov (.tmp 0),none⟩,0,0,true⟩,⟨⟨some 172,.mov (.tmp 13),none⟩,0,0,true⟩,⟨⟨some 173,.idxS 1 (.tmp 171) (.tmp 172),none⟩,768,0,true⟩,⟨⟨some 174,.load none (.tmp 173),none⟩,1792,1,true⟩,⟨⟨some 175,.idxS 1 (.tmp 163) (.tmp 164),none⟩,4083,0,true⟩,⟨⟨none,.store 1 (.tmp 175) (.tmp 170),none⟩,8179,2,false⟩,⟨⟨some 176,.idxS 1 (.tmp 165) (.tmp 166),none⟩,16383,0,true⟩,⟨⟨none,.store 1 (.tmp 176) (.tmp 174),none⟩,32767,2,false⟩]) (.seq (.region [⟨some 177,.mov (.tmp 13),none⟩,⟨some 10,.mov (.tmp 177),none⟩,⟨some 11,.mov (.val (.bool false)),none⟩]) .ret)))))))))))),[.tmp 10,.tmp 11]⟩
def c122 : RFunc := ⟨19,.code (.seq (.region [⟨some 2,.mov (.val (.int .i64 0)),none⟩]) (.seq (.seq (.region [⟨some 3,.mov (.tmp 0),none⟩,⟨some 4,.bin .geq (.tmp 3) (.val (.int .u32 65536)),none⟩]) (.cond (.tmp 4) (.seq (.region [⟨some 5,.mov (.tmp 0),none⟩,⟨some 6,.bin .shr (.tmp 5) (.val (.int .u64 16)),none⟩,⟨some 0,.mov (.tmp 6),none⟩]) (.region [⟨some 2,.mov (.val (.int .i64 16)),none⟩])) .skip)) (.seq (.seq (.region [⟨some 7,.mov (.tmp 0),none⟩,⟨some 8,.bin .geq (.tmp 7) (.val (.int .u32 256)),none⟩]) (.cond (.tmp 8) (.seq (.region [⟨some 9,.mov (.tmp 0),none⟩,⟨some 10,.bin .shr (.tmp 9) (.val (.int .u64 8)),none⟩,⟨some 0,.mov (.tmp 10),none⟩]) (.region [⟨some 11,.mov (.tmp 2),none⟩,⟨some 12,.bin .add (.tmp 11) (.val (.int .i64 8)),none⟩,⟨some 2,.mov (.tmp 12),none⟩])) .skip)) (.seq (.region [⟨some 13,.mov (.tmp 2),none⟩,⟨some 14,.mov (.tmp 0),none⟩,⟨some 15,.convInt .u8 (.tmp 14),none⟩,⟨some 16,.indexStr (.val (.str ⟨#[0,1,2,2,3,3,3,3,4,4,4,4,4,4,4,4,5,5,5,5,5,5,5,5,5,5,5,5,5,5,5,5,6,6,6,6,6,6,6,6,6,6,6,6,6,6,6,6,6,6,6,6,6,6,6,6,6,6,6,6,6,6,6,6,7,7,7,7,7,7,7,7,7,7,7,7,7,7,7,7,7,7,7,7,7,7,7,7,7,7,7,7,7,7,7,7,7,7,7,7,7,7,7,7,7,7,7,7,7,7,7,7,7,7,7,7,7,7,7,7,7,7,7,7,7,7,7,7,8,8,8,8,8,8,8,8,8,8,8,8,8,8,8,8,8,8,8,8,8,8,8,8,8,8,8,8,8,8,8,8,8,8,8,8,8,8,8,8,8,8,8,8,8,8,8,8,8,8,8,8,8,8,8,8,8,8,8,8,8,8,8,8,8,8,8,8,8,8,8,8,8,8,8,8,8,8,8,8,8,8,8,8,8,8,8,8,8,8,8,8,8,8,8,8,8,8,8,8,8,8,8,8,8,8,8,8,8,8,8,8,8,8,8,8,8,8,8,8,8,8,8,8,8,8,8,8]⟩)) (.tmp 15),none⟩,⟨some 17,.convInt .i64 (.tmp 16),none⟩,⟨some 18,.bin .add (.tmp 13) (.tmp 17),none⟩,⟨some 2,.mov (.tmp 18),none⟩]) .ret)))),[.tmp 2]⟩
def c123 : RFunc := ⟨25,.code (.seq (.region [⟨some 2,.mov (.val (.int .i64 0)),none⟩]) (.seq (.seq (.region [⟨some 3,.mov (.tmp 0),none⟩,⟨some 4,.bin .geq (.tmp 3) (.val (.int .u64 4294967296)),none⟩]) (.cond (.tmp 4) (.seq (.region [⟨some 5,.mov (.tmp 0),none⟩,⟨some 6,.bin .shr (.tmp 5) (.val (.int .u64 32)),none⟩,⟨some 0,.mov (.tmp 6),none⟩]) (.region [⟨some 2,.mov (.val (.int .i64 32)),none⟩])) .skip)) (.seq (.seq (.region [⟨some 7,.mov (.tmp 0),none⟩,⟨some 8,.bin .geq (.tmp 7) (.val (.int .u64 65536)),none⟩]) (.cond (.tmp 8) (.seq (.region [⟨some 9,.mov (.tmp 0),none⟩,⟨some 10,.bin .shr (.tmp 9) (.val (.int .u64 16)),none⟩,⟨some 0,.mov (.tmp 10),none⟩]) (.region [⟨some 11,.mov (.tmp 2),none⟩,⟨some 12,.bin .add (.tmp 11) (.val (.int .i64 16)),none⟩,⟨some 2,.mov (.tmp 12),none⟩])) .skip)) (.seq (.seq (.region [⟨some 13,.mov (.tmp 0),none⟩,⟨some 14,.bin .geq (.tmp 13) (.val (.int .u64 256)),none⟩]) (.cond (.tmp 14) (.seq (.region [⟨some 15,.mov (.tmp 0),none⟩,⟨some 16,.bin .shr (.tmp 15) (.val (.int .u64 8)),none⟩,⟨some 0,.mov (.tmp 16),none⟩]) (.region [⟨some 17,.mov (.tmp 2),none⟩,⟨some 18,.bin .add (.tmp 17) (.val (.int .i64 8)),none⟩,⟨some 2,.mov (.tmp 18),none⟩])) .skip)) (.seq (.region [⟨some 19,.mov (.tmp 2),none⟩,⟨some 20,.mov (.tmp 0),none⟩,⟨some 21,.convInt .u8 (.tmp 20),none⟩,⟨some 22,.indexStr (.val (.str ⟨#[0,1,2,2,3,3,3,3,4,4,4,4,4,4,4,4,5,5,5,5,5,5,5,5,5,5,5,5,5,5,5,5,6,6,6,6,6,6,6,6,6,6,6,6,6,6,6,6,6,6,6,6,6,6,6,6,6,6,6,6,6,6,6,6,7,7,7,7,7,7,7,7,7,7,7,7,7,7,7,7,7,7,7,7,7,7,7,7,7,7,7,7,7,7,7,7,7,7,7,7,7,7,7,7,7,7,7,7,7,7,7,7,7,7,7,7,7,7,7,7,7,7,7,7,7,7,7,7,8,8,8,8,8,8,8,8,8,8,8,8,8,8,8,8,8,8,8,8,8,8,8,8,8,8,8,8,8,8,8,8,8,8,8,8,8,8,8,8,8,8,8,8,8,8,8,8,8,8,8,8,8,8,8,8,8,8,8,8,8,8,8,8,8,8,8,8,8,8,8,8,8,8,8,8,8,8,8,8,8,8,8,8,8,8,8,8,8,8,8,8,8,8,8,8,8,8,8,8,8,8,8,8,8,8,8,8,8,8,8,8,8,8,8,8,8,8,8,8,8,8,8,8,8,8,8,8]⟩)) (.tmp 21),none⟩,⟨some 23,.convInt .i64 (.tmp 22),none⟩,⟨some 24,.bin .add (.tmp 19) (.tmp 23),none⟩,⟨some 2,.mov (.tmp 24),none⟩]) .ret))))),[.tmp 2]⟩
def c127 : RFunc := ⟨10,.code (.seq (.region [⟨some 2,.mov (.val (.int .i64 0)),none⟩]) (.seq (.seq .fail (.block 0 (.loop (.seq .fail (.seq (.cond (.tmp 6) .skip (.exit 0)) (.block 1 (.region [⟨some 7,.mov (.tmp 2),none⟩,⟨some 8,.bin .add (.tmp 7) (.val (.int .i64 1)),none⟩,⟨some 2,.mov (.tmp 8),none⟩]))))))) (.seq (.region [⟨some 9,.mov (.tmp 2),none⟩,⟨some 2,.mov (.tmp 9),none⟩]) .ret))),[.tmp 2]⟩
def c128 : RFunc := ⟨8,.code (.seq (.region [⟨some 4,.mov (.val (.int .i64 0)),none⟩]) (.seq (.region [⟨some 5,.mov (.tmp 0),none⟩,⟨some 6,.mov (.tmp 1),none⟩,⟨some 7,.call (.val (.func (.func 140) [] [])) [.tmp 5,.tmp 6],none⟩,⟨some 4,.mov (.tmp 7),none⟩]) .ret)),[.tmp 4]⟩
def c129 : RFunc := ⟨10,.code (.seq (.region [⟨some 4,.mov (.val (.bool false)),none⟩]) (.seq (.region [⟨some 5,.mov (.tmp 0),none⟩,⟨some 6,.bytesToStr (.tmp 5),none⟩,⟨some 7,.mov (.tmp 1),none⟩,⟨some 8,.bytesToStr (.tmp 7),none⟩,⟨some 9,.bin .eql (.tmp 6) (.tmp 8),none⟩,⟨some 4,.mov (.tmp 9),none⟩]) .ret)),[.tmp 4]⟩
def c131 : RFunc := ⟨6,.code (.seq (.region [⟨some 2,.mov (.val (.int .i64 0)),none⟩]) (.seq (.region [⟨some 3,.mov (.tmp 0),none⟩,⟨some 4,.bin .add (.tmp 3) (.val (.int .i64 16)),none⟩,⟨some 5,.bin .quo (.tmp 4) (.val (.int .i64 8)),none⟩,⟨some 2,.mov (.tmp 5),none⟩]) .ret)),[.tmp 2]⟩
def c132 : RFunc := ⟨88,.code (.seq (.region [⟨some 4,.mov (.val (.int .i64 0)),none⟩]) (.seq (.region [⟨some 12,.mov (.tmp 1),none⟩,⟨some 13,.call (.val (.func (.func 141) [] [])) [.tmp 12],none⟩,⟨some 11,.mov (.tmp 13),none⟩,⟨some 14,.extract (.tmp 11) 0,none⟩,⟨some 15,.extract (.tmp 11) 1,none⟩,⟨some 5,.mov (.tmp 14),none⟩,⟨some 6,.mov (.tmp 15),none⟩]) (.seq (.region [⟨some 16,.mov (.tmp 1),none⟩,⟨some 17,.lenS (.tmp 16),none⟩,⟨some 7,.mov (.tmp 17),none⟩]) (.seq (.region [⟨some 8,.mov (.val (.int .u32 0)),none⟩]) (.seq (.seq (.region [⟨some 9,.mov (.val (.int .i64 0)),none⟩]) (.block 0 (.loop (.seq (.seq (.region [⟨some 18,.mov (.tmp 9),none⟩,⟨some 19,.mov (.tmp 7),none⟩,⟨some 20,.bin .lss (.tmp 18) (.tmp 19),none⟩]) (.cond (.tmp 20) .skip (.exit 0))) (.seq (.block 1 (.region [⟨some 23,.mov (.tmp 8),none⟩,⟨some 24,.bin .mul (.tmp 23) (.val (.int .u32 16777619)),none⟩,⟨some 25,.mov (.tmp 0),none⟩,⟨some 26,.mov (.tmp 9),none⟩,⟨some 27,.idxS 1 (.tmp 25) (.tmp 26),none⟩,⟨some 28,.load none (.tmp 27),none⟩,⟨some 29,.convInt .u32 (.tmp 28),none⟩,⟨some 30,.bin .add (.tmp 24) (.tmp 29),none⟩,⟨some 8,.mov (.tmp 30),none⟩])) (.region [⟨some 21,.mov (.tmp 9),none⟩,⟨some 22,.bin .add (.tmp 21) (.val (.int .i64 1)),none⟩,⟨some 9,.mov (.tmp 22),none⟩])))))) (.seq (.seq (.dregion [⟨⟨some 31,.mov (.tmp 8),none⟩,0,0,true⟩,⟨⟨some 32,.mov (.tmp 5),none⟩,0,0,true⟩,⟨⟨some 33,.bin .eql (.tmp 31) (.tmp 32),none⟩,3,0,true⟩,⟨⟨some 34,.mov (.tmp 33),none⟩,7,0,true⟩,⟨⟨some 35,.mov (.tmp 0),some (34,true)⟩,15,0,true⟩,⟨⟨some 36,.mov (.tmp 7),some (34,true)⟩,15,0,true⟩,⟨⟨some 37,.sliceS 1 (.tmp 35) none (some (.tmp 36)) none,some (34,true)⟩,63,1,true⟩,⟨⟨some 38,.bytesToStr (.tmp 37),some (34,true)⟩,127,1,true⟩,⟨⟨some 39,.mov (.tmp 1),some (34,true)⟩,15,0,true⟩,⟨⟨some 40,.bytesToStr (.tmp 39),some (34,true)⟩,271,1,true⟩,⟨⟨some 41,.bin .eql (.tmp 38) (.tmp 40),some (34,true)⟩,1023,0,true⟩,⟨⟨some 42,.pick (.tmp 34) (.tmp 41) (.val (.bool false)),none⟩,2047,0,true⟩]) (.cond (.tmp 42) (.seq (.region [⟨some 4,.mov (.val (.int .i64 0)),none⟩]) .ret) .skip)) (.seq (.seq (.region [⟨some 43,.mov (.tmp 7),none⟩,⟨some 10,.mov (.tmp 43),none⟩]) (.block 2 (.loop (.seq (.seq (.region [⟨some 44,.mov (.tmp 10),none⟩,⟨some 45,.mov (.tmp 0),none⟩,⟨some 46,.lenS (.tmp 45),none⟩,⟨some 47,.bin .lss (.tmp 44) (.tmp 46),none⟩]) (.cond (.tmp 47) .skip (.exit 2))) (.block 3 (.seq (.region [⟨some 48,.mov (.tmp 8),none⟩,⟨some 49,.bin .mul (.tmp 48) (.val (.int .u32 16777619)),none⟩,⟨some 8,.mov (.tmp 49),none⟩]) (.seq (.region [⟨some 50,.mov (.tmp 8),none⟩,⟨some 51,.mov (.tmp 0),none⟩,⟨some 52,.mov (.tmp 10),none⟩,⟨some 53,.idxS 1 (.tmp 51) (.tmp 52),none⟩,⟨some 54,.load none (.tmp 53),none⟩,⟨some 55,.convInt .u32 (.tmp 54),none⟩,⟨some 56,.bin .add (.tmp 50) (.tmp 55),none⟩,⟨some 8,.mov (.tmp 56),none⟩]) (.seq (.region [⟨some 57,.mov (.tmp 8),none⟩,⟨some 58,.mov (.tmp 6),none⟩,⟨some 59,.mov (.tmp 0),none⟩,⟨some 60,.mov (.tmp 10),none⟩,⟨some 61,.mov (.tmp 7),none⟩,⟨some 62,.bin .sub (.tmp 60) (.tmp 61),none⟩,⟨some 63,.idxS 1 (.tmp 59) (.tmp 62),none⟩,⟨some 64,.load none (.tmp 63),none⟩,⟨some 65,.convInt .u32 (.tmp 64),none⟩,⟨some 66,.bin .mul (.tmp 58) (.tmp 65),none⟩,⟨some 67,.bin .sub (.tmp 57) (.tmp 66),none⟩,⟨some 8,.mov (.tmp 67),none⟩]) (.seq (.region [⟨some 68,.mov (.tmp 10),none⟩,⟨some 69,.bin .add (.tmp 68) (.val (.int .i64 1)),none⟩,⟨some 10,.mov (.tmp 69),none⟩]) (.seq (.dregion [⟨⟨some 70,.mov (.tmp 8),none⟩,0,0,true⟩,⟨⟨some 71,.mov (.tmp 5),none⟩,0,0,true⟩,⟨⟨some 72,.bin .eql (.tmp 70) (.tmp 71),none⟩,3,0,true⟩,⟨⟨some 73,.mov (.tmp 72),none⟩,7,0,true⟩,⟨⟨some 74,.mov (.tmp 0),some (73,true)⟩,15,0,true⟩,⟨⟨some 75,.mov (.tmp 10),some (73,true)⟩,15,0,true⟩,⟨⟨some 76,.mov (.tmp 7),some (73,true)⟩,15,0,true⟩,⟨⟨some 77,.bin .sub (.tmp 75) (.tmp 76),some (73,true)⟩,111,0,true⟩,⟨⟨some 78,.mov (.tmp 10),some (73,true)⟩,15,0,true⟩,⟨⟨some 79,.sliceS 1 (.tmp 74) (some (.tmp 77)) (some (.tmp 78)) none,some (73,true)⟩,511,1,true⟩,⟨⟨some 80,.bytesToStr (.tmp 79),some (73,true)⟩,1023,1,true⟩,⟨⟨some 81,.mov (.tmp 1),some (73,true)⟩,15,0,true⟩,⟨⟨some 82,.bytesToStr (.tmp 81),some (73,true)⟩,2063,1,true⟩,⟨⟨some 83,.bin .eql (.tmp 80) (.tmp 82),some (73,true)⟩,8191,0,true⟩,⟨⟨some 84,.pick (.tmp 73) (.tmp 83) (.val (.bool false)),none⟩,16383,0,true⟩]) (.cond (.tmp 84) (.seq (.region [⟨some 85,.mov (.tmp 10),none⟩,⟨some 86,.mov (.tmp 7),none⟩,⟨some 87,.bin .sub (.tmp 85) (.tmp 86),none⟩,⟨some 4,.mov (.tmp 87),none⟩]) .ret) .skip))))))))))) (.seq (.region [⟨some 4,.mov (.val (.int .i64 (-1))),none⟩]) .ret)))))))),[.tmp 4]⟩
def c133 : RFunc := ⟨21,.code (.seq (.region [⟨some 5,.load none (.tmp 1),none⟩,⟨some 6,.bin .sub (.tmp 5) (.val (.int .i64 1)),none⟩,⟨some 7,.minmax true [.tmp 6,(.val (.int .i64 0))],none⟩,⟨some 4,.mov (.tmp 7),none⟩]) (.block 0 (.loop (.seq (.seq (.region [⟨some 8,.mov (.tmp 4),none⟩,⟨some 9,.load none (.tmp 1),none⟩,⟨some 10,.bin .add (.tmp 9) (.val (.int .i64 1)),none⟩,⟨some 11,.load none (.tmp 2),none⟩,⟨some 12,.bin .sub (.tmp 11) (.val (.int .i64 1)),none⟩,⟨some 13,.minmax false [.tmp 10,.tmp 12],none⟩,⟨some 14,.bin .leq (.tmp 8) (.tmp 13),none⟩]) (.cond (.tmp 14) .skip (.exit 0))) (.seq (.block 1 (.seq (.region [⟨some 17,.mov (.tmp 0),none⟩,⟨some 18,.mov (.tmp 4),none⟩,⟨some 19,.call (.tmp 17) [.tmp 18],none⟩,⟨some 20,.un .not (.tmp 19),none⟩]) (.cond (.tmp 20) .ret .skip))) (.region [⟨some 15,.mov (.tmp 4),none⟩,⟨some 16,.bin .add (.tmp 15) (.val (.int .i64 1)),none⟩,⟨some 4,.mov (.tmp 16),none⟩])))))),[]⟩
def c134 : RFunc := ⟨82,.code (.seq (.region [⟨some 12,.mov (.tmp 1),none⟩,⟨some 10,.mov (.tmp 12),none⟩]) (.block 0 (.loop (.block 1 (.seq (.region [⟨some 13,.mov (.tmp 10),none⟩,⟨some 14,.bin .mul (.val (.int .i64 2)) (.tmp 13),none⟩,⟨some 15,.bin .add (.tmp 14) (.val (.int .i64 1)),none⟩,⟨some 11,.mov (.tmp 15),none⟩]) (.seq (.seq (.region [⟨some 16,.mov (.tmp 11),none⟩,⟨some 17,.mov (.tmp 2),none⟩,⟨some 18,.bin .geq (.tmp 16) (.tmp 17),none⟩]) (.cond (.tmp 18) (.exit 0) .skip)) (.seq (.seq (.dregion [⟨⟨some 19,.mov (.tmp 11),none⟩,0,0,true⟩,⟨⟨some 20,.bin .add (.tmp 19) (.val (.int .i64 1)),none⟩,1,0,true⟩,⟨⟨some 21,.mov (.tmp 2),none⟩,0,0,true⟩,⟨⟨some 22,.bin .lss (.tmp 20) (.tmp 21),none⟩,7,0,true⟩,⟨⟨some 23,.mov (.tmp 22),none⟩,15,0,true⟩,⟨⟨some 24,.mov (.tmp 4),some (23,true)⟩,31,0,true⟩,⟨⟨some 25,.mov (.tmp 0),some (23,true)⟩,31,0,true⟩,⟨⟨some 26,.mov (.tmp 3),some (23,true)⟩,31,0,true⟩,⟨⟨some 27,.mov (.tmp 11),some (23,true)⟩,31,0,true⟩,⟨⟨some 28,.bin .add (.tmp 26) (.tmp 27),some (23,true)⟩,415,0,true⟩,⟨⟨some 29,.idxS 1 (.tmp 25) (.tmp 28),some (23,true)⟩,991,0,true⟩,⟨⟨some 30,.load none (.tmp 29),some (23,true)⟩,2015,1,true⟩,⟨⟨some 31,.mov (.tmp 0),some (23,true)⟩,31,0,true⟩,⟨⟨some 32,.mov (.tmp 3),some (23,true)⟩,31,0,true⟩,⟨⟨some 33,.mov (.tmp 11),some (23,true)⟩,31,0,true⟩,⟨⟨some 34,.bin .add (.tmp 32) (.tmp 33),some (23,true)⟩,24607,0,true⟩,⟨⟨some 35,.bin .add (.tmp 34) (.val (.int .i64 1)),some (23,true)⟩,57375,0,true⟩,⟨⟨some 36,.idxS 1 (.tmp 31) (.tmp 35),some (23,true)⟩,127007,0,true⟩,⟨⟨some 37,.load none (.tmp 36),some (23,true)⟩,258079,1,true⟩,⟨⟨some 38,.call (.tmp 24) [.tmp 30,.tmp 37],some (23,true)⟩,524287,2,false⟩,⟨⟨some 39,.bin .lss (.tmp 38) (.val (.int .i64 0)),some (23,true)⟩,1048575,0,false⟩,⟨⟨some 40,.pick (.tmp 23) (.tmp 39) (.val (.bool false)),none⟩,2097151,0,false⟩]) (.cond (.tmp 40) (.region [⟨some 41,.mov (.tmp 11),none⟩,⟨some 42,.bin .add (.tmp 41) (.val (.int .i64 1)),none⟩,⟨some 11,.mov (.tmp 42),none⟩]) .skip)) (.seq (.seq (.dregion [⟨⟨some 43,.mov (.tmp 4),none⟩,0,0,true⟩,⟨⟨some 44,.mov (.tmp 0),none⟩,0,0,true⟩,⟨⟨some 45,.mov (.tmp 3),none⟩,0,0,true⟩,⟨⟨some 46,.mov (.tmp 10),none⟩,0,0,true⟩,⟨⟨some 47,.bin .add (.tmp 45) (.tmp 46),none⟩,12,0,true⟩,⟨⟨some 48,.idxS 1 (.tmp 44) (.tmp 47),none⟩,30,0,true⟩,⟨⟨some 49,.load none (.tmp 48),none⟩,62,1,true⟩,⟨⟨some 50,.mov (.tmp 0),none⟩,0,0,true⟩,⟨⟨some 51,.mov (.tmp 3),none⟩,0,0,true⟩,⟨⟨some 52,.mov (.tmp 11),none⟩,0,0,true⟩,⟨⟨some 53,.bin .add (.tmp 51) (.tmp 52),none⟩,768,0,true⟩,⟨⟨some 54,.idxS 1 (.tmp 50) (.tmp 53),none⟩,1920,0,true⟩,⟨⟨some 55,.load none (.tmp 54),none⟩,3968,1,true⟩,⟨⟨some 56,.call (.tmp 43) [.tmp 49,.tmp 55],none⟩,8191,2,false⟩,⟨⟨some 57,.bin .lss (.tmp 56) (.val (.int .i64 0)),none⟩,16383,0,false⟩,⟨⟨some 58,.un .not (.tmp 57),none⟩,32767,0,false⟩]) (.cond (.tmp 58) .ret .skip)) (.seq (.dregion [⟨⟨some 59,.mov (.tmp 0),none⟩,0,0,true⟩,⟨⟨some 60,.mov (.tmp 3),none⟩,0,0,true⟩,⟨⟨some 61,.mov (.tmp 10),none⟩,0,0,true⟩,⟨⟨some 62,.bin .add (.tmp 60) (.tmp 61),none⟩,6,0,true⟩,⟨⟨some 63,.mov (.tmp 0),none⟩,0,0,true⟩,⟨⟨some 64,.mov (.tmp 3),none⟩,0,0,true⟩,⟨⟨some 65,.mov (.tmp 11),none⟩,0,0,true⟩,⟨⟨some 66,.bin .add (.tmp 64) (.tmp 65),none⟩,96,0,true⟩,⟨⟨some 67,.mov (.tmp 0),none⟩,0,0,true⟩,⟨⟨some 68,.mov (.tmp 3),none⟩,0,0,true⟩,⟨⟨some 69,.mov (.tmp 11),none⟩,0,0,true⟩,⟨⟨some 70,.bin .add (.tmp 68) (.tmp 69),none⟩,1536,0,true⟩,⟨⟨some 71,.idxS 1 (.tmp 67) (.tmp 70),none⟩,3840,0,true⟩,⟨⟨some 72,.load none (.tmp 71),none⟩,7936,1,true⟩,⟨⟨some 73,.mov (.tmp 0),none⟩,0,0,true⟩,⟨⟨some 74,.mov (.tmp 3),none⟩,0,0,true⟩,⟨⟨some 75,.mov (.tmp 10),none⟩,0,0,true⟩,⟨⟨some 76,.bin .add (.tmp 74) (.tmp 75),none⟩,98304,0,true⟩,⟨⟨some 77,.idxS 1 (.tmp 73) (.tmp 76),none⟩,245760,0,true⟩,⟨⟨some 78,.load none (.tmp 77),none⟩,507904,1,true⟩,⟨⟨some 79,.idxS 1 (.tmp 59) (.tmp 62),none⟩,1048335,0,true⟩,⟨⟨none,.store 1 (.tmp 79) (.tmp 72),none⟩,2096911,2,false⟩,⟨⟨some 80,.idxS 1 (.tmp 63) (.tmp 66),none⟩,4194303,0,true⟩,⟨⟨none,.store 1 (.tmp 80) (.tmp 78),none⟩,8388607,2,false⟩]) (.region [⟨some 81,.mov (.tmp 11),none⟩,⟨some 10,.mov (.tmp 81),none⟩])))))))))),[]⟩
def c135 : RFunc := ⟨7,.code (.seq (.region [⟨some 2,.mov (.val (.int .u64 0)),none⟩]) (.seq (.region [⟨some 3,.mov (.tmp 0),none⟩,⟨some 4,.convInt .u64 (.tmp 3),none⟩,⟨some 5,.call (.val (.func (.func 98) [] [])) [.tmp 4],none⟩,⟨some 6,.bin .shl (.val (.int .u64 1)) (.tmp 5),none⟩,⟨some 2,.mov (.tmp 6),none⟩]) .ret)),[.tmp 2]⟩
def c136 : RFunc := ⟨33,.code (.seq (.region [⟨some 2,.mov (.val (.int .u64 0)),none⟩]) (.seq (.dregion [⟨⟨some 3,.mov (.tmp 0),none⟩,0,0,true⟩,⟨⟨some 4,.nilCheck (.tmp 3),none⟩,1,0,true⟩,⟨⟨some 5,.load none (.tmp 4),none⟩,3,1,true⟩,⟨⟨some 6,.mov (.tmp 0),none⟩,0,0,true⟩,⟨⟨some 7,.nilCheck (.tmp 6),none⟩,8,0,true⟩,⟨⟨some 8,.load none (.tmp 7),none⟩,24,1,true⟩,⟨⟨some 9,.bin .shl (.tmp 8) (.val (.int .u64 13)),none⟩,56,0,true⟩,⟨⟨some 10,.bin .xor (.tmp 5) (.tmp 9),none⟩,127,0,true⟩,⟨⟨some 11,.nilCheck (.tmp 3),none⟩,255,0,true⟩,⟨⟨none,.store 1 (.tmp 11) (.tmp 10),none⟩,511,2,false⟩]) (.seq (.dregion [⟨⟨some 12,.mov (.tmp 0),none⟩,0,0,true⟩,⟨⟨some 13,.nilCheck (.tmp 12),none⟩,1,0,true⟩,⟨⟨some 14,.load none (.tmp 13),none⟩,3,1,true⟩,⟨⟨some 15,.mov (.tmp 0),none⟩,0,0,true⟩,⟨⟨some 16,.nilCheck (.tmp 15),none⟩,8,0,true⟩,⟨⟨some 17,.load none (.tmp 16),none⟩,24,1,true⟩,⟨⟨some 18,.bin .shr (.tmp 17) (.val (.int .u64 7)),none⟩,56,0,true⟩,⟨⟨some 19,.bin .xor (.tmp 14) (.tmp 18),none⟩,127,0,true⟩,⟨⟨some 20,.nilCheck (.tmp 12),none⟩,255,0,true⟩,⟨⟨none,.store 1 (.tmp 20) (.tmp 19),none⟩,511,2,false⟩]) (.seq (.dregion [⟨⟨some 21,.mov (.tmp 0),none⟩,0,0,true⟩,⟨⟨some 22,.nilCheck (.tmp 21),none⟩,1,0,true⟩,⟨⟨some 23,.load none (.tmp 22),none⟩,3,1,true⟩,⟨⟨some 24,.mov (.tmp 0),none⟩,0,0,true⟩,⟨⟨some 25,.nilCheck (.tmp 24),none⟩,8,0,true⟩,⟨⟨some 26,.load none (.tmp 25),none⟩,24,1,true⟩,⟨⟨some 27,.bin .shl (.tmp 26) (.val (.int .u64 17)),none⟩,56,0,true⟩,⟨⟨some 28,.bin .xor (.tmp 23) (.tmp 27),none⟩,127,0,true⟩,⟨⟨some 29,.nilCheck (.tmp 21),none⟩,255,0,true⟩,⟨⟨none,.store 1 (.tmp 29) (.tmp 28),none⟩,511,2,false⟩]) (.seq (.region [⟨some 30,.mov (.tmp 0),none⟩,⟨some 31,.nilCheck (.tmp 30),none⟩,⟨some 32,.load none (.tmp 31),none⟩,⟨some 2,.mov (.tmp 32),none⟩]) .ret))))),[.tmp 2]⟩
def c137 : RFunc := ⟨18,.code (.seq (.region [⟨some 8,.mov (.val (.int .i64 0)),none⟩]) (.seq (.region [⟨some 9,.mov (.tmp 0),none⟩,⟨some 10,.mov (.tmp 1),none⟩,⟨some 11,.bin .sub (.tmp 10) (.val (.int .i64 1)),none⟩,⟨some 12,.mov (.tmp 1),none⟩,⟨some 13,.mov (.tmp 1),none⟩,⟨some 14,.bin .add (.tmp 13) (.val (.int .i64 1)),none⟩,⟨some 15,.mov (.tmp 2),none⟩,⟨some 16,.mov (.tmp 3),none⟩,⟨some 17,.call (.val (.func (.func 138) [] [])) [.tmp 9,.tmp 11,.tmp 12,.tmp 14,.tmp 15,.tmp 16],none⟩,⟨some 8,.mov (.tmp 17),none⟩]) .ret)),[.tmp 8]⟩
def c138 : RFunc := ⟨41,.code (.seq (.region [⟨some 12,.mov (.val (.int .i64 0)),none⟩]) (.seq (.region [⟨some 14,.mov (.tmp 0),none⟩,⟨some 15,.mov (.tmp 1),none⟩,⟨some 16,.mov (.tmp 2),none⟩,⟨some 17,.mov (.tmp 4),none⟩,⟨some 18,.mov (.tmp 5),none⟩,⟨some 19,.call (.val (.func (.func 142) [] [])) [.tmp 14,.tmp 15,.tmp 16,.tmp 17,.tmp 18],none⟩,⟨some 13,.mov (.tmp 19),none⟩,⟨some 20,.extract (.tmp 13) 0,none⟩,⟨some 21,.extract (.tmp 13) 1,none⟩,⟨some 1,.mov (.tmp 20),none⟩,⟨some 2,.mov (.tmp 21),none⟩]) (.seq (.region [⟨some 23,.mov (.tmp 0),none⟩,⟨some 24,.mov (.tmp 2),none⟩,⟨some 25,.mov (.tmp 3),none⟩,⟨some 26,.mov (.tmp 4),none⟩,⟨some 27,.mov (.tmp 5),none⟩,⟨some 28,.call (.val (.func (.func 142) [] [])) [.tmp 23,.tmp 24,.tmp 25,.tmp 26,.tmp 27],none⟩,⟨some 22,.mov (.tmp 28),none⟩,⟨some 29,.extract (.tmp 22) 0,none⟩,⟨some 30,.extract (.tmp 22) 1,none⟩,⟨some 2,.mov (.tmp 29),none⟩,⟨some 3,.mov (.tmp 30),none⟩]) (.seq (.region [⟨some 32,.mov (.tmp 0),none⟩,⟨some 33,.mov (.tmp 1),none⟩,⟨some 34,.mov (.tmp 2),none⟩,⟨some 35,.mov (.tmp 4),none⟩,⟨some 36,.mov (.tmp 5),none⟩,⟨some 37,.call (.val (.func (.func 142) [] [])) [.tmp 32,.tmp 33,.tmp 34,.tmp 35,.tmp 36],none⟩,⟨some 31,.mov (.tmp 37),none⟩,⟨some 38,.extract (.tmp 31) 0,none⟩,⟨some 39,.extract (.tmp 31) 1,none⟩,⟨some 1,.mov (.tmp 38),none⟩,⟨some 2,.mov (.tmp 39),none⟩]) (.seq (.region [⟨some 40,.mov (.tmp 2),none⟩,⟨some 12,.mov (.tmp 40),none⟩]) .ret))))),[.tmp 12]⟩
def c141 : RFunc := ⟨40,.code (.seq (.region [⟨some 2,.mov (.val (.int .u32 0)),none⟩,⟨some 3,.mov (.val (.int .u32 0)),none⟩]) (.seq (.region [⟨some 4,.mov (.val (.int .u32 0)),none⟩]) (.seq (.seq (.region [⟨some 5,.mov (.val (.int .i64 0)),none⟩]) (.block 0 (.loop (.seq (.seq (.region [⟨some 9,.mov (.tmp 5),none⟩,⟨some 10,.mov (.tmp 0),none⟩,⟨some 11,.lenS (.tmp 10),none⟩,⟨some 12,.bin .lss (.tmp 9) (.tmp 11),none⟩]) (.cond (.tmp 12) .skip (.exit 0))) (.seq (.block 1 (.region [⟨some 15,.mov (.tmp 4),none⟩,⟨some 16,.bin .mul (.tmp 15) (.val (.int .u32 16777619)),none⟩,⟨some 17,.mov (.tmp 0),none⟩,⟨some 18,.mov (.tmp 5),none⟩,⟨some 19,.idxS 1 (.tmp 17) (.tmp 18),none⟩,⟨some 20,.load none (.tmp 19),none⟩,⟨some 21,.convInt .u32 (.tmp 20),none⟩,⟨some 22,.bin .add (.tmp 16) (.tmp 21),none⟩,⟨some 4,.mov (.tmp 22),none⟩])) (.region [⟨some 13,.mov (.tmp 5),none⟩,⟨some 14,.bin .add (.tmp 13) (.val (.int .i64 1)),none⟩,⟨some 5,.mov (.tmp 14),none⟩])))))) (.seq (.region [⟨some 6,.mov (.val (.int .u32 1)),none⟩,⟨some 7,.mov (.val (.int .u32 16777619)),none⟩]) (.seq (.seq (.region [⟨some 23,.mov (.tmp 0),none⟩,⟨some 24,.lenS (.tmp 23),none⟩,⟨some 8,.mov (.tmp 24),none⟩]) (.block 2 (.loop (.seq (.seq (.region [⟨some 25,.mov (.tmp 8),none⟩,⟨some 26,.bin .gtr (.tmp 25) (.val (.int .i64 0)),none⟩]) (.cond (.tmp 26) .skip (.exit 2))) (.seq (.block 3 (.seq (.seq (.region [⟨some 29,.mov (.tmp 8),none⟩,⟨some 30,.bin .and (.tmp 29) (.val (.int .i64 1)),none⟩,⟨some 31,.bin .neq (.tmp 30) (.val (.int .i64 0)),none⟩]) (.cond (.tmp 31) (.region [⟨some 32,.mov (.tmp 6),none⟩,⟨some 33,.mov (.tmp 7),none⟩,⟨some 34,.bin .mul (.tmp 32) (.tmp 33),none⟩,⟨some 6,.mov (.tmp 34),none⟩]) .skip)) (.region [⟨some 35,.mov (.tmp 7),none⟩,⟨some 36,.mov (.tmp 7),none⟩,⟨some 37,.bin .mul (.tmp 35) (.tmp 36),none⟩,⟨some 7,.mov (.tmp 37),none⟩]))) (.region [⟨some 27,.mov (.tmp 8),none⟩,⟨some 28,.bin .shr (.tmp 27) (.val (.int .u64 1)),none⟩,⟨some 8,.mov (.tmp 28),none⟩])))))) (.seq (.region [⟨some 38,.mov (.tmp 4),none⟩,⟨some 39,.mov (.tmp 6),none⟩,⟨some 2,.mov (.tmp 38),none⟩,⟨some 3,.mov (.tmp 39),none⟩]) .ret)))))),[.tmp 2,.tmp 3]⟩
def c142 : RFunc := ⟨32,.code (.seq (.region [⟨some 10,.mov (.val (.int .i64 0)),none⟩,⟨some 11,.mov (.val (.int .i64 0)),none⟩]) (.seq (.seq (.dregion [⟨⟨some 12,.mov (.tmp 4),none⟩,0,0,true⟩,⟨⟨some 13,.mov (.tmp 0),none⟩,0,0,true⟩,⟨⟨some 14,.mov (.tmp 2),none⟩,0,0,true⟩,⟨⟨some 15,.idxS 1 (.tmp 13) (.tmp 14),none⟩,6,0,true⟩,⟨⟨some 16,.load none (.tmp 15),none⟩,14,1,true⟩,⟨⟨some 17,.mov (.tmp 0),none⟩,0,0,true⟩,⟨⟨some 18,.mov (.tmp 1),none⟩,0,0,true⟩,⟨⟨some 19,.idxS 1 (.tmp 17) (.tmp 18),none⟩,96,0,true⟩,⟨⟨some 20,.load none (.tmp 19),none⟩,224,1,true⟩,⟨⟨some 21,.call (.tmp 12) [.tmp 16,.tmp 20],none⟩,511,2,false⟩,⟨⟨some 22,.bin .lss (.tmp 21) (.val (.int .i64 0)),none⟩,1023,0,false⟩]) (.cond (.tmp 22) (.seq (.region [⟨some 23,.mov (.tmp 3),none⟩,⟨some 24,.nilCheck (.tmp 23),none⟩,⟨some 25,.load none (.tmp 24),none⟩,⟨some 26,.bin .add (.tmp 25) (.val (.int .i64 1)),none⟩,⟨some 27,.nilCheck (.tmp 23),none⟩,⟨none,.store 1 (.tmp 27) (.tmp 26),none⟩]) (.seq (.region [⟨some 28,.mov (.tmp 2),none⟩,⟨some 29,.mov (.tmp 1),none⟩,⟨some 10,.mov (.tmp 28),none⟩,⟨some 11,.mov (.tmp 29),none⟩]) .ret)) .skip)) (.seq (.region [⟨some 30,.mov (.tmp 1),none⟩,⟨some 31,.mov (.tmp 2),none⟩,⟨some 10,.mov (.tmp 30),none⟩,⟨some 11,.mov (.tmp 31),none⟩]) .ret))),[.tmp 10,.tmp 11]⟩
end Go.Am

namespace Go.Am
open Go
def ext : Exts := fun k args => match k with
  | 0 => aCount args
  | 1 => aIndexByte args
  | 2 => aSelf args
  | 3 => aClosed aroundT (.bool true) args
  | _ => M.fail
def prog0 : FuncId → Option RFunc := fun f => (cond (Nat.blt f 98) (cond (Nat.blt f 59) (cond (Nat.blt f 48) (cond (Nat.blt f 17) (cond (Nat.blt f 14) (cond (Nat.beq f 12) (some c12) none) (cond (Nat.blt f 15) (cond (Nat.beq f 14) (some c14) none) (cond (Nat.beq f 15) (some c15) none))) (cond (Nat.blt f 27) (cond (Nat.blt f 18) (cond (Nat.beq f 17) (some c17) none) (cond (Nat.beq f 18) (some c18) none)) (cond (Nat.blt f 47) (cond (Nat.beq f 27) (some c27) none) (cond (Nat.beq f 47) (some c47) none)))) (cond (Nat.blt f 53) (cond (Nat.blt f 51) (cond (Nat.blt f 50) (cond (Nat.beq f 48) (some c48) none) (cond (Nat.beq f 50) (some c50) none)) (cond (Nat.blt f 52) (cond (Nat.beq f 51) (some c51) none) (cond (Nat.beq f 52) (some c52) none))) (cond (Nat.blt f 57) (cond (Nat.blt f 56) (cond (Nat.beq f 53) (some c53) none) (cond (Nat.beq f 56) (some c56) none)) (cond (Nat.blt f 58) (cond (Nat.beq f 57) (some c57) none) (cond (Nat.beq f 58) (some c58) none))))) (cond (Nat.blt f 86) (cond (Nat.blt f 62) (cond (Nat.blt f 60) (cond (Nat.beq f 59) (some c59) none) (cond (Nat.blt f 61) (cond (Nat.beq f 60) (some c60) none) (cond (Nat.beq f 61) (some c61) none))) (cond (Nat.blt f 73) (cond (Nat.blt f 72) (cond (Nat.beq f 62) (some c62) none) (cond (Nat.beq f 72) (some c72) none)) (cond (Nat.blt f 79) (cond (Nat.beq f 73) (some c73) none) (cond (Nat.beq f 79) (some c79) none)))) (cond (Nat.blt f 94) (cond (Nat.blt f 91) (cond (Nat.blt f 90) (cond (Nat.beq f 86) (some c86) none) (cond (Nat.beq f 90) (some c90) none)) (cond (Nat.blt f 93) (cond (Nat.beq f 91) (some c91) none) (cond (Nat.beq f 93) (some c93) none))) (cond (Nat.blt f 96) (cond (Nat.blt f 95) (cond (Nat.beq f 94) (some c94) none) (cond (Nat.beq f 95) (some c95) none)) (cond (Nat.blt f 97) (cond (Nat.beq f 96) (some c96) none) (cond (Nat.beq f 97) (some c97) none)))))) (cond (Nat.blt f 122) (cond (Nat.blt f 114) (cond (Nat.blt f 110) (cond (Nat.blt f 99) (cond (Nat.beq f 98) (some c98) none) (cond (Nat.blt f 103) (cond (Nat.beq f 99) (some c99) none) (cond (Nat.beq f 103) (some c103) none))) (cond (Nat.blt f 112) (cond (Nat.blt f 111) (cond (Nat.beq f 110) (some c110) none) (cond (Nat.beq f 111) (some ⟨0, .ext 0, []⟩) none)) (cond (Nat.blt f 113) (cond (Nat.beq f 112) (some c112) none) (cond (Nat.beq f 113) (some c113) none)))) (cond (Nat.blt f 118) (cond (Nat.blt f 116) (cond (Nat.blt f 115) (cond (Nat.beq f 114) (some c114) none) (cond (Nat.beq f 115) (some c115) none)) (cond (Nat.blt f 117) (cond (Nat.beq f 116) (some c116) none) (cond (Nat.beq f 117) (some c117) none))) (cond (Nat.blt f 120) (cond (Nat.blt f 119) (cond (Nat.beq f 118) (some c118) none) (cond (Nat.beq f 119) (some c119) none)) (cond (Nat.blt f 121) (cond (Nat.beq f 120) (some c120) none) (cond (Nat.beq f 121) (some c121) none))))) (cond (Nat.blt f 134) (cond (Nat.blt f 129) (cond (Nat.blt f 127) (cond (Nat.blt f 123) (cond (Nat.beq f 122) (some c122) none) (cond (Nat.beq f 123) (some c123) none)) (cond (Nat.blt f 128) (cond (Nat.beq f 127) (some c127) none) (cond (Nat.beq f 128) (some c128) none))) (cond (Nat.blt f 132) (cond (Nat.blt f 131) (cond (Nat.beq f 129) (some c129) none) (cond (Nat.beq f 131) (some c131) none)) (cond (Nat.blt f 133) (cond (Nat.beq f 132) (some c132) none) (cond (Nat.beq f 133) (some c133) none)))) (cond (Nat.blt f 138) (cond (Nat.blt f 136) (cond (Nat.blt f 135) (cond (Nat.beq f 134) (some c134) none) (cond (Nat.beq f 135) (some c135) none)) (cond (Nat.blt f 137) (cond (Nat.beq f 136) (some c136) none) (cond (Nat.beq f 137) (some c137) none))) (cond (Nat.blt f 141) (cond (Nat.blt f 140) (cond (Nat.beq f 138) (some c138) none) (cond (Nat.beq f 140) (some ⟨0, .ext 1, []⟩) none)) (cond (Nat.blt f 142) (cond (Nat.beq f 141) (some c141) none) (cond (Nat.beq f 142) (some c142) none)))))))
def prog : FuncId → Option RFunc := fun f => (cond (Nat.blt f 103) (cond (Nat.blt f 60) (cond (Nat.blt f 51) (cond (Nat.blt f 18) (cond (Nat.blt f 12) (cond (Nat.beq f 7) (some c7) none) (cond (Nat.blt f 15) (cond (Nat.beq f 12) (some ⟨0, .ext 3, []⟩) none) (cond (Nat.beq f 15) (some c15) none))) (cond (Nat.blt f 41) (cond (Nat.blt f 40) (cond (Nat.beq f 18) (some c18) none) (cond (Nat.beq f 40) (some c40) none)) (cond (Nat.blt f 50) (cond (Nat.beq f 41) (some c41) none) (cond (Nat.beq f 50) (some c50) none)))) (cond (Nat.blt f 56) (cond (Nat.blt f 52) (cond (Nat.beq f 51) (some c51) none) (cond (Nat.blt f 53) (cond (Nat.beq f 52) (some c52) none) (cond (Nat.beq f 53) (some c53) none))) (cond (Nat.blt f 58) (cond (Nat.blt f 57) (cond (Nat.beq f 56) (some c56) none) (cond (Nat.beq f 57) (some c57) none)) (cond (Nat.blt f 59) (cond (Nat.beq f 58) (some c58) none) (cond (Nat.beq f 59) (some c59) none))))) (cond (Nat.blt f 93) (cond (Nat.blt f 79) (cond (Nat.blt f 61) (cond (Nat.beq f 60) (some c60) none) (cond (Nat.blt f 62) (cond (Nat.beq f 61) (some c61) none) (cond (Nat.beq f 62) (some c62) none))) (cond (Nat.blt f 90) (cond (Nat.blt f 86) (cond (Nat.beq f 79) (some c79) none) (cond (Nat.beq f 86) (some c86) none)) (cond (Nat.blt f 91) (cond (Nat.beq f 90) (some c90) none) (cond (Nat.beq f 91) (some c91) none)))) (cond (Nat.blt f 96) (cond (Nat.blt f 94) (cond (Nat.beq f 93) (some c93) none) (cond (Nat.blt f 95) (cond (Nat.beq f 94) (some c94) none) (cond (Nat.beq f 95) (some c95) none))) (cond (Nat.blt f 98) (cond (Nat.blt f 97) (cond (Nat.beq f 96) (some c96) none) (cond (Nat.beq f 97) (some c97) none)) (cond (Nat.blt f 99) (cond (Nat.beq f 98) (some c98) none) (cond (Nat.beq f 99) (some c99) none)))))) (cond (Nat.blt f 123) (cond (Nat.blt f 116) (cond (Nat.blt f 112) (cond (Nat.blt f 110) (cond (Nat.beq f 103) (some c103) none) (cond (Nat.blt f 111) (cond (Nat.beq f 110) (some c110) none) (cond (Nat.beq f 111) (some ⟨0, .ext 0, []⟩) none))) (cond (Nat.blt f 114) (cond (Nat.blt f 113) (cond (Nat.beq f 112) (some c112) none) (cond (Nat.beq f 113) (some c113) none)) (cond (Nat.blt f 115) (cond (Nat.beq f 114) (some c114) none) (cond (Nat.beq f 115) (some c115) none)))) (cond (Nat.blt f 119) (cond (Nat.blt f 117) (cond (Nat.beq f 116) (some c116) none) (cond (Nat.blt f 118) (cond (Nat.beq f 117) (some c117) none) (cond (Nat.beq f 118) (some c118) none))) (cond (Nat.blt f 121) (cond (Nat.blt f 120) (cond (Nat.beq f 119) (some c119) none) (cond (Nat.beq f 120) (some c120) none)) (cond (Nat.blt f 122) (cond (Nat.beq f 121) (some c121) none) (cond (Nat.beq f 122) (some c122) none))))) (cond (Nat.blt f 134) (cond (Nat.blt f 129) (cond (Nat.blt f 127) (cond (Nat.beq f 123) (some c123) none) (cond (Nat.blt f 128) (cond (Nat.beq f 127) (some c127) none) (cond (Nat.beq f 128) (some c128) none))) (cond (Nat.blt f 132) (cond (Nat.blt f 131) (cond (Nat.beq f 129) (some c129) none) (cond (Nat.beq f 131) (some c131) none)) (cond (Nat.blt f 133) (cond (Nat.beq f 132) (some c132) none) (cond (Nat.beq f 133) (some c133) none)))) (cond (Nat.blt f 138) (cond (Nat.blt f 136) (cond (Nat.blt f 135) (cond (Nat.beq f 134) (some c134) none) (cond (Nat.beq f 135) (some c135) none)) (cond (Nat.blt f 137) (cond (Nat.beq f 136) (some c136) none) (cond (Nat.beq f 137) (some c137) none))) (cond (Nat.blt f 141) (cond (Nat.blt f 140) (cond (Nat.beq f 138) (some c138) none) (cond (Nat.beq f 140) (some ⟨0, .ext 1, []⟩) none)) (cond (Nat.blt f 142) (cond (Nat.beq f 141) (some c141) none) (cond (Nat.beq f 142) (some c142) none)))))))
end Go.Am

namespace Go.Am
open Go Go.RowKit
section
variable {P : Program} {S : Base} {m : RMap} {H H' : AHeap} {w : World}
theorem aBytesFn_some {f : List UInt8 → AVal} {e : Array Value → Sem Value} {bv : Value} (hstr : ∀ (s : ByteArray) (w : World), ∃ y, (e #[.string s, bv]).run P w = .ok y w ∧ emb m (f s.data.toList) = some y)
    (hnil : ∀ (l c : Nat) (w : World), ∃ y, (e #[.slice none l c, bv]).run P w = .ok y w ∧ emb m (f []) = some y)
    (hsl : ∀ (a : Addr) (n c : Nat) (xs : List Int) (w : World), xs.length = n → (∀ j x, xs[j]? = some x → w.cell? (a.add j) = some (.int .u8 x)) → ∃ y, (e #[.slice (some a) n c, bv]).run P w = .ok y w ∧ emb m (f (xs.map fun n => UInt8.ofNat n.toNat)) = some y)
    {av u : AVal} {x : Value} (ha : emb m av = some x) (h : HRel S m H w) (hx : aBytesFn f av H = some (u, H')) : ∃ y, (e #[x, bv]).run P w = .ok y w ∧ Out S m u H' y w := by
  cases av with
  | nslice =>
    obtain ⟨rfl, rfl⟩ := pure_some hx
    simp only [emb] at ha; cases ha
    obtain ⟨y, h1, h2⟩ := hnil 0 0 w
    exact ⟨y, h1, Out.same h h2⟩
  | str s =>
    obtain ⟨rfl, rfl⟩ := pure_some hx
    simp only [emb] at ha; cases ha
    obtain ⟨y, h1, h2⟩ := hstr s w
    exact ⟨y, h1, Out.same h h2⟩
  | slice r off len cap s =>
    obtain ⟨p, hp, rfl⟩ := emb_slice_some ha
    simp only [aBytesFn] at hx
    by_cases hs : s ≠ 1
    · rw [if_pos hs] at hx; exact (fail_some hx).elim
    · rw [if_neg hs] at hx
      obtain ⟨⟨cs, rw⟩, H1, h1, h2⟩ := bind_some hx
      obtain ⟨rfl, hr, e', hg⟩ := aRow_some h1
      simp only [] at h2
      by_cases hq : off + len ≤ cs.length
      · rw [if_pos hq] at h2
        cases hb : bytesOf ((cs.drop off).take len) with
        | none => rw [hb] at h2; exact (fail_some h2).elim
        | some l =>
          rw [hb] at h2
          obtain ⟨rfl, rfl⟩ := pure_some h2
          obtain ⟨ns, hns, rfl⟩ := bytesOf_some hb
          have hok := h.row r cs rw e' p hr hg hp
          have hlen : ns.length = len := by
            have h1 : ((cs.drop off).take len).length = len := by simp; omega
            rw [hns] at h1; simpa using h1
          obtain ⟨y, h3, h4⟩ := hsl (p.1.add off) len (capR cap ((p.2 - off) / s)) ns w hlen fun j b hj => by
            have hjn : j < len := by rw [← hlen]; exact (List.getElem?_eq_some_iff.1 hj).1
            have h1 : cs[off + j]? = some (.int .u8 b) := by
              have h2 : ((cs.drop off).take len)[j]? = some (.int .u8 b) := by rw [hns]; simp [hj]
              rw [List.getElem?_take_of_lt hjn, List.getElem?_drop] at h2; exact h2
            obtain ⟨y, h3, h4⟩ := hok.cell _ _ h1
            simp only [emb] at h3; cases h3
            rw [add_add]; exact h4
          exact ⟨y, h3, Out.same h h4⟩
      · rw [if_neg hq] at h2; exact (fail_some h2).elim
  | _ => exact (fail_some (H := H) hx).elim
theorem yields_extern {f : FuncId} {fn : Func} {e : Array Value → Sem Value} (hf : P.funcs[f]? = some fn) (hname : (fn.name == "runtime.NumGoroutine") = false)
    (hb : fn.body.isNone = true) (hn : Extern.findNext fn = none) (he : Extern.find fn = some e) {args : Array Value} {y : Value} {R : Value → World → Prop} (hr : (e args).run P w = .ok y w) (h : R y w) : Yields P (callFunc f args) w R := by
  unfold Yields
  rw [run_callFunc_extern hf hname hb hn he, hr]
  exact h
theorem sem_bind_of {α β : Type} {P : Program} {w : World} {x : Sem α} {f : α → Sem β} {a : α} {w' : World} {r : Result β} (h : x.run P w = .ok a w') (h2 : (x >>= f).run P w = r) : (f a).run P w' = r := by
  rw [← h2]
  simp [h]
theorem ext_count {ext : Exts} {k : Nat} (hk : ext k = aCount) {f : FuncId} {fn : Func} (hf : P.funcs[f]? = some fn) (hname : (fn.name == "runtime.NumGoroutine") = false)
    (hb : fn.body.isNone = true) (hn : Extern.findNext fn = none) (he : Extern.find fn = some Extern.BytealgCount.count) : ExtSim P ext f k := by
  intro S args H v H' m w vargs hG hx h ha
  rw [hk] at hx
  match args, hx, ha with
  | [x, .int .u8 b], hx, ha =>
    obtain ⟨y, ys, h1, h2, rfl⟩ := embL_cons ha
    obtain ⟨z, zs, h3, h4, rfl⟩ := embL_cons h2
    simp only [embL] at h4; cases h4
    simp only [emb] at h3; cases h3
    obtain ⟨q, h5, h6⟩ := aBytesFn_some (P := P) (e := Extern.BytealgCount.count) (bv := .int .u8 b) (f := fun l => .int .i64 (Lib.countByte l (UInt8.ofNat b.toNat)))
      (fun s w => ⟨_, Lib.run_countString s b w, by simp [emb] <;> rfl⟩)
      (fun l c w => ⟨_, Lib.run_countString .empty b w, by simp [emb] <;> rfl⟩)
      (fun a n c xs w hl hc => by
        have hload := Lib.run_loadBytesX (P := P) w xs a .empty hc
        rw [hl] at hload
        have hs := Lib.run_countString (P := P) ⟨(Lib.bytesOf xs).toArray⟩ b w
        have he : (⟨ByteArray.empty.data ++ (Lib.bytesOf xs).toArray⟩ : ByteArray) = ⟨(Lib.bytesOf xs).toArray⟩ := by
          apply ByteArray.ext
          show (#[] : Array UInt8) ++ (Lib.bytesOf xs).toArray = (Lib.bytesOf xs).toArray
          simp
        rw [he] at hload
        refine ⟨.int .i64 (Lib.countByte (Lib.bytesOf xs) b.toNat.toUInt8), ?_, by simp [emb] <;> rfl⟩
        have hb1 : (Extern.Bytes.bytesOf (.slice (some a) n c)).run P w = .ok ⟨(Lib.bytesOf xs).toArray⟩ w := by simpa [Extern.Bytes.bytesOf] using hload
        have hb2 : (Extern.Bytes.bytesOf (.string ⟨(Lib.bytesOf xs).toArray⟩)).run P w = .ok ⟨(Lib.bytesOf xs).toArray⟩ w := by simp [Extern.Bytes.bytesOf]
        refine sem_bind_ok hb1 ?_
        have hs2 := sem_bind_of hb2 hs
        exact hs2) h1 h hx
    exact yields_extern hf hname hb hn he h5 h6
theorem ext_indexByte {ext : Exts} {k : Nat} (hk : ext k = aIndexByte) {f : FuncId} {fn : Func} (hf : P.funcs[f]? = some fn) (hname : (fn.name == "runtime.NumGoroutine") = false)
    (hb : fn.body.isNone = true) (hn : Extern.findNext fn = none) (he : Extern.find fn = some Extern.BytealgIndexByte.indexByte) : ExtSim P ext f k := by
  intro S args H v H' m w vargs hG hx h ha
  rw [hk] at hx
  match args, hx, ha with
  | [x, .int .u8 b], hx, ha =>
    obtain ⟨y, ys, h1, h2, rfl⟩ := embL_cons ha
    obtain ⟨z, zs, h3, h4, rfl⟩ := embL_cons h2
    simp only [embL] at h4; cases h4
    simp only [emb] at h3; cases h3
    obtain ⟨q, h5, h6⟩ := aBytesFn_some (P := P) (e := Extern.BytealgIndexByte.indexByte) (bv := .int .u8 b) (f := fun l => .int .i64 (Lib.indexByte l (UInt8.ofNat b.toNat)))
      (fun s w => ⟨_, Lib.run_indexByteString s b w, by simp [emb] <;> rfl⟩)
      (fun l c w => ⟨_, Lib.run_indexByteNil w l c b, by simp [emb] <;> rfl⟩)
      (fun a n c xs w hl hc => by
        have hload := Lib.run_loadBytesX (P := P) w xs a .empty hc
        rw [hl] at hload
        have hs := Lib.run_indexByteString (P := P) ⟨(Lib.bytesOf xs).toArray⟩ b w
        have he : (⟨ByteArray.empty.data ++ (Lib.bytesOf xs).toArray⟩ : ByteArray) = ⟨(Lib.bytesOf xs).toArray⟩ := by
          apply ByteArray.ext
          show (#[] : Array UInt8) ++ (Lib.bytesOf xs).toArray = (Lib.bytesOf xs).toArray
          simp
        rw [he] at hload
        refine ⟨.int .i64 (Lib.indexByte (Lib.bytesOf xs) b.toNat.toUInt8), ?_, by simp [emb] <;> rfl⟩
        have hb1 : (Extern.Bytes.bytesOf (.slice (some a) n c)).run P w = .ok ⟨(Lib.bytesOf xs).toArray⟩ w := by simpa [Extern.Bytes.bytesOf] using hload
        have hb2 : (Extern.Bytes.bytesOf (.string ⟨(Lib.bytesOf xs).toArray⟩)).run P w = .ok ⟨(Lib.bytesOf xs).toArray⟩ w := by simp [Extern.Bytes.bytesOf]
        refine sem_bind_ok hb1 ?_
        have hs2 := sem_bind_of hb2 hs
        exact hs2) h1 h hx
    exact yields_extern hf hname hb hn he h5 h6
theorem ext_self {ext : Exts} {k : Nat} (hk : ext k = aSelf) {f : FuncId} {fn : Func} (hf : P.funcs[f]? = some fn) (hname : (fn.name == "runtime.NumGoroutine") = false)
    (hb : fn.body.isNone = true) (hn : Extern.findNext fn = none) (he : Extern.find fn = some Extern.AbiNoEscape.same) : ExtSim P ext f k := by
  intro S args H v H' m w vargs hG hx h ha
  rw [hk] at hx
  match args, hx, ha with
  | [x], hx, ha =>
    obtain ⟨y, ys, h1, h2, rfl⟩ := embL_cons ha
    simp only [embL] at h2; cases h2
    obtain ⟨rfl, rfl⟩ := pure_some hx
    have hr : (Extern.AbiNoEscape.same #[y]).run P w = .ok y w := by
      have : Extern.AbiNoEscape.same #[y] = pure y := rfl
      rw [this]; simp
    exact yields_extern hf hname hb hn he hr (Out.same h h1)
end
end Go.Am

set_option linter.unusedVariables false
namespace Go.Am
open Go
noncomputable def fA : AVal → AVal := @AVal.rec (fun _ => AVal) (fun _ => PUnit) AVal.bool AVal.int AVal.str AVal.nptr AVal.ptr AVal.nslice AVal.slice AVal.nfunc (fun f a b _ _ => AVal.func f a b) AVal.niface (fun t v _ => AVal.iface t v) (fun l _ => AVal.agg l) (fun l _ => AVal.tuple l) AVal.yield AVal.eslice AVal.map AVal.nmap PUnit.unit (fun _ _ _ _ => PUnit.unit)
theorem fA_eq (v : AVal) : fA v = v := by cases v <;> rfl
noncomputable def fO : AObj → AObj := @AObj.rec (fun _ => AObj) AObj.dead AObj.row AObj.iter AObj.loop AObj.mapo
theorem fO_eq (v : AObj) : fO v = v := by cases v <;> rfl
noncomputable def hF (H : AHeap) : AHeap := ⟨Nat.add H.n 0, fun i => fO (H.get i)⟩
theorem hF_eq (H : AHeap) : hF H = H := by simp only [hF, fO_eq]; rfl
noncomputable def xl (fr : AFrame) (d : Nat) (v : AVal) : AFrame := fun i => @Bool.rec (fun _ => AVal) (fA (fr i)) v (Nat.beq i d)
theorem xl_eq (fr : AFrame) (d : Nat) (v : AVal) : xl fr d v = upd fr d v := by
  funext i
  unfold xl upd
  rw [fA_eq]
  cases Nat.beq i d <;> rfl
noncomputable def xput (fr : AFrame) (d : Option Nat) (v : AVal) : AFrame := @Option.rec Nat (fun _ => AFrame) fr (fun d => xl fr d v) d
theorem xput_eq (fr : AFrame) (d : Option Nat) (v : AVal) : xput fr d v = put fr d v := by
  cases d with
  | none => rfl
  | some d => exact xl_eq fr d v
noncomputable def xev (fr : AFrame) (x : ROpd) : AVal := @ROpd.rec (fun _ => AVal) (fun t => fr t) (fun v => v) x
theorem xev_eq (fr : AFrame) (x : ROpd) : xev fr x = x.ev fr := by cases x <;> rfl
noncomputable def xwant (o : ROper) (fr : AFrame) : Bool := @Option.rec (Nat × Bool) (fun _ => Bool) true (fun g => match fr g.1 with | .bool b => (match g.2 with | true => b | false => !b) | _ => false) o.guard
theorem xwant_eq (o : ROper) (fr : AFrame) : xwant o fr = o.wanted fr := by
  unfold xwant ROper.wanted
  cases o.guard with
  | none => rfl
  | some g => rfl
noncomputable def xW (r : Option (AVal × AHeap)) : Option (AVal × AHeap) := match r with | some (v, H) => some (v, hF H) | none => none
theorem xW_eq (r : Option (AVal × AHeap)) : xW r = r := by
  cases r with
  | none => rfl
  | some p => simp only [xW, hF_eq]
abbrev XF := ACall → AFrame → AHeap → Option (AVal × AHeap)
noncomputable def x_mov : ROpd → XF := fun x _ fr H => some (xev fr x, H)
noncomputable def x_pick : ROpd → ROpd → ROpd → XF := fun c a b _ fr H => match xev fr c with | .bool t => some (match t with | true => xev fr a | false => xev fr b, H) | _ => none
noncomputable def x_new : TypeId → (List AVal) → XF := fun e cs _ _ H => some (.ptr H.n 0, hF (H.push (.row cs true (2 * e))))
noncomputable def x_box : TypeId → ROpd → XF := fun e x _ fr H => some (.ptr H.n 0, hF (H.push (.row (xev fr x).cells true (2 * e))))
noncomputable def x_build : (List AVal) → (List (Nat × Nat × ROpd)) → XF := fun x0 x1 call fr H => ROp.exec call fr (ROp.build x0 x1) H
noncomputable def x_buildSlice : TypeId → Nat → Nat → (List AVal) → (List (Nat × Nat × ROpd)) → XF := fun x0 x1 x2 x3 x4 call fr H => xW (ROp.exec call fr (ROp.buildSlice x0 x1 x2 x3 x4) H)
noncomputable def x_load : (Option Nat) → ROpd → XF := fun g a _ fr H => aLoad g (xev fr a) H
noncomputable def x_store : Nat → ROpd → ROpd → XF := fun n a x _ fr H => xW (aStore n (xev fr a) (xev fr x) H)
noncomputable def x_nilCheck : ROpd → XF := fun x0 call fr H => ROp.exec call fr (ROp.nilCheck x0) H
noncomputable def x_bin : BinOp → ROpd → ROpd → XF := fun op x y _ fr H => M.ofOption (aBin op (xev fr x) (xev fr y)) H
noncomputable def x_eq : Bool → EqDesc → ROpd → ROpd → XF := fun x0 x1 x2 x3 call fr H => ROp.exec call fr (ROp.eq x0 x1 x2 x3) H
noncomputable def x_un : UnOp → ROpd → XF := fun x0 x1 call fr H => ROp.exec call fr (ROp.un x0 x1) H
noncomputable def x_convInt : IntKind → ROpd → XF := fun x0 x1 call fr H => ROp.exec call fr (ROp.convInt x0 x1) H
noncomputable def x_mkIface : TypeId → ROpd → XF := fun x0 x1 call fr H => ROp.exec call fr (ROp.mkIface x0 x1) H
noncomputable def x_mkFunc : Fn → (List ROpd) → (List ROpd) → XF := fun fn first caps _ fr H => some (.func fn (first.map (·.ev fr)) (caps.map (·.ev fr)), H)
noncomputable def x_makeSlice : TypeId → (List AVal) → Nat → ROpd → ROpd → XF := fun x0 x1 x2 x3 x4 call fr H => xW (ROp.exec call fr (ROp.makeSlice x0 x1 x2 x3 x4) H)
noncomputable def x_sliceS : Nat → ROpd → (Option ROpd) → (Option ROpd) → (Option ROpd) → XF := fun sz x lo hi mx _ fr H => aSliceS sz (xev fr x) (lo.map (·.ev fr)) (hi.map (·.ev fr)) (mx.map (·.ev fr)) H
noncomputable def x_sliceStr : ROpd → (Option ROpd) → (Option ROpd) → XF := fun x0 x1 x2 call fr H => ROp.exec call fr (ROp.sliceStr x0 x1 x2) H
noncomputable def x_sliceArr : Nat → Nat → ROpd → (Option ROpd) → (Option ROpd) → (Option ROpd) → XF := fun x0 x1 x2 x3 x4 x5 call fr H => ROp.exec call fr (ROp.sliceArr x0 x1 x2 x3 x4 x5) H
noncomputable def x_fieldAddr : Nat → ROpd → XF := fun off x _ fr H => M.ofOption (aFieldAddr off (xev fr x)) H
noncomputable def x_field : (Option Nat) → Nat → ROpd → XF := fun x0 x1 x2 call fr H => ROp.exec call fr (ROp.field x0 x1 x2) H
noncomputable def x_idxS : Nat → ROpd → ROpd → XF := fun sz x i _ fr H => M.ofOption (aIdxS sz (xev fr x) (xev fr i)) H
noncomputable def x_idxA : Nat → Nat → ROpd → ROpd → XF := fun x0 x1 x2 x3 call fr H => ROp.exec call fr (ROp.idxA x0 x1 x2 x3) H
noncomputable def x_indexA : Nat → Nat → Bool → ROpd → ROpd → XF := fun x0 x1 x2 x3 x4 call fr H => ROp.exec call fr (ROp.indexA x0 x1 x2 x3 x4) H
noncomputable def x_indexStr : ROpd → ROpd → XF := fun x0 x1 call fr H => ROp.exec call fr (ROp.indexStr x0 x1) H
noncomputable def x_rangeStr : ROpd → XF := fun x0 call fr H => ROp.exec call fr (ROp.rangeStr x0) H
noncomputable def x_nextStr : ROpd → XF := fun x0 call fr H => ROp.exec call fr (ROp.nextStr x0) H
noncomputable def x_extract : ROpd → Nat → XF := fun x i _ fr H => M.ofOption (aExtract i (xev fr x)) H
noncomputable def x_call : ROpd → (List ROpd) → XF := fun f args call fr H => aCallV call (xev fr f) (args.map (·.ev fr)) H
noncomputable def x_lenS : ROpd → XF := fun x _ fr H => M.ofOption (aLenS (xev fr x)) H
noncomputable def x_lenStr : ROpd → XF := fun x0 call fr H => ROp.exec call fr (ROp.lenStr x0) H
noncomputable def x_lenA : Nat → XF := fun x0 call fr H => ROp.exec call fr (ROp.lenA x0) H
noncomputable def x_capS : ROpd → XF := fun x0 call fr H => ROp.exec call fr (ROp.capS x0) H
noncomputable def x_appendZ : TypeId → Nat → Nat → (List AVal) → ROpd → ROpd → XF := fun x0 x1 x2 x3 x4 x5 call fr H => xW (ROp.exec call fr (ROp.appendZ x0 x1 x2 x3 x4 x5) H)
noncomputable def x_append : TypeId → Nat → Nat → ROpd → ROpd → XF := fun e sz bytes x y _ fr H => xW (aAppend e sz bytes (xev fr x) (xev fr y) H)
noncomputable def x_copy : Nat → ROpd → ROpd → XF := fun x0 x1 x2 call fr H => xW (ROp.exec call fr (ROp.copy x0 x1 x2) H)
noncomputable def x_minmax : Bool → (List ROpd) → XF := fun b xs _ fr H => (match xs with | [] => M.fail | x :: rest => M.ofOption (aMinMax b (xev fr x) (rest.map (fun y => ROpd.ev fr y)))) H
noncomputable def x_bytesToStr : ROpd → XF := fun x0 call fr H => xW (ROp.exec call fr (ROp.bytesToStr x0) H)
noncomputable def x_strToBytes : TypeId → ROpd → XF := fun x0 x1 call fr H => xW (ROp.exec call fr (ROp.strToBytes x0 x1) H)
noncomputable def x_uptr : TypeId → Nat → ROpd → XF := fun x0 x1 x2 call fr H => xW (ROp.exec call fr (ROp.uptr x0 x1 x2) H)
noncomputable def x_sliceData : Nat → ROpd → XF := fun x0 x1 call fr H => xW (ROp.exec call fr (ROp.sliceData x0 x1) H)
noncomputable def x_unsafeStr : TypeId → ROpd → ROpd → XF := fun x0 x1 x2 call fr H => xW (ROp.exec call fr (ROp.unsafeStr x0 x1 x2) H)
noncomputable def x_lookup : EqDesc → AVal → Bool → ROpd → ROpd → XF := fun x0 x1 x2 x3 x4 call fr H => ROp.exec call fr (ROp.lookup x0 x1 x2 x3 x4) H
noncomputable def x_mapLit : (List (AVal × AVal)) → XF := fun x0 call fr H => ROp.exec call fr (ROp.mapLit x0) H
noncomputable def xOp : ROp → XF := @ROp.rec (fun _ => XF) x_mov x_pick x_new x_box x_build x_buildSlice x_load x_store x_nilCheck x_bin x_eq x_un x_convInt x_mkIface x_mkFunc x_makeSlice x_sliceS x_sliceStr x_sliceArr x_fieldAddr x_field x_idxS x_idxA x_indexA x_indexStr x_rangeStr x_nextStr x_extract x_call x_lenS x_lenStr x_lenA x_capS x_appendZ x_append x_copy x_minmax x_bytesToStr x_strToBytes x_uptr x_sliceData x_unsafeStr x_lookup x_mapLit
theorem xOp_eq (op : ROp) (call : ACall) (fr : AFrame) (H : AHeap) : xOp op call fr H = op.exec call fr H := by
  cases op
  case pick c a b =>
    show x_pick c a b call fr H = _
    simp only [x_pick, xev_eq, ROp.exec]
    cases c.ev fr <;> rfl
  all_goals first
    | rfl
    | exact xW_eq _
    | (unfold xOp; simp only [x_mov, x_new, x_box, x_load, x_store, x_bin, x_fieldAddr, x_idxS, x_extract, x_call, x_lenS, x_sliceS, x_append, x_minmax, xev_eq, hF_eq, xW_eq]; rfl)
abbrev XO := ACall → AFrame → AHeap → Option (AFrame × AHeap)
def xNil : XO := fun _ fr H => some (fr, H)
noncomputable def xCons (o : ROper) (_ : List ROper) (ih : XO) : XO := fun call fr H => @Bool.rec (fun _ => Option (AFrame × AHeap)) (ih call (xput fr o.dst aundef) H)
  (@Option.rec (AVal × AHeap) (fun _ => Option (AFrame × AHeap)) none (fun p => @Prod.rec AVal AHeap (fun _ => Option (AFrame × AHeap)) (fun v H' => @Option.rec Nat (fun _ => Option (AFrame × AHeap)) (ih call fr H') (fun d => ih call (xl fr d v) H') o.dst) p) (xOp o.op call fr H)) (xwant o fr)
noncomputable def xOps : List ROper → XO := @List.rec ROper (fun _ => XO) xNil xCons
theorem xOps_eq (call : ACall) : ∀ (os : List ROper) (fr : AFrame) (H : AHeap), xOps os call fr H = execOps call os fr H := by
  intro os
  induction os with
  | nil => intro fr H; rfl
  | cons o os ih =>
    intro fr H
    show xCons o os (xOps os) call fr H = _
    unfold xCons execOps
    rw [xwant_eq, xOp_eq]
    cases o.wanted fr with
    | false => rw [xput_eq]; exact ih _ _
    | true =>
      simp only [M.bind]
      cases o.op.exec call fr H with
      | none => rfl
      | some r =>
        obtain ⟨v, H'⟩ := r
        simp only
        rw [← ih]
        cases o.dst with
        | none => rfl
        | some d =>
          show xOps os call (xl fr d v) H' = _
          rw [xl_eq]
          rfl
abbrev XT := Nat → ACall → AFrame → AHeap → Option (List DRec × AFrame × AHeap)
noncomputable def xLook (fr : AFrame) (op : ROp) (H : AHeap) : Option AVal :=
  match xOp op noCall fr H with
  | some (v, H1) => match Nat.beq H1.n H.n with
    | true => some v
    | false => match op with
      | .sliceS sz x lo hi mx => aSliceE sz (x.ev fr) (lo.map (·.ev fr)) (hi.map (·.ev fr)) (mx.map (·.ev fr))
      | _ => none
  | none => none
theorem xLook_eq (fr : AFrame) (op : ROp) (H : AHeap) : xLook fr op H = op.look fr H := by
  unfold xLook ROp.look
  rw [xOp_eq]
  rfl
noncomputable def xStep (call : ACall) (it : DItem) (ref : Nat) (fr : AFrame) (H : AHeap) : Option (AVal × Bool × AHeap) :=
  match Nat.beq it.cls 2 with
  | true => match xOp it.o.op call fr H with
    | some (v, H1) => some (v, true, H1)
    | none => none
  | false => match Nat.beq it.cls 3 with
    | true => match it.o.op.made fr with
      | some (cs, e, k) => match ghostIs H ref cs e with | true => some (k ref, false, H) | false => none
      | none => none
    | false => match xLook fr it.o.op H with
      | some v => some (v, false, H)
      | none => none
theorem xStep_eq (call : ACall) (it : DItem) (ref : Nat) (fr : AFrame) (H : AHeap) : xStep call it ref fr H = dstep call it ref fr H := by
  unfold xStep dstep
  rw [xOp_eq, xLook_eq]
  rfl
def xTNil : XT := fun _ _ fr H => some ([], fr, H)
noncomputable def xTCons (it : DItem) (_ : List DItem) (ih : XT) : XT := fun ref call fr H =>
    match it.o.wanted fr with
    | false => match ih (nextRef it.cls ref) call (xput fr it.o.dst aundef) H with
      | some (R, fr', H') => some (⟨it.o, it.b, it.cls, fr, aundef, false, false, H, ref⟩ :: R, fr', H')
      | none => none
    | true => match xStep call it ref fr H with
      | none => none
      | some (v, eff, H1) => match ih (nextRef it.cls ref) call (xput fr it.o.dst v) H1 with
        | some (R, fr', H') => some (⟨it.o, it.b, it.cls, fr, v, true, eff, H1, ref⟩ :: R, fr', H')
        | none => none
noncomputable def xText : List DItem → XT := @List.rec DItem (fun _ => XT) xTNil xTCons
theorem xText_eq (call : ACall) : ∀ (its : List DItem) (ref : Nat) (fr : AFrame) (H : AHeap), xText its ref call fr H = dtext call its ref fr H := by
  intro its
  induction its with
  | nil => intro ref fr H; rfl
  | cons it its ih =>
    intro ref fr H
    show xTCons it its (xText its) ref call fr H = _
    unfold xTCons dtext
    simp only [xput_eq]
    cases it.o.wanted fr with
    | false => simp only [ih]; rfl
    | true =>
      simp only [xStep_eq]
      cases dstep call it ref fr H with
      | none => rfl
      | some r => simp only [ih]; rfl
noncomputable def xOkAt (r : DRec) (H : AHeap) : Bool :=
  match Nat.beq r.cls 3 with
  | true => match r.o.op.made r.fr with
    | some (cs, e, _) => ghostIs H r.ref cs e
    | none => false
  | false => match xLook r.fr r.o.op H with
    | some v => abeq v r.v
    | none => false
theorem xOkAt_eq (r : DRec) (H : AHeap) : xOkAt r H = r.okAt H := by
  unfold xOkAt DRec.okAt
  rw [xLook_eq]
  rfl
noncomputable def xChk (r : DRec) (k : Nat) : List DRec → Nat → AHeap → Bool → Bool := @List.rec DRec (fun _ => Nat → AHeap → Bool → Bool)
  (fun _ cur may => match may with | true => xOkAt r cur | false => true)
  (fun e _ ih i cur may => match e.eff with
    | false => ih (i + 1) cur may
    | true => match may with
      | false => ih (i + 1) e.hp (!(e.b.testBit k))
      | true => match r.b.testBit i with
        | true => ih (i + 1) e.hp (!(e.b.testBit k))
        | false => match xOkAt r cur with
          | true => ih (i + 1) e.hp (!(e.b.testBit k))
          | false => false)
theorem xChk_eq (r : DRec) (k : Nat) : ∀ (es : List DRec) (i : Nat) (cur : AHeap) (may : Bool), xChk r k es i cur may = r.chk k es i cur may := by
  intro es
  induction es with
  | nil =>
    intro i cur may
    cases may
    · rfl
    · show xOkAt r cur = (false || r.okAt cur)
      rw [xOkAt_eq]; rfl
  | cons e es ih =>
    intro i cur may
    unfold DRec.chk
    show (match e.eff with
    | false => xChk r k es (i + 1) cur may
    | true => match may with
      | false => xChk r k es (i + 1) e.hp (!(e.b.testBit k))
      | true => match r.b.testBit i with
        | true => xChk r k es (i + 1) e.hp (!(e.b.testBit k))
        | false => match xOkAt r cur with
          | true => xChk r k es (i + 1) e.hp (!(e.b.testBit k))
          | false => false) = _
    cases e.eff with
    | false => exact ih _ _ _
    | true =>
      simp only [ih, xOkAt_eq]
      cases may <;> cases r.b.testBit i <;> cases r.okAt cur <;> simp
noncomputable def xCheck (R : List DRec) (H0 : AHeap) : List DRec → Nat → Bool := @List.rec DRec (fun _ => Nat → Bool)
  (fun _ => true)
  (fun r _ ih k => match r.want with
    | false => ih (k + 1)
    | true => match Nat.beq r.cls 1 with
      | true => (match xChk r k R 0 H0 true with | true => ih (k + 1) | false => false)
      | false => match Nat.beq r.cls 3 with
        | true => (match xChk r k R 0 H0 true with | true => ih (k + 1) | false => false)
        | false => ih (k + 1))
theorem xCheck_eq (R : List DRec) (H0 : AHeap) : ∀ (rs : List DRec) (k : Nat), xCheck R H0 rs k = dcheck R H0 rs k := by
  intro rs
  induction rs with
  | nil => intro k; rfl
  | cons r rs ih =>
    intro k
    unfold dcheck
    show (match r.want with
    | false => xCheck R H0 rs (k + 1)
    | true => match Nat.beq r.cls 1 with
      | true => (match xChk r k R 0 H0 true with | true => xCheck R H0 rs (k + 1) | false => false)
      | false => match Nat.beq r.cls 3 with
        | true => (match xChk r k R 0 H0 true with | true => xCheck R H0 rs (k + 1) | false => false)
        | false => xCheck R H0 rs (k + 1)) = _
    simp only [ih, xChk_eq]
    cases r.want <;> cases Nat.beq r.cls 1 <;> cases Nat.beq r.cls 3 <;> simp <;> cases r.chk k R 0 H0 true <;> rfl
abbrev XC := ACall → Nat → AFrame → AHeap → Option ((RExit × AFrame) × AHeap)
def xSkip : XC := fun _ _ fr H => some ((.normal, fr), H)
noncomputable def xRegion (ops : List ROper) : XC := fun call _ fr H => match xOps ops call fr H with
  | some (fr', H') => some ((.normal, fr'), H')
  | none => none
noncomputable def xDregion (ops : List DItem) : XC := fun call _ fr H => match xText ops H.n call fr (hF (pushAll H (oracle ops H.n fr H))) with
  | some (R, fr', H') => match xCheck R (hF (pushAll H (oracle ops H.n fr H))) R 0 with | true => some ((.normal, fr'), H') | false => none
  | none => none
noncomputable def xSeq (_ _ : RCode) (a b : XC) : XC := fun call lf fr H => @Option.rec ((RExit × AFrame) × AHeap) (fun _ => Option ((RExit × AFrame) × AHeap)) none
  (fun p => @Prod.rec (RExit × AFrame) AHeap (fun _ => Option ((RExit × AFrame) × AHeap)) (fun y H' => @Prod.rec RExit AFrame (fun _ => Option ((RExit × AFrame) × AHeap)) (fun x fr' => match x with
    | .normal => b call lf fr' H'
    | e => some ((e, fr'), H')) y) p) (a call lf fr H)
noncomputable def xCond (c : ROpd) (_ _ : RCode) (t e : XC) : XC := fun call lf fr H => match xev fr c with
  | .bool b => match b with | true => t call lf fr H | false => e call lf fr H
  | _ => none
def xBlock (id : Nat) (_ : RCode) (b : XC) : XC := fun call lf fr H => match b call lf fr H with
  | some ((x, fr'), H') => match x with
    | .exit id' => match Nat.beq id' id with | true => some ((.normal, fr'), H') | false => some ((.exit id', fr'), H')
    | e => some ((e, fr'), H')
  | none => none
noncomputable def xLoopN (body : AFrame → AHeap → Option ((RExit × AFrame) × AHeap)) : Nat → AFrame → AHeap → Option ((RExit × AFrame) × AHeap) := @Nat.rec (fun _ => AFrame → AHeap → Option ((RExit × AFrame) × AHeap))
  (fun _ _ => none)
  (fun _ ih fr H => match body fr H with
    | some ((x, fr'), H') => match x with
      | .normal => ih fr' H'
      | e => some ((e, fr'), H')
    | none => none)
noncomputable def xLoop (_ : RCode) (b : XC) : XC := fun call lf fr H => xLoopN (b call lf) lf fr H
def xScope (_ : RCode) (b : XC) : XC := b
def xExit (id : Nat) : XC := fun _ _ fr H => some ((.exit id, fr), H)
def xRet : XC := fun _ _ fr H => some ((.ret, fr), H)
def xFail : XC := fun _ _ _ _ => none
noncomputable def xRange (fns : List FuncId) (nt : Nat) (g : ROpd) (ps : List Nat) (a b : RCode) (_ _ : XC) : XC := fun call _ fr H => match g.ev fr, fr nt with
    | .func (.func gf) fi ca, .tuple vs => match fns.contains gf with
      | true => match call gf (fi ++ [.yield (H.n + 1)] ++ ca) (hF ((H.push .dead).push (.loop ⟨H.n, nt, fr, ps, a, b, 0, .normal⟩))) with
        | some (_, H2) => match H2.get (H.n + 1) with
          | .loop R => match Nat.beq R.st 1 || Nat.beq R.st 4 with
            | false => some ((R.pend, upd fr nt (.tuple (.ptr H.n (H.n + 1) :: vs))), hF <| H2.set (H.n + 1) (.loop { R with st := 3 }))
            | true => none
          | _ => none
        | none => none
      | false => none
    | _, _ => none
noncomputable def xCode : RCode → XC := @RCode.rec (fun _ => XC) xSkip xRegion xDregion xSeq xCond xBlock xLoop xScope xSkip xExit xRet xFail xRange
noncomputable def xRun (ext : Exts) (call : ACall) (lf : Nat) (fn : RFunc) (args : List AVal) (H : AHeap) : Option (AVal × AHeap) :=
  match fn.body with
  | .ext name => ext name args H
  | .code c => match Nat.blt fn.nt args.length with
    | true => none
    | false => match xCode c call lf (argFrame args) H with
      | some ((x, fr), H1) => match x with
        | .exit _ => none
        | _ => match getAll fr fn.results H1 with
          | some (vs, H2) => some (aResult vs, H2)
          | none => none
      | none => none
  | .ranges c => match Nat.blt fn.nt args.length with
    | true => none
    | false => match xCode c call lf (argFrame args) H with
      | some ((x, fr), H1) => match x with
        | .exit _ => none
        | _ => match takeMarks (marksOf (fr fn.nt)) H1 with
          | some (_, H2) => match getAll fr fn.results H2 with
            | some (vs, H3) => some (aResult vs, H3)
            | none => none
          | none => none
      | none => none
noncomputable def xRound (call : ACall) (lf : Nat) (r : Nat) (args : List AVal) (H : AHeap) : Option (AVal × AHeap) :=
  match Nat.blt r H.n, H.get r with
  | true, .loop R => match Nat.beq args.length R.ps.length && R.ps.all (fun t => Nat.blt t R.nt) with
    | true => match xCode R.assign call lf (setAll R.fr (R.ps.zip args)) H with
      | some ((.normal, fr1), H1) => match H1.get r with
        | .loop R1 => match Nat.beq R1.st 0 with
          | true => match xCode R.body call lf fr1 (hF (H1.set r (.loop { R1 with st := 1 }))) with
            | some ((x, _), H2) => match H2.get r with
              | .loop R2 => match Nat.beq R2.st 1 with
                | true => some (.bool (match x with | .normal => true | _ => false), hF <| H2.set r (.loop { R2 with st := (match x with | .normal => 0 | _ => 2), pend := x }))
                | false => none
              | _ => none
            | none => none
          | false => none
        | _ => none
      | _ => none
    | false => none
  | _, _ => none
noncomputable def xCallN (ext : Exts) (prog : FuncId → Option RFunc) : Nat → ACall := @Nat.rec (fun _ => ACall) (fun _ _ _ => none)
  (fun n ih f args H => match prog f with
    | some fn => xRun ext ih n fn args H
    | none => match Nat.beq f yieldId, args with
      | true, .yield r :: as1 => xRound ih n r as1 H
      | _, _ => none)
theorem xLoopN_eq (body : AFrame → M (RExit × AFrame)) : ∀ (n : Nat) (fr : AFrame) (H : AHeap), xLoopN body n fr H = loopN body n fr H := by
  intro n
  induction n with
  | zero => intro fr H; rfl
  | succ n ih =>
    intro fr H
    show (match body fr H with
    | some ((x, fr'), H') => match x with
      | .normal => xLoopN body n fr' H'
      | e => some ((e, fr'), H')
    | none => none) = _
    simp only [loopN, M.bind]
    cases body fr H with
    | none => rfl
    | some r =>
      obtain ⟨⟨x, fr'⟩, H'⟩ := r
      cases x with
      | normal => exact ih _ _
      | _ => rfl
theorem xCode_eq (call : ACall) (lf : Nat) : ∀ (c : RCode) (fr : AFrame) (H : AHeap), xCode c call lf fr H = c.exec call lf fr H := by
  intro c
  induction c with
  | skip => intro fr H; rfl
  | label => intro fr H; rfl
  | exit id => intro fr H; rfl
  | ret => intro fr H; rfl
  | fail => intro fr H; rfl
  | region ops =>
    intro fr H
    show xRegion ops call lf fr H = _
    simp only [xRegion, xOps_eq, RCode.exec, M.bind]
    cases execOps call ops fr H <;> rfl
  | dregion ops =>
    intro fr H
    show xDregion ops call lf fr H = _
    simp only [xDregion, hF_eq, xText_eq, xCheck_eq, RCode.exec]
    rfl
  | seq a b iha ihb =>
    intro fr H
    show xSeq a b (xCode a) (xCode b) call lf fr H = _
    simp only [xSeq, iha, RCode.exec, M.bind]
    cases a.exec call lf fr H with
    | none => rfl
    | some r =>
      obtain ⟨⟨x, fr'⟩, H'⟩ := r
      cases x with
      | normal => exact ihb _ _
      | _ => rfl
  | cond c t e iht ihe =>
    intro fr H
    show xCond c t e (xCode t) (xCode e) call lf fr H = _
    simp only [xCond, xev_eq, iht, ihe, RCode.exec]
    cases c.ev fr with
    | bool b => cases b <;> rfl
    | _ => rfl
  | block id b ih =>
    intro fr H
    show xBlock id b (xCode b) call lf fr H = _
    simp only [xBlock, ih, RCode.exec, M.bind]
    cases b.exec call lf fr H with
    | none => rfl
    | some r =>
      obtain ⟨⟨x, fr'⟩, H'⟩ := r
      cases x with
      | exit id' => simp only; cases Nat.beq id' id <;> rfl
      | _ => rfl
  | loop b ih =>
    intro fr H
    show xLoopN (xCode b call lf) lf fr H = _
    rw [show xCode b call lf = b.exec call lf from funext fun fr => funext fun H => ih fr H, xLoopN_eq]
    rfl
  | scope b ih => intro fr H; exact ih fr H
  | rangeFunc fns nt g ps a b _ _ =>
    intro fr H
    show xRange fns nt g ps a b (xCode a) (xCode b) call lf fr H = _
    simp only [xRange, hF_eq, RCode.exec]
    rfl
theorem xRun_eq (ext : Exts) (call : ACall) (lf : Nat) (fn : RFunc) (args : List AVal) (H : AHeap) : xRun ext call lf fn args H = fn.run ext call lf args H := by
  unfold xRun RFunc.run
  cases fn.body with
  | ext name => rfl
  | code c =>
    simp only [xCode_eq]
    cases e : Nat.blt fn.nt args.length with
    | true =>
      have h : fn.nt < args.length := by rw [← Nat.blt_eq]; exact e
      rw [if_pos h]; rfl
    | false =>
      have h : ¬ fn.nt < args.length := by rw [← Nat.blt_eq, e]; exact Bool.noConfusion
      rw [if_neg h]
      simp only [M.bind]
      cases c.exec call lf (argFrame args) H with
      | none => rfl
      | some r =>
        obtain ⟨⟨x, fr⟩, H1⟩ := r
        cases x <;> first
          | rfl
          | (simp only [M.bind]; cases getAll fr fn.results H1 <;> rfl)
  | ranges c =>
    simp only [xCode_eq]
    cases e : Nat.blt fn.nt args.length with
    | true =>
      have h : fn.nt < args.length := by rw [← Nat.blt_eq]; exact e
      rw [if_pos h]; rfl
    | false =>
      have h : ¬ fn.nt < args.length := by rw [← Nat.blt_eq, e]; exact Bool.noConfusion
      rw [if_neg h]
      simp only [M.bind]
      cases c.exec call lf (argFrame args) H with
      | none => rfl
      | some r =>
        obtain ⟨⟨x, fr⟩, H1⟩ := r
        cases x <;> first
          | rfl
          | (simp only [M.bind]
             cases takeMarks (marksOf (fr fn.nt)) H1 with
             | none => rfl
             | some r2 =>
               obtain ⟨u, H2⟩ := r2
               simp only
               cases getAll fr fn.results H2 <;> rfl)
theorem xRound_eq (call : ACall) (lf : Nat) (r : Nat) (args : List AVal) (H : AHeap) : xRound call lf r args H = roundRun call lf r args H := by
  unfold xRound roundRun
  simp only [xCode_eq, hF_eq]
  rfl
theorem xCallN_eq (ext : Exts) (prog : FuncId → Option RFunc) : ∀ (n : Nat) (f : FuncId) (args : List AVal) (H : AHeap), xCallN ext prog n f args H = callN ext prog n f args H := by
  intro n
  induction n with
  | zero => intro f args H; rfl
  | succ n ih =>
    intro f args H
    have ih' : xCallN ext prog n = callN ext prog n := funext fun f => funext fun a => funext fun H => ih f a H
    show (match prog f with
    | some fn => xRun ext (xCallN ext prog n) n fn args H
    | none => match Nat.beq f yieldId, args with
      | true, .yield r :: as1 => xRound (xCallN ext prog n) n r as1 H
      | _, _ => none) = _
    unfold callN
    simp only [ih', xRun_eq, xRound_eq]
    cases prog f with
    | some fn => rfl
    | none =>
      cases Nat.beq f yieldId <;> cases args with
      | nil => rfl
      | cons a l => cases a <;> rfl
end Go.Am

namespace Go.Am
open Go Go.Proofs
theorem ext_of {P : Program} {e e' : Exts} {f : FuncId} {k : Nat} (h : ExtSim P e f k) (hk : e' k = e k) : ExtSim P e' f k := fun S args H v H' m w vargs hG hx => h S args H v H' m w vargs hG (by rw [← hk]; exact hx)
theorem k7 : cFunc Try.prog Try.f7 = some c7 := by kernel_rfl
theorem k12 : cFunc Try.prog Try.f12 = some c12 := by kernel_rfl
theorem k14 : cFunc Try.prog Try.f14 = some c14 := by kernel_rfl
theorem k15 : cFunc Try.prog Try.f15 = some c15 := by kernel_rfl
theorem k17 : cFunc Try.prog Try.f17 = some c17 := by kernel_rfl
theorem k18 : cFunc Try.prog Try.f18 = some c18 := by kernel_rfl
theorem k27 : cFunc Try.prog Try.f27 = some c27 := by kernel_rfl
theorem k40 : cFunc Try.prog Try.f40 = some c40 := by kernel_rfl
theorem k41 : cFunc Try.prog Try.f41 = some c41 := by kernel_rfl
theorem k47 : cFunc Try.prog Try.f47 = some c47 := by kernel_rfl
theorem k48 : cFunc Try.prog Try.f48 = some c48 := by kernel_rfl
theorem k50 : cFunc Try.prog Try.f50 = some c50 := by kernel_rfl
theorem k51 : cFunc Try.prog Try.f51 = some c51 := by kernel_rfl
theorem k52 : cFunc Try.prog Try.f52 = some c52 := by kernel_rfl
theorem k53 : cFunc Try.prog Try.f53 = some c53 := by kernel_rfl
theorem k56 : cFunc Try.prog Try.f56 = some c56 := by kernel_rfl
theorem k57 : cFunc Try.prog Try.f57 = some c57 := by kernel_rfl
theorem k58 : cFunc Try.prog Try.f58 = some c58 := by kernel_rfl
theorem k59 : cFunc Try.prog Try.f59 = some c59 := by kernel_rfl
theorem k60 : cFunc Try.prog Try.f60 = some c60 := by kernel_rfl
theorem k61 : cFunc Try.prog Try.f61 = some c61 := by kernel_rfl
theorem k62 : cFunc Try.prog Try.f62 = some c62 := by kernel_rfl
theorem k72 : cFunc Try.prog Try.f72 = some c72 := by kernel_rfl
theorem k73 : cFunc Try.prog Try.f73 = some c73 := by kernel_rfl
theorem k79 : cFunc Try.prog Try.f79 = some c79 := by kernel_rfl
theorem k86 : cFunc Try.prog Try.f86 = some c86 := by kernel_rfl
theorem k90 : cFunc Try.prog Try.f90 = some c90 := by kernel_rfl
theorem k91 : cFunc Try.prog Try.f91 = some c91 := by kernel_rfl
theorem k93 : cFunc Try.prog Try.f93 = some c93 := by kernel_rfl
theorem k94 : cFunc Try.prog Try.f94 = some c94 := by kernel_rfl
theorem k95 : cFunc Try.prog Try.f95 = some c95 := by kernel_rfl
theorem k96 : cFunc Try.prog Try.f96 = some c96 := by kernel_rfl
theorem k97 : cFunc Try.prog Try.f97 = some c97 := by kernel_rfl
theorem k98 : cFunc Try.prog Try.f98 = some c98 := by kernel_rfl
theorem k99 : cFunc Try.prog Try.f99 = some c99 := by kernel_rfl
theorem k103 : cFunc Try.prog Try.f103 = some c103 := by kernel_rfl
theorem k110 : cFunc Try.prog Try.f110 = some c110 := by kernel_rfl
theorem k111 : ExtSim Try.prog ext 111 0 := ext_count rfl Try.func111 (by kernel_rfl) (by kernel_rfl) (by kernel_rfl) (by kernel_rfl)
theorem k112 : cFunc Try.prog Try.f112 = some c112 := by kernel_rfl
theorem k113 : cFunc Try.prog Try.f113 = some c113 := by kernel_rfl
theorem k114 : cFunc Try.prog Try.f114 = some c114 := by kernel_rfl
theorem k115 : cFunc Try.prog Try.f115 = some c115 := by kernel_rfl
theorem k116 : cFunc Try.prog Try.f116 = some c116 := by kernel_rfl
theorem k117 : cFunc Try.prog Try.f117 = some c117 := by kernel_rfl
theorem k118 : cFunc Try.prog Try.f118 = some c118 := by kernel_rfl
theorem k119 : cFunc Try.prog Try.f119 = some c119 := by kernel_rfl
theorem k120 : cFunc Try.prog Try.f120 = some c120 := by kernel_rfl
theorem k121 : cFunc Try.prog Try.f121 = some c121 := by kernel_rfl
theorem k122 : cFunc Try.prog Try.f122 = some c122 := by kernel_rfl
theorem k123 : cFunc Try.prog Try.f123 = some c123 := by kernel_rfl
theorem k127 : cFunc Try.prog Try.f127 = some c127 := by kernel_rfl
theorem k128 : cFunc Try.prog Try.f128 = some c128 := by kernel_rfl
theorem k129 : cFunc Try.prog Try.f129 = some c129 := by kernel_rfl
theorem k131 : cFunc Try.prog Try.f131 = some c131 := by kernel_rfl
theorem k132 : cFunc Try.prog Try.f132 = some c132 := by kernel_rfl
theorem k133 : cFunc Try.prog Try.f133 = some c133 := by kernel_rfl
theorem k134 : cFunc Try.prog Try.f134 = some c134 := by kernel_rfl
theorem k135 : cFunc Try.prog Try.f135 = some c135 := by kernel_rfl
theorem k136 : cFunc Try.prog Try.f136 = some c136 := by kernel_rfl
theorem k137 : cFunc Try.prog Try.f137 = some c137 := by kernel_rfl
theorem k138 : cFunc Try.prog Try.f138 = some c138 := by kernel_rfl
theorem k140 : ExtSim Try.prog ext 140 1 := ext_indexByte rfl Try.func140 (by kernel_rfl) (by kernel_rfl) (by kernel_rfl) (by kernel_rfl)
theorem k141 : cFunc Try.prog Try.f141 = some c141 := by kernel_rfl
theorem k142 : cFunc Try.prog Try.f142 = some c142 := by kernel_rfl
theorem cond_some {α : Type} {b : Bool} {x y : Option α} {v : α} (h : cond b x y = some v) : (b = true ∧ x = some v) ∨ (b = false ∧ y = some v) := by cases b <;> simp_all
theorem progOk0 : ProgOk Try.prog ext prog0 := by
  refine ⟨rfl, by decide +kernel, ?_⟩
  intro f rf h
  unfold prog0 at h
  rcases cond_some h with ⟨_, h⟩ | ⟨_, h⟩
  · skip
    rcases cond_some h with ⟨_, h⟩ | ⟨_, h⟩
    · skip
      rcases cond_some h with ⟨_, h⟩ | ⟨_, h⟩
      · skip
        rcases cond_some h with ⟨_, h⟩ | ⟨_, h⟩
        · skip
          rcases cond_some h with ⟨_, h⟩ | ⟨_, h⟩
          · skip
            rcases cond_some h with ⟨hb, h⟩ | ⟨_, h⟩
            · obtain rfl := Nat.eq_of_beq_eq_true hb; cases h; exact Or.inl ⟨Try.f12, _, Try.func12, rfl, k12⟩
            · cases h
          · skip
            rcases cond_some h with ⟨_, h⟩ | ⟨_, h⟩
            · skip
              rcases cond_some h with ⟨hb, h⟩ | ⟨_, h⟩
              · obtain rfl := Nat.eq_of_beq_eq_true hb; cases h; exact Or.inl ⟨Try.f14, _, Try.func14, rfl, k14⟩
              · cases h
            · skip
              rcases cond_some h with ⟨hb, h⟩ | ⟨_, h⟩
              · obtain rfl := Nat.eq_of_beq_eq_true hb; cases h; exact Or.inl ⟨Try.f15, _, Try.func15, rfl, k15⟩
              · cases h
        · skip
          rcases cond_some h with ⟨_, h⟩ | ⟨_, h⟩
          · skip
            rcases cond_some h with ⟨_, h⟩ | ⟨_, h⟩
            · skip
              rcases cond_some h with ⟨hb, h⟩ | ⟨_, h⟩
              · obtain rfl := Nat.eq_of_beq_eq_true hb; cases h; exact Or.inl ⟨Try.f17, _, Try.func17, rfl, k17⟩
              · cases h
            · skip
              rcases cond_some h with ⟨hb, h⟩ | ⟨_, h⟩
              · obtain rfl := Nat.eq_of_beq_eq_true hb; cases h; exact Or.inl ⟨Try.f18, _, Try.func18, rfl, k18⟩
              · cases h
          · skip
            rcases cond_some h with ⟨_, h⟩ | ⟨_, h⟩
            · skip
              rcases cond_some h with ⟨hb, h⟩ | ⟨_, h⟩
              · obtain rfl := Nat.eq_of_beq_eq_true hb; cases h; exact Or.inl ⟨Try.f27, _, Try.func27, rfl, k27⟩
              · cases h
            · skip
              rcases cond_some h with ⟨hb, h⟩ | ⟨_, h⟩
              · obtain rfl := Nat.eq_of_beq_eq_true hb; cases h; exact Or.inl ⟨Try.f47, _, Try.func47, rfl, k47⟩
              · cases h
      · skip
        rcases cond_some h with ⟨_, h⟩ | ⟨_, h⟩
        · skip
          rcases cond_some h with ⟨_, h⟩ | ⟨_, h⟩
          · skip
            rcases cond_some h with ⟨_, h⟩ | ⟨_, h⟩
            · skip
              rcases cond_some h with ⟨hb, h⟩ | ⟨_, h⟩
              · obtain rfl := Nat.eq_of_beq_eq_true hb; cases h; exact Or.inl ⟨Try.f48, _, Try.func48, rfl, k48⟩
              · cases h
            · skip
              rcases cond_some h with ⟨hb, h⟩ | ⟨_, h⟩
              · obtain rfl := Nat.eq_of_beq_eq_true hb; cases h; exact Or.inl ⟨Try.f50, _, Try.func50, rfl, k50⟩
              · cases h
          · skip
            rcases cond_some h with ⟨_, h⟩ | ⟨_, h⟩
            · skip
              rcases cond_some h with ⟨hb, h⟩ | ⟨_, h⟩
              · obtain rfl := Nat.eq_of_beq_eq_true hb; cases h; exact Or.inl ⟨Try.f51, _, Try.func51, rfl, k51⟩
              · cases h
            · skip
              rcases cond_some h with ⟨hb, h⟩ | ⟨_, h⟩
              · obtain rfl := Nat.eq_of_beq_eq_true hb; cases h; exact Or.inl ⟨Try.f52, _, Try.func52, rfl, k52⟩
              · cases h
        · skip
          rcases cond_some h with ⟨_, h⟩ | ⟨_, h⟩
          · skip
            rcases cond_some h with ⟨_, h⟩ | ⟨_, h⟩
            · skip
              rcases cond_some h with ⟨hb, h⟩ | ⟨_, h⟩
              · obtain rfl := Nat.eq_of_beq_eq_true hb; cases h; exact Or.inl ⟨Try.f53, _, Try.func53, rfl, k53⟩
              · cases h
            · skip
              rcases cond_some h with ⟨hb, h⟩ | ⟨_, h⟩
              · obtain rfl := Nat.eq_of_beq_eq_true hb; cases h; exact Or.inl ⟨Try.f56, _, Try.func56, rfl, k56⟩
              · cases h
          · skip
            rcases cond_some h with ⟨_, h⟩ | ⟨_, h⟩
            · skip
              rcases cond_some h with ⟨hb, h⟩ | ⟨_, h⟩
              · obtain rfl := Nat.eq_of_beq_eq_true hb; cases h; exact Or.inl ⟨Try.f57, _, Try.func57, rfl, k57⟩
              · cases h
            · skip
              rcases cond_some h with ⟨hb, h⟩ | ⟨_, h⟩
              · obtain rfl := Nat.eq_of_beq_eq_true hb; cases h; exact Or.inl ⟨Try.f58, _, Try.func58, rfl, k58⟩
              · cases h
    · skip
      rcases cond_some h with ⟨_, h⟩ | ⟨_, h⟩
      · skip
        rcases cond_some h with ⟨_, h⟩ | ⟨_, h⟩
        · skip
          rcases cond_some h with ⟨_, h⟩ | ⟨_, h⟩
          · skip
            rcases cond_some h with ⟨hb, h⟩ | ⟨_, h⟩
            · obtain rfl := Nat.eq_of_beq_eq_true hb; cases h; exact Or.inl ⟨Try.f59, _, Try.func59, rfl, k59⟩
            · cases h
          · skip
            rcases cond_some h with ⟨_, h⟩ | ⟨_, h⟩
            · skip
              rcases cond_some h with ⟨hb, h⟩ | ⟨_, h⟩
              · obtain rfl := Nat.eq_of_beq_eq_true hb; cases h; exact Or.inl ⟨Try.f60, _, Try.func60, rfl, k60⟩
              · cases h
            · skip
              rcases cond_some h with ⟨hb, h⟩ | ⟨_, h⟩
              · obtain rfl := Nat.eq_of_beq_eq_true hb; cases h; exact Or.inl ⟨Try.f61, _, Try.func61, rfl, k61⟩
              · cases h
        · skip
          rcases cond_some h with ⟨_, h⟩ | ⟨_, h⟩
          · skip
            rcases cond_some h with ⟨_, h⟩ | ⟨_, h⟩
            · skip
              rcases cond_some h with ⟨hb, h⟩ | ⟨_, h⟩
              · obtain rfl := Nat.eq_of_beq_eq_true hb; cases h; exact Or.inl ⟨Try.f62, _, Try.func62, rfl, k62⟩
              · cases h
            · skip
              rcases cond_some h with ⟨hb, h⟩ | ⟨_, h⟩
              · obtain rfl := Nat.eq_of_beq_eq_true hb; cases h; exact Or.inl ⟨Try.f72, _, Try.func72, rfl, k72⟩
              · cases h
          · skip
            rcases cond_some h with ⟨_, h⟩ | ⟨_, h⟩
            · skip
              rcases cond_some h with ⟨hb, h⟩ | ⟨_, h⟩
              · obtain rfl := Nat.eq_of_beq_eq_true hb; cases h; exact Or.inl ⟨Try.f73, _, Try.func73, rfl, k73⟩
              · cases h
            · skip
              rcases cond_some h with ⟨hb, h⟩ | ⟨_, h⟩
              · obtain rfl := Nat.eq_of_beq_eq_true hb; cases h; exact Or.inl ⟨Try.f79, _, Try.func79, rfl, k79⟩
              · cases h
      · skip
        rcases cond_some h with ⟨_, h⟩ | ⟨_, h⟩
        · skip
          rcases cond_some h with ⟨_, h⟩ | ⟨_, h⟩
          · skip
            rcases cond_some h with ⟨_, h⟩ | ⟨_, h⟩
            · skip
              rcases cond_some h with ⟨hb, h⟩ | ⟨_, h⟩
              · obtain rfl := Nat.eq_of_beq_eq_true hb; cases h; exact Or.inl ⟨Try.f86, _, Try.func86, rfl, k86⟩
              · cases h
            · skip
              rcases cond_some h with ⟨hb, h⟩ | ⟨_, h⟩
              · obtain rfl := Nat.eq_of_beq_eq_true hb; cases h; exact Or.inl ⟨Try.f90, _, Try.func90, rfl, k90⟩
              · cases h
          · skip
            rcases cond_some h with ⟨_, h⟩ | ⟨_, h⟩
            · skip
              rcases cond_some h with ⟨hb, h⟩ | ⟨_, h⟩
              · obtain rfl := Nat.eq_of_beq_eq_true hb; cases h; exact Or.inl ⟨Try.f91, _, Try.func91, rfl, k91⟩
              · cases h
            · skip
              rcases cond_some h with ⟨hb, h⟩ | ⟨_, h⟩
              · obtain rfl := Nat.eq_of_beq_eq_true hb; cases h; exact Or.inl ⟨Try.f93, _, Try.func93, rfl, k93⟩
              · cases h
        · skip
          rcases cond_some h with ⟨_, h⟩ | ⟨_, h⟩
          · skip
            rcases cond_some h with ⟨_, h⟩ | ⟨_, h⟩
            · skip
              rcases cond_some h with ⟨hb, h⟩ | ⟨_, h⟩
              · obtain rfl := Nat.eq_of_beq_eq_true hb; cases h; exact Or.inl ⟨Try.f94, _, Try.func94, rfl, k94⟩
              · cases h
            · skip
              rcases cond_some h with ⟨hb, h⟩ | ⟨_, h⟩
              · obtain rfl := Nat.eq_of_beq_eq_true hb; cases h; exact Or.inl ⟨Try.f95, _, Try.func95, rfl, k95⟩
              · cases h
          · skip
            rcases cond_some h with ⟨_, h⟩ | ⟨_, h⟩
            · skip
              rcases cond_some h with ⟨hb, h⟩ | ⟨_, h⟩
              · obtain rfl := Nat.eq_of_beq_eq_true hb; cases h; exact Or.inl ⟨Try.f96, _, Try.func96, rfl, k96⟩
              · cases h
            · skip
              rcases cond_some h with ⟨hb, h⟩ | ⟨_, h⟩
              · obtain rfl := Nat.eq_of_beq_eq_true hb; cases h; exact Or.inl ⟨Try.f97, _, Try.func97, rfl, k97⟩
              · cases h
  · skip
    rcases cond_some h with ⟨_, h⟩ | ⟨_, h⟩
    · skip
      rcases cond_some h with ⟨_, h⟩ | ⟨_, h⟩
      · skip
        rcases cond_some h with ⟨_, h⟩ | ⟨_, h⟩
        · skip
          rcases cond_some h with ⟨_, h⟩ | ⟨_, h⟩
          · skip
            rcases cond_some h with ⟨hb, h⟩ | ⟨_, h⟩
            · obtain rfl := Nat.eq_of_beq_eq_true hb; cases h; exact Or.inl ⟨Try.f98, _, Try.func98, rfl, k98⟩
            · cases h
          · skip
            rcases cond_some h with ⟨_, h⟩ | ⟨_, h⟩
            · skip
              rcases cond_some h with ⟨hb, h⟩ | ⟨_, h⟩
              · obtain rfl := Nat.eq_of_beq_eq_true hb; cases h; exact Or.inl ⟨Try.f99, _, Try.func99, rfl, k99⟩
              · cases h
            · skip
              rcases cond_some h with ⟨hb, h⟩ | ⟨_, h⟩
              · obtain rfl := Nat.eq_of_beq_eq_true hb; cases h; exact Or.inl ⟨Try.f103, _, Try.func103, rfl, k103⟩
              · cases h
        · skip
          rcases cond_some h with ⟨_, h⟩ | ⟨_, h⟩
          · skip
            rcases cond_some h with ⟨_, h⟩ | ⟨_, h⟩
            · skip
              rcases cond_some h with ⟨hb, h⟩ | ⟨_, h⟩
              · obtain rfl := Nat.eq_of_beq_eq_true hb; cases h; exact Or.inl ⟨Try.f110, _, Try.func110, rfl, k110⟩
              · cases h
            · skip
              rcases cond_some h with ⟨hb, h⟩ | ⟨_, h⟩
              · obtain rfl := Nat.eq_of_beq_eq_true hb; cases h; exact Or.inr ⟨0, rfl, k111⟩
              · cases h
          · skip
            rcases cond_some h with ⟨_, h⟩ | ⟨_, h⟩
            · skip
              rcases cond_some h with ⟨hb, h⟩ | ⟨_, h⟩
              · obtain rfl := Nat.eq_of_beq_eq_true hb; cases h; exact Or.inl ⟨Try.f112, _, Try.func112, rfl, k112⟩
              · cases h
            · skip
              rcases cond_some h with ⟨hb, h⟩ | ⟨_, h⟩
              · obtain rfl := Nat.eq_of_beq_eq_true hb; cases h; exact Or.inl ⟨Try.f113, _, Try.func113, rfl, k113⟩
              · cases h
      · skip
        rcases cond_some h with ⟨_, h⟩ | ⟨_, h⟩
        · skip
          rcases cond_some h with ⟨_, h⟩ | ⟨_, h⟩
          · skip
            rcases cond_some h with ⟨_, h⟩ | ⟨_, h⟩
            · skip
              rcases cond_some h with ⟨hb, h⟩ | ⟨_, h⟩
              · obtain rfl := Nat.eq_of_beq_eq_true hb; cases h; exact Or.inl ⟨Try.f114, _, Try.func114, rfl, k114⟩
              · cases h
            · skip
              rcases cond_some h with ⟨hb, h⟩ | ⟨_, h⟩
              · obtain rfl := Nat.eq_of_beq_eq_true hb; cases h; exact Or.inl ⟨Try.f115, _, Try.func115, rfl, k115⟩
              · cases h
          · skip
            rcases cond_some h with ⟨_, h⟩ | ⟨_, h⟩
            · skip
              rcases cond_some h with ⟨hb, h⟩ | ⟨_, h⟩
              · obtain rfl := Nat.eq_of_beq_eq_true hb; cases h; exact Or.inl ⟨Try.f116, _, Try.func116, rfl, k116⟩
              · cases h
            · skip
              rcases cond_some h with ⟨hb, h⟩ | ⟨_, h⟩
              · obtain rfl := Nat.eq_of_beq_eq_true hb; cases h; exact Or.inl ⟨Try.f117, _, Try.func117, rfl, k117⟩
              · cases h
        · skip
          rcases cond_some h with ⟨_, h⟩ | ⟨_, h⟩
          · skip
            rcases cond_some h with ⟨_, h⟩ | ⟨_, h⟩
            · skip
              rcases cond_some h with ⟨hb, h⟩ | ⟨_, h⟩
              · obtain rfl := Nat.eq_of_beq_eq_true hb; cases h; exact Or.inl ⟨Try.f118, _, Try.func118, rfl, k118⟩
              · cases h
            · skip
              rcases cond_some h with ⟨hb, h⟩ | ⟨_, h⟩
              · obtain rfl := Nat.eq_of_beq_eq_true hb; cases h; exact Or.inl ⟨Try.f119, _, Try.func119, rfl, k119⟩
              · cases h
          · skip
            rcases cond_some h with ⟨_, h⟩ | ⟨_, h⟩
            · skip
              rcases cond_some h with ⟨hb, h⟩ | ⟨_, h⟩
              · obtain rfl := Nat.eq_of_beq_eq_true hb; cases h; exact Or.inl ⟨Try.f120, _, Try.func120, rfl, k120⟩
              · cases h
            · skip
              rcases cond_some h with ⟨hb, h⟩ | ⟨_, h⟩
              · obtain rfl := Nat.eq_of_beq_eq_true hb; cases h; exact Or.inl ⟨Try.f121, _, Try.func121, rfl, k121⟩
              · cases h
    · skip
      rcases cond_some h with ⟨_, h⟩ | ⟨_, h⟩
      · skip
        rcases cond_some h with ⟨_, h⟩ | ⟨_, h⟩
        · skip
          rcases cond_some h with ⟨_, h⟩ | ⟨_, h⟩
          · skip
            rcases cond_some h with ⟨_, h⟩ | ⟨_, h⟩
            · skip
              rcases cond_some h with ⟨hb, h⟩ | ⟨_, h⟩
              · obtain rfl := Nat.eq_of_beq_eq_true hb; cases h; exact Or.inl ⟨Try.f122, _, Try.func122, rfl, k122⟩
              · cases h
            · skip
              rcases cond_some h with ⟨hb, h⟩ | ⟨_, h⟩
              · obtain rfl := Nat.eq_of_beq_eq_true hb; cases h; exact Or.inl ⟨Try.f123, _, Try.func123, rfl, k123⟩
              · cases h
          · skip
            rcases cond_some h with ⟨_, h⟩ | ⟨_, h⟩
            · skip
              rcases cond_some h with ⟨hb, h⟩ | ⟨_, h⟩
              · obtain rfl := Nat.eq_of_beq_eq_true hb; cases h; exact Or.inl ⟨Try.f127, _, Try.func127, rfl, k127⟩
              · cases h
            · skip
              rcases cond_some h with ⟨hb, h⟩ | ⟨_, h⟩
              · obtain rfl := Nat.eq_of_beq_eq_true hb; cases h; exact Or.inl ⟨Try.f128, _, Try.func128, rfl, k128⟩
              · cases h
        · skip
          rcases cond_some h with ⟨_, h⟩ | ⟨_, h⟩
          · skip
            rcases cond_some h with ⟨_, h⟩ | ⟨_, h⟩
            · skip
              rcases cond_some h with ⟨hb, h⟩ | ⟨_, h⟩
              · obtain rfl := Nat.eq_of_beq_eq_true hb; cases h; exact Or.inl ⟨Try.f129, _, Try.func129, rfl, k129⟩
              · cases h
            · skip
              rcases cond_some h with ⟨hb, h⟩ | ⟨_, h⟩
              · obtain rfl := Nat.eq_of_beq_eq_true hb; cases h; exact Or.inl ⟨Try.f131, _, Try.func131, rfl, k131⟩
              · cases h
          · skip
            rcases cond_some h with ⟨_, h⟩ | ⟨_, h⟩
            · skip
              rcases cond_some h with ⟨hb, h⟩ | ⟨_, h⟩
              · obtain rfl := Nat.eq_of_beq_eq_true hb; cases h; exact Or.inl ⟨Try.f132, _, Try.func132, rfl, k132⟩
              · cases h
            · skip
              rcases cond_some h with ⟨hb, h⟩ | ⟨_, h⟩
              · obtain rfl := Nat.eq_of_beq_eq_true hb; cases h; exact Or.inl ⟨Try.f133, _, Try.func133, rfl, k133⟩
              · cases h
      · skip
        rcases cond_some h with ⟨_, h⟩ | ⟨_, h⟩
        · skip
          rcases cond_some h with ⟨_, h⟩ | ⟨_, h⟩
          · skip
            rcases cond_some h with ⟨_, h⟩ | ⟨_, h⟩
            · skip
              rcases cond_some h with ⟨hb, h⟩ | ⟨_, h⟩
              · obtain rfl := Nat.eq_of_beq_eq_true hb; cases h; exact Or.inl ⟨Try.f134, _, Try.func134, rfl, k134⟩
              · cases h
            · skip
              rcases cond_some h with ⟨hb, h⟩ | ⟨_, h⟩
              · obtain rfl := Nat.eq_of_beq_eq_true hb; cases h; exact Or.inl ⟨Try.f135, _, Try.func135, rfl, k135⟩
              · cases h
          · skip
            rcases cond_some h with ⟨_, h⟩ | ⟨_, h⟩
            · skip
              rcases cond_some h with ⟨hb, h⟩ | ⟨_, h⟩
              · obtain rfl := Nat.eq_of_beq_eq_true hb; cases h; exact Or.inl ⟨Try.f136, _, Try.func136, rfl, k136⟩
              · cases h
            · skip
              rcases cond_some h with ⟨hb, h⟩ | ⟨_, h⟩
              · obtain rfl := Nat.eq_of_beq_eq_true hb; cases h; exact Or.inl ⟨Try.f137, _, Try.func137, rfl, k137⟩
              · cases h
        · skip
          rcases cond_some h with ⟨_, h⟩ | ⟨_, h⟩
          · skip
            rcases cond_some h with ⟨_, h⟩ | ⟨_, h⟩
            · skip
              rcases cond_some h with ⟨hb, h⟩ | ⟨_, h⟩
              · obtain rfl := Nat.eq_of_beq_eq_true hb; cases h; exact Or.inl ⟨Try.f138, _, Try.func138, rfl, k138⟩
              · cases h
            · skip
              rcases cond_some h with ⟨hb, h⟩ | ⟨_, h⟩
              · obtain rfl := Nat.eq_of_beq_eq_true hb; cases h; exact Or.inr ⟨1, rfl, k140⟩
              · cases h
          · skip
            rcases cond_some h with ⟨_, h⟩ | ⟨_, h⟩
            · skip
              rcases cond_some h with ⟨hb, h⟩ | ⟨_, h⟩
              · obtain rfl := Nat.eq_of_beq_eq_true hb; cases h; exact Or.inl ⟨Try.f141, _, Try.func141, rfl, k141⟩
              · cases h
            · skip
              rcases cond_some h with ⟨hb, h⟩ | ⟨_, h⟩
              · obtain rfl := Nat.eq_of_beq_eq_true hb; cases h; exact Or.inl ⟨Try.f142, _, Try.func142, rfl, k142⟩
              · cases h
def isTrue : Option (AVal × AHeap) → Bool | some (.bool true, _) => true | _ => false
theorem isTrue_some {r : Option (AVal × AHeap)} (h : isTrue r = true) : ∃ H', r = some (.bool true, H') := by
  cases r with
  | none => cases h
  | some p =>
    obtain ⟨v, H'⟩ := p
    cases v with
    | bool b => cases b with
      | true => exact ⟨H', rfl⟩
      | false => cases h
    | _ => cases h
theorem awake_true : isTrue (callN ext prog0 300 12 [] (tableHeap Try.prog.globals.size aroundT)) = true := by
  rw [← xCallN_eq]
  kernel_rfl
theorem mixed : Try.prog.follows .mixedOrders = true := by kernel_rfl
theorem k12e : ExtSim Try.prog ext 12 3 := ext_closed mixed progOk0 (T := aroundT) Try.func12 rfl (by decide +kernel) (v := .bool true) rfl (by kernel_rfl) (isTrue_some awake_true) rfl
theorem progOk : ProgOk Try.prog ext prog := by
  refine ⟨rfl, by decide +kernel, ?_⟩
  intro f rf h
  unfold prog at h
  rcases cond_some h with ⟨_, h⟩ | ⟨_, h⟩
  · skip
    rcases cond_some h with ⟨_, h⟩ | ⟨_, h⟩
    · skip
      rcases cond_some h with ⟨_, h⟩ | ⟨_, h⟩
      · skip
        rcases cond_some h with ⟨_, h⟩ | ⟨_, h⟩
        · skip
          rcases cond_some h with ⟨_, h⟩ | ⟨_, h⟩
          · skip
            rcases cond_some h with ⟨hb, h⟩ | ⟨_, h⟩
            · obtain rfl := Nat.eq_of_beq_eq_true hb; cases h; exact Or.inl ⟨Try.f7, _, Try.func7, rfl, k7⟩
            · cases h
          · skip
            rcases cond_some h with ⟨_, h⟩ | ⟨_, h⟩
            · skip
              rcases cond_some h with ⟨hb, h⟩ | ⟨_, h⟩
              · obtain rfl := Nat.eq_of_beq_eq_true hb; cases h; exact Or.inr ⟨3, rfl, k12e⟩
              · cases h
            · skip
              rcases cond_some h with ⟨hb, h⟩ | ⟨_, h⟩
              · obtain rfl := Nat.eq_of_beq_eq_true hb; cases h; exact Or.inl ⟨Try.f15, _, Try.func15, rfl, k15⟩
              · cases h
        · skip
          rcases cond_some h with ⟨_, h⟩ | ⟨_, h⟩
          · skip
            rcases cond_some h with ⟨_, h⟩ | ⟨_, h⟩
            · skip
              rcases cond_some h with ⟨hb, h⟩ | ⟨_, h⟩
              · obtain rfl := Nat.eq_of_beq_eq_true hb; cases h; exact Or.inl ⟨Try.f18, _, Try.func18, rfl, k18⟩
              · cases h
            · skip
              rcases cond_some h with ⟨hb, h⟩ | ⟨_, h⟩
              · obtain rfl := Nat.eq_of_beq_eq_true hb; cases h; exact Or.inl ⟨Try.f40, _, Try.func40, rfl, k40⟩
              · cases h
          · skip
            rcases cond_some h with ⟨_, h⟩ | ⟨_, h⟩
            · skip
              rcases cond_some h with ⟨hb, h⟩ | ⟨_, h⟩
              · obtain rfl := Nat.eq_of_beq_eq_true hb; cases h; exact Or.inl ⟨Try.f41, _, Try.func41, rfl, k41⟩
              · cases h
            · skip
              rcases cond_some h with ⟨hb, h⟩ | ⟨_, h⟩
              · obtain rfl := Nat.eq_of_beq_eq_true hb; cases h; exact Or.inl ⟨Try.f50, _, Try.func50, rfl, k50⟩
              · cases h
      · skip
        rcases cond_some h with ⟨_, h⟩ | ⟨_, h⟩
        · skip
          rcases cond_some h with ⟨_, h⟩ | ⟨_, h⟩
          · skip
            rcases cond_some h with ⟨hb, h⟩ | ⟨_, h⟩
            · obtain rfl := Nat.eq_of_beq_eq_true hb; cases h; exact Or.inl ⟨Try.f51, _, Try.func51, rfl, k51⟩
            · cases h
          · skip
            rcases cond_some h with ⟨_, h⟩ | ⟨_, h⟩
            · skip
              rcases cond_some h with ⟨hb, h⟩ | ⟨_, h⟩
              · obtain rfl := Nat.eq_of_beq_eq_true hb; cases h; exact Or.inl ⟨Try.f52, _, Try.func52, rfl, k52⟩
              · cases h
            · skip
              rcases cond_some h with ⟨hb, h⟩ | ⟨_, h⟩
              · obtain rfl := Nat.eq_of_beq_eq_true hb; cases h; exact Or.inl ⟨Try.f53, _, Try.func53, rfl, k53⟩
              · cases h
        · skip
          rcases cond_some h with ⟨_, h⟩ | ⟨_, h⟩
          · skip
            rcases cond_some h with ⟨_, h⟩ | ⟨_, h⟩
            · skip
              rcases cond_some h with ⟨hb, h⟩ | ⟨_, h⟩
              · obtain rfl := Nat.eq_of_beq_eq_true hb; cases h; exact Or.inl ⟨Try.f56, _, Try.func56, rfl, k56⟩
              · cases h
            · skip
              rcases cond_some h with ⟨hb, h⟩ | ⟨_, h⟩
              · obtain rfl := Nat.eq_of_beq_eq_true hb; cases h; exact Or.inl ⟨Try.f57, _, Try.func57, rfl, k57⟩
              · cases h
          · skip
            rcases cond_some h with ⟨_, h⟩ | ⟨_, h⟩
            · skip
              rcases cond_some h with ⟨hb, h⟩ | ⟨_, h⟩
              · obtain rfl := Nat.eq_of_beq_eq_true hb; cases h; exact Or.inl ⟨Try.f58, _, Try.func58, rfl, k58⟩
              · cases h
            · skip
              rcases cond_some h with ⟨hb, h⟩ | ⟨_, h⟩
              · obtain rfl := Nat.eq_of_beq_eq_true hb; cases h; exact Or.inl ⟨Try.f59, _, Try.func59, rfl, k59⟩
              · cases h
    · skip
      rcases cond_some h with ⟨_, h⟩ | ⟨_, h⟩
      · skip
        rcases cond_some h with ⟨_, h⟩ | ⟨_, h⟩
        · skip
          rcases cond_some h with ⟨_, h⟩ | ⟨_, h⟩
          · skip
            rcases cond_some h with ⟨hb, h⟩ | ⟨_, h⟩
            · obtain rfl := Nat.eq_of_beq_eq_true hb; cases h; exact Or.inl ⟨Try.f60, _, Try.func60, rfl, k60⟩
            · cases h
          · skip
            rcases cond_some h with ⟨_, h⟩ | ⟨_, h⟩
            · skip
              rcases cond_some h with ⟨hb, h⟩ | ⟨_, h⟩
              · obtain rfl := Nat.eq_of_beq_eq_true hb; cases h; exact Or.inl ⟨Try.f61, _, Try.func61, rfl, k61⟩
              · cases h
            · skip
              rcases cond_some h with ⟨hb, h⟩ | ⟨_, h⟩
              · obtain rfl := Nat.eq_of_beq_eq_true hb; cases h; exact Or.inl ⟨Try.f62, _, Try.func62, rfl, k62⟩
              · cases h
        · skip
          rcases cond_some h with ⟨_, h⟩ | ⟨_, h⟩
          · skip
            rcases cond_some h with ⟨_, h⟩ | ⟨_, h⟩
            · skip
              rcases cond_some h with ⟨hb, h⟩ | ⟨_, h⟩
              · obtain rfl := Nat.eq_of_beq_eq_true hb; cases h; exact Or.inl ⟨Try.f79, _, Try.func79, rfl, k79⟩
              · cases h
            · skip
              rcases cond_some h with ⟨hb, h⟩ | ⟨_, h⟩
              · obtain rfl := Nat.eq_of_beq_eq_true hb; cases h; exact Or.inl ⟨Try.f86, _, Try.func86, rfl, k86⟩
              · cases h
          · skip
            rcases cond_some h with ⟨_, h⟩ | ⟨_, h⟩
            · skip
              rcases cond_some h with ⟨hb, h⟩ | ⟨_, h⟩
              · obtain rfl := Nat.eq_of_beq_eq_true hb; cases h; exact Or.inl ⟨Try.f90, _, Try.func90, rfl, k90⟩
              · cases h
            · skip
              rcases cond_some h with ⟨hb, h⟩ | ⟨_, h⟩
              · obtain rfl := Nat.eq_of_beq_eq_true hb; cases h; exact Or.inl ⟨Try.f91, _, Try.func91, rfl, k91⟩
              · cases h
      · skip
        rcases cond_some h with ⟨_, h⟩ | ⟨_, h⟩
        · skip
          rcases cond_some h with ⟨_, h⟩ | ⟨_, h⟩
          · skip
            rcases cond_some h with ⟨hb, h⟩ | ⟨_, h⟩
            · obtain rfl := Nat.eq_of_beq_eq_true hb; cases h; exact Or.inl ⟨Try.f93, _, Try.func93, rfl, k93⟩
            · cases h
          · skip
            rcases cond_some h with ⟨_, h⟩ | ⟨_, h⟩
            · skip
              rcases cond_some h with ⟨hb, h⟩ | ⟨_, h⟩
              · obtain rfl := Nat.eq_of_beq_eq_true hb; cases h; exact Or.inl ⟨Try.f94, _, Try.func94, rfl, k94⟩
              · cases h
            · skip
              rcases cond_some h with ⟨hb, h⟩ | ⟨_, h⟩
              · obtain rfl := Nat.eq_of_beq_eq_true hb; cases h; exact Or.inl ⟨Try.f95, _, Try.func95, rfl, k95⟩
              · cases h
        · skip
          rcases cond_some h with ⟨_, h⟩ | ⟨_, h⟩
          · skip
            rcases cond_some h with ⟨_, h⟩ | ⟨_, h⟩
            · skip
              rcases cond_some h with ⟨hb, h⟩ | ⟨_, h⟩
              · obtain rfl := Nat.eq_of_beq_eq_true hb; cases h; exact Or.inl ⟨Try.f96, _, Try.func96, rfl, k96⟩
              · cases h
            · skip
              rcases cond_some h with ⟨hb, h⟩ | ⟨_, h⟩
              · obtain rfl := Nat.eq_of_beq_eq_true hb; cases h; exact Or.inl ⟨Try.f97, _, Try.func97, rfl, k97⟩
              · cases h
          · skip
            rcases cond_some h with ⟨_, h⟩ | ⟨_, h⟩
            · skip
              rcases cond_some h with ⟨hb, h⟩ | ⟨_, h⟩
              · obtain rfl := Nat.eq_of_beq_eq_true hb; cases h; exact Or.inl ⟨Try.f98, _, Try.func98, rfl, k98⟩
              · cases h
            · skip
              rcases cond_some h with ⟨hb, h⟩ | ⟨_, h⟩
              · obtain rfl := Nat.eq_of_beq_eq_true hb; cases h; exact Or.inl ⟨Try.f99, _, Try.func99, rfl, k99⟩
              · cases h
  · skip
    rcases cond_some h with ⟨_, h⟩ | ⟨_, h⟩
    · skip
      rcases cond_some h with ⟨_, h⟩ | ⟨_, h⟩
      · skip
        rcases cond_some h with ⟨_, h⟩ | ⟨_, h⟩
        · skip
          rcases cond_some h with ⟨_, h⟩ | ⟨_, h⟩
          · skip
            rcases cond_some h with ⟨hb, h⟩ | ⟨_, h⟩
            · obtain rfl := Nat.eq_of_beq_eq_true hb; cases h; exact Or.inl ⟨Try.f103, _, Try.func103, rfl, k103⟩
            · cases h
          · skip
            rcases cond_some h with ⟨_, h⟩ | ⟨_, h⟩
            · skip
              rcases cond_some h with ⟨hb, h⟩ | ⟨_, h⟩
              · obtain rfl := Nat.eq_of_beq_eq_true hb; cases h; exact Or.inl ⟨Try.f110, _, Try.func110, rfl, k110⟩
              · cases h
            · skip
              rcases cond_some h with ⟨hb, h⟩ | ⟨_, h⟩
              · obtain rfl := Nat.eq_of_beq_eq_true hb; cases h; exact Or.inr ⟨0, rfl, k111⟩
              · cases h
        · skip
          rcases cond_some h with ⟨_, h⟩ | ⟨_, h⟩
          · skip
            rcases cond_some h with ⟨_, h⟩ | ⟨_, h⟩
            · skip
              rcases cond_some h with ⟨hb, h⟩ | ⟨_, h⟩
              · obtain rfl := Nat.eq_of_beq_eq_true hb; cases h; exact Or.inl ⟨Try.f112, _, Try.func112, rfl, k112⟩
              · cases h
            · skip
              rcases cond_some h with ⟨hb, h⟩ | ⟨_, h⟩
              · obtain rfl := Nat.eq_of_beq_eq_true hb; cases h; exact Or.inl ⟨Try.f113, _, Try.func113, rfl, k113⟩
              · cases h
          · skip
            rcases cond_some h with ⟨_, h⟩ | ⟨_, h⟩
            · skip
              rcases cond_some h with ⟨hb, h⟩ | ⟨_, h⟩
              · obtain rfl := Nat.eq_of_beq_eq_true hb; cases h; exact Or.inl ⟨Try.f114, _, Try.func114, rfl, k114⟩
              · cases h
            · skip
              rcases cond_some h with ⟨hb, h⟩ | ⟨_, h⟩
              · obtain rfl := Nat.eq_of_beq_eq_true hb; cases h; exact Or.inl ⟨Try.f115, _, Try.func115, rfl, k115⟩
              · cases h
      · skip
        rcases cond_some h with ⟨_, h⟩ | ⟨_, h⟩
        · skip
          rcases cond_some h with ⟨_, h⟩ | ⟨_, h⟩
          · skip
            rcases cond_some h with ⟨hb, h⟩ | ⟨_, h⟩
            · obtain rfl := Nat.eq_of_beq_eq_true hb; cases h; exact Or.inl ⟨Try.f116, _, Try.func116, rfl, k116⟩
            · cases h
          · skip
            rcases cond_some h with ⟨_, h⟩ | ⟨_, h⟩
            · skip
              rcases cond_some h with ⟨hb, h⟩ | ⟨_, h⟩
              · obtain rfl := Nat.eq_of_beq_eq_true hb; cases h; exact Or.inl ⟨Try.f117, _, Try.func117, rfl, k117⟩
              · cases h
            · skip
              rcases cond_some h with ⟨hb, h⟩ | ⟨_, h⟩
              · obtain rfl := Nat.eq_of_beq_eq_true hb; cases h; exact Or.inl ⟨Try.f118, _, Try.func118, rfl, k118⟩
              · cases h
        · skip
          rcases cond_some h with ⟨_, h⟩ | ⟨_, h⟩
          · skip
            rcases cond_some h with ⟨_, h⟩ | ⟨_, h⟩
            · skip
              rcases cond_some h with ⟨hb, h⟩ | ⟨_, h⟩
              · obtain rfl := Nat.eq_of_beq_eq_true hb; cases h; exact Or.inl ⟨Try.f119, _, Try.func119, rfl, k119⟩
              · cases h
            · skip
              rcases cond_some h with ⟨hb, h⟩ | ⟨_, h⟩
              · obtain rfl := Nat.eq_of_beq_eq_true hb; cases h; exact Or.inl ⟨Try.f120, _, Try.func120, rfl, k120⟩
              · cases h
          · skip
            rcases cond_some h with ⟨_, h⟩ | ⟨_, h⟩
            · skip
              rcases cond_some h with ⟨hb, h⟩ | ⟨_, h⟩
              · obtain rfl := Nat.eq_of_beq_eq_true hb; cases h; exact Or.inl ⟨Try.f121, _, Try.func121, rfl, k121⟩
              · cases h
            · skip
              rcases cond_some h with ⟨hb, h⟩ | ⟨_, h⟩
              · obtain rfl := Nat.eq_of_beq_eq_true hb; cases h; exact Or.inl ⟨Try.f122, _, Try.func122, rfl, k122⟩
              · cases h
    · skip
      rcases cond_some h with ⟨_, h⟩ | ⟨_, h⟩
      · skip
        rcases cond_some h with ⟨_, h⟩ | ⟨_, h⟩
        · skip
          rcases cond_some h with ⟨_, h⟩ | ⟨_, h⟩
          · skip
            rcases cond_some h with ⟨hb, h⟩ | ⟨_, h⟩
            · obtain rfl := Nat.eq_of_beq_eq_true hb; cases h; exact Or.inl ⟨Try.f123, _, Try.func123, rfl, k123⟩
            · cases h
          · skip
            rcases cond_some h with ⟨_, h⟩ | ⟨_, h⟩
            · skip
              rcases cond_some h with ⟨hb, h⟩ | ⟨_, h⟩
              · obtain rfl := Nat.eq_of_beq_eq_true hb; cases h; exact Or.inl ⟨Try.f127, _, Try.func127, rfl, k127⟩
              · cases h
            · skip
              rcases cond_some h with ⟨hb, h⟩ | ⟨_, h⟩
              · obtain rfl := Nat.eq_of_beq_eq_true hb; cases h; exact Or.inl ⟨Try.f128, _, Try.func128, rfl, k128⟩
              · cases h
        · skip
          rcases cond_some h with ⟨_, h⟩ | ⟨_, h⟩
          · skip
            rcases cond_some h with ⟨_, h⟩ | ⟨_, h⟩
            · skip
              rcases cond_some h with ⟨hb, h⟩ | ⟨_, h⟩
              · obtain rfl := Nat.eq_of_beq_eq_true hb; cases h; exact Or.inl ⟨Try.f129, _, Try.func129, rfl, k129⟩
              · cases h
            · skip
              rcases cond_some h with ⟨hb, h⟩ | ⟨_, h⟩
              · obtain rfl := Nat.eq_of_beq_eq_true hb; cases h; exact Or.inl ⟨Try.f131, _, Try.func131, rfl, k131⟩
              · cases h
          · skip
            rcases cond_some h with ⟨_, h⟩ | ⟨_, h⟩
            · skip
              rcases cond_some h with ⟨hb, h⟩ | ⟨_, h⟩
              · obtain rfl := Nat.eq_of_beq_eq_true hb; cases h; exact Or.inl ⟨Try.f132, _, Try.func132, rfl, k132⟩
              · cases h
            · skip
              rcases cond_some h with ⟨hb, h⟩ | ⟨_, h⟩
              · obtain rfl := Nat.eq_of_beq_eq_true hb; cases h; exact Or.inl ⟨Try.f133, _, Try.func133, rfl, k133⟩
              · cases h
      · skip
        rcases cond_some h with ⟨_, h⟩ | ⟨_, h⟩
        · skip
          rcases cond_some h with ⟨_, h⟩ | ⟨_, h⟩
          · skip
            rcases cond_some h with ⟨_, h⟩ | ⟨_, h⟩
            · skip
              rcases cond_some h with ⟨hb, h⟩ | ⟨_, h⟩
              · obtain rfl := Nat.eq_of_beq_eq_true hb; cases h; exact Or.inl ⟨Try.f134, _, Try.func134, rfl, k134⟩
              · cases h
            · skip
              rcases cond_some h with ⟨hb, h⟩ | ⟨_, h⟩
              · obtain rfl := Nat.eq_of_beq_eq_true hb; cases h; exact Or.inl ⟨Try.f135, _, Try.func135, rfl, k135⟩
              · cases h
          · skip
            rcases cond_some h with ⟨_, h⟩ | ⟨_, h⟩
            · skip
              rcases cond_some h with ⟨hb, h⟩ | ⟨_, h⟩
              · obtain rfl := Nat.eq_of_beq_eq_true hb; cases h; exact Or.inl ⟨Try.f136, _, Try.func136, rfl, k136⟩
              · cases h
            · skip
              rcases cond_some h with ⟨hb, h⟩ | ⟨_, h⟩
              · obtain rfl := Nat.eq_of_beq_eq_true hb; cases h; exact Or.inl ⟨Try.f137, _, Try.func137, rfl, k137⟩
              · cases h
        · skip
          rcases cond_some h with ⟨_, h⟩ | ⟨_, h⟩
          · skip
            rcases cond_some h with ⟨_, h⟩ | ⟨_, h⟩
            · skip
              rcases cond_some h with ⟨hb, h⟩ | ⟨_, h⟩
              · obtain rfl := Nat.eq_of_beq_eq_true hb; cases h; exact Or.inl ⟨Try.f138, _, Try.func138, rfl, k138⟩
              · cases h
            · skip
              rcases cond_some h with ⟨hb, h⟩ | ⟨_, h⟩
              · obtain rfl := Nat.eq_of_beq_eq_true hb; cases h; exact Or.inr ⟨1, rfl, k140⟩
              · cases h
          · skip
            rcases cond_some h with ⟨_, h⟩ | ⟨_, h⟩
            · skip
              rcases cond_some h with ⟨hb, h⟩ | ⟨_, h⟩
              · obtain rfl := Nat.eq_of_beq_eq_true hb; cases h; exact Or.inl ⟨Try.f141, _, Try.func141, rfl, k141⟩
              · cases h
            · skip
              rcases cond_some h with ⟨hb, h⟩ | ⟨_, h⟩
              · obtain rfl := Nat.eq_of_beq_eq_true hb; cases h; exact Or.inl ⟨Try.f142, _, Try.func142, rfl, k142⟩
              · cases h
end Go.Am

namespace Go.Proofs.Ytpochhefklmnfaa.Laid
open Go.ChangeShapes Go.WideShapes Go.ChangeAt Go.RowKit Go.Am
theorem own : ownKnob Try.prog.godebug = none := by kernel_rfl
theorem laidOut : laidOutB Try.prog = true := by kernel_rfl
theorem rowed : mapsRowed Try.prog = true := by kernel_rfl
theorem full : ∀ t e, t < Try.prog.types.size → Try.prog.underlying t = some (.slice e) → 0 < Try.prog.cellsOf e := slices_full_of Try.prog (by kernel_rfl)
theorem around_cells {W : World} : ∀ t ∈ aroundT, ∀ (i : Nat) (v : AVal), t.2[i]? = some v → ∃ x, emb (fun _ => none) v = some x ∧ W.cell? ⟨t.1, i, none⟩ = some x := by
  intro t ht; cases ht
noncomputable def laidWorld (os : Os) : World := World.holding Try.prog os ⟨#[], #[], []⟩
end Go.Proofs.Ytpochhefklmnfaa.Laid
