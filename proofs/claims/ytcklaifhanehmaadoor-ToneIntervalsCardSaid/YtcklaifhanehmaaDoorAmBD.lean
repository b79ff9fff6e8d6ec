import Derived.Test.YtcklaifhanehmaaDoorAmBC
import Derived.Lib.BytesEntry
import Derived.Laws.Externs
import Derived.Test.YtcklaifhanehmaaDoorProg
import Derived.Test.YtcklaifhanehmaaDoorCards
import Derived.Test.YtcklaifhanehmaaDoorTie
import Derived.WalkKit
import Derived.ProofKit
import Derived.OpenShut
import Derived.Deep.DeepHandedRow
import Derived.Lib.LaidTab
import Derived.SizedLaws
set_option linter.unusedSimpArgs false
set_option linter.unusedVariables false
set_option maxRecDepth 100000
set_option maxHeartbeats 4000000
namespace Go.Am
open Go
def c7 : RFunc := ⟨23,.code (.seq (.region [⟨some 5,.box 38 (.tmp 0),none⟩,⟨some 6,.box 38 (.tmp 1),none⟩,⟨some 7,.box 47 (.tmp 2),none⟩,⟨some 10,.mov (.val (.bool false)),none⟩]) (.seq (.region [⟨some 11,.load (some 2) (.tmp 5),none⟩,⟨some 12,.load (some 2) (.tmp 6),none⟩,⟨some 13,.load (some 2) (.tmp 7),none⟩,⟨some 14,.mov (.tmp 3),none⟩,⟨some 15,.call (.val (.func (.func 29) [] [])) [.tmp 11,.tmp 12,.tmp 13,.tmp 14],none⟩,⟨some 16,.mov (.tmp 15),none⟩,⟨some 17,.mov (.tmp 4),some (16,true)⟩,⟨some 18,.call (.val (.func (.func 30) [] [])) [.tmp 17],some (16,true)⟩,⟨some 19,.pick (.tmp 16) (.tmp 18) (.val (.bool false)),none⟩,⟨some 20,.mov (.tmp 19),none⟩,⟨some 21,.call (.val (.func (.func 15) [] [])) [],some (20,true)⟩,⟨some 22,.pick (.tmp 20) (.tmp 21) (.val (.bool false)),none⟩,⟨some 10,.mov (.tmp 22),none⟩]) .ret)),[.tmp 10]⟩
def c15 : RFunc := ⟨123,.code (.seq (.region [⟨some 0,.mov (.val (.bool false)),none⟩]) (.seq (.region [⟨some 20,.call (.val (.func (.func 16) [] [])) [(.val (.int .i64 4)),(.val (.bool true)),(.val (.bool false))],none⟩,⟨some 19,.mov (.tmp 20),none⟩,⟨some 21,.extract (.tmp 19) 0,none⟩,⟨some 22,.extract (.tmp 19) 1,none⟩,⟨some 1,.new 23 [(.int .i64 0),(.int .i64 0)],none⟩,⟨none,.store 2 (.tmp 1) (.tmp 21),none⟩,⟨some 2,.mov (.tmp 22),none⟩]) (.seq (.region [⟨some 24,.build [(.int .i64 0),(.int .i64 0)] [(0,1,(.val (.int .i64 1))),(1,1,(.val (.int .i64 3)))],none⟩,⟨some 25,.build [(.int .i64 0),(.int .i64 0)] [(0,1,(.val (.int .i64 1))),(1,1,(.val (.int .i64 6)))],none⟩,⟨some 26,.call (.val (.func (.func 33) [] [])) [.tmp 24,.tmp 25],none⟩,⟨some 23,.mov (.tmp 26),none⟩,⟨some 27,.extract (.tmp 23) 0,none⟩,⟨some 28,.extract (.tmp 23) 1,none⟩,⟨some 3,.new 23 [(.int .i64 0),(.int .i64 0)],none⟩,⟨none,.store 2 (.tmp 3) (.tmp 27),none⟩,⟨some 4,.mov (.tmp 28),none⟩]) (.seq (.region [⟨some 30,.build [(.int .i64 0),(.int .i64 0)] [(0,1,(.val (.int .i64 34))),(1,1,(.val (.int .i64 (-1))))],none⟩,⟨some 31,.call (.val (.func (.func 25) [] [])) [.tmp 30],none⟩,⟨some 29,.mov (.tmp 31),none⟩,⟨some 32,.extract (.tmp 29) 0,none⟩,⟨some 33,.extract (.tmp 29) 1,none⟩,⟨some 5,.mov (.tmp 32),none⟩,⟨some 6,.mov (.tmp 33),none⟩]) (.seq (.region [⟨some 35,.build [(.int .i64 0),(.int .i64 0)] [(0,1,(.val (.int .i64 30)))],none⟩,⟨some 36,.build [(.int .i64 0),(.int .i64 0)] [(0,1,(.val (.int .i64 2))),(1,1,(.val (.int .i64 4)))],none⟩,⟨some 37,.call (.val (.func (.func 44) [] [])) [.tmp 35,.tmp 36],none⟩,⟨some 34,.mov (.tmp 37),none⟩,⟨some 38,.extract (.tmp 34) 0,none⟩,⟨some 39,.extract (.tmp 34) 1,none⟩,⟨some 7,.new 38 [(.int .i64 0),(.int .i64 0)],none⟩,⟨none,.store 2 (.tmp 7) (.tmp 38),none⟩,⟨some 8,.mov (.tmp 39),none⟩]) (.seq (.region [⟨some 41,.build [(.int .i64 0),(.int .i64 0)] [(0,1,(.val (.int .i64 (-1)))),(1,1,(.val (.int .i64 (-2))))],none⟩,⟨some 42,.call (.val (.func (.func 49) [] [])) [.tmp 41],none⟩,⟨some 40,.mov (.tmp 42),none⟩,⟨some 43,.extract (.tmp 40) 0,none⟩,⟨some 44,.extract (.tmp 40) 1,none⟩,⟨some 9,.mov (.tmp 43),none⟩,⟨some 10,.mov (.tmp 44),none⟩]) (.seq (.region [⟨some 46,.call (.val (.func (.func 39) [] [])) [(.val (.int .i64 1))],none⟩,⟨some 45,.mov (.tmp 46),none⟩,⟨some 47,.extract (.tmp 45) 0,none⟩,⟨some 48,.extract (.tmp 45) 1,none⟩,⟨some 11,.mov (.tmp 47),none⟩,⟨some 12,.mov (.tmp 48),none⟩]) (.seq (.seq (.region [⟨some 49,.mov (.tmp 2),none⟩,⟨some 50,.bin .neq (.tmp 49) (.val (.int .i64 0)),none⟩,⟨some 51,.mov (.tmp 50),none⟩,⟨some 52,.mov (.tmp 4),some (51,false)⟩,⟨some 53,.bin .neq (.tmp 52) (.val (.int .i64 0)),some (51,false)⟩,⟨some 54,.pick (.tmp 51) (.val (.bool true)) (.tmp 53),none⟩,⟨some 55,.mov (.tmp 54),none⟩,⟨some 56,.mov (.tmp 6),some (55,false)⟩,⟨some 57,.bin .neq (.tmp 56) (.val (.int .i64 0)),some (55,false)⟩,⟨some 58,.pick (.tmp 55) (.val (.bool true)) (.tmp 57),none⟩,⟨some 59,.mov (.tmp 58),none⟩,⟨some 60,.mov (.tmp 8),some (59,false)⟩,⟨some 61,.bin .neq (.tmp 60) (.val (.int .i64 0)),some (59,false)⟩,⟨some 62,.pick (.tmp 59) (.val (.bool true)) (.tmp 61),none⟩,⟨some 63,.mov (.tmp 62),none⟩,⟨some 64,.mov (.tmp 10),some (63,false)⟩,⟨some 65,.bin .neq (.tmp 64) (.val (.int .i64 0)),some (63,false)⟩,⟨some 66,.pick (.tmp 63) (.val (.bool true)) (.tmp 65),none⟩,⟨some 67,.mov (.tmp 66),none⟩,⟨some 68,.mov (.tmp 12),some (67,false)⟩,⟨some 69,.bin .neq (.tmp 68) (.val (.int .i64 0)),some (67,false)⟩,⟨some 70,.pick (.tmp 67) (.val (.bool true)) (.tmp 69),none⟩,⟨some 71,.mov (.tmp 70),none⟩,⟨some 72,.mov (.tmp 11),some (71,false)⟩,⟨some 73,.eq false .ptr (.tmp 72) (.val .nptr),some (71,false)⟩,⟨some 74,.pick (.tmp 71) (.val (.bool true)) (.tmp 73),none⟩]) (.cond (.tmp 74) (.seq (.region [⟨some 0,.mov (.val (.bool false)),none⟩]) .ret) .skip)) (.seq (.region [⟨some 76,.mov (.tmp 11),none⟩,⟨some 77,.call (.val (.func (.func 42) [] [])) [.tmp 76,(.val (.int .i64 31)),(.val (.int .i64 1))],none⟩,⟨some 75,.mov (.tmp 77),none⟩,⟨some 78,.extract (.tmp 75) 0,none⟩,⟨some 79,.extract (.tmp 75) 1,none⟩,⟨some 13,.mov (.tmp 78),none⟩,⟨some 14,.mov (.tmp 79),none⟩]) (.seq (.region [⟨some 81,.mov (.tmp 11),none⟩,⟨some 82,.call (.val (.func (.func 42) [] [])) [.tmp 81,(.val (.int .i64 31)),(.val (.int .i64 0))],none⟩,⟨some 80,.mov (.tmp 82),none⟩,⟨some 83,.extract (.tmp 80) 0,none⟩,⟨some 84,.extract (.tmp 80) 1,none⟩,⟨some 15,.mov (.tmp 83),none⟩,⟨some 16,.mov (.tmp 84),none⟩]) (.seq (.region [⟨some 86,.mov (.tmp 11),none⟩,⟨some 87,.call (.val (.func (.func 43) [] [])) [.tmp 86,(.val (.int .i64 31)),(.val (.int .i64 3))],none⟩,⟨some 85,.mov (.tmp 87),none⟩,⟨some 88,.extract (.tmp 85) 0,none⟩,⟨some 89,.extract (.tmp 85) 1,none⟩,⟨some 17,.mov (.tmp 88),none⟩,⟨some 18,.mov (.tmp 89),none⟩]) (.seq (.region [⟨some 90,.load (some 2) (.tmp 1),none⟩,⟨some 91,.build [(.int .i64 0),(.int .i64 0)] [(0,1,(.val (.int .i64 3))),(1,1,(.val (.int .i64 8)))],none⟩,⟨some 92,.eq false (.fields [some (0,0,.int),some (1,0,.int)]) (.tmp 90) (.tmp 91),none⟩,⟨some 93,.mov (.tmp 92),none⟩,⟨some 94,.load (some 2) (.tmp 3),some (93,true)⟩,⟨some 95,.build [(.int .i64 0),(.int .i64 0)] [(0,1,(.val (.int .i64 1))),(1,1,(.val (.int .i64 2)))],some (93,true)⟩,⟨some 96,.eq false (.fields [some (0,0,.int),some (1,0,.int)]) (.tmp 94) (.tmp 95),some (93,true)⟩,⟨some 97,.pick (.tmp 93) (.tmp 96) (.val (.bool false)),none⟩,⟨some 98,.mov (.tmp 97),none⟩,⟨some 99,.mov (.tmp 5),some (98,true)⟩,⟨some 100,.bin .eql (.tmp 99) (.val (.str ⟨#[98,98,52]⟩)),some (98,true)⟩,⟨some 101,.pick (.tmp 98) (.tmp 100) (.val (.bool false)),none⟩,⟨some 102,.mov (.tmp 101),none⟩,⟨some 103,.load (some 2) (.tmp 7),some (102,true)⟩,⟨some 104,.build [(.int .i64 0),(.int .i64 0)] [(0,1,(.val (.int .i64 32))),(1,1,(.val (.int .i64 1)))],some (102,true)⟩,⟨some 105,.eq false (.fields [some (0,0,.int),some (1,0,.int)]) (.tmp 103) (.tmp 104),some (102,true)⟩,⟨some 106,.pick (.tmp 102) (.tmp 105) (.val (.bool false)),none⟩,⟨some 107,.mov (.tmp 106),none⟩,⟨some 108,.mov (.tmp 9),some (107,true)⟩,⟨some 109,.bin .eql (.tmp 108) (.val (.str ⟨#[45,77,50]⟩)),some (107,true)⟩,⟨some 110,.pick (.tmp 107) (.tmp 109) (.val (.bool false)),none⟩,⟨some 111,.mov (.tmp 110),none⟩,⟨some 112,.mov (.tmp 13),some (111,true)⟩,⟨some 113,.bin .eql (.tmp 112) (.val (.int .i64 0)),some (111,true)⟩,⟨some 114,.pick (.tmp 111) (.tmp 113) (.val (.bool false)),none⟩,⟨some 115,.mov (.tmp 114),none⟩,⟨some 116,.mov (.tmp 15),some (115,true)⟩,⟨some 117,.bin .eql (.tmp 116) (.val (.int .i64 3)),some (115,true)⟩,⟨some 118,.pick (.tmp 115) (.tmp 117) (.val (.bool false)),none⟩,⟨some 119,.mov (.tmp 118),none⟩,⟨some 120,.mov (.tmp 18),some (119,true)⟩,⟨some 121,.bin .eql (.tmp 120) (.val (.int .i64 66)),some (119,true)⟩,⟨some 122,.pick (.tmp 119) (.tmp 121) (.val (.bool false)),none⟩,⟨some 0,.mov (.tmp 122),none⟩]) .ret)))))))))))),[.tmp 0]⟩
def c16 : RFunc := ⟨34,.code (.seq (.region [⟨some 6,.new 23 [(.int .i64 0),(.int .i64 0)],none⟩,⟨some 7,.mov (.val (.int .i64 0)),none⟩]) (.seq (.seq (.region [⟨some 10,.mov (.tmp 0),none⟩]) (.block 0 (.seq (.seq (.region [⟨some 13,.bin .eql (.tmp 10) (.val (.int .i64 1)),none⟩,⟨some 12,.mov (.tmp 13),none⟩]) (.cond (.tmp 12) .skip (.seq (.region [⟨some 14,.bin .eql (.tmp 10) (.val (.int .i64 2)),none⟩,⟨some 12,.mov (.tmp 14),none⟩]) (.cond (.tmp 12) .skip (.seq (.region [⟨some 15,.bin .eql (.tmp 10) (.val (.int .i64 4)),none⟩,⟨some 12,.mov (.tmp 15),none⟩]) (.cond (.tmp 12) .skip (.seq (.region [⟨some 16,.bin .eql (.tmp 10) (.val (.int .i64 8)),none⟩,⟨some 12,.mov (.tmp 16),none⟩]) (.cond (.tmp 12) .skip (.region [⟨some 17,.bin .eql (.tmp 10) (.val (.int .i64 16)),none⟩,⟨some 12,.mov (.tmp 17),none⟩]))))))))) (.cond (.tmp 12) .skip (.seq (.region [⟨some 11,.build [(.int .i64 0),(.int .i64 0)] [],none⟩,⟨none,.store 2 (.tmp 6) (.tmp 11),none⟩,⟨some 7,.mov (.val (.int .i64 33)),none⟩]) .ret))))) (.seq (.region [⟨some 18,.mov (.tmp 0),none⟩,⟨some 8,.mov (.val (.int .i64 1)),none⟩,⟨some 9,.mov (.tmp 18),none⟩]) (.seq (.seq (.region [⟨some 19,.mov (.tmp 1),none⟩]) (.cond (.tmp 19) (.region [⟨some 20,.mov (.tmp 8),none⟩,⟨some 21,.bin .mul (.val (.int .i64 3)) (.tmp 20),none⟩,⟨some 22,.mov (.tmp 9),none⟩,⟨some 23,.bin .mul (.val (.int .i64 2)) (.tmp 22),none⟩,⟨some 8,.mov (.tmp 21),none⟩,⟨some 9,.mov (.tmp 23),none⟩]) .skip)) (.seq (.seq (.region [⟨some 24,.mov (.tmp 2),none⟩]) (.cond (.tmp 24) (.region [⟨some 25,.mov (.tmp 8),none⟩,⟨some 26,.bin .mul (.val (.int .i64 2)) (.tmp 25),none⟩,⟨some 27,.mov (.tmp 9),none⟩,⟨some 28,.bin .mul (.val (.int .i64 3)) (.tmp 27),none⟩,⟨some 8,.mov (.tmp 26),none⟩,⟨some 9,.mov (.tmp 28),none⟩]) .skip)) (.seq (.region [⟨some 29,.mov (.tmp 8),none⟩,⟨some 30,.mov (.tmp 9),none⟩,⟨some 31,.call (.val (.func (.func 56) [] [])) [.tmp 29,.tmp 30],none⟩,⟨some 32,.extract (.tmp 31) 0,none⟩,⟨some 33,.extract (.tmp 31) 1,none⟩,⟨none,.store 2 (.tmp 6) (.tmp 32),none⟩,⟨some 7,.mov (.tmp 33),none⟩]) .ret)))))),[.cell 6 (some 2),.tmp 7]⟩
def c24 : RFunc := ⟨13,.code (.seq (.region [⟨some 1,.box 38 (.tmp 0),none⟩,⟨some 2,.mov (.val (.int .i64 0)),none⟩,⟨some 3,.mov (.val (.int .i64 0)),none⟩]) (.seq (.seq (.region [⟨some 4,.load (some 2) (.tmp 1),none⟩,⟨some 5,.call (.val (.func (.func 65) [] [])) [.tmp 4],none⟩,⟨some 6,.un .not (.tmp 5),none⟩]) (.cond (.tmp 6) (.seq (.region [⟨some 2,.mov (.val (.int .i64 0)),none⟩,⟨some 3,.mov (.val (.int .i64 34)),none⟩]) .ret) .skip)) (.seq (.dregion [⟨⟨some 7,.fieldAddr 0 (.tmp 1),none⟩,0,0,true⟩,⟨⟨some 8,.load none (.tmp 7),none⟩,1,1,true⟩,⟨⟨some 9,.call (.val (.func (.func 66) [] [])) [.tmp 8],none⟩,3,2,false⟩,⟨⟨some 10,.fieldAddr 1 (.tmp 1),none⟩,0,0,true⟩,⟨⟨some 11,.load none (.tmp 10),none⟩,8,1,true⟩,⟨⟨some 12,.bin .add (.tmp 9) (.tmp 11),none⟩,31,0,false⟩,⟨⟨some 2,.mov (.tmp 12),none⟩,63,0,false⟩,⟨⟨some 3,.mov (.val (.int .i64 0)),none⟩,127,0,true⟩]) .ret))),[.tmp 2,.tmp 3]⟩
def c25 : RFunc := ⟨33,.code (.seq (.region [⟨some 1,.box 38 (.tmp 0),none⟩,⟨some 2,.mov (.val (.str ⟨#[]⟩)),none⟩,⟨some 3,.mov (.val (.int .i64 0)),none⟩]) (.seq (.seq (.region [⟨some 7,.load (some 2) (.tmp 1),none⟩,⟨some 8,.call (.val (.func (.func 63) [] [])) [.tmp 7],none⟩,⟨some 9,.un .not (.tmp 8),none⟩]) (.cond (.tmp 9) (.seq (.region [⟨some 2,.mov (.val (.str ⟨#[]⟩)),none⟩,⟨some 3,.mov (.val (.int .i64 34)),none⟩]) .ret) .skip)) (.seq (.region [⟨some 10,.build [(.str ⟨#[]⟩),(.str ⟨#[]⟩),(.str ⟨#[]⟩)] [(0,1,(.val (.str ⟨#[98]⟩))),(1,1,(.val (.str ⟨#[]⟩))),(2,1,(.val (.str ⟨#[35]⟩)))],none⟩,⟨some 4,.new 87 [(.str ⟨#[]⟩),(.str ⟨#[]⟩),(.str ⟨#[]⟩)],none⟩,⟨none,.store 3 (.tmp 4) (.tmp 10),none⟩]) (.seq (.dregion [⟨⟨some 11,.fieldAddr 0 (.tmp 1),none⟩,0,0,true⟩,⟨⟨some 12,.load none (.tmp 11),none⟩,1,1,true⟩,⟨⟨some 13,.bin .rem (.tmp 12) (.val (.int .i64 7)),none⟩,3,0,true⟩,⟨⟨some 14,.fieldAddr 0 (.tmp 1),none⟩,0,0,true⟩,⟨⟨some 15,.load none (.tmp 14),none⟩,8,1,true⟩,⟨⟨some 16,.bin .quo (.tmp 15) (.val (.int .i64 7)),none⟩,24,0,true⟩,⟨⟨some 5,.mov (.tmp 13),none⟩,7,0,true⟩,⟨⟨some 6,.mov (.tmp 16),none⟩,127,0,true⟩]) (.seq (.dregion [⟨⟨some 17,.mov (.tmp 5),none⟩,0,0,true⟩,⟨⟨some 18,.mov (.tmp 5),none⟩,0,0,true⟩,⟨⟨some 19,.bin .add (.tmp 18) (.val (.int .i64 1)),none⟩,2,0,true⟩,⟨⟨some 20,.sliceStr (.val (.str ⟨#[99,100,101,102,103,97,98]⟩)) (some (.tmp 17)) (some (.tmp 19)),none⟩,7,0,true⟩,⟨⟨some 21,.fieldAddr 1 (.tmp 1),none⟩,0,0,true⟩,⟨⟨some 22,.load none (.tmp 21),none⟩,16,1,true⟩,⟨⟨some 23,.bin .add (.tmp 22) (.val (.int .i64 1)),none⟩,48,0,true⟩,⟨⟨some 24,.idxA 3 1 (.tmp 4) (.tmp 23),none⟩,112,0,true⟩,⟨⟨some 25,.load none (.tmp 24),none⟩,240,1,true⟩,⟨⟨some 26,.bin .add (.tmp 20) (.tmp 25),none⟩,511,0,true⟩,⟨⟨some 27,.mov (.tmp 6),none⟩,0,0,true⟩,⟨⟨some 28,.convInt .u8 (.tmp 27),none⟩,1024,0,true⟩,⟨⟨some 29,.bin .add (.val (.int .u8 48)) (.tmp 28),none⟩,3072,0,true⟩,⟨⟨some 30,.buildSlice 5 1 1 [(.int .u8 0)] [(0,1,(.tmp 29))],none⟩,7168,3,true⟩,⟨⟨some 31,.bytesToStr (.tmp 30),none⟩,15360,1,true⟩,⟨⟨some 32,.bin .add (.tmp 26) (.tmp 31),none⟩,32767,0,true⟩,⟨⟨some 2,.mov (.tmp 32),none⟩,65535,0,true⟩,⟨⟨some 3,.mov (.val (.int .i64 0)),none⟩,131071,0,true⟩]) .ret))))),[.tmp 2,.tmp 3]⟩
def c29 : RFunc := ⟨111,.code (.seq (.region [⟨some 4,.box 38 (.tmp 0),none⟩,⟨some 5,.box 38 (.tmp 1),none⟩,⟨some 6,.box 47 (.tmp 2),none⟩,⟨some 8,.mov (.val (.bool false)),none⟩]) (.seq (.region [⟨some 26,.load (some 2) (.tmp 6),none⟩,⟨some 9,.new 93 [(.int .i64 0),(.int .i64 0)],none⟩,⟨none,.store 2 (.tmp 9) (.tmp 26),none⟩]) (.seq (.region [⟨some 28,.load (some 2) (.tmp 4),none⟩,⟨some 29,.load (some 2) (.tmp 6),none⟩,⟨some 30,.call (.val (.func (.func 44) [] [])) [.tmp 28,.tmp 29],none⟩,⟨some 27,.mov (.tmp 30),none⟩,⟨some 31,.extract (.tmp 27) 0,none⟩,⟨some 32,.extract (.tmp 27) 1,none⟩,⟨some 10,.new 38 [(.int .i64 0),(.int .i64 0)],none⟩,⟨none,.store 2 (.tmp 10) (.tmp 31),none⟩,⟨some 11,.mov (.tmp 32),none⟩]) (.seq (.region [⟨some 34,.load (some 2) (.tmp 4),none⟩,⟨some 35,.load (some 2) (.tmp 9),none⟩,⟨some 36,.call (.val (.func (.func 70) [] [])) [.tmp 34,.tmp 35],none⟩,⟨some 33,.mov (.tmp 36),none⟩,⟨some 37,.extract (.tmp 33) 0,none⟩,⟨some 38,.extract (.tmp 33) 1,none⟩,⟨some 12,.new 38 [(.int .i64 0),(.int .i64 0)],none⟩,⟨none,.store 2 (.tmp 12) (.tmp 37),none⟩,⟨some 13,.mov (.tmp 38),none⟩]) (.seq (.region [⟨some 40,.mov (.tmp 3),none⟩,⟨some 41,.load (some 2) (.tmp 6),none⟩,⟨some 42,.call (.val (.func (.func 47) [] [])) [.tmp 40,.tmp 41],none⟩,⟨some 39,.mov (.tmp 42),none⟩,⟨some 43,.extract (.tmp 39) 0,none⟩,⟨some 44,.extract (.tmp 39) 1,none⟩,⟨some 14,.mov (.tmp 43),none⟩,⟨some 15,.mov (.tmp 44),none⟩]) (.seq (.region [⟨some 46,.mov (.tmp 3),none⟩,⟨some 47,.load (some 2) (.tmp 9),none⟩,⟨some 48,.call (.val (.func (.func 71) [] [])) [.tmp 46,.tmp 47],none⟩,⟨some 45,.mov (.tmp 48),none⟩,⟨some 49,.extract (.tmp 45) 0,none⟩,⟨some 50,.extract (.tmp 45) 1,none⟩,⟨some 16,.mov (.tmp 49),none⟩,⟨some 17,.mov (.tmp 50),none⟩]) (.seq (.region [⟨some 52,.load (some 2) (.tmp 4),none⟩,⟨some 53,.load (some 2) (.tmp 5),none⟩,⟨some 54,.call (.val (.func (.func 45) [] [])) [.tmp 52,.tmp 53],none⟩,⟨some 51,.mov (.tmp 54),none⟩,⟨some 55,.extract (.tmp 51) 0,none⟩,⟨some 56,.extract (.tmp 51) 1,none⟩,⟨some 18,.new 47 [(.int .i64 0),(.int .i64 0)],none⟩,⟨none,.store 2 (.tmp 18) (.tmp 55),none⟩,⟨some 19,.mov (.tmp 56),none⟩]) (.seq (.region [⟨some 58,.load (some 2) (.tmp 4),none⟩,⟨some 59,.load (some 2) (.tmp 5),none⟩,⟨some 60,.call (.val (.func (.func 72) [] [])) [.tmp 58,.tmp 59],none⟩,⟨some 57,.mov (.tmp 60),none⟩,⟨some 61,.extract (.tmp 57) 0,none⟩,⟨some 62,.extract (.tmp 57) 1,none⟩,⟨some 20,.new 93 [(.int .i64 0),(.int .i64 0)],none⟩,⟨none,.store 2 (.tmp 20) (.tmp 61),none⟩,⟨some 21,.mov (.tmp 62),none⟩]) (.seq (.region [⟨some 64,.load (some 2) (.tmp 6),none⟩,⟨some 65,.call (.val (.func (.func 49) [] [])) [.tmp 64],none⟩,⟨some 63,.mov (.tmp 65),none⟩,⟨some 66,.extract (.tmp 63) 0,none⟩,⟨some 67,.extract (.tmp 63) 1,none⟩,⟨some 22,.mov (.tmp 66),none⟩,⟨some 23,.mov (.tmp 67),none⟩]) (.seq (.region [⟨some 69,.load (some 2) (.tmp 9),none⟩,⟨some 70,.call (.val (.func (.func 73) [] [])) [.tmp 69],none⟩,⟨some 68,.mov (.tmp 70),none⟩,⟨some 71,.extract (.tmp 68) 0,none⟩,⟨some 72,.extract (.tmp 68) 1,none⟩,⟨some 24,.mov (.tmp 71),none⟩,⟨some 25,.mov (.tmp 72),none⟩]) (.seq (.region [⟨some 73,.load (some 2) (.tmp 10),none⟩,⟨some 74,.load (some 2) (.tmp 12),none⟩,⟨some 75,.eq false (.fields [some (0,0,.int),some (1,0,.int)]) (.tmp 73) (.tmp 74),none⟩,⟨some 76,.mov (.tmp 75),none⟩,⟨some 77,.mov (.tmp 11),some (76,true)⟩,⟨some 78,.mov (.tmp 13),some (76,true)⟩,⟨some 79,.bin .eql (.tmp 77) (.tmp 78),some (76,true)⟩,⟨some 80,.pick (.tmp 76) (.tmp 79) (.val (.bool false)),none⟩,⟨some 81,.mov (.tmp 80),none⟩,⟨some 82,.mov (.tmp 14),some (81,true)⟩,⟨some 83,.mov (.tmp 16),some (81,true)⟩,⟨some 84,.bin .eql (.tmp 82) (.tmp 83),some (81,true)⟩,⟨some 85,.pick (.tmp 81) (.tmp 84) (.val (.bool false)),none⟩,⟨some 86,.mov (.tmp 85),none⟩,⟨some 87,.mov (.tmp 15),some (86,true)⟩,⟨some 88,.mov (.tmp 17),some (86,true)⟩,⟨some 89,.bin .eql (.tmp 87) (.tmp 88),some (86,true)⟩,⟨some 90,.pick (.tmp 86) (.tmp 89) (.val (.bool false)),none⟩,⟨some 91,.mov (.tmp 90),none⟩,⟨some 92,.load (some 2) (.tmp 18),some (91,true)⟩,⟨some 93,.load (some 2) (.tmp 20),some (91,true)⟩,⟨some 94,.eq false (.fields [some (0,0,.int),some (1,0,.int)]) (.tmp 92) (.tmp 93),some (91,true)⟩,⟨some 95,.pick (.tmp 91) (.tmp 94) (.val (.bool false)),none⟩,⟨some 96,.mov (.tmp 95),none⟩,⟨some 97,.mov (.tmp 19),some (96,true)⟩,⟨some 98,.mov (.tmp 21),some (96,true)⟩,⟨some 99,.bin .eql (.tmp 97) (.tmp 98),some (96,true)⟩,⟨some 100,.pick (.tmp 96) (.tmp 99) (.val (.bool false)),none⟩,⟨some 101,.mov (.tmp 100),none⟩,⟨some 102,.mov (.tmp 22),some (101,true)⟩,⟨some 103,.mov (.tmp 24),some (101,true)⟩,⟨some 104,.bin .eql (.tmp 102) (.tmp 103),some (101,true)⟩,⟨some 105,.pick (.tmp 101) (.tmp 104) (.val (.bool false)),none⟩,⟨some 106,.mov (.tmp 105),none⟩,⟨some 107,.mov (.tmp 23),some (106,true)⟩,⟨some 108,.mov (.tmp 25),some (106,true)⟩,⟨some 109,.bin .eql (.tmp 107) (.tmp 108),some (106,true)⟩,⟨some 110,.pick (.tmp 106) (.tmp 109) (.val (.bool false)),none⟩,⟨some 8,.mov (.tmp 110),none⟩]) .ret))))))))))),[.tmp 8]⟩
def c30 : RFunc := ⟨25,.code (.seq (.region [⟨some 2,.mov (.val (.bool false)),none⟩]) (.seq (.region [⟨some 8,.mov (.tmp 0),none⟩,⟨some 9,.call (.val (.func (.func 50) [] [])) [.tmp 8],none⟩,⟨some 7,.mov (.tmp 9),none⟩,⟨some 10,.extract (.tmp 7) 0,none⟩,⟨some 11,.extract (.tmp 7) 1,none⟩,⟨some 3,.new 47 [(.int .i64 0),(.int .i64 0)],none⟩,⟨none,.store 2 (.tmp 3) (.tmp 10),none⟩,⟨some 4,.mov (.tmp 11),none⟩]) (.seq (.region [⟨some 13,.mov (.tmp 0),none⟩,⟨some 14,.call (.val (.func (.func 74) [] [])) [.tmp 13],none⟩,⟨some 12,.mov (.tmp 14),none⟩,⟨some 15,.extract (.tmp 12) 0,none⟩,⟨some 16,.extract (.tmp 12) 1,none⟩,⟨some 5,.new 93 [(.int .i64 0),(.int .i64 0)],none⟩,⟨none,.store 2 (.tmp 5) (.tmp 15),none⟩,⟨some 6,.mov (.tmp 16),none⟩]) (.seq (.region [⟨some 17,.load (some 2) (.tmp 3),none⟩,⟨some 18,.load (some 2) (.tmp 5),none⟩,⟨some 19,.eq false (.fields [some (0,0,.int),some (1,0,.int)]) (.tmp 17) (.tmp 18),none⟩,⟨some 20,.mov (.tmp 19),none⟩,⟨some 21,.mov (.tmp 4),some (20,true)⟩,⟨some 22,.mov (.tmp 6),some (20,true)⟩,⟨some 23,.bin .eql (.tmp 21) (.tmp 22),some (20,true)⟩,⟨some 24,.pick (.tmp 20) (.tmp 23) (.val (.bool false)),none⟩,⟨some 2,.mov (.tmp 24),none⟩]) .ret)))),[.tmp 2]⟩
def c33 : RFunc := ⟨14,.code (.seq (.region [⟨some 2,.box 23 (.tmp 0),none⟩,⟨some 3,.box 23 (.tmp 1),none⟩,⟨some 4,.new 23 [(.int .i64 0),(.int .i64 0)],none⟩,⟨some 5,.mov (.val (.int .i64 0)),none⟩]) (.seq (.region [⟨some 7,.build [.nfunc] [(0,1,(.val (.func (.func 82) [] [])))],none⟩,⟨some 6,.new 110 [.nfunc],none⟩,⟨none,.store 1 (.tmp 6) (.tmp 7),none⟩]) (.seq (.region [⟨some 8,.load (some 1) (.tmp 6),none⟩,⟨some 9,.load (some 2) (.tmp 2),none⟩,⟨some 10,.load (some 2) (.tmp 3),none⟩,⟨some 11,.call (.val (.func (.func 83) [] [])) [.tmp 8,.tmp 9,.tmp 10],none⟩,⟨some 12,.extract (.tmp 11) 0,none⟩,⟨some 13,.extract (.tmp 11) 1,none⟩,⟨none,.store 2 (.tmp 4) (.tmp 12),none⟩,⟨some 5,.mov (.tmp 13),none⟩]) .ret))),[.cell 4 (some 2),.tmp 5]⟩
def c39 : RFunc := ⟨19,.code (.seq (.region [⟨some 2,.mov (.val .nptr),none⟩,⟨some 3,.mov (.val (.int .i64 0)),none⟩]) (.seq (.seq (.region [⟨some 5,.mov (.tmp 0),none⟩,⟨some 6,.call (.val (.func (.func 89) [] [])) [.tmp 5],none⟩,⟨some 7,.un .not (.tmp 6),none⟩]) (.cond (.tmp 7) (.seq (.region [⟨some 2,.mov (.val .nptr),none⟩,⟨some 3,.mov (.val (.int .i64 31)),none⟩]) .ret) .skip)) (.seq (.region [⟨some 8,.mov (.tmp 0),none⟩,⟨some 9,.build [(.int .i64 0)] [(0,1,(.tmp 8))],none⟩,⟨some 10,.build [(.int .i64 0),.nptr,(.int .i64 0),(.int .i64 0),(.int .i64 0),(.int .i64 0),(.int .i64 0),(.int .i64 0),(.int .i64 0),(.int .i64 0),(.int .i64 0),(.int .i64 0),(.int .i64 0),(.int .i64 0),(.int .i64 0),(.int .i64 0),(.int .i64 0),(.int .i64 0),(.int .i64 0),(.int .i64 0),(.int .i64 0),(.int .i64 0),(.int .i64 0),(.int .i64 0),(.int .i64 0),(.int .i64 0),(.int .i64 0),(.int .i64 0),(.int .i64 0),(.int .i64 0),(.int .i64 0),(.int .i64 0),(.int .i64 0),(.int .i64 0),(.int .i64 0),(.int .i64 0),(.int .i64 0),(.int .i64 0),(.int .i64 0),(.int .i64 0),(.int .i64 0),(.int .i64 0),(.int .i64 0),(.int .i64 0),(.int .i64 0),(.int .i64 0),(.int .i64 0),(.int .i64 0),(.int .i64 0),(.int .i64 0),(.int .i64 0),(.int .i64 0),(.int .i64 0),(.int .i64 0),(.int .i64 0),(.int .i64 0),(.int .i64 0),(.int .i64 0),(.int .i64 0),(.int .i64 0),(.int .i64 0),(.int .i64 0),(.int .i64 0),(.int .i64 0),(.int .i64 0),(.int .i64 0),(.int .i64 0),(.int .i64 0),(.int .i64 0),(.int .i64 0),(.int .i64 0),(.int .i64 0)] [(0,1,(.tmp 9))],none⟩,⟨some 11,.box 117 (.tmp 10),none⟩,⟨some 4,.mov (.tmp 11),none⟩]) (.seq (.region [⟨some 12,.mov (.tmp 4),none⟩,⟨some 13,.mov (.tmp 4),none⟩,⟨some 14,.nilCheck (.tmp 12),none⟩,⟨some 15,.fieldAddr 1 (.tmp 14),none⟩,⟨none,.store 1 (.tmp 15) (.tmp 13),none⟩]) (.seq (.region [⟨some 16,.mov (.tmp 4),none⟩,⟨some 17,.call (.val (.func (.func 40) [] [])) [.tmp 16],none⟩]) (.seq (.region [⟨some 18,.mov (.tmp 4),none⟩,⟨some 2,.mov (.tmp 18),none⟩,⟨some 3,.mov (.val (.int .i64 0)),none⟩]) .ret)))))),[.tmp 2,.tmp 3]⟩
def c40 : RFunc := ⟨22,.code (.seq (.region [⟨some 2,.mov (.val (.int .i64 0)),none⟩]) (.seq (.seq (.region [⟨some 4,.mov (.tmp 0),none⟩,⟨some 5,.call (.val (.func (.func 90) [] [])) [.tmp 4],none⟩,⟨some 6,.un .not (.tmp 5),none⟩]) (.cond (.tmp 6) (.seq (.region [⟨some 2,.mov (.val (.int .i64 7)),none⟩]) .ret) .skip)) (.seq (.seq (.region [⟨some 7,.mov (.val (.int .i64 0)),none⟩]) (.block 0 (.loop (.seq (.region [⟨some 8,.bin .lss (.tmp 7) (.val (.int .i64 70)),none⟩]) (.seq (.cond (.tmp 8) .skip (.exit 0)) (.seq (.block 1 (.seq (.region [⟨some 9,.mov (.tmp 7),none⟩,⟨some 3,.mov (.tmp 9),none⟩]) (.dregion [⟨⟨some 10,.mov (.tmp 0),none⟩,0,0,true⟩,⟨⟨some 11,.mov (.tmp 3),none⟩,0,0,true⟩,⟨⟨some 12,.mov (.tmp 0),none⟩,0,0,true⟩,⟨⟨some 13,.nilCheck (.tmp 12),none⟩,4,0,true⟩,⟨⟨some 14,.fieldAddr 0 (.tmp 13),none⟩,12,0,true⟩,⟨⟨some 15,.load (some 1) (.tmp 14),none⟩,28,1,true⟩,⟨⟨some 16,.mov (.tmp 3),none⟩,0,0,true⟩,⟨⟨some 17,.call (.val (.func (.func 91) [] [])) [.tmp 15,.tmp 16],none⟩,124,2,false⟩,⟨⟨some 18,.nilCheck (.tmp 10),none⟩,1,0,true⟩,⟨⟨some 19,.fieldAddr 2 (.tmp 18),none⟩,257,0,true⟩,⟨⟨some 20,.idxA 70 1 (.tmp 19) (.tmp 11),none⟩,1023,0,true⟩,⟨⟨none,.store 1 (.tmp 20) (.tmp 17),none⟩,2047,2,false⟩]))) (.region [⟨some 21,.bin .add (.tmp 7) (.val (.int .i64 1)),none⟩,⟨some 7,.mov (.tmp 21),none⟩]))))))) (.seq (.region [⟨some 2,.mov (.val (.int .i64 0)),none⟩]) .ret)))),[.tmp 2]⟩
def c42 : RFunc := ⟨35,.code (.seq (.region [⟨some 6,.mov (.val (.int .i64 0)),none⟩,⟨some 7,.mov (.val (.int .i64 0)),none⟩]) (.seq (.seq (.region [⟨some 8,.mov (.tmp 0),none⟩,⟨some 9,.call (.val (.func (.func 90) [] [])) [.tmp 8],none⟩,⟨some 10,.un .not (.tmp 9),none⟩]) (.cond (.tmp 10) (.seq (.region [⟨some 6,.mov (.val (.int .i64 0)),none⟩,⟨some 7,.mov (.val (.int .i64 7)),none⟩]) .ret) .skip)) (.seq (.seq (.region [⟨some 11,.mov (.tmp 1),none⟩,⟨some 12,.call (.val (.func (.func 92) [] [])) [.tmp 11],none⟩,⟨some 13,.un .not (.tmp 12),none⟩,⟨some 14,.mov (.tmp 13),none⟩,⟨some 15,.mov (.tmp 2),some (14,false)⟩,⟨some 16,.call (.val (.func (.func 93) [] [])) [.tmp 15],some (14,false)⟩,⟨some 17,.un .not (.tmp 16),some (14,false)⟩,⟨some 18,.pick (.tmp 14) (.val (.bool true)) (.tmp 17),none⟩]) (.cond (.tmp 18) (.seq (.region [⟨some 6,.mov (.val (.int .i64 0)),none⟩,⟨some 7,.mov (.val (.int .i64 34)),none⟩]) .ret) .skip)) (.seq (.seq (.region [⟨some 19,.mov (.tmp 0),none⟩,⟨some 20,.mov (.tmp 1),none⟩,⟨some 21,.nilCheck (.tmp 19),none⟩,⟨some 22,.fieldAddr 2 (.tmp 21),none⟩,⟨some 23,.idxA 70 1 (.tmp 22) (.tmp 20),none⟩,⟨some 24,.load none (.tmp 23),none⟩,⟨some 25,.mov (.tmp 2),none⟩,⟨some 26,.bin .eql (.tmp 24) (.tmp 25),none⟩]) (.cond (.tmp 26) (.seq (.region [⟨some 6,.mov (.val (.int .i64 0)),none⟩,⟨some 7,.mov (.val (.int .i64 0)),none⟩]) .ret) .skip)) (.seq (.region [⟨some 27,.mov (.tmp 0),none⟩,⟨some 28,.mov (.tmp 1),none⟩,⟨some 29,.mov (.tmp 2),none⟩,⟨some 30,.nilCheck (.tmp 27),none⟩,⟨some 31,.fieldAddr 2 (.tmp 30),none⟩,⟨some 32,.idxA 70 1 (.tmp 31) (.tmp 28),none⟩,⟨none,.store 1 (.tmp 32) (.tmp 29),none⟩]) (.seq (.region [⟨some 33,.mov (.tmp 2),none⟩,⟨some 34,.call (.val (.func (.func 94) [] [])) [.tmp 33],none⟩,⟨some 6,.mov (.tmp 34),none⟩,⟨some 7,.mov (.val (.int .i64 0)),none⟩]) .ret)))))),[.tmp 6,.tmp 7]⟩
def c43 : RFunc := ⟨49,.code (.seq (.region [⟨some 6,.mov (.val (.int .i64 0)),none⟩,⟨some 7,.mov (.val (.int .i64 0)),none⟩]) (.seq (.seq (.region [⟨some 8,.mov (.tmp 0),none⟩,⟨some 9,.call (.val (.func (.func 90) [] [])) [.tmp 8],none⟩,⟨some 10,.un .not (.tmp 9),none⟩]) (.cond (.tmp 10) (.seq (.region [⟨some 6,.mov (.val (.int .i64 0)),none⟩,⟨some 7,.mov (.val (.int .i64 7)),none⟩]) .ret) .skip)) (.seq (.seq (.region [⟨some 11,.mov (.tmp 1),none⟩,⟨some 12,.call (.val (.func (.func 92) [] [])) [.tmp 11],none⟩,⟨some 13,.un .not (.tmp 12),none⟩]) (.cond (.tmp 13) (.seq (.region [⟨some 6,.mov (.val (.int .i64 0)),none⟩,⟨some 7,.mov (.val (.int .i64 34)),none⟩]) .ret) .skip)) (.seq (.seq (.region [⟨some 14,.mov (.tmp 2),none⟩,⟨some 15,.bin .eql (.tmp 14) (.val (.int .i64 0)),none⟩]) (.cond (.tmp 15) (.seq (.region [⟨some 16,.mov (.tmp 0),none⟩,⟨some 17,.mov (.tmp 1),none⟩,⟨some 18,.nilCheck (.tmp 16),none⟩,⟨some 19,.fieldAddr 2 (.tmp 18),none⟩,⟨some 20,.idxA 70 1 (.tmp 19) (.tmp 17),none⟩,⟨some 21,.load none (.tmp 20),none⟩,⟨some 6,.mov (.tmp 21),none⟩,⟨some 7,.mov (.val (.int .i64 0)),none⟩]) .ret) .skip)) (.seq (.seq (.dregion [⟨⟨some 22,.mov (.tmp 2),none⟩,0,0,true⟩,⟨⟨some 23,.call (.val (.func (.func 95) [] [])) [.tmp 22],none⟩,1,2,false⟩,⟨⟨some 24,.un .not (.tmp 23),none⟩,3,0,false⟩,⟨⟨some 25,.mov (.tmp 24),none⟩,7,0,false⟩,⟨⟨some 26,.mov (.tmp 0),some (25,false)⟩,15,0,false⟩,⟨⟨some 27,.mov (.tmp 1),some (25,false)⟩,15,0,false⟩,⟨⟨some 28,.nilCheck (.tmp 26),some (25,false)⟩,31,0,false⟩,⟨⟨some 29,.fieldAddr 2 (.tmp 28),some (25,false)⟩,95,0,false⟩,⟨⟨some 30,.idxA 70 1 (.tmp 29) (.tmp 27),some (25,false)⟩,255,0,false⟩,⟨⟨some 31,.load none (.tmp 30),some (25,false)⟩,511,1,false⟩,⟨⟨some 32,.mov (.tmp 2),some (25,false)⟩,15,0,false⟩,⟨⟨some 33,.call (.val (.func (.func 96) [] [])) [.tmp 32],some (25,false)⟩,1039,2,false⟩,⟨⟨some 34,.bin .eql (.tmp 31) (.tmp 33),some (25,false)⟩,4095,0,false⟩,⟨⟨some 35,.pick (.tmp 25) (.val (.bool true)) (.tmp 34),none⟩,8191,0,false⟩]) (.cond (.tmp 35) (.seq (.region [⟨some 6,.mov (.val (.int .i64 0)),none⟩,⟨some 7,.mov (.val (.int .i64 66)),none⟩]) .ret) .skip)) (.seq (.dregion [⟨⟨some 36,.mov (.tmp 0),none⟩,0,0,true⟩,⟨⟨some 37,.mov (.tmp 1),none⟩,0,0,true⟩,⟨⟨some 38,.mov (.tmp 2),none⟩,0,0,true⟩,⟨⟨some 39,.call (.val (.func (.func 96) [] [])) [.tmp 38],none⟩,4,2,false⟩,⟨⟨some 40,.nilCheck (.tmp 36),none⟩,1,0,true⟩,⟨⟨some 41,.fieldAddr 2 (.tmp 40),none⟩,17,0,true⟩,⟨⟨some 42,.idxA 70 1 (.tmp 41) (.tmp 37),none⟩,63,0,true⟩,⟨⟨none,.store 1 (.tmp 42) (.tmp 39),none⟩,127,2,false⟩]) (.seq (.region [⟨some 43,.mov (.tmp 0),none⟩,⟨some 44,.mov (.tmp 1),none⟩,⟨some 45,.nilCheck (.tmp 43),none⟩,⟨some 46,.fieldAddr 2 (.tmp 45),none⟩,⟨some 47,.idxA 70 1 (.tmp 46) (.tmp 44),none⟩,⟨some 48,.load none (.tmp 47),none⟩,⟨some 6,.mov (.tmp 48),none⟩,⟨some 7,.mov (.val (.int .i64 0)),none⟩]) .ret))))))),[.tmp 6,.tmp 7]⟩
def c44 : RFunc := ⟨49,.code (.seq (.region [⟨some 2,.box 38 (.tmp 0),none⟩,⟨some 3,.box 47 (.tmp 1),none⟩,⟨some 4,.new 38 [(.int .i64 0),(.int .i64 0)],none⟩,⟨some 5,.mov (.val (.int .i64 0)),none⟩]) (.seq (.seq (.region [⟨some 8,.load (some 2) (.tmp 3),none⟩,⟨some 9,.call (.val (.func (.func 97) [] [])) [.tmp 8],none⟩,⟨some 10,.un .not (.tmp 9),none⟩]) (.cond (.tmp 10) (.seq (.region [⟨some 11,.build [(.int .i64 0),(.int .i64 0)] [],none⟩,⟨none,.store 2 (.tmp 4) (.tmp 11),none⟩,⟨some 5,.mov (.val (.int .i64 8)),none⟩]) .ret) .skip)) (.seq (.seq (.region [⟨some 12,.load (some 2) (.tmp 2),none⟩,⟨some 13,.call (.val (.func (.func 63) [] [])) [.tmp 12],none⟩,⟨some 14,.un .not (.tmp 13),none⟩,⟨some 15,.mov (.tmp 14),none⟩,⟨some 16,.fieldAddr 0 (.tmp 2),some (15,false)⟩,⟨some 17,.load none (.tmp 16),some (15,false)⟩,⟨some 18,.fieldAddr 0 (.tmp 3),some (15,false)⟩,⟨some 19,.load none (.tmp 18),some (15,false)⟩,⟨some 20,.bin .add (.tmp 17) (.tmp 19),some (15,false)⟩,⟨some 21,.call (.val (.func (.func 92) [] [])) [.tmp 20],some (15,false)⟩,⟨some 22,.un .not (.tmp 21),some (15,false)⟩,⟨some 23,.pick (.tmp 15) (.val (.bool true)) (.tmp 22),none⟩]) (.cond (.tmp 23) (.seq (.region [⟨some 24,.build [(.int .i64 0),(.int .i64 0)] [],none⟩,⟨none,.store 2 (.tmp 4) (.tmp 24),none⟩,⟨some 5,.mov (.val (.int .i64 34)),none⟩]) .ret) .skip)) (.seq (.region [⟨some 25,.fieldAddr 0 (.tmp 2),none⟩,⟨some 26,.load none (.tmp 25),none⟩,⟨some 27,.fieldAddr 0 (.tmp 3),none⟩,⟨some 28,.load none (.tmp 27),none⟩,⟨some 29,.bin .add (.tmp 26) (.tmp 28),none⟩,⟨some 6,.mov (.tmp 29),none⟩]) (.seq (.dregion [⟨⟨some 30,.mov (.tmp 6),none⟩,0,0,true⟩,⟨⟨some 31,.fieldAddr 0 (.tmp 2),none⟩,0,0,true⟩,⟨⟨some 32,.load none (.tmp 31),none⟩,2,1,true⟩,⟨⟨some 33,.call (.val (.func (.func 64) [] [])) [.tmp 32],none⟩,6,2,false⟩,⟨⟨some 34,.fieldAddr 1 (.tmp 2),none⟩,0,0,true⟩,⟨⟨some 35,.load none (.tmp 34),none⟩,16,1,true⟩,⟨⟨some 36,.bin .add (.tmp 33) (.tmp 35),none⟩,62,0,false⟩,⟨⟨some 37,.fieldAddr 1 (.tmp 3),none⟩,0,0,true⟩,⟨⟨some 38,.load none (.tmp 37),none⟩,128,1,true⟩,⟨⟨some 39,.bin .add (.tmp 36) (.tmp 38),none⟩,510,0,false⟩,⟨⟨some 40,.mov (.tmp 6),none⟩,0,0,true⟩,⟨⟨some 41,.call (.val (.func (.func 64) [] [])) [.tmp 40],none⟩,1038,2,false⟩,⟨⟨some 42,.bin .sub (.tmp 39) (.tmp 41),none⟩,4094,0,false⟩,⟨⟨some 43,.build [(.int .i64 0),(.int .i64 0)] [(0,1,(.tmp 30)),(1,1,(.tmp 42))],none⟩,8191,0,false⟩,⟨⟨some 7,.new 38 [(.int .i64 0),(.int .i64 0)],none⟩,0,3,true⟩,⟨⟨none,.store 2 (.tmp 7) (.tmp 43),none⟩,32767,2,false⟩]) (.seq (.seq (.region [⟨some 44,.load (some 2) (.tmp 7),none⟩,⟨some 45,.call (.val (.func (.func 63) [] [])) [.tmp 44],none⟩,⟨some 46,.un .not (.tmp 45),none⟩]) (.cond (.tmp 46) (.seq (.region [⟨some 47,.build [(.int .i64 0),(.int .i64 0)] [],none⟩,⟨none,.store 2 (.tmp 4) (.tmp 47),none⟩,⟨some 5,.mov (.val (.int .i64 34)),none⟩]) .ret) .skip)) (.seq (.region [⟨some 48,.load (some 2) (.tmp 7),none⟩,⟨none,.store 2 (.tmp 4) (.tmp 48),none⟩,⟨some 5,.mov (.val (.int .i64 0)),none⟩]) .ret))))))),[.cell 4 (some 2),.tmp 5]⟩
def c45 : RFunc := ⟨34,.code (.seq (.region [⟨some 2,.box 38 (.tmp 0),none⟩,⟨some 3,.box 38 (.tmp 1),none⟩,⟨some 4,.new 47 [(.int .i64 0),(.int .i64 0)],none⟩,⟨some 5,.mov (.val (.int .i64 0)),none⟩]) (.seq (.seq (.region [⟨some 6,.load (some 2) (.tmp 2),none⟩,⟨some 7,.call (.val (.func (.func 63) [] [])) [.tmp 6],none⟩,⟨some 8,.un .not (.tmp 7),none⟩,⟨some 9,.mov (.tmp 8),none⟩,⟨some 10,.load (some 2) (.tmp 3),some (9,false)⟩,⟨some 11,.call (.val (.func (.func 63) [] [])) [.tmp 10],some (9,false)⟩,⟨some 12,.un .not (.tmp 11),some (9,false)⟩,⟨some 13,.pick (.tmp 9) (.val (.bool true)) (.tmp 12),none⟩]) (.cond (.tmp 13) (.seq (.region [⟨some 14,.build [(.int .i64 0),(.int .i64 0)] [],none⟩,⟨none,.store 2 (.tmp 4) (.tmp 14),none⟩,⟨some 5,.mov (.val (.int .i64 34)),none⟩]) .ret) .skip)) (.seq (.dregion [⟨⟨some 15,.fieldAddr 0 (.tmp 3),none⟩,0,0,true⟩,⟨⟨some 16,.load none (.tmp 15),none⟩,1,1,true⟩,⟨⟨some 17,.fieldAddr 0 (.tmp 2),none⟩,0,0,true⟩,⟨⟨some 18,.load none (.tmp 17),none⟩,4,1,true⟩,⟨⟨some 19,.bin .sub (.tmp 16) (.tmp 18),none⟩,15,0,true⟩,⟨⟨some 20,.fieldAddr 0 (.tmp 3),none⟩,0,0,true⟩,⟨⟨some 21,.load none (.tmp 20),none⟩,32,1,true⟩,⟨⟨some 22,.call (.val (.func (.func 64) [] [])) [.tmp 21],none⟩,96,2,false⟩,⟨⟨some 23,.fieldAddr 1 (.tmp 3),none⟩,0,0,true⟩,⟨⟨some 24,.load none (.tmp 23),none⟩,256,1,true⟩,⟨⟨some 25,.bin .add (.tmp 22) (.tmp 24),none⟩,992,0,false⟩,⟨⟨some 26,.fieldAddr 0 (.tmp 2),none⟩,0,0,true⟩,⟨⟨some 27,.load none (.tmp 26),none⟩,2048,1,true⟩,⟨⟨some 28,.call (.val (.func (.func 64) [] [])) [.tmp 27],none⟩,6368,2,false⟩,⟨⟨some 29,.bin .sub (.tmp 25) (.tmp 28),none⟩,16352,0,false⟩,⟨⟨some 30,.fieldAddr 1 (.tmp 2),none⟩,0,0,true⟩,⟨⟨some 31,.load none (.tmp 30),none⟩,32768,1,true⟩,⟨⟨some 32,.bin .sub (.tmp 29) (.tmp 31),none⟩,131040,0,false⟩,⟨⟨some 33,.build [(.int .i64 0),(.int .i64 0)] [(0,1,(.tmp 19)),(1,1,(.tmp 32))],none⟩,262143,0,false⟩,⟨⟨none,.store 2 (.tmp 4) (.tmp 33),none⟩,524287,2,false⟩,⟨⟨some 5,.mov (.val (.int .i64 0)),none⟩,1048575,0,true⟩]) .ret))),[.cell 4 (some 2),.tmp 5]⟩
def c47 : RFunc := ⟨34,.code (.seq (.region [⟨some 3,.box 47 (.tmp 1),none⟩,⟨some 4,.mov (.val (.int .i64 0)),none⟩,⟨some 5,.mov (.val (.int .i64 0)),none⟩]) (.seq (.seq (.region [⟨some 6,.load (some 2) (.tmp 3),none⟩,⟨some 7,.call (.val (.func (.func 97) [] [])) [.tmp 6],none⟩,⟨some 8,.un .not (.tmp 7),none⟩]) (.cond (.tmp 8) (.seq (.region [⟨some 4,.mov (.val (.int .i64 0)),none⟩,⟨some 5,.mov (.val (.int .i64 8)),none⟩]) .ret) .skip)) (.seq (.seq (.region [⟨some 9,.mov (.tmp 0),none⟩,⟨some 10,.call (.val (.func (.func 89) [] [])) [.tmp 9],none⟩,⟨some 11,.un .not (.tmp 10),none⟩,⟨some 12,.mov (.tmp 11),none⟩,⟨some 13,.mov (.tmp 0),some (12,false)⟩,⟨some 14,.fieldAddr 1 (.tmp 3),some (12,false)⟩,⟨some 15,.load none (.tmp 14),some (12,false)⟩,⟨some 16,.bin .mul (.val (.int .i64 7)) (.tmp 15),some (12,false)⟩,⟨some 17,.bin .add (.tmp 13) (.tmp 16),some (12,false)⟩,⟨some 18,.fieldAddr 0 (.tmp 3),some (12,false)⟩,⟨some 19,.load none (.tmp 18),some (12,false)⟩,⟨some 20,.bin .mul (.val (.int .i64 12)) (.tmp 19),some (12,false)⟩,⟨some 21,.bin .sub (.tmp 17) (.tmp 20),some (12,false)⟩,⟨some 22,.call (.val (.func (.func 89) [] [])) [.tmp 21],some (12,false)⟩,⟨some 23,.un .not (.tmp 22),some (12,false)⟩,⟨some 24,.pick (.tmp 12) (.val (.bool true)) (.tmp 23),none⟩]) (.cond (.tmp 24) (.seq (.region [⟨some 4,.mov (.val (.int .i64 0)),none⟩,⟨some 5,.mov (.val (.int .i64 31)),none⟩]) .ret) .skip)) (.seq (.region [⟨some 25,.mov (.tmp 0),none⟩,⟨some 26,.fieldAddr 1 (.tmp 3),none⟩,⟨some 27,.load none (.tmp 26),none⟩,⟨some 28,.bin .mul (.val (.int .i64 7)) (.tmp 27),none⟩,⟨some 29,.bin .add (.tmp 25) (.tmp 28),none⟩,⟨some 30,.fieldAddr 0 (.tmp 3),none⟩,⟨some 31,.load none (.tmp 30),none⟩,⟨some 32,.bin .mul (.val (.int .i64 12)) (.tmp 31),none⟩,⟨some 33,.bin .sub (.tmp 29) (.tmp 32),none⟩,⟨some 4,.mov (.tmp 33),none⟩,⟨some 5,.mov (.val (.int .i64 0)),none⟩]) .ret)))),[.tmp 4,.tmp 5]⟩
def c49 : RFunc := ⟨46,.code (.seq (.region [⟨some 1,.box 47 (.tmp 0),none⟩,⟨some 2,.mov (.val (.str ⟨#[]⟩)),none⟩,⟨some 3,.mov (.val (.int .i64 0)),none⟩]) (.seq (.seq (.region [⟨some 7,.load (some 2) (.tmp 1),none⟩,⟨some 8,.call (.val (.func (.func 97) [] [])) [.tmp 7],none⟩,⟨some 9,.un .not (.tmp 8),none⟩]) (.cond (.tmp 9) (.seq (.region [⟨some 2,.mov (.val (.str ⟨#[]⟩)),none⟩,⟨some 3,.mov (.val (.int .i64 8)),none⟩]) .ret) .skip)) (.seq (.region [⟨some 4,.mov (.val (.str ⟨#[]⟩)),none⟩]) (.seq (.seq (.region [⟨some 10,.fieldAddr 0 (.tmp 1),none⟩,⟨some 11,.load none (.tmp 10),none⟩,⟨some 12,.bin .lss (.tmp 11) (.val (.int .i64 0)),none⟩,⟨some 13,.mov (.tmp 12),none⟩,⟨some 14,.fieldAddr 0 (.tmp 1),some (13,false)⟩,⟨some 15,.load none (.tmp 14),some (13,false)⟩,⟨some 16,.bin .eql (.tmp 15) (.val (.int .i64 0)),some (13,false)⟩,⟨some 17,.mov (.tmp 16),some (13,false)⟩,⟨some 18,.fieldAddr 1 (.tmp 1),some (17,true)⟩,⟨some 19,.load none (.tmp 18),some (17,true)⟩,⟨some 20,.bin .lss (.tmp 19) (.val (.int .i64 0)),some (17,true)⟩,⟨some 21,.pick (.tmp 17) (.tmp 20) (.val (.bool false)),some (13,false)⟩,⟨some 22,.pick (.tmp 13) (.val (.bool true)) (.tmp 21),none⟩]) (.cond (.tmp 22) (.region [⟨some 23,.load (some 2) (.tmp 1),none⟩,⟨some 24,.call (.val (.func (.func 98) [] [])) [.tmp 23],none⟩,⟨some 4,.mov (.val (.str ⟨#[45]⟩)),none⟩,⟨none,.store 2 (.tmp 1) (.tmp 24),none⟩]) .skip)) (.seq (.seq (.region [⟨some 25,.fieldAddr 0 (.tmp 1),none⟩,⟨some 26,.load none (.tmp 25),none⟩,⟨some 27,.call (.val (.func (.func 92) [] [])) [.tmp 26],none⟩,⟨some 28,.un .not (.tmp 27),none⟩]) (.cond (.tmp 28) (.seq (.region [⟨some 2,.mov (.val (.str ⟨#[]⟩)),none⟩,⟨some 3,.mov (.val (.int .i64 8)),none⟩]) .ret) .skip)) (.seq (.dregion [⟨⟨some 30,.call (.val (.func (.func 99) [] [])) [],none⟩,0,2,false⟩,⟨⟨some 31,.load (some 2) (.tmp 1),none⟩,0,1,true⟩,⟨⟨some 32,.call (.val (.func (.func 100) [] [])) [.tmp 31],none⟩,3,2,false⟩,⟨⟨some 33,.lookup (.fields [some (0,0,.bool),some (1,0,.int)]) (.str ⟨#[]⟩) true (.tmp 30) (.tmp 32),none⟩,7,1,false⟩,⟨⟨some 29,.mov (.tmp 33),none⟩,15,0,false⟩,⟨⟨some 34,.extract (.tmp 29) 0,none⟩,31,0,false⟩,⟨⟨some 35,.extract (.tmp 29) 1,none⟩,31,0,false⟩,⟨⟨some 5,.mov (.tmp 34),none⟩,63,0,false⟩,⟨⟨some 6,.mov (.tmp 35),none⟩,255,0,false⟩]) (.seq (.seq (.region [⟨some 36,.mov (.tmp 6),none⟩,⟨some 37,.un .not (.tmp 36),none⟩]) (.cond (.tmp 37) (.seq (.region [⟨some 2,.mov (.val (.str ⟨#[]⟩)),none⟩,⟨some 3,.mov (.val (.int .i64 8)),none⟩]) .ret) .skip)) (.seq (.region [⟨some 38,.mov (.tmp 4),none⟩,⟨some 39,.mov (.tmp 5),none⟩,⟨some 40,.bin .add (.tmp 38) (.tmp 39),none⟩,⟨some 41,.fieldAddr 0 (.tmp 1),none⟩,⟨some 42,.load none (.tmp 41),none⟩,⟨some 43,.bin .add (.tmp 42) (.val (.int .i64 1)),none⟩,⟨some 44,.call (.val (.func (.func 101) [] [])) [.tmp 43],none⟩,⟨some 45,.bin .add (.tmp 40) (.tmp 44),none⟩,⟨some 2,.mov (.tmp 45),none⟩,⟨some 3,.mov (.val (.int .i64 0)),none⟩]) .ret)))))))),[.tmp 2,.tmp 3]⟩
def c50 : RFunc := ⟨64,.code (.seq (.region [⟨some 2,.new 47 [(.int .i64 0),(.int .i64 0)],none⟩,⟨some 3,.mov (.val (.int .i64 0)),none⟩]) (.seq (.region [⟨some 13,.mov (.tmp 0),none⟩,⟨some 14,.call (.val (.func (.func 102) [] [])) [.tmp 13,(.val (.str ⟨#[45]⟩))],none⟩,⟨some 12,.mov (.tmp 14),none⟩,⟨some 15,.extract (.tmp 12) 0,none⟩,⟨some 16,.extract (.tmp 12) 1,none⟩,⟨some 4,.mov (.tmp 15),none⟩,⟨some 5,.mov (.tmp 16),none⟩]) (.seq (.seq (.region [⟨some 17,.mov (.tmp 4),none⟩,⟨some 18,.bin .eql (.tmp 17) (.val (.str ⟨#[]⟩)),none⟩]) (.cond (.tmp 18) (.seq (.region [⟨some 19,.build [(.int .i64 0),(.int .i64 0)] [],none⟩,⟨none,.store 2 (.tmp 2) (.tmp 19),none⟩,⟨some 3,.mov (.val (.int .i64 5)),none⟩]) .ret) .skip)) (.seq (.region [⟨some 21,.mov (.tmp 4),none⟩,⟨some 22,.sliceStr (.tmp 21) (some (.val (.int .i64 1))) none,none⟩,⟨some 23,.call (.val (.func (.func 103) [] [])) [.tmp 22],none⟩,⟨some 20,.mov (.tmp 23),none⟩,⟨some 24,.extract (.tmp 20) 0,none⟩,⟨some 25,.extract (.tmp 20) 1,none⟩,⟨some 6,.mov (.tmp 24),none⟩,⟨some 7,.mov (.tmp 25),none⟩]) (.seq (.seq (.region [⟨some 26,.mov (.tmp 7),none⟩,⟨some 27,.eq true (.iface true []) (.tmp 26) (.val .niface),none⟩,⟨some 28,.mov (.tmp 27),none⟩,⟨some 29,.mov (.tmp 6),some (28,false)⟩,⟨some 30,.bin .sub (.tmp 29) (.val (.int .i64 1)),some (28,false)⟩,⟨some 31,.call (.val (.func (.func 92) [] [])) [.tmp 30],some (28,false)⟩,⟨some 32,.un .not (.tmp 31),some (28,false)⟩,⟨some 33,.pick (.tmp 28) (.val (.bool true)) (.tmp 32),none⟩]) (.cond (.tmp 33) (.seq (.region [⟨some 34,.build [(.int .i64 0),(.int .i64 0)] [],none⟩,⟨none,.store 2 (.tmp 2) (.tmp 34),none⟩,⟨some 3,.mov (.val (.int .i64 5)),none⟩]) .ret) .skip)) (.seq (.seq (.region [⟨some 8,.mov (.val (.int .i64 (-2))),none⟩]) (.block 0 (.loop (.seq (.seq (.region [⟨some 35,.mov (.tmp 8),none⟩,⟨some 36,.bin .leq (.tmp 35) (.val (.int .i64 1)),none⟩]) (.cond (.tmp 36) .skip (.exit 0))) (.seq (.block 1 (.seq (.region [⟨some 39,.mov (.tmp 6),none⟩,⟨some 40,.bin .sub (.tmp 39) (.val (.int .i64 1)),none⟩,⟨some 41,.mov (.tmp 6),none⟩,⟨some 42,.bin .sub (.tmp 41) (.val (.int .i64 1)),none⟩,⟨some 43,.call (.val (.func (.func 64) [] [])) [.tmp 42],none⟩,⟨some 44,.mov (.tmp 8),none⟩,⟨some 45,.bin .add (.tmp 43) (.tmp 44),none⟩,⟨some 46,.build [(.int .i64 0),(.int .i64 0)] [(0,1,(.tmp 40)),(1,1,(.tmp 45))],none⟩,⟨some 9,.new 47 [(.int .i64 0),(.int .i64 0)],none⟩,⟨none,.store 2 (.tmp 9) (.tmp 46),none⟩]) (.seq (.seq (.region [⟨some 47,.mov (.tmp 5),none⟩]) (.cond (.tmp 47) (.region [⟨some 48,.load (some 2) (.tmp 9),none⟩,⟨some 49,.call (.val (.func (.func 98) [] [])) [.tmp 48],none⟩,⟨none,.store 2 (.tmp 9) (.tmp 49),none⟩]) .skip)) (.seq (.region [⟨some 51,.load (some 2) (.tmp 9),none⟩,⟨some 52,.call (.val (.func (.func 49) [] [])) [.tmp 51],none⟩,⟨some 50,.mov (.tmp 52),none⟩,⟨some 53,.extract (.tmp 50) 0,none⟩,⟨some 54,.extract (.tmp 50) 1,none⟩,⟨some 10,.mov (.tmp 53),none⟩,⟨some 11,.mov (.tmp 54),none⟩]) (.seq (.region [⟨some 55,.mov (.tmp 11),none⟩,⟨some 56,.bin .eql (.tmp 55) (.val (.int .i64 0)),none⟩,⟨some 57,.mov (.tmp 56),none⟩,⟨some 58,.mov (.tmp 10),some (57,true)⟩,⟨some 59,.mov (.tmp 0),some (57,true)⟩,⟨some 60,.bin .eql (.tmp 58) (.tmp 59),some (57,true)⟩,⟨some 61,.pick (.tmp 57) (.tmp 60) (.val (.bool false)),none⟩]) (.cond (.tmp 61) (.seq (.region [⟨some 62,.load (some 2) (.tmp 9),none⟩,⟨none,.store 2 (.tmp 2) (.tmp 62),none⟩,⟨some 3,.mov (.val (.int .i64 0)),none⟩]) .ret) .skip)))))) (.region [⟨some 37,.mov (.tmp 8),none⟩,⟨some 38,.bin .add (.tmp 37) (.val (.int .i64 1)),none⟩,⟨some 8,.mov (.tmp 38),none⟩])))))) (.seq (.region [⟨some 63,.build [(.int .i64 0),(.int .i64 0)] [],none⟩,⟨none,.store 2 (.tmp 2) (.tmp 63),none⟩,⟨some 3,.mov (.val (.int .i64 5)),none⟩]) .ret))))))),[.cell 2 (some 2),.tmp 3]⟩
def c56 : RFunc := ⟨48,.code (.seq (.region [⟨some 4,.new 23 [(.int .i64 0),(.int .i64 0)],none⟩,⟨some 5,.mov (.val (.int .i64 0)),none⟩]) (.seq (.seq (.region [⟨some 10,.mov (.tmp 1),none⟩,⟨some 11,.bin .eql (.tmp 10) (.val (.int .i64 0)),none⟩]) (.cond (.tmp 11) (.seq (.region [⟨some 12,.build [(.int .i64 0),(.int .i64 0)] [],none⟩,⟨none,.store 2 (.tmp 4) (.tmp 12),none⟩,⟨some 5,.mov (.val (.int .i64 1)),none⟩]) .ret) .skip)) (.seq (.region [⟨some 13,.mov (.tmp 0),none⟩,⟨some 14,.call (.val (.func (.func 105) [] [])) [.tmp 13],none⟩,⟨some 15,.mov (.tmp 1),none⟩,⟨some 16,.call (.val (.func (.func 105) [] [])) [.tmp 15],none⟩,⟨some 6,.mov (.tmp 14),none⟩,⟨some 7,.mov (.tmp 16),none⟩]) (.seq (.region [⟨some 17,.mov (.tmp 6),none⟩,⟨some 18,.mov (.tmp 7),none⟩,⟨some 19,.call (.val (.func (.func 106) [] [])) [.tmp 17,.tmp 18],none⟩,⟨some 8,.mov (.tmp 19),none⟩]) (.seq (.dregion [⟨⟨some 20,.mov (.tmp 6),none⟩,0,0,true⟩,⟨⟨some 21,.mov (.tmp 8),none⟩,0,0,true⟩,⟨⟨some 22,.bin .quo (.tmp 20) (.tmp 21),none⟩,3,0,true⟩,⟨⟨some 23,.mov (.tmp 7),none⟩,0,0,true⟩,⟨⟨some 24,.mov (.tmp 8),none⟩,0,0,true⟩,⟨⟨some 25,.bin .quo (.tmp 23) (.tmp 24),none⟩,24,0,true⟩,⟨⟨some 6,.mov (.tmp 22),none⟩,7,0,true⟩,⟨⟨some 7,.mov (.tmp 25),none⟩,127,0,true⟩]) (.seq (.seq (.region [⟨some 26,.mov (.tmp 6),none⟩,⟨some 27,.bin .gtr (.tmp 26) (.val (.int .u64 1048576)),none⟩,⟨some 28,.mov (.tmp 27),none⟩,⟨some 29,.mov (.tmp 7),some (28,false)⟩,⟨some 30,.bin .gtr (.tmp 29) (.val (.int .u64 1048576)),some (28,false)⟩,⟨some 31,.pick (.tmp 28) (.val (.bool true)) (.tmp 30),none⟩]) (.cond (.tmp 31) (.seq (.region [⟨some 32,.build [(.int .i64 0),(.int .i64 0)] [],none⟩,⟨none,.store 2 (.tmp 4) (.tmp 32),none⟩,⟨some 5,.mov (.val (.int .i64 8)),none⟩]) .ret) .skip)) (.seq (.region [⟨some 33,.mov (.tmp 6),none⟩,⟨some 34,.convInt .i64 (.tmp 33),none⟩,⟨some 35,.mov (.tmp 7),none⟩,⟨some 36,.convInt .i64 (.tmp 35),none⟩,⟨some 37,.build [(.int .i64 0),(.int .i64 0)] [(0,1,(.tmp 34)),(1,1,(.tmp 36))],none⟩,⟨some 9,.new 23 [(.int .i64 0),(.int .i64 0)],none⟩,⟨none,.store 2 (.tmp 9) (.tmp 37),none⟩]) (.seq (.seq (.region [⟨some 38,.mov (.tmp 0),none⟩,⟨some 39,.bin .lss (.tmp 38) (.val (.int .i64 0)),none⟩,⟨some 40,.mov (.tmp 1),none⟩,⟨some 41,.bin .lss (.tmp 40) (.val (.int .i64 0)),none⟩,⟨some 42,.eq true .bool (.tmp 39) (.tmp 41),none⟩]) (.cond (.tmp 42) (.region [⟨some 43,.fieldAddr 0 (.tmp 9),none⟩,⟨some 44,.load none (.tmp 43),none⟩,⟨some 45,.un .neg (.tmp 44),none⟩,⟨some 46,.fieldAddr 0 (.tmp 9),none⟩,⟨none,.store 1 (.tmp 46) (.tmp 45),none⟩]) .skip)) (.seq (.region [⟨some 47,.load (some 2) (.tmp 9),none⟩,⟨none,.store 2 (.tmp 4) (.tmp 47),none⟩,⟨some 5,.mov (.val (.int .i64 0)),none⟩]) .ret))))))))),[.cell 4 (some 2),.tmp 5]⟩
def c59 : RFunc := ⟨15,.code (.seq (.region [⟨some 6,.mov (.val (.bool false)),none⟩]) (.seq (.region [⟨some 7,.mov (.tmp 1),none⟩,⟨some 8,.mov (.tmp 0),none⟩,⟨some 9,.bin .leq (.tmp 7) (.tmp 8),none⟩,⟨some 10,.mov (.tmp 9),none⟩,⟨some 11,.mov (.tmp 0),some (10,true)⟩,⟨some 12,.mov (.tmp 2),some (10,true)⟩,⟨some 13,.bin .leq (.tmp 11) (.tmp 12),some (10,true)⟩,⟨some 14,.pick (.tmp 10) (.tmp 13) (.val (.bool false)),none⟩,⟨some 6,.mov (.tmp 14),none⟩]) .ret)),[.tmp 6]⟩
def c63 : RFunc := ⟨11,.code (.seq (.region [⟨some 1,.box 38 (.tmp 0),none⟩,⟨some 2,.mov (.val (.bool false)),none⟩]) (.seq (.region [⟨some 3,.fieldAddr 0 (.tmp 1),none⟩,⟨some 4,.load none (.tmp 3),none⟩,⟨some 5,.call (.val (.func (.func 92) [] [])) [.tmp 4],none⟩,⟨some 6,.mov (.tmp 5),none⟩,⟨some 7,.fieldAddr 1 (.tmp 1),some (6,true)⟩,⟨some 8,.load none (.tmp 7),some (6,true)⟩,⟨some 9,.call (.val (.func (.func 93) [] [])) [.tmp 8],some (6,true)⟩,⟨some 10,.pick (.tmp 6) (.tmp 9) (.val (.bool false)),none⟩,⟨some 2,.mov (.tmp 10),none⟩]) .ret)),[.tmp 2]⟩
def c64 : RFunc := ⟨13,.code (.seq (.region [⟨some 2,.mov (.val (.int .i64 0)),none⟩]) (.seq (.region [⟨some 4,.build [(.int .i64 0),(.int .i64 0),(.int .i64 0),(.int .i64 0),(.int .i64 0),(.int .i64 0),(.int .i64 0)] [(0,1,(.val (.int .i64 0))),(1,1,(.val (.int .i64 2))),(2,1,(.val (.int .i64 4))),(3,1,(.val (.int .i64 5))),(4,1,(.val (.int .i64 7))),(5,1,(.val (.int .i64 9))),(6,1,(.val (.int .i64 11)))],none⟩,⟨some 3,.new 136 [(.int .i64 0),(.int .i64 0),(.int .i64 0),(.int .i64 0),(.int .i64 0),(.int .i64 0),(.int .i64 0)],none⟩,⟨none,.store 7 (.tmp 3) (.tmp 4),none⟩]) (.seq (.region [⟨some 5,.mov (.tmp 0),none⟩,⟨some 6,.bin .quo (.tmp 5) (.val (.int .i64 7)),none⟩,⟨some 7,.bin .mul (.val (.int .i64 12)) (.tmp 6),none⟩,⟨some 8,.mov (.tmp 0),none⟩,⟨some 9,.bin .rem (.tmp 8) (.val (.int .i64 7)),none⟩,⟨some 10,.idxA 7 1 (.tmp 3) (.tmp 9),none⟩,⟨some 11,.load none (.tmp 10),none⟩,⟨some 12,.bin .add (.tmp 7) (.tmp 11),none⟩,⟨some 2,.mov (.tmp 12),none⟩]) .ret))),[.tmp 2]⟩
def c65 : RFunc := ⟨26,.code (.seq (.region [⟨some 1,.box 38 (.tmp 0),none⟩,⟨some 2,.mov (.val (.bool false)),none⟩]) (.seq (.region [⟨some 3,.fieldAddr 0 (.tmp 1),none⟩,⟨some 4,.load none (.tmp 3),none⟩,⟨some 5,.bin .geq (.tmp 4) (.val (.int .i64 0)),none⟩,⟨some 6,.mov (.tmp 5),none⟩,⟨some 7,.fieldAddr 0 (.tmp 1),some (6,true)⟩,⟨some 8,.load none (.tmp 7),some (6,true)⟩,⟨some 9,.bin .leq (.tmp 8) (.val (.int .i64 69)),some (6,true)⟩,⟨some 10,.pick (.tmp 6) (.tmp 9) (.val (.bool false)),none⟩,⟨some 11,.mov (.tmp 10),none⟩,⟨some 12,.fieldAddr 1 (.tmp 1),some (11,true)⟩,⟨some 13,.load none (.tmp 12),some (11,true)⟩,⟨some 14,.bin .eql (.tmp 13) (.val (.int .i64 (-1))),some (11,true)⟩,⟨some 15,.mov (.tmp 14),some (11,true)⟩,⟨some 16,.fieldAddr 1 (.tmp 1),some (15,false)⟩,⟨some 17,.load none (.tmp 16),some (15,false)⟩,⟨some 18,.bin .eql (.tmp 17) (.val (.int .i64 0)),some (15,false)⟩,⟨some 19,.pick (.tmp 15) (.val (.bool true)) (.tmp 18),some (11,true)⟩,⟨some 20,.mov (.tmp 19),some (11,true)⟩,⟨some 21,.fieldAddr 1 (.tmp 1),some (20,false)⟩,⟨some 22,.load none (.tmp 21),some (20,false)⟩,⟨some 23,.bin .eql (.tmp 22) (.val (.int .i64 1)),some (20,false)⟩,⟨some 24,.pick (.tmp 20) (.val (.bool true)) (.tmp 23),some (11,true)⟩,⟨some 25,.pick (.tmp 11) (.tmp 24) (.val (.bool false)),none⟩,⟨some 2,.mov (.tmp 25),none⟩]) .ret)),[.tmp 2]⟩
def c66 : RFunc := ⟨23,.code (.seq (.region [⟨some 2,.mov (.val (.int .i64 0)),none⟩]) (.seq (.region [⟨some 3,.mov (.val (.int .i64 0)),none⟩]) (.seq (.seq (.region [⟨some 4,.mov (.val (.int .i64 0)),none⟩]) (.block 0 (.loop (.seq (.seq (.region [⟨some 5,.mov (.tmp 4),none⟩,⟨some 6,.mov (.tmp 0),none⟩,⟨some 7,.bin .lss (.tmp 5) (.tmp 6),none⟩]) (.cond (.tmp 7) .skip (.exit 0))) (.seq (.block 1 (.seq (.region [⟨some 10,.mov (.tmp 4),none⟩,⟨some 11,.bin .rem (.tmp 10) (.val (.int .i64 7)),none⟩,⟨some 12,.bin .eql (.tmp 11) (.val (.int .i64 2)),none⟩,⟨some 13,.mov (.tmp 12),none⟩,⟨some 14,.mov (.tmp 4),some (13,false)⟩,⟨some 15,.bin .rem (.tmp 14) (.val (.int .i64 7)),some (13,false)⟩,⟨some 16,.bin .eql (.tmp 15) (.val (.int .i64 6)),some (13,false)⟩,⟨some 17,.pick (.tmp 13) (.val (.bool true)) (.tmp 16),none⟩]) (.cond (.tmp 17) (.region [⟨some 18,.mov (.tmp 3),none⟩,⟨some 19,.bin .add (.tmp 18) (.val (.int .i64 1)),none⟩,⟨some 3,.mov (.tmp 19),none⟩]) (.region [⟨some 20,.mov (.tmp 3),none⟩,⟨some 21,.bin .add (.tmp 20) (.val (.int .i64 2)),none⟩,⟨some 3,.mov (.tmp 21),none⟩])))) (.region [⟨some 8,.mov (.tmp 4),none⟩,⟨some 9,.bin .add (.tmp 8) (.val (.int .i64 1)),none⟩,⟨some 4,.mov (.tmp 9),none⟩])))))) (.seq (.region [⟨some 22,.mov (.tmp 3),none⟩,⟨some 2,.mov (.tmp 22),none⟩]) .ret)))),[.tmp 2]⟩
def c67 : RFunc := ⟨18,.code (.seq (.region [⟨some 2,.mov (.val (.str ⟨#[]⟩)),none⟩]) (.seq (.region [⟨some 4,.mov (.tmp 0),none⟩,⟨some 5,.bin .rem (.tmp 4) (.val (.int .i64 10)),none⟩,⟨some 6,.bin .add (.val (.int .i64 48)) (.tmp 5),none⟩,⟨some 7,.convInt .u8 (.tmp 6),none⟩,⟨some 8,.buildSlice 5 1 1 [(.int .u8 0)] [(0,1,(.tmp 7))],none⟩,⟨some 9,.bytesToStr (.tmp 8),none⟩,⟨some 3,.mov (.tmp 9),none⟩]) (.seq (.seq (.region [⟨some 10,.mov (.tmp 0),none⟩,⟨some 11,.bin .gtr (.tmp 10) (.val (.int .i64 9)),none⟩]) (.cond (.tmp 11) (.seq (.region [⟨some 12,.mov (.tmp 0),none⟩,⟨some 13,.bin .quo (.tmp 12) (.val (.int .i64 10)),none⟩,⟨some 14,.call (.val (.func (.func 67) [] [])) [.tmp 13],none⟩,⟨some 15,.mov (.tmp 3),none⟩,⟨some 16,.bin .add (.tmp 14) (.tmp 15),none⟩,⟨some 2,.mov (.tmp 16),none⟩]) .ret) .skip)) (.seq (.region [⟨some 17,.mov (.tmp 3),none⟩,⟨some 2,.mov (.tmp 17),none⟩]) .ret)))),[.tmp 2]⟩
def c70 : RFunc := ⟨53,.code (.seq (.region [⟨some 2,.box 38 (.tmp 0),none⟩,⟨some 3,.box 93 (.tmp 1),none⟩,⟨some 4,.new 38 [(.int .i64 0),(.int .i64 0)],none⟩,⟨some 5,.mov (.val (.int .i64 0)),none⟩]) (.seq (.seq (.region [⟨some 12,.load (some 2) (.tmp 3),none⟩,⟨some 13,.call (.val (.func (.func 112) [] [])) [.tmp 12],none⟩,⟨some 14,.un .not (.tmp 13),none⟩]) (.cond (.tmp 14) (.seq (.region [⟨some 15,.build [(.int .i64 0),(.int .i64 0)] [],none⟩,⟨none,.store 2 (.tmp 4) (.tmp 15),none⟩,⟨some 5,.mov (.val (.int .i64 8)),none⟩]) .ret) .skip)) (.seq (.region [⟨some 17,.load (some 2) (.tmp 2),none⟩,⟨some 18,.call (.val (.func (.func 24) [] [])) [.tmp 17],none⟩,⟨some 16,.mov (.tmp 18),none⟩,⟨some 19,.extract (.tmp 16) 0,none⟩,⟨some 20,.extract (.tmp 16) 1,none⟩,⟨some 6,.mov (.tmp 19),none⟩,⟨some 7,.mov (.tmp 20),none⟩]) (.seq (.seq (.region [⟨some 21,.mov (.tmp 7),none⟩,⟨some 22,.bin .neq (.tmp 21) (.val (.int .i64 0)),none⟩]) (.cond (.tmp 22) (.seq (.region [⟨some 23,.build [(.int .i64 0),(.int .i64 0)] [],none⟩,⟨some 24,.mov (.tmp 7),none⟩,⟨none,.store 2 (.tmp 4) (.tmp 23),none⟩,⟨some 5,.mov (.tmp 24),none⟩]) .ret) .skip)) (.seq (.seq (.region [⟨some 8,.mov (.val (.int .i64 (-1))),none⟩]) (.block 0 (.loop (.seq (.seq (.region [⟨some 25,.mov (.tmp 8),none⟩,⟨some 26,.bin .leq (.tmp 25) (.val (.int .i64 1)),none⟩]) (.cond (.tmp 26) .skip (.exit 0))) (.seq (.block 1 (.seq (.region [⟨some 29,.fieldAddr 0 (.tmp 2),none⟩,⟨some 30,.load none (.tmp 29),none⟩,⟨some 31,.fieldAddr 0 (.tmp 3),none⟩,⟨some 32,.load none (.tmp 31),none⟩,⟨some 33,.bin .add (.tmp 30) (.tmp 32),none⟩,⟨some 34,.mov (.tmp 8),none⟩,⟨some 35,.build [(.int .i64 0),(.int .i64 0)] [(0,1,(.tmp 33)),(1,1,(.tmp 34))],none⟩,⟨some 9,.new 38 [(.int .i64 0),(.int .i64 0)],none⟩,⟨none,.store 2 (.tmp 9) (.tmp 35),none⟩]) (.seq (.region [⟨some 37,.load (some 2) (.tmp 9),none⟩,⟨some 38,.call (.val (.func (.func 24) [] [])) [.tmp 37],none⟩,⟨some 36,.mov (.tmp 38),none⟩,⟨some 39,.extract (.tmp 36) 0,none⟩,⟨some 40,.extract (.tmp 36) 1,none⟩,⟨some 10,.mov (.tmp 39),none⟩,⟨some 11,.mov (.tmp 40),none⟩]) (.seq (.region [⟨some 41,.mov (.tmp 11),none⟩,⟨some 42,.bin .eql (.tmp 41) (.val (.int .i64 0)),none⟩,⟨some 43,.mov (.tmp 42),none⟩,⟨some 44,.mov (.tmp 10),some (43,true)⟩,⟨some 45,.mov (.tmp 6),some (43,true)⟩,⟨some 46,.fieldAddr 1 (.tmp 3),some (43,true)⟩,⟨some 47,.load none (.tmp 46),some (43,true)⟩,⟨some 48,.bin .add (.tmp 45) (.tmp 47),some (43,true)⟩,⟨some 49,.bin .eql (.tmp 44) (.tmp 48),some (43,true)⟩,⟨some 50,.pick (.tmp 43) (.tmp 49) (.val (.bool false)),none⟩]) (.cond (.tmp 50) (.seq (.region [⟨some 51,.load (some 2) (.tmp 9),none⟩,⟨none,.store 2 (.tmp 4) (.tmp 51),none⟩,⟨some 5,.mov (.val (.int .i64 0)),none⟩]) .ret) .skip))))) (.region [⟨some 27,.mov (.tmp 8),none⟩,⟨some 28,.bin .add (.tmp 27) (.val (.int .i64 1)),none⟩,⟨some 8,.mov (.tmp 28),none⟩])))))) (.seq (.region [⟨some 52,.build [(.int .i64 0),(.int .i64 0)] [],none⟩,⟨none,.store 2 (.tmp 4) (.tmp 52),none⟩,⟨some 5,.mov (.val (.int .i64 34)),none⟩]) .ret)))))),[.cell 4 (some 2),.tmp 5]⟩
def c71 : RFunc := ⟨26,.code (.seq (.region [⟨some 3,.box 93 (.tmp 1),none⟩,⟨some 4,.mov (.val (.int .i64 0)),none⟩,⟨some 5,.mov (.val (.int .i64 0)),none⟩]) (.seq (.seq (.region [⟨some 7,.load (some 2) (.tmp 3),none⟩,⟨some 8,.call (.val (.func (.func 112) [] [])) [.tmp 7],none⟩,⟨some 9,.un .not (.tmp 8),none⟩]) (.cond (.tmp 9) (.seq (.region [⟨some 4,.mov (.val (.int .i64 0)),none⟩,⟨some 5,.mov (.val (.int .i64 8)),none⟩]) .ret) .skip)) (.seq (.seq (.region [⟨some 10,.mov (.tmp 0),none⟩,⟨some 11,.call (.val (.func (.func 109) [] [])) [.tmp 10],none⟩,⟨some 12,.un .not (.tmp 11),none⟩]) (.cond (.tmp 12) (.seq (.region [⟨some 4,.mov (.val (.int .i64 0)),none⟩,⟨some 5,.mov (.val (.int .i64 31)),none⟩]) .ret) .skip)) (.seq (.region [⟨some 13,.mov (.tmp 0),none⟩,⟨some 14,.fieldAddr 1 (.tmp 3),none⟩,⟨some 15,.load none (.tmp 14),none⟩,⟨some 16,.bin .mul (.val (.int .i64 7)) (.tmp 15),none⟩,⟨some 17,.bin .add (.tmp 13) (.tmp 16),none⟩,⟨some 18,.fieldAddr 0 (.tmp 3),none⟩,⟨some 19,.load none (.tmp 18),none⟩,⟨some 20,.bin .mul (.val (.int .i64 12)) (.tmp 19),none⟩,⟨some 21,.bin .sub (.tmp 17) (.tmp 20),none⟩,⟨some 6,.mov (.tmp 21),none⟩]) (.seq (.seq (.region [⟨some 22,.mov (.tmp 6),none⟩,⟨some 23,.call (.val (.func (.func 109) [] [])) [.tmp 22],none⟩,⟨some 24,.un .not (.tmp 23),none⟩]) (.cond (.tmp 24) (.seq (.region [⟨some 4,.mov (.val (.int .i64 0)),none⟩,⟨some 5,.mov (.val (.int .i64 31)),none⟩]) .ret) .skip)) (.seq (.region [⟨some 25,.mov (.tmp 6),none⟩,⟨some 4,.mov (.tmp 25),none⟩,⟨some 5,.mov (.val (.int .i64 0)),none⟩]) .ret)))))),[.tmp 4,.tmp 5]⟩
def c72 : RFunc := ⟨36,.code (.seq (.region [⟨some 2,.box 38 (.tmp 0),none⟩,⟨some 3,.box 38 (.tmp 1),none⟩,⟨some 4,.new 93 [(.int .i64 0),(.int .i64 0)],none⟩,⟨some 5,.mov (.val (.int .i64 0)),none⟩]) (.seq (.region [⟨some 10,.load (some 2) (.tmp 2),none⟩,⟨some 11,.call (.val (.func (.func 24) [] [])) [.tmp 10],none⟩,⟨some 9,.mov (.tmp 11),none⟩,⟨some 12,.extract (.tmp 9) 0,none⟩,⟨some 13,.extract (.tmp 9) 1,none⟩,⟨some 6,.mov (.tmp 12),none⟩,⟨some 7,.mov (.tmp 13),none⟩]) (.seq (.seq (.region [⟨some 14,.mov (.tmp 7),none⟩,⟨some 15,.bin .neq (.tmp 14) (.val (.int .i64 0)),none⟩]) (.cond (.tmp 15) (.seq (.region [⟨some 16,.build [(.int .i64 0),(.int .i64 0)] [],none⟩,⟨some 17,.mov (.tmp 7),none⟩,⟨none,.store 2 (.tmp 4) (.tmp 16),none⟩,⟨some 5,.mov (.tmp 17),none⟩]) .ret) .skip)) (.seq (.region [⟨some 19,.load (some 2) (.tmp 3),none⟩,⟨some 20,.call (.val (.func (.func 24) [] [])) [.tmp 19],none⟩,⟨some 18,.mov (.tmp 20),none⟩,⟨some 21,.extract (.tmp 18) 0,none⟩,⟨some 22,.extract (.tmp 18) 1,none⟩,⟨some 8,.mov (.tmp 21),none⟩,⟨some 7,.mov (.tmp 22),none⟩]) (.seq (.seq (.region [⟨some 23,.mov (.tmp 7),none⟩,⟨some 24,.bin .neq (.tmp 23) (.val (.int .i64 0)),none⟩]) (.cond (.tmp 24) (.seq (.region [⟨some 25,.build [(.int .i64 0),(.int .i64 0)] [],none⟩,⟨some 26,.mov (.tmp 7),none⟩,⟨none,.store 2 (.tmp 4) (.tmp 25),none⟩,⟨some 5,.mov (.tmp 26),none⟩]) .ret) .skip)) (.seq (.region [⟨some 27,.fieldAddr 0 (.tmp 3),none⟩,⟨some 28,.load none (.tmp 27),none⟩,⟨some 29,.fieldAddr 0 (.tmp 2),none⟩,⟨some 30,.load none (.tmp 29),none⟩,⟨some 31,.bin .sub (.tmp 28) (.tmp 30),none⟩,⟨some 32,.mov (.tmp 8),none⟩,⟨some 33,.mov (.tmp 6),none⟩,⟨some 34,.bin .sub (.tmp 32) (.tmp 33),none⟩,⟨some 35,.build [(.int .i64 0),(.int .i64 0)] [(0,1,(.tmp 31)),(1,1,(.tmp 34))],none⟩,⟨none,.store 2 (.tmp 4) (.tmp 35),none⟩,⟨some 5,.mov (.val (.int .i64 0)),none⟩]) .ret)))))),[.cell 4 (some 2),.tmp 5]⟩
def c73 : RFunc := ⟨64,.code (.seq (.region [⟨some 1,.box 93 (.tmp 0),none⟩,⟨some 2,.mov (.val (.str ⟨#[]⟩)),none⟩,⟨some 3,.mov (.val (.int .i64 0)),none⟩]) (.seq (.seq (.region [⟨some 6,.fieldAddr 0 (.tmp 1),none⟩,⟨some 7,.load none (.tmp 6),none⟩,⟨some 8,.bin .lss (.tmp 7) (.val (.int .i64 (-69))),none⟩,⟨some 9,.mov (.tmp 8),none⟩,⟨some 10,.fieldAddr 0 (.tmp 1),some (9,false)⟩,⟨some 11,.load none (.tmp 10),some (9,false)⟩,⟨some 12,.bin .gtr (.tmp 11) (.val (.int .i64 69)),some (9,false)⟩,⟨some 13,.pick (.tmp 9) (.val (.bool true)) (.tmp 12),none⟩,⟨some 14,.mov (.tmp 13),none⟩,⟨some 15,.fieldAddr 1 (.tmp 1),some (14,false)⟩,⟨some 16,.load none (.tmp 15),some (14,false)⟩,⟨some 17,.bin .lss (.tmp 16) (.val (.int .i64 (-200))),some (14,false)⟩,⟨some 18,.pick (.tmp 14) (.val (.bool true)) (.tmp 17),none⟩,⟨some 19,.mov (.tmp 18),none⟩,⟨some 20,.fieldAddr 1 (.tmp 1),some (19,false)⟩,⟨some 21,.load none (.tmp 20),some (19,false)⟩,⟨some 22,.bin .gtr (.tmp 21) (.val (.int .i64 200)),some (19,false)⟩,⟨some 23,.pick (.tmp 19) (.val (.bool true)) (.tmp 22),none⟩]) (.cond (.tmp 23) (.seq (.region [⟨some 2,.mov (.val (.str ⟨#[]⟩)),none⟩,⟨some 3,.mov (.val (.int .i64 8)),none⟩]) .ret) .skip)) (.seq (.region [⟨some 4,.mov (.val (.str ⟨#[]⟩)),none⟩]) (.seq (.seq (.region [⟨some 24,.fieldAddr 0 (.tmp 1),none⟩,⟨some 25,.load none (.tmp 24),none⟩,⟨some 26,.bin .lss (.tmp 25) (.val (.int .i64 0)),none⟩,⟨some 27,.mov (.tmp 26),none⟩,⟨some 28,.fieldAddr 0 (.tmp 1),some (27,false)⟩,⟨some 29,.load none (.tmp 28),some (27,false)⟩,⟨some 30,.bin .eql (.tmp 29) (.val (.int .i64 0)),some (27,false)⟩,⟨some 31,.mov (.tmp 30),some (27,false)⟩,⟨some 32,.fieldAddr 1 (.tmp 1),some (31,true)⟩,⟨some 33,.load none (.tmp 32),some (31,true)⟩,⟨some 34,.bin .lss (.tmp 33) (.val (.int .i64 0)),some (31,true)⟩,⟨some 35,.pick (.tmp 31) (.tmp 34) (.val (.bool false)),some (27,false)⟩,⟨some 36,.pick (.tmp 27) (.val (.bool true)) (.tmp 35),none⟩]) (.cond (.tmp 36) (.seq (.region [⟨some 4,.mov (.val (.str ⟨#[45]⟩)),none⟩]) (.region [⟨some 37,.fieldAddr 0 (.tmp 1),none⟩,⟨some 38,.load none (.tmp 37),none⟩,⟨some 39,.bin .sub (.val (.int .i64 0)) (.tmp 38),none⟩,⟨some 40,.fieldAddr 1 (.tmp 1),none⟩,⟨some 41,.load none (.tmp 40),none⟩,⟨some 42,.bin .sub (.val (.int .i64 0)) (.tmp 41),none⟩,⟨some 43,.build [(.int .i64 0),(.int .i64 0)] [(0,1,(.tmp 39)),(1,1,(.tmp 42))],none⟩,⟨none,.store 2 (.tmp 1) (.tmp 43),none⟩])) .skip)) (.seq (.dregion [⟨⟨some 44,.fieldAddr 0 (.tmp 1),none⟩,0,0,true⟩,⟨⟨some 45,.load none (.tmp 44),none⟩,1,1,true⟩,⟨⟨some 46,.bin .rem (.tmp 45) (.val (.int .i64 7)),none⟩,3,0,true⟩,⟨⟨some 47,.fieldAddr 1 (.tmp 1),none⟩,0,0,true⟩,⟨⟨some 48,.load none (.tmp 47),none⟩,8,1,true⟩,⟨⟨some 49,.fieldAddr 0 (.tmp 1),none⟩,0,0,true⟩,⟨⟨some 50,.load none (.tmp 49),none⟩,32,1,true⟩,⟨⟨some 51,.call (.val (.func (.func 66) [] [])) [.tmp 50],none⟩,96,2,false⟩,⟨⟨some 52,.bin .sub (.tmp 48) (.tmp 51),none⟩,248,0,false⟩,⟨⟨some 53,.call (.val (.func (.func 113) [] [])) [.tmp 46,.tmp 52],none⟩,511,2,false⟩,⟨⟨some 5,.mov (.tmp 53),none⟩,1023,0,false⟩]) (.seq (.seq (.region [⟨some 54,.mov (.tmp 5),none⟩,⟨some 55,.bin .eql (.tmp 54) (.val (.str ⟨#[]⟩)),none⟩]) (.cond (.tmp 55) (.seq (.region [⟨some 2,.mov (.val (.str ⟨#[]⟩)),none⟩,⟨some 3,.mov (.val (.int .i64 8)),none⟩]) .ret) .skip)) (.seq (.region [⟨some 56,.mov (.tmp 4),none⟩,⟨some 57,.mov (.tmp 5),none⟩,⟨some 58,.bin .add (.tmp 56) (.tmp 57),none⟩,⟨some 59,.fieldAddr 0 (.tmp 1),none⟩,⟨some 60,.load none (.tmp 59),none⟩,⟨some 61,.bin .add (.tmp 60) (.val (.int .i64 1)),none⟩,⟨some 62,.call (.val (.func (.func 67) [] [])) [.tmp 61],none⟩,⟨some 63,.bin .add (.tmp 58) (.tmp 62),none⟩,⟨some 2,.mov (.tmp 63),none⟩,⟨some 3,.mov (.val (.int .i64 0)),none⟩]) .ret))))))),[.tmp 2,.tmp 3]⟩
def c74 : RFunc := ⟨65,.code (.seq (.region [⟨some 2,.new 93 [(.int .i64 0),(.int .i64 0)],none⟩,⟨some 3,.mov (.val (.int .i64 0)),none⟩]) (.seq (.region [⟨some 11,.mov (.tmp 0),none⟩,⟨some 4,.mov (.tmp 11),none⟩,⟨some 5,.mov (.val (.int .i64 1)),none⟩]) (.seq (.seq (.region [⟨some 12,.mov (.tmp 0),none⟩,⟨some 13,.lenStr (.tmp 12),none⟩,⟨some 14,.bin .gtr (.tmp 13) (.val (.int .i64 0)),none⟩,⟨some 15,.mov (.tmp 14),none⟩,⟨some 16,.mov (.tmp 0),some (15,true)⟩,⟨some 17,.indexStr (.tmp 16) (.val (.int .i64 0)),some (15,true)⟩,⟨some 18,.bin .eql (.tmp 17) (.val (.int .u8 45)),some (15,true)⟩,⟨some 19,.pick (.tmp 15) (.tmp 18) (.val (.bool false)),none⟩]) (.cond (.tmp 19) (.seq (.region [⟨some 20,.mov (.tmp 0),none⟩,⟨some 21,.sliceStr (.tmp 20) (some (.val (.int .i64 1))) none,none⟩,⟨some 4,.mov (.tmp 21),none⟩]) (.region [⟨some 5,.mov (.val (.int .i64 (-1))),none⟩])) .skip)) (.seq (.seq (.region [⟨some 22,.mov (.tmp 4),none⟩,⟨some 23,.lenStr (.tmp 22),none⟩,⟨some 24,.bin .lss (.tmp 23) (.val (.int .i64 2)),none⟩]) (.cond (.tmp 24) (.seq (.region [⟨some 25,.build [(.int .i64 0),(.int .i64 0)] [],none⟩,⟨none,.store 2 (.tmp 2) (.tmp 25),none⟩,⟨some 3,.mov (.val (.int .i64 5)),none⟩]) .ret) .skip)) (.seq (.region [⟨some 26,.mov (.tmp 4),none⟩,⟨some 27,.sliceStr (.tmp 26) (some (.val (.int .i64 1))) none,none⟩,⟨some 28,.call (.val (.func (.func 114) [] [])) [.tmp 27],none⟩,⟨some 29,.bin .sub (.tmp 28) (.val (.int .i64 1)),none⟩,⟨some 6,.mov (.tmp 29),none⟩]) (.seq (.seq (.region [⟨some 30,.mov (.tmp 6),none⟩,⟨some 31,.bin .lss (.tmp 30) (.val (.int .i64 0)),none⟩,⟨some 32,.mov (.tmp 31),none⟩,⟨some 33,.mov (.tmp 6),some (32,false)⟩,⟨some 34,.bin .gtr (.tmp 33) (.val (.int .i64 69)),some (32,false)⟩,⟨some 35,.pick (.tmp 32) (.val (.bool true)) (.tmp 34),none⟩]) (.cond (.tmp 35) (.seq (.region [⟨some 36,.build [(.int .i64 0),(.int .i64 0)] [],none⟩,⟨none,.store 2 (.tmp 2) (.tmp 36),none⟩,⟨some 3,.mov (.val (.int .i64 5)),none⟩]) .ret) .skip)) (.seq (.seq (.region [⟨some 7,.mov (.val (.int .i64 (-2))),none⟩]) (.block 0 (.loop (.seq (.seq (.region [⟨some 37,.mov (.tmp 7),none⟩,⟨some 38,.bin .leq (.tmp 37) (.val (.int .i64 1)),none⟩]) (.cond (.tmp 38) .skip (.exit 0))) (.seq (.block 1 (.seq (.region [⟨some 41,.mov (.tmp 5),none⟩,⟨some 42,.mov (.tmp 6),none⟩,⟨some 43,.bin .mul (.tmp 41) (.tmp 42),none⟩,⟨some 44,.mov (.tmp 5),none⟩,⟨some 45,.mov (.tmp 6),none⟩,⟨some 46,.call (.val (.func (.func 66) [] [])) [.tmp 45],none⟩,⟨some 47,.mov (.tmp 7),none⟩,⟨some 48,.bin .add (.tmp 46) (.tmp 47),none⟩,⟨some 49,.bin .mul (.tmp 44) (.tmp 48),none⟩,⟨some 50,.build [(.int .i64 0),(.int .i64 0)] [(0,1,(.tmp 43)),(1,1,(.tmp 49))],none⟩,⟨some 8,.new 93 [(.int .i64 0),(.int .i64 0)],none⟩,⟨none,.store 2 (.tmp 8) (.tmp 50),none⟩]) (.seq (.region [⟨some 52,.load (some 2) (.tmp 8),none⟩,⟨some 53,.call (.val (.func (.func 73) [] [])) [.tmp 52],none⟩,⟨some 51,.mov (.tmp 53),none⟩,⟨some 54,.extract (.tmp 51) 0,none⟩,⟨some 55,.extract (.tmp 51) 1,none⟩,⟨some 9,.mov (.tmp 54),none⟩,⟨some 10,.mov (.tmp 55),none⟩]) (.seq (.region [⟨some 56,.mov (.tmp 10),none⟩,⟨some 57,.bin .eql (.tmp 56) (.val (.int .i64 0)),none⟩,⟨some 58,.mov (.tmp 57),none⟩,⟨some 59,.mov (.tmp 9),some (58,true)⟩,⟨some 60,.mov (.tmp 0),some (58,true)⟩,⟨some 61,.bin .eql (.tmp 59) (.tmp 60),some (58,true)⟩,⟨some 62,.pick (.tmp 58) (.tmp 61) (.val (.bool false)),none⟩]) (.cond (.tmp 62) (.seq (.region [⟨some 63,.load (some 2) (.tmp 8),none⟩,⟨none,.store 2 (.tmp 2) (.tmp 63),none⟩,⟨some 3,.mov (.val (.int .i64 0)),none⟩]) .ret) .skip))))) (.region [⟨some 39,.mov (.tmp 7),none⟩,⟨some 40,.bin .add (.tmp 39) (.val (.int .i64 1)),none⟩,⟨some 7,.mov (.tmp 40),none⟩])))))) (.seq (.region [⟨some 64,.build [(.int .i64 0),(.int .i64 0)] [],none⟩,⟨none,.store 2 (.tmp 2) (.tmp 64),none⟩,⟨some 3,.mov (.val (.int .i64 5)),none⟩]) .ret)))))))),[.cell 2 (some 2),.tmp 3]⟩
def c82 : RFunc := ⟨22,.code (.seq (.region [⟨some 2,.box 23 (.tmp 0),none⟩,⟨some 3,.box 23 (.tmp 1),none⟩,⟨some 4,.mov (.val (.int .i64 0)),none⟩,⟨some 5,.mov (.val (.int .i64 0)),none⟩]) (.seq (.dregion [⟨⟨some 6,.fieldAddr 0 (.tmp 2),none⟩,0,0,true⟩,⟨⟨some 7,.load none (.tmp 6),none⟩,1,1,true⟩,⟨⟨some 8,.fieldAddr 1 (.tmp 3),none⟩,0,0,true⟩,⟨⟨some 9,.load none (.tmp 8),none⟩,4,1,true⟩,⟨⟨some 10,.bin .mul (.tmp 7) (.tmp 9),none⟩,15,0,true⟩,⟨⟨some 11,.fieldAddr 0 (.tmp 3),none⟩,0,0,true⟩,⟨⟨some 12,.load none (.tmp 11),none⟩,32,1,true⟩,⟨⟨some 13,.fieldAddr 1 (.tmp 2),none⟩,0,0,true⟩,⟨⟨some 14,.load none (.tmp 13),none⟩,128,1,true⟩,⟨⟨some 15,.bin .mul (.tmp 12) (.tmp 14),none⟩,480,0,true⟩,⟨⟨some 16,.bin .add (.tmp 10) (.tmp 15),none⟩,1023,0,true⟩,⟨⟨some 17,.fieldAddr 1 (.tmp 2),none⟩,0,0,true⟩,⟨⟨some 18,.load none (.tmp 17),none⟩,2048,1,true⟩,⟨⟨some 19,.fieldAddr 1 (.tmp 3),none⟩,0,0,true⟩,⟨⟨some 20,.load none (.tmp 19),none⟩,8192,1,true⟩,⟨⟨some 21,.bin .mul (.tmp 18) (.tmp 20),none⟩,30720,0,true⟩,⟨⟨some 4,.mov (.tmp 16),none⟩,2047,0,true⟩,⟨⟨some 5,.mov (.tmp 21),none⟩,131071,0,true⟩]) .ret)),[.tmp 4,.tmp 5]⟩
def c83 : RFunc := ⟨27,.code (.seq (.region [⟨some 3,.box 110 (.tmp 0),none⟩,⟨some 4,.box 23 (.tmp 1),none⟩,⟨some 5,.box 23 (.tmp 2),none⟩,⟨some 6,.new 23 [(.int .i64 0),(.int .i64 0)],none⟩,⟨some 7,.mov (.val (.int .i64 0)),none⟩]) (.seq (.seq (.region [⟨some 8,.load (some 2) (.tmp 4),none⟩,⟨some 9,.call (.val (.func (.func 87) [] [])) [.tmp 8],none⟩,⟨some 10,.un .not (.tmp 9),none⟩,⟨some 11,.mov (.tmp 10),none⟩,⟨some 12,.load (some 2) (.tmp 5),some (11,false)⟩,⟨some 13,.call (.val (.func (.func 87) [] [])) [.tmp 12],some (11,false)⟩,⟨some 14,.un .not (.tmp 13),some (11,false)⟩,⟨some 15,.pick (.tmp 11) (.val (.bool true)) (.tmp 14),none⟩]) (.cond (.tmp 15) (.seq (.region [⟨some 16,.build [(.int .i64 0),(.int .i64 0)] [],none⟩,⟨none,.store 2 (.tmp 6) (.tmp 16),none⟩,⟨some 7,.mov (.val (.int .i64 1)),none⟩]) .ret) .skip)) (.seq (.region [⟨some 17,.fieldAddr 0 (.tmp 3),none⟩,⟨some 18,.load none (.tmp 17),none⟩,⟨some 19,.load (some 2) (.tmp 4),none⟩,⟨some 20,.load (some 2) (.tmp 5),none⟩,⟨some 21,.call (.tmp 18) [.tmp 19,.tmp 20],none⟩,⟨some 22,.extract (.tmp 21) 0,none⟩,⟨some 23,.extract (.tmp 21) 1,none⟩,⟨some 24,.call (.val (.func (.func 56) [] [])) [.tmp 22,.tmp 23],none⟩,⟨some 25,.extract (.tmp 24) 0,none⟩,⟨some 26,.extract (.tmp 24) 1,none⟩,⟨none,.store 2 (.tmp 6) (.tmp 25),none⟩,⟨some 7,.mov (.tmp 26),none⟩]) .ret))),[.cell 6 (some 2),.tmp 7]⟩
def c87 : RFunc := ⟨21,.code (.seq (.region [⟨some 1,.box 23 (.tmp 0),none⟩,⟨some 2,.mov (.val (.bool false)),none⟩]) (.seq (.dregion [⟨⟨some 3,.fieldAddr 0 (.tmp 1),none⟩,0,0,true⟩,⟨⟨some 4,.load none (.tmp 3),none⟩,1,1,true⟩,⟨⟨some 5,.call (.val (.func (.func 59) [] [])) [.tmp 4,(.val (.int .i64 (-1048576))),(.val (.int .i64 1048576))],none⟩,3,2,false⟩,⟨⟨some 6,.mov (.tmp 5),none⟩,7,0,false⟩,⟨⟨some 7,.fieldAddr 1 (.tmp 1),some (6,true)⟩,15,0,false⟩,⟨⟨some 8,.load none (.tmp 7),some (6,true)⟩,31,1,false⟩,⟨⟨some 9,.call (.val (.func (.func 59) [] [])) [.tmp 8,(.val (.int .i64 1)),(.val (.int .i64 1048576))],some (6,true)⟩,63,2,false⟩,⟨⟨some 10,.pick (.tmp 6) (.tmp 9) (.val (.bool false)),none⟩,127,0,false⟩,⟨⟨some 11,.mov (.tmp 10),none⟩,255,0,false⟩,⟨⟨some 12,.fieldAddr 0 (.tmp 1),some (11,true)⟩,511,0,false⟩,⟨⟨some 13,.load none (.tmp 12),some (11,true)⟩,1023,1,false⟩,⟨⟨some 14,.call (.val (.func (.func 105) [] [])) [.tmp 13],some (11,true)⟩,2047,2,false⟩,⟨⟨some 15,.fieldAddr 1 (.tmp 1),some (11,true)⟩,511,0,false⟩,⟨⟨some 16,.load none (.tmp 15),some (11,true)⟩,4607,1,false⟩,⟨⟨some 17,.call (.val (.func (.func 105) [] [])) [.tmp 16],some (11,true)⟩,16383,2,false⟩,⟨⟨some 18,.call (.val (.func (.func 106) [] [])) [.tmp 14,.tmp 17],some (11,true)⟩,32767,2,false⟩,⟨⟨some 19,.bin .eql (.tmp 18) (.val (.int .u64 1)),some (11,true)⟩,65535,0,false⟩,⟨⟨some 20,.pick (.tmp 11) (.tmp 19) (.val (.bool false)),none⟩,131071,0,false⟩,⟨⟨some 2,.mov (.tmp 20),none⟩,262143,0,false⟩]) .ret)),[.tmp 2]⟩
def c89 : RFunc := ⟨5,.code (.seq (.region [⟨some 2,.mov (.val (.bool false)),none⟩]) (.seq (.region [⟨some 3,.mov (.tmp 0),none⟩,⟨some 4,.call (.val (.func (.func 59) [] [])) [.tmp 3,(.val (.int .i64 (-4))),(.val (.int .i64 4))],none⟩,⟨some 2,.mov (.tmp 4),none⟩]) .ret)),[.tmp 2]⟩
def c90 : RFunc := ⟨13,.code (.seq (.region [⟨some 2,.mov (.val (.bool false)),none⟩]) (.seq (.region [⟨some 3,.mov (.tmp 0),none⟩,⟨some 4,.eq true .ptr (.tmp 3) (.val .nptr),none⟩,⟨some 5,.mov (.tmp 4),none⟩,⟨some 6,.mov (.tmp 0),some (5,true)⟩,⟨some 7,.nilCheck (.tmp 6),some (5,true)⟩,⟨some 8,.fieldAddr 1 (.tmp 7),some (5,true)⟩,⟨some 9,.load none (.tmp 8),some (5,true)⟩,⟨some 10,.mov (.tmp 0),some (5,true)⟩,⟨some 11,.eq false .ptr (.tmp 9) (.tmp 10),some (5,true)⟩,⟨some 12,.pick (.tmp 5) (.tmp 11) (.val (.bool false)),none⟩,⟨some 2,.mov (.tmp 12),none⟩]) .ret)),[.tmp 2]⟩
def c91 : RFunc := ⟨35,.code (.seq (.region [⟨some 2,.box 115 (.tmp 0),none⟩,⟨some 4,.mov (.val (.int .i64 0)),none⟩]) (.seq (.region [⟨some 8,.build [(.int .i64 0),(.int .i64 0),(.int .i64 0),(.int .i64 0)] [(0,1,(.val (.int .i64 3))),(1,1,(.val (.int .i64 0))),(2,1,(.val (.int .i64 4))),(3,1,(.val (.int .i64 1)))],none⟩,⟨some 5,.new 143 [(.int .i64 0),(.int .i64 0),(.int .i64 0),(.int .i64 0)],none⟩,⟨none,.store 4 (.tmp 5) (.tmp 8),none⟩]) (.seq (.region [⟨some 9,.build [(.int .i64 0),(.int .i64 0),(.int .i64 0),(.int .i64 0)] [(0,1,(.val (.int .i64 6))),(1,1,(.val (.int .i64 2))),(2,1,(.val (.int .i64 5))),(3,1,(.val (.int .i64 1)))],none⟩,⟨some 6,.new 143 [(.int .i64 0),(.int .i64 0),(.int .i64 0),(.int .i64 0)],none⟩,⟨none,.store 4 (.tmp 6) (.tmp 9),none⟩]) (.seq (.region [⟨some 10,.mov (.tmp 1),none⟩,⟨some 11,.bin .rem (.tmp 10) (.val (.int .i64 7)),none⟩,⟨some 7,.mov (.tmp 11),none⟩]) (.seq (.block 0 (.seq (.region [⟨some 13,.fieldAddr 0 (.tmp 2),none⟩,⟨some 14,.load none (.tmp 13),none⟩,⟨some 15,.bin .gtr (.tmp 14) (.val (.int .i64 0)),none⟩,⟨some 16,.mov (.tmp 15),none⟩,⟨some 17,.fieldAddr 0 (.tmp 2),some (16,true)⟩,⟨some 18,.load none (.tmp 17),some (16,true)⟩,⟨some 19,.sliceArr 4 1 (.tmp 5) none (some (.tmp 18)) none,some (16,true)⟩,⟨some 20,.mov (.tmp 7),some (16,true)⟩,⟨some 21,.call (.val (.func (.func 116) [] [])) [.tmp 19,.tmp 20],some (16,true)⟩,⟨some 22,.pick (.tmp 16) (.tmp 21) (.val (.bool false)),none⟩,⟨some 12,.mov (.tmp 22),none⟩]) (.cond (.tmp 12) (.seq (.region [⟨some 4,.mov (.val (.int .i64 1)),none⟩]) .ret) (.seq (.region [⟨some 24,.fieldAddr 0 (.tmp 2),none⟩,⟨some 25,.load none (.tmp 24),none⟩,⟨some 26,.bin .lss (.tmp 25) (.val (.int .i64 0)),none⟩,⟨some 27,.mov (.tmp 26),none⟩,⟨some 28,.fieldAddr 0 (.tmp 2),some (27,true)⟩,⟨some 29,.load none (.tmp 28),some (27,true)⟩,⟨some 30,.un .neg (.tmp 29),some (27,true)⟩,⟨some 31,.sliceArr 4 1 (.tmp 6) none (some (.tmp 30)) none,some (27,true)⟩,⟨some 32,.mov (.tmp 7),some (27,true)⟩,⟨some 33,.call (.val (.func (.func 116) [] [])) [.tmp 31,.tmp 32],some (27,true)⟩,⟨some 34,.pick (.tmp 27) (.tmp 33) (.val (.bool false)),none⟩,⟨some 23,.mov (.tmp 34),none⟩]) (.cond (.tmp 23) (.seq (.region [⟨some 4,.mov (.val (.int .i64 (-1))),none⟩]) .ret) .skip))))) (.seq (.region [⟨some 4,.mov (.val (.int .i64 0)),none⟩]) .ret)))))),[.tmp 4]⟩
def c92 : RFunc := ⟨5,.code (.seq (.region [⟨some 2,.mov (.val (.bool false)),none⟩]) (.seq (.region [⟨some 3,.mov (.tmp 0),none⟩,⟨some 4,.call (.val (.func (.func 59) [] [])) [.tmp 3,(.val (.int .i64 0)),(.val (.int .i64 69))],none⟩,⟨some 2,.mov (.tmp 4),none⟩]) .ret)),[.tmp 2]⟩
def c93 : RFunc := ⟨5,.code (.seq (.region [⟨some 2,.mov (.val (.bool false)),none⟩]) (.seq (.region [⟨some 3,.mov (.tmp 0),none⟩,⟨some 4,.call (.val (.func (.func 59) [] [])) [.tmp 3,(.val (.int .i64 (-1))),(.val (.int .i64 1))],none⟩,⟨some 2,.mov (.tmp 4),none⟩]) .ret)),[.tmp 2]⟩
def c94 : RFunc := ⟨8,.code (.seq (.region [⟨some 2,.mov (.val (.int .i64 0)),none⟩]) (.seq (.seq (.region [⟨some 3,.mov (.tmp 0),none⟩]) (.block 0 (.seq (.region [⟨some 5,.bin .eql (.tmp 3) (.val (.int .i64 1)),none⟩,⟨some 4,.mov (.tmp 5),none⟩]) (.cond (.tmp 4) (.seq (.region [⟨some 2,.mov (.val (.int .i64 1)),none⟩]) .ret) (.seq (.region [⟨some 7,.bin .eql (.tmp 3) (.val (.int .i64 (-1))),none⟩,⟨some 6,.mov (.tmp 7),none⟩]) (.cond (.tmp 6) (.seq (.region [⟨some 2,.mov (.val (.int .i64 2)),none⟩]) .ret) .skip)))))) (.seq (.region [⟨some 2,.mov (.val (.int .i64 3)),none⟩]) .ret))),[.tmp 2]⟩
def c95 : RFunc := ⟨5,.code (.seq (.region [⟨some 2,.mov (.val (.bool false)),none⟩]) (.seq (.region [⟨some 3,.mov (.tmp 0),none⟩,⟨some 4,.call (.val (.func (.func 59) [] [])) [.tmp 3,(.val (.int .i64 0)),(.val (.int .i64 3))],none⟩,⟨some 2,.mov (.tmp 4),none⟩]) .ret)),[.tmp 2]⟩
def c96 : RFunc := ⟨8,.code (.seq (.region [⟨some 2,.mov (.val (.int .i64 0)),none⟩]) (.seq (.seq (.region [⟨some 3,.mov (.tmp 0),none⟩]) (.block 0 (.seq (.region [⟨some 5,.bin .eql (.tmp 3) (.val (.int .i64 1)),none⟩,⟨some 4,.mov (.tmp 5),none⟩]) (.cond (.tmp 4) (.seq (.region [⟨some 2,.mov (.val (.int .i64 1)),none⟩]) .ret) (.seq (.region [⟨some 7,.bin .eql (.tmp 3) (.val (.int .i64 2)),none⟩,⟨some 6,.mov (.tmp 7),none⟩]) (.cond (.tmp 6) (.seq (.region [⟨some 2,.mov (.val (.int .i64 (-1))),none⟩]) .ret) .skip)))))) (.seq (.region [⟨some 2,.mov (.val (.int .i64 0)),none⟩]) .ret))),[.tmp 2]⟩
def c97 : RFunc := ⟨11,.code (.seq (.region [⟨some 1,.box 47 (.tmp 0),none⟩,⟨some 2,.mov (.val (.bool false)),none⟩]) (.seq (.region [⟨some 3,.fieldAddr 0 (.tmp 1),none⟩,⟨some 4,.load none (.tmp 3),none⟩,⟨some 5,.call (.val (.func (.func 59) [] [])) [.tmp 4,(.val (.int .i64 (-200))),(.val (.int .i64 200))],none⟩,⟨some 6,.mov (.tmp 5),none⟩,⟨some 7,.fieldAddr 1 (.tmp 1),some (6,true)⟩,⟨some 8,.load none (.tmp 7),some (6,true)⟩,⟨some 9,.call (.val (.func (.func 59) [] [])) [.tmp 8,(.val (.int .i64 (-200))),(.val (.int .i64 200))],some (6,true)⟩,⟨some 10,.pick (.tmp 6) (.tmp 9) (.val (.bool false)),none⟩,⟨some 2,.mov (.tmp 10),none⟩]) .ret)),[.tmp 2]⟩
def c98 : RFunc := ⟨10,.code (.seq (.region [⟨some 1,.box 47 (.tmp 0),none⟩,⟨some 2,.new 47 [(.int .i64 0),(.int .i64 0)],none⟩]) (.seq (.region [⟨some 3,.fieldAddr 0 (.tmp 1),none⟩,⟨some 4,.load none (.tmp 3),none⟩,⟨some 5,.un .neg (.tmp 4),none⟩,⟨some 6,.fieldAddr 1 (.tmp 1),none⟩,⟨some 7,.load none (.tmp 6),none⟩,⟨some 8,.un .neg (.tmp 7),none⟩,⟨some 9,.build [(.int .i64 0),(.int .i64 0)] [(0,1,(.tmp 5)),(1,1,(.tmp 8))],none⟩,⟨none,.store 2 (.tmp 2) (.tmp 9),none⟩]) .ret)),[.cell 2 (some 2)]⟩
def c99 : RFunc := ⟨10,.code (.seq (.region [⟨some 0,.mov (.val .nmap),none⟩]) (.seq (.region [⟨some 1,.mapLit [((.agg [(.bool true),(.int .i64 (-1))]),(.str ⟨#[100]⟩)),((.agg [(.bool true),(.int .i64 0)]),(.str ⟨#[80]⟩)),((.agg [(.bool true),(.int .i64 1)]),(.str ⟨#[65]⟩)),((.agg [(.bool false),(.int .i64 (-2))]),(.str ⟨#[100]⟩)),((.agg [(.bool false),(.int .i64 (-1))]),(.str ⟨#[109]⟩)),((.agg [(.bool false),(.int .i64 0)]),(.str ⟨#[77]⟩)),((.agg [(.bool false),(.int .i64 1)]),(.str ⟨#[65]⟩))],none⟩,⟨some 2,.mov (.val (.agg [(.bool true),(.int .i64 (-1))])),none⟩,⟨some 3,.mov (.val (.agg [(.bool true),(.int .i64 0)])),none⟩,⟨some 4,.mov (.val (.agg [(.bool true),(.int .i64 1)])),none⟩,⟨some 5,.mov (.val (.agg [(.bool false),(.int .i64 (-2))])),none⟩,⟨some 6,.mov (.val (.agg [(.bool false),(.int .i64 (-1))])),none⟩,⟨some 7,.mov (.val (.agg [(.bool false),(.int .i64 0)])),none⟩,⟨some 8,.mov (.val (.agg [(.bool false),(.int .i64 1)])),none⟩,⟨some 9,.mov (.tmp 1),none⟩,⟨some 0,.mov (.tmp 1),none⟩]) .ret)),[.tmp 0]⟩
def c100 : RFunc := ⟨24,.code (.seq (.region [⟨some 1,.box 47 (.tmp 0),none⟩,⟨some 2,.new 123 [(.bool false),(.int .i64 0)],none⟩]) (.seq (.region [⟨some 4,.fieldAddr 0 (.tmp 1),none⟩,⟨some 5,.load none (.tmp 4),none⟩,⟨some 6,.bin .rem (.tmp 5) (.val (.int .i64 7)),none⟩,⟨some 3,.mov (.tmp 6),none⟩]) (.seq (.dregion [⟨⟨some 7,.mov (.tmp 3),none⟩,0,0,true⟩,⟨⟨some 8,.bin .eql (.tmp 7) (.val (.int .i64 0)),none⟩,1,0,true⟩,⟨⟨some 9,.mov (.tmp 8),none⟩,3,0,true⟩,⟨⟨some 10,.mov (.tmp 3),some (9,false)⟩,7,0,true⟩,⟨⟨some 11,.bin .eql (.tmp 10) (.val (.int .i64 3)),some (9,false)⟩,15,0,true⟩,⟨⟨some 12,.pick (.tmp 9) (.val (.bool true)) (.tmp 11),none⟩,31,0,true⟩,⟨⟨some 13,.mov (.tmp 12),none⟩,63,0,true⟩,⟨⟨some 14,.mov (.tmp 3),some (13,false)⟩,127,0,true⟩,⟨⟨some 15,.bin .eql (.tmp 14) (.val (.int .i64 4)),some (13,false)⟩,255,0,true⟩,⟨⟨some 16,.pick (.tmp 13) (.val (.bool true)) (.tmp 15),none⟩,511,0,true⟩,⟨⟨some 17,.fieldAddr 1 (.tmp 1),none⟩,0,0,true⟩,⟨⟨some 18,.load none (.tmp 17),none⟩,1024,1,true⟩,⟨⟨some 19,.fieldAddr 0 (.tmp 1),none⟩,0,0,true⟩,⟨⟨some 20,.load none (.tmp 19),none⟩,4096,1,true⟩,⟨⟨some 21,.call (.val (.func (.func 64) [] [])) [.tmp 20],none⟩,12415,2,false⟩,⟨⟨some 22,.bin .sub (.tmp 18) (.tmp 21),none⟩,31871,0,false⟩,⟨⟨some 23,.build [(.bool false),(.int .i64 0)] [(0,1,(.tmp 16)),(1,1,(.tmp 22))],none⟩,65535,0,false⟩,⟨⟨none,.store 2 (.tmp 2) (.tmp 23),none⟩,131071,2,false⟩]) .ret))),[.cell 2 (some 2)]⟩
def c101 : RFunc := ⟨5,.code (.seq (.region [⟨some 2,.mov (.val (.str ⟨#[]⟩)),none⟩]) (.seq (.region [⟨some 3,.mov (.tmp 0),none⟩,⟨some 4,.call (.val (.func (.func 117) [] [])) [.tmp 3],none⟩,⟨some 2,.mov (.tmp 4),none⟩]) .ret)),[.tmp 2]⟩
def c102 : RFunc := ⟨11,.code (.seq (.region [⟨some 4,.mov (.val (.str ⟨#[]⟩)),none⟩,⟨some 5,.mov (.val (.bool false)),none⟩]) (.seq (.region [⟨some 6,.mov (.tmp 0),none⟩,⟨some 7,.mov (.tmp 1),none⟩,⟨some 8,.call (.val (.func (.func 118) [] [])) [.tmp 6,.tmp 7],none⟩,⟨some 9,.extract (.tmp 8) 0,none⟩,⟨some 10,.extract (.tmp 8) 1,none⟩,⟨some 4,.mov (.tmp 9),none⟩,⟨some 5,.mov (.tmp 10),none⟩]) .ret)),[.tmp 4,.tmp 5]⟩
def c103 : RFunc := ⟨18,.code (.seq (.region [⟨some 2,.mov (.val (.int .i64 0)),none⟩,⟨some 3,.mov (.val .niface),none⟩]) (.seq (.region [⟨some 7,.mov (.tmp 0),none⟩,⟨some 8,.call (.val (.func (.func 119) [] [])) [.tmp 7],none⟩,⟨some 6,.mov (.tmp 8),none⟩,⟨some 9,.extract (.tmp 6) 0,none⟩,⟨some 10,.extract (.tmp 6) 1,none⟩,⟨some 4,.mov (.tmp 9),none⟩,⟨some 5,.mov (.tmp 10),none⟩]) (.seq (.seq (.region [⟨some 11,.mov (.tmp 5),none⟩,⟨some 12,.eq true (.iface true []) (.tmp 11) (.val .niface),none⟩]) (.cond (.tmp 12) (.seq (.region [⟨some 13,.mov (.tmp 4),none⟩,⟨some 14,.mov (.tmp 0),none⟩,⟨some 15,.mov (.tmp 5),none⟩,⟨some 16,.call (.val (.func (.func 120) [] [])) [(.val (.str ⟨#[65,116,111,105]⟩)),.tmp 14,(.val (.int .i64 0)),(.val (.int .i64 0)),.tmp 15],none⟩,⟨some 2,.mov (.tmp 13),none⟩,⟨some 3,.mov (.tmp 16),none⟩]) .ret) .skip)) (.seq (.region [⟨some 17,.mov (.tmp 4),none⟩,⟨some 2,.mov (.tmp 17),none⟩,⟨some 3,.mov (.val .niface),none⟩]) .ret)))),[.tmp 2,.tmp 3]⟩
def c105 : RFunc := ⟨10,.code (.seq (.region [⟨some 2,.mov (.val (.int .u64 0)),none⟩]) (.seq (.seq (.region [⟨some 3,.mov (.tmp 0),none⟩,⟨some 4,.bin .lss (.tmp 3) (.val (.int .i64 0)),none⟩]) (.cond (.tmp 4) (.seq (.region [⟨some 5,.mov (.tmp 0),none⟩,⟨some 6,.convInt .u64 (.tmp 5),none⟩,⟨some 7,.un .neg (.tmp 6),none⟩,⟨some 2,.mov (.tmp 7),none⟩]) .ret) .skip)) (.seq (.region [⟨some 8,.mov (.tmp 0),none⟩,⟨some 9,.convInt .u64 (.tmp 8),none⟩,⟨some 2,.mov (.tmp 9),none⟩]) .ret))),[.tmp 2]⟩
def c106 : RFunc := ⟨12,.code (.seq (.region [⟨some 4,.mov (.val (.int .u64 0)),none⟩]) (.seq (.block 0 (.loop (.seq (.seq (.region [⟨some 5,.mov (.tmp 1),none⟩,⟨some 6,.bin .neq (.tmp 5) (.val (.int .u64 0)),none⟩]) (.cond (.tmp 6) .skip (.exit 0))) (.block 1 (.dregion [⟨⟨some 7,.mov (.tmp 1),none⟩,0,0,true⟩,⟨⟨some 8,.mov (.tmp 0),none⟩,0,0,true⟩,⟨⟨some 9,.mov (.tmp 1),none⟩,0,0,true⟩,⟨⟨some 10,.bin .rem (.tmp 8) (.tmp 9),none⟩,6,0,true⟩,⟨⟨some 0,.mov (.tmp 7),none⟩,3,0,true⟩,⟨⟨some 1,.mov (.tmp 10),none⟩,31,0,true⟩]))))) (.seq (.region [⟨some 11,.mov (.tmp 0),none⟩,⟨some 4,.mov (.tmp 11),none⟩]) .ret))),[.tmp 4]⟩
def c109 : RFunc := ⟨9,.code (.seq (.region [⟨some 2,.mov (.val (.bool false)),none⟩]) (.seq (.region [⟨some 3,.mov (.tmp 0),none⟩,⟨some 4,.bin .geq (.tmp 3) (.val (.int .i64 (-4))),none⟩,⟨some 5,.mov (.tmp 4),none⟩,⟨some 6,.mov (.tmp 0),some (5,true)⟩,⟨some 7,.bin .leq (.tmp 6) (.val (.int .i64 4)),some (5,true)⟩,⟨some 8,.pick (.tmp 5) (.tmp 7) (.val (.bool false)),none⟩,⟨some 2,.mov (.tmp 8),none⟩]) .ret)),[.tmp 2]⟩
def c112 : RFunc := ⟨21,.code (.seq (.region [⟨some 1,.box 93 (.tmp 0),none⟩,⟨some 2,.mov (.val (.bool false)),none⟩]) (.seq (.region [⟨some 3,.fieldAddr 0 (.tmp 1),none⟩,⟨some 4,.load none (.tmp 3),none⟩,⟨some 5,.bin .geq (.tmp 4) (.val (.int .i64 (-200))),none⟩,⟨some 6,.mov (.tmp 5),none⟩,⟨some 7,.fieldAddr 0 (.tmp 1),some (6,true)⟩,⟨some 8,.load none (.tmp 7),some (6,true)⟩,⟨some 9,.bin .leq (.tmp 8) (.val (.int .i64 200)),some (6,true)⟩,⟨some 10,.pick (.tmp 6) (.tmp 9) (.val (.bool false)),none⟩,⟨some 11,.mov (.tmp 10),none⟩,⟨some 12,.fieldAddr 1 (.tmp 1),some (11,true)⟩,⟨some 13,.load none (.tmp 12),some (11,true)⟩,⟨some 14,.bin .geq (.tmp 13) (.val (.int .i64 (-200))),some (11,true)⟩,⟨some 15,.pick (.tmp 11) (.tmp 14) (.val (.bool false)),none⟩,⟨some 16,.mov (.tmp 15),none⟩,⟨some 17,.fieldAddr 1 (.tmp 1),some (16,true)⟩,⟨some 18,.load none (.tmp 17),some (16,true)⟩,⟨some 19,.bin .leq (.tmp 18) (.val (.int .i64 200)),some (16,true)⟩,⟨some 20,.pick (.tmp 16) (.tmp 19) (.val (.bool false)),none⟩,⟨some 2,.mov (.tmp 20),none⟩]) .ret)),[.tmp 2]⟩
def c113 : RFunc := ⟨31,.code (.seq (.region [⟨some 4,.mov (.val (.str ⟨#[]⟩)),none⟩]) (.seq (.seq (.region [⟨some 5,.mov (.tmp 0),none⟩,⟨some 6,.bin .eql (.tmp 5) (.val (.int .i64 0)),none⟩,⟨some 7,.mov (.tmp 6),none⟩,⟨some 8,.mov (.tmp 0),some (7,false)⟩,⟨some 9,.bin .eql (.tmp 8) (.val (.int .i64 3)),some (7,false)⟩,⟨some 10,.pick (.tmp 7) (.val (.bool true)) (.tmp 9),none⟩,⟨some 11,.mov (.tmp 10),none⟩,⟨some 12,.mov (.tmp 0),some (11,false)⟩,⟨some 13,.bin .eql (.tmp 12) (.val (.int .i64 4)),some (11,false)⟩,⟨some 14,.pick (.tmp 11) (.val (.bool true)) (.tmp 13),none⟩]) (.cond (.tmp 14) (.seq (.seq (.region [⟨some 15,.mov (.tmp 1),none⟩]) (.block 0 (.seq (.region [⟨some 17,.bin .eql (.tmp 15) (.val (.int .i64 (-1))),none⟩,⟨some 16,.mov (.tmp 17),none⟩]) (.cond (.tmp 16) (.seq (.region [⟨some 4,.mov (.val (.str ⟨#[100]⟩)),none⟩]) .ret) (.seq (.region [⟨some 19,.bin .eql (.tmp 15) (.val (.int .i64 0)),none⟩,⟨some 18,.mov (.tmp 19),none⟩]) (.cond (.tmp 18) (.seq (.region [⟨some 4,.mov (.val (.str ⟨#[80]⟩)),none⟩]) .ret) (.seq (.region [⟨some 21,.bin .eql (.tmp 15) (.val (.int .i64 1)),none⟩,⟨some 20,.mov (.tmp 21),none⟩]) (.cond (.tmp 20) (.seq (.region [⟨some 4,.mov (.val (.str ⟨#[65]⟩)),none⟩]) .ret) .skip)))))))) (.seq (.region [⟨some 4,.mov (.val (.str ⟨#[]⟩)),none⟩]) .ret)) .skip)) (.seq (.seq (.region [⟨some 22,.mov (.tmp 1),none⟩]) (.block 1 (.seq (.region [⟨some 24,.bin .eql (.tmp 22) (.val (.int .i64 (-2))),none⟩,⟨some 23,.mov (.tmp 24),none⟩]) (.cond (.tmp 23) (.seq (.region [⟨some 4,.mov (.val (.str ⟨#[100]⟩)),none⟩]) .ret) (.seq (.region [⟨some 26,.bin .eql (.tmp 22) (.val (.int .i64 (-1))),none⟩,⟨some 25,.mov (.tmp 26),none⟩]) (.cond (.tmp 25) (.seq (.region [⟨some 4,.mov (.val (.str ⟨#[109]⟩)),none⟩]) .ret) (.seq (.region [⟨some 28,.bin .eql (.tmp 22) (.val (.int .i64 0)),none⟩,⟨some 27,.mov (.tmp 28),none⟩]) (.cond (.tmp 27) (.seq (.region [⟨some 4,.mov (.val (.str ⟨#[77]⟩)),none⟩]) .ret) (.seq (.region [⟨some 30,.bin .eql (.tmp 22) (.val (.int .i64 1)),none⟩,⟨some 29,.mov (.tmp 30),none⟩]) (.cond (.tmp 29) (.seq (.region [⟨some 4,.mov (.val (.str ⟨#[65]⟩)),none⟩]) .ret) .skip)))))))))) (.seq (.region [⟨some 4,.mov (.val (.str ⟨#[]⟩)),none⟩]) .ret)))),[.tmp 4]⟩
def c114 : RFunc := ⟨48,.code (.seq (.region [⟨some 2,.mov (.val (.int .i64 0)),none⟩]) (.seq (.seq (.region [⟨some 5,.mov (.tmp 0),none⟩,⟨some 6,.lenStr (.tmp 5),none⟩,⟨some 7,.bin .eql (.tmp 6) (.val (.int .i64 0)),none⟩,⟨some 8,.mov (.tmp 7),none⟩,⟨some 9,.mov (.tmp 0),some (8,false)⟩,⟨some 10,.lenStr (.tmp 9),some (8,false)⟩,⟨some 11,.bin .gtr (.tmp 10) (.val (.int .i64 9)),some (8,false)⟩,⟨some 12,.pick (.tmp 8) (.val (.bool true)) (.tmp 11),none⟩,⟨some 13,.mov (.tmp 12),none⟩,⟨some 14,.mov (.tmp 0),some (13,false)⟩,⟨some 15,.lenStr (.tmp 14),some (13,false)⟩,⟨some 16,.bin .gtr (.tmp 15) (.val (.int .i64 1)),some (13,false)⟩,⟨some 17,.mov (.tmp 16),some (13,false)⟩,⟨some 18,.mov (.tmp 0),some (17,true)⟩,⟨some 19,.indexStr (.tmp 18) (.val (.int .i64 0)),some (17,true)⟩,⟨some 20,.bin .eql (.tmp 19) (.val (.int .u8 48)),some (17,true)⟩,⟨some 21,.pick (.tmp 17) (.tmp 20) (.val (.bool false)),some (13,false)⟩,⟨some 22,.pick (.tmp 13) (.val (.bool true)) (.tmp 21),none⟩]) (.cond (.tmp 22) (.seq (.region [⟨some 2,.mov (.val (.int .i64 (-1))),none⟩]) .ret) .skip)) (.seq (.region [⟨some 3,.mov (.val (.int .i64 0)),none⟩]) (.seq (.seq (.region [⟨some 4,.mov (.val (.int .i64 0)),none⟩]) (.block 0 (.loop (.seq (.seq (.region [⟨some 23,.mov (.tmp 4),none⟩,⟨some 24,.mov (.tmp 0),none⟩,⟨some 25,.lenStr (.tmp 24),none⟩,⟨some 26,.bin .lss (.tmp 23) (.tmp 25),none⟩]) (.cond (.tmp 26) .skip (.exit 0))) (.seq (.block 1 (.seq (.seq (.region [⟨some 29,.mov (.tmp 0),none⟩,⟨some 30,.mov (.tmp 4),none⟩,⟨some 31,.indexStr (.tmp 29) (.tmp 30),none⟩,⟨some 32,.bin .lss (.tmp 31) (.val (.int .u8 48)),none⟩,⟨some 33,.mov (.tmp 32),none⟩,⟨some 34,.mov (.tmp 0),some (33,false)⟩,⟨some 35,.mov (.tmp 4),some (33,false)⟩,⟨some 36,.indexStr (.tmp 34) (.tmp 35),some (33,false)⟩,⟨some 37,.bin .gtr (.tmp 36) (.val (.int .u8 57)),some (33,false)⟩,⟨some 38,.pick (.tmp 33) (.val (.bool true)) (.tmp 37),none⟩]) (.cond (.tmp 38) (.seq (.region [⟨some 2,.mov (.val (.int .i64 (-1))),none⟩]) .ret) .skip)) (.region [⟨some 39,.mov (.tmp 3),none⟩,⟨some 40,.bin .mul (.val (.int .i64 10)) (.tmp 39),none⟩,⟨some 41,.mov (.tmp 0),none⟩,⟨some 42,.mov (.tmp 4),none⟩,⟨some 43,.indexStr (.tmp 41) (.tmp 42),none⟩,⟨some 44,.convInt .i64 (.tmp 43),none⟩,⟨some 45,.bin .add (.tmp 40) (.tmp 44),none⟩,⟨some 46,.bin .sub (.tmp 45) (.val (.int .i64 48)),none⟩,⟨some 3,.mov (.tmp 46),none⟩]))) (.region [⟨some 27,.mov (.tmp 4),none⟩,⟨some 28,.bin .add (.tmp 27) (.val (.int .i64 1)),none⟩,⟨some 4,.mov (.tmp 28),none⟩])))))) (.seq (.region [⟨some 47,.mov (.tmp 3),none⟩,⟨some 2,.mov (.tmp 47),none⟩]) .ret))))),[.tmp 2]⟩
def c116 : RFunc := ⟨9,.code (.seq (.region [⟨some 4,.mov (.val (.bool false)),none⟩]) (.seq (.region [⟨some 5,.mov (.tmp 0),none⟩,⟨some 6,.mov (.tmp 1),none⟩,⟨some 7,.call (.val (.func (.func 122) [] [])) [.tmp 5,.tmp 6],none⟩,⟨some 8,.bin .geq (.tmp 7) (.val (.int .i64 0)),none⟩,⟨some 4,.mov (.tmp 8),none⟩]) .ret)),[.tmp 4]⟩
def c117 : RFunc := ⟨5,.code (.seq (.region [⟨some 2,.mov (.val (.str ⟨#[]⟩)),none⟩]) (.seq (.region [⟨some 3,.mov (.tmp 0),none⟩,⟨some 4,.call (.val (.func (.func 123) [] [])) [.tmp 3,(.val (.int .i64 10))],none⟩,⟨some 2,.mov (.tmp 4),none⟩]) .ret)),[.tmp 2]⟩
def c118 : RFunc := ⟨15,.code (.seq (.region [⟨some 4,.mov (.val (.str ⟨#[]⟩)),none⟩,⟨some 5,.mov (.val (.bool false)),none⟩]) (.seq (.seq (.region [⟨some 6,.mov (.tmp 0),none⟩,⟨some 7,.mov (.tmp 1),none⟩,⟨some 8,.call (.val (.func (.func 124) [] [])) [.tmp 6,.tmp 7],none⟩,⟨some 9,.un .not (.tmp 8),none⟩]) (.cond (.tmp 9) (.seq (.region [⟨some 10,.mov (.tmp 0),none⟩,⟨some 4,.mov (.tmp 10),none⟩,⟨some 5,.mov (.val (.bool false)),none⟩]) .ret) .skip)) (.seq (.region [⟨some 11,.mov (.tmp 0),none⟩,⟨some 12,.mov (.tmp 1),none⟩,⟨some 13,.lenStr (.tmp 12),none⟩,⟨some 14,.sliceStr (.tmp 11) (some (.tmp 13)) none,none⟩,⟨some 4,.mov (.tmp 14),none⟩,⟨some 5,.mov (.val (.bool true)),none⟩]) .ret))),[.tmp 4,.tmp 5]⟩
def c119 : RFunc := ⟨77,.code (.seq (.region [⟨some 2,.mov (.val (.int .i64 0)),none⟩,⟨some 3,.mov (.val .niface),none⟩]) (.seq (.region [⟨some 11,.mov (.tmp 0),none⟩,⟨some 12,.lenStr (.tmp 11),none⟩,⟨some 4,.mov (.tmp 12),none⟩]) (.seq (.seq (.region [⟨some 13,.mov (.val (.bool false)),none⟩,⟨some 14,.mov (.tmp 4),some (13,true)⟩,⟨some 15,.bin .lss (.val (.int .i64 0)) (.tmp 14),some (13,true)⟩,⟨some 16,.mov (.tmp 15),some (13,true)⟩,⟨some 17,.mov (.tmp 4),some (16,true)⟩,⟨some 18,.bin .lss (.tmp 17) (.val (.int .i64 10)),some (16,true)⟩,⟨some 19,.pick (.tmp 16) (.tmp 18) (.val (.bool false)),some (13,true)⟩,⟨some 20,.pick (.tmp 13) (.tmp 19) (.val (.bool false)),none⟩,⟨some 21,.mov (.tmp 20),none⟩,⟨some 22,.mov (.val (.bool true)),some (21,false)⟩,⟨some 23,.mov (.tmp 4),some (22,true)⟩,⟨some 24,.bin .lss (.val (.int .i64 0)) (.tmp 23),some (22,true)⟩,⟨some 25,.mov (.tmp 24),some (22,true)⟩,⟨some 26,.mov (.tmp 4),some (25,true)⟩,⟨some 27,.bin .lss (.tmp 26) (.val (.int .i64 19)),some (25,true)⟩,⟨some 28,.pick (.tmp 25) (.tmp 27) (.val (.bool false)),some (22,true)⟩,⟨some 29,.pick (.tmp 22) (.tmp 28) (.val (.bool false)),some (21,false)⟩,⟨some 30,.pick (.tmp 21) (.val (.bool true)) (.tmp 29),none⟩]) (.cond (.tmp 30) (.seq (.region [⟨some 31,.mov (.tmp 0),none⟩,⟨some 5,.mov (.tmp 31),none⟩]) (.seq (.seq (.region [⟨some 32,.mov (.tmp 0),none⟩,⟨some 33,.indexStr (.tmp 32) (.val (.int .i64 0)),none⟩,⟨some 34,.bin .eql (.tmp 33) (.val (.int .u8 45)),none⟩,⟨some 35,.mov (.tmp 34),none⟩,⟨some 36,.mov (.tmp 0),some (35,false)⟩,⟨some 37,.indexStr (.tmp 36) (.val (.int .i64 0)),some (35,false)⟩,⟨some 38,.bin .eql (.tmp 37) (.val (.int .u8 43)),some (35,false)⟩,⟨some 39,.pick (.tmp 35) (.val (.bool true)) (.tmp 38),none⟩]) (.cond (.tmp 39) (.seq (.region [⟨some 40,.mov (.tmp 0),none⟩,⟨some 41,.sliceStr (.tmp 40) (some (.val (.int .i64 1))) none,none⟩,⟨some 0,.mov (.tmp 41),none⟩]) (.seq (.region [⟨some 42,.mov (.tmp 0),none⟩,⟨some 43,.lenStr (.tmp 42),none⟩,⟨some 44,.bin .lss (.tmp 43) (.val (.int .i64 1)),none⟩]) (.cond (.tmp 44) (.seq (.region [⟨some 45,.mkIface 149 (.val (.int .i64 2)),none⟩,⟨some 2,.mov (.val (.int .i64 0)),none⟩,⟨some 3,.mov (.tmp 45),none⟩]) .ret) .skip))) .skip)) (.seq (.region [⟨some 6,.mov (.val (.int .i64 0)),none⟩]) (.seq (.seq (.region [⟨some 46,.mov (.tmp 0),none⟩,⟨some 47,.strToBytes 5 (.tmp 46),none⟩,⟨some 48,.lenS (.tmp 47),none⟩,⟨some 49,.mov (.val (.int .i64 0)),none⟩]) (.block 0 (.loop (.seq (.region [⟨some 50,.bin .lss (.tmp 49) (.tmp 48),none⟩]) (.seq (.cond (.tmp 50) .skip (.exit 0)) (.seq (.block 1 (.seq (.region [⟨some 51,.idxS 1 (.tmp 47) (.tmp 49),none⟩,⟨some 52,.load none (.tmp 51),none⟩,⟨some 8,.mov (.tmp 52),none⟩]) (.seq (.region [⟨some 53,.mov (.tmp 8),none⟩,⟨some 54,.bin .sub (.tmp 53) (.val (.int .u8 48)),none⟩,⟨some 8,.mov (.tmp 54),none⟩]) (.seq (.seq (.region [⟨some 55,.mov (.tmp 8),none⟩,⟨some 56,.bin .gtr (.tmp 55) (.val (.int .u8 9)),none⟩]) (.cond (.tmp 56) (.seq (.region [⟨some 57,.mkIface 149 (.val (.int .i64 2)),none⟩,⟨some 2,.mov (.val (.int .i64 0)),none⟩,⟨some 3,.mov (.tmp 57),none⟩]) .ret) .skip)) (.region [⟨some 58,.mov (.tmp 6),none⟩,⟨some 59,.bin .mul (.tmp 58) (.val (.int .i64 10)),none⟩,⟨some 60,.mov (.tmp 8),none⟩,⟨some 61,.convInt .i64 (.tmp 60),none⟩,⟨some 62,.bin .add (.tmp 59) (.tmp 61),none⟩,⟨some 6,.mov (.tmp 62),none⟩]))))) (.region [⟨some 63,.bin .add (.tmp 49) (.val (.int .i64 1)),none⟩,⟨some 49,.mov (.tmp 63),none⟩]))))))) (.seq (.seq (.region [⟨some 64,.mov (.tmp 5),none⟩,⟨some 65,.indexStr (.tmp 64) (.val (.int .i64 0)),none⟩,⟨some 66,.bin .eql (.tmp 65) (.val (.int .u8 45)),none⟩]) (.cond (.tmp 66) (.region [⟨some 67,.mov (.tmp 6),none⟩,⟨some 68,.un .neg (.tmp 67),none⟩,⟨some 6,.mov (.tmp 68),none⟩]) .skip)) (.seq (.region [⟨some 69,.mov (.tmp 6),none⟩,⟨some 2,.mov (.tmp 69),none⟩,⟨some 3,.mov (.val .niface),none⟩]) .ret)))))) .skip)) (.seq (.region [⟨some 71,.mov (.tmp 0),none⟩,⟨some 72,.call (.val (.func (.func 125) [] [])) [.tmp 71,(.val (.int .i64 10)),(.val (.int .i64 0))],none⟩,⟨some 70,.mov (.tmp 72),none⟩,⟨some 73,.extract (.tmp 70) 0,none⟩,⟨some 74,.extract (.tmp 70) 1,none⟩,⟨some 9,.mov (.tmp 73),none⟩,⟨some 10,.mov (.tmp 74),none⟩]) (.seq (.region [⟨some 75,.mov (.tmp 9),none⟩,⟨some 76,.mov (.tmp 10),none⟩,⟨some 2,.mov (.tmp 75),none⟩,⟨some 3,.mov (.tmp 76),none⟩]) .ret))))),[.tmp 2,.tmp 3]⟩
def c120 : RFunc := ⟨43,.code (.seq (.region [⟨some 10,.mov (.val .niface),none⟩]) (.seq (.seq (.region [⟨some 11,.mov (.tmp 4),none⟩]) (.block 0 (.seq (.region [⟨some 13,.mkIface 149 (.val (.int .i64 2)),none⟩,⟨some 14,.eq false (.iface false [2,3,5,6,12,21,26,29,30,53,56,65,130,133,149,168,186,187,189,190]) (.tmp 11) (.tmp 13),none⟩,⟨some 12,.mov (.tmp 14),none⟩]) (.cond (.tmp 12) (.seq (.region [⟨some 15,.mov (.tmp 0),none⟩,⟨some 16,.mov (.tmp 1),none⟩,⟨some 17,.call (.val (.func (.func 126) [] [])) [.tmp 15,.tmp 16],none⟩,⟨some 18,.mkIface 152 (.tmp 17),none⟩,⟨some 10,.mov (.tmp 18),none⟩]) .ret) (.seq (.region [⟨some 20,.mkIface 149 (.val (.int .i64 1)),none⟩,⟨some 21,.eq false (.iface false [2,3,5,6,12,21,26,29,30,53,56,65,130,133,149,168,186,187,189,190]) (.tmp 11) (.tmp 20),none⟩,⟨some 19,.mov (.tmp 21),none⟩]) (.cond (.tmp 19) (.seq (.region [⟨some 22,.mov (.tmp 0),none⟩,⟨some 23,.mov (.tmp 1),none⟩,⟨some 24,.call (.val (.func (.func 127) [] [])) [.tmp 22,.tmp 23],none⟩,⟨some 25,.mkIface 152 (.tmp 24),none⟩,⟨some 10,.mov (.tmp 25),none⟩]) .ret) (.seq (.region [⟨some 27,.mkIface 149 (.val (.int .i64 3)),none⟩,⟨some 28,.eq false (.iface false [2,3,5,6,12,21,26,29,30,53,56,65,130,133,149,168,186,187,189,190]) (.tmp 11) (.tmp 27),none⟩,⟨some 26,.mov (.tmp 28),none⟩]) (.cond (.tmp 26) (.seq (.region [⟨some 29,.mov (.tmp 0),none⟩,⟨some 30,.mov (.tmp 1),none⟩,⟨some 31,.mov (.tmp 2),none⟩,⟨some 32,.call (.val (.func (.func 128) [] [])) [.tmp 29,.tmp 30,.tmp 31],none⟩,⟨some 33,.mkIface 152 (.tmp 32),none⟩,⟨some 10,.mov (.tmp 33),none⟩]) .ret) (.seq (.region [⟨some 35,.mkIface 149 (.val (.int .i64 4)),none⟩,⟨some 36,.eq false (.iface false [2,3,5,6,12,21,26,29,30,53,56,65,130,133,149,168,186,187,189,190]) (.tmp 11) (.tmp 35),none⟩,⟨some 34,.mov (.tmp 36),none⟩]) (.cond (.tmp 34) (.seq (.region [⟨some 37,.mov (.tmp 0),none⟩,⟨some 38,.mov (.tmp 1),none⟩,⟨some 39,.mov (.tmp 3),none⟩,⟨some 40,.call (.val (.func (.func 129) [] [])) [.tmp 37,.tmp 38,.tmp 39],none⟩,⟨some 41,.mkIface 152 (.tmp 40),none⟩,⟨some 10,.mov (.tmp 41),none⟩]) .ret) .skip)))))))))) (.seq (.region [⟨some 42,.mov (.tmp 4),none⟩,⟨some 10,.mov (.tmp 42),none⟩]) .ret))),[.tmp 10]⟩
def c122 : RFunc := ⟨19,.code (.seq (.region [⟨some 4,.mov (.val (.int .i64 0)),none⟩]) (.seq (.seq (.region [⟨some 6,.mov (.tmp 0),none⟩,⟨some 7,.lenS (.tmp 6),none⟩,⟨some 8,.mov (.val (.int .i64 0)),none⟩]) (.block 0 (.loop (.seq (.region [⟨some 9,.bin .lss (.tmp 8) (.tmp 7),none⟩]) (.seq (.cond (.tmp 9) .skip (.exit 0)) (.seq (.block 1 (.seq (.region [⟨some 10,.mov (.tmp 8),none⟩,⟨some 5,.mov (.tmp 10),none⟩]) (.seq (.region [⟨some 11,.mov (.tmp 1),none⟩,⟨some 12,.mov (.tmp 0),none⟩,⟨some 13,.mov (.tmp 5),none⟩,⟨some 14,.idxS 1 (.tmp 12) (.tmp 13),none⟩,⟨some 15,.load none (.tmp 14),none⟩,⟨some 16,.bin .eql (.tmp 11) (.tmp 15),none⟩]) (.cond (.tmp 16) (.seq (.region [⟨some 17,.mov (.tmp 5),none⟩,⟨some 4,.mov (.tmp 17),none⟩]) .ret) .skip)))) (.region [⟨some 18,.bin .add (.tmp 8) (.val (.int .i64 1)),none⟩,⟨some 8,.mov (.tmp 18),none⟩]))))))) (.seq (.region [⟨some 4,.mov (.val (.int .i64 (-1))),none⟩]) .ret))),[.tmp 4]⟩
def c123 : RFunc := ⟨54,.code (.seq (.region [⟨some 4,.mov (.val (.str ⟨#[]⟩)),none⟩]) (.seq (.seq (.region [⟨some 10,.mov (.tmp 1),none⟩,⟨some 11,.bin .eql (.tmp 10) (.val (.int .i64 10)),none⟩]) (.cond (.tmp 11) (.seq (.seq (.region [⟨some 12,.mov (.tmp 0),none⟩,⟨some 13,.bin .leq (.val (.int .i64 0)) (.tmp 12),none⟩,⟨some 14,.mov (.tmp 13),none⟩,⟨some 15,.mov (.tmp 0),some (14,true)⟩,⟨some 16,.bin .lss (.tmp 15) (.val (.int .i64 100)),some (14,true)⟩,⟨some 17,.pick (.tmp 14) (.tmp 16) (.val (.bool false)),none⟩]) (.cond (.tmp 17) (.seq (.region [⟨some 18,.mov (.tmp 0),none⟩,⟨some 19,.call (.val (.func (.func 130) [] [])) [.tmp 18],none⟩,⟨some 4,.mov (.tmp 19),none⟩]) .ret) .skip)) (.seq (.region [⟨some 5,.new 155 [(.int .u8 0),(.int .u8 0),(.int .u8 0),(.int .u8 0),(.int .u8 0),(.int .u8 0),(.int .u8 0),(.int .u8 0),(.int .u8 0),(.int .u8 0),(.int .u8 0),(.int .u8 0),(.int .u8 0),(.int .u8 0),(.int .u8 0),(.int .u8 0),(.int .u8 0),(.int .u8 0),(.int .u8 0),(.int .u8 0),(.int .u8 0),(.int .u8 0),(.int .u8 0),(.int .u8 0)],none⟩]) (.seq (.region [⟨some 20,.mov (.tmp 0),none⟩,⟨some 21,.convInt .u64 (.tmp 20),none⟩,⟨some 6,.mov (.tmp 21),none⟩]) (.seq (.seq (.region [⟨some 22,.mov (.tmp 0),none⟩,⟨some 23,.bin .lss (.tmp 22) (.val (.int .i64 0)),none⟩]) (.cond (.tmp 23) (.region [⟨some 24,.mov (.tmp 6),none⟩,⟨some 25,.un .neg (.tmp 24),none⟩,⟨some 6,.mov (.tmp 25),none⟩]) .skip)) (.seq (.region [⟨some 26,.mov (.tmp 6),none⟩,⟨some 27,.call (.val (.func (.func 131) [] [])) [.tmp 26],none⟩,⟨some 7,.mov (.tmp 27),none⟩]) (.seq (.region [⟨some 28,.mov (.tmp 7),none⟩,⟨some 29,.bin .add (.val (.int .i64 1)) (.tmp 28),none⟩,⟨some 30,.sliceArr 24 1 (.tmp 5) (some (.val (.int .i64 1))) (some (.tmp 29)) none,none⟩,⟨some 31,.mov (.tmp 6),none⟩,⟨some 32,.call (.val (.func (.func 132) [] [])) [.tmp 30,.tmp 31],none⟩]) (.seq (.seq (.region [⟨some 33,.mov (.tmp 0),none⟩,⟨some 34,.bin .lss (.tmp 33) (.val (.int .i64 0)),none⟩]) (.cond (.tmp 34) (.seq (.region [⟨some 35,.idxA 24 1 (.tmp 5) (.val (.int .i64 0)),none⟩,⟨none,.store 1 (.tmp 35) (.val (.int .u8 45)),none⟩]) (.seq (.region [⟨some 36,.mov (.tmp 7),none⟩,⟨some 37,.bin .add (.val (.int .i64 1)) (.tmp 36),none⟩,⟨some 38,.sliceArr 24 1 (.tmp 5) none (some (.tmp 37)) none,none⟩,⟨some 39,.bytesToStr (.tmp 38),none⟩,⟨some 4,.mov (.tmp 39),none⟩]) .ret)) .skip)) (.seq (.region [⟨some 40,.mov (.tmp 7),none⟩,⟨some 41,.bin .add (.val (.int .i64 1)) (.tmp 40),none⟩,⟨some 42,.sliceArr 24 1 (.tmp 5) (some (.val (.int .i64 1))) (some (.tmp 41)) none,none⟩,⟨some 43,.bytesToStr (.tmp 42),none⟩,⟨some 4,.mov (.tmp 43),none⟩]) .ret)))))))) .skip)) (.seq (.region [⟨some 45,.mov (.tmp 0),none⟩,⟨some 46,.convInt .u64 (.tmp 45),none⟩,⟨some 47,.mov (.tmp 1),none⟩,⟨some 48,.mov (.tmp 0),none⟩,⟨some 49,.bin .lss (.tmp 48) (.val (.int .i64 0)),none⟩,⟨some 50,.call (.val (.func (.func 133) [] [])) [(.val .nslice),.tmp 46,.tmp 47,.tmp 49,(.val (.bool false))],none⟩,⟨some 44,.mov (.tmp 50),none⟩,⟨some 51,.extract (.tmp 44) 0,none⟩,⟨some 52,.extract (.tmp 44) 1,none⟩,⟨some 8,.mov (.tmp 51),none⟩,⟨some 9,.mov (.tmp 52),none⟩]) (.seq (.region [⟨some 53,.mov (.tmp 9),none⟩,⟨some 4,.mov (.tmp 53),none⟩]) .ret)))),[.tmp 4]⟩
def c124 : RFunc := ⟨18,.code (.seq (.region [⟨some 4,.mov (.val (.bool false)),none⟩]) (.seq (.region [⟨some 5,.mov (.tmp 0),none⟩,⟨some 6,.lenStr (.tmp 5),none⟩,⟨some 7,.mov (.tmp 1),none⟩,⟨some 8,.lenStr (.tmp 7),none⟩,⟨some 9,.bin .geq (.tmp 6) (.tmp 8),none⟩,⟨some 10,.mov (.tmp 9),none⟩,⟨some 11,.mov (.tmp 0),some (10,true)⟩,⟨some 12,.mov (.tmp 1),some (10,true)⟩,⟨some 13,.lenStr (.tmp 12),some (10,true)⟩,⟨some 14,.sliceStr (.tmp 11) none (some (.tmp 13)),some (10,true)⟩,⟨some 15,.mov (.tmp 1),some (10,true)⟩,⟨some 16,.bin .eql (.tmp 14) (.tmp 15),some (10,true)⟩,⟨some 17,.pick (.tmp 10) (.tmp 16) (.val (.bool false)),none⟩,⟨some 4,.mov (.tmp 17),none⟩]) .ret)),[.tmp 4]⟩
def c125 : RFunc := ⟨73,.code (.seq (.region [⟨some 6,.mov (.val (.int .i64 0)),none⟩,⟨some 7,.mov (.val .niface),none⟩]) (.seq (.seq (.region [⟨some 12,.mov (.tmp 0),none⟩,⟨some 13,.bin .eql (.tmp 12) (.val (.str ⟨#[]⟩)),none⟩]) (.cond (.tmp 13) (.seq (.region [⟨some 14,.mkIface 149 (.val (.int .i64 2)),none⟩,⟨some 6,.mov (.val (.int .i64 0)),none⟩,⟨some 7,.mov (.tmp 14),none⟩]) .ret) .skip)) (.seq (.region [⟨some 8,.mov (.val (.bool false)),none⟩]) (.seq (.seq (.region [⟨some 15,.mov (.tmp 0),none⟩,⟨some 16,.indexStr (.tmp 15) (.val (.int .i64 0)),none⟩]) (.block 0 (.seq (.region [⟨some 18,.bin .eql (.tmp 16) (.val (.int .u8 43)),none⟩,⟨some 17,.mov (.tmp 18),none⟩]) (.cond (.tmp 17) (.region [⟨some 19,.mov (.tmp 0),none⟩,⟨some 20,.sliceStr (.tmp 19) (some (.val (.int .i64 1))) none,none⟩,⟨some 0,.mov (.tmp 20),none⟩]) (.seq (.region [⟨some 22,.bin .eql (.tmp 16) (.val (.int .u8 45)),none⟩,⟨some 21,.mov (.tmp 22),none⟩]) (.cond (.tmp 21) (.seq (.region [⟨some 23,.mov (.tmp 0),none⟩,⟨some 24,.sliceStr (.tmp 23) (some (.val (.int .i64 1))) none,none⟩,⟨some 0,.mov (.tmp 24),none⟩]) (.region [⟨some 8,.mov (.val (.bool true)),none⟩])) .skip)))))) (.seq (.region [⟨some 9,.mov (.val (.int .u64 0)),none⟩]) (.seq (.region [⟨some 26,.mov (.tmp 0),none⟩,⟨some 27,.mov (.tmp 1),none⟩,⟨some 28,.mov (.tmp 2),none⟩,⟨some 29,.call (.val (.func (.func 134) [] [])) [.tmp 26,.tmp 27,.tmp 28],none⟩,⟨some 25,.mov (.tmp 29),none⟩,⟨some 30,.extract (.tmp 25) 0,none⟩,⟨some 31,.extract (.tmp 25) 1,none⟩,⟨some 9,.mov (.tmp 30),none⟩,⟨some 7,.mov (.tmp 31),none⟩]) (.seq (.seq (.region [⟨some 32,.mov (.tmp 7),none⟩,⟨some 33,.eq true (.iface true []) (.tmp 32) (.val .niface),none⟩,⟨some 34,.mov (.tmp 33),none⟩,⟨some 35,.mov (.tmp 7),some (34,true)⟩,⟨some 36,.mkIface 149 (.val (.int .i64 1)),some (34,true)⟩,⟨some 37,.eq true (.iface false [2,3,5,6,12,21,26,29,30,53,56,65,130,133,149,168,186,187,189,190]) (.tmp 35) (.tmp 36),some (34,true)⟩,⟨some 38,.pick (.tmp 34) (.tmp 37) (.val (.bool false)),none⟩]) (.cond (.tmp 38) (.seq (.region [⟨some 39,.mov (.tmp 7),none⟩,⟨some 6,.mov (.val (.int .i64 0)),none⟩,⟨some 7,.mov (.tmp 39),none⟩]) .ret) .skip)) (.seq (.seq (.region [⟨some 40,.mov (.tmp 2),none⟩,⟨some 41,.bin .eql (.tmp 40) (.val (.int .i64 0)),none⟩]) (.cond (.tmp 41) (.region [⟨some 2,.mov (.val (.int .i64 64)),none⟩]) .skip)) (.seq (.region [⟨some 42,.mov (.tmp 2),none⟩,⟨some 43,.bin .sub (.tmp 42) (.val (.int .i64 1)),none⟩,⟨some 44,.convInt .u64 (.tmp 43),none⟩,⟨some 45,.bin .shl (.val (.int .u64 1)) (.tmp 44),none⟩,⟨some 10,.mov (.tmp 45),none⟩]) (.seq (.seq (.region [⟨some 46,.mov (.tmp 8),none⟩,⟨some 47,.un .not (.tmp 46),none⟩,⟨some 48,.mov (.tmp 47),none⟩,⟨some 49,.mov (.tmp 9),some (48,true)⟩,⟨some 50,.mov (.tmp 10),some (48,true)⟩,⟨some 51,.bin .geq (.tmp 49) (.tmp 50),some (48,true)⟩,⟨some 52,.pick (.tmp 48) (.tmp 51) (.val (.bool false)),none⟩]) (.cond (.tmp 52) (.seq (.region [⟨some 53,.mov (.tmp 10),none⟩,⟨some 54,.bin .sub (.tmp 53) (.val (.int .u64 1)),none⟩,⟨some 55,.convInt .i64 (.tmp 54),none⟩,⟨some 56,.mkIface 149 (.val (.int .i64 1)),none⟩,⟨some 6,.mov (.tmp 55),none⟩,⟨some 7,.mov (.tmp 56),none⟩]) .ret) .skip)) (.seq (.seq (.region [⟨some 57,.mov (.tmp 8),none⟩,⟨some 58,.mov (.tmp 57),none⟩,⟨some 59,.mov (.tmp 9),some (58,true)⟩,⟨some 60,.mov (.tmp 10),some (58,true)⟩,⟨some 61,.bin .gtr (.tmp 59) (.tmp 60),some (58,true)⟩,⟨some 62,.pick (.tmp 58) (.tmp 61) (.val (.bool false)),none⟩]) (.cond (.tmp 62) (.seq (.region [⟨some 63,.mov (.tmp 10),none⟩,⟨some 64,.convInt .i64 (.tmp 63),none⟩,⟨some 65,.un .neg (.tmp 64),none⟩,⟨some 66,.mkIface 149 (.val (.int .i64 1)),none⟩,⟨some 6,.mov (.tmp 65),none⟩,⟨some 7,.mov (.tmp 66),none⟩]) .ret) .skip)) (.seq (.region [⟨some 67,.mov (.tmp 9),none⟩,⟨some 68,.convInt .i64 (.tmp 67),none⟩,⟨some 11,.mov (.tmp 68),none⟩]) (.seq (.seq (.region [⟨some 69,.mov (.tmp 8),none⟩]) (.cond (.tmp 69) (.region [⟨some 70,.mov (.tmp 11),none⟩,⟨some 71,.un .neg (.tmp 70),none⟩,⟨some 11,.mov (.tmp 71),none⟩]) .skip)) (.seq (.region [⟨some 72,.mov (.tmp 11),none⟩,⟨some 6,.mov (.tmp 72),none⟩,⟨some 7,.mov (.val .niface),none⟩]) .ret)))))))))))))),[.tmp 6,.tmp 7]⟩
def c126 : RFunc := ⟨11,.code (.seq (.region [⟨some 4,.mov (.val .nptr),none⟩]) (.seq (.dregion [⟨⟨some 5,.mov (.tmp 0),none⟩,0,0,true⟩,⟨⟨some 6,.mov (.tmp 1),none⟩,0,0,true⟩,⟨⟨some 7,.call (.val (.func (.func 135) [] [])) [.tmp 6],none⟩,2,2,false⟩,⟨⟨some 8,.load none (.val (.ptr 1 0)),none⟩,0,1,true⟩,⟨⟨some 9,.build [(.str ⟨#[]⟩),(.str ⟨#[]⟩),.niface] [(0,1,(.tmp 5)),(1,1,(.tmp 7)),(2,1,(.tmp 8))],none⟩,15,0,false⟩,⟨⟨some 10,.box 164 (.tmp 9),none⟩,31,2,false⟩,⟨⟨some 4,.mov (.tmp 10),none⟩,63,0,false⟩]) .ret)),[.tmp 4]⟩
def c127 : RFunc := ⟨11,.code (.seq (.region [⟨some 4,.mov (.val .nptr),none⟩]) (.seq (.dregion [⟨⟨some 5,.mov (.tmp 0),none⟩,0,0,true⟩,⟨⟨some 6,.mov (.tmp 1),none⟩,0,0,true⟩,⟨⟨some 7,.call (.val (.func (.func 135) [] [])) [.tmp 6],none⟩,2,2,false⟩,⟨⟨some 8,.load none (.val (.ptr 2 0)),none⟩,0,1,true⟩,⟨⟨some 9,.build [(.str ⟨#[]⟩),(.str ⟨#[]⟩),.niface] [(0,1,(.tmp 5)),(1,1,(.tmp 7)),(2,1,(.tmp 8))],none⟩,15,0,false⟩,⟨⟨some 10,.box 164 (.tmp 9),none⟩,31,2,false⟩,⟨⟨some 4,.mov (.tmp 10),none⟩,63,0,false⟩]) .ret)),[.tmp 4]⟩
def c128 : RFunc := ⟨16,.code (.seq (.region [⟨some 6,.mov (.val .nptr),none⟩]) (.seq (.region [⟨some 7,.mov (.tmp 0),none⟩,⟨some 8,.mov (.tmp 1),none⟩,⟨some 9,.call (.val (.func (.func 135) [] [])) [.tmp 8],none⟩,⟨some 10,.mov (.tmp 2),none⟩,⟨some 11,.call (.val (.func (.func 101) [] [])) [.tmp 10],none⟩,⟨some 12,.bin .add (.val (.str ⟨#[105,110,118,97,108,105,100,32,98,97,115,101,32]⟩)) (.tmp 11),none⟩,⟨some 13,.call (.val (.func (.func 136) [] [])) [.tmp 12],none⟩,⟨some 14,.build [(.str ⟨#[]⟩),(.str ⟨#[]⟩),.niface] [(0,1,(.tmp 7)),(1,1,(.tmp 9)),(2,1,(.tmp 13))],none⟩,⟨some 15,.box 164 (.tmp 14),none⟩,⟨some 6,.mov (.tmp 15),none⟩]) .ret)),[.tmp 6]⟩
def c129 : RFunc := ⟨16,.code (.seq (.region [⟨some 6,.mov (.val .nptr),none⟩]) (.seq (.region [⟨some 7,.mov (.tmp 0),none⟩,⟨some 8,.mov (.tmp 1),none⟩,⟨some 9,.call (.val (.func (.func 135) [] [])) [.tmp 8],none⟩,⟨some 10,.mov (.tmp 2),none⟩,⟨some 11,.call (.val (.func (.func 101) [] [])) [.tmp 10],none⟩,⟨some 12,.bin .add (.val (.str ⟨#[105,110,118,97,108,105,100,32,98,105,116,32,115,105,122,101,32]⟩)) (.tmp 11),none⟩,⟨some 13,.call (.val (.func (.func 136) [] [])) [.tmp 12],none⟩,⟨some 14,.build [(.str ⟨#[]⟩),(.str ⟨#[]⟩),.niface] [(0,1,(.tmp 7)),(1,1,(.tmp 9)),(2,1,(.tmp 13))],none⟩,⟨some 15,.box 164 (.tmp 14),none⟩,⟨some 6,.mov (.tmp 15),none⟩]) .ret)),[.tmp 6]⟩
def c130 : RFunc := ⟨15,.code (.seq (.region [⟨some 2,.mov (.val (.str ⟨#[]⟩)),none⟩]) (.seq (.seq (.region [⟨some 3,.mov (.tmp 0),none⟩,⟨some 4,.bin .lss (.tmp 3) (.val (.int .i64 10)),none⟩]) (.cond (.tmp 4) (.seq (.region [⟨some 5,.mov (.tmp 0),none⟩,⟨some 6,.mov (.tmp 0),none⟩,⟨some 7,.bin .add (.tmp 6) (.val (.int .i64 1)),none⟩,⟨some 8,.sliceStr (.val (.str ⟨#[48,49,50,51,52,53,54,55,56,57,97,98,99,100,101,102,103,104,105,106,107,108,109,110,111,112,113,114,115,116,117,118,119,120,121,122]⟩)) (some (.tmp 5)) (some (.tmp 7)),none⟩,⟨some 2,.mov (.tmp 8),none⟩]) .ret) .skip)) (.seq (.region [⟨some 9,.mov (.tmp 0),none⟩,⟨some 10,.bin .mul (.tmp 9) (.val (.int .i64 2)),none⟩,⟨some 11,.mov (.tmp 0),none⟩,⟨some 12,.bin .mul (.tmp 11) (.val (.int .i64 2)),none⟩,⟨some 13,.bin .add (.tmp 12) (.val (.int .i64 2)),none⟩,⟨some 14,.sliceStr (.val (.str ⟨#[48,48,48,49,48,50,48,51,48,52,48,53,48,54,48,55,48,56,48,57,49,48,49,49,49,50,49,51,49,52,49,53,49,54,49,55,49,56,49,57,50,48,50,49,50,50,50,51,50,52,50,53,50,54,50,55,50,56,50,57,51,48,51,49,51,50,51,51,51,52,51,53,51,54,51,55,51,56,51,57,52,48,52,49,52,50,52,51,52,52,52,53,52,54,52,55,52,56,52,57,53,48,53,49,53,50,53,51,53,52,53,53,53,54,53,55,53,56,53,57,54,48,54,49,54,50,54,51,54,52,54,53,54,54,54,55,54,56,54,57,55,48,55,49,55,50,55,51,55,52,55,53,55,54,55,55,55,56,55,57,56,48,56,49,56,50,56,51,56,52,56,53,56,54,56,55,56,56,56,57,57,48,57,49,57,50,57,51,57,52,57,53,57,54,57,55,57,56,57,57]⟩)) (some (.tmp 10)) (some (.tmp 13)),none⟩,⟨some 2,.mov (.tmp 14),none⟩]) .ret))),[.tmp 2]⟩
def c131 : RFunc := ⟨15,.code (.seq (.region [⟨some 2,.mov (.val (.int .i64 0)),none⟩]) (.seq (.region [⟨some 4,.mov (.tmp 0),none⟩,⟨some 5,.call (.val (.func (.func 138) [] [])) [.tmp 4],none⟩,⟨some 6,.call (.val (.func (.func 137) [] [])) [.tmp 5],none⟩,⟨some 3,.mov (.tmp 6),none⟩]) (.seq (.region [⟨some 7,.mov (.tmp 3),none⟩,⟨some 8,.mov (.tmp 0),none⟩,⟨some 9,.mov (.tmp 3),none⟩,⟨some 10,.idxA 20 1 (.val (.ptr 3 0)) (.tmp 9),none⟩,⟨some 11,.load none (.tmp 10),none⟩,⟨some 12,.bin .geq (.tmp 8) (.tmp 11),none⟩,⟨some 13,.call (.val (.func (.func 139) [] [])) [.tmp 12],none⟩,⟨some 14,.bin .add (.tmp 7) (.tmp 13),none⟩,⟨some 2,.mov (.tmp 14),none⟩]) .ret))),[.tmp 2]⟩
def c132 : RFunc := ⟨167,.code (.seq (.region [⟨some 17,.mov (.tmp 0),none⟩,⟨some 18,.lenS (.tmp 17),none⟩,⟨some 4,.mov (.tmp 18),none⟩]) (.seq (.block 0 (.loop (.seq (.seq (.region [⟨some 19,.mov (.tmp 4),none⟩,⟨some 20,.bin .geq (.tmp 19) (.val (.int .i64 8)),none⟩]) (.cond (.tmp 20) .skip (.exit 0))) (.block 1 (.seq (.region [⟨some 21,.mov (.tmp 1),none⟩,⟨some 22,.bin .rem (.tmp 21) (.val (.int .u64 100000000)),none⟩,⟨some 23,.convInt .u32 (.tmp 22),none⟩,⟨some 5,.mov (.tmp 23),none⟩]) (.seq (.region [⟨some 24,.mov (.tmp 1),none⟩,⟨some 25,.bin .quo (.tmp 24) (.val (.int .u64 100000000)),none⟩,⟨some 1,.mov (.tmp 25),none⟩]) (.seq (.region [⟨some 26,.mov (.tmp 5),none⟩,⟨some 27,.bin .quo (.tmp 26) (.val (.int .u32 10000)),none⟩,⟨some 28,.mov (.tmp 5),none⟩,⟨some 29,.bin .rem (.tmp 28) (.val (.int .u32 10000)),none⟩,⟨some 6,.mov (.tmp 27),none⟩,⟨some 7,.mov (.tmp 29),none⟩]) (.seq (.region [⟨some 30,.mov (.tmp 7),none⟩,⟨some 31,.bin .quo (.tmp 30) (.val (.int .u32 100)),none⟩,⟨some 32,.bin .mul (.tmp 31) (.val (.int .u32 2)),none⟩,⟨some 33,.mov (.tmp 7),none⟩,⟨some 34,.bin .rem (.tmp 33) (.val (.int .u32 100)),none⟩,⟨some 35,.bin .mul (.tmp 34) (.val (.int .u32 2)),none⟩,⟨some 8,.mov (.tmp 32),none⟩,⟨some 9,.mov (.tmp 35),none⟩]) (.seq (.region [⟨some 36,.mov (.tmp 6),none⟩,⟨some 37,.bin .quo (.tmp 36) (.val (.int .u32 100)),none⟩,⟨some 38,.bin .mul (.tmp 37) (.val (.int .u32 2)),none⟩,⟨some 39,.mov (.tmp 6),none⟩,⟨some 40,.bin .rem (.tmp 39) (.val (.int .u32 100)),none⟩,⟨some 41,.bin .mul (.tmp 40) (.val (.int .u32 2)),none⟩,⟨some 10,.mov (.tmp 38),none⟩,⟨some 11,.mov (.tmp 41),none⟩]) (.seq (.dregion [⟨⟨some 42,.mov (.tmp 0),none⟩,0,0,true⟩,⟨⟨some 43,.mov (.tmp 4),none⟩,0,0,true⟩,⟨⟨some 44,.bin .sub (.tmp 43) (.val (.int .i64 1)),none⟩,2,0,true⟩,⟨⟨some 45,.mov (.tmp 0),none⟩,0,0,true⟩,⟨⟨some 46,.mov (.tmp 4),none⟩,0,0,true⟩,⟨⟨some 47,.bin .sub (.tmp 46) (.val (.int .i64 2)),none⟩,16,0,true⟩,⟨⟨some 48,.mov (.tmp 9),none⟩,0,0,true⟩,⟨⟨some 49,.bin .add (.tmp 48) (.val (.int .u32 1)),none⟩,64,0,true⟩,⟨⟨some 50,.indexStr (.val (.str ⟨#[48,48,48,49,48,50,48,51,48,52,48,53,48,54,48,55,48,56,48,57,49,48,49,49,49,50,49,51,49,52,49,53,49,54,49,55,49,56,49,57,50,48,50,49,50,50,50,51,50,52,50,53,50,54,50,55,50,56,50,57,51,48,51,49,51,50,51,51,51,52,51,53,51,54,51,55,51,56,51,57,52,48,52,49,52,50,52,51,52,52,52,53,52,54,52,55,52,56,52,57,53,48,53,49,53,50,53,51,53,52,53,53,53,54,53,55,53,56,53,57,54,48,54,49,54,50,54,51,54,52,54,53,54,54,54,55,54,56,54,57,55,48,55,49,55,50,55,51,55,52,55,53,55,54,55,55,55,56,55,57,56,48,56,49,56,50,56,51,56,52,56,53,56,54,56,55,56,56,56,57,57,48,57,49,57,50,57,51,57,52,57,53,57,54,57,55,57,56,57,57]⟩)) (.tmp 49),none⟩,192,0,true⟩,⟨⟨some 51,.mov (.tmp 9),none⟩,0,0,true⟩,⟨⟨some 52,.indexStr (.val (.str ⟨#[48,48,48,49,48,50,48,51,48,52,48,53,48,54,48,55,48,56,48,57,49,48,49,49,49,50,49,51,49,52,49,53,49,54,49,55,49,56,49,57,50,48,50,49,50,50,50,51,50,52,50,53,50,54,50,55,50,56,50,57,51,48,51,49,51,50,51,51,51,52,51,53,51,54,51,55,51,56,51,57,52,48,52,49,52,50,52,51,52,52,52,53,52,54,52,55,52,56,52,57,53,48,53,49,53,50,53,51,53,52,53,53,53,54,53,55,53,56,53,57,54,48,54,49,54,50,54,51,54,52,54,53,54,54,54,55,54,56,54,57,55,48,55,49,55,50,55,51,55,52,55,53,55,54,55,55,55,56,55,57,56,48,56,49,56,50,56,51,56,52,56,53,56,54,56,55,56,56,56,57,57,48,57,49,57,50,57,51,57,52,57,53,57,54,57,55,57,56,57,57]⟩)) (.tmp 51),none⟩,512,0,true⟩,⟨⟨some 53,.idxS 1 (.tmp 42) (.tmp 44),none⟩,455,0,true⟩,⟨⟨none,.store 1 (.tmp 53) (.tmp 50),none⟩,2503,2,false⟩,⟨⟨some 54,.idxS 1 (.tmp 45) (.tmp 47),none⟩,8191,0,true⟩,⟨⟨none,.store 1 (.tmp 54) (.tmp 52),none⟩,16383,2,false⟩]) (.seq (.dregion [⟨⟨some 55,.mov (.tmp 0),none⟩,0,0,true⟩,⟨⟨some 56,.mov (.tmp 4),none⟩,0,0,true⟩,⟨⟨some 57,.bin .sub (.tmp 56) (.val (.int .i64 3)),none⟩,2,0,true⟩,⟨⟨some 58,.mov (.tmp 0),none⟩,0,0,true⟩,⟨⟨some 59,.mov (.tmp 4),none⟩,0,0,true⟩,⟨⟨some 60,.bin .sub (.tmp 59) (.val (.int .i64 4)),none⟩,16,0,true⟩,⟨⟨some 61,.mov (.tmp 8),none⟩,0,0,true⟩,⟨⟨some 62,.bin .add (.tmp 61) (.val (.int .u32 1)),none⟩,64,0,true⟩,⟨⟨some 63,.indexStr (.val (.str ⟨#[48,48,48,49,48,50,48,51,48,52,48,53,48,54,48,55,48,56,48,57,49,48,49,49,49,50,49,51,49,52,49,53,49,54,49,55,49,56,49,57,50,48,50,49,50,50,50,51,50,52,50,53,50,54,50,55,50,56,50,57,51,48,51,49,51,50,51,51,51,52,51,53,51,54,51,55,51,56,51,57,52,48,52,49,52,50,52,51,52,52,52,53,52,54,52,55,52,56,52,57,53,48,53,49,53,50,53,51,53,52,53,53,53,54,53,55,53,56,53,57,54,48,54,49,54,50,54,51,54,52,54,53,54,54,54,55,54,56,54,57,55,48,55,49,55,50,55,51,55,52,55,53,55,54,55,55,55,56,55,57,56,48,56,49,56,50,56,51,56,52,56,53,56,54,56,55,56,56,56,57,57,48,57,49,57,50,57,51,57,52,57,53,57,54,57,55,57,56,57,57]⟩)) (.tmp 62),none⟩,192,0,true⟩,⟨⟨some 64,.mov (.tmp 8),none⟩,0,0,true⟩,⟨⟨some 65,.indexStr (.val (.str ⟨#[48,48,48,49,48,50,48,51,48,52,48,53,48,54,48,55,48,56,48,57,49,48,49,49,49,50,49,51,49,52,49,53,49,54,49,55,49,56,49,57,50,48,50,49,50,50,50,51,50,52,50,53,50,54,50,55,50,56,50,57,51,48,51,49,51,50,51,51,51,52,51,53,51,54,51,55,51,56,51,57,52,48,52,49,52,50,52,51,52,52,52,53,52,54,52,55,52,56,52,57,53,48,53,49,53,50,53,51,53,52,53,53,53,54,53,55,53,56,53,57,54,48,54,49,54,50,54,51,54,52,54,53,54,54,54,55,54,56,54,57,55,48,55,49,55,50,55,51,55,52,55,53,55,54,55,55,55,56,55,57,56,48,56,49,56,50,56,51,56,52,56,53,56,54,56,55,56,56,56,57,57,48,57,49,57,50,57,51,57,52,57,53,57,54,57,55,57,56,57,57]⟩)) (.tmp 64),none⟩,512,0,true⟩,⟨⟨some 66,.idxS 1 (.tmp 55) (.tmp 57),none⟩,455,0,true⟩,⟨⟨none,.store 1 (.tmp 66) (.tmp 63),none⟩,2503,2,false⟩,⟨⟨some 67,.idxS 1 (.tmp 58) (.tmp 60),none⟩,8191,0,true⟩,⟨⟨none,.store 1 (.tmp 67) (.tmp 65),none⟩,16383,2,false⟩]) (.seq (.dregion [⟨⟨some 68,.mov (.tmp 0),none⟩,0,0,true⟩,⟨⟨some 69,.mov (.tmp 4),none⟩,0,0,true⟩,⟨⟨some 70,.bin .sub (.tmp 69) (.val (.int .i64 5)),none⟩,2,0,true⟩,⟨⟨some 71,.mov (.tmp 0),none⟩,0,0,true⟩,⟨⟨some 72,.mov (.tmp 4),none⟩,0,0,true⟩,⟨⟨some 73,.bin .sub (.tmp 72) (.val (.int .i64 6)),none⟩,16,0,true⟩,⟨⟨some 74,.mov (.tmp 11),none⟩,0,0,true⟩,⟨⟨some 75,.bin .add (.tmp 74) (.val (.int .u32 1)),none⟩,64,0,true⟩,⟨⟨some 76,.indexStr (.val (.str ⟨#[48,48,48,49,48,50,48,51,48,52,48,53,48,54,48,55,48,56,48,57,49,48,49,49,49,50,49,51,49,52,49,53,49,54,49,55,49,56,49,57,50,48,50,49,50,50,50,51,50,52,50,53,50,54,50,55,50,56,50,57,51,48,51,49,51,50,51,51,51,52,51,53,51,54,51,55,51,56,51,57,52,48,52,49,52,50,52,51,52,52,52,53,52,54,52,55,52,56,52,57,53,48,53,49,53,50,53,51,53,52,53,53,53,54,53,55,53,56,53,57,54,48,54,49,54,50,54,51,54,52,54,53,54,54,54,55,54,56,54,57,55,48,55,49,55,50,55,51,55,52,55,53,55,54,55,55,55,56,55,57,56,48,56,49,56,50,56,51,56,52,56,53,56,54,56,55,56,56,56,57,57,48,57,49,57,50,57,51,57,52,57,53,57,54,57,55,57,56,57,57]⟩)) (.tmp 75),none⟩,192,0,true⟩,⟨⟨some 77,.mov (.tmp 11),none⟩,0,0,true⟩,⟨⟨some 78,.indexStr (.val (.str ⟨#[48,48,48,49,48,50,48,51,48,52,48,53,48,54,48,55,48,56,48,57,49,48,49,49,49,50,49,51,49,52,49,53,49,54,49,55,49,56,49,57,50,48,50,49,50,50,50,51,50,52,50,53,50,54,50,55,50,56,50,57,51,48,51,49,51,50,51,51,51,52,51,53,51,54,51,55,51,56,51,57,52,48,52,49,52,50,52,51,52,52,52,53,52,54,52,55,52,56,52,57,53,48,53,49,53,50,53,51,53,52,53,53,53,54,53,55,53,56,53,57,54,48,54,49,54,50,54,51,54,52,54,53,54,54,54,55,54,56,54,57,55,48,55,49,55,50,55,51,55,52,55,53,55,54,55,55,55,56,55,57,56,48,56,49,56,50,56,51,56,52,56,53,56,54,56,55,56,56,56,57,57,48,57,49,57,50,57,51,57,52,57,53,57,54,57,55,57,56,57,57]⟩)) (.tmp 77),none⟩,512,0,true⟩,⟨⟨some 79,.idxS 1 (.tmp 68) (.tmp 70),none⟩,455,0,true⟩,⟨⟨none,.store 1 (.tmp 79) (.tmp 76),none⟩,2503,2,false⟩,⟨⟨some 80,.idxS 1 (.tmp 71) (.tmp 73),none⟩,8191,0,true⟩,⟨⟨none,.store 1 (.tmp 80) (.tmp 78),none⟩,16383,2,false⟩]) (.seq (.dregion [⟨⟨some 81,.mov (.tmp 0),none⟩,0,0,true⟩,⟨⟨some 82,.mov (.tmp 4),none⟩,0,0,true⟩,⟨⟨some 83,.bin .sub (.tmp 82) (.val (.int .i64 7)),none⟩,2,0,true⟩,⟨⟨some 84,.mov (.tmp 0),none⟩,0,0,true⟩,⟨⟨some 85,.mov (.tmp 4),none⟩,0,0,true⟩,⟨⟨some 86,.bin .sub (.tmp 85) (.val (.int .i64 8)),none⟩,16,0,true⟩,⟨⟨some 87,.mov (.tmp 10),none⟩,0,0,true⟩,⟨⟨some 88,.bin .add (.tmp 87) (.val (.int .u32 1)),none⟩,64,0,true⟩,⟨⟨some 89,.indexStr (.val (.str ⟨#[48,48,48,49,48,50,48,51,48,52,48,53,48,54,48,55,48,56,48,57,49,48,49,49,49,50,49,51,49,52,49,53,49,54,49,55,49,56,49,57,50,48,50,49,50,50,50,51,50,52,50,53,50,54,50,55,50,56,50,57,51,48,51,49,51,50,51,51,51,52,51,53,51,54,51,55,51,56,51,57,52,48,52,49,52,50,52,51,52,52,52,53,52,54,52,55,52,56,52,57,53,48,53,49,53,50,53,51,53,52,53,53,53,54,53,55,53,56,53,57,54,48,54,49,54,50,54,51,54,52,54,53,54,54,54,55,54,56,54,57,55,48,55,49,55,50,55,51,55,52,55,53,55,54,55,55,55,56,55,57,56,48,56,49,56,50,56,51,56,52,56,53,56,54,56,55,56,56,56,57,57,48,57,49,57,50,57,51,57,52,57,53,57,54,57,55,57,56,57,57]⟩)) (.tmp 88),none⟩,192,0,true⟩,⟨⟨some 90,.mov (.tmp 10),none⟩,0,0,true⟩,⟨⟨some 91,.indexStr (.val (.str ⟨#[48,48,48,49,48,50,48,51,48,52,48,53,48,54,48,55,48,56,48,57,49,48,49,49,49,50,49,51,49,52,49,53,49,54,49,55,49,56,49,57,50,48,50,49,50,50,50,51,50,52,50,53,50,54,50,55,50,56,50,57,51,48,51,49,51,50,51,51,51,52,51,53,51,54,51,55,51,56,51,57,52,48,52,49,52,50,52,51,52,52,52,53,52,54,52,55,52,56,52,57,53,48,53,49,53,50,53,51,53,52,53,53,53,54,53,55,53,56,53,57,54,48,54,49,54,50,54,51,54,52,54,53,54,54,54,55,54,56,54,57,55,48,55,49,55,50,55,51,55,52,55,53,55,54,55,55,55,56,55,57,56,48,56,49,56,50,56,51,56,52,56,53,56,54,56,55,56,56,56,57,57,48,57,49,57,50,57,51,57,52,57,53,57,54,57,55,57,56,57,57]⟩)) (.tmp 90),none⟩,512,0,true⟩,⟨⟨some 92,.idxS 1 (.tmp 81) (.tmp 83),none⟩,455,0,true⟩,⟨⟨none,.store 1 (.tmp 92) (.tmp 89),none⟩,2503,2,false⟩,⟨⟨some 93,.idxS 1 (.tmp 84) (.tmp 86),none⟩,8191,0,true⟩,⟨⟨none,.store 1 (.tmp 93) (.tmp 91),none⟩,16383,2,false⟩]) (.region [⟨some 94,.mov (.tmp 4),none⟩,⟨some 95,.bin .sub (.tmp 94) (.val (.int .i64 8)),none⟩,⟨some 4,.mov (.tmp 95),none⟩])))))))))))))) (.seq (.region [⟨some 96,.mov (.tmp 1),none⟩,⟨some 97,.convInt .u32 (.tmp 96),none⟩,⟨some 12,.mov (.tmp 97),none⟩]) (.seq (.seq (.region [⟨some 98,.mov (.tmp 4),none⟩,⟨some 99,.bin .geq (.tmp 98) (.val (.int .i64 4)),none⟩]) (.cond (.tmp 99) (.seq (.region [⟨some 100,.mov (.tmp 12),none⟩,⟨some 101,.bin .rem (.tmp 100) (.val (.int .u32 10000)),none⟩,⟨some 13,.mov (.tmp 101),none⟩]) (.seq (.region [⟨some 102,.mov (.tmp 12),none⟩,⟨some 103,.bin .quo (.tmp 102) (.val (.int .u32 10000)),none⟩,⟨some 12,.mov (.tmp 103),none⟩]) (.seq (.region [⟨some 104,.mov (.tmp 13),none⟩,⟨some 105,.bin .quo (.tmp 104) (.val (.int .u32 100)),none⟩,⟨some 106,.bin .mul (.tmp 105) (.val (.int .u32 2)),none⟩,⟨some 107,.mov (.tmp 13),none⟩,⟨some 108,.bin .rem (.tmp 107) (.val (.int .u32 100)),none⟩,⟨some 109,.bin .mul (.tmp 108) (.val (.int .u32 2)),none⟩,⟨some 14,.mov (.tmp 106),none⟩,⟨some 15,.mov (.tmp 109),none⟩]) (.seq (.dregion [⟨⟨some 110,.mov (.tmp 0),none⟩,0,0,true⟩,⟨⟨some 111,.mov (.tmp 4),none⟩,0,0,true⟩,⟨⟨some 112,.bin .sub (.tmp 111) (.val (.int .i64 1)),none⟩,2,0,true⟩,⟨⟨some 113,.mov (.tmp 0),none⟩,0,0,true⟩,⟨⟨some 114,.mov (.tmp 4),none⟩,0,0,true⟩,⟨⟨some 115,.bin .sub (.tmp 114) (.val (.int .i64 2)),none⟩,16,0,true⟩,⟨⟨some 116,.mov (.tmp 15),none⟩,0,0,true⟩,⟨⟨some 117,.bin .add (.tmp 116) (.val (.int .u32 1)),none⟩,64,0,true⟩,⟨⟨some 118,.indexStr (.val (.str ⟨#[48,48,48,49,48,50,48,51,48,52,48,53,48,54,48,55,48,56,48,57,49,48,49,49,49,50,49,51,49,52,49,53,49,54,49,55,49,56,49,57,50,48,50,49,50,50,50,51,50,52,50,53,50,54,50,55,50,56,50,57,51,48,51,49,51,50,51,51,51,52,51,53,51,54,51,55,51,56,51,57,52,48,52,49,52,50,52,51,52,52,52,53,52,54,52,55,52,56,52,57,53,48,53,49,53,50,53,51,53,52,53,53,53,54,53,55,53,56,53,57,54,48,54,49,54,50,54,51,54,52,54,53,54,54,54,55,54,56,54,57,55,48,55,49,55,50,55,51,55,52,55,53,55,54,55,55,55,56,55,57,56,48,56,49,56,50,56,51,56,52,56,53,56,54,56,55,56,56,56,57,57,48,57,49,57,50,57,51,57,52,57,53,57,54,57,55,57,56,57,57]⟩)) (.tmp 117),none⟩,192,0,true⟩,⟨⟨some 119,.mov (.tmp 15),none⟩,0,0,true⟩,⟨⟨some 120,.indexStr (.val (.str ⟨#[48,48,48,49,48,50,48,51,48,52,48,53,48,54,48,55,48,56,48,57,49,48,49,49,49,50,49,51,49,52,49,53,49,54,49,55,49,56,49,57,50,48,50,49,50,50,50,51,50,52,50,53,50,54,50,55,50,56,50,57,51,48,51,49,51,50,51,51,51,52,51,53,51,54,51,55,51,56,51,57,52,48,52,49,52,50,52,51,52,52,52,53,52,54,52,55,52,56,52,57,53,48,53,49,53,50,53,51,53,52,53,53,53,54,53,55,53,56,53,57,54,48,54,49,54,50,54,51,54,52,54,53,54,54,54,55,54,56,54,57,55,48,55,49,55,50,55,51,55,52,55,53,55,54,55,55,55,56,55,57,56,48,56,49,56,50,56,51,56,52,56,53,56,54,56,55,56,56,56,57,57,48,57,49,57,50,57,51,57,52,57,53,57,54,57,55,57,56,57,57]⟩)) (.tmp 119),none⟩,512,0,true⟩,⟨⟨some 121,.idxS 1 (.tmp 110) (.tmp 112),none⟩,455,0,true⟩,⟨⟨none,.store 1 (.tmp 121) (.tmp 118),none⟩,2503,2,false⟩,⟨⟨some 122,.idxS 1 (.tmp 113) (.tmp 115),none⟩,8191,0,true⟩,⟨⟨none,.store 1 (.tmp 122) (.tmp 120),none⟩,16383,2,false⟩]) (.seq (.dregion [⟨⟨some 123,.mov (.tmp 0),none⟩,0,0,true⟩,⟨⟨some 124,.mov (.tmp 4),none⟩,0,0,true⟩,⟨⟨some 125,.bin .sub (.tmp 124) (.val (.int .i64 3)),none⟩,2,0,true⟩,⟨⟨some 126,.mov (.tmp 0),none⟩,0,0,true⟩,⟨⟨some 127,.mov (.tmp 4),none⟩,0,0,true⟩,⟨⟨some 128,.bin .sub (.tmp 127) (.val (.int .i64 4)),none⟩,16,0,true⟩,⟨⟨some 129,.mov (.tmp 14),none⟩,0,0,true⟩,⟨⟨some 130,.bin .add (.tmp 129) (.val (.int .u32 1)),none⟩,64,0,true⟩,⟨⟨some 131,.indexStr (.val (.str ⟨#[48,48,48,49,48,50,48,51,48,52,48,53,48,54,48,55,48,56,48,57,49,48,49,49,49,50,49,51,49,52,49,53,49,54,49,55,49,56,49,57,50,48,50,49,50,50,50,51,50,52,50,53,50,54,50,55,50,56,50,57,51,48,51,49,51,50,51,51,51,52,51,53,51,54,51,55,51,56,51,57,52,48,52,49,52,50,52,51,52,52,52,53,52,54,52,55,52,56,52,57,53,48,53,49,53,50,53,51,53,52,53,53,53,54,53,55,53,56,53,57,54,48,54,49,54,50,54,51,54,52,54,53,54,54,54,55,54,56,54,57,55,48,55,49,55,50,55,51,55,52,55,53,55,54,55,55,55,56,55,57,56,48,56,49,56,50,56,51,56,52,56,53,56,54,56,55,56,56,56,57,57,48,57,49,57,50,57,51,57,52,57,53,57,54,57,55,57,56,57,57]⟩)) (.tmp 130),none⟩,192,0,true⟩,⟨⟨some 132,.mov (.tmp 14),none⟩,0,0,true⟩,⟨⟨some 133,.indexStr (.val (.str ⟨#[48,48,48,49,48,50,48,51,48,52,48,53,48,54,48,55,48,56,48,57,49,48,49,49,49,50,49,51,49,52,49,53,49,54,49,55,49,56,49,57,50,48,50,49,50,50,50,51,50,52,50,53,50,54,50,55,50,56,50,57,51,48,51,49,51,50,51,51,51,52,51,53,51,54,51,55,51,56,51,57,52,48,52,49,52,50,52,51,52,52,52,53,52,54,52,55,52,56,52,57,53,48,53,49,53,50,53,51,53,52,53,53,53,54,53,55,53,56,53,57,54,48,54,49,54,50,54,51,54,52,54,53,54,54,54,55,54,56,54,57,55,48,55,49,55,50,55,51,55,52,55,53,55,54,55,55,55,56,55,57,56,48,56,49,56,50,56,51,56,52,56,53,56,54,56,55,56,56,56,57,57,48,57,49,57,50,57,51,57,52,57,53,57,54,57,55,57,56,57,57]⟩)) (.tmp 132),none⟩,512,0,true⟩,⟨⟨some 134,.idxS 1 (.tmp 123) (.tmp 125),none⟩,455,0,true⟩,⟨⟨none,.store 1 (.tmp 134) (.tmp 131),none⟩,2503,2,false⟩,⟨⟨some 135,.idxS 1 (.tmp 126) (.tmp 128),none⟩,8191,0,true⟩,⟨⟨none,.store 1 (.tmp 135) (.tmp 133),none⟩,16383,2,false⟩]) (.region [⟨some 136,.mov (.tmp 4),none⟩,⟨some 137,.bin .sub (.tmp 136) (.val (.int .i64 4)),none⟩,⟨some 4,.mov (.tmp 137),none⟩])))))) .skip)) (.seq (.seq (.region [⟨some 138,.mov (.tmp 4),none⟩,⟨some 139,.bin .geq (.tmp 138) (.val (.int .i64 2)),none⟩]) (.cond (.tmp 139) (.seq (.region [⟨some 140,.mov (.tmp 12),none⟩,⟨some 141,.bin .rem (.tmp 140) (.val (.int .u32 100)),none⟩,⟨some 142,.bin .mul (.tmp 141) (.val (.int .u32 2)),none⟩,⟨some 16,.mov (.tmp 142),none⟩]) (.seq (.region [⟨some 143,.mov (.tmp 12),none⟩,⟨some 144,.bin .quo (.tmp 143) (.val (.int .u32 100)),none⟩,⟨some 12,.mov (.tmp 144),none⟩]) (.seq (.dregion [⟨⟨some 145,.mov (.tmp 0),none⟩,0,0,true⟩,⟨⟨some 146,.mov (.tmp 4),none⟩,0,0,true⟩,⟨⟨some 147,.bin .sub (.tmp 146) (.val (.int .i64 1)),none⟩,2,0,true⟩,⟨⟨some 148,.mov (.tmp 0),none⟩,0,0,true⟩,⟨⟨some 149,.mov (.tmp 4),none⟩,0,0,true⟩,⟨⟨some 150,.bin .sub (.tmp 149) (.val (.int .i64 2)),none⟩,16,0,true⟩,⟨⟨some 151,.mov (.tmp 16),none⟩,0,0,true⟩,⟨⟨some 152,.bin .add (.tmp 151) (.val (.int .u32 1)),none⟩,64,0,true⟩,⟨⟨some 153,.indexStr (.val (.str ⟨#[48,48,48,49,48,50,48,51,48,52,48,53,48,54,48,55,48,56,48,57,49,48,49,49,49,50,49,51,49,52,49,53,49,54,49,55,49,56,49,57,50,48,50,49,50,50,50,51,50,52,50,53,50,54,50,55,50,56,50,57,51,48,51,49,51,50,51,51,51,52,51,53,51,54,51,55,51,56,51,57,52,48,52,49,52,50,52,51,52,52,52,53,52,54,52,55,52,56,52,57,53,48,53,49,53,50,53,51,53,52,53,53,53,54,53,55,53,56,53,57,54,48,54,49,54,50,54,51,54,52,54,53,54,54,54,55,54,56,54,57,55,48,55,49,55,50,55,51,55,52,55,53,55,54,55,55,55,56,55,57,56,48,56,49,56,50,56,51,56,52,56,53,56,54,56,55,56,56,56,57,57,48,57,49,57,50,57,51,57,52,57,53,57,54,57,55,57,56,57,57]⟩)) (.tmp 152),none⟩,192,0,true⟩,⟨⟨some 154,.mov (.tmp 16),none⟩,0,0,true⟩,⟨⟨some 155,.indexStr (.val (.str ⟨#[48,48,48,49,48,50,48,51,48,52,48,53,48,54,48,55,48,56,48,57,49,48,49,49,49,50,49,51,49,52,49,53,49,54,49,55,49,56,49,57,50,48,50,49,50,50,50,51,50,52,50,53,50,54,50,55,50,56,50,57,51,48,51,49,51,50,51,51,51,52,51,53,51,54,51,55,51,56,51,57,52,48,52,49,52,50,52,51,52,52,52,53,52,54,52,55,52,56,52,57,53,48,53,49,53,50,53,51,53,52,53,53,53,54,53,55,53,56,53,57,54,48,54,49,54,50,54,51,54,52,54,53,54,54,54,55,54,56,54,57,55,48,55,49,55,50,55,51,55,52,55,53,55,54,55,55,55,56,55,57,56,48,56,49,56,50,56,51,56,52,56,53,56,54,56,55,56,56,56,57,57,48,57,49,57,50,57,51,57,52,57,53,57,54,57,55,57,56,57,57]⟩)) (.tmp 154),none⟩,512,0,true⟩,⟨⟨some 156,.idxS 1 (.tmp 145) (.tmp 147),none⟩,455,0,true⟩,⟨⟨none,.store 1 (.tmp 156) (.tmp 153),none⟩,2503,2,false⟩,⟨⟨some 157,.idxS 1 (.tmp 148) (.tmp 150),none⟩,8191,0,true⟩,⟨⟨none,.store 1 (.tmp 157) (.tmp 155),none⟩,16383,2,false⟩]) (.region [⟨some 158,.mov (.tmp 4),none⟩,⟨some 159,.bin .sub (.tmp 158) (.val (.int .i64 2)),none⟩,⟨some 4,.mov (.tmp 159),none⟩])))) .skip)) (.seq (.region [⟨some 160,.mov (.tmp 4),none⟩,⟨some 161,.bin .gtr (.tmp 160) (.val (.int .i64 0)),none⟩]) (.cond (.tmp 161) (.region [⟨some 162,.mov (.tmp 0),none⟩,⟨some 163,.mov (.tmp 12),none⟩,⟨some 164,.bin .add (.val (.int .u32 48)) (.tmp 163),none⟩,⟨some 165,.convInt .u8 (.tmp 164),none⟩,⟨some 166,.idxS 1 (.tmp 162) (.val (.int .i64 0)),none⟩,⟨none,.store 1 (.tmp 166) (.tmp 165),none⟩]) .skip))))))),[]⟩
def c133 : RFunc := ⟨102,.code (.seq (.region [⟨some 10,.mov (.val .nslice),none⟩,⟨some 11,.mov (.val (.str ⟨#[]⟩)),none⟩]) (.seq (.seq (.region [⟨some 19,.mov (.tmp 2),none⟩,⟨some 20,.bin .lss (.tmp 19) (.val (.int .i64 2)),none⟩,⟨some 21,.mov (.tmp 20),none⟩,⟨some 22,.mov (.tmp 2),some (21,false)⟩,⟨some 23,.bin .eql (.tmp 22) (.val (.int .i64 10)),some (21,false)⟩,⟨some 24,.pick (.tmp 21) (.val (.bool true)) (.tmp 23),none⟩,⟨some 25,.mov (.tmp 24),none⟩,⟨some 26,.mov (.tmp 2),some (25,false)⟩,⟨some 27,.bin .gtr (.tmp 26) (.val (.int .i64 36)),some (25,false)⟩,⟨some 28,.pick (.tmp 25) (.val (.bool true)) (.tmp 27),none⟩]) (.cond (.tmp 28) .fail .skip)) (.seq (.region [⟨some 12,.new 169 [(.int .u8 0),(.int .u8 0),(.int .u8 0),(.int .u8 0),(.int .u8 0),(.int .u8 0),(.int .u8 0),(.int .u8 0),(.int .u8 0),(.int .u8 0),(.int .u8 0),(.int .u8 0),(.int .u8 0),(.int .u8 0),(.int .u8 0),(.int .u8 0),(.int .u8 0),(.int .u8 0),(.int .u8 0),(.int .u8 0),(.int .u8 0),(.int .u8 0),(.int .u8 0),(.int .u8 0),(.int .u8 0),(.int .u8 0),(.int .u8 0),(.int .u8 0),(.int .u8 0),(.int .u8 0),(.int .u8 0),(.int .u8 0),(.int .u8 0),(.int .u8 0),(.int .u8 0),(.int .u8 0),(.int .u8 0),(.int .u8 0),(.int .u8 0),(.int .u8 0),(.int .u8 0),(.int .u8 0),(.int .u8 0),(.int .u8 0),(.int .u8 0),(.int .u8 0),(.int .u8 0),(.int .u8 0),(.int .u8 0),(.int .u8 0),(.int .u8 0),(.int .u8 0),(.int .u8 0),(.int .u8 0),(.int .u8 0),(.int .u8 0),(.int .u8 0),(.int .u8 0),(.int .u8 0),(.int .u8 0),(.int .u8 0),(.int .u8 0),(.int .u8 0),(.int .u8 0),(.int .u8 0)],none⟩]) (.seq (.region [⟨some 13,.mov (.val (.int .i64 65)),none⟩]) (.seq (.seq (.region [⟨some 30,.mov (.tmp 3),none⟩]) (.cond (.tmp 30) (.region [⟨some 31,.mov (.tmp 1),none⟩,⟨some 32,.un .neg (.tmp 31),none⟩,⟨some 1,.mov (.tmp 32),none⟩]) .skip)) (.seq (.seq (.region [⟨some 33,.mov (.tmp 2),none⟩,⟨some 34,.call (.val (.func (.func 140) [] [])) [.tmp 33],none⟩]) (.cond (.tmp 34) (.seq (.region [⟨some 35,.mov (.tmp 2),none⟩,⟨some 36,.convInt .u64 (.tmp 35),none⟩,⟨some 37,.call (.val (.func (.func 141) [] [])) [.tmp 36],none⟩,⟨some 38,.convInt .u64 (.tmp 37),none⟩,⟨some 14,.mov (.tmp 38),none⟩]) (.seq (.region [⟨some 39,.mov (.tmp 2),none⟩,⟨some 40,.convInt .u64 (.tmp 39),none⟩,⟨some 15,.mov (.tmp 40),none⟩]) (.seq (.region [⟨some 41,.mov (.tmp 2),none⟩,⟨some 42,.convInt .u64 (.tmp 41),none⟩,⟨some 43,.bin .sub (.tmp 42) (.val (.int .u64 1)),none⟩,⟨some 16,.mov (.tmp 43),none⟩]) (.seq (.block 0 (.loop (.seq (.seq (.region [⟨some 44,.mov (.tmp 1),none⟩,⟨some 45,.mov (.tmp 15),none⟩,⟨some 46,.bin .geq (.tmp 44) (.tmp 45),none⟩]) (.cond (.tmp 46) .skip (.exit 0))) (.block 1 (.seq (.region [⟨some 47,.mov (.tmp 13),none⟩,⟨some 48,.bin .sub (.tmp 47) (.val (.int .i64 1)),none⟩,⟨some 13,.mov (.tmp 48),none⟩]) (.seq (.region [⟨some 49,.mov (.tmp 13),none⟩,⟨some 50,.mov (.tmp 1),none⟩,⟨some 51,.mov (.tmp 16),none⟩,⟨some 52,.bin .and (.tmp 50) (.tmp 51),none⟩,⟨some 53,.indexStr (.val (.str ⟨#[48,49,50,51,52,53,54,55,56,57,97,98,99,100,101,102,103,104,105,106,107,108,109,110,111,112,113,114,115,116,117,118,119,120,121,122]⟩)) (.tmp 52),none⟩,⟨some 54,.idxA 65 1 (.tmp 12) (.tmp 49),none⟩,⟨none,.store 1 (.tmp 54) (.tmp 53),none⟩]) (.region [⟨some 55,.mov (.tmp 1),none⟩,⟨some 56,.mov (.tmp 14),none⟩,⟨some 57,.bin .shr (.tmp 55) (.tmp 56),none⟩,⟨some 1,.mov (.tmp 57),none⟩]))))))) (.seq (.region [⟨some 58,.mov (.tmp 13),none⟩,⟨some 59,.bin .sub (.tmp 58) (.val (.int .i64 1)),none⟩,⟨some 13,.mov (.tmp 59),none⟩]) (.region [⟨some 60,.mov (.tmp 13),none⟩,⟨some 61,.mov (.tmp 1),none⟩,⟨some 62,.indexStr (.val (.str ⟨#[48,49,50,51,52,53,54,55,56,57,97,98,99,100,101,102,103,104,105,106,107,108,109,110,111,112,113,114,115,116,117,118,119,120,121,122]⟩)) (.tmp 61),none⟩,⟨some 63,.idxA 65 1 (.tmp 12) (.tmp 60),none⟩,⟨none,.store 1 (.tmp 63) (.tmp 62),none⟩])))))) (.seq (.region [⟨some 64,.mov (.tmp 2),none⟩,⟨some 65,.convInt .u64 (.tmp 64),none⟩,⟨some 17,.mov (.tmp 65),none⟩]) (.seq (.block 2 (.loop (.seq (.seq (.region [⟨some 66,.mov (.tmp 1),none⟩,⟨some 67,.mov (.tmp 17),none⟩,⟨some 68,.bin .geq (.tmp 66) (.tmp 67),none⟩]) (.cond (.tmp 68) .skip (.exit 2))) (.block 3 (.seq (.region [⟨some 69,.mov (.tmp 13),none⟩,⟨some 70,.bin .sub (.tmp 69) (.val (.int .i64 1)),none⟩,⟨some 13,.mov (.tmp 70),none⟩]) (.seq (.region [⟨some 71,.mov (.tmp 1),none⟩,⟨some 72,.mov (.tmp 17),none⟩,⟨some 73,.bin .quo (.tmp 71) (.tmp 72),none⟩,⟨some 18,.mov (.tmp 73),none⟩]) (.seq (.region [⟨some 74,.mov (.tmp 13),none⟩,⟨some 75,.mov (.tmp 1),none⟩,⟨some 76,.mov (.tmp 18),none⟩,⟨some 77,.mov (.tmp 17),none⟩,⟨some 78,.bin .mul (.tmp 76) (.tmp 77),none⟩,⟨some 79,.bin .sub (.tmp 75) (.tmp 78),none⟩,⟨some 80,.indexStr (.val (.str ⟨#[48,49,50,51,52,53,54,55,56,57,97,98,99,100,101,102,103,104,105,106,107,108,109,110,111,112,113,114,115,116,117,118,119,120,121,122]⟩)) (.tmp 79),none⟩,⟨some 81,.idxA 65 1 (.tmp 12) (.tmp 74),none⟩,⟨none,.store 1 (.tmp 81) (.tmp 80),none⟩]) (.region [⟨some 82,.mov (.tmp 18),none⟩,⟨some 1,.mov (.tmp 82),none⟩])))))))) (.seq (.region [⟨some 83,.mov (.tmp 13),none⟩,⟨some 84,.bin .sub (.tmp 83) (.val (.int .i64 1)),none⟩,⟨some 13,.mov (.tmp 84),none⟩]) (.region [⟨some 85,.mov (.tmp 13),none⟩,⟨some 86,.mov (.tmp 1),none⟩,⟨some 87,.indexStr (.val (.str ⟨#[48,49,50,51,52,53,54,55,56,57,97,98,99,100,101,102,103,104,105,106,107,108,109,110,111,112,113,114,115,116,117,118,119,120,121,122]⟩)) (.tmp 86),none⟩,⟨some 88,.idxA 65 1 (.tmp 12) (.tmp 85),none⟩,⟨none,.store 1 (.tmp 88) (.tmp 87),none⟩])))))) (.seq (.seq (.region [⟨some 89,.mov (.tmp 3),none⟩]) (.cond (.tmp 89) (.seq (.region [⟨some 90,.mov (.tmp 13),none⟩,⟨some 91,.bin .sub (.tmp 90) (.val (.int .i64 1)),none⟩,⟨some 13,.mov (.tmp 91),none⟩]) (.region [⟨some 92,.mov (.tmp 13),none⟩,⟨some 93,.idxA 65 1 (.tmp 12) (.tmp 92),none⟩,⟨none,.store 1 (.tmp 93) (.val (.int .u8 45)),none⟩])) .skip)) (.seq (.seq (.region [⟨some 94,.mov (.tmp 4),none⟩]) (.cond (.tmp 94) (.seq (.region [⟨some 95,.mov (.tmp 0),none⟩,⟨some 96,.mov (.tmp 13),none⟩,⟨some 97,.sliceArr 65 1 (.tmp 12) (some (.tmp 96)) none none,none⟩,⟨some 98,.append 5 1 1 (.tmp 95) (.tmp 97),none⟩,⟨some 10,.mov (.tmp 98),none⟩]) .ret) .skip)) (.seq (.region [⟨some 99,.mov (.tmp 13),none⟩,⟨some 100,.sliceArr 65 1 (.tmp 12) (some (.tmp 99)) none none,none⟩,⟨some 101,.bytesToStr (.tmp 100),none⟩,⟨some 11,.mov (.tmp 101),none⟩]) .ret))))))))),[.tmp 10,.tmp 11]⟩
def c134 : RFunc := ⟨172,.code (.seq (.region [⟨some 6,.mov (.val (.int .u64 0)),none⟩,⟨some 7,.mov (.val .niface),none⟩]) (.seq (.seq (.region [⟨some 18,.mov (.tmp 0),none⟩,⟨some 19,.bin .eql (.tmp 18) (.val (.str ⟨#[]⟩)),none⟩]) (.cond (.tmp 19) (.seq (.region [⟨some 20,.mkIface 149 (.val (.int .i64 2)),none⟩,⟨some 6,.mov (.val (.int .u64 0)),none⟩,⟨some 7,.mov (.tmp 20),none⟩]) .ret) .skip)) (.seq (.region [⟨some 21,.mov (.tmp 1),none⟩,⟨some 22,.bin .eql (.tmp 21) (.val (.int .i64 0)),none⟩,⟨some 8,.mov (.tmp 22),none⟩]) (.seq (.region [⟨some 23,.mov (.tmp 0),none⟩,⟨some 9,.mov (.tmp 23),none⟩]) (.seq (.block 0 (.seq (.region [⟨some 26,.mov (.tmp 1),none⟩,⟨some 27,.bin .leq (.val (.int .i64 2)) (.tmp 26),none⟩,⟨some 28,.mov (.tmp 27),none⟩,⟨some 29,.mov (.tmp 1),some (28,true)⟩,⟨some 30,.bin .leq (.tmp 29) (.val (.int .i64 36)),some (28,true)⟩,⟨some 31,.pick (.tmp 28) (.tmp 30) (.val (.bool false)),none⟩,⟨some 25,.mov (.tmp 31),none⟩]) (.cond (.tmp 25) .skip (.seq (.region [⟨some 33,.mov (.tmp 1),none⟩,⟨some 34,.bin .eql (.tmp 33) (.val (.int .i64 0)),none⟩,⟨some 32,.mov (.tmp 34),none⟩]) (.cond (.tmp 32) (.seq (.region [⟨some 1,.mov (.val (.int .i64 10)),none⟩]) (.seq (.region [⟨some 35,.mov (.tmp 0),none⟩,⟨some 36,.indexStr (.tmp 35) (.val (.int .i64 0)),none⟩,⟨some 37,.bin .eql (.tmp 36) (.val (.int .u8 48)),none⟩]) (.cond (.tmp 37) (.block 1 (.seq (.region [⟨some 41,.mov (.tmp 0),none⟩,⟨some 42,.lenStr (.tmp 41),none⟩,⟨some 43,.bin .geq (.tmp 42) (.val (.int .i64 3)),none⟩,⟨some 44,.mov (.tmp 43),none⟩,⟨some 45,.mov (.tmp 0),some (44,true)⟩,⟨some 46,.indexStr (.tmp 45) (.val (.int .i64 1)),some (44,true)⟩,⟨some 47,.call (.val (.func (.func 142) [] [])) [.tmp 46],some (44,true)⟩,⟨some 48,.bin .eql (.tmp 47) (.val (.int .u8 98)),some (44,true)⟩,⟨some 49,.pick (.tmp 44) (.tmp 48) (.val (.bool false)),none⟩,⟨some 40,.mov (.tmp 49),none⟩]) (.cond (.tmp 40) (.seq (.region [⟨some 1,.mov (.val (.int .i64 2)),none⟩]) (.region [⟨some 50,.mov (.tmp 0),none⟩,⟨some 51,.sliceStr (.tmp 50) (some (.val (.int .i64 2))) none,none⟩,⟨some 0,.mov (.tmp 51),none⟩])) (.seq (.region [⟨some 53,.mov (.tmp 0),none⟩,⟨some 54,.lenStr (.tmp 53),none⟩,⟨some 55,.bin .geq (.tmp 54) (.val (.int .i64 3)),none⟩,⟨some 56,.mov (.tmp 55),none⟩,⟨some 57,.mov (.tmp 0),some (56,true)⟩,⟨some 58,.indexStr (.tmp 57) (.val (.int .i64 1)),some (56,true)⟩,⟨some 59,.call (.val (.func (.func 142) [] [])) [.tmp 58],some (56,true)⟩,⟨some 60,.bin .eql (.tmp 59) (.val (.int .u8 111)),some (56,true)⟩,⟨some 61,.pick (.tmp 56) (.tmp 60) (.val (.bool false)),none⟩,⟨some 52,.mov (.tmp 61),none⟩]) (.cond (.tmp 52) (.seq (.region [⟨some 1,.mov (.val (.int .i64 8)),none⟩]) (.region [⟨some 62,.mov (.tmp 0),none⟩,⟨some 63,.sliceStr (.tmp 62) (some (.val (.int .i64 2))) none,none⟩,⟨some 0,.mov (.tmp 63),none⟩])) (.seq (.region [⟨some 65,.mov (.tmp 0),none⟩,⟨some 66,.lenStr (.tmp 65),none⟩,⟨some 67,.bin .geq (.tmp 66) (.val (.int .i64 3)),none⟩,⟨some 68,.mov (.tmp 67),none⟩,⟨some 69,.mov (.tmp 0),some (68,true)⟩,⟨some 70,.indexStr (.tmp 69) (.val (.int .i64 1)),some (68,true)⟩,⟨some 71,.call (.val (.func (.func 142) [] [])) [.tmp 70],some (68,true)⟩,⟨some 72,.bin .eql (.tmp 71) (.val (.int .u8 120)),some (68,true)⟩,⟨some 73,.pick (.tmp 68) (.tmp 72) (.val (.bool false)),none⟩,⟨some 64,.mov (.tmp 73),none⟩]) (.cond (.tmp 64) (.seq (.region [⟨some 1,.mov (.val (.int .i64 16)),none⟩]) (.region [⟨some 74,.mov (.tmp 0),none⟩,⟨some 75,.sliceStr (.tmp 74) (some (.val (.int .i64 2))) none,none⟩,⟨some 0,.mov (.tmp 75),none⟩])) (.seq (.region [⟨some 1,.mov (.val (.int .i64 8)),none⟩]) (.region [⟨some 38,.mov (.tmp 0),none⟩,⟨some 39,.sliceStr (.tmp 38) (some (.val (.int .i64 1))) none,none⟩,⟨some 0,.mov (.tmp 39),none⟩]))))))))) .skip))) (.seq (.region [⟨some 24,.mkIface 149 (.val (.int .i64 3)),none⟩,⟨some 6,.mov (.val (.int .u64 0)),none⟩,⟨some 7,.mov (.tmp 24),none⟩]) .ret)))))) (.seq (.seq (.region [⟨some 76,.mov (.tmp 2),none⟩,⟨some 77,.bin .eql (.tmp 76) (.val (.int .i64 0)),none⟩]) (.cond (.tmp 77) (.region [⟨some 2,.mov (.val (.int .i64 64)),none⟩]) (.seq (.region [⟨some 78,.mov (.tmp 2),none⟩,⟨some 79,.bin .lss (.tmp 78) (.val (.int .i64 0)),none⟩,⟨some 80,.mov (.tmp 79),none⟩,⟨some 81,.mov (.tmp 2),some (80,false)⟩,⟨some 82,.bin .gtr (.tmp 81) (.val (.int .i64 64)),some (80,false)⟩,⟨some 83,.pick (.tmp 80) (.val (.bool true)) (.tmp 82),none⟩]) (.cond (.tmp 83) (.seq (.region [⟨some 84,.mkIface 149 (.val (.int .i64 4)),none⟩,⟨some 6,.mov (.val (.int .u64 0)),none⟩,⟨some 7,.mov (.tmp 84),none⟩]) .ret) .skip)))) (.seq (.region [⟨some 10,.mov (.val (.int .u64 0)),none⟩]) (.seq (.seq (.region [⟨some 85,.mov (.tmp 1),none⟩]) (.block 2 (.seq (.region [⟨some 91,.bin .eql (.tmp 85) (.val (.int .i64 10)),none⟩,⟨some 90,.mov (.tmp 91),none⟩]) (.cond (.tmp 90) (.region [⟨some 10,.mov (.val (.int .u64 1844674407370955162)),none⟩]) (.seq (.region [⟨some 93,.bin .eql (.tmp 85) (.val (.int .i64 16)),none⟩,⟨some 92,.mov (.tmp 93),none⟩]) (.cond (.tmp 92) (.region [⟨some 10,.mov (.val (.int .u64 1152921504606846976)),none⟩]) (.region [⟨some 86,.mov (.tmp 1),none⟩,⟨some 87,.convInt .u64 (.tmp 86),none⟩,⟨some 88,.bin .quo (.val (.int .u64 18446744073709551615)) (.tmp 87),none⟩,⟨some 89,.bin .add (.tmp 88) (.val (.int .u64 1)),none⟩,⟨some 10,.mov (.tmp 89),none⟩]))))))) (.seq (.region [⟨some 94,.mov (.tmp 2),none⟩,⟨some 95,.convInt .u64 (.tmp 94),none⟩,⟨some 96,.bin .shl (.val (.int .u64 1)) (.tmp 95),none⟩,⟨some 97,.bin .sub (.tmp 96) (.val (.int .u64 1)),none⟩,⟨some 11,.mov (.tmp 97),none⟩]) (.seq (.region [⟨some 12,.mov (.val (.bool false)),none⟩]) (.seq (.region [⟨some 13,.mov (.val (.int .u64 0)),none⟩]) (.seq (.seq (.region [⟨some 98,.mov (.tmp 0),none⟩,⟨some 99,.strToBytes 5 (.tmp 98),none⟩,⟨some 100,.lenS (.tmp 99),none⟩,⟨some 101,.mov (.val (.int .i64 0)),none⟩]) (.block 3 (.loop (.seq (.region [⟨some 102,.bin .lss (.tmp 101) (.tmp 100),none⟩]) (.seq (.cond (.tmp 102) .skip (.exit 3)) (.seq (.block 4 (.seq (.region [⟨some 103,.idxS 1 (.tmp 99) (.tmp 101),none⟩,⟨some 104,.load none (.tmp 103),none⟩,⟨some 15,.mov (.tmp 104),none⟩]) (.seq (.region [⟨some 16,.mov (.val (.int .u8 0)),none⟩]) (.seq (.block 5 (.seq (.region [⟨some 107,.mov (.tmp 15),none⟩,⟨some 108,.bin .eql (.tmp 107) (.val (.int .u8 95)),none⟩,⟨some 109,.mov (.tmp 108),none⟩,⟨some 110,.mov (.tmp 8),some (109,true)⟩,⟨some 111,.pick (.tmp 109) (.tmp 110) (.val (.bool false)),none⟩,⟨some 106,.mov (.tmp 111),none⟩]) (.cond (.tmp 106) (.seq (.region [⟨some 12,.mov (.val (.bool true)),none⟩]) (.exit 4)) (.seq (.region [⟨some 113,.mov (.tmp 15),none⟩,⟨some 114,.bin .leq (.val (.int .u8 48)) (.tmp 113),none⟩,⟨some 115,.mov (.tmp 114),none⟩,⟨some 116,.mov (.tmp 15),some (115,true)⟩,⟨some 117,.bin .leq (.tmp 116) (.val (.int .u8 57)),some (115,true)⟩,⟨some 118,.pick (.tmp 115) (.tmp 117) (.val (.bool false)),none⟩,⟨some 112,.mov (.tmp 118),none⟩]) (.cond (.tmp 112) (.region [⟨some 119,.mov (.tmp 15),none⟩,⟨some 120,.bin .sub (.tmp 119) (.val (.int .u8 48)),none⟩,⟨some 16,.mov (.tmp 120),none⟩]) (.seq (.region [⟨some 122,.mov (.tmp 15),none⟩,⟨some 123,.call (.val (.func (.func 142) [] [])) [.tmp 122],none⟩,⟨some 124,.bin .leq (.val (.int .u8 97)) (.tmp 123),none⟩,⟨some 125,.mov (.tmp 124),none⟩,⟨some 126,.mov (.tmp 15),some (125,true)⟩,⟨some 127,.call (.val (.func (.func 142) [] [])) [.tmp 126],some (125,true)⟩,⟨some 128,.bin .leq (.tmp 127) (.val (.int .u8 122)),some (125,true)⟩,⟨some 129,.pick (.tmp 125) (.tmp 128) (.val (.bool false)),none⟩,⟨some 121,.mov (.tmp 129),none⟩]) (.cond (.tmp 121) (.region [⟨some 130,.mov (.tmp 15),none⟩,⟨some 131,.call (.val (.func (.func 142) [] [])) [.tmp 130],none⟩,⟨some 132,.bin .sub (.tmp 131) (.val (.int .u8 97)),none⟩,⟨some 133,.bin .add (.tmp 132) (.val (.int .u8 10)),none⟩,⟨some 16,.mov (.tmp 133),none⟩]) (.seq (.region [⟨some 105,.mkIface 149 (.val (.int .i64 2)),none⟩,⟨some 6,.mov (.val (.int .u64 0)),none⟩,⟨some 7,.mov (.tmp 105),none⟩]) .ret)))))))) (.seq (.seq (.region [⟨some 134,.mov (.tmp 16),none⟩,⟨some 135,.mov (.tmp 1),none⟩,⟨some 136,.convInt .u8 (.tmp 135),none⟩,⟨some 137,.bin .geq (.tmp 134) (.tmp 136),none⟩]) (.cond (.tmp 137) (.seq (.region [⟨some 138,.mkIface 149 (.val (.int .i64 2)),none⟩,⟨some 6,.mov (.val (.int .u64 0)),none⟩,⟨some 7,.mov (.tmp 138),none⟩]) .ret) .skip)) (.seq (.seq (.region [⟨some 139,.mov (.tmp 13),none⟩,⟨some 140,.mov (.tmp 10),none⟩,⟨some 141,.bin .geq (.tmp 139) (.tmp 140),none⟩]) (.cond (.tmp 141) (.seq (.region [⟨some 142,.mov (.tmp 11),none⟩,⟨some 143,.mkIface 149 (.val (.int .i64 1)),none⟩,⟨some 6,.mov (.tmp 142),none⟩,⟨some 7,.mov (.tmp 143),none⟩]) .ret) .skip)) (.seq (.region [⟨some 144,.mov (.tmp 13),none⟩,⟨some 145,.mov (.tmp 1),none⟩,⟨some 146,.convInt .u64 (.tmp 145),none⟩,⟨some 147,.bin .mul (.tmp 144) (.tmp 146),none⟩,⟨some 13,.mov (.tmp 147),none⟩]) (.seq (.region [⟨some 148,.mov (.tmp 13),none⟩,⟨some 149,.mov (.tmp 16),none⟩,⟨some 150,.convInt .u64 (.tmp 149),none⟩,⟨some 151,.bin .add (.tmp 148) (.tmp 150),none⟩,⟨some 17,.mov (.tmp 151),none⟩]) (.seq (.seq (.region [⟨some 152,.mov (.tmp 17),none⟩,⟨some 153,.mov (.tmp 13),none⟩,⟨some 154,.bin .lss (.tmp 152) (.tmp 153),none⟩,⟨some 155,.mov (.tmp 154),none⟩,⟨some 156,.mov (.tmp 17),some (155,false)⟩,⟨some 157,.mov (.tmp 11),some (155,false)⟩,⟨some 158,.bin .gtr (.tmp 156) (.tmp 157),some (155,false)⟩,⟨some 159,.pick (.tmp 155) (.val (.bool true)) (.tmp 158),none⟩]) (.cond (.tmp 159) (.seq (.region [⟨some 160,.mov (.tmp 11),none⟩,⟨some 161,.mkIface 149 (.val (.int .i64 1)),none⟩,⟨some 6,.mov (.tmp 160),none⟩,⟨some 7,.mov (.tmp 161),none⟩]) .ret) .skip)) (.region [⟨some 162,.mov (.tmp 17),none⟩,⟨some 13,.mov (.tmp 162),none⟩])))))))))) (.region [⟨some 163,.bin .add (.tmp 101) (.val (.int .i64 1)),none⟩,⟨some 101,.mov (.tmp 163),none⟩]))))))) (.seq (.seq (.region [⟨some 164,.mov (.tmp 12),none⟩,⟨some 165,.mov (.tmp 164),none⟩,⟨some 166,.mov (.tmp 9),some (165,true)⟩,⟨some 167,.call (.val (.func (.func 143) [] [])) [.tmp 166],some (165,true)⟩,⟨some 168,.un .not (.tmp 167),some (165,true)⟩,⟨some 169,.pick (.tmp 165) (.tmp 168) (.val (.bool false)),none⟩]) (.cond (.tmp 169) (.seq (.region [⟨some 170,.mkIface 149 (.val (.int .i64 2)),none⟩,⟨some 6,.mov (.val (.int .u64 0)),none⟩,⟨some 7,.mov (.tmp 170),none⟩]) .ret) .skip)) (.seq (.region [⟨some 171,.mov (.tmp 13),none⟩,⟨some 6,.mov (.tmp 171),none⟩,⟨some 7,.mov (.val .niface),none⟩]) .ret)))))))))))))),[.tmp 6,.tmp 7]⟩
def c135 : RFunc := ⟨18,.code (.seq (.region [⟨some 2,.mov (.val (.str ⟨#[]⟩)),none⟩]) (.seq (.seq (.region [⟨some 4,.mov (.tmp 0),none⟩,⟨some 5,.lenStr (.tmp 4),none⟩,⟨some 6,.bin .eql (.tmp 5) (.val (.int .i64 0)),none⟩]) (.cond (.tmp 6) (.seq (.region [⟨some 2,.mov (.val (.str ⟨#[]⟩)),none⟩]) .ret) .skip)) (.seq (.region [⟨some 7,.mov (.tmp 0),none⟩,⟨some 8,.lenStr (.tmp 7),none⟩,⟨some 9,.makeSlice 5 [(.int .u8 0)] 1 (.tmp 8) (.tmp 8),none⟩,⟨some 3,.mov (.tmp 9),none⟩]) (.seq (.region [⟨some 10,.mov (.tmp 3),none⟩,⟨some 11,.mov (.tmp 0),none⟩,⟨some 12,.copy 1 (.tmp 10) (.tmp 11),none⟩]) (.seq (.region [⟨some 13,.mov (.tmp 3),none⟩,⟨some 14,.idxS 1 (.tmp 13) (.val (.int .i64 0)),none⟩,⟨some 15,.mov (.tmp 3),none⟩,⟨some 16,.lenS (.tmp 15),none⟩,⟨some 17,.unsafeStr 5 (.tmp 14) (.tmp 16),none⟩,⟨some 2,.mov (.tmp 17),none⟩]) .ret))))),[.tmp 2]⟩
def c136 : RFunc := ⟨7,.code (.seq (.region [⟨some 2,.mov (.val .niface),none⟩]) (.seq (.region [⟨some 3,.mov (.tmp 0),none⟩,⟨some 4,.build [(.str ⟨#[]⟩)] [(0,1,(.tmp 3))],none⟩,⟨some 5,.box 175 (.tmp 4),none⟩,⟨some 6,.mkIface 173 (.tmp 5),none⟩,⟨some 2,.mov (.tmp 6),none⟩]) .ret)),[.tmp 2]⟩
def c137 : RFunc := ⟨6,.code (.seq (.region [⟨some 2,.mov (.val (.int .i64 0)),none⟩]) (.seq (.region [⟨some 3,.mov (.tmp 0),none⟩,⟨some 4,.bin .mul (.tmp 3) (.val (.int .i64 78913)),none⟩,⟨some 5,.bin .shr (.tmp 4) (.val (.int .u64 18)),none⟩,⟨some 2,.mov (.tmp 5),none⟩]) .ret)),[.tmp 2]⟩
def c138 : RFunc := ⟨25,.code (.seq (.region [⟨some 2,.mov (.val (.int .i64 0)),none⟩]) (.seq (.seq (.region [⟨some 3,.mov (.tmp 0),none⟩,⟨some 4,.bin .geq (.tmp 3) (.val (.int .u64 4294967296)),none⟩]) (.cond (.tmp 4) (.seq (.region [⟨some 5,.mov (.tmp 0),none⟩,⟨some 6,.bin .shr (.tmp 5) (.val (.int .u64 32)),none⟩,⟨some 0,.mov (.tmp 6),none⟩]) (.region [⟨some 2,.mov (.val (.int .i64 32)),none⟩])) .skip)) (.seq (.seq (.region [⟨some 7,.mov (.tmp 0),none⟩,⟨some 8,.bin .geq (.tmp 7) (.val (.int .u64 65536)),none⟩]) (.cond (.tmp 8) (.seq (.region [⟨some 9,.mov (.tmp 0),none⟩,⟨some 10,.bin .shr (.tmp 9) (.val (.int .u64 16)),none⟩,⟨some 0,.mov (.tmp 10),none⟩]) (.region [⟨some 11,.mov (.tmp 2),none⟩,⟨some 12,.bin .add (.tmp 11) (.val (.int .i64 16)),none⟩,⟨some 2,.mov (.tmp 12),none⟩])) .skip)) (.seq (.seq (.region [⟨some 13,.mov (.tmp 0),none⟩,⟨some 14,.bin .geq (.tmp 13) (.val (.int .u64 256)),none⟩]) (.cond (.tmp 14) (.seq (.region [⟨some 15,.mov (.tmp 0),none⟩,⟨some 16,.bin .shr (.tmp 15) (.val (.int .u64 8)),none⟩,⟨some 0,.mov (.tmp 16),none⟩]) (.region [⟨some 17,.mov (.tmp 2),none⟩,⟨some 18,.bin .add (.tmp 17) (.val (.int .i64 8)),none⟩,⟨some 2,.mov (.tmp 18),none⟩])) .skip)) (.seq (.region [⟨some 19,.mov (.tmp 2),none⟩,⟨some 20,.mov (.tmp 0),none⟩,⟨some 21,.convInt .u8 (.tmp 20),none⟩,⟨some 22,.indexStr (.val (.str ⟨#[0,1,2,2,3,3,3,3,4,4,4,4,4,4,4,4,5,5,5,5,5,5,5,5,5,5,5,5,5,5,5,5,6,6,6,6,6,6,6,6,6,6,6,6,6,6,6,6,6,6,6,6,6,6,6,6,6,6,6,6,6,6,6,6,7,7,7,7,7,7,7,7,7,7,7,7,7,7,7,7,7,7,7,7,7,7,7,7,7,7,7,7,7,7,7,7,7,7,7,7,7,7,7,7,7,7,7,7,7,7,7,7,7,7,7,7,7,7,7,7,7,7,7,7,7,7,7,7,8,8,8,8,8,8,8,8,8,8,8,8,8,8,8,8,8,8,8,8,8,8,8,8,8,8,8,8,8,8,8,8,8,8,8,8,8,8,8,8,8,8,8,8,8,8,8,8,8,8,8,8,8,8,8,8,8,8,8,8,8,8,8,8,8,8,8,8,8,8,8,8,8,8,8,8,8,8,8,8,8,8,8,8,8,8,8,8,8,8,8,8,8,8,8,8,8,8,8,8,8,8,8,8,8,8,8,8,8,8,8,8,8,8,8,8,8,8,8,8,8,8,8,8,8,8,8,8]⟩)) (.tmp 21),none⟩,⟨some 23,.convInt .i64 (.tmp 22),none⟩,⟨some 24,.bin .add (.tmp 19) (.tmp 23),none⟩,⟨some 2,.mov (.tmp 24),none⟩]) .ret))))),[.tmp 2]⟩
def c139 : RFunc := ⟨4,.code (.seq (.region [⟨some 2,.mov (.val (.int .i64 0)),none⟩]) (.seq (.seq (.region [⟨some 3,.mov (.tmp 0),none⟩]) (.cond (.tmp 3) (.seq (.region [⟨some 2,.mov (.val (.int .i64 1)),none⟩]) .ret) .skip)) (.seq (.region [⟨some 2,.mov (.val (.int .i64 0)),none⟩]) .ret))),[.tmp 2]⟩
def c140 : RFunc := ⟨8,.code (.seq (.region [⟨some 2,.mov (.val (.bool false)),none⟩]) (.seq (.region [⟨some 3,.mov (.tmp 0),none⟩,⟨some 4,.mov (.tmp 0),none⟩,⟨some 5,.bin .sub (.tmp 4) (.val (.int .i64 1)),none⟩,⟨some 6,.bin .and (.tmp 3) (.tmp 5),none⟩,⟨some 7,.bin .eql (.tmp 6) (.val (.int .i64 0)),none⟩,⟨some 2,.mov (.tmp 7),none⟩]) .ret)),[.tmp 2]⟩
def c141 : RFunc := ⟨8,.code (.seq (.region [⟨some 2,.mov (.val (.int .i64 0)),none⟩]) (.seq (.cond (.val (.bool false)) (.seq (.region [⟨some 3,.mov (.tmp 0),none⟩,⟨some 4,.convInt .u32 (.tmp 3),none⟩,⟨some 5,.call (.val (.func (.func 144) [] [])) [.tmp 4],none⟩,⟨some 2,.mov (.tmp 5),none⟩]) .ret) .skip) (.seq (.region [⟨some 6,.mov (.tmp 0),none⟩,⟨some 7,.call (.val (.func (.func 145) [] [])) [.tmp 6],none⟩,⟨some 2,.mov (.tmp 7),none⟩]) .ret))),[.tmp 2]⟩
def c142 : RFunc := ⟨5,.code (.seq (.region [⟨some 2,.mov (.val (.int .u8 0)),none⟩]) (.seq (.region [⟨some 3,.mov (.tmp 0),none⟩,⟨some 4,.bin .or (.tmp 3) (.val (.int .u8 32)),none⟩,⟨some 2,.mov (.tmp 4),none⟩]) .ret)),[.tmp 2]⟩
def c143 : RFunc := ⟨94,.code (.seq (.region [⟨some 2,.mov (.val (.bool false)),none⟩]) (.seq (.region [⟨some 3,.mov (.val (.int .i32 94)),none⟩]) (.seq (.region [⟨some 4,.mov (.val (.int .i64 0)),none⟩]) (.seq (.seq (.region [⟨some 6,.mov (.tmp 0),none⟩,⟨some 7,.lenStr (.tmp 6),none⟩,⟨some 8,.bin .geq (.tmp 7) (.val (.int .i64 1)),none⟩,⟨some 9,.mov (.tmp 8),none⟩,⟨some 10,.mov (.tmp 0),some (9,true)⟩,⟨some 11,.indexStr (.tmp 10) (.val (.int .i64 0)),some (9,true)⟩,⟨some 12,.bin .eql (.tmp 11) (.val (.int .u8 45)),some (9,true)⟩,⟨some 13,.mov (.tmp 12),some (9,true)⟩,⟨some 14,.mov (.tmp 0),some (13,false)⟩,⟨some 15,.indexStr (.tmp 14) (.val (.int .i64 0)),some (13,false)⟩,⟨some 16,.bin .eql (.tmp 15) (.val (.int .u8 43)),some (13,false)⟩,⟨some 17,.pick (.tmp 13) (.val (.bool true)) (.tmp 16),some (9,true)⟩,⟨some 18,.pick (.tmp 9) (.tmp 17) (.val (.bool false)),none⟩]) (.cond (.tmp 18) (.region [⟨some 19,.mov (.tmp 0),none⟩,⟨some 20,.sliceStr (.tmp 19) (some (.val (.int .i64 1))) none,none⟩,⟨some 0,.mov (.tmp 20),none⟩]) .skip)) (.seq (.region [⟨some 5,.mov (.val (.bool false)),none⟩]) (.seq (.seq (.region [⟨some 21,.mov (.tmp 0),none⟩,⟨some 22,.lenStr (.tmp 21),none⟩,⟨some 23,.bin .geq (.tmp 22) (.val (.int .i64 2)),none⟩,⟨some 24,.mov (.tmp 23),none⟩,⟨some 25,.mov (.tmp 0),some (24,true)⟩,⟨some 26,.indexStr (.tmp 25) (.val (.int .i64 0)),some (24,true)⟩,⟨some 27,.bin .eql (.tmp 26) (.val (.int .u8 48)),some (24,true)⟩,⟨some 28,.pick (.tmp 24) (.tmp 27) (.val (.bool false)),none⟩,⟨some 29,.mov (.tmp 28),none⟩,⟨some 30,.mov (.tmp 0),some (29,true)⟩,⟨some 31,.indexStr (.tmp 30) (.val (.int .i64 1)),some (29,true)⟩,⟨some 32,.call (.val (.func (.func 142) [] [])) [.tmp 31],some (29,true)⟩,⟨some 33,.bin .eql (.tmp 32) (.val (.int .u8 98)),some (29,true)⟩,⟨some 34,.mov (.tmp 33),some (29,true)⟩,⟨some 35,.mov (.tmp 0),some (34,false)⟩,⟨some 36,.indexStr (.tmp 35) (.val (.int .i64 1)),some (34,false)⟩,⟨some 37,.call (.val (.func (.func 142) [] [])) [.tmp 36],some (34,false)⟩,⟨some 38,.bin .eql (.tmp 37) (.val (.int .u8 111)),some (34,false)⟩,⟨some 39,.pick (.tmp 34) (.val (.bool true)) (.tmp 38),some (29,true)⟩,⟨some 40,.mov (.tmp 39),some (29,true)⟩,⟨some 41,.mov (.tmp 0),some (40,false)⟩,⟨some 42,.indexStr (.tmp 41) (.val (.int .i64 1)),some (40,false)⟩,⟨some 43,.call (.val (.func (.func 142) [] [])) [.tmp 42],some (40,false)⟩,⟨some 44,.bin .eql (.tmp 43) (.val (.int .u8 120)),some (40,false)⟩,⟨some 45,.pick (.tmp 40) (.val (.bool true)) (.tmp 44),some (29,true)⟩,⟨some 46,.pick (.tmp 29) (.tmp 45) (.val (.bool false)),none⟩]) (.cond (.tmp 46) (.seq (.region [⟨some 4,.mov (.val (.int .i64 2)),none⟩]) (.seq (.region [⟨some 3,.mov (.val (.int .i32 48)),none⟩]) (.region [⟨some 47,.mov (.tmp 0),none⟩,⟨some 48,.indexStr (.tmp 47) (.val (.int .i64 1)),none⟩,⟨some 49,.call (.val (.func (.func 142) [] [])) [.tmp 48],none⟩,⟨some 50,.bin .eql (.tmp 49) (.val (.int .u8 120)),none⟩,⟨some 5,.mov (.tmp 50),none⟩]))) .skip)) (.seq (.block 0 (.loop (.seq (.seq (.region [⟨some 51,.mov (.tmp 4),none⟩,⟨some 52,.mov (.tmp 0),none⟩,⟨some 53,.lenStr (.tmp 52),none⟩,⟨some 54,.bin .lss (.tmp 51) (.tmp 53),none⟩]) (.cond (.tmp 54) .skip (.exit 0))) (.seq (.block 1 (.seq (.seq (.region [⟨some 57,.mov (.tmp 0),none⟩,⟨some 58,.mov (.tmp 4),none⟩,⟨some 59,.indexStr (.tmp 57) (.tmp 58),none⟩,⟨some 60,.bin .leq (.val (.int .u8 48)) (.tmp 59),none⟩,⟨some 61,.mov (.tmp 60),none⟩,⟨some 62,.mov (.tmp 0),some (61,true)⟩,⟨some 63,.mov (.tmp 4),some (61,true)⟩,⟨some 64,.indexStr (.tmp 62) (.tmp 63),some (61,true)⟩,⟨some 65,.bin .leq (.tmp 64) (.val (.int .u8 57)),some (61,true)⟩,⟨some 66,.pick (.tmp 61) (.tmp 65) (.val (.bool false)),none⟩,⟨some 67,.mov (.tmp 66),none⟩,⟨some 68,.mov (.tmp 5),some (67,false)⟩,⟨some 69,.mov (.tmp 68),some (67,false)⟩,⟨some 70,.mov (.tmp 0),some (69,true)⟩,⟨some 71,.mov (.tmp 4),some (69,true)⟩,⟨some 72,.indexStr (.tmp 70) (.tmp 71),some (69,true)⟩,⟨some 73,.call (.val (.func (.func 142) [] [])) [.tmp 72],some (69,true)⟩,⟨some 74,.bin .leq (.val (.int .u8 97)) (.tmp 73),some (69,true)⟩,⟨some 75,.pick (.tmp 69) (.tmp 74) (.val (.bool false)),some (67,false)⟩,⟨some 76,.mov (.tmp 75),some (67,false)⟩,⟨some 77,.mov (.tmp 0),some (76,true)⟩,⟨some 78,.mov (.tmp 4),some (76,true)⟩,⟨some 79,.indexStr (.tmp 77) (.tmp 78),some (76,true)⟩,⟨some 80,.call (.val (.func (.func 142) [] [])) [.tmp 79],some (76,true)⟩,⟨some 81,.bin .leq (.tmp 80) (.val (.int .u8 102)),some (76,true)⟩,⟨some 82,.pick (.tmp 76) (.tmp 81) (.val (.bool false)),some (67,false)⟩,⟨some 83,.pick (.tmp 67) (.val (.bool true)) (.tmp 82),none⟩]) (.cond (.tmp 83) (.seq (.region [⟨some 3,.mov (.val (.int .i32 48)),none⟩]) (.exit 1)) .skip)) (.seq (.seq (.region [⟨some 84,.mov (.tmp 0),none⟩,⟨some 85,.mov (.tmp 4),none⟩,⟨some 86,.indexStr (.tmp 84) (.tmp 85),none⟩,⟨some 87,.bin .eql (.tmp 86) (.val (.int .u8 95)),none⟩]) (.cond (.tmp 87) (.seq (.seq (.region [⟨some 88,.mov (.tmp 3),none⟩,⟨some 89,.bin .neq (.tmp 88) (.val (.int .i32 48)),none⟩]) (.cond (.tmp 89) (.seq (.region [⟨some 2,.mov (.val (.bool false)),none⟩]) .ret) .skip)) (.seq (.region [⟨some 3,.mov (.val (.int .i32 95)),none⟩]) (.exit 1))) .skip)) (.seq (.seq (.region [⟨some 90,.mov (.tmp 3),none⟩,⟨some 91,.bin .eql (.tmp 90) (.val (.int .i32 95)),none⟩]) (.cond (.tmp 91) (.seq (.region [⟨some 2,.mov (.val (.bool false)),none⟩]) .ret) .skip)) (.region [⟨some 3,.mov (.val (.int .i32 33)),none⟩]))))) (.region [⟨some 55,.mov (.tmp 4),none⟩,⟨some 56,.bin .add (.tmp 55) (.val (.int .i64 1)),none⟩,⟨some 4,.mov (.tmp 56),none⟩]))))) (.seq (.region [⟨some 92,.mov (.tmp 3),none⟩,⟨some 93,.bin .neq (.tmp 92) (.val (.int .i32 95)),none⟩,⟨some 2,.mov (.tmp 93),none⟩]) .ret)))))))),[.tmp 2]⟩
def c144 : RFunc := ⟨14,.code (.seq (.region [⟨some 2,.mov (.val (.int .i64 0)),none⟩]) (.seq (.seq (.region [⟨some 3,.mov (.tmp 0),none⟩,⟨some 4,.bin .eql (.tmp 3) (.val (.int .u32 0)),none⟩]) (.cond (.tmp 4) (.seq (.region [⟨some 2,.mov (.val (.int .i64 32)),none⟩]) .ret) .skip)) (.seq (.region [⟨some 5,.mov (.tmp 0),none⟩,⟨some 6,.mov (.tmp 0),none⟩,⟨some 7,.un .neg (.tmp 6),none⟩,⟨some 8,.bin .and (.tmp 5) (.tmp 7),none⟩,⟨some 9,.bin .mul (.tmp 8) (.val (.int .u32 125613361)),none⟩,⟨some 10,.bin .shr (.tmp 9) (.val (.int .u64 27)),none⟩,⟨some 11,.idxA 32 1 (.val (.ptr 4 0)) (.tmp 10),none⟩,⟨some 12,.load none (.tmp 11),none⟩,⟨some 13,.convInt .i64 (.tmp 12),none⟩,⟨some 2,.mov (.tmp 13),none⟩]) .ret))),[.tmp 2]⟩
def c145 : RFunc := ⟨14,.code (.seq (.region [⟨some 2,.mov (.val (.int .i64 0)),none⟩]) (.seq (.seq (.region [⟨some 3,.mov (.tmp 0),none⟩,⟨some 4,.bin .eql (.tmp 3) (.val (.int .u64 0)),none⟩]) (.cond (.tmp 4) (.seq (.region [⟨some 2,.mov (.val (.int .i64 64)),none⟩]) .ret) .skip)) (.seq (.region [⟨some 5,.mov (.tmp 0),none⟩,⟨some 6,.mov (.tmp 0),none⟩,⟨some 7,.un .neg (.tmp 6),none⟩,⟨some 8,.bin .and (.tmp 5) (.tmp 7),none⟩,⟨some 9,.bin .mul (.tmp 8) (.val (.int .u64 285870213051353865)),none⟩,⟨some 10,.bin .shr (.tmp 9) (.val (.int .u64 58)),none⟩,⟨some 11,.idxA 64 1 (.val (.ptr 5 0)) (.tmp 10),none⟩,⟨some 12,.load none (.tmp 11),none⟩,⟨some 13,.convInt .i64 (.tmp 12),none⟩,⟨some 2,.mov (.tmp 13),none⟩]) .ret))),[.tmp 2]⟩
def aroundT : List (Nat × List AVal) := []
def ext : Exts := fun k args => match k with
  | 0 => aCount args
  | 1 => aIndexByte args
  | 2 => aSelf args
  | 3 => aClosed aroundT (.bool true) args
  | _ => M.fail
def prog0 : FuncId → Option RFunc := fun f => (cond (Nat.blt f 95) (cond (Nat.blt f 59) (cond (Nat.blt f 40) (cond (Nat.blt f 25) (cond (Nat.blt f 16) (cond (Nat.beq f 15) (some c15) none) (cond (Nat.beq f 16) (some c16) none)) (cond (Nat.blt f 33) (cond (Nat.beq f 25) (some c25) none) (cond (Nat.blt f 39) (cond (Nat.beq f 33) (some c33) none) (cond (Nat.beq f 39) (some c39) none)))) (cond (Nat.blt f 44) (cond (Nat.blt f 42) (cond (Nat.beq f 40) (some c40) none) (cond (Nat.blt f 43) (cond (Nat.beq f 42) (some c42) none) (cond (Nat.beq f 43) (some c43) none))) (cond (Nat.blt f 49) (cond (Nat.beq f 44) (some c44) none) (cond (Nat.blt f 56) (cond (Nat.beq f 49) (some c49) none) (cond (Nat.beq f 56) (some c56) none))))) (cond (Nat.blt f 89) (cond (Nat.blt f 82) (cond (Nat.blt f 63) (cond (Nat.beq f 59) (some c59) none) (cond (Nat.blt f 64) (cond (Nat.beq f 63) (some c63) none) (cond (Nat.beq f 64) (some c64) none))) (cond (Nat.blt f 83) (cond (Nat.beq f 82) (some c82) none) (cond (Nat.blt f 87) (cond (Nat.beq f 83) (some c83) none) (cond (Nat.beq f 87) (some c87) none)))) (cond (Nat.blt f 92) (cond (Nat.blt f 90) (cond (Nat.beq f 89) (some c89) none) (cond (Nat.blt f 91) (cond (Nat.beq f 90) (some c90) none) (cond (Nat.beq f 91) (some c91) none))) (cond (Nat.blt f 93) (cond (Nat.beq f 92) (some c92) none) (cond (Nat.blt f 94) (cond (Nat.beq f 93) (some c93) none) (cond (Nat.beq f 94) (some c94) none)))))) (cond (Nat.blt f 123) (cond (Nat.blt f 101) (cond (Nat.blt f 98) (cond (Nat.blt f 96) (cond (Nat.beq f 95) (some c95) none) (cond (Nat.blt f 97) (cond (Nat.beq f 96) (some c96) none) (cond (Nat.beq f 97) (some c97) none))) (cond (Nat.blt f 99) (cond (Nat.beq f 98) (some c98) none) (cond (Nat.blt f 100) (cond (Nat.beq f 99) (some c99) none) (cond (Nat.beq f 100) (some c100) none)))) (cond (Nat.blt f 116) (cond (Nat.blt f 105) (cond (Nat.beq f 101) (some c101) none) (cond (Nat.blt f 106) (cond (Nat.beq f 105) (some c105) none) (cond (Nat.beq f 106) (some c106) none))) (cond (Nat.blt f 117) (cond (Nat.beq f 116) (some c116) none) (cond (Nat.blt f 122) (cond (Nat.beq f 117) (some c117) none) (cond (Nat.beq f 122) (some c122) none))))) (cond (Nat.blt f 138) (cond (Nat.blt f 132) (cond (Nat.blt f 130) (cond (Nat.beq f 123) (some c123) none) (cond (Nat.blt f 131) (cond (Nat.beq f 130) (some c130) none) (cond (Nat.beq f 131) (some c131) none))) (cond (Nat.blt f 133) (cond (Nat.beq f 132) (some c132) none) (cond (Nat.blt f 137) (cond (Nat.beq f 133) (some c133) none) (cond (Nat.beq f 137) (some c137) none)))) (cond (Nat.blt f 141) (cond (Nat.blt f 139) (cond (Nat.beq f 138) (some c138) none) (cond (Nat.blt f 140) (cond (Nat.beq f 139) (some c139) none) (cond (Nat.beq f 140) (some c140) none))) (cond (Nat.blt f 144) (cond (Nat.beq f 141) (some c141) none) (cond (Nat.blt f 145) (cond (Nat.beq f 144) (some c144) none) (cond (Nat.beq f 145) (some c145) none)))))))
def prog : FuncId → Option RFunc := fun f => (cond (Nat.blt f 112) (cond (Nat.blt f 70) (cond (Nat.blt f 49) (cond (Nat.blt f 30) (cond (Nat.blt f 24) (cond (Nat.blt f 15) (cond (Nat.beq f 7) (some c7) none) (cond (Nat.beq f 15) (some ⟨0, .ext 3, []⟩) none)) (cond (Nat.blt f 29) (cond (Nat.beq f 24) (some c24) none) (cond (Nat.beq f 29) (some c29) none))) (cond (Nat.blt f 45) (cond (Nat.blt f 44) (cond (Nat.beq f 30) (some c30) none) (cond (Nat.beq f 44) (some c44) none)) (cond (Nat.blt f 47) (cond (Nat.beq f 45) (some c45) none) (cond (Nat.beq f 47) (some c47) none)))) (cond (Nat.blt f 64) (cond (Nat.blt f 59) (cond (Nat.blt f 50) (cond (Nat.beq f 49) (some c49) none) (cond (Nat.beq f 50) (some c50) none)) (cond (Nat.blt f 63) (cond (Nat.beq f 59) (some c59) none) (cond (Nat.beq f 63) (some c63) none))) (cond (Nat.blt f 66) (cond (Nat.blt f 65) (cond (Nat.beq f 64) (some c64) none) (cond (Nat.beq f 65) (some c65) none)) (cond (Nat.blt f 67) (cond (Nat.beq f 66) (some c66) none) (cond (Nat.beq f 67) (some c67) none))))) (cond (Nat.blt f 97) (cond (Nat.blt f 74) (cond (Nat.blt f 72) (cond (Nat.blt f 71) (cond (Nat.beq f 70) (some c70) none) (cond (Nat.beq f 71) (some c71) none)) (cond (Nat.blt f 73) (cond (Nat.beq f 72) (some c72) none) (cond (Nat.beq f 73) (some c73) none))) (cond (Nat.blt f 92) (cond (Nat.blt f 89) (cond (Nat.beq f 74) (some c74) none) (cond (Nat.beq f 89) (some c89) none)) (cond (Nat.blt f 93) (cond (Nat.beq f 92) (some c92) none) (cond (Nat.beq f 93) (some c93) none)))) (cond (Nat.blt f 101) (cond (Nat.blt f 99) (cond (Nat.blt f 98) (cond (Nat.beq f 97) (some c97) none) (cond (Nat.beq f 98) (some c98) none)) (cond (Nat.blt f 100) (cond (Nat.beq f 99) (some c99) none) (cond (Nat.beq f 100) (some c100) none))) (cond (Nat.blt f 103) (cond (Nat.blt f 102) (cond (Nat.beq f 101) (some c101) none) (cond (Nat.beq f 102) (some c102) none)) (cond (Nat.blt f 109) (cond (Nat.beq f 103) (some c103) none) (cond (Nat.beq f 109) (some c109) none)))))) (cond (Nat.blt f 130) (cond (Nat.blt f 122) (cond (Nat.blt f 117) (cond (Nat.blt f 114) (cond (Nat.blt f 113) (cond (Nat.beq f 112) (some c112) none) (cond (Nat.beq f 113) (some c113) none)) (cond (Nat.blt f 116) (cond (Nat.beq f 114) (some c114) none) (cond (Nat.beq f 116) (some c116) none))) (cond (Nat.blt f 119) (cond (Nat.blt f 118) (cond (Nat.beq f 117) (some c117) none) (cond (Nat.beq f 118) (some c118) none)) (cond (Nat.blt f 120) (cond (Nat.beq f 119) (some c119) none) (cond (Nat.beq f 120) (some c120) none)))) (cond (Nat.blt f 126) (cond (Nat.blt f 124) (cond (Nat.blt f 123) (cond (Nat.beq f 122) (some c122) none) (cond (Nat.beq f 123) (some c123) none)) (cond (Nat.blt f 125) (cond (Nat.beq f 124) (some c124) none) (cond (Nat.beq f 125) (some c125) none))) (cond (Nat.blt f 128) (cond (Nat.blt f 127) (cond (Nat.beq f 126) (some c126) none) (cond (Nat.beq f 127) (some c127) none)) (cond (Nat.blt f 129) (cond (Nat.beq f 128) (some c128) none) (cond (Nat.beq f 129) (some c129) none))))) (cond (Nat.blt f 138) (cond (Nat.blt f 134) (cond (Nat.blt f 132) (cond (Nat.blt f 131) (cond (Nat.beq f 130) (some c130) none) (cond (Nat.beq f 131) (some c131) none)) (cond (Nat.blt f 133) (cond (Nat.beq f 132) (some c132) none) (cond (Nat.beq f 133) (some c133) none))) (cond (Nat.blt f 136) (cond (Nat.blt f 135) (cond (Nat.beq f 134) (some c134) none) (cond (Nat.beq f 135) (some c135) none)) (cond (Nat.blt f 137) (cond (Nat.beq f 136) (some c136) none) (cond (Nat.beq f 137) (some c137) none)))) (cond (Nat.blt f 142) (cond (Nat.blt f 140) (cond (Nat.blt f 139) (cond (Nat.beq f 138) (some c138) none) (cond (Nat.beq f 139) (some c139) none)) (cond (Nat.blt f 141) (cond (Nat.beq f 140) (some c140) none) (cond (Nat.beq f 141) (some c141) none))) (cond (Nat.blt f 144) (cond (Nat.blt f 143) (cond (Nat.beq f 142) (some c142) none) (cond (Nat.beq f 143) (some c143) none)) (cond (Nat.blt f 145) (cond (Nat.beq f 144) (some c144) none) (cond (Nat.beq f 145) (some c145) none)))))))
end Go.Am
namespace Go.Am
open Go
attribute [local irreducible] Wp WpO WpX WpE
instance K_awake {H : AHeap} : PureCon ext prog 15 [] H 0 (.bool true) := ⟨fun n hn => by
 obtain ⟨k, rfl⟩ : ∃ k, n = k + 1 := ⟨n - 1, by unfold fuel0 at hn; omega⟩
 have e1 : prog 15 = some ⟨0, .ext 3, []⟩ := rfl
 refine ⟨.bool true, H, ?_, rfl, Ext.refl H⟩
 rw [call_ext e1]
 rfl⟩
class R64 (d : Int) : Prop where
 lo : -9223372036854775808 ≤ d
 hi : d < 9223372036854775808
theorem wrap64 (x : Int) : R64 (IntKind.i64.wrap x) := by
 have : IntKind.i64.wrap x = (x + 2 ^ 63) % 2 ^ 64 - 2 ^ 63 := by
  unfold IntKind.wrap
  simp [IntKind.signed, IntKind.bits]
  try omega
 constructor <;> omega
end Go.Am
namespace Go.Am
open Go Go.RowKit
section
variable {P : Program} {H : AHeap} {n : Nat} {t e : TypeId} {cs : List AVal}
theorem i64_of {i : Int} (h : (Lit.int .i64 i).wf = true) : R64 i := by
  have h1 : -9223372036854775808 ≤ i ∧ i < 9223372036854775808 := by
    simp only [Lit.wf, IntKind.has] at h
    revert h
    simp [IntKind.min, IntKind.max, IntKind.bits, IntKind.signed]
    intro a b
    constructor <;> omega
  exact ⟨h1.1, h1.2⟩
end
end Go.Am
namespace Go.Am
open Go Go.RowKit
section
variable {P : Program} {S : Base} {m : RMap} {H H' : AHeap} {w : World}
theorem aBytesFn_some {f : List UInt8 → AVal} {e : Array Value → Sem Value} {bv : Value} (hstr : ∀ (s : ByteArray) (w : World), ∃ y, (e #[.string s, bv]).run P w = .ok y w ∧ emb m (f s.data.toList) = some y)
    (hnil : ∀ (l c : Nat) (w : World), ∃ y, (e #[.slice none l c, bv]).run P w = .ok y w ∧ emb m (f []) = some y)
    (hsl : ∀ (a : Addr) (n c : Nat) (xs : List Int) (w : World), xs.length = n → (∀ j x, xs[j]? = some x → w.cell? (a.add j) = some (.int .u8 x)) → ∃ y, (e #[.slice (some a) n c, bv]).run P w = .ok y w ∧ emb m (f (xs.map fun n => UInt8.ofNat n.toNat)) = some y)
    {av u : AVal} {x : Value} (ha : emb m av = some x) (h : HRel S m H w) (hx : aBytesFn f av H = some (u, H')) : ∃ y, (e #[x, bv]).run P w = .ok y w ∧ Out S m u H' y w := by
  cases av with
  | nslice =>
    obtain ⟨rfl, rfl⟩ := pure_some hx
    simp only [emb] at ha; cases ha
    obtain ⟨y, h1, h2⟩ := hnil 0 0 w
    exact ⟨y, h1, Out.same h h2⟩
  | str s =>
    obtain ⟨rfl, rfl⟩ := pure_some hx
    simp only [emb] at ha; cases ha
    obtain ⟨y, h1, h2⟩ := hstr s w
    exact ⟨y, h1, Out.same h h2⟩
  | slice r off len cap s =>
    obtain ⟨p, hp, rfl⟩ := emb_slice_some ha
    simp only [aBytesFn] at hx
    by_cases hs : s ≠ 1
    · rw [if_pos hs] at hx; exact (fail_some hx).elim
    · rw [if_neg hs] at hx
      obtain ⟨⟨cs, rw⟩, H1, h1, h2⟩ := bind_some hx
      obtain ⟨rfl, hr, e', hg⟩ := aRow_some h1
      simp only [] at h2
      by_cases hq : off + len ≤ cs.length
      · rw [if_pos hq] at h2
        cases hb : bytesOf ((cs.drop off).take len) with
        | none => rw [hb] at h2; exact (fail_some h2).elim
        | some l =>
          rw [hb] at h2
          obtain ⟨rfl, rfl⟩ := pure_some h2
          obtain ⟨ns, hns, rfl⟩ := bytesOf_some hb
          have hok := h.row r cs rw e' p hr hg hp
          have hlen : ns.length = len := by
            have h1 : ((cs.drop off).take len).length = len := by simp; omega
            rw [hns] at h1; simpa using h1
          obtain ⟨y, h3, h4⟩ := hsl (p.1.add off) len (capR cap ((p.2 - off) / s)) ns w hlen fun j b hj => by
            have hjn : j < len := by rw [← hlen]; exact (List.getElem?_eq_some_iff.1 hj).1
            have h1 : cs[off + j]? = some (.int .u8 b) := by
              have h2 : ((cs.drop off).take len)[j]? = some (.int .u8 b) := by rw [hns]; simp [hj]
              rw [List.getElem?_take_of_lt hjn, List.getElem?_drop] at h2; exact h2
            obtain ⟨y, h3, h4⟩ := hok.cell _ _ h1
            simp only [emb] at h3; cases h3
            rw [add_add]; exact h4
          exact ⟨y, h3, Out.same h h4⟩
      · rw [if_neg hq] at h2; exact (fail_some h2).elim
  | _ => exact (fail_some (H := H) hx).elim
theorem yields_extern {f : FuncId} {fn : Func} {e : Array Value → Sem Value} (hf : P.funcs[f]? = some fn) (hname : (fn.name == "runtime.NumGoroutine") = false)
    (hb : fn.body.isNone = true) (hn : Extern.findNext fn = none) (he : Extern.find fn = some e) {args : Array Value} {y : Value} {R : Value → World → Prop} (hr : (e args).run P w = .ok y w) (h : R y w) : Yields P (callFunc f args) w R := by
  unfold Yields
  rw [run_callFunc_extern hf hname hb hn he, hr]
  exact h
theorem sem_bind_of {α β : Type} {P : Program} {w : World} {x : Sem α} {f : α → Sem β} {a : α} {w' : World} {r : Result β} (h : x.run P w = .ok a w') (h2 : (x >>= f).run P w = r) : (f a).run P w' = r := by
  rw [← h2]
  simp [h]
theorem ext_count {ext : Exts} {k : Nat} (hk : ext k = aCount) {f : FuncId} {fn : Func} (hf : P.funcs[f]? = some fn) (hname : (fn.name == "runtime.NumGoroutine") = false)
    (hb : fn.body.isNone = true) (hn : Extern.findNext fn = none) (he : Extern.find fn = some Extern.BytealgCount.count) : ExtSim P ext f k := by
  intro S args H v H' m w vargs hG hx h ha
  rw [hk] at hx
  match args, hx, ha with
  | [x, .int .u8 b], hx, ha =>
    obtain ⟨y, ys, h1, h2, rfl⟩ := embL_cons ha
    obtain ⟨z, zs, h3, h4, rfl⟩ := embL_cons h2
    simp only [embL] at h4; cases h4
    simp only [emb] at h3; cases h3
    obtain ⟨q, h5, h6⟩ := aBytesFn_some (P := P) (e := Extern.BytealgCount.count) (bv := .int .u8 b) (f := fun l => .int .i64 (Lib.countByte l (UInt8.ofNat b.toNat)))
      (fun s w => ⟨_, Lib.run_countString s b w, by simp [emb] <;> rfl⟩)
      (fun l c w => ⟨_, Lib.run_countString .empty b w, by simp [emb] <;> rfl⟩)
      (fun a n c xs w hl hc => by
        have hload := Lib.run_loadBytesX (P := P) w xs a .empty hc
        rw [hl] at hload
        have hs := Lib.run_countString (P := P) ⟨(Lib.bytesOf xs).toArray⟩ b w
        have he : (⟨ByteArray.empty.data ++ (Lib.bytesOf xs).toArray⟩ : ByteArray) = ⟨(Lib.bytesOf xs).toArray⟩ := by
          apply ByteArray.ext
          show (#[] : Array UInt8) ++ (Lib.bytesOf xs).toArray = (Lib.bytesOf xs).toArray
          simp
        rw [he] at hload
        refine ⟨.int .i64 (Lib.countByte (Lib.bytesOf xs) b.toNat.toUInt8), ?_, by simp [emb] <;> rfl⟩
        have hb1 : (Extern.Bytes.bytesOf (.slice (some a) n c)).run P w = .ok ⟨(Lib.bytesOf xs).toArray⟩ w := by simpa [Extern.Bytes.bytesOf] using hload
        have hb2 : (Extern.Bytes.bytesOf (.string ⟨(Lib.bytesOf xs).toArray⟩)).run P w = .ok ⟨(Lib.bytesOf xs).toArray⟩ w := by simp [Extern.Bytes.bytesOf]
        refine sem_bind_ok hb1 ?_
        have hs2 := sem_bind_of hb2 hs
        exact hs2) h1 h hx
    exact yields_extern hf hname hb hn he h5 h6
theorem ext_indexByte {ext : Exts} {k : Nat} (hk : ext k = aIndexByte) {f : FuncId} {fn : Func} (hf : P.funcs[f]? = some fn) (hname : (fn.name == "runtime.NumGoroutine") = false)
    (hb : fn.body.isNone = true) (hn : Extern.findNext fn = none) (he : Extern.find fn = some Extern.BytealgIndexByte.indexByte) : ExtSim P ext f k := by
  intro S args H v H' m w vargs hG hx h ha
  rw [hk] at hx
  match args, hx, ha with
  | [x, .int .u8 b], hx, ha =>
    obtain ⟨y, ys, h1, h2, rfl⟩ := embL_cons ha
    obtain ⟨z, zs, h3, h4, rfl⟩ := embL_cons h2
    simp only [embL] at h4; cases h4
    simp only [emb] at h3; cases h3
    obtain ⟨q, h5, h6⟩ := aBytesFn_some (P := P) (e := Extern.BytealgIndexByte.indexByte) (bv := .int .u8 b) (f := fun l => .int .i64 (Lib.indexByte l (UInt8.ofNat b.toNat)))
      (fun s w => ⟨_, Lib.run_indexByteString s b w, by simp [emb] <;> rfl⟩)
      (fun l c w => ⟨_, Lib.run_indexByteNil w l c b, by simp [emb] <;> rfl⟩)
      (fun a n c xs w hl hc => by
        have hload := Lib.run_loadBytesX (P := P) w xs a .empty hc
        rw [hl] at hload
        have hs := Lib.run_indexByteString (P := P) ⟨(Lib.bytesOf xs).toArray⟩ b w
        have he : (⟨ByteArray.empty.data ++ (Lib.bytesOf xs).toArray⟩ : ByteArray) = ⟨(Lib.bytesOf xs).toArray⟩ := by
          apply ByteArray.ext
          show (#[] : Array UInt8) ++ (Lib.bytesOf xs).toArray = (Lib.bytesOf xs).toArray
          simp
        rw [he] at hload
        refine ⟨.int .i64 (Lib.indexByte (Lib.bytesOf xs) b.toNat.toUInt8), ?_, by simp [emb] <;> rfl⟩
        have hb1 : (Extern.Bytes.bytesOf (.slice (some a) n c)).run P w = .ok ⟨(Lib.bytesOf xs).toArray⟩ w := by simpa [Extern.Bytes.bytesOf] using hload
        have hb2 : (Extern.Bytes.bytesOf (.string ⟨(Lib.bytesOf xs).toArray⟩)).run P w = .ok ⟨(Lib.bytesOf xs).toArray⟩ w := by simp [Extern.Bytes.bytesOf]
        refine sem_bind_ok hb1 ?_
        have hs2 := sem_bind_of hb2 hs
        exact hs2) h1 h hx
    exact yields_extern hf hname hb hn he h5 h6
theorem ext_self {ext : Exts} {k : Nat} (hk : ext k = aSelf) {f : FuncId} {fn : Func} (hf : P.funcs[f]? = some fn) (hname : (fn.name == "runtime.NumGoroutine") = false)
    (hb : fn.body.isNone = true) (hn : Extern.findNext fn = none) (he : Extern.find fn = some Extern.AbiNoEscape.same) : ExtSim P ext f k := by
  intro S args H v H' m w vargs hG hx h ha
  rw [hk] at hx
  match args, hx, ha with
  | [x], hx, ha =>
    obtain ⟨y, ys, h1, h2, rfl⟩ := embL_cons ha
    simp only [embL] at h2; cases h2
    obtain ⟨rfl, rfl⟩ := pure_some hx
    have hr : (Extern.AbiNoEscape.same #[y]).run P w = .ok y w := by
      have : Extern.AbiNoEscape.same #[y] = pure y := rfl
      rw [this]; simp
    exact yields_extern hf hname hb hn he hr (Out.same h h1)
end
end Go.Am
namespace Go.Am
open Go Go.Proofs
theorem ext_of {P : Program} {e e' : Exts} {f : FuncId} {k : Nat} (h : ExtSim P e f k) (hk : e' k = e k) : ExtSim P e' f k := fun S args H v H' m w vargs hG hx => h S args H v H' m w vargs hG (by rw [← hk]; exact hx)
theorem k7 : cFunc Tryd.prog Tryd.f7 = some c7 := by kernel_rfl
theorem k15 : cFunc Tryd.prog Tryd.f15 = some c15 := by kernel_rfl
theorem k16 : cFunc Tryd.prog Tryd.f16 = some c16 := by kernel_rfl
theorem k24 : cFunc Tryd.prog Tryd.f24 = some c24 := by kernel_rfl
theorem k25 : cFunc Tryd.prog Tryd.f25 = some c25 := by kernel_rfl
theorem k29 : cFunc Tryd.prog Tryd.f29 = some c29 := by kernel_rfl
theorem k30 : cFunc Tryd.prog Tryd.f30 = some c30 := by kernel_rfl
theorem k33 : cFunc Tryd.prog Tryd.f33 = some c33 := by kernel_rfl
theorem k39 : cFunc Tryd.prog Tryd.f39 = some c39 := by kernel_rfl
theorem k40 : cFunc Tryd.prog Tryd.f40 = some c40 := by kernel_rfl
theorem k42 : cFunc Tryd.prog Tryd.f42 = some c42 := by kernel_rfl
theorem k43 : cFunc Tryd.prog Tryd.f43 = some c43 := by kernel_rfl
theorem k44 : cFunc Tryd.prog Tryd.f44 = some c44 := by kernel_rfl
theorem k45 : cFunc Tryd.prog Tryd.f45 = some c45 := by kernel_rfl
theorem k47 : cFunc Tryd.prog Tryd.f47 = some c47 := by kernel_rfl
theorem k49 : cFunc Tryd.prog Tryd.f49 = some c49 := by kernel_rfl
theorem k50 : cFunc Tryd.prog Tryd.f50 = some c50 := by kernel_rfl
theorem k56 : cFunc Tryd.prog Tryd.f56 = some c56 := by kernel_rfl
theorem k59 : cFunc Tryd.prog Tryd.f59 = some c59 := by kernel_rfl
theorem k63 : cFunc Tryd.prog Tryd.f63 = some c63 := by kernel_rfl
theorem k64 : cFunc Tryd.prog Tryd.f64 = some c64 := by kernel_rfl
theorem k65 : cFunc Tryd.prog Tryd.f65 = some c65 := by kernel_rfl
theorem k66 : cFunc Tryd.prog Tryd.f66 = some c66 := by kernel_rfl
theorem k67 : cFunc Tryd.prog Tryd.f67 = some c67 := by kernel_rfl
theorem k70 : cFunc Tryd.prog Tryd.f70 = some c70 := by kernel_rfl
theorem k71 : cFunc Tryd.prog Tryd.f71 = some c71 := by kernel_rfl
theorem k72 : cFunc Tryd.prog Tryd.f72 = some c72 := by kernel_rfl
theorem k73 : cFunc Tryd.prog Tryd.f73 = some c73 := by kernel_rfl
theorem k74 : cFunc Tryd.prog Tryd.f74 = some c74 := by kernel_rfl
theorem k82 : cFunc Tryd.prog Tryd.f82 = some c82 := by kernel_rfl
theorem k83 : cFunc Tryd.prog Tryd.f83 = some c83 := by kernel_rfl
theorem k87 : cFunc Tryd.prog Tryd.f87 = some c87 := by kernel_rfl
theorem k89 : cFunc Tryd.prog Tryd.f89 = some c89 := by kernel_rfl
theorem k90 : cFunc Tryd.prog Tryd.f90 = some c90 := by kernel_rfl
theorem k91 : cFunc Tryd.prog Tryd.f91 = some c91 := by kernel_rfl
theorem k92 : cFunc Tryd.prog Tryd.f92 = some c92 := by kernel_rfl
theorem k93 : cFunc Tryd.prog Tryd.f93 = some c93 := by kernel_rfl
theorem k94 : cFunc Tryd.prog Tryd.f94 = some c94 := by kernel_rfl
theorem k95 : cFunc Tryd.prog Tryd.f95 = some c95 := by kernel_rfl
theorem k96 : cFunc Tryd.prog Tryd.f96 = some c96 := by kernel_rfl
theorem k97 : cFunc Tryd.prog Tryd.f97 = some c97 := by kernel_rfl
theorem k98 : cFunc Tryd.prog Tryd.f98 = some c98 := by kernel_rfl
theorem k99 : cFunc Tryd.prog Tryd.f99 = some c99 := by kernel_rfl
theorem k100 : cFunc Tryd.prog Tryd.f100 = some c100 := by kernel_rfl
theorem k101 : cFunc Tryd.prog Tryd.f101 = some c101 := by kernel_rfl
theorem k102 : cFunc Tryd.prog Tryd.f102 = some c102 := by kernel_rfl
theorem k103 : cFunc Tryd.prog Tryd.f103 = some c103 := by kernel_rfl
theorem k105 : cFunc Tryd.prog Tryd.f105 = some c105 := by kernel_rfl
theorem k106 : cFunc Tryd.prog Tryd.f106 = some c106 := by kernel_rfl
theorem k109 : cFunc Tryd.prog Tryd.f109 = some c109 := by kernel_rfl
theorem k112 : cFunc Tryd.prog Tryd.f112 = some c112 := by kernel_rfl
theorem k113 : cFunc Tryd.prog Tryd.f113 = some c113 := by kernel_rfl
theorem k114 : cFunc Tryd.prog Tryd.f114 = some c114 := by kernel_rfl
theorem k116 : cFunc Tryd.prog Tryd.f116 = some c116 := by kernel_rfl
theorem k117 : cFunc Tryd.prog Tryd.f117 = some c117 := by kernel_rfl
theorem k118 : cFunc Tryd.prog Tryd.f118 = some c118 := by kernel_rfl
theorem k119 : cFunc Tryd.prog Tryd.f119 = some c119 := by kernel_rfl
theorem k120 : cFunc Tryd.prog Tryd.f120 = some c120 := by kernel_rfl
theorem k122 : cFunc Tryd.prog Tryd.f122 = some c122 := by kernel_rfl
theorem k123 : cFunc Tryd.prog Tryd.f123 = some c123 := by kernel_rfl
theorem k124 : cFunc Tryd.prog Tryd.f124 = some c124 := by kernel_rfl
theorem k125 : cFunc Tryd.prog Tryd.f125 = some c125 := by kernel_rfl
theorem k126 : cFunc Tryd.prog Tryd.f126 = some c126 := by kernel_rfl
theorem k127 : cFunc Tryd.prog Tryd.f127 = some c127 := by kernel_rfl
theorem k128 : cFunc Tryd.prog Tryd.f128 = some c128 := by kernel_rfl
theorem k129 : cFunc Tryd.prog Tryd.f129 = some c129 := by kernel_rfl
theorem k130 : cFunc Tryd.prog Tryd.f130 = some c130 := by kernel_rfl
theorem k131 : cFunc Tryd.prog Tryd.f131 = some c131 := by kernel_rfl
theorem k132 : cFunc Tryd.prog Tryd.f132 = some c132 := by kernel_rfl
theorem k133 : cFunc Tryd.prog Tryd.f133 = some c133 := by kernel_rfl
theorem k134 : cFunc Tryd.prog Tryd.f134 = some c134 := by kernel_rfl
theorem k135 : cFunc Tryd.prog Tryd.f135 = some c135 := by kernel_rfl
theorem k136 : cFunc Tryd.prog Tryd.f136 = some c136 := by kernel_rfl
theorem k137 : cFunc Tryd.prog Tryd.f137 = some c137 := by kernel_rfl
theorem k138 : cFunc Tryd.prog Tryd.f138 = some c138 := by kernel_rfl
theorem k139 : cFunc Tryd.prog Tryd.f139 = some c139 := by kernel_rfl
theorem k140 : cFunc Tryd.prog Tryd.f140 = some c140 := by kernel_rfl
theorem k141 : cFunc Tryd.prog Tryd.f141 = some c141 := by kernel_rfl
theorem k142 : cFunc Tryd.prog Tryd.f142 = some c142 := by kernel_rfl
theorem k143 : cFunc Tryd.prog Tryd.f143 = some c143 := by kernel_rfl
theorem k144 : cFunc Tryd.prog Tryd.f144 = some c144 := by kernel_rfl
theorem k145 : cFunc Tryd.prog Tryd.f145 = some c145 := by kernel_rfl
theorem cond_some {α : Type} {b : Bool} {x y : Option α} {v : α} (h : cond b x y = some v) : (b = true ∧ x = some v) ∨ (b = false ∧ y = some v) := by cases b <;> simp_all
theorem progOk0 : ProgOk Tryd.prog ext prog0 := by
  refine ⟨rfl, by decide +kernel, ?_⟩
  intro f rf h
  unfold prog0 at h
  rcases cond_some h with ⟨_, h⟩ | ⟨_, h⟩
  · skip
    rcases cond_some h with ⟨_, h⟩ | ⟨_, h⟩
    · skip
      rcases cond_some h with ⟨_, h⟩ | ⟨_, h⟩
      · skip
        rcases cond_some h with ⟨_, h⟩ | ⟨_, h⟩
        · skip
          rcases cond_some h with ⟨_, h⟩ | ⟨_, h⟩
          · skip
            rcases cond_some h with ⟨hb, h⟩ | ⟨_, h⟩
            · obtain rfl := Nat.eq_of_beq_eq_true hb; cases h; exact Or.inl ⟨Tryd.f15, _, Tryd.func15, rfl, k15⟩
            · cases h
          · skip
            rcases cond_some h with ⟨hb, h⟩ | ⟨_, h⟩
            · obtain rfl := Nat.eq_of_beq_eq_true hb; cases h; exact Or.inl ⟨Tryd.f16, _, Tryd.func16, rfl, k16⟩
            · cases h
        · skip
          rcases cond_some h with ⟨_, h⟩ | ⟨_, h⟩
          · skip
            rcases cond_some h with ⟨hb, h⟩ | ⟨_, h⟩
            · obtain rfl := Nat.eq_of_beq_eq_true hb; cases h; exact Or.inl ⟨Tryd.f25, _, Tryd.func25, rfl, k25⟩
            · cases h
          · skip
            rcases cond_some h with ⟨_, h⟩ | ⟨_, h⟩
            · skip
              rcases cond_some h with ⟨hb, h⟩ | ⟨_, h⟩
              · obtain rfl := Nat.eq_of_beq_eq_true hb; cases h; exact Or.inl ⟨Tryd.f33, _, Tryd.func33, rfl, k33⟩
              · cases h
            · skip
              rcases cond_some h with ⟨hb, h⟩ | ⟨_, h⟩
              · obtain rfl := Nat.eq_of_beq_eq_true hb; cases h; exact Or.inl ⟨Tryd.f39, _, Tryd.func39, rfl, k39⟩
              · cases h
      · skip
        rcases cond_some h with ⟨_, h⟩ | ⟨_, h⟩
        · skip
          rcases cond_some h with ⟨_, h⟩ | ⟨_, h⟩
          · skip
            rcases cond_some h with ⟨hb, h⟩ | ⟨_, h⟩
            · obtain rfl := Nat.eq_of_beq_eq_true hb; cases h; exact Or.inl ⟨Tryd.f40, _, Tryd.func40, rfl, k40⟩
            · cases h
          · skip
            rcases cond_some h with ⟨_, h⟩ | ⟨_, h⟩
            · skip
              rcases cond_some h with ⟨hb, h⟩ | ⟨_, h⟩
              · obtain rfl := Nat.eq_of_beq_eq_true hb; cases h; exact Or.inl ⟨Tryd.f42, _, Tryd.func42, rfl, k42⟩
              · cases h
            · skip
              rcases cond_some h with ⟨hb, h⟩ | ⟨_, h⟩
              · obtain rfl := Nat.eq_of_beq_eq_true hb; cases h; exact Or.inl ⟨Tryd.f43, _, Tryd.func43, rfl, k43⟩
              · cases h
        · skip
          rcases cond_some h with ⟨_, h⟩ | ⟨_, h⟩
          · skip
            rcases cond_some h with ⟨hb, h⟩ | ⟨_, h⟩
            · obtain rfl := Nat.eq_of_beq_eq_true hb; cases h; exact Or.inl ⟨Tryd.f44, _, Tryd.func44, rfl, k44⟩
            · cases h
          · skip
            rcases cond_some h with ⟨_, h⟩ | ⟨_, h⟩
            · skip
              rcases cond_some h with ⟨hb, h⟩ | ⟨_, h⟩
              · obtain rfl := Nat.eq_of_beq_eq_true hb; cases h; exact Or.inl ⟨Tryd.f49, _, Tryd.func49, rfl, k49⟩
              · cases h
            · skip
              rcases cond_some h with ⟨hb, h⟩ | ⟨_, h⟩
              · obtain rfl := Nat.eq_of_beq_eq_true hb; cases h; exact Or.inl ⟨Tryd.f56, _, Tryd.func56, rfl, k56⟩
              · cases h
    · skip
      rcases cond_some h with ⟨_, h⟩ | ⟨_, h⟩
      · skip
        rcases cond_some h with ⟨_, h⟩ | ⟨_, h⟩
        · skip
          rcases cond_some h with ⟨_, h⟩ | ⟨_, h⟩
          · skip
            rcases cond_some h with ⟨hb, h⟩ | ⟨_, h⟩
            · obtain rfl := Nat.eq_of_beq_eq_true hb; cases h; exact Or.inl ⟨Tryd.f59, _, Tryd.func59, rfl, k59⟩
            · cases h
          · skip
            rcases cond_some h with ⟨_, h⟩ | ⟨_, h⟩
            · skip
              rcases cond_some h with ⟨hb, h⟩ | ⟨_, h⟩
              · obtain rfl := Nat.eq_of_beq_eq_true hb; cases h; exact Or.inl ⟨Tryd.f63, _, Tryd.func63, rfl, k63⟩
              · cases h
            · skip
              rcases cond_some h with ⟨hb, h⟩ | ⟨_, h⟩
              · obtain rfl := Nat.eq_of_beq_eq_true hb; cases h; exact Or.inl ⟨Tryd.f64, _, Tryd.func64, rfl, k64⟩
              · cases h
        · skip
          rcases cond_some h with ⟨_, h⟩ | ⟨_, h⟩
          · skip
            rcases cond_some h with ⟨hb, h⟩ | ⟨_, h⟩
            · obtain rfl := Nat.eq_of_beq_eq_true hb; cases h; exact Or.inl ⟨Tryd.f82, _, Tryd.func82, rfl, k82⟩
            · cases h
          · skip
            rcases cond_some h with ⟨_, h⟩ | ⟨_, h⟩
            · skip
              rcases cond_some h with ⟨hb, h⟩ | ⟨_, h⟩
              · obtain rfl := Nat.eq_of_beq_eq_true hb; cases h; exact Or.inl ⟨Tryd.f83, _, Tryd.func83, rfl, k83⟩
              · cases h
            · skip
              rcases cond_some h with ⟨hb, h⟩ | ⟨_, h⟩
              · obtain rfl := Nat.eq_of_beq_eq_true hb; cases h; exact Or.inl ⟨Tryd.f87, _, Tryd.func87, rfl, k87⟩
              · cases h
      · skip
        rcases cond_some h with ⟨_, h⟩ | ⟨_, h⟩
        · skip
          rcases cond_some h with ⟨_, h⟩ | ⟨_, h⟩
          · skip
            rcases cond_some h with ⟨hb, h⟩ | ⟨_, h⟩
            · obtain rfl := Nat.eq_of_beq_eq_true hb; cases h; exact Or.inl ⟨Tryd.f89, _, Tryd.func89, rfl, k89⟩
            · cases h
          · skip
            rcases cond_some h with ⟨_, h⟩ | ⟨_, h⟩
            · skip
              rcases cond_some h with ⟨hb, h⟩ | ⟨_, h⟩
              · obtain rfl := Nat.eq_of_beq_eq_true hb; cases h; exact Or.inl ⟨Tryd.f90, _, Tryd.func90, rfl, k90⟩
              · cases h
            · skip
              rcases cond_some h with ⟨hb, h⟩ | ⟨_, h⟩
              · obtain rfl := Nat.eq_of_beq_eq_true hb; cases h; exact Or.inl ⟨Tryd.f91, _, Tryd.func91, rfl, k91⟩
              · cases h
        · skip
          rcases cond_some h with ⟨_, h⟩ | ⟨_, h⟩
          · skip
            rcases cond_some h with ⟨hb, h⟩ | ⟨_, h⟩
            · obtain rfl := Nat.eq_of_beq_eq_true hb; cases h; exact Or.inl ⟨Tryd.f92, _, Tryd.func92, rfl, k92⟩
            · cases h
          · skip
            rcases cond_some h with ⟨_, h⟩ | ⟨_, h⟩
            · skip
              rcases cond_some h with ⟨hb, h⟩ | ⟨_, h⟩
              · obtain rfl := Nat.eq_of_beq_eq_true hb; cases h; exact Or.inl ⟨Tryd.f93, _, Tryd.func93, rfl, k93⟩
              · cases h
            · skip
              rcases cond_some h with ⟨hb, h⟩ | ⟨_, h⟩
              · obtain rfl := Nat.eq_of_beq_eq_true hb; cases h; exact Or.inl ⟨Tryd.f94, _, Tryd.func94, rfl, k94⟩
              · cases h
  · skip
    rcases cond_some h with ⟨_, h⟩ | ⟨_, h⟩
    · skip
      rcases cond_some h with ⟨_, h⟩ | ⟨_, h⟩
      · skip
        rcases cond_some h with ⟨_, h⟩ | ⟨_, h⟩
        · skip
          rcases cond_some h with ⟨_, h⟩ | ⟨_, h⟩
          · skip
            rcases cond_some h with ⟨hb, h⟩ | ⟨_, h⟩
            · obtain rfl := Nat.eq_of_beq_eq_true hb; cases h; exact Or.inl ⟨Tryd.f95, _, Tryd.func95, rfl, k95⟩
            · cases h
          · skip
            rcases cond_some h with ⟨_, h⟩ | ⟨_, h⟩
            · skip
              rcases cond_some h with ⟨hb, h⟩ | ⟨_, h⟩
              · obtain rfl := Nat.eq_of_beq_eq_true hb; cases h; exact Or.inl ⟨Tryd.f96, _, Tryd.func96, rfl, k96⟩
              · cases h
            · skip
              rcases cond_some h with ⟨hb, h⟩ | ⟨_, h⟩
              · obtain rfl := Nat.eq_of_beq_eq_true hb; cases h; exact Or.inl ⟨Tryd.f97, _, Tryd.func97, rfl, k97⟩
              · cases h
        · skip
          rcases cond_some h with ⟨_, h⟩ | ⟨_, h⟩
          · skip
            rcases cond_some h with ⟨hb, h⟩ | ⟨_, h⟩
            · obtain rfl := Nat.eq_of_beq_eq_true hb; cases h; exact Or.inl ⟨Tryd.f98, _, Tryd.func98, rfl, k98⟩
            · cases h
          · skip
            rcases cond_some h with ⟨_, h⟩ | ⟨_, h⟩
            · skip
              rcases cond_some h with ⟨hb, h⟩ | ⟨_, h⟩
              · obtain rfl := Nat.eq_of_beq_eq_true hb; cases h; exact Or.inl ⟨Tryd.f99, _, Tryd.func99, rfl, k99⟩
              · cases h
            · skip
              rcases cond_some h with ⟨hb, h⟩ | ⟨_, h⟩
              · obtain rfl := Nat.eq_of_beq_eq_true hb; cases h; exact Or.inl ⟨Tryd.f100, _, Tryd.func100, rfl, k100⟩
              · cases h
      · skip
        rcases cond_some h with ⟨_, h⟩ | ⟨_, h⟩
        · skip
          rcases cond_some h with ⟨_, h⟩ | ⟨_, h⟩
          · skip
            rcases cond_some h with ⟨hb, h⟩ | ⟨_, h⟩
            · obtain rfl := Nat.eq_of_beq_eq_true hb; cases h; exact Or.inl ⟨Tryd.f101, _, Tryd.func101, rfl, k101⟩
            · cases h
          · skip
            rcases cond_some h with ⟨_, h⟩ | ⟨_, h⟩
            · skip
              rcases cond_some h with ⟨hb, h⟩ | ⟨_, h⟩
              · obtain rfl := Nat.eq_of_beq_eq_true hb; cases h; exact Or.inl ⟨Tryd.f105, _, Tryd.func105, rfl, k105⟩
              · cases h
            · skip
              rcases cond_some h with ⟨hb, h⟩ | ⟨_, h⟩
              · obtain rfl := Nat.eq_of_beq_eq_true hb; cases h; exact Or.inl ⟨Tryd.f106, _, Tryd.func106, rfl, k106⟩
              · cases h
        · skip
          rcases cond_some h with ⟨_, h⟩ | ⟨_, h⟩
          · skip
            rcases cond_some h with ⟨hb, h⟩ | ⟨_, h⟩
            · obtain rfl := Nat.eq_of_beq_eq_true hb; cases h; exact Or.inl ⟨Tryd.f116, _, Tryd.func116, rfl, k116⟩
            · cases h
          · skip
            rcases cond_some h with ⟨_, h⟩ | ⟨_, h⟩
            · skip
              rcases cond_some h with ⟨hb, h⟩ | ⟨_, h⟩
              · obtain rfl := Nat.eq_of_beq_eq_true hb; cases h; exact Or.inl ⟨Tryd.f117, _, Tryd.func117, rfl, k117⟩
              · cases h
            · skip
              rcases cond_some h with ⟨hb, h⟩ | ⟨_, h⟩
              · obtain rfl := Nat.eq_of_beq_eq_true hb; cases h; exact Or.inl ⟨Tryd.f122, _, Tryd.func122, rfl, k122⟩
              · cases h
    · skip
      rcases cond_some h with ⟨_, h⟩ | ⟨_, h⟩
      · skip
        rcases cond_some h with ⟨_, h⟩ | ⟨_, h⟩
        · skip
          rcases cond_some h with ⟨_, h⟩ | ⟨_, h⟩
          · skip
            rcases cond_some h with ⟨hb, h⟩ | ⟨_, h⟩
            · obtain rfl := Nat.eq_of_beq_eq_true hb; cases h; exact Or.inl ⟨Tryd.f123, _, Tryd.func123, rfl, k123⟩
            · cases h
          · skip
            rcases cond_some h with ⟨_, h⟩ | ⟨_, h⟩
            · skip
              rcases cond_some h with ⟨hb, h⟩ | ⟨_, h⟩
              · obtain rfl := Nat.eq_of_beq_eq_true hb; cases h; exact Or.inl ⟨Tryd.f130, _, Tryd.func130, rfl, k130⟩
              · cases h
            · skip
              rcases cond_some h with ⟨hb, h⟩ | ⟨_, h⟩
              · obtain rfl := Nat.eq_of_beq_eq_true hb; cases h; exact Or.inl ⟨Tryd.f131, _, Tryd.func131, rfl, k131⟩
              · cases h
        · skip
          rcases cond_some h with ⟨_, h⟩ | ⟨_, h⟩
          · skip
            rcases cond_some h with ⟨hb, h⟩ | ⟨_, h⟩
            · obtain rfl := Nat.eq_of_beq_eq_true hb; cases h; exact Or.inl ⟨Tryd.f132, _, Tryd.func132, rfl, k132⟩
            · cases h
          · skip
            rcases cond_some h with ⟨_, h⟩ | ⟨_, h⟩
            · skip
              rcases cond_some h with ⟨hb, h⟩ | ⟨_, h⟩
              · obtain rfl := Nat.eq_of_beq_eq_true hb; cases h; exact Or.inl ⟨Tryd.f133, _, Tryd.func133, rfl, k133⟩
              · cases h
            · skip
              rcases cond_some h with ⟨hb, h⟩ | ⟨_, h⟩
              · obtain rfl := Nat.eq_of_beq_eq_true hb; cases h; exact Or.inl ⟨Tryd.f137, _, Tryd.func137, rfl, k137⟩
              · cases h
      · skip
        rcases cond_some h with ⟨_, h⟩ | ⟨_, h⟩
        · skip
          rcases cond_some h with ⟨_, h⟩ | ⟨_, h⟩
          · skip
            rcases cond_some h with ⟨hb, h⟩ | ⟨_, h⟩
            · obtain rfl := Nat.eq_of_beq_eq_true hb; cases h; exact Or.inl ⟨Tryd.f138, _, Tryd.func138, rfl, k138⟩
            · cases h
          · skip
            rcases cond_some h with ⟨_, h⟩ | ⟨_, h⟩
            · skip
              rcases cond_some h with ⟨hb, h⟩ | ⟨_, h⟩
              · obtain rfl := Nat.eq_of_beq_eq_true hb; cases h; exact Or.inl ⟨Tryd.f139, _, Tryd.func139, rfl, k139⟩
              · cases h
            · skip
              rcases cond_some h with ⟨hb, h⟩ | ⟨_, h⟩
              · obtain rfl := Nat.eq_of_beq_eq_true hb; cases h; exact Or.inl ⟨Tryd.f140, _, Tryd.func140, rfl, k140⟩
              · cases h
        · skip
          rcases cond_some h with ⟨_, h⟩ | ⟨_, h⟩
          · skip
            rcases cond_some h with ⟨hb, h⟩ | ⟨_, h⟩
            · obtain rfl := Nat.eq_of_beq_eq_true hb; cases h; exact Or.inl ⟨Tryd.f141, _, Tryd.func141, rfl, k141⟩
            · cases h
          · skip
            rcases cond_some h with ⟨_, h⟩ | ⟨_, h⟩
            · skip
              rcases cond_some h with ⟨hb, h⟩ | ⟨_, h⟩
              · obtain rfl := Nat.eq_of_beq_eq_true hb; cases h; exact Or.inl ⟨Tryd.f144, _, Tryd.func144, rfl, k144⟩
              · cases h
            · skip
              rcases cond_some h with ⟨hb, h⟩ | ⟨_, h⟩
              · obtain rfl := Nat.eq_of_beq_eq_true hb; cases h; exact Or.inl ⟨Tryd.f145, _, Tryd.func145, rfl, k145⟩
              · cases h
def isTrue : Option (AVal × AHeap) → Bool | some (.bool true, _) => true | _ => false
theorem isTrue_some {r : Option (AVal × AHeap)} (h : isTrue r = true) : ∃ H', r = some (.bool true, H') := by
  cases r with
  | none => cases h
  | some p =>
    obtain ⟨v, H'⟩ := p
    cases v with
    | bool b => cases b with
      | true => exact ⟨H', rfl⟩
      | false => cases h
    | _ => cases h
theorem awake_true : isTrue (callN ext prog0 300 15 [] (tableHeap Tryd.prog.globals.size aroundT)) = true := by kernel_rfl
theorem mixed : Tryd.prog.follows .mixedOrders = true := by kernel_rfl
theorem k15e : ExtSim Tryd.prog ext 15 3 := ext_closed mixed progOk0 (T := aroundT) Tryd.func15 rfl (by decide +kernel) (v := .bool true) rfl (by kernel_rfl) (isTrue_some awake_true) rfl
theorem progOk : ProgOk Tryd.prog ext prog := by
  refine ⟨rfl, by decide +kernel, ?_⟩
  intro f rf h
  unfold prog at h
  rcases cond_some h with ⟨_, h⟩ | ⟨_, h⟩
  · skip
    rcases cond_some h with ⟨_, h⟩ | ⟨_, h⟩
    · skip
      rcases cond_some h with ⟨_, h⟩ | ⟨_, h⟩
      · skip
        rcases cond_some h with ⟨_, h⟩ | ⟨_, h⟩
        · skip
          rcases cond_some h with ⟨_, h⟩ | ⟨_, h⟩
          · skip
            rcases cond_some h with ⟨_, h⟩ | ⟨_, h⟩
            · skip
              rcases cond_some h with ⟨hb, h⟩ | ⟨_, h⟩
              · obtain rfl := Nat.eq_of_beq_eq_true hb; cases h; exact Or.inl ⟨Tryd.f7, _, Tryd.func7, rfl, k7⟩
              · cases h
            · skip
              rcases cond_some h with ⟨hb, h⟩ | ⟨_, h⟩
              · obtain rfl := Nat.eq_of_beq_eq_true hb; cases h; exact Or.inr ⟨3, rfl, k15e⟩
              · cases h
          · skip
            rcases cond_some h with ⟨_, h⟩ | ⟨_, h⟩
            · skip
              rcases cond_some h with ⟨hb, h⟩ | ⟨_, h⟩
              · obtain rfl := Nat.eq_of_beq_eq_true hb; cases h; exact Or.inl ⟨Tryd.f24, _, Tryd.func24, rfl, k24⟩
              · cases h
            · skip
              rcases cond_some h with ⟨hb, h⟩ | ⟨_, h⟩
              · obtain rfl := Nat.eq_of_beq_eq_true hb; cases h; exact Or.inl ⟨Tryd.f29, _, Tryd.func29, rfl, k29⟩
              · cases h
        · skip
          rcases cond_some h with ⟨_, h⟩ | ⟨_, h⟩
          · skip
            rcases cond_some h with ⟨_, h⟩ | ⟨_, h⟩
            · skip
              rcases cond_some h with ⟨hb, h⟩ | ⟨_, h⟩
              · obtain rfl := Nat.eq_of_beq_eq_true hb; cases h; exact Or.inl ⟨Tryd.f30, _, Tryd.func30, rfl, k30⟩
              · cases h
            · skip
              rcases cond_some h with ⟨hb, h⟩ | ⟨_, h⟩
              · obtain rfl := Nat.eq_of_beq_eq_true hb; cases h; exact Or.inl ⟨Tryd.f44, _, Tryd.func44, rfl, k44⟩
              · cases h
          · skip
            rcases cond_some h with ⟨_, h⟩ | ⟨_, h⟩
            · skip
              rcases cond_some h with ⟨hb, h⟩ | ⟨_, h⟩
              · obtain rfl := Nat.eq_of_beq_eq_true hb; cases h; exact Or.inl ⟨Tryd.f45, _, Tryd.func45, rfl, k45⟩
              · cases h
            · skip
              rcases cond_some h with ⟨hb, h⟩ | ⟨_, h⟩
              · obtain rfl := Nat.eq_of_beq_eq_true hb; cases h; exact Or.inl ⟨Tryd.f47, _, Tryd.func47, rfl, k47⟩
              · cases h
      · skip
        rcases cond_some h with ⟨_, h⟩ | ⟨_, h⟩
        · skip
          rcases cond_some h with ⟨_, h⟩ | ⟨_, h⟩
          · skip
            rcases cond_some h with ⟨_, h⟩ | ⟨_, h⟩
            · skip
              rcases cond_some h with ⟨hb, h⟩ | ⟨_, h⟩
              · obtain rfl := Nat.eq_of_beq_eq_true hb; cases h; exact Or.inl ⟨Tryd.f49, _, Tryd.func49, rfl, k49⟩
              · cases h
            · skip
              rcases cond_some h with ⟨hb, h⟩ | ⟨_, h⟩
              · obtain rfl := Nat.eq_of_beq_eq_true hb; cases h; exact Or.inl ⟨Tryd.f50, _, Tryd.func50, rfl, k50⟩
              · cases h
          · skip
            rcases cond_some h with ⟨_, h⟩ | ⟨_, h⟩
            · skip
              rcases cond_some h with ⟨hb, h⟩ | ⟨_, h⟩
              · obtain rfl := Nat.eq_of_beq_eq_true hb; cases h; exact Or.inl ⟨Tryd.f59, _, Tryd.func59, rfl, k59⟩
              · cases h
            · skip
              rcases cond_some h with ⟨hb, h⟩ | ⟨_, h⟩
              · obtain rfl := Nat.eq_of_beq_eq_true hb; cases h; exact Or.inl ⟨Tryd.f63, _, Tryd.func63, rfl, k63⟩
              · cases h
        · skip
          rcases cond_some h with ⟨_, h⟩ | ⟨_, h⟩
          · skip
            rcases cond_some h with ⟨_, h⟩ | ⟨_, h⟩
            · skip
              rcases cond_some h with ⟨hb, h⟩ | ⟨_, h⟩
              · obtain rfl := Nat.eq_of_beq_eq_true hb; cases h; exact Or.inl ⟨Tryd.f64, _, Tryd.func64, rfl, k64⟩
              · cases h
            · skip
              rcases cond_some h with ⟨hb, h⟩ | ⟨_, h⟩
              · obtain rfl := Nat.eq_of_beq_eq_true hb; cases h; exact Or.inl ⟨Tryd.f65, _, Tryd.func65, rfl, k65⟩
              · cases h
          · skip
            rcases cond_some h with ⟨_, h⟩ | ⟨_, h⟩
            · skip
              rcases cond_some h with ⟨hb, h⟩ | ⟨_, h⟩
              · obtain rfl := Nat.eq_of_beq_eq_true hb; cases h; exact Or.inl ⟨Tryd.f66, _, Tryd.func66, rfl, k66⟩
              · cases h
            · skip
              rcases cond_some h with ⟨hb, h⟩ | ⟨_, h⟩
              · obtain rfl := Nat.eq_of_beq_eq_true hb; cases h; exact Or.inl ⟨Tryd.f67, _, Tryd.func67, rfl, k67⟩
              · cases h
    · skip
      rcases cond_some h with ⟨_, h⟩ | ⟨_, h⟩
      · skip
        rcases cond_some h with ⟨_, h⟩ | ⟨_, h⟩
        · skip
          rcases cond_some h with ⟨_, h⟩ | ⟨_, h⟩
          · skip
            rcases cond_some h with ⟨_, h⟩ | ⟨_, h⟩
            · skip
              rcases cond_some h with ⟨hb, h⟩ | ⟨_, h⟩
              · obtain rfl := Nat.eq_of_beq_eq_true hb; cases h; exact Or.inl ⟨Tryd.f70, _, Tryd.func70, rfl, k70⟩
              · cases h
            · skip
              rcases cond_some h with ⟨hb, h⟩ | ⟨_, h⟩
              · obtain rfl := Nat.eq_of_beq_eq_true hb; cases h; exact Or.inl ⟨Tryd.f71, _, Tryd.func71, rfl, k71⟩
              · cases h
          · skip
            rcases cond_some h with ⟨_, h⟩ | ⟨_, h⟩
            · skip
              rcases cond_some h with ⟨hb, h⟩ | ⟨_, h⟩
              · obtain rfl := Nat.eq_of_beq_eq_true hb; cases h; exact Or.inl ⟨Tryd.f72, _, Tryd.func72, rfl, k72⟩
              · cases h
            · skip
              rcases cond_some h with ⟨hb, h⟩ | ⟨_, h⟩
              · obtain rfl := Nat.eq_of_beq_eq_true hb; cases h; exact Or.inl ⟨Tryd.f73, _, Tryd.func73, rfl, k73⟩
              · cases h
        · skip
          rcases cond_some h with ⟨_, h⟩ | ⟨_, h⟩
          · skip
            rcases cond_some h with ⟨_, h⟩ | ⟨_, h⟩
            · skip
              rcases cond_some h with ⟨hb, h⟩ | ⟨_, h⟩
              · obtain rfl := Nat.eq_of_beq_eq_true hb; cases h; exact Or.inl ⟨Tryd.f74, _, Tryd.func74, rfl, k74⟩
              · cases h
            · skip
              rcases cond_some h with ⟨hb, h⟩ | ⟨_, h⟩
              · obtain rfl := Nat.eq_of_beq_eq_true hb; cases h; exact Or.inl ⟨Tryd.f89, _, Tryd.func89, rfl, k89⟩
              · cases h
          · skip
            rcases cond_some h with ⟨_, h⟩ | ⟨_, h⟩
            · skip
              rcases cond_some h with ⟨hb, h⟩ | ⟨_, h⟩
              · obtain rfl := Nat.eq_of_beq_eq_true hb; cases h; exact Or.inl ⟨Tryd.f92, _, Tryd.func92, rfl, k92⟩
              · cases h
            · skip
              rcases cond_some h with ⟨hb, h⟩ | ⟨_, h⟩
              · obtain rfl := Nat.eq_of_beq_eq_true hb; cases h; exact Or.inl ⟨Tryd.f93, _, Tryd.func93, rfl, k93⟩
              · cases h
      · skip
        rcases cond_some h with ⟨_, h⟩ | ⟨_, h⟩
        · skip
          rcases cond_some h with ⟨_, h⟩ | ⟨_, h⟩
          · skip
            rcases cond_some h with ⟨_, h⟩ | ⟨_, h⟩
            · skip
              rcases cond_some h with ⟨hb, h⟩ | ⟨_, h⟩
              · obtain rfl := Nat.eq_of_beq_eq_true hb; cases h; exact Or.inl ⟨Tryd.f97, _, Tryd.func97, rfl, k97⟩
              · cases h
            · skip
              rcases cond_some h with ⟨hb, h⟩ | ⟨_, h⟩
              · obtain rfl := Nat.eq_of_beq_eq_true hb; cases h; exact Or.inl ⟨Tryd.f98, _, Tryd.func98, rfl, k98⟩
              · cases h
          · skip
            rcases cond_some h with ⟨_, h⟩ | ⟨_, h⟩
            · skip
              rcases cond_some h with ⟨hb, h⟩ | ⟨_, h⟩
              · obtain rfl := Nat.eq_of_beq_eq_true hb; cases h; exact Or.inl ⟨Tryd.f99, _, Tryd.func99, rfl, k99⟩
              · cases h
            · skip
              rcases cond_some h with ⟨hb, h⟩ | ⟨_, h⟩
              · obtain rfl := Nat.eq_of_beq_eq_true hb; cases h; exact Or.inl ⟨Tryd.f100, _, Tryd.func100, rfl, k100⟩
              · cases h
        · skip
          rcases cond_some h with ⟨_, h⟩ | ⟨_, h⟩
          · skip
            rcases cond_some h with ⟨_, h⟩ | ⟨_, h⟩
            · skip
              rcases cond_some h with ⟨hb, h⟩ | ⟨_, h⟩
              · obtain rfl := Nat.eq_of_beq_eq_true hb; cases h; exact Or.inl ⟨Tryd.f101, _, Tryd.func101, rfl, k101⟩
              · cases h
            · skip
              rcases cond_some h with ⟨hb, h⟩ | ⟨_, h⟩
              · obtain rfl := Nat.eq_of_beq_eq_true hb; cases h; exact Or.inl ⟨Tryd.f102, _, Tryd.func102, rfl, k102⟩
              · cases h
          · skip
            rcases cond_some h with ⟨_, h⟩ | ⟨_, h⟩
            · skip
              rcases cond_some h with ⟨hb, h⟩ | ⟨_, h⟩
              · obtain rfl := Nat.eq_of_beq_eq_true hb; cases h; exact Or.inl ⟨Tryd.f103, _, Tryd.func103, rfl, k103⟩
              · cases h
            · skip
              rcases cond_some h with ⟨hb, h⟩ | ⟨_, h⟩
              · obtain rfl := Nat.eq_of_beq_eq_true hb; cases h; exact Or.inl ⟨Tryd.f109, _, Tryd.func109, rfl, k109⟩
              · cases h
  · skip
    rcases cond_some h with ⟨_, h⟩ | ⟨_, h⟩
    · skip
      rcases cond_some h with ⟨_, h⟩ | ⟨_, h⟩
      · skip
        rcases cond_some h with ⟨_, h⟩ | ⟨_, h⟩
        · skip
          rcases cond_some h with ⟨_, h⟩ | ⟨_, h⟩
          · skip
            rcases cond_some h with ⟨_, h⟩ | ⟨_, h⟩
            · skip
              rcases cond_some h with ⟨hb, h⟩ | ⟨_, h⟩
              · obtain rfl := Nat.eq_of_beq_eq_true hb; cases h; exact Or.inl ⟨Tryd.f112, _, Tryd.func112, rfl, k112⟩
              · cases h
            · skip
              rcases cond_some h with ⟨hb, h⟩ | ⟨_, h⟩
              · obtain rfl := Nat.eq_of_beq_eq_true hb; cases h; exact Or.inl ⟨Tryd.f113, _, Tryd.func113, rfl, k113⟩
              · cases h
          · skip
            rcases cond_some h with ⟨_, h⟩ | ⟨_, h⟩
            · skip
              rcases cond_some h with ⟨hb, h⟩ | ⟨_, h⟩
              · obtain rfl := Nat.eq_of_beq_eq_true hb; cases h; exact Or.inl ⟨Tryd.f114, _, Tryd.func114, rfl, k114⟩
              · cases h
            · skip
              rcases cond_some h with ⟨hb, h⟩ | ⟨_, h⟩
              · obtain rfl := Nat.eq_of_beq_eq_true hb; cases h; exact Or.inl ⟨Tryd.f116, _, Tryd.func116, rfl, k116⟩
              · cases h
        · skip
          rcases cond_some h with ⟨_, h⟩ | ⟨_, h⟩
          · skip
            rcases cond_some h with ⟨_, h⟩ | ⟨_, h⟩
            · skip
              rcases cond_some h with ⟨hb, h⟩ | ⟨_, h⟩
              · obtain rfl := Nat.eq_of_beq_eq_true hb; cases h; exact Or.inl ⟨Tryd.f117, _, Tryd.func117, rfl, k117⟩
              · cases h
            · skip
              rcases cond_some h with ⟨hb, h⟩ | ⟨_, h⟩
              · obtain rfl := Nat.eq_of_beq_eq_true hb; cases h; exact Or.inl ⟨Tryd.f118, _, Tryd.func118, rfl, k118⟩
              · cases h
          · skip
            rcases cond_some h with ⟨_, h⟩ | ⟨_, h⟩
            · skip
              rcases cond_some h with ⟨hb, h⟩ | ⟨_, h⟩
              · obtain rfl := Nat.eq_of_beq_eq_true hb; cases h; exact Or.inl ⟨Tryd.f119, _, Tryd.func119, rfl, k119⟩
              · cases h
            · skip
              rcases cond_some h with ⟨hb, h⟩ | ⟨_, h⟩
              · obtain rfl := Nat.eq_of_beq_eq_true hb; cases h; exact Or.inl ⟨Tryd.f120, _, Tryd.func120, rfl, k120⟩
              · cases h
      · skip
        rcases cond_some h with ⟨_, h⟩ | ⟨_, h⟩
        · skip
          rcases cond_some h with ⟨_, h⟩ | ⟨_, h⟩
          · skip
            rcases cond_some h with ⟨_, h⟩ | ⟨_, h⟩
            · skip
              rcases cond_some h with ⟨hb, h⟩ | ⟨_, h⟩
              · obtain rfl := Nat.eq_of_beq_eq_true hb; cases h; exact Or.inl ⟨Tryd.f122, _, Tryd.func122, rfl, k122⟩
              · cases h
            · skip
              rcases cond_some h with ⟨hb, h⟩ | ⟨_, h⟩
              · obtain rfl := Nat.eq_of_beq_eq_true hb; cases h; exact Or.inl ⟨Tryd.f123, _, Tryd.func123, rfl, k123⟩
              · cases h
          · skip
            rcases cond_some h with ⟨_, h⟩ | ⟨_, h⟩
            · skip
              rcases cond_some h with ⟨hb, h⟩ | ⟨_, h⟩
              · obtain rfl := Nat.eq_of_beq_eq_true hb; cases h; exact Or.inl ⟨Tryd.f124, _, Tryd.func124, rfl, k124⟩
              · cases h
            · skip
              rcases cond_some h with ⟨hb, h⟩ | ⟨_, h⟩
              · obtain rfl := Nat.eq_of_beq_eq_true hb; cases h; exact Or.inl ⟨Tryd.f125, _, Tryd.func125, rfl, k125⟩
              · cases h
        · skip
          rcases cond_some h with ⟨_, h⟩ | ⟨_, h⟩
          · skip
            rcases cond_some h with ⟨_, h⟩ | ⟨_, h⟩
            · skip
              rcases cond_some h with ⟨hb, h⟩ | ⟨_, h⟩
              · obtain rfl := Nat.eq_of_beq_eq_true hb; cases h; exact Or.inl ⟨Tryd.f126, _, Tryd.func126, rfl, k126⟩
              · cases h
            · skip
              rcases cond_some h with ⟨hb, h⟩ | ⟨_, h⟩
              · obtain rfl := Nat.eq_of_beq_eq_true hb; cases h; exact Or.inl ⟨Tryd.f127, _, Tryd.func127, rfl, k127⟩
              · cases h
          · skip
            rcases cond_some h with ⟨_, h⟩ | ⟨_, h⟩
            · skip
              rcases cond_some h with ⟨hb, h⟩ | ⟨_, h⟩
              · obtain rfl := Nat.eq_of_beq_eq_true hb; cases h; exact Or.inl ⟨Tryd.f128, _, Tryd.func128, rfl, k128⟩
              · cases h
            · skip
              rcases cond_some h with ⟨hb, h⟩ | ⟨_, h⟩
              · obtain rfl := Nat.eq_of_beq_eq_true hb; cases h; exact Or.inl ⟨Tryd.f129, _, Tryd.func129, rfl, k129⟩
              · cases h
    · skip
      rcases cond_some h with ⟨_, h⟩ | ⟨_, h⟩
      · skip
        rcases cond_some h with ⟨_, h⟩ | ⟨_, h⟩
        · skip
          rcases cond_some h with ⟨_, h⟩ | ⟨_, h⟩
          · skip
            rcases cond_some h with ⟨_, h⟩ | ⟨_, h⟩
            · skip
              rcases cond_some h with ⟨hb, h⟩ | ⟨_, h⟩
              · obtain rfl := Nat.eq_of_beq_eq_true hb; cases h; exact Or.inl ⟨Tryd.f130, _, Tryd.func130, rfl, k130⟩
              · cases h
            · skip
              rcases cond_some h with ⟨hb, h⟩ | ⟨_, h⟩
              · obtain rfl := Nat.eq_of_beq_eq_true hb; cases h; exact Or.inl ⟨Tryd.f131, _, Tryd.func131, rfl, k131⟩
              · cases h
          · skip
            rcases cond_some h with ⟨_, h⟩ | ⟨_, h⟩
            · skip
              rcases cond_some h with ⟨hb, h⟩ | ⟨_, h⟩
              · obtain rfl := Nat.eq_of_beq_eq_true hb; cases h; exact Or.inl ⟨Tryd.f132, _, Tryd.func132, rfl, k132⟩
              · cases h
            · skip
              rcases cond_some h with ⟨hb, h⟩ | ⟨_, h⟩
              · obtain rfl := Nat.eq_of_beq_eq_true hb; cases h; exact Or.inl ⟨Tryd.f133, _, Tryd.func133, rfl, k133⟩
              · cases h
        · skip
          rcases cond_some h with ⟨_, h⟩ | ⟨_, h⟩
          · skip
            rcases cond_some h with ⟨_, h⟩ | ⟨_, h⟩
            · skip
              rcases cond_some h with ⟨hb, h⟩ | ⟨_, h⟩
              · obtain rfl := Nat.eq_of_beq_eq_true hb; cases h; exact Or.inl ⟨Tryd.f134, _, Tryd.func134, rfl, k134⟩
              · cases h
            · skip
              rcases cond_some h with ⟨hb, h⟩ | ⟨_, h⟩
              · obtain rfl := Nat.eq_of_beq_eq_true hb; cases h; exact Or.inl ⟨Tryd.f135, _, Tryd.func135, rfl, k135⟩
              · cases h
          · skip
            rcases cond_some h with ⟨_, h⟩ | ⟨_, h⟩
            · skip
              rcases cond_some h with ⟨hb, h⟩ | ⟨_, h⟩
              · obtain rfl := Nat.eq_of_beq_eq_true hb; cases h; exact Or.inl ⟨Tryd.f136, _, Tryd.func136, rfl, k136⟩
              · cases h
            · skip
              rcases cond_some h with ⟨hb, h⟩ | ⟨_, h⟩
              · obtain rfl := Nat.eq_of_beq_eq_true hb; cases h; exact Or.inl ⟨Tryd.f137, _, Tryd.func137, rfl, k137⟩
              · cases h
      · skip
        rcases cond_some h with ⟨_, h⟩ | ⟨_, h⟩
        · skip
          rcases cond_some h with ⟨_, h⟩ | ⟨_, h⟩
          · skip
            rcases cond_some h with ⟨_, h⟩ | ⟨_, h⟩
            · skip
              rcases cond_some h with ⟨hb, h⟩ | ⟨_, h⟩
              · obtain rfl := Nat.eq_of_beq_eq_true hb; cases h; exact Or.inl ⟨Tryd.f138, _, Tryd.func138, rfl, k138⟩
              · cases h
            · skip
              rcases cond_some h with ⟨hb, h⟩ | ⟨_, h⟩
              · obtain rfl := Nat.eq_of_beq_eq_true hb; cases h; exact Or.inl ⟨Tryd.f139, _, Tryd.func139, rfl, k139⟩
              · cases h
          · skip
            rcases cond_some h with ⟨_, h⟩ | ⟨_, h⟩
            · skip
              rcases cond_some h with ⟨hb, h⟩ | ⟨_, h⟩
              · obtain rfl := Nat.eq_of_beq_eq_true hb; cases h; exact Or.inl ⟨Tryd.f140, _, Tryd.func140, rfl, k140⟩
              · cases h
            · skip
              rcases cond_some h with ⟨hb, h⟩ | ⟨_, h⟩
              · obtain rfl := Nat.eq_of_beq_eq_true hb; cases h; exact Or.inl ⟨Tryd.f141, _, Tryd.func141, rfl, k141⟩
              · cases h
        · skip
          rcases cond_some h with ⟨_, h⟩ | ⟨_, h⟩
          · skip
            rcases cond_some h with ⟨_, h⟩ | ⟨_, h⟩
            · skip
              rcases cond_some h with ⟨hb, h⟩ | ⟨_, h⟩
              · obtain rfl := Nat.eq_of_beq_eq_true hb; cases h; exact Or.inl ⟨Tryd.f142, _, Tryd.func142, rfl, k142⟩
              · cases h
            · skip
              rcases cond_some h with ⟨hb, h⟩ | ⟨_, h⟩
              · obtain rfl := Nat.eq_of_beq_eq_true hb; cases h; exact Or.inl ⟨Tryd.f143, _, Tryd.func143, rfl, k143⟩
              · cases h
          · skip
            rcases cond_some h with ⟨_, h⟩ | ⟨_, h⟩
            · skip
              rcases cond_some h with ⟨hb, h⟩ | ⟨_, h⟩
              · obtain rfl := Nat.eq_of_beq_eq_true hb; cases h; exact Or.inl ⟨Tryd.f144, _, Tryd.func144, rfl, k144⟩
              · cases h
            · skip
              rcases cond_some h with ⟨hb, h⟩ | ⟨_, h⟩
              · obtain rfl := Nat.eq_of_beq_eq_true hb; cases h; exact Or.inl ⟨Tryd.f145, _, Tryd.func145, rfl, k145⟩
              · cases h
end Go.Am
namespace Go.Proofs.YtcklaifhanehmaaDoor.Laid
open Go.ChangeShapes Go.WideShapes Go.ChangeAt Go.RowKit Go.Am
theorem own : ownKnob Tryd.prog.godebug = none := by kernel_rfl
theorem laidOut : laidOutB Tryd.prog = true := by kernel_rfl
theorem rowed : mapsRowed Tryd.prog = true := by kernel_rfl
theorem full : ∀ t e, t < Tryd.prog.types.size → Tryd.prog.underlying t = some (.slice e) → 0 < Tryd.prog.cellsOf e := slices_full_of Tryd.prog (by kernel_rfl)
theorem around_cells {W : World} : ∀ t ∈ aroundT, ∀ (i : Nat) (v : AVal), t.2[i]? = some v → ∃ x, emb (fun _ => none) v = some x ∧ W.cell? ⟨t.1, i, none⟩ = some x := by
  intro t ht; cases ht
noncomputable def laidWorld (os : Os) : World :=
  let h := (World.holding Tryd.prog os ⟨#[], #[], []⟩).heap
  let h := h.modify 3 fun
    | .cells _ t frozen => .cells #[.int .u64 1, .int .u64 10, .int .u64 100, .int .u64 1000, .int .u64 10000, .int .u64 100000, .int .u64 1000000, .int .u64 10000000, .int .u64 100000000, .int .u64 1000000000, .int .u64 10000000000, .int .u64 100000000000, .int .u64 1000000000000, .int .u64 10000000000000, .int .u64 100000000000000, .int .u64 1000000000000000, .int .u64 10000000000000000, .int .u64 100000000000000000, .int .u64 1000000000000000000, .int .u64 10000000000000000000] t frozen
    | o => o
  let h := h.modify 4 fun
    | .cells _ t frozen => .cells #[.int .u8 0, .int .u8 1, .int .u8 28, .int .u8 2, .int .u8 29, .int .u8 14, .int .u8 24, .int .u8 3, .int .u8 30, .int .u8 22, .int .u8 20, .int .u8 15, .int .u8 25, .int .u8 17, .int .u8 4, .int .u8 8, .int .u8 31, .int .u8 27, .int .u8 13, .int .u8 23, .int .u8 21, .int .u8 19, .int .u8 16, .int .u8 7, .int .u8 26, .int .u8 12, .int .u8 18, .int .u8 6, .int .u8 11, .int .u8 5, .int .u8 10, .int .u8 9] t frozen
    | o => o
  let h := h.modify 5 fun
    | .cells _ t frozen => .cells #[.int .u8 0, .int .u8 1, .int .u8 56, .int .u8 2, .int .u8 57, .int .u8 49, .int .u8 28, .int .u8 3, .int .u8 61, .int .u8 58, .int .u8 42, .int .u8 50, .int .u8 38, .int .u8 29, .int .u8 17, .int .u8 4, .int .u8 62, .int .u8 47, .int .u8 59, .int .u8 36, .int .u8 45, .int .u8 43, .int .u8 51, .int .u8 22, .int .u8 53, .int .u8 39, .int .u8 33, .int .u8 30, .int .u8 24, .int .u8 18, .int .u8 12, .int .u8 5, .int .u8 63, .int .u8 55, .int .u8 48, .int .u8 27, .int .u8 60, .int .u8 41, .int .u8 37, .int .u8 16, .int .u8 46, .int .u8 35, .int .u8 44, .int .u8 21, .int .u8 52, .int .u8 32, .int .u8 23, .int .u8 11, .int .u8 54, .int .u8 26, .int .u8 40, .int .u8 15, .int .u8 34, .int .u8 20, .int .u8 31, .int .u8 10, .int .u8 25, .int .u8 14, .int .u8 19, .int .u8 9, .int .u8 13, .int .u8 8, .int .u8 7, .int .u8 6] t frozen
    | o => o
  { World.holding Tryd.prog os ⟨#[], #[], []⟩ with heap := h }
end Go.Proofs.YtcklaifhanehmaaDoor.Laid
namespace Go.Am
open Go Go.RowKit Go.ChangeShapes Go.WideShapes
def PtrsIn (ptrs : List Nat) (H : AHeap) : Prop := ∀ g ∈ ptrs, ∃ t u, g < H.n ∧ H.get g = .row [.iface t u] false 0
theorem PtrsIn.ext {ptrs : List Nat} {H H' : AHeap} (h : PtrsIn ptrs H) (x : Ext H H') : PtrsIn ptrs H' := fun g hg => by
  obtain ⟨t, u, h1, h2⟩ := h g hg
  exact ⟨t, u, Nat.lt_of_lt_of_le h1 x.n, by rw [x.get g h1]; exact h2⟩
theorem tableObj_dead {g : Nat} : ∀ {T : List (Nat × List AVal)}, (T.any fun t => Nat.beq t.1 g) = false → tableObj T g = .dead
  | [], _ => rfl
  | (k, cs) :: T, h => by
    simp only [List.any_cons, Bool.or_eq_false_iff] at h
    have h1 : Nat.beq g k = false := by
      cases hb : Nat.beq g k with
      | false => rfl
      | true => have := Nat.eq_of_beq_eq_true hb; rw [this] at h; simp at h
    simp only [tableObj, h1, cond_false]
    exact tableObj_dead h.2
theorem pgn {H : AHeap} {o : AObj} {r : Nat} (h : r ≠ H.n) : (H.push o).get r = H.get r := by simp [AHeap.push, nbeq_ne h]
section
variable {P : Program} {S : Base} {m : RMap} {H : AHeap} {w : World}
theorem HRel.fillRow (h : HRel S m H w) (hro : RO H) {g : Nat} {a : Addr} {k : Nat} {cs : List AVal} (hd : H.get g = .dead) (hp : m g = some (a, k)) (hk : cs.length ≤ k) (hc : ∀ (i : Nat) (v : AVal), cs[i]? = some v → ∃ x, emb m v = some x ∧ w.cell? (a.add i) = some x) :
    HRel S m (H.set g (.row cs false 0)) w ∧ RO (H.set g (.row cs false 0)) := by
  have hro' : RO (H.set g (.row cs false 0)) := fun r cs' rw e hg => by
    by_cases hr : r = g
    · subst hr; rw [set_get_eq] at hg; cases hg; rfl
    · rw [set_get_ne hr] at hg; exact hro r cs' rw e hg
  refine ⟨⟨h.below, h.size, h.glob, h.fresh, h.away, fun r cs' rw e p hr hg hp' => ?_, fun r s cs' rw e cs2 e2 p q hr hs hne hg1 hg2 => ?_, h.loops.move (Le.refl _) (fun _ _ _ e => e) fun r o p ho hr hg hp' => ?_⟩, hro'⟩
  · by_cases hrg : r = g
    · subst hrg
      rw [set_get_eq] at hg; cases hg
      rw [hp] at hp'; cases hp'
      exact ⟨hc, hk, fun q => by cases q⟩
    · rw [set_get_ne hrg] at hg
      exact h.row r cs' rw e p hr hg hp'
  · have := hro' _ _ _ _ hg2
    cases this
  · by_cases hrg : r = g
    · subst hrg; rw [set_get_eq] at hg; subst hg; cases ho
    · rw [set_get_ne hrg] at hg
      exact ⟨hr, hg, hp'⟩
theorem fillPtrs {L G : Nat} (hgh : ∀ r, ¬ S.ghost r) : ∀ (ptrs : List Nat) (m : RMap) (H : AHeap), ptrs.Nodup → HRel S m H w → RO H → G ≤ H.n → (∀ g ∈ ptrs, g < G ∧ H.get g = .dead ∧ m g = some (⟨g, 0, none⟩, L + 1)) →
    (∀ g ∈ ptrs, ∃ t v a, (v = .pointer (some a) ∨ v = .agg #[.pointer (some a)]) ∧ w.cell? ⟨g, 0, none⟩ = some (.iface t v)) →
    ∃ H' m', HRel S m' H' w ∧ RO H' ∧ G ≤ H'.n ∧ (∀ g, g < G → g ∉ ptrs → H'.get g = H.get g) ∧ PtrsIn ptrs H' := by
  intro ptrs
  induction ptrs with
  | nil => intro m H _ h hro hn _ _; exact ⟨H, m, h, hro, hn, fun _ _ _ => rfl, fun g hg => by cases hg⟩
  | cons g ptrs ih =>
    intro m H hnd h hro hn hd hc
    obtain ⟨t, v, a, hv, hcell⟩ := hc g (by simp)
    obtain ⟨hgG, hgd, hgm⟩ := hd g (by simp)
    obtain ⟨l1, r1, o1⟩ := h.addRow hro hgh (cs := []) (a := a) (fun i v hi => by simp at hi)
    have hgn : g ≠ H.n := by omega
    have hex : ∃ u, emb (m.add H.n (a, ([] : List AVal).length)) (.iface t u) = some (.iface t v) := by
      rcases hv with rfl | rfl
      · exact ⟨.ptr H.n 0, by simp [emb, add_eq, Addr.add_zero']⟩
      · exact ⟨.agg [.ptr H.n 0], by simp [emb, embL, add_eq, Addr.add_zero']⟩
    obtain ⟨u, hu⟩ := hex
    obtain ⟨r2, o2⟩ := r1.fillRow (g := g) (cs := [.iface t u]) o1 (by rw [pgn hgn]; exact hgd) (l1 _ _ hgm) (by simp) (fun i x hi => by
      cases i with
      | zero => simp at hi; subst hi; exact ⟨_, hu, by simpa [Addr.add] using hcell⟩
      | succ i => simp at hi)
    have hnd' := List.nodup_cons.1 hnd
    obtain ⟨H', m', r3, o3, n3, s3, p3⟩ := ih _ _ hnd'.2 r2 o2 (by simp only [AHeap.set, AHeap.push]; omega) (fun g' hg' => by
      obtain ⟨k1, k2, k3⟩ := hd g' (by simp [hg'])
      have hne : g' ≠ g := fun e => hnd'.1 (by rw [← e]; exact hg')
      exact ⟨k1, by rw [set_get_ne hne, pgn (by omega)]; exact k2, l1 _ _ k3⟩) (fun g' hg' => hc g' (by simp [hg']))
    refine ⟨H', m', r3, o3, n3, fun g' hg' hno => ?_, fun g' hg' => ?_⟩
    · simp only [List.mem_cons, not_or] at hno
      rw [s3 g' hg' hno.2, set_get_ne hno.1, pgn (by omega)]
    · rcases List.mem_cons.1 hg' with rfl | hg'
      · exact ⟨t, u, by omega, by rw [s3 g' hgG hnd'.1, set_get_eq]⟩
      · exact p3 g' hg'
end
theorem trod_ptr_cells {Hd : Type} {enc : TypeId × Value → Hd} {P : Program} {w : World} {base : Nat} {spare : Nat → Bool} {held : Bool} {fuel : Nat} {t : TypeId} {cs : List Value} {x : DataW Hd × List MemPlace} {d : DataW Hd}
    (h : DataW.trod enc P w base spare held fuel t cs = some x) (hx : x.1 = .ptr d) : ∃ a, cs = [.pointer (some a)] := by
  cases fuel with
  | zero => simp [DataW.trod] at h
  | succ n =>
    unfold DataW.trod at h
    split at h
    all_goals first
      | exact ⟨_, rfl⟩
      | (cases h; cases hx; done)
      | (split at h <;> first | (cases h; done) | (cases h; cases hx; done); done)
      | (obtain ⟨y, _, rfl⟩ := some_map h; cases hx; done)
      | skip
    · simp only [] at h
      split at h
      · obtain ⟨y, _, h2⟩ := some_bind h
        obtain ⟨z, _, rfl⟩ := some_map h2
        cases hx
      · cases h
    · split at h
      · obtain ⟨y, _, rfl⟩ := some_map h
        cases hx
      · cases h
    · split at h
      · obtain ⟨y, _, rfl⟩ := some_map h
        cases hx
      · cases h
    · split at h
      · cases h; cases hx
      · obtain ⟨y, _, rfl⟩ := some_map h
        cases hx
      · cases h
    · split at h
      · split at h
        · obtain ⟨y, _, h2⟩ := some_bind h
          simp only [] at h2
          split at h2
          · cases h2; cases hx
          · cases h2
        · cases h
      · cases h
    all_goals (cases h; done)
theorem laid_ptr {P : Program} {w : World} {l : List (String × DataW Unit)} (h : laidMet P l w) {name tn : String} {d : DataW Unit} (hmem : (name, .iface tn (.ptr d)) ∈ l) {g : Nat} {t : TypeId} {ms : Array (String × TypeId)}
    (hg : P.globalNamed name = some g) (ht : (P.globals[g]?).map (·.type) = some t) (hu : P.underlying t = some (.interface ms)) : ∃ t v a, (v = .pointer (some a) ∨ v = .agg #[.pointer (some a)]) ∧ w.cell? ⟨g, 0, none⟩ = some (.iface t v) := by
  obtain ⟨ps, h1, _⟩ := h
  obtain ⟨g', t', cs, fuel, p, h2, h3, h4, h5⟩ := laid_mem h1 _ hmem
  simp only at h2 h4 h5
  obtain rfl := Option.some.inj (hg.symm.trans h2)
  obtain rfl := Option.some.inj (ht.symm.trans h3)
  have key : ∃ u v a, (v = .pointer (some a) ∨ v = .agg #[.pointer (some a)]) ∧ cs.toList = [.iface u v] := by
    cases fuel with
    | zero => simp [DataW.trod] at h5
    | succ n =>
      unfold DataW.trod at h5
      rw [hu] at h5
      split at h5
      all_goals first
        | (rename_i q1 q2; cases q1; done)
        | (rename_i q1; cases q1; done)
        | (cases h5; done)
        | skip
      · rename_i u v q1 q2
        split at h5
        · injection h5 with e1; injection e1 with e2 _; cases e2
        · obtain ⟨y, h6, h7⟩ := some_map h5
          have h8 : y.1 = .ptr d := by injection h7 with e1 _; injection e1
          obtain ⟨a, ha⟩ := trod_ptr_cells h6 h8
          refine ⟨u, v, a, ?_, q2⟩
          cases v <;> simp [Value.cells] at ha <;> first | (subst ha; exact Or.inl rfl) | skip
          · rename_i c
            exact Or.inr (congrArg Value.agg (Array.ext' ha))
        · cases h5
  obtain ⟨u, v, a, hv, hcs⟩ := key
  refine ⟨u, v, a, hv, ?_⟩
  simp only [World.var?, hg, Option.bind_some] at h4
  split at h4
  · rename_i cs' e' fz hh
    cases h4
    have : cs[0]? = some (.iface u v) := by rw [← Array.getElem?_toList, hcs]; rfl
    simp [World.cell?, hh, this]
  · cases h4
end Go.Am
namespace Go.Am
open Go Go.RowKit Go.ChangeShapes Go.WideShapes
def ShapeW (P : Program) (H : AHeap) : Nat → TypeId → List AVal → Prop
  | 0, _, _ => False
  | n + 1, t, cs => match P.underlying t with
    | some .bool => ∃ b, cs = [.bool b]
    | some .string => ∃ s : ByteArray, cs = [.str s] ∧ s.size ≤ reachBytes
    | some (.int k) => ∃ i, cs = [.int k i] ∧ (Lit.int k i).wf = true
    | some (.slice e) => ∃ p len cells, cs = [p] ∧ SliceAt H p (P.cellsOf e) len cells ∧ len * P.bytesOf e ≤ reachBytes ∧ shapes (ShapeW P H n) (List.replicate len e) cells
    | some (.struct fs) => shapes (ShapeW P H n) (fs.toList.map fun f => f.type) cs
    | some (.array k e) => shapes (ShapeW P H n) (List.replicate k e) cs
    | _ => False
theorem ShapeW.ext {P : Program} {H H' : AHeap} (x : Ext H H') : ∀ {n : Nat} {t : TypeId} {cs : List AVal}, ShapeW P H n t cs → ShapeW P H' n t cs := by
  intro n
  induction n with
  | zero => intro t cs h; exact h
  | succ n ih =>
    intro t cs h
    cases hu : P.underlying t with
    | none => simp only [ShapeW, hu] at h
    | some d => cases d with
      | slice e =>
        simp only [ShapeW, hu] at h ⊢
        obtain ⟨p, len, cells, h1, h2, h3, h4⟩ := h
        haveI : ExtI H H' := ⟨x⟩
        exact ⟨p, len, cells, h1, inferInstance, h3, shapes_mono (fun t a => ih) h4⟩
      | struct fs => simp only [ShapeW, hu] at h ⊢; exact shapes_mono (fun t a => ih) h
      | array k e => simp only [ShapeW, hu] at h ⊢; exact shapes_mono (fun t a => ih) h
      | _ => simp only [ShapeW, hu] at h ⊢ <;> exact h
theorem shapesW_ext {P : Program} {H H' : AHeap} (x : Ext H H') {n : Nat} {ts : List TypeId} {cs : List AVal} (h : shapes (ShapeW P H n) ts cs) : shapes (ShapeW P H' n) ts cs := shapes_mono (fun _ _ => ShapeW.ext x) h
def Slim (P : Program) {Hd : Type} (t : TypeId) (d : DataW Hd) : Prop := ∀ n ∈ d.weights P t, n ≤ reachBytes
theorem mem_weightsAll {P : Program} {Hd : Type} {e : TypeId} {d : DataW Hd} : ∀ {l : List (DataW Hd)}, d ∈ l → ∀ n ∈ d.weights P e, n ∈ DataW.weightsAll P e l
  | x :: r, h, n, hn => by
    simp only [DataW.weightsAll, List.mem_append]
    rcases List.mem_cons.1 h with rfl | h
    · exact Or.inl hn
    · exact Or.inr (mem_weightsAll h n hn)
section
variable {P : Program} {Hd : Type} {t e : TypeId}
theorem slim_str {s : List UInt8} (h : Slim P t (DataW.lit (H := Hd) (.string s))) : s.length ≤ reachBytes := h _ (by simp [DataW.weights])
theorem slim_slice {es sp : List (DataW Hd)} (hu : P.underlying t = some (.slice e)) (h : Slim P t (.slice es sp)) : (es.length + sp.length) * P.bytesOf e ≤ reachBytes ∧ ∀ d ∈ es, Slim P e d :=
  ⟨h _ (by simp [DataW.weights, hu]), fun d hd n hn => h n (by simp only [DataW.weights, hu, List.mem_cons, List.mem_append]; exact Or.inr (Or.inl (mem_weightsAll hd n hn)))⟩
theorem slim_struct {fs : Array Field} {ds : List (DataW Hd)} (hu : P.underlying t = some (.struct fs)) (h : Slim P t (.agg ds)) {i : Nat} {f : Field} {d : DataW Hd} (hf : fs.toList[i]? = some f) (hd : ds[i]? = some d) : Slim P f.type d :=
  fun n hn => h n (by simp only [DataW.weights, hu]; exact DataW.weights_mem_each (by rw [List.getElem?_map, hf]; rfl) hd n hn)
theorem slim_array {k : Nat} {ds : List (DataW Hd)} (hu : P.underlying t = some (.array k e)) (h : Slim P t (.agg ds)) {i : Nat} {d : DataW Hd} (hd : ds[i]? = some d) : Slim P e d :=
  fun n hn => h n (by simp only [DataW.weights, hu]; exact mem_weightsAll (List.mem_of_getElem? hd) n hn)
end
section
variable {P : Program} {S : Base} {m : RMap} {H : AHeap} {w : World}
variable {Hd : Type} {enc : TypeId × Value → Hd} {base : Nat} {spare : Nat → Bool} {held : Bool} {T : TypeId → Prop}
theorem open_piecesW {n f : Nat} (hgh : ∀ r, ¬ S.ghost r)
    (ih : ∀ (t : TypeId) (cs : List Value) (x : DataW Hd × List MemPlace) (m : RMap) (H : AHeap), T t → plainT P n t = true → DataW.trod enc P w base spare held f t cs = some x → Slim P t x.1 → HRel S m H w → RO H → Opened P S w m H cs fun H' acs => ShapeW P H' n t acs) :
    ∀ (ts : List TypeId) (pieces : List (List Value)) (m : RMap) (H : AHeap), ts.length = pieces.length → (∀ t ∈ ts, T t ∧ plainT P n t = true) → (∀ (i : Nat) (t : TypeId) (cs : List Value), ts[i]? = some t → pieces[i]? = some cs → ∃ x, DataW.trod enc P w base spare held f t cs = some x ∧ Slim P t x.1) → HRel S m H w → RO H →
    Opened P S w m H pieces.flatten fun H' acs => shapes (ShapeW P H' n) ts acs := by
  intro ts
  induction ts with
  | nil =>
    intro pieces m H hl _ _ h hro
    have : pieces = [] := List.eq_nil_of_length_eq_zero (by simpa using hl.symm)
    subst this
    exact ⟨H, m, [], Ext.refl H, Le.refl m, h, hro, by simp [embL], rfl⟩
  | cons t ts iht =>
    intro pieces m H hl hT hx h hro
    cases pieces with
    | nil => simp at hl
    | cons cs pieces =>
      obtain ⟨x, hx0, hs0⟩ := hx 0 t cs rfl rfl
      obtain ⟨ht, hp⟩ := hT t (by simp)
      obtain ⟨H1, m1, a, e1, l1, r1, o1, b1, s1⟩ := ih t cs x m H ht hp hx0 hs0 h hro
      obtain ⟨H2, m2, b, e2, l2, r2, o2, b2, s2⟩ := iht pieces m1 H1 (by simpa using hl) (fun t h => hT t (by simp [h])) (fun i t cs h1 h2 => hx (i + 1) t cs (by simpa using h1) (by simpa using h2)) r1 o1
      exact ⟨H2, m2, a ++ b, e1.trans e2, Le.trans l1 l2, r2, o2, by rw [List.flatten_cons]; exact embL_append (embL_mono l2 _ _ b1) b2, a, b, rfl, s1.ext e2, s2⟩
theorem open_trodW (hgh : ∀ r, ¬ S.ghost r) (K : Kids P T) (hz : ∀ t e, T t → P.underlying t = some (.slice e) → 0 < P.cellsOf e) : ∀ (n f : Nat) (t : TypeId) (cs : List Value) (x : DataW Hd × List MemPlace) (m : RMap) (H : AHeap), T t → plainT P n t = true →
    DataW.trod enc P w base spare held f t cs = some x → Slim P t x.1 → HRel S m H w → RO H → Opened P S w m H cs fun H' acs => ShapeW P H' n t acs := by
  intro n
  induction n with
  | zero => intro f t cs x m H _ hp; simp [plainT] at hp
  | succ n ih =>
    intro f t cs x m H hT hp hx hsl h hro
    unfold plainT at hp
    split at hp <;> rename_i hu
    · obtain ⟨b, rfl, _⟩ := DataW.trod_bool hu hx
      exact ⟨H, m, [.bool b], Ext.refl H, Le.refl m, h, hro, by simp [embL, emb], by simp [ShapeW, hu]⟩
    · obtain ⟨s, rfl, hxe, hs⟩ := DataW.trod_string hu hx
      exact ⟨H, m, [.str s], Ext.refl H, Le.refl m, h, hro, by simp [embL, emb], by simp only [ShapeW, hu]; exact ⟨s, rfl, slim_str (by rw [hxe] at hsl; exact hsl)⟩⟩
    · rename_i k
      obtain ⟨i, rfl, _, hw⟩ := DataW.trod_int hu hx
      exact ⟨H, m, [.int k i], Ext.refl H, Le.refl m, h, hro, by simp [embL, emb], by simp [ShapeW, hu, hw]⟩
    · -- slice
      rename_i e
      have he := K.slice hT hu
      have hz0 := hz t e hT hu
      rcases DataW.trod_slice hu hx with ⟨rfl, _⟩ | ⟨a, len, cap, elems, rest, n', hn', rfl, hxe, hb, hcond1, hcond2, hlen0, hel, _, _⟩
      · exact ⟨H, m, [.nslice], Ext.refl H, Le.refl m, h, hro, by simp [embL, emb], by simp only [ShapeW, hu]; exact ⟨.nslice, 0, [], rfl, ⟨Or.inl ⟨rfl, rfl, rfl⟩⟩, by simp, rfl⟩⟩
      · subst hn'
        rw [hxe] at hsl
        obtain ⟨hwt, hsm⟩ := slim_slice hu hsl
        have key : ∀ (k : Nat), k ≤ len → ∃ pieces : List (List Value), pieces.length = k ∧ ∀ i, i < k → ∃ cs x, pieces[i]? = some cs ∧ w.cells? base (a.add (i * P.cellsOf e)) (P.cellsOf e) = some cs ∧ DataW.trod enc P w base spare held n' e cs = some x ∧ Slim P e x.1 := by
          intro k
          induction k with
          | zero => intro _; exact ⟨[], rfl, fun i h => by omega⟩
          | succ k ihk =>
            intro hk
            obtain ⟨pieces, h7, h8⟩ := ihk (by omega)
            have h9 := hel k (by omega)
            rw [List.getElem?_eq_getElem (by omega)] at h9
            obtain ⟨cs, h10, h11⟩ := some_bind h9
            have h12 : Slim P e (elems[k]'(by omega)).1 := hsm _ (List.mem_map.2 ⟨_, List.getElem_mem (by omega), rfl⟩)
            refine ⟨pieces ++ [cs], by simp [h7], fun i hi => ?_⟩
            by_cases hik : i < k
            · obtain ⟨c, x, q1, q2, q3⟩ := h8 i hik
              exact ⟨c, x, by rw [List.getElem?_append_left (by omega)]; exact q1, q2, q3⟩
            · obtain rfl : i = k := by omega
              exact ⟨cs, _, by rw [List.getElem?_append_right (by omega)]; simp [h7], h10, h11, h12⟩
        obtain ⟨pieces, hpl, hpi'⟩ := key len (Nat.le_refl _)
        skip
        obtain ⟨H1, m1, acs, e1, l1, r1, o1, b1, s1⟩ := open_piecesW (P := P) (T := T) (n := n) (f := n') (enc := enc) (base := base) (spare := spare) (held := held) hgh (ih n') (List.replicate len e) pieces m H (by simp [hpl]) (fun t ht => by rw [(List.mem_replicate.1 ht).2]; exact ⟨he, hp⟩)
          (fun i t cs h3 h4 => by
            have hi : i < len := by have := (List.getElem?_eq_some_iff.1 h3).1; simpa using this
            obtain ⟨c, x, q1, q2, q3⟩ := hpi' i hi
            rw [List.getElem?_replicate, if_pos hi] at h3
            cases h3
            rw [q1] at h4; cases h4
            exact ⟨x, q3.1, q3.2⟩) h hro
        have hall : ∀ c ∈ pieces, c.length = P.cellsOf e := fun c hc => by
          obtain ⟨i, hi⟩ := List.getElem?_of_mem hc
          have hlt : i < len := by have := (List.getElem?_eq_some_iff.1 hi).1; omega
          obtain ⟨c', x, q1, q2, q3⟩ := hpi' i hlt
          rw [hi] at q1; cases q1
          exact (cells?_len q2).1
        have hcells : ∀ (i : Nat) (x : Value), pieces.flatten[i]? = some x → w.cell? (a.add i) = some x := by
          have gen : ∀ (ps : List (List Value)) (o : Nat), (∀ c ∈ ps, c.length = P.cellsOf e) → (∀ i c, ps[i]? = some c → ∀ k x, c[k]? = some x → w.cell? (a.add ((o + i) * P.cellsOf e + k)) = some x) → ∀ (i : Nat) (x : Value), ps.flatten[i]? = some x → w.cell? (a.add (o * P.cellsOf e + i)) = some x := by
            intro ps
            induction ps with
            | nil => intro o _ _ i x h; simp at h
            | cons c ps ihp =>
              intro o hl hc i x hi
              rw [List.flatten_cons] at hi
              have hcl := hl c (by simp)
              by_cases hic : i < c.length
              · rw [List.getElem?_append_left hic] at hi
                simpa using hc 0 c rfl i x hi
              · rw [List.getElem?_append_right (by omega)] at hi
                have := ihp (o + 1) (fun c h => hl c (by simp [h])) (fun j c hj k x hk => by
                  have := hc (j + 1) c (by simpa using hj) k x hk
                  rwa [show o + (j + 1) = o + 1 + j by omega] at this) (i - c.length) x hi
                have e3 : (o + 1) * P.cellsOf e + (i - c.length) = o * P.cellsOf e + i := by rw [Nat.add_mul]; omega
                rwa [e3] at this
          intro i x hi
          have := gen pieces 0 hall (fun j c hj k x hk => by
            have hlt : j < len := by have := (List.getElem?_eq_some_iff.1 hj).1; omega
            obtain ⟨c', y, q1, q2, q3⟩ := hpi' j hlt
            rw [hj] at q1; cases q1
            have := (cells?_len q2).2 k x hk
            rw [add_add] at this
            simpa using this) i x hi
          simpa using this
        have hflen : acs.length = len * P.cellsOf e := by
          have h3 := embL_length b1
          rw [← h3]
          have : ∀ (ps : List (List Value)), (∀ c ∈ ps, c.length = P.cellsOf e) → ps.flatten.length = ps.length * P.cellsOf e := by
            intro ps
            induction ps with
            | nil => intro _; simp
            | cons c ps ihp => intro hl; rw [List.flatten_cons, List.length_append, hl c (by simp), ihp (fun c h => hl c (by simp [h])), List.length_cons, Nat.add_mul]; omega
          rw [this pieces hall, hpl]
        obtain ⟨g1, g2, g3⟩ := r1.addRow o1 hgh (cs := acs) (a := a) (fun i v hi => by
          obtain ⟨x, q1, q2⟩ := embL_get b1 hi
          exact ⟨x, q1, hcells i x q2⟩)
        refine ⟨H1.push (.row acs false 0), _, [.slice H1.n 0 len (some cap) (P.cellsOf e)], e1.push _, Le.trans l1 g1, g2, g3, ?_, ?_⟩
        · simp [embL, emb, add_eq, capR, Addr.add]
        · simp only [ShapeW, hu]
          refine ⟨_, len, acs, rfl, ⟨Or.inr ⟨H1.n, 0, some cap, acs, false, 0, rfl, Nat.lt_succ_self _, push_get_eq, by omega, ?_, by simp only [capD]; omega⟩⟩, by rw [List.length_map, hlen0] at hwt; exact Nat.le_trans (Nat.mul_le_mul_right _ (Nat.le_add_right _ _)) hwt, shapesW_ext ((Ext.refl H1).push _) s1⟩
          rw [List.drop_zero, List.take_of_length_le (by omega)]
    · -- struct
      rename_i fs
      obtain ⟨hk1, hk2, hk3⟩ := K.struct hT hu
      obtain ⟨xs, n', hn', hxe, hlen, hxl, hxs⟩ := DataW.trod_struct hu hx
      subst hn'
      rw [hxe] at hsl
      have key : ∀ (i : Nat) (f : Field), fs.toList[i]? = some f → ∃ x, DataW.trod enc P w base spare held n' f.type ((cs.drop f.offset).take (P.cellsOf f.type)) = some x ∧ Slim P f.type x.1 := fun i f hf => by
        have hlt : i < fs.size := by have := (List.getElem?_eq_some_iff.1 hf).1; simpa using this
        have := hxs i f (by simpa using hf)
        rw [List.getElem?_eq_getElem (by omega)] at this
        exact ⟨_, this, slim_struct hu hsl (i := i) hf (by rw [List.getElem?_map, List.getElem?_eq_getElem (by omega)]; rfl)⟩
      have hsz : (fs.toList.map fun f => P.cellsOf f.type).length = fs.toList.length := by simp
      have hcut := flatten_cut (fs.toList.map fun f => P.cellsOf f.type) cs (by rw [hlen, hk2])
      obtain ⟨H1, m1, acs, e1, l1, r1, o1, b1, s1⟩ := open_piecesW (P := P) (T := T) (n := n) (f := n') (enc := enc) (base := base) (spare := spare) (held := held) hgh (ih n') (fs.toList.map fun f => f.type) _ m H (by simp [hsz] : _ = ((List.range (fs.toList.map fun f => P.cellsOf f.type).length).map fun i => (cs.drop ((fs.toList.map fun f => P.cellsOf f.type).take i).sum).take ((fs.toList.map fun f => P.cellsOf f.type).getD i 0)).length)
        (fun t ht => by
          obtain ⟨f, hf, rfl⟩ := List.mem_map.1 ht
          exact ⟨hk1 f hf, List.all_eq_true.1 hp f hf⟩)
        (fun i t c h3 h4 => by
          rw [List.getElem?_map] at h3
          obtain ⟨f, hf, rfl⟩ := some_map h3
          obtain ⟨x, hx1, hx2⟩ := key i f hf
          have hi : i < fs.toList.length := (List.getElem?_eq_some_iff.1 hf).1
          rw [List.getElem?_map, List.getElem?_range (by simpa using hi)] at h4
          simp only [Option.map_some, Option.some.injEq] at h4
          have h5 : (fs.toList.map fun f => P.cellsOf f.type).getD i 0 = P.cellsOf f.type := by simp only [List.getD_eq_getElem?_getD, List.getElem?_map, hf, Option.map_some, Option.getD_some]
          have h6 := hk3 i f hf
          rw [List.map_take] at h6
          rw [h5, ← h6] at h4
          subst h4
          exact ⟨x, hx1, hx2⟩) h hro
      rw [hcut] at b1
      exact ⟨H1, m1, acs, e1, l1, r1, o1, b1, by simp only [ShapeW, hu]; exact s1⟩
    · -- array
      rename_i k e
      obtain ⟨he, hsz⟩ := K.array hT hu
      obtain ⟨xs, n', hn', hxe, hlen, hxl, hxs⟩ := DataW.trod_array hu hx
      subst hn'
      rw [hxe] at hsl
      have key : ∀ (i : Nat), i < k → ∃ x, DataW.trod enc P w base spare held n' e ((cs.drop (i * P.cellsOf e)).take (P.cellsOf e)) = some x ∧ Slim P e x.1 := fun i hi => by
        have := hxs i hi
        rw [List.getElem?_eq_getElem (by omega)] at this
        exact ⟨_, this, slim_array hu hsl (i := i) (by rw [List.getElem?_map, List.getElem?_eq_getElem (by omega)]; rfl)⟩
      have hcut := flatten_cut (List.replicate k (P.cellsOf e)) cs (by rw [hlen, hsz]; simp)
      obtain ⟨H1, m1, acs, e1, l1, r1, o1, b1, s1⟩ := open_piecesW (P := P) (T := T) (n := n) (f := n') (enc := enc) (base := base) (spare := spare) (held := held) hgh (ih n') (List.replicate k e) _ m H (by simp : _ = ((List.range (List.replicate k (P.cellsOf e)).length).map fun i => (cs.drop ((List.replicate k (P.cellsOf e)).take i).sum).take ((List.replicate k (P.cellsOf e)).getD i 0)).length)
        (fun t ht => by rw [(List.mem_replicate.1 ht).2]; exact ⟨he, hp⟩)
        (fun i t c h3 h4 => by
          have hi : i < k := by have := (List.getElem?_eq_some_iff.1 h3).1; simpa using this
          rw [List.getElem?_replicate, if_pos hi] at h3
          cases h3
          obtain ⟨x, hx1, hx2⟩ := key i hi
          rw [List.getElem?_map, List.getElem?_range (by simpa using hi)] at h4
          simp only [Option.map_some, Option.some.injEq] at h4
          have h5 : (List.replicate k (P.cellsOf e)).getD i 0 = P.cellsOf e := by simp [List.getD_eq_getElem?_getD, List.getElem?_replicate, hi]
          have h6 : ((List.replicate k (P.cellsOf e)).take i).sum = i * P.cellsOf e := by simp [List.take_replicate, Nat.min_eq_left (Nat.le_of_lt hi)]
          rw [h5, h6] at h4
          subst h4
          exact ⟨x, hx1, hx2⟩) h hro
      rw [hcut] at b1
      exact ⟨H1, m1, acs, e1, l1, r1, o1, b1, by simp only [ShapeW, hu]; exact s1⟩
    · cases hp
end
end Go.Am
