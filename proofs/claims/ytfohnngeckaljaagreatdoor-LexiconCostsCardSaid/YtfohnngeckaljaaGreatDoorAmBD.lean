import Derived.Test.YtfohnngeckaljaaGreatDoorAmBC
import Derived.Lib.BytesEntry
import Derived.Laws.Externs
import Derived.Test.YtfohnngeckaljaaGreatDoorProg
import Derived.Test.YtfohnngeckaljaaGreatDoorCards
import Derived.Test.YtfohnngeckaljaaGreatDoorTie
import Derived.WalkKit
import Derived.ProofKit
import Derived.OpenShut
import Derived.Deep.DeepHandedRow
import Derived.Lib.LaidTab
set_option linter.unusedSimpArgs false
set_option linter.unusedVariables false
set_option maxRecDepth 100000
set_option maxHeartbeats 4000000
namespace Go.Am
open Go
def z28 : List AVal := List.replicate 28 (.int .i64 0)
def f28 : List AVal := List.replicate 28 (.bool false)
def aroundT : List (Nat × List AVal) := []
section
open Go.Am.ROpd renaming tmp → t, val → v
open Go.Am.ROp renaming mov → m, load → l, bin → b, idxS → a, fieldAddr → f, call → C, lenS → n, pick → p, store → S, extract → e
open Go.Am.AVal renaming int → i, bool → w, func → F, nslice → N
open Go.Am.RCode renaming seq → q, region → g, cond → c, block → B, loop → L, skip → k, exit → x, dregion → G, ret → R
open Go.IntKind renaming i64 → I
open Go.Fn renaming func → J
open Option renaming some → s, none → o
open Bool renaming true → T, false → U
def c4 : RFunc := ⟨64,.code (q (g [⟨s 6,m (v (w U)),o⟩]) (q (q (g [⟨s 12,m (t 0),o⟩,⟨s 13,C (v (F (J 24) [] [])) [t 12],o⟩,⟨s 14,m (t 13),o⟩,⟨s 15,m (t 1),s (14,U)⟩,⟨s 16,.lenStr (t 15),s (14,U)⟩,⟨s 17,b .gtr (t 16) (v (i I 60)),s (14,U)⟩,⟨s 18,p (t 14) (v (w T)) (t 17),o⟩,⟨s 19,m (t 18),o⟩,⟨s 20,m (t 2),s (19,U)⟩,⟨s 21,.lenStr (t 20),s (19,U)⟩,⟨s 22,b .gtr (t 21) (v (i I 60)),s (19,U)⟩,⟨s 23,p (t 19) (v (w T)) (t 22),o⟩]) (c (t 23) (q (g [⟨s 24,C (v (F (J 11) [] [])) [],o⟩,⟨s 6,m (t 24),o⟩]) R) k)) (q (g [⟨s 25,m (t 0),o⟩,⟨s 26,C (v (F (J 25) [] [])) [t 25],o⟩,⟨s 7,m (t 26),o⟩]) (q (g [⟨s 28,m (t 7),o⟩,⟨s 29,m (t 1),o⟩,⟨s 30,C (v (F (J 26) [] [])) [t 28,t 29],o⟩,⟨s 27,m (t 30),o⟩,⟨s 31,e (t 27) 0,o⟩,⟨s 32,e (t 27) 1,o⟩,⟨s 8,m (t 31),o⟩,⟨s 9,m (t 32),o⟩]) (q (g [⟨s 34,m (t 0),o⟩,⟨s 35,m (t 1),o⟩,⟨s 36,C (v (F (J 27) [] [])) [t 34,t 35],o⟩,⟨s 33,m (t 36),o⟩,⟨s 37,e (t 33) 0,o⟩,⟨s 38,e (t 33) 1,o⟩,⟨s 10,m (t 37),o⟩,⟨s 11,m (t 38),o⟩]) (q (g [⟨s 39,m (t 8),o⟩,⟨s 40,m (t 10),o⟩,⟨s 41,b .eql (t 39) (t 40),o⟩,⟨s 42,m (t 41),o⟩,⟨s 43,m (t 9),s (42,T)⟩,⟨s 44,m (t 11),s (42,T)⟩,⟨s 45,b .eql (t 43) (t 44),s (42,T)⟩,⟨s 46,p (t 42) (t 45) (v (w U)),o⟩,⟨s 47,m (t 46),o⟩,⟨s 48,m (t 1),s (47,T)⟩,⟨s 49,m (t 2),s (47,T)⟩,⟨s 50,C (v (F (J 28) [] [])) [t 48,t 49],s (47,T)⟩,⟨s 51,m (t 1),s (47,T)⟩,⟨s 52,m (t 2),s (47,T)⟩,⟨s 53,C (v (F (J 29) [] [])) [t 51,t 52],s (47,T)⟩,⟨s 54,b .eql (t 50) (t 53),s (47,T)⟩,⟨s 55,p (t 47) (t 54) (v (w U)),o⟩,⟨s 56,m (t 55),o⟩,⟨s 57,m (t 7),s (56,T)⟩,⟨s 58,m (t 0),s (56,T)⟩,⟨s 59,C (v (F (J 30) [] [])) [t 57,t 58],s (56,T)⟩,⟨s 60,p (t 56) (t 59) (v (w U)),o⟩,⟨s 61,m (t 60),o⟩,⟨s 62,C (v (F (J 11) [] [])) [],s (61,T)⟩,⟨s 63,p (t 61) (t 62) (v (w U)),o⟩,⟨s 6,m (t 63),o⟩]) R)))))),[.tmp 6]⟩
def c11 : RFunc := ⟨96,.code (q (g [⟨s 0,m (v (w U)),o⟩]) (q (g [⟨s 10,.buildSlice 9 1 3 [(.str ⟨#[]⟩),(.str ⟨#[]⟩),(.str ⟨#[]⟩)] [(0,1,(v (.str ⟨#[108,97,117,115]⟩))),(1,1,(v (.str ⟨#[103,108,111,114,105,97]⟩))),(2,1,(v (.str ⟨#[108,97]⟩)))],o⟩,⟨s 11,C (v (F (J 13) [] [])) [t 10],o⟩,⟨s 9,m (t 11),o⟩,⟨s 12,e (t 9) 0,o⟩,⟨s 13,e (t 9) 1,o⟩,⟨s 1,m (t 12),o⟩,⟨s 2,m (t 13),o⟩]) (q (q (g [⟨s 14,m (t 2),o⟩,⟨s 15,b .neq (t 14) (v (i I 0)),o⟩,⟨s 16,m (t 15),o⟩,⟨s 17,m (t 1),s (16,U)⟩,⟨s 18,.eq U .ptr (t 17) (v .nptr),s (16,U)⟩,⟨s 19,p (t 16) (v (w T)) (t 18),o⟩]) (c (t 19) (q (g [⟨s 0,m (v (w U)),o⟩]) R) k)) (q (g [⟨s 21,m (t 1),o⟩,⟨s 22,C (v (F (J 56) [] [])) [(v (.str ⟨#[108,48,105,50]⟩))],o⟩,⟨s 23,C (v (F (J 56) [] [])) [(v (.str ⟨#[97,48]⟩))],o⟩,⟨s 24,C (v (F (J 56) [] [])) [(v (.str ⟨#[117,49,95,48]⟩))],o⟩,⟨s 25,C (v (F (J 56) [] [])) [(v (.str ⟨#[115,51,95,48]⟩))],o⟩,⟨s 26,.buildSlice 88 1 4 [N,N,N,N] [(0,1,(t 22)),(1,1,(t 23)),(2,1,(t 24)),(3,1,(t 25))],o⟩,⟨s 27,C (v (F (J 31) [] [])) [t 21,t 26,(v (i I 9))],o⟩,⟨s 20,m (t 27),o⟩,⟨s 28,e (t 20) 0,o⟩,⟨s 29,e (t 20) 1,o⟩,⟨s 3,m (t 28),o⟩,⟨s 2,m (t 29),o⟩]) (q (g [⟨s 31,m (t 1),o⟩,⟨s 32,C (v (F (J 56) [] [])) [(v (.str ⟨#[103,48]⟩))],o⟩,⟨s 33,C (v (F (J 56) [] [])) [(v (.str ⟨#[108,48]⟩))],o⟩,⟨s 34,C (v (F (J 56) [] [])) [(v (.str ⟨#[111,48]⟩))],o⟩,⟨s 35,C (v (F (J 56) [] [])) [(v (.str ⟨#[45,48]⟩))],o⟩,⟨s 36,.buildSlice 88 1 4 [N,N,N,N] [(0,1,(t 32)),(1,1,(t 33)),(2,1,(t 34)),(3,1,(t 35))],o⟩,⟨s 37,C (v (F (J 56) [] [])) [(v (.str ⟨#[114,48]⟩))],o⟩,⟨s 38,C (v (F (J 56) [] [])) [(v (.str ⟨#[108,48,105,49]⟩))],o⟩,⟨s 39,C (v (F (J 56) [] [])) [(v (.str ⟨#[45,48]⟩))],o⟩,⟨s 40,.buildSlice 88 1 3 [N,N,N] [(0,1,(t 37)),(1,1,(t 38)),(2,1,(t 39))],o⟩,⟨s 41,C (v (F (J 56) [] [])) [(v (.str ⟨#[97,48]⟩))],o⟩,⟨s 42,.buildSlice 88 1 1 [N] [(0,1,(t 41))],o⟩,⟨s 43,C (v (F (J 56) [] [])) [(v (.str ⟨#[108,48]⟩))],o⟩,⟨s 44,C (v (F (J 56) [] [])) [(v (.str ⟨#[97,48]⟩))],o⟩,⟨s 45,.buildSlice 88 1 2 [N,N] [(0,1,(t 43)),(1,1,(t 44))],o⟩,⟨s 46,.buildSlice 39 1 4 [N,N,N,N] [(0,1,(t 36)),(1,1,(t 40)),(2,1,(t 42)),(3,1,(t 45))],o⟩,⟨s 47,C (v (F (J 39) [] [])) [t 31,t 46],o⟩,⟨s 30,m (t 47),o⟩,⟨s 48,e (t 30) 0,o⟩,⟨s 49,e (t 30) 1,o⟩,⟨s 50,e (t 30) 2,o⟩,⟨s 4,m (t 48),o⟩,⟨s 5,m (t 49),o⟩,⟨s 6,m (t 50),o⟩]) (q (g [⟨s 52,.build [(i I 0),(i I 0)] [(0,1,(v (i I 4))),(1,1,(v (i I 1)))],o⟩,⟨s 53,.build [(i I 0),(i I 0)] [(0,1,(v (i I 2)))],o⟩,⟨s 54,.buildSlice 79 2 2 [(i I 0),(i I 0),(i I 0),(i I 0)] [(0,2,(t 52)),(2,2,(t 53))],o⟩,⟨s 55,C (v (F (J 51) [] [])) [t 54],o⟩,⟨s 51,m (t 55),o⟩,⟨s 56,e (t 51) 0,o⟩,⟨s 57,e (t 51) 1,o⟩,⟨s 7,m (t 56),o⟩,⟨s 8,m (t 57),o⟩]) (q (g [⟨s 58,m (t 2),o⟩,⟨s 59,b .eql (t 58) (v (i I 0)),o⟩,⟨s 60,m (t 59),o⟩,⟨s 61,m (t 6),s (60,T)⟩,⟨s 62,b .eql (t 61) (v (i I 0)),s (60,T)⟩,⟨s 63,p (t 60) (t 62) (v (w U)),o⟩,⟨s 64,m (t 63),o⟩,⟨s 65,m (t 8),s (64,T)⟩,⟨s 66,b .eql (t 65) (v (i I 0)),s (64,T)⟩,⟨s 67,p (t 64) (t 66) (v (w U)),o⟩,⟨s 68,m (t 67),o⟩,⟨s 69,m (t 3),s (68,T)⟩,⟨s 70,.build [(.str ⟨#[]⟩),(i I 0)] [(0,1,(v (.str ⟨#[108,97]⟩))),(1,1,(v (i I 0)))],s (68,T)⟩,⟨s 71,.build [(.str ⟨#[]⟩),(i I 0)] [(0,1,(v (.str ⟨#[108,97,117,115]⟩))),(1,1,(v (i I 4)))],s (68,T)⟩,⟨s 72,.buildSlice 55 2 2 [(.str ⟨#[]⟩),(i I 0),(.str ⟨#[]⟩),(i I 0)] [(0,2,(t 70)),(2,2,(t 71))],s (68,T)⟩,⟨s 73,C (v (F (J 49) [] [])) [t 69,t 72],s (68,T)⟩,⟨s 74,p (t 68) (t 73) (v (w U)),o⟩,⟨s 75,m (t 74),o⟩,⟨s 76,m (t 5),s (75,T)⟩,⟨s 77,b .eql (t 76) (v (i I 1)),s (75,T)⟩,⟨s 78,p (t 75) (t 77) (v (w U)),o⟩,⟨s 79,m (t 78),o⟩,⟨s 80,m (t 4),s (79,T)⟩,⟨s 81,.buildSlice 9 1 4 [(.str ⟨#[]⟩),(.str ⟨#[]⟩),(.str ⟨#[]⟩),(.str ⟨#[]⟩)] [(0,1,(v (.str ⟨#[103,108,111,45]⟩))),(1,1,(v (.str ⟨#[114,105,45]⟩))),(2,1,(v (.str ⟨#[97]⟩))),(3,1,(v (.str ⟨#[108,97]⟩)))],s (79,T)⟩,⟨s 82,C (v (F (J 15) [] [])) [t 80,t 81],s (79,T)⟩,⟨s 83,p (t 79) (t 82) (v (w U)),o⟩,⟨s 84,m (t 83),o⟩,⟨s 85,m (t 7),s (84,T)⟩,⟨s 86,.build [(i I 0),(i I 0)] [(0,1,(v (i I 6)))],s (84,T)⟩,⟨s 87,.build [(i I 0),(i I 0)] [(0,1,(v (i I 4))),(1,1,(v (i I 1)))],s (84,T)⟩,⟨s 88,.build [(i I 0),(i I 0)] [(0,1,(v (i I 2)))],s (84,T)⟩,⟨s 89,.buildSlice 79 2 3 [(i I 0),(i I 0),(i I 0),(i I 0),(i I 0),(i I 0)] [(0,2,(t 86)),(2,2,(t 87)),(4,2,(t 88))],s (84,T)⟩,⟨s 90,C (v (F (J 54) [] [])) [t 85,t 89],s (84,T)⟩,⟨s 91,p (t 84) (t 90) (v (w U)),o⟩,⟨s 92,m (t 91),o⟩,⟨s 93,C (v (F (J 28) [] [])) [(v (.str ⟨#[103,108,111,114,105,97]⟩)),(v (.str ⟨#[103,111,114,105,97]⟩))],s (92,T)⟩,⟨s 94,b .eql (t 93) (v (i I 1)),s (92,T)⟩,⟨s 95,p (t 92) (t 94) (v (w U)),o⟩,⟨s 0,m (t 95),o⟩]) R))))))),[.tmp 0]⟩
def c13 : RFunc := ⟨22,.code (q (g [⟨s 2,m (v .nptr),o⟩,⟨s 3,m (v (i I 0)),o⟩]) (q (q (g [⟨s 5,m (t 0),o⟩,⟨s 6,n (t 5),o⟩,⟨s 7,b .gtr (t 6) (v (i I 2000)),o⟩]) (c (t 7) (q (g [⟨s 2,m (v .nptr),o⟩,⟨s 3,m (v (i I 4)),o⟩]) R) k)) (q (q (g [⟨s 8,m (t 0),o⟩,⟨s 9,C (v (F (J 57) [] [])) [t 8,(v (F (J 58) [] []))],o⟩,⟨s 10,.un .not (t 9),o⟩]) (c (t 10) (q (g [⟨s 2,m (v .nptr),o⟩,⟨s 3,m (v (i I 80)),o⟩]) R) k)) (q (g [⟨s 11,m (t 0),o⟩,⟨s 12,C (v (F (J 61) [] [])) [t 11],o⟩,⟨s 13,C (v (F (J 60) [] [])) [t 12],o⟩,⟨s 14,C (v (F (J 59) [] [])) [t 13],o⟩,⟨s 15,.build [N,.nptr] [(0,1,(t 14))],o⟩,⟨s 16,.box 98 (t 15),o⟩,⟨s 4,m (t 16),o⟩]) (q (g [⟨s 17,m (t 4),o⟩,⟨s 18,m (t 4),o⟩,⟨s 19,.nilCheck (t 17),o⟩,⟨s 20,f 1 (t 19),o⟩,⟨o,S 1 (t 20) (t 18),o⟩]) (q (g [⟨s 21,m (t 4),o⟩,⟨s 2,m (t 21),o⟩,⟨s 3,m (v (i I 0)),o⟩]) R)))))),[.tmp 2,.tmp 3]⟩
def c15 : RFunc := ⟨26,.code (q (g [⟨s 4,m (v (w U)),o⟩]) (q (q (g [⟨s 6,m (t 0),o⟩,⟨s 7,n (t 6),o⟩,⟨s 8,m (t 1),o⟩,⟨s 9,n (t 8),o⟩,⟨s 10,b .neq (t 7) (t 9),o⟩]) (c (t 10) (q (g [⟨s 4,m (v (w U)),o⟩]) R) k)) (q (q (g [⟨s 11,m (t 0),o⟩,⟨s 12,n (t 11),o⟩,⟨s 13,m (v (i I 0)),o⟩]) (B 0 (L (q (g [⟨s 14,b .lss (t 13) (t 12),o⟩]) (q (c (t 14) k (x 0)) (q (B 1 (q (g [⟨s 15,m (t 13),o⟩,⟨s 5,m (t 15),o⟩]) (q (G [⟨⟨s 16,m (t 0),o⟩,0,0,T⟩,⟨⟨s 17,m (t 5),o⟩,0,0,T⟩,⟨⟨s 18,a 1 (t 16) (t 17),o⟩,3,0,T⟩,⟨⟨s 19,l o (t 18),o⟩,7,1,T⟩,⟨⟨s 20,m (t 1),o⟩,0,0,T⟩,⟨⟨s 21,m (t 5),o⟩,0,0,T⟩,⟨⟨s 22,a 1 (t 20) (t 21),o⟩,48,0,T⟩,⟨⟨s 23,l o (t 22),o⟩,112,1,T⟩,⟨⟨s 24,b .neq (t 19) (t 23),o⟩,255,0,T⟩]) (c (t 24) (q (g [⟨s 4,m (v (w U)),o⟩]) R) k)))) (g [⟨s 25,b .add (t 13) (v (i I 1)),o⟩,⟨s 13,m (t 25),o⟩]))))))) (q (g [⟨s 4,m (v (w T)),o⟩]) R)))),[.tmp 4]⟩
def c16 : RFunc := ⟨13,.code (q (g [⟨s 2,m (v (i I 0)),o⟩]) (q (B 0 (q (g [⟨s 4,m (t 0),o⟩,⟨s 5,C (v (F (J 63) [] [])) [t 4],o⟩,⟨s 3,m (t 5),o⟩]) (c (t 3) (q (g [⟨s 6,m (t 0),o⟩,⟨s 7,b .sub (t 6) (v (i .u8 97)),o⟩,⟨s 8,.convInt I (t 7),o⟩,⟨s 9,b .add (t 8) (v (i I 1)),o⟩,⟨s 2,m (t 9),o⟩]) R) (q (g [⟨s 11,m (t 0),o⟩,⟨s 12,b .eql (t 11) (v (i .u8 45)),o⟩,⟨s 10,m (t 12),o⟩]) (c (t 10) (q (g [⟨s 2,m (v (i I 27)),o⟩]) R) k))))) (q (g [⟨s 2,m (v (i I 0)),o⟩]) R))),[.tmp 2]⟩
def c17 : RFunc := ⟨10,.code (q (g [⟨s 2,m (v (i I 0)),o⟩]) (q (q (g [⟨s 3,m (t 0),o⟩,⟨s 4,C (v (F (J 64) [] [])) [t 3],o⟩]) (c (t 4) (q (g [⟨s 5,m (t 0),o⟩,⟨s 6,.convInt I (t 5),o⟩,⟨s 7,b .sub (t 6) (v (i I 96)),o⟩,⟨s 2,m (t 7),o⟩]) R) k)) (q (q (g [⟨s 8,m (t 0),o⟩,⟨s 9,b .eql (t 8) (v (i .u8 45)),o⟩]) (c (t 9) (q (g [⟨s 2,m (v (i I 27)),o⟩]) R) k)) (q (g [⟨s 2,m (v (i I 0)),o⟩]) R)))),[.tmp 2]⟩
def c24 : RFunc := ⟨10,.code (q (g [⟨s 2,m (v (w U)),o⟩]) (q (g [⟨s 3,m (t 0),o⟩,⟨s 4,n (t 3),o⟩,⟨s 5,b .gtr (t 4) (v (i I 30)),o⟩,⟨s 6,m (t 5),o⟩,⟨s 7,m (t 0),s (6,U)⟩,⟨s 8,C (v (F (J 68) [] [])) [t 7,(v (F (J 69) [] []))],s (6,U)⟩,⟨s 9,p (t 6) (v (w T)) (t 8),o⟩,⟨s 2,m (t 9),o⟩]) R)),[.tmp 2]⟩
def c25 : RFunc := ⟨19,.code (q (g [⟨s 2,m (v N),o⟩]) (q (g [⟨s 3,m (v N),o⟩]) (q (q (g [⟨s 6,m (t 0),o⟩,⟨s 7,n (t 6),o⟩,⟨s 8,m (v (i I 0)),o⟩]) (B 0 (L (q (g [⟨s 9,b .lss (t 8) (t 7),o⟩]) (q (c (t 9) k (x 0)) (q (B 1 (q (g [⟨s 10,a 1 (t 6) (t 8),o⟩,⟨s 11,l o (t 10),o⟩,⟨s 5,m (t 11),o⟩]) (g [⟨s 12,m (t 3),o⟩,⟨s 13,m (t 5),o⟩,⟨s 14,C (v (F (J 70) [] [])) [t 13],o⟩,⟨s 15,.buildSlice 88 1 1 [N] [(0,1,(t 14))],o⟩,⟨s 16,.append 88 1 24 (t 12) (t 15),o⟩,⟨s 3,m (t 16),o⟩]))) (g [⟨s 17,b .add (t 8) (v (i I 1)),o⟩,⟨s 8,m (t 17),o⟩]))))))) (q (g [⟨s 18,m (t 3),o⟩,⟨s 2,m (t 18),o⟩]) R)))),[.tmp 2]⟩
def c26 : RFunc := ⟨54,.code (q (g [⟨s 4,m (v (i I 0)),o⟩,⟨s 5,m (v (i I 0)),o⟩]) (q (g [⟨s 11,m (t 0),o⟩,⟨s 12,C (v (F (J 71) [] [])) [t 11],o⟩,⟨s 10,m (t 12),o⟩,⟨s 13,e (t 10) 0,o⟩,⟨s 14,e (t 10) 1,o⟩,⟨s 6,.new 114 [N,N],o⟩,⟨o,S 2 (t 6) (t 13),o⟩,⟨s 7,m (t 14),o⟩]) (q (q (g [⟨s 15,m (t 7),o⟩,⟨s 16,b .neq (t 15) (v (i I 0)),o⟩]) (c (t 16) (q (g [⟨s 17,m (t 7),o⟩,⟨s 4,m (v (i I 0)),o⟩,⟨s 5,m (t 17),o⟩]) R) k)) (q (q (g [⟨s 18,m (t 1),o⟩,⟨s 19,.lenStr (t 18),o⟩,⟨s 20,m (t 0),o⟩,⟨s 21,n (t 20),o⟩,⟨s 22,b .gtr (t 19) (t 21),o⟩,⟨s 23,m (t 22),o⟩,⟨s 24,m (t 1),s (23,U)⟩,⟨s 25,.strToBytes 5 (t 24),s (23,U)⟩,⟨s 26,C (v (F (J 72) [] [])) [t 25,(v (F (J 73) [] []))],s (23,U)⟩,⟨s 27,.un .not (t 26),s (23,U)⟩,⟨s 28,p (t 23) (v (w T)) (t 27),o⟩]) (c (t 28) (q (g [⟨s 4,m (v (i I 0)),o⟩,⟨s 5,m (v (i I 45)),o⟩]) R) k)) (q (g [⟨s 29,f 1 (t 6),o⟩,⟨s 30,l o (t 29),o⟩,⟨s 31,m (t 1),o⟩,⟨s 32,.lenStr (t 31),o⟩,⟨s 33,a 1 (t 30) (t 32),o⟩,⟨s 34,l o (t 33),o⟩,⟨s 8,m (t 34),o⟩]) (q (q (g [⟨s 35,m (t 1),o⟩,⟨s 36,.lenStr (t 35),o⟩,⟨s 37,m (v (i I 0)),o⟩]) (B 0 (L (q (g [⟨s 38,b .lss (t 37) (t 36),o⟩]) (q (c (t 38) k (x 0)) (q (B 1 (q (g [⟨s 39,m (t 37),o⟩,⟨s 9,m (t 39),o⟩]) (G [⟨⟨s 40,m (t 8),o⟩,0,0,T⟩,⟨⟨s 41,f 0 (t 6),o⟩,0,0,T⟩,⟨⟨s 42,l o (t 41),o⟩,2,1,T⟩,⟨⟨s 43,m (t 9),o⟩,0,0,T⟩,⟨⟨s 44,m (t 1),o⟩,0,0,T⟩,⟨⟨s 45,m (t 9),o⟩,0,0,T⟩,⟨⟨s 46,.indexStr (t 44) (t 45),o⟩,48,0,T⟩,⟨⟨s 47,C (v (F (J 16) [] [])) [t 46],o⟩,112,2,U⟩,⟨⟨s 48,a 28 (t 42) (t 43),o⟩,14,0,T⟩,⟨⟨s 49,.idxA 28 1 (t 48) (t 47),o⟩,510,0,U⟩,⟨⟨s 50,l o (t 49),o⟩,1022,1,U⟩,⟨⟨s 51,b .add (t 40) (t 50),o⟩,2047,0,U⟩,⟨⟨s 8,m (t 51),o⟩,4095,0,U⟩]))) (g [⟨s 52,b .add (t 37) (v (i I 1)),o⟩,⟨s 37,m (t 52),o⟩]))))))) (q (g [⟨s 53,m (t 8),o⟩,⟨s 4,m (t 53),o⟩,⟨s 5,m (v (i I 0)),o⟩]) R))))))),[.tmp 4,.tmp 5]⟩
def c27 : RFunc := ⟨32,.code (q (g [⟨s 4,m (v (i I 0)),o⟩,⟨s 5,m (v (i I 0)),o⟩]) (q (q (g [⟨s 8,m (t 0),o⟩,⟨s 9,C (v (F (J 74) [] [])) [t 8],o⟩,⟨s 6,m (t 9),o⟩]) (q (g [⟨s 10,m (t 6),o⟩,⟨s 11,b .neq (t 10) (v (i I 0)),o⟩]) (c (t 11) (q (g [⟨s 12,m (t 6),o⟩,⟨s 4,m (v (i I 0)),o⟩,⟨s 5,m (t 12),o⟩]) R) k))) (q (q (g [⟨s 7,m (v (i I 0)),o⟩]) (B 0 (L (q (q (g [⟨s 13,m (t 7),o⟩,⟨s 14,m (t 1),o⟩,⟨s 15,.lenStr (t 14),o⟩,⟨s 16,b .lss (t 13) (t 15),o⟩]) (c (t 16) k (x 0))) (q (B 1 (q (g [⟨s 19,m (t 1),o⟩,⟨s 20,m (t 7),o⟩,⟨s 21,.indexStr (t 19) (t 20),o⟩,⟨s 22,C (v (F (J 17) [] [])) [t 21],o⟩,⟨s 23,b .eql (t 22) (v (i I 0)),o⟩]) (c (t 23) (q (g [⟨s 4,m (v (i I 0)),o⟩,⟨s 5,m (v (i I 45)),o⟩]) R) k))) (g [⟨s 17,m (t 7),o⟩,⟨s 18,b .add (t 17) (v (i I 1)),o⟩,⟨s 7,m (t 18),o⟩])))))) (q (q (g [⟨s 24,m (t 1),o⟩,⟨s 25,.lenStr (t 24),o⟩,⟨s 26,m (t 0),o⟩,⟨s 27,n (t 26),o⟩,⟨s 28,b .gtr (t 25) (t 27),o⟩]) (c (t 28) (q (g [⟨s 4,m (v (i I 0)),o⟩,⟨s 5,m (v (i I 45)),o⟩]) R) k)) (q (g [⟨s 29,m (t 0),o⟩,⟨s 30,m (t 1),o⟩,⟨s 31,C (v (F (J 75) [] [])) [t 29,t 30],o⟩,⟨s 4,m (t 31),o⟩,⟨s 5,m (v (i I 0)),o⟩]) R))))),[.tmp 4,.tmp 5]⟩
def c28 : RFunc := ⟨80,.code (q (g [⟨s 4,m (v (i I 0)),o⟩]) (q (g [⟨s 11,m (t 1),o⟩,⟨s 12,.lenStr (t 11),o⟩,⟨s 13,b .add (t 12) (v (i I 1)),o⟩,⟨s 14,.makeSlice 3 [(i I 0)] 8 (t 13) (t 13),o⟩,⟨s 5,m (t 14),o⟩]) (q (q (g [⟨s 15,m (t 5),o⟩,⟨s 16,n (t 15),o⟩,⟨s 17,m (v (i I 0)),o⟩]) (B 0 (L (q (g [⟨s 18,b .lss (t 17) (t 16),o⟩]) (q (c (t 18) k (x 0)) (q (B 1 (q (g [⟨s 19,m (t 17),o⟩,⟨s 6,m (t 19),o⟩]) (g [⟨s 20,m (t 5),o⟩,⟨s 21,m (t 6),o⟩,⟨s 22,m (t 6),o⟩,⟨s 23,a 1 (t 20) (t 21),o⟩,⟨o,S 1 (t 23) (t 22),o⟩]))) (g [⟨s 24,b .add (t 17) (v (i I 1)),o⟩,⟨s 17,m (t 24),o⟩]))))))) (q (q (g [⟨s 25,m (t 0),o⟩,⟨s 26,.lenStr (t 25),o⟩,⟨s 27,m (v (i I 0)),o⟩]) (B 2 (L (q (g [⟨s 28,b .lss (t 27) (t 26),o⟩]) (q (c (t 28) k (x 2)) (q (B 3 (q (g [⟨s 29,m (t 27),o⟩,⟨s 7,m (t 29),o⟩]) (q (g [⟨s 30,m (t 5),o⟩,⟨s 31,a 1 (t 30) (v (i I 0)),o⟩,⟨s 32,l o (t 31),o⟩,⟨s 8,m (t 32),o⟩]) (q (g [⟨s 33,m (t 5),o⟩,⟨s 34,a 1 (t 33) (v (i I 0)),o⟩,⟨s 35,l o (t 34),o⟩,⟨s 36,b .add (t 35) (v (i I 1)),o⟩,⟨s 37,a 1 (t 33) (v (i I 0)),o⟩,⟨o,S 1 (t 37) (t 36),o⟩]) (q (g [⟨s 38,m (t 1),o⟩,⟨s 39,.lenStr (t 38),o⟩,⟨s 40,m (v (i I 0)),o⟩]) (B 4 (L (q (g [⟨s 41,b .lss (t 40) (t 39),o⟩]) (q (c (t 41) k (x 4)) (q (B 5 (q (g [⟨s 42,m (t 40),o⟩,⟨s 9,m (t 42),o⟩]) (q (g [⟨s 43,m (t 8),o⟩,⟨s 10,m (t 43),o⟩]) (q (q (G [⟨⟨s 44,m (t 0),o⟩,0,0,T⟩,⟨⟨s 45,m (t 7),o⟩,0,0,T⟩,⟨⟨s 46,.indexStr (t 44) (t 45),o⟩,3,0,T⟩,⟨⟨s 47,m (t 1),o⟩,0,0,T⟩,⟨⟨s 48,m (t 9),o⟩,0,0,T⟩,⟨⟨s 49,.indexStr (t 47) (t 48),o⟩,24,0,T⟩,⟨⟨s 50,b .neq (t 46) (t 49),o⟩,63,0,T⟩]) (c (t 50) (G [⟨⟨s 51,m (t 8),o⟩,0,0,T⟩,⟨⟨s 52,m (t 5),o⟩,0,0,T⟩,⟨⟨s 53,m (t 9),o⟩,0,0,T⟩,⟨⟨s 54,a 1 (t 52) (t 53),o⟩,6,0,T⟩,⟨⟨s 55,l o (t 54),o⟩,14,1,T⟩,⟨⟨s 56,m (t 5),o⟩,0,0,T⟩,⟨⟨s 57,m (t 9),o⟩,0,0,T⟩,⟨⟨s 58,b .add (t 57) (v (i I 1)),o⟩,64,0,T⟩,⟨⟨s 59,a 1 (t 56) (t 58),o⟩,224,0,T⟩,⟨⟨s 60,l o (t 59),o⟩,480,1,T⟩,⟨⟨s 61,.minmax U [t 51,t 55,t 60],o⟩,1023,0,T⟩,⟨⟨s 62,b .add (v (i I 1)) (t 61),o⟩,2047,0,T⟩,⟨⟨s 10,m (t 62),o⟩,4095,0,T⟩]) k)) (g [⟨s 63,m (t 5),o⟩,⟨s 64,m (t 9),o⟩,⟨s 65,b .add (t 64) (v (i I 1)),o⟩,⟨s 66,m (t 5),o⟩,⟨s 67,m (t 9),o⟩,⟨s 68,b .add (t 67) (v (i I 1)),o⟩,⟨s 69,a 1 (t 66) (t 68),o⟩,⟨s 70,l o (t 69),o⟩,⟨s 71,m (t 10),o⟩,⟨s 8,m (t 70),o⟩,⟨s 72,a 1 (t 63) (t 65),o⟩,⟨o,S 1 (t 72) (t 71),o⟩]))))) (g [⟨s 73,b .add (t 40) (v (i I 1)),o⟩,⟨s 40,m (t 73),o⟩]))))))))))) (g [⟨s 74,b .add (t 27) (v (i I 1)),o⟩,⟨s 27,m (t 74),o⟩]))))))) (q (g [⟨s 75,m (t 5),o⟩,⟨s 76,m (t 1),o⟩,⟨s 77,.lenStr (t 76),o⟩,⟨s 78,a 1 (t 75) (t 77),o⟩,⟨s 79,l o (t 78),o⟩,⟨s 4,m (t 79),o⟩]) R))))),[.tmp 4]⟩
def c29 : RFunc := ⟨131,.code (q (g [⟨s 4,m (v (i I 0)),o⟩]) (q (q (g [⟨s 8,m (t 0),o⟩,⟨s 9,.lenStr (t 8),o⟩,⟨s 10,b .eql (t 9) (v (i I 0)),o⟩,⟨s 11,m (t 10),o⟩,⟨s 12,m (t 1),s (11,U)⟩,⟨s 13,.lenStr (t 12),s (11,U)⟩,⟨s 14,b .eql (t 13) (v (i I 0)),s (11,U)⟩,⟨s 15,p (t 11) (v (w T)) (t 14),o⟩]) (c (t 15) (q (g [⟨s 16,m (t 0),o⟩,⟨s 17,.lenStr (t 16),o⟩,⟨s 18,m (t 1),o⟩,⟨s 19,.lenStr (t 18),o⟩,⟨s 20,b .add (t 17) (t 19),o⟩,⟨s 4,m (t 20),o⟩]) R) k)) (q (g [⟨s 21,m (t 0),o⟩,⟨s 22,.lenStr (t 21),o⟩,⟨s 23,b .add (t 22) (v (i I 1)),o⟩,⟨s 24,.makeSlice 70 [N] 24 (t 23) (t 23),o⟩,⟨s 5,m (t 24),o⟩]) (q (q (g [⟨s 6,m (v (i I 0)),o⟩]) (B 0 (L (q (q (g [⟨s 25,m (t 6),o⟩,⟨s 26,m (t 0),o⟩,⟨s 27,.lenStr (t 26),o⟩,⟨s 28,b .leq (t 25) (t 27),o⟩]) (c (t 28) k (x 0))) (q (B 1 (q (g [⟨s 31,m (t 5),o⟩,⟨s 32,m (t 6),o⟩,⟨s 33,m (t 1),o⟩,⟨s 34,.lenStr (t 33),o⟩,⟨s 35,b .add (t 34) (v (i I 1)),o⟩,⟨s 36,.makeSlice 3 [(i I 0)] 8 (t 35) (t 35),o⟩,⟨s 37,a 1 (t 31) (t 32),o⟩,⟨o,S 1 (t 37) (t 36),o⟩]) (q (g [⟨s 7,m (v (i I 0)),o⟩]) (B 2 (L (q (q (g [⟨s 38,m (t 7),o⟩,⟨s 39,m (t 1),o⟩,⟨s 40,.lenStr (t 39),o⟩,⟨s 41,b .leq (t 38) (t 40),o⟩]) (c (t 41) k (x 2))) (q (B 3 (B 4 (q (g [⟨s 78,m (t 6),o⟩,⟨s 79,b .eql (t 78) (v (i I 0)),o⟩,⟨s 77,m (t 79),o⟩]) (c (t 77) (g [⟨s 80,m (t 5),o⟩,⟨s 81,m (t 6),o⟩,⟨s 82,a 1 (t 80) (t 81),o⟩,⟨s 83,l o (t 82),o⟩,⟨s 84,m (t 7),o⟩,⟨s 85,m (t 7),o⟩,⟨s 86,a 1 (t 83) (t 84),o⟩,⟨o,S 1 (t 86) (t 85),o⟩]) (q (g [⟨s 88,m (t 7),o⟩,⟨s 89,b .eql (t 88) (v (i I 0)),o⟩,⟨s 87,m (t 89),o⟩]) (c (t 87) (g [⟨s 90,m (t 5),o⟩,⟨s 91,m (t 6),o⟩,⟨s 92,a 1 (t 90) (t 91),o⟩,⟨s 93,l o (t 92),o⟩,⟨s 94,m (t 7),o⟩,⟨s 95,m (t 6),o⟩,⟨s 96,a 1 (t 93) (t 94),o⟩,⟨o,S 1 (t 96) (t 95),o⟩]) (q (G [⟨⟨s 98,m (t 0),o⟩,0,0,T⟩,⟨⟨s 99,m (t 6),o⟩,0,0,T⟩,⟨⟨s 100,b .sub (t 99) (v (i I 1)),o⟩,2,0,T⟩,⟨⟨s 101,.indexStr (t 98) (t 100),o⟩,7,0,T⟩,⟨⟨s 102,m (t 1),o⟩,0,0,T⟩,⟨⟨s 103,m (t 7),o⟩,0,0,T⟩,⟨⟨s 104,b .sub (t 103) (v (i I 1)),o⟩,32,0,T⟩,⟨⟨s 105,.indexStr (t 102) (t 104),o⟩,112,0,T⟩,⟨⟨s 106,b .eql (t 101) (t 105),o⟩,255,0,T⟩,⟨⟨s 97,m (t 106),o⟩,511,0,T⟩]) (c (t 97) (G [⟨⟨s 107,m (t 5),o⟩,0,0,T⟩,⟨⟨s 108,m (t 6),o⟩,0,0,T⟩,⟨⟨s 109,a 1 (t 107) (t 108),o⟩,3,0,T⟩,⟨⟨s 110,l o (t 109),o⟩,7,1,T⟩,⟨⟨s 111,m (t 7),o⟩,0,0,T⟩,⟨⟨s 112,m (t 5),o⟩,0,0,T⟩,⟨⟨s 113,m (t 6),o⟩,0,0,T⟩,⟨⟨s 114,b .sub (t 113) (v (i I 1)),o⟩,64,0,T⟩,⟨⟨s 115,a 1 (t 112) (t 114),o⟩,224,0,T⟩,⟨⟨s 116,l o (t 115),o⟩,480,1,T⟩,⟨⟨s 117,m (t 7),o⟩,0,0,T⟩,⟨⟨s 118,b .sub (t 117) (v (i I 1)),o⟩,1024,0,T⟩,⟨⟨s 119,a 1 (t 116) (t 118),o⟩,4064,0,T⟩,⟨⟨s 120,l o (t 119),o⟩,8160,1,T⟩,⟨⟨s 121,a 1 (t 110) (t 111),o⟩,16383,0,T⟩,⟨⟨o,S 1 (t 121) (t 120),o⟩,32767,2,U⟩]) (G [⟨⟨s 44,m (t 5),o⟩,0,0,T⟩,⟨⟨s 45,m (t 6),o⟩,0,0,T⟩,⟨⟨s 46,a 1 (t 44) (t 45),o⟩,3,0,T⟩,⟨⟨s 47,l o (t 46),o⟩,7,1,T⟩,⟨⟨s 48,m (t 7),o⟩,0,0,T⟩,⟨⟨s 49,m (t 5),o⟩,0,0,T⟩,⟨⟨s 50,m (t 6),o⟩,0,0,T⟩,⟨⟨s 51,b .sub (t 50) (v (i I 1)),o⟩,64,0,T⟩,⟨⟨s 52,a 1 (t 49) (t 51),o⟩,224,0,T⟩,⟨⟨s 53,l o (t 52),o⟩,480,1,T⟩,⟨⟨s 54,m (t 7),o⟩,0,0,T⟩,⟨⟨s 55,b .sub (t 54) (v (i I 1)),o⟩,1024,0,T⟩,⟨⟨s 56,a 1 (t 53) (t 55),o⟩,4064,0,T⟩,⟨⟨s 57,l o (t 56),o⟩,8160,1,T⟩,⟨⟨s 58,m (t 5),o⟩,0,0,T⟩,⟨⟨s 59,m (t 6),o⟩,0,0,T⟩,⟨⟨s 60,b .sub (t 59) (v (i I 1)),o⟩,32768,0,T⟩,⟨⟨s 61,a 1 (t 58) (t 60),o⟩,114688,0,T⟩,⟨⟨s 62,l o (t 61),o⟩,245760,1,T⟩,⟨⟨s 63,m (t 7),o⟩,0,0,T⟩,⟨⟨s 64,a 1 (t 62) (t 63),o⟩,1032192,0,T⟩,⟨⟨s 65,l o (t 64),o⟩,2080768,1,T⟩,⟨⟨s 66,m (t 5),o⟩,0,0,T⟩,⟨⟨s 67,m (t 6),o⟩,0,0,T⟩,⟨⟨s 68,a 1 (t 66) (t 67),o⟩,12582912,0,T⟩,⟨⟨s 69,l o (t 68),o⟩,29360128,1,T⟩,⟨⟨s 70,m (t 7),o⟩,0,0,T⟩,⟨⟨s 71,b .sub (t 70) (v (i I 1)),o⟩,67108864,0,T⟩,⟨⟨s 72,a 1 (t 69) (t 71),o⟩,264241152,0,T⟩,⟨⟨s 73,l o (t 72),o⟩,532676608,1,T⟩,⟨⟨s 74,.minmax U [t 57,t 65,t 73],o⟩,1073741792,0,T⟩,⟨⟨s 75,b .add (v (i I 1)) (t 74),o⟩,2147483616,0,T⟩,⟨⟨s 76,a 1 (t 47) (t 48),o⟩,4294967295,0,T⟩,⟨⟨o,S 1 (t 76) (t 75),o⟩,8589934591,2,U⟩]))))))))) (g [⟨s 42,m (t 7),o⟩,⟨s 43,b .add (t 42) (v (i I 1)),o⟩,⟨s 7,m (t 43),o⟩])))))))) (g [⟨s 29,m (t 6),o⟩,⟨s 30,b .add (t 29) (v (i I 1)),o⟩,⟨s 6,m (t 30),o⟩])))))) (q (g [⟨s 122,m (t 5),o⟩,⟨s 123,m (t 0),o⟩,⟨s 124,.lenStr (t 123),o⟩,⟨s 125,a 1 (t 122) (t 124),o⟩,⟨s 126,l o (t 125),o⟩,⟨s 127,m (t 1),o⟩,⟨s 128,.lenStr (t 127),o⟩,⟨s 129,a 1 (t 126) (t 128),o⟩,⟨s 130,l o (t 129),o⟩,⟨s 4,m (t 130),o⟩]) R))))),[.tmp 4]⟩
def c30 : RFunc := ⟨8,.code (q (g [⟨s 4,m (v (w U)),o⟩]) (q (g [⟨s 5,m (t 0),o⟩,⟨s 6,m (t 1),o⟩,⟨s 7,C (v (F (J 76) [] [])) [t 5,t 6,(v (F (J 77) [] []))],o⟩,⟨s 4,m (t 7),o⟩]) R)),[.tmp 4]⟩
def c31 : RFunc := ⟨62,.ranges (q (g [⟨s 3,.box 25 (t 0),o⟩,⟨s 6,m (v N),o⟩,⟨s 7,m (v (i I 0)),o⟩]) (q (q (g [⟨s 12,l o (t 3),o⟩,⟨s 13,C (v (F (J 65) [] [])) [t 12],o⟩,⟨s 14,.un .not (t 13),o⟩]) (c (t 14) (q (g [⟨s 6,m (v N),o⟩,⟨s 7,m (v (i I 7)),o⟩]) R) k)) (q (g [⟨s 16,m (t 1),o⟩,⟨s 17,C (v (F (J 71) [] [])) [t 16],o⟩,⟨s 15,m (t 17),o⟩,⟨s 18,e (t 15) 0,o⟩,⟨s 19,e (t 15) 1,o⟩,⟨s 8,.new 114 [N,N],o⟩,⟨o,S 2 (t 8) (t 18),o⟩,⟨s 9,m (t 19),o⟩]) (q (q (g [⟨s 20,m (t 9),o⟩,⟨s 21,b .neq (t 20) (v (i I 0)),o⟩]) (c (t 21) (q (g [⟨s 22,m (t 9),o⟩,⟨s 6,m (v N),o⟩,⟨s 7,m (t 22),o⟩]) R) k)) (q (g [⟨s 10,.new 47 [N],o⟩]) (q (q (G [⟨⟨s 23,l o (t 3),o⟩,0,1,T⟩,⟨⟨s 24,.nilCheck (t 23),o⟩,1,0,T⟩,⟨⟨s 25,f 0 (t 24),o⟩,3,0,T⟩,⟨⟨s 26,l o (t 25),o⟩,7,1,T⟩,⟨⟨s 27,l (s 2) (t 8),o⟩,0,1,T⟩,⟨⟨s 28,C (v (F (J 78) [] [])) [t 26,(v (i I 0)),t 27],o⟩,31,2,U⟩]) (B 0 (.rangeFunc [2,3,4,5,6,7,8,9,10,11,12,13,14,15,16,17,18,19,20,21,22,23,24,25,26,27,28,29,30,31,32,33,34,35,36,37,38,39,40,41,42,43,44,45,46,47,48,49,50,51,52,53,54,55,56,57,58,59,60,61,62,63,64,65,66,67,68,69,70,71,72,73,74,75,76,77,78,79,80,81,82,83,84,85,86,87,88,89,90,91,92,93,94,95,96,97,98,99,100,101,102,103,104,105,106,107,108,109,110,111,112,113,114,115,116,117,118,119,120,121,122,123,124,125,126,127,128,129,130,131,132,133,134,135,136,137,138,139,140,141,142,143,144,145,146,147,148,149,150,151,152,153,154,155,156,157,158,159,160,161,162,163,164,165,166,167,168,171,172,174,175,176,177,178,179,180,181,182,183,184,185,186,188,189,190,191,192,194,219] 62 (t 28) [29] (g [⟨s 11,.new 129 [(i I 0),(i I 0),(i I 0)],o⟩,⟨o,S 3 (t 11) (t 29),o⟩]) (B 1 (q (g [⟨s 30,f 0 (t 11),o⟩,⟨s 31,l o (t 30),o⟩,⟨s 32,b .neq (t 31) (v (i I 0)),o⟩,⟨s 33,m (t 32),o⟩,⟨s 34,f 1 (t 11),s (33,T)⟩,⟨s 35,l o (t 34),s (33,T)⟩,⟨s 36,b .eql (t 35) (v (i I 0)),s (33,T)⟩,⟨s 37,p (t 33) (t 36) (v (w U)),o⟩]) (c (t 37) (G [⟨⟨s 38,l o (t 10),o⟩,0,1,T⟩,⟨⟨s 39,l o (t 3),o⟩,0,1,T⟩,⟨⟨s 40,.nilCheck (t 39),o⟩,2,0,T⟩,⟨⟨s 41,f 0 (t 40),o⟩,6,0,T⟩,⟨⟨s 42,l o (t 41),o⟩,14,1,T⟩,⟨⟨s 43,f 0 (t 11),o⟩,0,0,T⟩,⟨⟨s 44,l o (t 43),o⟩,32,1,T⟩,⟨⟨s 45,a 3 (t 42) (t 44),o⟩,126,0,T⟩,⟨⟨s 46,f 0 (t 45),o⟩,254,0,T⟩,⟨⟨s 47,l o (t 46),o⟩,510,1,T⟩,⟨⟨s 48,f 2 (t 11),o⟩,0,0,T⟩,⟨⟨s 49,l o (t 48),o⟩,1024,1,T⟩,⟨⟨s 50,.build [(.str ⟨#[]⟩),(i I 0)] [(0,1,(t 47)),(1,1,(t 49))],o⟩,4094,0,T⟩,⟨⟨s 51,.buildSlice 55 2 1 [(.str ⟨#[]⟩),(i I 0)] [(0,2,(t 50))],o⟩,8190,3,T⟩,⟨⟨s 52,.append 55 2 24 (t 38) (t 51),o⟩,16383,2,U⟩,⟨⟨o,S 1 (t 10) (t 52),o⟩,32767,2,U⟩]) k)))))) (q (g [⟨s 53,l o (t 10),o⟩,⟨s 54,C (v (F (J 79) [] [])) [t 53,(v (F (J 80) [] []))],o⟩]) (q (g [⟨s 55,l o (t 10),o⟩,⟨s 56,l o (t 10),o⟩,⟨s 57,n (t 56),o⟩,⟨s 58,m (t 2),o⟩,⟨s 59,.minmax T [t 58,(v (i I 0))],o⟩,⟨s 60,.minmax U [t 57,t 59],o⟩,⟨s 61,.sliceS 2 (t 55) o (s (t 60)) o,o⟩,⟨s 6,m (t 61),o⟩,⟨s 7,m (v (i I 0)),o⟩]) R)))))))),[.tmp 6,.tmp 7]⟩
def c35 : RFunc := ⟨9,.code (q (g [⟨s 4,m (v (w U)),o⟩]) (q (g [⟨s 5,m (t 0),o⟩,⟨s 6,m (t 1),o⟩,⟨s 7,C (v (F (J 82) [] [])) [t 5,t 6],o⟩,⟨s 8,b .geq (t 7) (v (i I 0)),o⟩,⟨s 4,m (t 8),o⟩]) R)),[.tmp 4]⟩
def c39 : RFunc := ⟨85,.code (q (g [⟨s 4,m (v N),o⟩,⟨s 5,m (v (i I 0)),o⟩,⟨s 6,m (v (i I 0)),o⟩]) (q (q (g [⟨s 18,m (t 0),o⟩,⟨s 19,C (v (F (J 65) [] [])) [t 18],o⟩,⟨s 20,.un .not (t 19),o⟩]) (c (t 20) (q (g [⟨s 4,m (v N),o⟩,⟨s 5,m (v (i I 0)),o⟩,⟨s 6,m (v (i I 7)),o⟩]) R) k)) (q (q (g [⟨s 21,m (t 1),o⟩,⟨s 22,n (t 21),o⟩,⟨s 23,b .gtr (t 22) (v (i I 64)),o⟩]) (c (t 23) (q (g [⟨s 4,m (v N),o⟩,⟨s 5,m (v (i I 0)),o⟩,⟨s 6,m (v (i I 4)),o⟩]) R) k)) (q (g [⟨s 7,m (v N),o⟩]) (q (q (g [⟨s 24,m (t 1),o⟩,⟨s 25,n (t 24),o⟩,⟨s 26,m (v (i I 0)),o⟩]) (B 0 (L (q (g [⟨s 27,b .lss (t 26) (t 25),o⟩]) (q (c (t 27) k (x 0)) (q (B 1 (q (g [⟨s 28,a 1 (t 24) (t 26),o⟩,⟨s 29,l o (t 28),o⟩,⟨s 9,m (t 29),o⟩]) (q (g [⟨s 31,m (t 9),o⟩,⟨s 32,C (v (F (J 71) [] [])) [t 31],o⟩,⟨s 30,m (t 32),o⟩,⟨s 33,e (t 30) 0,o⟩,⟨s 34,e (t 30) 1,o⟩,⟨s 10,.new 114 [N,N],o⟩,⟨o,S 2 (t 10) (t 33),o⟩,⟨s 11,m (t 34),o⟩]) (q (q (g [⟨s 35,m (t 11),o⟩,⟨s 36,b .neq (t 35) (v (i I 0)),o⟩]) (c (t 36) (q (g [⟨s 37,m (t 11),o⟩,⟨s 4,m (v N),o⟩,⟨s 5,m (v (i I 0)),o⟩,⟨s 6,m (t 37),o⟩]) R) k)) (g [⟨s 38,m (t 7),o⟩,⟨s 39,l (s 2) (t 10),o⟩,⟨s 40,.buildSlice 114 2 1 [N,N] [(0,2,(t 39))],o⟩,⟨s 41,.append 114 2 48 (t 38) (t 40),o⟩,⟨s 7,m (t 41),o⟩]))))) (g [⟨s 42,b .add (t 26) (v (i I 1)),o⟩,⟨s 26,m (t 42),o⟩]))))))) (q (g [⟨s 43,m (t 0),o⟩,⟨s 44,.nilCheck (t 43),o⟩,⟨s 45,f 0 (t 44),o⟩,⟨s 46,l o (t 45),o⟩,⟨s 47,m (t 7),o⟩,⟨s 48,C (v (F (J 84) [] [])) [t 46,t 47],o⟩,⟨s 12,m (t 48),o⟩]) (q (g [⟨s 49,m (t 12),o⟩,⟨s 50,C (t 49) [(v (i I 0)),(v (i I 0))],o⟩,⟨s 13,.new 138 [(i I 0),(i I 0),(i I 0),(w U),(w U)],o⟩,⟨o,S 5 (t 13) (t 50),o⟩]) (q (q (g [⟨s 51,f 4 (t 13),o⟩,⟨s 52,l o (t 51),o⟩,⟨s 53,.un .not (t 52),o⟩]) (c (t 53) (q (g [⟨s 4,m (v N),o⟩,⟨s 5,m (v (i I 0)),o⟩,⟨s 6,m (v (i I 6)),o⟩]) R) k)) (q (G [⟨⟨s 54,m (t 1),o⟩,0,0,T⟩,⟨⟨s 55,n (t 54),o⟩,1,0,T⟩,⟨⟨s 56,.makeSlice 9 [(.str ⟨#[]⟩)] 16 (t 55) (t 55),o⟩,3,3,T⟩,⟨⟨s 14,m (v (i I 0)),o⟩,0,0,T⟩,⟨⟨s 15,m (t 56),o⟩,15,0,T⟩]) (q (q (g [⟨s 57,m (t 15),o⟩,⟨s 58,n (t 57),o⟩,⟨s 59,m (v (i I 0)),o⟩]) (B 2 (L (q (g [⟨s 60,b .lss (t 59) (t 58),o⟩]) (q (c (t 60) k (x 2)) (q (B 3 (q (g [⟨s 61,m (t 59),o⟩,⟨s 16,m (t 61),o⟩]) (q (g [⟨s 62,m (t 12),o⟩,⟨s 63,m (t 14),o⟩,⟨s 64,m (t 16),o⟩,⟨s 65,C (t 62) [t 63,t 64],o⟩,⟨s 17,.new 138 [(i I 0),(i I 0),(i I 0),(w U),(w U)],o⟩,⟨o,S 5 (t 17) (t 65),o⟩]) (G [⟨⟨s 66,m (t 15),o⟩,0,0,T⟩,⟨⟨s 67,m (t 16),o⟩,0,0,T⟩,⟨⟨s 68,m (t 0),o⟩,0,0,T⟩,⟨⟨s 69,.nilCheck (t 68),o⟩,4,0,T⟩,⟨⟨s 70,f 0 (t 69),o⟩,12,0,T⟩,⟨⟨s 71,l o (t 70),o⟩,28,1,T⟩,⟨⟨s 72,m (t 14),o⟩,0,0,T⟩,⟨⟨s 73,f 0 (t 17),o⟩,0,0,T⟩,⟨⟨s 74,l (s 3) (t 73),o⟩,128,1,T⟩,⟨⟨s 75,C (v (F (J 85) [] [])) [t 71,t 72,t 74],o⟩,508,2,U⟩,⟨⟨s 76,f 0 (t 17),o⟩,0,0,T⟩,⟨⟨s 77,f 1 (t 76),o⟩,1024,0,T⟩,⟨⟨s 78,l o (t 77),o⟩,3072,1,T⟩,⟨⟨s 79,a 1 (t 66) (t 67),o⟩,1023,0,T⟩,⟨⟨o,S 1 (t 79) (t 75),o⟩,9215,2,U⟩,⟨⟨s 14,m (t 78),o⟩,32767,0,T⟩])))) (g [⟨s 80,b .add (t 59) (v (i I 1)),o⟩,⟨s 59,m (t 80),o⟩]))))))) (q (G [⟨⟨s 81,m (t 15),o⟩,0,0,T⟩,⟨⟨s 82,f 0 (t 13),o⟩,0,0,T⟩,⟨⟨s 83,f 2 (t 82),o⟩,2,0,T⟩,⟨⟨s 84,l o (t 83),o⟩,6,1,T⟩,⟨⟨s 4,m (t 81),o⟩,1,0,T⟩,⟨⟨s 5,m (t 84),o⟩,31,0,T⟩,⟨⟨s 6,m (v (i I 0)),o⟩,63,0,T⟩]) R))))))))))),[.tmp 4,.tmp 5,.tmp 6]⟩
def c49 : RFunc := ⟨26,.code (.seq (.region [⟨some 4,.mov (.val (.bool false)),none⟩]) (.seq (.seq (.region [⟨some 6,.mov (.tmp 0),none⟩,⟨some 7,.lenS (.tmp 6),none⟩,⟨some 8,.mov (.tmp 1),none⟩,⟨some 9,.lenS (.tmp 8),none⟩,⟨some 10,.bin .neq (.tmp 7) (.tmp 9),none⟩]) (.cond (.tmp 10) (.seq (.region [⟨some 4,.mov (.val (.bool false)),none⟩]) .ret) .skip)) (.seq (.seq (.region [⟨some 11,.mov (.tmp 0),none⟩,⟨some 12,.lenS (.tmp 11),none⟩,⟨some 13,.mov (.val (.int .i64 0)),none⟩]) (.block 0 (.loop (.seq (.region [⟨some 14,.bin .lss (.tmp 13) (.tmp 12),none⟩]) (.seq (.cond (.tmp 14) .skip (.exit 0)) (.seq (.block 1 (.seq (.region [⟨some 15,.mov (.tmp 13),none⟩,⟨some 5,.mov (.tmp 15),none⟩]) (.seq (.dregion [⟨⟨some 16,.mov (.tmp 0),none⟩,0,0,true⟩,⟨⟨some 17,.mov (.tmp 5),none⟩,0,0,true⟩,⟨⟨some 18,.idxS 2 (.tmp 16) (.tmp 17),none⟩,3,0,true⟩,⟨⟨some 19,.load (some 2) (.tmp 18),none⟩,7,1,true⟩,⟨⟨some 20,.mov (.tmp 1),none⟩,0,0,true⟩,⟨⟨some 21,.mov (.tmp 5),none⟩,0,0,true⟩,⟨⟨some 22,.idxS 2 (.tmp 20) (.tmp 21),none⟩,48,0,true⟩,⟨⟨some 23,.load (some 2) (.tmp 22),none⟩,112,1,true⟩,⟨⟨some 24,.eq true (.fields [some (0,0,.str),some (1,0,.int)]) (.tmp 19) (.tmp 23),none⟩,255,0,true⟩]) (.cond (.tmp 24) (.seq (.region [⟨some 4,.mov (.val (.bool false)),none⟩]) .ret) .skip)))) (.region [⟨some 25,.bin .add (.tmp 13) (.val (.int .i64 1)),none⟩,⟨some 13,.mov (.tmp 25),none⟩]))))))) (.seq (.region [⟨some 4,.mov (.val (.bool true)),none⟩]) .ret)))),[.tmp 4]⟩
def c51 : RFunc := ⟨37,.code (q (g [⟨s 2,m (v N),o⟩,⟨s 3,m (v (i I 0)),o⟩]) (q (q (g [⟨s 9,m (t 0),o⟩,⟨s 10,C (v (F (J 97) [] [])) [t 9],o⟩,⟨s 11,.un .not (t 10),o⟩]) (c (t 11) (q (g [⟨s 2,m (v N),o⟩,⟨s 3,m (v (i I 5)),o⟩]) R) k)) (q (g [⟨s 4,m (v N),o⟩]) (q (q (g [⟨s 12,m (t 0),o⟩,⟨s 13,C (v (F (J 99) [] [])) [t 12],o⟩,⟨s 14,C (v (F (J 98) [] [])) [t 13],o⟩,⟨s 15,.rangeStr (t 14),o⟩]) (B 0 (L (q (g [⟨s 16,.nextStr (t 15),o⟩,⟨s 17,e (t 16) 0,o⟩]) (q (c (t 17) k (x 0)) (B 1 (q (g [⟨s 18,e (t 16) 2,o⟩,⟨s 6,m (t 18),o⟩]) (q (g [⟨s 19,m (t 6),o⟩,⟨s 20,b .sub (t 19) (v (i .i32 48)),o⟩,⟨s 21,.convInt I (t 20),o⟩,⟨s 22,.build [(i I 0),(i I 0)] [(0,1,(t 21))],o⟩,⟨s 7,.new 79 [(i I 0),(i I 0)],o⟩,⟨o,S 2 (t 7) (t 22),o⟩]) (q (q (g [⟨s 23,m (t 0),o⟩,⟨s 24,.mkFunc (J 101) [] [t 7],o⟩,⟨s 25,C (v (F (J 100) [] [])) [t 23,t 24],o⟩,⟨s 8,m (t 25),o⟩]) (q (g [⟨s 26,m (t 8),o⟩,⟨s 27,b .geq (t 26) (v (i I 0)),o⟩]) (c (t 27) (g [⟨s 28,m (t 0),o⟩,⟨s 29,m (t 8),o⟩,⟨s 30,a 2 (t 28) (t 29),o⟩,⟨s 31,l (s 2) (t 30),o⟩,⟨o,S 2 (t 7) (t 31),o⟩]) k))) (g [⟨s 32,m (t 4),o⟩,⟨s 33,l (s 2) (t 7),o⟩,⟨s 34,.buildSlice 79 2 1 [(i I 0),(i I 0)] [(0,2,(t 33))],o⟩,⟨s 35,.append 79 2 16 (t 32) (t 34),o⟩,⟨s 4,m (t 35),o⟩])))))))))) (q (g [⟨s 36,m (t 4),o⟩,⟨s 2,m (t 36),o⟩,⟨s 3,m (v (i I 0)),o⟩]) R))))),[.tmp 2,.tmp 3]⟩
def c54 : RFunc := ⟨26,.code (.seq (.region [⟨some 4,.mov (.val (.bool false)),none⟩]) (.seq (.seq (.region [⟨some 6,.mov (.tmp 0),none⟩,⟨some 7,.lenS (.tmp 6),none⟩,⟨some 8,.mov (.tmp 1),none⟩,⟨some 9,.lenS (.tmp 8),none⟩,⟨some 10,.bin .neq (.tmp 7) (.tmp 9),none⟩]) (.cond (.tmp 10) (.seq (.region [⟨some 4,.mov (.val (.bool false)),none⟩]) .ret) .skip)) (.seq (.seq (.region [⟨some 11,.mov (.tmp 0),none⟩,⟨some 12,.lenS (.tmp 11),none⟩,⟨some 13,.mov (.val (.int .i64 0)),none⟩]) (.block 0 (.loop (.seq (.region [⟨some 14,.bin .lss (.tmp 13) (.tmp 12),none⟩]) (.seq (.cond (.tmp 14) .skip (.exit 0)) (.seq (.block 1 (.seq (.region [⟨some 15,.mov (.tmp 13),none⟩,⟨some 5,.mov (.tmp 15),none⟩]) (.seq (.dregion [⟨⟨some 16,.mov (.tmp 0),none⟩,0,0,true⟩,⟨⟨some 17,.mov (.tmp 5),none⟩,0,0,true⟩,⟨⟨some 18,.idxS 2 (.tmp 16) (.tmp 17),none⟩,3,0,true⟩,⟨⟨some 19,.load (some 2) (.tmp 18),none⟩,7,1,true⟩,⟨⟨some 20,.mov (.tmp 1),none⟩,0,0,true⟩,⟨⟨some 21,.mov (.tmp 5),none⟩,0,0,true⟩,⟨⟨some 22,.idxS 2 (.tmp 20) (.tmp 21),none⟩,48,0,true⟩,⟨⟨some 23,.load (some 2) (.tmp 22),none⟩,112,1,true⟩,⟨⟨some 24,.eq true (.fields [some (0,0,.int),some (1,0,.int)]) (.tmp 19) (.tmp 23),none⟩,255,0,true⟩]) (.cond (.tmp 24) (.seq (.region [⟨some 4,.mov (.val (.bool false)),none⟩]) .ret) .skip)))) (.region [⟨some 25,.bin .add (.tmp 13) (.val (.int .i64 1)),none⟩,⟨some 13,.mov (.tmp 25),none⟩]))))))) (.seq (.region [⟨some 4,.mov (.val (.bool true)),none⟩]) .ret)))),[.tmp 4]⟩
def c56 : RFunc := ⟨27,.code (q (g [⟨s 2,m (v N),o⟩]) (q (g [⟨s 3,m (v N),o⟩]) (q (q (g [⟨s 4,m (v (i I 0)),o⟩]) (B 0 (L (q (q (g [⟨s 5,m (t 4),o⟩,⟨s 6,b .add (t 5) (v (i I 1)),o⟩,⟨s 7,m (t 0),o⟩,⟨s 8,.lenStr (t 7),o⟩,⟨s 9,b .lss (t 6) (t 8),o⟩]) (c (t 9) k (x 0))) (q (B 1 (G [⟨⟨s 12,m (t 3),o⟩,0,0,T⟩,⟨⟨s 13,m (t 0),o⟩,0,0,T⟩,⟨⟨s 14,m (t 4),o⟩,0,0,T⟩,⟨⟨s 15,.indexStr (t 13) (t 14),o⟩,6,0,T⟩,⟨⟨s 16,C (v (F (J 16) [] [])) [t 15],o⟩,14,2,U⟩,⟨⟨s 17,m (t 0),o⟩,0,0,T⟩,⟨⟨s 18,m (t 4),o⟩,0,0,T⟩,⟨⟨s 19,b .add (t 18) (v (i I 1)),o⟩,64,0,T⟩,⟨⟨s 20,.indexStr (t 17) (t 19),o⟩,224,0,T⟩,⟨⟨s 21,b .sub (t 20) (v (i .u8 48)),o⟩,480,0,T⟩,⟨⟨s 22,.convInt I (t 21),o⟩,992,0,T⟩,⟨⟨s 23,.build [(i I 0),(i I 0)] [(0,1,(t 16)),(1,1,(t 22))],o⟩,2046,0,U⟩,⟨⟨s 24,.buildSlice 156 2 1 [(i I 0),(i I 0)] [(0,2,(t 23))],o⟩,4094,2,U⟩,⟨⟨s 25,.append 156 2 16 (t 12) (t 24),o⟩,8191,2,U⟩,⟨⟨s 3,m (t 25),o⟩,16383,0,U⟩])) (g [⟨s 10,m (t 4),o⟩,⟨s 11,b .add (t 10) (v (i I 2)),o⟩,⟨s 4,m (t 11),o⟩])))))) (q (g [⟨s 26,m (t 3),o⟩,⟨s 2,m (t 26),o⟩]) R)))),[.tmp 2]⟩
def c57 : RFunc := ⟨9,.code (q (g [⟨s 3,.box 34 (t 1),o⟩,⟨s 4,m (v (w U)),o⟩]) (q (g [⟨s 5,m (t 0),o⟩,⟨s 6,.mkFunc (J 108) [] [t 3],o⟩,⟨s 7,C (v (F (J 35) [] [])) [t 5,t 6],o⟩,⟨s 8,.un .not (t 7),o⟩,⟨s 4,m (t 8),o⟩]) R)),[.tmp 4]⟩
def c58 : RFunc := ⟨11,.code (q (g [⟨s 2,m (v (w U)),o⟩]) (q (g [⟨s 3,m (t 0),o⟩,⟨s 4,.lenStr (t 3),o⟩,⟨s 5,C (v (F (J 109) [] [])) [t 4,(v (i I 1)),(v (i I 24))],o⟩,⟨s 6,m (t 5),o⟩,⟨s 7,m (t 0),s (6,T)⟩,⟨s 8,.strToBytes 5 (t 7),s (6,T)⟩,⟨s 9,C (v (F (J 72) [] [])) [t 8,(v (F (J 63) [] []))],s (6,T)⟩,⟨s 10,p (t 6) (t 9) (v (w U)),o⟩,⟨s 2,m (t 10),o⟩]) R)),[.tmp 2]⟩
def c59 : RFunc := ⟨34,.code (q (g [⟨s 2,m (v N),o⟩]) (q (g [⟨s 8,.build [(.str ⟨#[]⟩),(w U),.nmap] [],o⟩,⟨s 9,.buildSlice 105 3 1 [(.str ⟨#[]⟩),(w U),.nmap] [(0,3,(t 8))],o⟩,⟨s 3,.new 91 [N],o⟩,⟨o,S 1 (t 3) (t 9),o⟩]) (q (q (g [⟨s 10,m (t 0),o⟩,⟨s 11,n (t 10),o⟩,⟨s 12,m (v (i I 0)),o⟩]) (B 0 (L (q (g [⟨s 13,b .lss (t 12) (t 11),o⟩]) (q (c (t 13) k (x 0)) (q (B 1 (q (g [⟨s 14,a 1 (t 10) (t 12),o⟩,⟨s 15,l o (t 14),o⟩,⟨s 5,m (t 15),o⟩]) (q (g [⟨s 6,m (v (i I 0)),o⟩]) (q (q (g [⟨s 16,m (t 5),o⟩,⟨s 17,.lenStr (t 16),o⟩,⟨s 18,m (v (i I 0)),o⟩]) (B 2 (L (q (g [⟨s 19,b .lss (t 18) (t 17),o⟩]) (q (c (t 19) k (x 2)) (q (B 3 (q (g [⟨s 20,m (t 18),o⟩,⟨s 7,m (t 20),o⟩]) (g [⟨s 21,m (t 6),o⟩,⟨s 22,m (t 5),o⟩,⟨s 23,m (t 7),o⟩,⟨s 24,b .add (t 23) (v (i I 1)),o⟩,⟨s 25,.sliceStr (t 22) o (s (t 24)),o⟩,⟨s 26,C (v (F (J 110) [] [])) [t 3,t 21,t 25],o⟩,⟨s 6,m (t 26),o⟩]))) (g [⟨s 27,b .add (t 18) (v (i I 1)),o⟩,⟨s 18,m (t 27),o⟩]))))))) (g [⟨s 28,l o (t 3),o⟩,⟨s 29,m (t 6),o⟩,⟨s 30,a 3 (t 28) (t 29),o⟩,⟨s 31,f 1 (t 30),o⟩,⟨o,S 1 (t 31) (v (w T)),o⟩]))))) (g [⟨s 32,b .add (t 12) (v (i I 1)),o⟩,⟨s 12,m (t 32),o⟩]))))))) (q (g [⟨s 33,l o (t 3),o⟩,⟨s 2,m (t 33),o⟩]) R)))),[.tmp 2]⟩
def c60 : RFunc := ⟨9,.code (q (g [⟨s 2,m (v N),o⟩]) (q (g [⟨s 4,m (t 0),o⟩,⟨s 5,C (v (F (J 111) [] [])) [t 4],o⟩,⟨s 3,m (t 5),o⟩]) (q (g [⟨s 6,m (t 3),o⟩,⟨s 7,C (v (F (J 112) [] [])) [t 6],o⟩]) (q (g [⟨s 8,m (t 3),o⟩,⟨s 2,m (t 8),o⟩]) R)))),[.tmp 2]⟩
def c61 : RFunc := ⟨4,.code (q (g [⟨s 1,.box 22 (t 0),o⟩,⟨s 2,m (v .nfunc),o⟩]) (q (g [⟨s 3,.mkFunc (J 113) [] [t 1],o⟩,⟨s 2,m (t 3),o⟩]) R)),[.tmp 2]⟩
def c63 : RFunc := ⟨5,.code (q (g [⟨s 2,m (v (w U)),o⟩]) (q (g [⟨s 3,m (t 0),o⟩,⟨s 4,C (v (F (J 114) [] [])) [t 3,(v (i .u8 97)),(v (i .u8 122))],o⟩,⟨s 2,m (t 4),o⟩]) R)),[.tmp 2]⟩
def c64 : RFunc := ⟨9,.code (q (g [⟨s 2,m (v (w U)),o⟩]) (q (g [⟨s 3,m (t 0),o⟩,⟨s 4,b .geq (t 3) (v (i .u8 97)),o⟩,⟨s 5,m (t 4),o⟩,⟨s 6,m (t 0),s (5,T)⟩,⟨s 7,b .leq (t 6) (v (i .u8 122)),s (5,T)⟩,⟨s 8,p (t 5) (t 7) (v (w U)),o⟩,⟨s 2,m (t 8),o⟩]) R)),[.tmp 2]⟩
def c65 : RFunc := ⟨13,.code (q (g [⟨s 2,m (v (w U)),o⟩]) (q (g [⟨s 3,m (t 0),o⟩,⟨s 4,.eq T .ptr (t 3) (v .nptr),o⟩,⟨s 5,m (t 4),o⟩,⟨s 6,m (t 0),s (5,T)⟩,⟨s 7,.nilCheck (t 6),s (5,T)⟩,⟨s 8,f 1 (t 7),s (5,T)⟩,⟨s 9,l o (t 8),s (5,T)⟩,⟨s 10,m (t 0),s (5,T)⟩,⟨s 11,.eq U .ptr (t 9) (t 10),s (5,T)⟩,⟨s 12,p (t 5) (t 11) (v (w U)),o⟩,⟨s 2,m (t 12),o⟩]) R)),[.tmp 2]⟩
def c67 : RFunc := ⟨8,.code (q (g [⟨s 3,.box 91 (t 0),o⟩,⟨s 4,.box 3 (t 1),o⟩,⟨s 5,.box 3 (t 2),o⟩,⟨s 6,m (v .nfunc),o⟩]) (q (g [⟨s 7,.mkFunc (J 115) [] [t 3,t 4,t 5],o⟩,⟨s 6,m (t 7),o⟩]) R)),[.tmp 6]⟩
def c68 : RFunc := ⟨9,.code (q (g [⟨s 4,m (v (w U)),o⟩]) (q (g [⟨s 5,m (t 0),o⟩,⟨s 6,m (t 1),o⟩,⟨s 7,C (v (F (J 116) [] [])) [t 5,t 6],o⟩,⟨s 8,b .geq (t 7) (v (i I 0)),o⟩,⟨s 4,m (t 8),o⟩]) R)),[.tmp 4]⟩
def c69 : RFunc := ⟨6,.code (q (g [⟨s 2,m (v (w U)),o⟩]) (q (g [⟨s 3,m (t 0),o⟩,⟨s 4,n (t 3),o⟩,⟨s 5,b .gtr (t 4) (v (i I 40)),o⟩,⟨s 2,m (t 5),o⟩]) R)),[.tmp 2]⟩
def c70 : RFunc := ⟨7,.code (q (g [⟨s 2,m (v N),o⟩]) (q (g [⟨s 3,m (v N),o⟩]) (q (g [⟨s 4,m (t 3),o⟩,⟨s 5,m (t 0),o⟩,⟨s 6,.append 156 2 16 (t 4) (t 5),o⟩,⟨s 2,m (t 6),o⟩]) R))),[.tmp 2]⟩
def c71 : RFunc := ⟨63,.code (q (g [⟨s 2,.new 114 [N,N],o⟩,⟨s 3,m (v (i I 0)),o⟩]) (q (q (g [⟨s 8,m (t 0),o⟩,⟨s 9,n (t 8),o⟩,⟨s 10,b .gtr (t 9) (v (i I 24)),o⟩]) (c (t 10) (q (g [⟨s 11,.build [N,N] [],o⟩,⟨o,S 2 (t 2) (t 11),o⟩,⟨s 3,m (v (i I 4)),o⟩]) R) k)) (q (G [⟨⟨s 12,m (t 0),o⟩,0,0,T⟩,⟨⟨s 13,n (t 12),o⟩,1,0,T⟩,⟨⟨s 14,.makeSlice 119 z28 224 (t 13) (t 13),o⟩,3,3,T⟩,⟨⟨s 15,m (t 0),o⟩,0,0,T⟩,⟨⟨s 16,n (t 15),o⟩,8,0,T⟩,⟨⟨s 17,b .add (t 16) (v (i I 1)),o⟩,24,0,T⟩,⟨⟨s 18,.makeSlice 3 [(i I 0)] 8 (t 17) (t 17),o⟩,56,3,T⟩,⟨⟨s 19,.build [N,N] [(0,1,(t 14)),(1,1,(t 18))],o⟩,127,0,T⟩,⟨⟨s 4,.new 114 [N,N],o⟩,0,3,T⟩,⟨⟨o,S 2 (t 4) (t 19),o⟩,511,2,U⟩]) (q (q (g [⟨s 20,m (t 0),o⟩,⟨s 21,n (t 20),o⟩,⟨s 22,m (v (i I 0)),o⟩]) (B 0 (L (q (g [⟨s 23,b .lss (t 22) (t 21),o⟩]) (q (c (t 23) k (x 0)) (q (B 1 (q (g [⟨s 24,m (t 22),o⟩,⟨s 25,a 1 (t 20) (t 22),o⟩,⟨s 26,l o (t 25),o⟩,⟨s 5,m (t 24),o⟩,⟨s 6,m (t 26),o⟩]) (q (q (g [⟨s 27,m (t 6),o⟩,⟨s 28,C (v (F (J 117) [] [])) [t 27],o⟩,⟨s 29,.un .not (t 28),o⟩]) (c (t 29) (q (g [⟨s 30,.build [N,N] [],o⟩,⟨o,S 2 (t 2) (t 30),o⟩,⟨s 3,m (v (i I 1)),o⟩]) R) k)) (G [⟨⟨s 31,f 0 (t 4),o⟩,0,0,T⟩,⟨⟨s 32,l o (t 31),o⟩,1,1,T⟩,⟨⟨s 33,m (t 5),o⟩,0,0,T⟩,⟨⟨s 34,m (t 6),o⟩,0,0,T⟩,⟨⟨s 35,C (v (F (J 118) [] [])) [t 34],o⟩,8,2,U⟩,⟨⟨s 36,a 28 (t 32) (t 33),o⟩,31,0,T⟩,⟨⟨o,S 28 (t 36) (t 35),o⟩,63,2,U⟩])))) (g [⟨s 37,b .add (t 22) (v (i I 1)),o⟩,⟨s 22,m (t 37),o⟩]))))))) (q (q (g [⟨s 38,m (t 0),o⟩,⟨s 39,n (t 38),o⟩,⟨s 40,b .sub (t 39) (v (i I 1)),o⟩,⟨s 7,m (t 40),o⟩]) (B 2 (L (q (q (g [⟨s 41,m (t 7),o⟩,⟨s 42,b .geq (t 41) (v (i I 0)),o⟩]) (c (t 42) k (x 2))) (q (B 3 (G [⟨⟨s 45,f 1 (t 4),o⟩,0,0,T⟩,⟨⟨s 46,l o (t 45),o⟩,1,1,T⟩,⟨⟨s 47,m (t 7),o⟩,0,0,T⟩,⟨⟨s 48,f 1 (t 4),o⟩,0,0,T⟩,⟨⟨s 49,l o (t 48),o⟩,8,1,T⟩,⟨⟨s 50,m (t 7),o⟩,0,0,T⟩,⟨⟨s 51,b .add (t 50) (v (i I 1)),o⟩,32,0,T⟩,⟨⟨s 52,a 1 (t 49) (t 51),o⟩,120,0,T⟩,⟨⟨s 53,l o (t 52),o⟩,248,1,T⟩,⟨⟨s 54,f 0 (t 4),o⟩,0,0,T⟩,⟨⟨s 55,l o (t 54),o⟩,512,1,T⟩,⟨⟨s 56,m (t 7),o⟩,0,0,T⟩,⟨⟨s 57,a 28 (t 55) (t 56),o⟩,3584,0,T⟩,⟨⟨s 58,.idxA 28 1 (t 57) (v (i I 0)),o⟩,7680,0,T⟩,⟨⟨s 59,l o (t 58),o⟩,15872,1,T⟩,⟨⟨s 60,b .add (t 53) (t 59),o⟩,32760,0,T⟩,⟨⟨s 61,a 1 (t 46) (t 47),o⟩,65535,0,T⟩,⟨⟨o,S 1 (t 61) (t 60),o⟩,131071,2,U⟩])) (g [⟨s 43,m (t 7),o⟩,⟨s 44,b .sub (t 43) (v (i I 1)),o⟩,⟨s 7,m (t 44),o⟩])))))) (q (g [⟨s 62,l (s 2) (t 4),o⟩,⟨o,S 2 (t 2) (t 62),o⟩,⟨s 3,m (v (i I 0)),o⟩]) R)))))),[.cell 2 (some 2),.tmp 3]⟩
def c72 : RFunc := ⟨9,.code (q (g [⟨s 3,.box 99 (t 1),o⟩,⟨s 4,m (v (w U)),o⟩]) (q (g [⟨s 5,m (t 0),o⟩,⟨s 6,.mkFunc (J 120) [] [t 3],o⟩,⟨s 7,C (v (F (J 119) [] [])) [t 5,t 6],o⟩,⟨s 8,.un .not (t 7),o⟩,⟨s 4,m (t 8),o⟩]) R)),[.tmp 4]⟩
def c73 : RFunc := ⟨6,.code (q (g [⟨s 2,m (v (w U)),o⟩]) (q (g [⟨s 3,m (t 0),o⟩,⟨s 4,C (v (F (J 16) [] [])) [t 3],o⟩,⟨s 5,b .neq (t 4) (v (i I 0)),o⟩,⟨s 2,m (t 5),o⟩]) R)),[.tmp 2]⟩
def c74 : RFunc := ⟨66,.code (q (g [⟨s 2,m (v (i I 0)),o⟩]) (q (q (g [⟨s 7,m (t 0),o⟩,⟨s 8,n (t 7),o⟩,⟨s 9,b .gtr (t 8) (v (i I 24)),o⟩]) (c (t 9) (q (g [⟨s 2,m (v (i I 4)),o⟩]) R) k)) (q (q (g [⟨s 3,m (v (i I 0)),o⟩]) (B 0 (L (q (q (g [⟨s 10,m (t 3),o⟩,⟨s 11,m (t 0),o⟩,⟨s 12,n (t 11),o⟩,⟨s 13,b .lss (t 10) (t 12),o⟩]) (c (t 13) k (x 0))) (q (B 1 (q (g [⟨s 4,m (v (i I 0)),o⟩]) (B 2 (L (q (q (g [⟨s 16,m (t 4),o⟩,⟨s 17,m (t 0),o⟩,⟨s 18,m (t 3),o⟩,⟨s 19,a 1 (t 17) (t 18),o⟩,⟨s 20,l o (t 19),o⟩,⟨s 21,n (t 20),o⟩,⟨s 22,b .lss (t 16) (t 21),o⟩]) (c (t 22) k (x 2))) (q (B 3 (q (g [⟨s 25,m (t 0),o⟩,⟨s 26,m (t 3),o⟩,⟨s 27,a 1 (t 25) (t 26),o⟩,⟨s 28,l o (t 27),o⟩,⟨s 29,m (t 4),o⟩,⟨s 30,a 2 (t 28) (t 29),o⟩,⟨s 31,l (s 2) (t 30),o⟩,⟨s 5,.new 156 [(i I 0),(i I 0)],o⟩,⟨o,S 2 (t 5) (t 31),o⟩]) (q (q (g [⟨s 32,f 1 (t 5),o⟩,⟨s 33,l o (t 32),o⟩,⟨s 34,b .lss (t 33) (v (i I 0)),o⟩,⟨s 35,m (t 34),o⟩,⟨s 36,f 1 (t 5),s (35,U)⟩,⟨s 37,l o (t 36),s (35,U)⟩,⟨s 38,b .gtr (t 37) (v (i I 1000000)),s (35,U)⟩,⟨s 39,p (t 35) (v (w T)) (t 38),o⟩,⟨s 40,m (t 39),o⟩,⟨s 41,f 0 (t 5),s (40,U)⟩,⟨s 42,l o (t 41),s (40,U)⟩,⟨s 43,b .lss (t 42) (v (i I 0)),s (40,U)⟩,⟨s 44,p (t 40) (v (w T)) (t 43),o⟩,⟨s 45,m (t 44),o⟩,⟨s 46,f 0 (t 5),s (45,U)⟩,⟨s 47,l o (t 46),s (45,U)⟩,⟨s 48,b .gtr (t 47) (v (i I 27)),s (45,U)⟩,⟨s 49,p (t 45) (v (w T)) (t 48),o⟩]) (c (t 49) (q (g [⟨s 2,m (v (i I 1)),o⟩]) R) k)) (q (g [⟨s 6,m (v (i I 0)),o⟩]) (B 4 (L (q (q (g [⟨s 50,m (t 6),o⟩,⟨s 51,m (t 4),o⟩,⟨s 52,b .lss (t 50) (t 51),o⟩]) (c (t 52) k (x 4))) (q (B 5 (q (G [⟨⟨s 55,m (t 0),o⟩,0,0,T⟩,⟨⟨s 56,m (t 3),o⟩,0,0,T⟩,⟨⟨s 57,a 1 (t 55) (t 56),o⟩,3,0,T⟩,⟨⟨s 58,l o (t 57),o⟩,7,1,T⟩,⟨⟨s 59,m (t 6),o⟩,0,0,T⟩,⟨⟨s 60,a 2 (t 58) (t 59),o⟩,31,0,T⟩,⟨⟨s 61,f 0 (t 60),o⟩,63,0,T⟩,⟨⟨s 62,l o (t 61),o⟩,127,1,T⟩,⟨⟨s 63,f 0 (t 5),o⟩,0,0,T⟩,⟨⟨s 64,l o (t 63),o⟩,256,1,T⟩,⟨⟨s 65,b .eql (t 62) (t 64),o⟩,1023,0,T⟩]) (c (t 65) (q (g [⟨s 2,m (v (i I 1)),o⟩]) R) k))) (g [⟨s 53,m (t 6),o⟩,⟨s 54,b .add (t 53) (v (i I 1)),o⟩,⟨s 6,m (t 54),o⟩]))))))))) (g [⟨s 23,m (t 4),o⟩,⟨s 24,b .add (t 23) (v (i I 1)),o⟩,⟨s 4,m (t 24),o⟩]))))))) (g [⟨s 14,m (t 3),o⟩,⟨s 15,b .add (t 14) (v (i I 1)),o⟩,⟨s 3,m (t 15),o⟩])))))) (q (g [⟨s 2,m (v (i I 0)),o⟩]) R)))),[.tmp 2]⟩
def c75 : RFunc := ⟨55,.code (q (g [⟨s 4,m (v (i I 0)),o⟩]) (q (g [⟨s 5,m (v (i I 0)),o⟩]) (q (q (g [⟨s 6,m (v (i I 0)),o⟩]) (B 0 (L (q (q (g [⟨s 10,m (t 6),o⟩,⟨s 11,m (t 0),o⟩,⟨s 12,n (t 11),o⟩,⟨s 13,b .lss (t 10) (t 12),o⟩]) (c (t 13) k (x 0))) (q (B 1 (q (g [⟨s 7,m (v (i I 0)),o⟩]) (q (q (g [⟨s 16,m (t 6),o⟩,⟨s 17,m (t 1),o⟩,⟨s 18,.lenStr (t 17),o⟩,⟨s 19,b .lss (t 16) (t 18),o⟩]) (c (t 19) (g [⟨s 20,m (t 1),o⟩,⟨s 21,m (t 6),o⟩,⟨s 22,.indexStr (t 20) (t 21),o⟩,⟨s 23,C (v (F (J 17) [] [])) [t 22],o⟩,⟨s 7,m (t 23),o⟩]) k)) (q (g [⟨s 8,m (v (i I 1000000)),o⟩]) (q (q (g [⟨s 9,m (v (i I 0)),o⟩]) (B 2 (L (q (q (g [⟨s 24,m (t 9),o⟩,⟨s 25,m (t 0),o⟩,⟨s 26,m (t 6),o⟩,⟨s 27,a 1 (t 25) (t 26),o⟩,⟨s 28,l o (t 27),o⟩,⟨s 29,n (t 28),o⟩,⟨s 30,b .lss (t 24) (t 29),o⟩]) (c (t 30) k (x 2))) (q (B 3 (q (g [⟨s 33,m (t 0),o⟩,⟨s 34,m (t 6),o⟩,⟨s 35,a 1 (t 33) (t 34),o⟩,⟨s 36,l o (t 35),o⟩,⟨s 37,m (t 9),o⟩,⟨s 38,a 2 (t 36) (t 37),o⟩,⟨s 39,f 0 (t 38),o⟩,⟨s 40,l o (t 39),o⟩,⟨s 41,m (t 7),o⟩,⟨s 42,b .eql (t 40) (t 41),o⟩]) (c (t 42) (g [⟨s 43,m (t 0),o⟩,⟨s 44,m (t 6),o⟩,⟨s 45,a 1 (t 43) (t 44),o⟩,⟨s 46,l o (t 45),o⟩,⟨s 47,m (t 9),o⟩,⟨s 48,a 2 (t 46) (t 47),o⟩,⟨s 49,f 1 (t 48),o⟩,⟨s 50,l o (t 49),o⟩,⟨s 8,m (t 50),o⟩]) k))) (g [⟨s 31,m (t 9),o⟩,⟨s 32,b .add (t 31) (v (i I 1)),o⟩,⟨s 9,m (t 32),o⟩])))))) (g [⟨s 51,m (t 5),o⟩,⟨s 52,m (t 8),o⟩,⟨s 53,b .add (t 51) (t 52),o⟩,⟨s 5,m (t 53),o⟩])))))) (g [⟨s 14,m (t 6),o⟩,⟨s 15,b .add (t 14) (v (i I 1)),o⟩,⟨s 6,m (t 15),o⟩])))))) (q (g [⟨s 54,m (t 5),o⟩,⟨s 4,m (t 54),o⟩]) R)))),[.tmp 4]⟩
def c76 : RFunc := ⟨32,.code (q (g [⟨s 6,m (v (w U)),o⟩]) (q (q (g [⟨s 10,m (t 0),o⟩,⟨s 11,n (t 10),o⟩,⟨s 12,m (t 1),o⟩,⟨s 13,n (t 12),o⟩,⟨s 14,b .neq (t 11) (t 13),o⟩]) (c (t 14) (q (g [⟨s 6,m (v (w U)),o⟩]) R) k)) (q (q (g [⟨s 15,m (t 0),o⟩,⟨s 16,n (t 15),o⟩,⟨s 17,m (v (i I 0)),o⟩]) (B 0 (L (q (g [⟨s 18,b .lss (t 17) (t 16),o⟩]) (q (c (t 18) k (x 0)) (q (B 1 (q (g [⟨s 19,m (t 17),o⟩,⟨s 20,a 1 (t 15) (t 17),o⟩,⟨s 21,l o (t 20),o⟩,⟨s 7,m (t 19),o⟩,⟨s 8,m (t 21),o⟩]) (q (g [⟨s 22,m (t 1),o⟩,⟨s 23,m (t 7),o⟩,⟨s 24,a 1 (t 22) (t 23),o⟩,⟨s 25,l o (t 24),o⟩,⟨s 9,m (t 25),o⟩]) (q (g [⟨s 26,m (t 2),o⟩,⟨s 27,m (t 8),o⟩,⟨s 28,m (t 9),o⟩,⟨s 29,C (t 26) [t 27,t 28],o⟩,⟨s 30,.un .not (t 29),o⟩]) (c (t 30) (q (g [⟨s 6,m (v (w U)),o⟩]) R) k))))) (g [⟨s 31,b .add (t 17) (v (i I 1)),o⟩,⟨s 17,m (t 31),o⟩]))))))) (q (g [⟨s 6,m (v (w T)),o⟩]) R)))),[.tmp 6]⟩
def c77 : RFunc := ⟨26,.code (.seq (.region [⟨some 4,.mov (.val (.bool false)),none⟩]) (.seq (.seq (.region [⟨some 6,.mov (.tmp 0),none⟩,⟨some 7,.lenS (.tmp 6),none⟩,⟨some 8,.mov (.tmp 1),none⟩,⟨some 9,.lenS (.tmp 8),none⟩,⟨some 10,.bin .neq (.tmp 7) (.tmp 9),none⟩]) (.cond (.tmp 10) (.seq (.region [⟨some 4,.mov (.val (.bool false)),none⟩]) .ret) .skip)) (.seq (.seq (.region [⟨some 5,.mov (.val (.int .i64 0)),none⟩]) (.block 0 (.loop (.seq (.seq (.region [⟨some 11,.mov (.tmp 5),none⟩,⟨some 12,.mov (.tmp 0),none⟩,⟨some 13,.lenS (.tmp 12),none⟩,⟨some 14,.bin .lss (.tmp 11) (.tmp 13),none⟩]) (.cond (.tmp 14) .skip (.exit 0))) (.seq (.block 1 (.seq (.dregion [⟨⟨some 17,.mov (.tmp 0),none⟩,0,0,true⟩,⟨⟨some 18,.mov (.tmp 5),none⟩,0,0,true⟩,⟨⟨some 19,.idxS 2 (.tmp 17) (.tmp 18),none⟩,3,0,true⟩,⟨⟨some 20,.load (some 2) (.tmp 19),none⟩,7,1,true⟩,⟨⟨some 21,.mov (.tmp 1),none⟩,0,0,true⟩,⟨⟨some 22,.mov (.tmp 5),none⟩,0,0,true⟩,⟨⟨some 23,.idxS 2 (.tmp 21) (.tmp 22),none⟩,48,0,true⟩,⟨⟨some 24,.load (some 2) (.tmp 23),none⟩,112,1,true⟩,⟨⟨some 25,.eq true (.fields [some (0,0,.int),some (1,0,.int)]) (.tmp 20) (.tmp 24),none⟩,255,0,true⟩]) (.cond (.tmp 25) (.seq (.region [⟨some 4,.mov (.val (.bool false)),none⟩]) .ret) .skip))) (.region [⟨some 15,.mov (.tmp 5),none⟩,⟨some 16,.bin .add (.tmp 15) (.val (.int .i64 1)),none⟩,⟨some 5,.mov (.tmp 16),none⟩])))))) (.seq (.region [⟨some 4,.mov (.val (.bool true)),none⟩]) .ret)))),[.tmp 4]⟩
def c78 : RFunc := ⟨8,.code (q (g [⟨s 3,.box 91 (t 0),o⟩,⟨s 4,.box 3 (t 1),o⟩,⟨s 5,.box 114 (t 2),o⟩,⟨s 6,m (v .nfunc),o⟩]) (q (g [⟨s 7,.mkFunc (J 121) [] [t 4,t 5,t 3],o⟩,⟨s 6,m (t 7),o⟩]) R)),[.tmp 6]⟩
def c79 : RFunc := ⟨9,.code (g [⟨s 4,m (t 0),o⟩,⟨s 5,m (t 0),o⟩,⟨s 6,n (t 5),o⟩,⟨s 7,m (t 1),o⟩,⟨s 8,C (v (F (J 122) [] [])) [t 4,t 6,t 7],o⟩]),[]⟩
def c80 : RFunc := ⟨10,.code (q (g [⟨s 2,.box 55 (t 0),o⟩,⟨s 3,.box 55 (t 1),o⟩,⟨s 4,m (v (i I 0)),o⟩]) (q (g [⟨s 5,f 1 (t 2),o⟩,⟨s 6,l o (t 5),o⟩,⟨s 7,f 1 (t 3),o⟩,⟨s 8,l o (t 7),o⟩,⟨s 9,C (v (F (J 81) [] [])) [t 6,t 8],o⟩,⟨s 4,m (t 9),o⟩]) R)),[.tmp 4]⟩
def c81 : RFunc := ⟨20,.code (q (g [⟨s 4,m (v (i I 0)),o⟩]) (q (g [⟨s 7,m (t 0),o⟩,⟨s 8,C (v (F (J 123) [] [])) [t 7],o⟩,⟨s 5,m (t 8),o⟩]) (q (g [⟨s 9,m (t 1),o⟩,⟨s 10,C (v (F (J 123) [] [])) [t 9],o⟩,⟨s 6,m (t 10),o⟩]) (q (q (g [⟨s 11,m (t 5),o⟩]) (c (t 11) (q (q (g [⟨s 12,m (t 6),o⟩]) (c (t 12) (q (g [⟨s 4,m (v (i I 0)),o⟩]) R) k)) (q (g [⟨s 4,m (v (i I (-1))),o⟩]) R)) k)) (q (q (g [⟨s 13,m (t 6),o⟩]) (c (t 13) (q (g [⟨s 4,m (v (i I 1)),o⟩]) R) k)) (q (q (g [⟨s 14,m (t 0),o⟩,⟨s 15,m (t 1),o⟩,⟨s 16,b .lss (t 14) (t 15),o⟩]) (c (t 16) (q (g [⟨s 4,m (v (i I (-1))),o⟩]) R) k)) (q (q (g [⟨s 17,m (t 0),o⟩,⟨s 18,m (t 1),o⟩,⟨s 19,b .gtr (t 17) (t 18),o⟩]) (c (t 19) (q (g [⟨s 4,m (v (i I 1)),o⟩]) R) k)) (q (g [⟨s 4,m (v (i I 0)),o⟩]) R)))))))),[.tmp 4]⟩
def c82 : RFunc := ⟨19,.code (q (g [⟨s 4,m (v (i I 0)),o⟩]) (q (q (g [⟨s 6,m (t 0),o⟩,⟨s 7,n (t 6),o⟩,⟨s 8,m (v (i I 0)),o⟩]) (B 0 (L (q (g [⟨s 9,b .lss (t 8) (t 7),o⟩]) (q (c (t 9) k (x 0)) (q (B 1 (q (g [⟨s 10,m (t 8),o⟩,⟨s 5,m (t 10),o⟩]) (q (g [⟨s 11,m (t 1),o⟩,⟨s 12,m (t 0),o⟩,⟨s 13,m (t 5),o⟩,⟨s 14,a 1 (t 12) (t 13),o⟩,⟨s 15,l o (t 14),o⟩,⟨s 16,C (t 11) [t 15],o⟩]) (c (t 16) (q (g [⟨s 17,m (t 5),o⟩,⟨s 4,m (t 17),o⟩]) R) k)))) (g [⟨s 18,b .add (t 8) (v (i I 1)),o⟩,⟨s 8,m (t 18),o⟩]))))))) (q (g [⟨s 4,m (v (i I (-1))),o⟩]) R))),[.tmp 4]⟩
def c84 : RFunc := ⟨12,.code (q (g [⟨s 2,.box 91 (t 0),o⟩,⟨s 3,.box 134 (t 1),o⟩,⟨s 4,m (v .nfunc),o⟩]) (q (g [⟨s 7,l o (t 3),o⟩,⟨s 8,n (t 7),o⟩,⟨s 9,.makeSlice 180 [N] 24 (t 8) (t 8),o⟩,⟨s 5,.new 179 [N],o⟩,⟨o,S 1 (t 5) (t 9),o⟩]) (q (g [⟨s 6,.new 135 [.nfunc],o⟩]) (q (g [⟨s 10,.mkFunc (J 124) [] [t 3,t 5,t 2,t 6],o⟩,⟨o,S 1 (t 6) (t 10),o⟩]) (q (g [⟨s 11,l o (t 6),o⟩,⟨s 4,m (t 11),o⟩]) R))))),[.tmp 4]⟩
def c85 : RFunc := ⟨33,.code (q (g [⟨s 5,.box 129 (t 2),o⟩,⟨s 6,m (v (.str ⟨#[]⟩)),o⟩]) (q (G [⟨⟨s 8,m (t 0),o⟩,0,0,T⟩,⟨⟨s 9,f 0 (t 5),o⟩,0,0,T⟩,⟨⟨s 10,l o (t 9),o⟩,2,1,T⟩,⟨⟨s 11,a 3 (t 8) (t 10),o⟩,7,0,T⟩,⟨⟨s 12,f 0 (t 11),o⟩,15,0,T⟩,⟨⟨s 13,l o (t 12),o⟩,31,1,T⟩,⟨⟨s 14,m (t 0),o⟩,0,0,T⟩,⟨⟨s 15,m (t 1),o⟩,0,0,T⟩,⟨⟨s 16,a 3 (t 14) (t 15),o⟩,192,0,T⟩,⟨⟨s 17,f 0 (t 16),o⟩,448,0,T⟩,⟨⟨s 18,l o (t 17),o⟩,960,1,T⟩,⟨⟨s 19,.lenStr (t 18),o⟩,1984,0,T⟩,⟨⟨s 20,.sliceStr (t 13) (s (t 19)) o,o⟩,4095,0,T⟩,⟨⟨s 7,m (t 20),o⟩,8191,0,T⟩]) (q (q (g [⟨s 21,m (t 7),o⟩,⟨s 22,b .neq (t 21) (v (.str ⟨#[]⟩)),o⟩,⟨s 23,m (t 22),o⟩,⟨s 24,f 1 (t 5),s (23,T)⟩,⟨s 25,l o (t 24),s (23,T)⟩,⟨s 26,f 0 (t 5),s (23,T)⟩,⟨s 27,l o (t 26),s (23,T)⟩,⟨s 28,b .eql (t 25) (t 27),s (23,T)⟩,⟨s 29,p (t 23) (t 28) (v (w U)),o⟩]) (c (t 29) (g [⟨s 30,m (t 7),o⟩,⟨s 31,b .add (t 30) (v (.str ⟨#[45]⟩)),o⟩,⟨s 7,m (t 31),o⟩]) k)) (q (g [⟨s 32,m (t 7),o⟩,⟨s 6,m (t 32),o⟩]) R)))),[.tmp 6]⟩
def c97 : RFunc := ⟨41,.code (q (g [⟨s 2,m (v (w U)),o⟩]) (q (q (g [⟨s 5,m (t 0),o⟩,⟨s 6,n (t 5),o⟩,⟨s 7,m (v (i I 0)),o⟩]) (B 0 (L (q (g [⟨s 8,b .lss (t 7) (t 6),o⟩]) (q (c (t 8) k (x 0)) (q (B 1 (q (g [⟨s 9,m (t 7),o⟩,⟨s 10,a 2 (t 5) (t 7),o⟩,⟨s 11,l (s 2) (t 10),o⟩,⟨s 4,.new 79 [(i I 0),(i I 0)],o⟩,⟨s 3,m (t 9),o⟩,⟨o,S 2 (t 4) (t 11),o⟩]) (q (G [⟨⟨s 12,f 0 (t 4),o⟩,0,0,T⟩,⟨⟨s 13,l o (t 12),o⟩,1,1,T⟩,⟨⟨s 14,C (v (F (J 109) [] [])) [t 13,(v (i I 2)),(v (i I 9))],o⟩,3,2,U⟩,⟨⟨s 15,.un .not (t 14),o⟩,7,0,U⟩,⟨⟨s 16,m (t 15),o⟩,15,0,U⟩,⟨⟨s 17,f 1 (t 4),s (16,U)⟩,31,0,U⟩,⟨⟨s 18,l o (t 17),s (16,U)⟩,63,1,U⟩,⟨⟨s 19,C (v (F (J 109) [] [])) [t 18,(v (i I (-1))),(v (i I 2))],s (16,U)⟩,127,2,U⟩,⟨⟨s 20,.un .not (t 19),s (16,U)⟩,255,0,U⟩,⟨⟨s 21,p (t 16) (v (w T)) (t 20),o⟩,511,0,U⟩,⟨⟨s 22,m (t 21),o⟩,1023,0,U⟩,⟨⟨s 23,m (t 3),s (22,U)⟩,2047,0,U⟩,⟨⟨s 24,b .gtr (t 23) (v (i I 0)),s (22,U)⟩,4095,0,U⟩,⟨⟨s 25,m (t 24),s (22,U)⟩,8191,0,U⟩,⟨⟨s 26,m (t 0),s (25,T)⟩,16383,0,U⟩,⟨⟨s 27,m (t 3),s (25,T)⟩,16383,0,U⟩,⟨⟨s 28,b .sub (t 27) (v (i I 1)),s (25,T)⟩,49151,0,U⟩,⟨⟨s 29,a 2 (t 26) (t 28),s (25,T)⟩,131071,0,U⟩,⟨⟨s 30,f 0 (t 29),s (25,T)⟩,262143,0,U⟩,⟨⟨s 31,l o (t 30),s (25,T)⟩,524287,1,U⟩,⟨⟨s 32,f 0 (t 4),s (25,T)⟩,16383,0,U⟩,⟨⟨s 33,l o (t 32),s (25,T)⟩,1064959,1,U⟩,⟨⟨s 34,b .leq (t 31) (t 33),s (25,T)⟩,4194303,0,U⟩,⟨⟨s 35,p (t 25) (t 34) (v (w U)),s (22,U)⟩,8388607,0,U⟩,⟨⟨s 36,p (t 22) (v (w T)) (t 35),o⟩,16777215,0,U⟩]) (c (t 36) (q (g [⟨s 2,m (v (w U)),o⟩]) R) k)))) (g [⟨s 37,b .add (t 7) (v (i I 1)),o⟩,⟨s 7,m (t 37),o⟩]))))))) (q (g [⟨s 38,m (t 0),o⟩,⟨s 39,n (t 38),o⟩,⟨s 40,b .leq (t 39) (v (i I 4)),o⟩,⟨s 2,m (t 40),o⟩]) R))),[.tmp 2]⟩
def c98 : RFunc := ⟨30,.code (q (g [⟨s 2,m (v (.str ⟨#[]⟩)),o⟩]) (q (g [⟨s 6,.build [(.str ⟨#[]⟩),(.str ⟨#[]⟩)] [(0,1,(v (.str ⟨#[]⟩))),(1,1,(v (.str ⟨#[53,51]⟩)))],o⟩,⟨s 7,.build [(.str ⟨#[]⟩),(.str ⟨#[]⟩)] [(0,1,(v (.str ⟨#[54]⟩))),(1,1,(v (.str ⟨#[54,51]⟩)))],o⟩,⟨s 8,.build [(.str ⟨#[]⟩),(.str ⟨#[]⟩)] [(0,1,(v (.str ⟨#[55]⟩))),(1,1,(v (.str ⟨#[55,53,51]⟩)))],o⟩,⟨s 9,.build [(.str ⟨#[]⟩),(.str ⟨#[]⟩)] [(0,1,(v (.str ⟨#[54,53]⟩))),(1,1,(v (.str ⟨#[54,53,51]⟩)))],o⟩,⟨s 10,.build [(.str ⟨#[]⟩),(.str ⟨#[]⟩)] [(0,1,(v (.str ⟨#[52,51]⟩))),(1,1,(v (.str ⟨#[54,52,51]⟩)))],o⟩,⟨s 11,.build [(.str ⟨#[]⟩),(.str ⟨#[]⟩)] [(0,1,(v (.str ⟨#[50]⟩))),(1,1,(v (.str ⟨#[54,52,50]⟩)))],o⟩,⟨s 12,.build [(.str ⟨#[]⟩),(.str ⟨#[]⟩)] [(0,1,(v (.str ⟨#[52,50]⟩))),(1,1,(v (.str ⟨#[54,52,50]⟩)))],o⟩,⟨s 13,.build [(.str ⟨#[]⟩),(.str ⟨#[]⟩)] [(0,1,(v (.str ⟨#[52]⟩))),(1,1,(v (.str ⟨#[53,52]⟩)))],o⟩,⟨s 14,.build [(.str ⟨#[]⟩),(.str ⟨#[]⟩)] [(0,1,(v (.str ⟨#[53]⟩))),(1,1,(v (.str ⟨#[53,51]⟩)))],o⟩,⟨s 15,.build [(.str ⟨#[]⟩),(.str ⟨#[]⟩)] [(0,1,(v (.str ⟨#[51]⟩))),(1,1,(v (.str ⟨#[53,51]⟩)))],o⟩,⟨s 16,.build [(.str ⟨#[]⟩),(.str ⟨#[]⟩)] [(0,1,(v (.str ⟨#[57]⟩))),(1,1,(v (.str ⟨#[57,53,51]⟩)))],o⟩,⟨s 17,.build [(.str ⟨#[]⟩),(.str ⟨#[]⟩),(.str ⟨#[]⟩),(.str ⟨#[]⟩),(.str ⟨#[]⟩),(.str ⟨#[]⟩),(.str ⟨#[]⟩),(.str ⟨#[]⟩),(.str ⟨#[]⟩),(.str ⟨#[]⟩),(.str ⟨#[]⟩),(.str ⟨#[]⟩),(.str ⟨#[]⟩),(.str ⟨#[]⟩),(.str ⟨#[]⟩),(.str ⟨#[]⟩),(.str ⟨#[]⟩),(.str ⟨#[]⟩),(.str ⟨#[]⟩),(.str ⟨#[]⟩),(.str ⟨#[]⟩),(.str ⟨#[]⟩)] [(0,2,(t 6)),(2,2,(t 7)),(4,2,(t 8)),(6,2,(t 9)),(8,2,(t 10)),(10,2,(t 11)),(12,2,(t 12)),(14,2,(t 13)),(16,2,(t 14)),(18,2,(t 15)),(20,2,(t 16))],o⟩,⟨s 3,.new 187 [(.str ⟨#[]⟩),(.str ⟨#[]⟩),(.str ⟨#[]⟩),(.str ⟨#[]⟩),(.str ⟨#[]⟩),(.str ⟨#[]⟩),(.str ⟨#[]⟩),(.str ⟨#[]⟩),(.str ⟨#[]⟩),(.str ⟨#[]⟩),(.str ⟨#[]⟩),(.str ⟨#[]⟩),(.str ⟨#[]⟩),(.str ⟨#[]⟩),(.str ⟨#[]⟩),(.str ⟨#[]⟩),(.str ⟨#[]⟩),(.str ⟨#[]⟩),(.str ⟨#[]⟩),(.str ⟨#[]⟩),(.str ⟨#[]⟩),(.str ⟨#[]⟩)],o⟩,⟨o,S 22 (t 3) (t 17),o⟩]) (q (q (g [⟨s 18,l (s 22) (t 3),o⟩,⟨s 19,m (v (i I 0)),o⟩]) (B 0 (L (q (g [⟨s 20,b .lss (t 19) (v (i I 11)),o⟩]) (q (c (t 20) k (x 0)) (q (B 1 (q (g [⟨s 21,.indexA 11 2 T (t 18) (t 19),o⟩,⟨s 5,.new 186 [(.str ⟨#[]⟩),(.str ⟨#[]⟩)],o⟩,⟨o,S 2 (t 5) (t 21),o⟩]) (q (g [⟨s 22,.idxA 2 1 (t 5) (v (i I 0)),o⟩,⟨s 23,l o (t 22),o⟩,⟨s 24,m (t 0),o⟩,⟨s 25,b .eql (t 23) (t 24),o⟩]) (c (t 25) (q (g [⟨s 26,.idxA 2 1 (t 5) (v (i I 1)),o⟩,⟨s 27,l o (t 26),o⟩,⟨s 2,m (t 27),o⟩]) R) k)))) (g [⟨s 28,b .add (t 19) (v (i I 1)),o⟩,⟨s 19,m (t 28),o⟩]))))))) (q (g [⟨s 29,m (t 0),o⟩,⟨s 2,m (t 29),o⟩]) R)))),[.tmp 2]⟩
def c99 : RFunc := ⟨19,.code (q (g [⟨s 2,m (v (.str ⟨#[]⟩)),o⟩]) (q (g [⟨s 3,m (v (.str ⟨#[]⟩)),o⟩]) (q (q (g [⟨s 6,m (t 0),o⟩,⟨s 7,n (t 6),o⟩,⟨s 8,m (v (i I 0)),o⟩]) (B 0 (L (q (g [⟨s 9,b .lss (t 8) (t 7),o⟩]) (q (c (t 9) k (x 0)) (q (B 1 (q (g [⟨s 10,a 2 (t 6) (t 8),o⟩,⟨s 11,l (s 2) (t 10),o⟩,⟨s 5,.new 79 [(i I 0),(i I 0)],o⟩,⟨o,S 2 (t 5) (t 11),o⟩]) (g [⟨s 12,m (t 3),o⟩,⟨s 13,f 0 (t 5),o⟩,⟨s 14,l o (t 13),o⟩,⟨s 15,C (v (F (J 102) [] [])) [t 14],o⟩,⟨s 16,b .add (t 12) (t 15),o⟩,⟨s 3,m (t 16),o⟩]))) (g [⟨s 17,b .add (t 8) (v (i I 1)),o⟩,⟨s 8,m (t 17),o⟩]))))))) (q (g [⟨s 18,m (t 3),o⟩,⟨s 2,m (t 18),o⟩]) R)))),[.tmp 2]⟩
def c100 : RFunc := ⟨19,.code (q (g [⟨s 4,m (v (i I 0)),o⟩]) (q (q (g [⟨s 6,m (t 0),o⟩,⟨s 7,n (t 6),o⟩,⟨s 8,m (v (i I 0)),o⟩]) (B 0 (L (q (g [⟨s 9,b .lss (t 8) (t 7),o⟩]) (q (c (t 9) k (x 0)) (q (B 1 (q (g [⟨s 10,m (t 8),o⟩,⟨s 5,m (t 10),o⟩]) (q (g [⟨s 11,m (t 1),o⟩,⟨s 12,m (t 0),o⟩,⟨s 13,m (t 5),o⟩,⟨s 14,a 2 (t 12) (t 13),o⟩,⟨s 15,l (s 2) (t 14),o⟩,⟨s 16,C (t 11) [t 15],o⟩]) (c (t 16) (q (g [⟨s 17,m (t 5),o⟩,⟨s 4,m (t 17),o⟩]) R) k)))) (g [⟨s 18,b .add (t 8) (v (i I 1)),o⟩,⟨s 8,m (t 18),o⟩]))))))) (q (g [⟨s 4,m (v (i I (-1))),o⟩]) R))),[.tmp 4]⟩
def c101 : RFunc := ⟨9,.code (q (g [⟨s 2,.box 79 (t 0),o⟩,⟨s 3,m (v (w U)),o⟩]) (q (g [⟨s 4,f 0 (t 2),o⟩,⟨s 5,l o (t 4),o⟩,⟨s 6,f 0 (t 1),o⟩,⟨s 7,l o (t 6),o⟩,⟨s 8,b .eql (t 5) (t 7),o⟩,⟨s 3,m (t 8),o⟩]) R)),[.tmp 3]⟩
def c102 : RFunc := ⟨5,.code (q (g [⟨s 2,m (v (.str ⟨#[]⟩)),o⟩]) (q (g [⟨s 3,m (t 0),o⟩,⟨s 4,C (v (F (J 133) [] [])) [t 3],o⟩,⟨s 2,m (t 4),o⟩]) R)),[.tmp 2]⟩
def c108 : RFunc := ⟨8,.code (q (g [⟨s 3,m (v (w U)),o⟩]) (q (g [⟨s 4,l o (t 1),o⟩,⟨s 5,m (t 0),o⟩,⟨s 6,C (t 4) [t 5],o⟩,⟨s 7,.un .not (t 6),o⟩,⟨s 3,m (t 7),o⟩]) R)),[.tmp 3]⟩
def c109 : RFunc := ⟨15,.code (q (g [⟨s 6,m (v (w U)),o⟩]) (q (g [⟨s 7,m (t 1),o⟩,⟨s 8,m (t 0),o⟩,⟨s 9,b .leq (t 7) (t 8),o⟩,⟨s 10,m (t 9),o⟩,⟨s 11,m (t 0),s (10,T)⟩,⟨s 12,m (t 2),s (10,T)⟩,⟨s 13,b .leq (t 11) (t 12),s (10,T)⟩,⟨s 14,p (t 10) (t 13) (v (w U)),o⟩,⟨s 6,m (t 14),o⟩]) R)),[.tmp 6]⟩
def c110 : RFunc := ⟨59,.code (q (g [⟨s 6,m (v (i I 0)),o⟩]) (q (g [⟨s 11,m (t 0),o⟩,⟨s 12,.nilCheck (t 11),o⟩,⟨s 13,l o (t 12),o⟩,⟨s 7,m (t 13),o⟩]) (q (g [⟨s 14,m (t 2),o⟩,⟨s 15,m (t 2),o⟩,⟨s 16,.lenStr (t 15),o⟩,⟨s 17,b .sub (t 16) (v (i I 1)),o⟩,⟨s 18,.indexStr (t 14) (t 17),o⟩,⟨s 8,m (t 18),o⟩]) (q (q (g [⟨s 20,m (t 7),o⟩,⟨s 21,m (t 1),o⟩,⟨s 22,a 3 (t 20) (t 21),o⟩,⟨s 23,f 2 (t 22),o⟩,⟨s 24,l o (t 23),o⟩,⟨s 25,m (t 8),o⟩,⟨s 26,.lookup .int (i I 0) T (t 24) (t 25),o⟩,⟨s 19,m (t 26),o⟩,⟨s 27,e (t 19) 0,o⟩,⟨s 28,e (t 19) 1,o⟩,⟨s 9,m (t 27),o⟩,⟨s 10,m (t 28),o⟩]) (q (g [⟨s 29,m (t 10),o⟩]) (c (t 29) (q (g [⟨s 30,m (t 9),o⟩,⟨s 6,m (t 30),o⟩]) R) k))) (q (q (g [⟨s 31,m (t 7),o⟩,⟨s 32,m (t 1),o⟩,⟨s 33,a 3 (t 31) (t 32),o⟩,⟨s 34,f 2 (t 33),o⟩,⟨s 35,l o (t 34),o⟩,⟨s 36,.eq U .map (t 35) (v .nmap),o⟩]) (c (t 36) (g [⟨s 37,m (t 7),o⟩,⟨s 38,m (t 1),o⟩,⟨s 39,.mapLit [],o⟩,⟨s 40,a 3 (t 37) (t 38),o⟩,⟨s 41,f 2 (t 40),o⟩,⟨o,S 1 (t 41) (t 39),o⟩]) k)) (q (g [⟨s 42,m (t 7),o⟩,⟨s 43,m (t 1),o⟩,⟨s 44,a 3 (t 42) (t 43),o⟩,⟨s 45,f 2 (t 44),o⟩,⟨s 46,l o (t 45),o⟩,⟨s 47,m (t 8),o⟩,⟨s 48,m (t 7),o⟩,⟨s 49,n (t 48),o⟩,⟨o,.mapSet .int (t 46) (t 47) (t 49),o⟩]) (q (g [⟨s 50,m (t 0),o⟩,⟨s 51,m (t 7),o⟩,⟨s 52,m (t 2),o⟩,⟨s 53,.build [(.str ⟨#[]⟩),(w U),.nmap] [(0,1,(t 52))],o⟩,⟨s 54,.buildSlice 105 3 1 [(.str ⟨#[]⟩),(w U),.nmap] [(0,3,(t 53))],o⟩,⟨s 55,.append 105 3 32 (t 51) (t 54),o⟩,⟨s 56,.nilCheck (t 50),o⟩,⟨o,S 1 (t 56) (t 55),o⟩]) (q (g [⟨s 57,m (t 7),o⟩,⟨s 58,n (t 57),o⟩,⟨s 6,m (t 58),o⟩]) R)))))))),[.tmp 6]⟩
def c111 : RFunc := ⟨5,.code (q (g [⟨s 2,m (v N),o⟩]) (q (g [⟨s 3,m (t 0),o⟩,⟨s 4,C (v (F (J 139) [] [])) [(v N),t 3],o⟩,⟨s 2,m (t 4),o⟩]) R)),[.tmp 2]⟩
def c112 : RFunc := ⟨11,.code (q (g [⟨s 3,m (t 0),o⟩,⟨s 4,n (t 3),o⟩,⟨s 2,m (t 4),o⟩]) (g [⟨s 5,m (t 0),o⟩,⟨s 6,m (t 2),o⟩,⟨s 7,m (t 2),o⟩,⟨s 8,.convInt .u64 (t 7),o⟩,⟨s 9,C (v (F (J 141) [] [])) [t 8],o⟩,⟨s 10,C (v (F (J 140) [] [])) [t 5,(v (i I 0)),t 6,t 9],o⟩])),[]⟩
def c113 : RFunc := ⟨16,.code (q (g [⟨s 5,l o (t 1),o⟩,⟨s 6,n (t 5),o⟩,⟨s 7,m (v (i I 0)),o⟩]) (B 0 (L (q (g [⟨s 8,b .lss (t 7) (t 6),o⟩]) (q (c (t 8) k (x 0)) (q (B 1 (q (g [⟨s 9,a 1 (t 5) (t 7),o⟩,⟨s 10,l o (t 9),o⟩,⟨s 4,m (t 10),o⟩]) (q (g [⟨s 11,m (t 0),o⟩,⟨s 12,m (t 4),o⟩,⟨s 13,C (t 11) [t 12],o⟩,⟨s 14,.un .not (t 13),o⟩]) (c (t 14) R k)))) (g [⟨s 15,b .add (t 7) (v (i I 1)),o⟩,⟨s 7,m (t 15),o⟩]))))))),[]⟩
def c114 : RFunc := ⟨15,.code (q (g [⟨s 6,m (v (w U)),o⟩]) (q (g [⟨s 7,m (t 1),o⟩,⟨s 8,m (t 0),o⟩,⟨s 9,b .leq (t 7) (t 8),o⟩,⟨s 10,m (t 9),o⟩,⟨s 11,m (t 0),s (10,T)⟩,⟨s 12,m (t 2),s (10,T)⟩,⟨s 13,b .leq (t 11) (t 12),s (10,T)⟩,⟨s 14,p (t 10) (t 13) (v (w U)),o⟩,⟨s 6,m (t 14),o⟩]) R)),[.tmp 6]⟩
def c115 : RFunc := ⟨51,.code (q (g [⟨s 7,l o (t 1),o⟩,⟨s 8,l o (t 2),o⟩,⟨s 9,a 3 (t 7) (t 8),o⟩,⟨s 10,f 0 (t 9),o⟩,⟨s 11,l o (t 10),o⟩,⟨s 12,.lenStr (t 11),o⟩,⟨s 5,m (t 12),o⟩]) (q (g [⟨s 13,l o (t 2),o⟩,⟨s 14,b .add (t 13) (v (i I 1)),o⟩,⟨s 6,m (t 14),o⟩]) (B 0 (L (q (q (g [⟨s 15,m (t 6),o⟩,⟨s 16,l o (t 1),o⟩,⟨s 17,n (t 16),o⟩,⟨s 18,b .lss (t 15) (t 17),o⟩,⟨s 19,m (t 18),o⟩,⟨s 20,l o (t 1),s (19,T)⟩,⟨s 21,m (t 6),s (19,T)⟩,⟨s 22,a 3 (t 20) (t 21),s (19,T)⟩,⟨s 23,f 0 (t 22),s (19,T)⟩,⟨s 24,l o (t 23),s (19,T)⟩,⟨s 25,.lenStr (t 24),s (19,T)⟩,⟨s 26,m (t 5),s (19,T)⟩,⟨s 27,b .gtr (t 25) (t 26),s (19,T)⟩,⟨s 28,p (t 19) (t 27) (v (w U)),o⟩]) (c (t 28) k (x 0))) (q (B 1 (q (G [⟨⟨s 31,l o (t 1),o⟩,0,1,T⟩,⟨⟨s 32,m (t 6),o⟩,0,0,T⟩,⟨⟨s 33,a 3 (t 31) (t 32),o⟩,3,0,T⟩,⟨⟨s 34,f 0 (t 33),o⟩,7,0,T⟩,⟨⟨s 35,l o (t 34),o⟩,15,1,T⟩,⟨⟨s 36,.lenStr (t 35),o⟩,31,0,T⟩,⟨⟨s 37,m (t 5),o⟩,0,0,T⟩,⟨⟨s 38,b .sub (t 36) (t 37),o⟩,127,0,T⟩,⟨⟨s 39,l o (t 3),o⟩,0,1,T⟩,⟨⟨s 40,b .leq (t 38) (t 39),o⟩,511,0,T⟩,⟨⟨s 41,m (t 40),o⟩,1023,0,T⟩,⟨⟨s 42,m (t 0),s (41,T)⟩,2047,0,T⟩,⟨⟨s 43,m (t 6),s (41,T)⟩,2047,0,T⟩,⟨⟨s 44,l o (t 1),s (41,T)⟩,2047,1,T⟩,⟨⟨s 45,m (t 6),s (41,T)⟩,2047,0,T⟩,⟨⟨s 46,a 3 (t 44) (t 45),s (41,T)⟩,26623,0,T⟩,⟨⟨s 47,l (s 3) (t 46),s (41,T)⟩,59391,1,T⟩,⟨⟨s 48,C (t 42) [t 43,t 47],s (41,T)⟩,131071,2,U⟩,⟨⟨s 49,.un .not (t 48),s (41,T)⟩,262143,0,U⟩,⟨⟨s 50,p (t 41) (t 49) (v (w U)),o⟩,524287,0,U⟩]) (c (t 50) R k))) (g [⟨s 29,m (t 6),o⟩,⟨s 30,b .add (t 29) (v (i I 1)),o⟩,⟨s 6,m (t 30),o⟩]))))))),[]⟩
def c116 : RFunc := ⟨19,.code (q (g [⟨s 4,m (v (i I 0)),o⟩]) (q (q (g [⟨s 6,m (t 0),o⟩,⟨s 7,n (t 6),o⟩,⟨s 8,m (v (i I 0)),o⟩]) (B 0 (L (q (g [⟨s 9,b .lss (t 8) (t 7),o⟩]) (q (c (t 9) k (x 0)) (q (B 1 (q (g [⟨s 10,m (t 8),o⟩,⟨s 5,m (t 10),o⟩]) (q (g [⟨s 11,m (t 1),o⟩,⟨s 12,m (t 0),o⟩,⟨s 13,m (t 5),o⟩,⟨s 14,a 1 (t 12) (t 13),o⟩,⟨s 15,l o (t 14),o⟩,⟨s 16,C (t 11) [t 15],o⟩]) (c (t 16) (q (g [⟨s 17,m (t 5),o⟩,⟨s 4,m (t 17),o⟩]) R) k)))) (g [⟨s 18,b .add (t 8) (v (i I 1)),o⟩,⟨s 8,m (t 18),o⟩]))))))) (q (g [⟨s 4,m (v (i I (-1))),o⟩]) R))),[.tmp 4]⟩
def c117 : RFunc := ⟨32,.code (q (g [⟨s 2,m (v (w U)),o⟩]) (q (g [⟨s 3,.new 154 f28,o⟩]) (q (q (g [⟨s 6,m (t 0),o⟩,⟨s 7,n (t 6),o⟩,⟨s 8,m (v (i I 0)),o⟩]) (B 0 (L (q (g [⟨s 9,b .lss (t 8) (t 7),o⟩]) (q (c (t 9) k (x 0)) (q (B 1 (q (g [⟨s 10,a 2 (t 6) (t 8),o⟩,⟨s 11,l (s 2) (t 10),o⟩,⟨s 5,.new 156 [(i I 0),(i I 0)],o⟩,⟨o,S 2 (t 5) (t 11),o⟩]) (q (q (g [⟨s 12,f 1 (t 5),o⟩,⟨s 13,l o (t 12),o⟩,⟨s 14,C (v (F (J 109) [] [])) [t 13,(v (i I 0)),(v (i I 1000000))],o⟩,⟨s 15,.un .not (t 14),o⟩,⟨s 16,m (t 15),o⟩,⟨s 17,f 0 (t 5),s (16,U)⟩,⟨s 18,l o (t 17),s (16,U)⟩,⟨s 19,C (v (F (J 109) [] [])) [t 18,(v (i I 0)),(v (i I 27))],s (16,U)⟩,⟨s 20,.un .not (t 19),s (16,U)⟩,⟨s 21,p (t 16) (v (w T)) (t 20),o⟩,⟨s 22,m (t 21),o⟩,⟨s 23,f 0 (t 5),s (22,U)⟩,⟨s 24,l o (t 23),s (22,U)⟩,⟨s 25,.idxA 28 1 (t 3) (t 24),s (22,U)⟩,⟨s 26,l o (t 25),s (22,U)⟩,⟨s 27,p (t 22) (v (w T)) (t 26),o⟩]) (c (t 27) (q (g [⟨s 2,m (v (w U)),o⟩]) R) k)) (g [⟨s 28,f 0 (t 5),o⟩,⟨s 29,l o (t 28),o⟩,⟨s 30,.idxA 28 1 (t 3) (t 29),o⟩,⟨o,S 1 (t 30) (v (w T)),o⟩])))) (g [⟨s 31,b .add (t 8) (v (i I 1)),o⟩,⟨s 8,m (t 31),o⟩]))))))) (q (g [⟨s 2,m (v (w T)),o⟩]) R)))),[.tmp 2]⟩
def c118 : RFunc := ⟨26,.code (q (g [⟨s 2,.new 119 z28,o⟩]) (q (g [⟨s 3,.new 119 z28,o⟩]) (q (q (g [⟨s 7,m (v (i I 0)),o⟩]) (B 0 (L (q (g [⟨s 8,b .lss (t 7) (v (i I 28)),o⟩]) (q (c (t 8) k (x 0)) (q (B 1 (q (g [⟨s 9,m (t 7),o⟩,⟨s 4,m (t 9),o⟩]) (g [⟨s 10,m (t 4),o⟩,⟨s 11,.idxA 28 1 (t 3) (t 10),o⟩,⟨o,S 1 (t 11) (v (i I 1000000)),o⟩]))) (g [⟨s 12,b .add (t 7) (v (i I 1)),o⟩,⟨s 7,m (t 12),o⟩]))))))) (q (q (g [⟨s 13,m (t 0),o⟩,⟨s 14,n (t 13),o⟩,⟨s 15,m (v (i I 0)),o⟩]) (B 2 (L (q (g [⟨s 16,b .lss (t 15) (t 14),o⟩]) (q (c (t 16) k (x 2)) (q (B 3 (q (g [⟨s 17,a 2 (t 13) (t 15),o⟩,⟨s 18,l (s 2) (t 17),o⟩,⟨s 6,.new 156 [(i I 0),(i I 0)],o⟩,⟨o,S 2 (t 6) (t 18),o⟩]) (g [⟨s 19,f 0 (t 6),o⟩,⟨s 20,l o (t 19),o⟩,⟨s 21,f 1 (t 6),o⟩,⟨s 22,l o (t 21),o⟩,⟨s 23,.idxA 28 1 (t 3) (t 20),o⟩,⟨o,S 1 (t 23) (t 22),o⟩]))) (g [⟨s 24,b .add (t 15) (v (i I 1)),o⟩,⟨s 15,m (t 24),o⟩]))))))) (q (g [⟨s 25,l (s 28) (t 3),o⟩,⟨o,S 28 (t 2) (t 25),o⟩]) R))))),[.cell 2 (some 28)]⟩
def c119 : RFunc := ⟨9,.code (q (g [⟨s 4,m (v (w U)),o⟩]) (q (g [⟨s 5,m (t 0),o⟩,⟨s 6,m (t 1),o⟩,⟨s 7,C (v (F (J 142) [] [])) [t 5,t 6],o⟩,⟨s 8,b .geq (t 7) (v (i I 0)),o⟩,⟨s 4,m (t 8),o⟩]) R)),[.tmp 4]⟩
def c120 : RFunc := ⟨8,.code (q (g [⟨s 3,m (v (w U)),o⟩]) (q (g [⟨s 4,l o (t 1),o⟩,⟨s 5,m (t 0),o⟩,⟨s 6,C (t 4) [t 5],o⟩,⟨s 7,.un .not (t 6),o⟩,⟨s 3,m (t 7),o⟩]) R)),[.tmp 3]⟩
def c121 : RFunc := ⟨107,.ranges (q (g [⟨s 4,.box 175 (t 0),o⟩]) (q (q (G [⟨⟨s 11,l o (t 4),o⟩,0,1,T⟩,⟨⟨s 12,l o (t 1),o⟩,0,1,T⟩,⟨⟨s 13,l o (t 1),o⟩,0,1,T⟩,⟨⟨s 14,f 1 (t 2),o⟩,0,0,T⟩,⟨⟨s 15,l o (t 14),o⟩,8,1,T⟩,⟨⟨s 16,a 1 (t 15) (v (i I 0)),o⟩,24,0,T⟩,⟨⟨s 17,l o (t 16),o⟩,56,1,T⟩,⟨⟨s 18,.build [(i I 0),(i I 0),(i I 0)] [(0,1,(t 12)),(1,1,(t 13)),(2,1,(t 17))],o⟩,126,0,T⟩,⟨⟨s 19,C (t 11) [t 18],o⟩,255,2,U⟩,⟨⟨s 20,.un .not (t 19),o⟩,511,0,U⟩]) (c (t 20) R k)) (q (g [⟨s 5,.new 176 [(i I 0),(i I 0),(i I 0),(i I 0),(i I 0),(i I 0),(i I 0),(i I 0),(i I 0),(i I 0),(i I 0),(i I 0),(i I 0),(i I 0),(i I 0),(i I 0),(i I 0),(i I 0),(i I 0),(i I 0),(i I 0),(i I 0),(i I 0),(i I 0),(i I 0)],o⟩]) (q (g [⟨s 21,l o (t 3),o⟩,⟨s 22,l o (t 1),o⟩,⟨s 23,a 3 (t 21) (t 22),o⟩,⟨s 24,f 0 (t 23),o⟩,⟨s 25,l o (t 24),o⟩,⟨s 26,.lenStr (t 25),o⟩,⟨s 6,.new 3 [(i I 0)],o⟩,⟨o,S 1 (t 6) (t 26),o⟩]) (q (g [⟨s 27,l o (t 3),o⟩,⟨s 28,l o (t 1),o⟩,⟨s 29,f 0 (t 2),o⟩,⟨s 30,l o (t 29),o⟩,⟨s 31,n (t 30),o⟩,⟨s 32,C (v (F (J 67) [] [])) [t 27,t 28,t 31],o⟩]) (B 0 (.rangeFunc [2,3,4,5,6,7,8,9,10,11,12,13,14,15,16,17,18,19,20,21,22,23,24,25,26,27,28,29,30,31,32,33,34,35,36,37,38,39,40,41,42,43,44,45,46,47,48,49,50,51,52,53,54,55,56,57,58,59,60,61,62,63,64,65,66,67,68,69,70,71,72,73,74,75,76,77,78,79,80,81,82,83,84,85,86,87,88,89,90,91,92,93,94,95,96,97,98,99,100,101,102,103,104,105,106,107,108,109,110,111,112,113,114,115,116,117,118,119,120,121,122,123,124,125,126,127,128,129,130,131,132,133,134,135,136,137,138,139,140,141,142,143,144,145,146,147,148,149,150,151,152,153,154,155,156,157,158,159,160,161,162,163,164,165,166,167,168,171,172,174,175,176,177,178,179,180,181,182,183,184,185,186,188,189,190,191,192,194,219] 107 (t 32) [33,34] (q (g [⟨s 7,m (t 33),o⟩]) (g [⟨s 8,.new 105 [(.str ⟨#[]⟩),(w U),.nmap],o⟩,⟨o,S 3 (t 8) (t 34),o⟩])) (B 1 (q (g [⟨s 35,f 0 (t 8),o⟩,⟨s 36,l o (t 35),o⟩,⟨s 37,.lenStr (t 36),o⟩,⟨s 38,l o (t 6),o⟩,⟨s 39,b .sub (t 37) (t 38),o⟩,⟨s 9,m (t 39),o⟩]) (q (G [⟨⟨s 40,m (t 9),o⟩,0,0,T⟩,⟨⟨s 41,b .sub (t 40) (v (i I 1)),o⟩,1,0,T⟩,⟨⟨s 42,.idxA 25 1 (t 5) (t 41),o⟩,3,0,T⟩,⟨⟨s 43,l o (t 42),o⟩,7,1,T⟩,⟨⟨s 44,f 0 (t 2),o⟩,0,0,T⟩,⟨⟨s 45,l o (t 44),o⟩,16,1,T⟩,⟨⟨s 46,m (t 9),o⟩,0,0,T⟩,⟨⟨s 47,b .sub (t 46) (v (i I 1)),o⟩,64,0,T⟩,⟨⟨s 48,f 0 (t 8),o⟩,0,0,T⟩,⟨⟨s 49,l o (t 48),o⟩,256,1,T⟩,⟨⟨s 50,f 0 (t 8),o⟩,0,0,T⟩,⟨⟨s 51,l o (t 50),o⟩,1024,1,T⟩,⟨⟨s 52,.lenStr (t 51),o⟩,3072,0,T⟩,⟨⟨s 53,b .sub (t 52) (v (i I 1)),o⟩,7168,0,T⟩,⟨⟨s 54,.indexStr (t 49) (t 53),o⟩,16128,0,T⟩,⟨⟨s 55,C (v (F (J 16) [] [])) [t 54],o⟩,32512,2,U⟩,⟨⟨s 56,a 28 (t 45) (t 47),o⟩,240,0,T⟩,⟨⟨s 57,.idxA 28 1 (t 56) (t 55),o⟩,131056,0,U⟩,⟨⟨s 58,l o (t 57),o⟩,262128,1,U⟩,⟨⟨s 59,b .add (t 43) (t 58),o⟩,524287,0,U⟩,⟨⟨s 10,m (t 59),o⟩,1048575,0,U⟩]) (q (g [⟨s 60,m (t 9),o⟩,⟨s 61,m (t 10),o⟩,⟨s 62,.idxA 25 1 (t 5) (t 60),o⟩,⟨o,S 1 (t 62) (t 61),o⟩]) (q (q (G [⟨⟨s 63,f 1 (t 8),o⟩,0,0,T⟩,⟨⟨s 64,l o (t 63),o⟩,1,1,T⟩,⟨⟨s 65,m (t 64),o⟩,3,0,T⟩,⟨⟨s 66,l o (t 4),s (65,T)⟩,7,1,T⟩,⟨⟨s 67,m (t 7),s (65,T)⟩,7,0,T⟩,⟨⟨s 68,m (t 10),s (65,T)⟩,7,0,T⟩,⟨⟨s 69,f 1 (t 2),s (65,T)⟩,7,0,T⟩,⟨⟨s 70,l o (t 69),s (65,T)⟩,71,1,T⟩,⟨⟨s 71,m (t 9),s (65,T)⟩,7,0,T⟩,⟨⟨s 72,a 1 (t 70) (t 71),s (65,T)⟩,455,0,T⟩,⟨⟨s 73,l o (t 72),s (65,T)⟩,967,1,T⟩,⟨⟨s 74,b .add (t 68) (t 73),s (65,T)⟩,2023,0,T⟩,⟨⟨s 75,.build [(i I 0),(i I 0),(i I 0)] [(0,1,(t 67)),(1,1,(v (i I 0))),(2,1,(t 74))],s (65,T)⟩,4087,0,T⟩,⟨⟨s 76,C (t 66) [t 75],s (65,T)⟩,8191,2,U⟩,⟨⟨s 77,.un .not (t 76),s (65,T)⟩,16383,0,U⟩,⟨⟨s 78,p (t 65) (t 77) (v (w U)),o⟩,32767,0,U⟩]) (c (t 78) R k)) (q (G [⟨⟨s 79,m (t 9),o⟩,0,0,T⟩,⟨⟨s 80,f 0 (t 2),o⟩,0,0,T⟩,⟨⟨s 81,l o (t 80),o⟩,2,1,T⟩,⟨⟨s 82,n (t 81),o⟩,6,0,T⟩,⟨⟨s 83,b .lss (t 79) (t 82),o⟩,15,0,T⟩,⟨⟨s 84,m (t 83),o⟩,31,0,T⟩,⟨⟨s 85,l o (t 4),s (84,T)⟩,63,1,T⟩,⟨⟨s 86,m (t 7),s (84,T)⟩,63,0,T⟩,⟨⟨s 87,m (t 7),s (84,T)⟩,63,0,T⟩,⟨⟨s 88,m (t 10),s (84,T)⟩,63,0,T⟩,⟨⟨s 89,f 0 (t 2),s (84,T)⟩,63,0,T⟩,⟨⟨s 90,l o (t 89),s (84,T)⟩,1087,1,T⟩,⟨⟨s 91,m (t 9),s (84,T)⟩,63,0,T⟩,⟨⟨s 92,a 28 (t 90) (t 91),s (84,T)⟩,7231,0,T⟩,⟨⟨s 93,.idxA 28 1 (t 92) (v (i I 27)),s (84,T)⟩,15423,0,T⟩,⟨⟨s 94,l o (t 93),s (84,T)⟩,31807,1,T⟩,⟨⟨s 95,b .add (t 88) (t 94),s (84,T)⟩,65087,0,T⟩,⟨⟨s 96,f 1 (t 2),s (84,T)⟩,63,0,T⟩,⟨⟨s 97,l o (t 96),s (84,T)⟩,131135,1,T⟩,⟨⟨s 98,m (t 9),s (84,T)⟩,63,0,T⟩,⟨⟨s 99,b .add (t 98) (v (i I 1)),s (84,T)⟩,524351,0,T⟩,⟨⟨s 100,a 1 (t 97) (t 99),s (84,T)⟩,1966143,0,T⟩,⟨⟨s 101,l o (t 100),s (84,T)⟩,4063295,1,T⟩,⟨⟨s 102,b .add (t 95) (t 101),s (84,T)⟩,8388159,0,T⟩,⟨⟨s 103,.build [(i I 0),(i I 0),(i I 0)] [(0,1,(t 86)),(1,1,(t 87)),(2,1,(t 102))],s (84,T)⟩,16777151,0,T⟩,⟨⟨s 104,C (t 85) [t 103],s (84,T)⟩,33554431,2,U⟩,⟨⟨s 105,.un .not (t 104),s (84,T)⟩,67108863,0,U⟩,⟨⟨s 106,p (t 84) (t 105) (v (w U)),o⟩,134217727,0,U⟩]) (c (t 106) R k)))))))))))))),[]⟩
def c122 : RFunc := ⟨63,.code (q (g [⟨s 6,m (v (i I 20)),o⟩]) (q (g [⟨s 10,m (t 6),o⟩,⟨s 7,m (v (i I 0)),o⟩,⟨s 8,m (t 10),o⟩]) (q (B 0 (L (q (q (g [⟨s 11,m (t 8),o⟩,⟨s 12,m (t 1),o⟩,⟨s 13,b .leq (t 11) (t 12),o⟩]) (c (t 13) k (x 0))) (B 1 (q (g [⟨s 14,m (t 0),o⟩,⟨s 15,m (t 7),o⟩,⟨s 16,m (t 8),o⟩,⟨s 17,m (t 2),o⟩,⟨s 18,C (v (F (J 143) [] [])) [t 14,t 15,t 16,t 17],o⟩]) (q (g [⟨s 19,m (t 8),o⟩,⟨s 7,m (t 19),o⟩]) (g [⟨s 20,m (t 8),o⟩,⟨s 21,m (t 6),o⟩,⟨s 22,b .add (t 20) (t 21),o⟩,⟨s 8,m (t 22),o⟩]))))))) (q (g [⟨s 23,m (t 0),o⟩,⟨s 24,m (t 7),o⟩,⟨s 25,m (t 1),o⟩,⟨s 26,m (t 2),o⟩,⟨s 27,C (v (F (J 143) [] [])) [t 23,t 24,t 25,t 26],o⟩]) (B 2 (L (q (q (g [⟨s 28,m (t 6),o⟩,⟨s 29,m (t 1),o⟩,⟨s 30,b .lss (t 28) (t 29),o⟩]) (c (t 30) k (x 2))) (B 3 (q (g [⟨s 31,m (t 6),o⟩,⟨s 32,b .mul (v (i I 2)) (t 31),o⟩,⟨s 7,m (v (i I 0)),o⟩,⟨s 8,m (t 32),o⟩]) (q (B 4 (L (q (q (g [⟨s 33,m (t 8),o⟩,⟨s 34,m (t 1),o⟩,⟨s 35,b .leq (t 33) (t 34),o⟩]) (c (t 35) k (x 4))) (B 5 (q (g [⟨s 36,m (t 0),o⟩,⟨s 37,m (t 7),o⟩,⟨s 38,m (t 7),o⟩,⟨s 39,m (t 6),o⟩,⟨s 40,b .add (t 38) (t 39),o⟩,⟨s 41,m (t 8),o⟩,⟨s 42,m (t 2),o⟩,⟨s 43,C (v (F (J 144) [] [])) [t 36,t 37,t 40,t 41,t 42],o⟩]) (q (g [⟨s 44,m (t 8),o⟩,⟨s 7,m (t 44),o⟩]) (g [⟨s 45,m (t 8),o⟩,⟨s 46,m (t 6),o⟩,⟨s 47,b .mul (v (i I 2)) (t 46),o⟩,⟨s 48,b .add (t 45) (t 47),o⟩,⟨s 8,m (t 48),o⟩]))))))) (q (q (g [⟨s 49,m (t 7),o⟩,⟨s 50,m (t 6),o⟩,⟨s 51,b .add (t 49) (t 50),o⟩,⟨s 9,m (t 51),o⟩]) (q (g [⟨s 52,m (t 9),o⟩,⟨s 53,m (t 1),o⟩,⟨s 54,b .lss (t 52) (t 53),o⟩]) (c (t 54) (g [⟨s 55,m (t 0),o⟩,⟨s 56,m (t 7),o⟩,⟨s 57,m (t 9),o⟩,⟨s 58,m (t 1),o⟩,⟨s 59,m (t 2),o⟩,⟨s 60,C (v (F (J 144) [] [])) [t 55,t 56,t 57,t 58,t 59],o⟩]) k))) (g [⟨s 61,m (t 6),o⟩,⟨s 62,b .mul (t 61) (v (i I 2)),o⟩,⟨s 6,m (t 62),o⟩])))))))))))),[]⟩
def c123 : RFunc := ⟨6,.code (q (g [⟨s 2,m (v (w U)),o⟩]) (q (g [⟨s 3,m (t 0),o⟩,⟨s 4,m (t 0),o⟩,⟨s 5,b .neq (t 3) (t 4),o⟩,⟨s 2,m (t 5),o⟩]) R)),[.tmp 2]⟩
def c124 : RFunc := ⟨89,.ranges (q (g [⟨s 7,.box 3 (t 1),o⟩,⟨s 8,.new 138 [(i I 0),(i I 0),(i I 0),(w U),(w U)],o⟩]) (q (q (g [⟨s 13,l o (t 7),o⟩,⟨s 14,l o (t 2),o⟩,⟨s 15,n (t 14),o⟩,⟨s 16,b .eql (t 13) (t 15),o⟩]) (c (t 16) (q (g [⟨s 17,m (t 0),o⟩,⟨s 18,b .eql (t 17) (v (i I 0)),o⟩,⟨s 19,.build [(i I 0),(i I 0),(i I 0),(w U),(w U)] [(4,1,(t 18))],o⟩,⟨o,S 5 (t 8) (t 19),o⟩]) R) k)) (q (q (g [⟨s 20,l o (t 3),o⟩,⟨s 21,l o (t 7),o⟩,⟨s 22,a 1 (t 20) (t 21),o⟩,⟨s 23,l o (t 22),o⟩,⟨s 24,.eq U .slice (t 23) (v N),o⟩]) (c (t 24) (G [⟨⟨s 25,l o (t 3),o⟩,0,1,T⟩,⟨⟨s 26,l o (t 7),o⟩,0,1,T⟩,⟨⟨s 27,l o (t 4),o⟩,0,1,T⟩,⟨⟨s 28,n (t 27),o⟩,4,0,T⟩,⟨⟨s 29,.makeSlice 138 [(i I 0),(i I 0),(i I 0),(w U),(w U)] 32 (t 28) (t 28),o⟩,12,3,T⟩,⟨⟨s 30,a 1 (t 25) (t 26),o⟩,31,0,T⟩,⟨⟨o,S 1 (t 30) (t 29),o⟩,63,2,U⟩]) k)) (q (q (g [⟨s 31,l o (t 3),o⟩,⟨s 32,l o (t 7),o⟩,⟨s 33,a 1 (t 31) (t 32),o⟩,⟨s 34,l o (t 33),o⟩,⟨s 35,m (t 0),o⟩,⟨s 36,a 5 (t 34) (t 35),o⟩,⟨s 37,l (s 5) (t 36),o⟩,⟨s 9,.new 138 [(i I 0),(i I 0),(i I 0),(w U),(w U)],o⟩,⟨o,S 5 (t 9) (t 37),o⟩]) (q (g [⟨s 38,f 3 (t 9),o⟩,⟨s 39,l o (t 38),o⟩]) (c (t 39) (q (g [⟨s 40,l (s 5) (t 9),o⟩,⟨o,S 5 (t 8) (t 40),o⟩]) R) k))) (q (g [⟨s 41,.build [(i I 0),(i I 0),(i I 0),(w U),(w U)] [(3,1,(v (w T)))],o⟩,⟨s 10,.new 138 [(i I 0),(i I 0),(i I 0),(w U),(w U)],o⟩,⟨o,S 5 (t 10) (t 41),o⟩]) (q (q (G [⟨⟨s 42,l o (t 4),o⟩,0,1,T⟩,⟨⟨s 43,m (t 0),o⟩,0,0,T⟩,⟨⟨s 44,l o (t 2),o⟩,0,1,T⟩,⟨⟨s 45,l o (t 7),o⟩,0,1,T⟩,⟨⟨s 46,a 2 (t 44) (t 45),o⟩,12,0,T⟩,⟨⟨s 47,l (s 2) (t 46),o⟩,28,1,T⟩,⟨⟨s 48,C (v (F (J 78) [] [])) [t 42,t 43,t 47],o⟩,63,2,U⟩]) (B 0 (.rangeFunc [2,3,4,5,6,7,8,9,10,11,12,13,14,15,16,17,18,19,20,21,22,23,24,25,26,27,28,29,30,31,32,33,34,35,36,37,38,39,40,41,42,43,44,45,46,47,48,49,50,51,52,53,54,55,56,57,58,59,60,61,62,63,64,65,66,67,68,69,70,71,72,73,74,75,76,77,78,79,80,81,82,83,84,85,86,87,88,89,90,91,92,93,94,95,96,97,98,99,100,101,102,103,104,105,106,107,108,109,110,111,112,113,114,115,116,117,118,119,120,121,122,123,124,125,126,127,128,129,130,131,132,133,134,135,136,137,138,139,140,141,142,143,144,145,146,147,148,149,150,151,152,153,154,155,156,157,158,159,160,161,162,163,164,165,166,167,168,171,172,174,175,176,177,178,179,180,181,182,183,184,185,186,188,189,190,191,192,194,219] 89 (t 48) [49] (g [⟨s 11,.new 129 [(i I 0),(i I 0),(i I 0)],o⟩,⟨o,S 3 (t 11) (t 49),o⟩]) (B 1 (q (g [⟨s 50,l o (t 5),o⟩,⟨s 51,f 1 (t 11),o⟩,⟨s 52,l o (t 51),o⟩,⟨s 53,l o (t 7),o⟩,⟨s 54,b .add (t 53) (v (i I 1)),o⟩,⟨s 55,C (t 50) [t 52,t 54],o⟩,⟨s 12,.new 138 [(i I 0),(i I 0),(i I 0),(w U),(w U)],o⟩,⟨o,S 5 (t 12) (t 55),o⟩]) (q (g [⟨s 56,f 2 (t 11),o⟩,⟨s 57,l o (t 56),o⟩,⟨s 58,f 0 (t 12),o⟩,⟨s 59,f 2 (t 58),o⟩,⟨s 60,l o (t 59),o⟩,⟨s 61,b .add (t 57) (t 60),o⟩,⟨s 62,f 2 (t 11),o⟩,⟨o,S 1 (t 62) (t 61),o⟩]) (q (g [⟨s 63,f 4 (t 12),o⟩,⟨s 64,l o (t 63),o⟩,⟨s 65,m (t 64),o⟩,⟨s 66,f 4 (t 10),s (65,T)⟩,⟨s 67,l o (t 66),s (65,T)⟩,⟨s 68,.un .not (t 67),s (65,T)⟩,⟨s 69,m (t 68),s (65,T)⟩,⟨s 70,f 2 (t 11),s (69,U)⟩,⟨s 71,l o (t 70),s (69,U)⟩,⟨s 72,f 0 (t 10),s (69,U)⟩,⟨s 73,f 2 (t 72),s (69,U)⟩,⟨s 74,l o (t 73),s (69,U)⟩,⟨s 75,b .lss (t 71) (t 74),s (69,U)⟩,⟨s 76,p (t 69) (v (w T)) (t 75),s (65,T)⟩,⟨s 77,p (t 65) (t 76) (v (w U)),o⟩]) (c (t 77) (g [⟨s 78,l (s 3) (t 11),o⟩,⟨s 79,f 0 (t 10),o⟩,⟨o,S 3 (t 79) (t 78),o⟩,⟨s 80,f 4 (t 10),o⟩,⟨o,S 1 (t 80) (v (w T)),o⟩]) k)))))))) (q (G [⟨⟨s 81,l o (t 3),o⟩,0,1,T⟩,⟨⟨s 82,l o (t 7),o⟩,0,1,T⟩,⟨⟨s 83,a 1 (t 81) (t 82),o⟩,3,0,T⟩,⟨⟨s 84,l o (t 83),o⟩,7,1,T⟩,⟨⟨s 85,m (t 0),o⟩,0,0,T⟩,⟨⟨s 86,l (s 5) (t 10),o⟩,0,1,T⟩,⟨⟨s 87,a 5 (t 84) (t 85),o⟩,63,0,T⟩,⟨⟨o,S 5 (t 87) (t 86),o⟩,127,2,U⟩]) (q (g [⟨s 88,l (s 5) (t 10),o⟩,⟨o,S 5 (t 8) (t 88),o⟩]) R)))))))),[.cell 8 (some 5)]⟩
def c132 : RFunc := ⟨6,.code (q (g [⟨s 2,m (v (w U)),o⟩]) (q (g [⟨s 3,m (t 0),o⟩,⟨s 4,m (t 0),o⟩,⟨s 5,b .neq (t 3) (t 4),o⟩,⟨s 2,m (t 5),o⟩]) R)),[.tmp 2]⟩
def c133 : RFunc := ⟨5,.code (q (g [⟨s 2,m (v (.str ⟨#[]⟩)),o⟩]) (q (g [⟨s 3,m (t 0),o⟩,⟨s 4,C (v (F (J 147) [] [])) [t 3,(v (i I 10))],o⟩,⟨s 2,m (t 4),o⟩]) R)),[.tmp 2]⟩
def c139 : RFunc := ⟨13,.ranges (q (g [⟨s 2,.box 22 (t 0),o⟩,⟨s 4,m (v N),o⟩]) (q (q (g [⟨s 6,m (t 1),o⟩]) (B 0 (.rangeFunc [2,3,4,5,6,7,8,9,10,11,12,13,14,15,16,17,18,19,20,21,22,23,24,25,26,27,28,29,30,31,32,33,34,35,36,37,38,39,40,41,42,43,44,45,46,47,48,49,50,51,52,53,54,55,56,57,58,59,60,61,62,63,64,65,66,67,68,69,70,71,72,73,74,75,76,77,78,79,80,81,82,83,84,85,86,87,88,89,90,91,92,93,94,95,96,97,98,99,100,101,102,103,104,105,106,107,108,109,110,111,112,113,114,115,116,117,118,119,120,121,122,123,124,125,126,127,128,129,130,131,132,133,134,135,136,137,138,139,140,141,142,143,144,145,146,147,148,149,150,151,152,153,154,155,156,157,158,159,160,161,162,163,164,165,166,167,168,171,172,174,175,176,177,178,179,180,181,182,183,184,185,186,188,189,190,191,192,194,219] 13 (t 6) [7] (g [⟨s 5,m (t 7),o⟩]) (B 1 (g [⟨s 8,l o (t 2),o⟩,⟨s 9,m (t 5),o⟩,⟨s 10,.buildSlice 9 1 1 [(.str ⟨#[]⟩)] [(0,1,(t 9))],o⟩,⟨s 11,.append 9 1 16 (t 8) (t 10),o⟩,⟨o,S 1 (t 2) (t 11),o⟩]))))) (q (g [⟨s 12,l o (t 2),o⟩,⟨s 4,m (t 12),o⟩]) R))),[.tmp 4]⟩
def c140 : RFunc := ⟨134,.code (q (g [⟨s 8,m (v (w T)),o⟩]) (q (g [⟨s 9,m (v (w T)),o⟩]) (B 0 (L (B 1 (q (g [⟨s 19,m (t 2),o⟩,⟨s 20,m (t 1),o⟩,⟨s 21,b .sub (t 19) (t 20),o⟩,⟨s 10,m (t 21),o⟩]) (q (q (g [⟨s 22,m (t 10),o⟩,⟨s 23,b .leq (t 22) (v (i I 12)),o⟩]) (c (t 23) (q (g [⟨s 24,m (t 0),o⟩,⟨s 25,m (t 1),o⟩,⟨s 26,m (t 2),o⟩,⟨s 27,C (v (F (J 153) [] [])) [t 24,t 25,t 26],o⟩]) R) k)) (q (q (g [⟨s 28,m (t 3),o⟩,⟨s 29,b .eql (t 28) (v (i I 0)),o⟩]) (c (t 29) (q (g [⟨s 30,m (t 0),o⟩,⟨s 31,m (t 1),o⟩,⟨s 32,m (t 2),o⟩,⟨s 33,C (v (F (J 154) [] [])) [t 30,t 31,t 32],o⟩]) R) k)) (q (q (g [⟨s 34,m (t 8),o⟩,⟨s 35,.un .not (t 34),o⟩]) (c (t 35) (q (g [⟨s 36,m (t 0),o⟩,⟨s 37,m (t 1),o⟩,⟨s 38,m (t 2),o⟩,⟨s 39,C (v (F (J 155) [] [])) [t 36,t 37,t 38],o⟩]) (g [⟨s 40,m (t 3),o⟩,⟨s 41,b .sub (t 40) (v (i I 1)),o⟩,⟨s 3,m (t 41),o⟩])) k)) (q (g [⟨s 43,m (t 0),o⟩,⟨s 44,m (t 1),o⟩,⟨s 45,m (t 2),o⟩,⟨s 46,C (v (F (J 156) [] [])) [t 43,t 44,t 45],o⟩,⟨s 42,m (t 46),o⟩,⟨s 47,e (t 42) 0,o⟩,⟨s 48,e (t 42) 1,o⟩,⟨s 11,m (t 47),o⟩,⟨s 12,m (t 48),o⟩]) (q (q (g [⟨s 49,m (t 12),o⟩,⟨s 50,b .eql (t 49) (v (i I 2)),o⟩]) (c (t 50) (q (g [⟨s 51,m (t 0),o⟩,⟨s 52,m (t 1),o⟩,⟨s 53,m (t 2),o⟩,⟨s 54,C (v (F (J 157) [] [])) [t 51,t 52,t 53],o⟩]) (q (g [⟨s 55,m (t 2),o⟩,⟨s 56,b .sub (t 55) (v (i I 1)),o⟩,⟨s 57,m (t 11),o⟩,⟨s 58,m (t 1),o⟩,⟨s 59,b .sub (t 57) (t 58),o⟩,⟨s 60,b .sub (t 56) (t 59),o⟩,⟨s 11,m (t 60),o⟩]) (g [⟨s 12,m (v (i I 1)),o⟩]))) k)) (q (q (g [⟨s 61,m (t 8),o⟩,⟨s 62,m (t 61),o⟩,⟨s 63,m (t 9),s (62,T)⟩,⟨s 64,p (t 62) (t 63) (v (w U)),o⟩,⟨s 65,m (t 64),o⟩,⟨s 66,m (t 12),s (65,T)⟩,⟨s 67,b .eql (t 66) (v (i I 1)),s (65,T)⟩,⟨s 68,p (t 65) (t 67) (v (w U)),o⟩]) (c (t 68) (q (g [⟨s 69,m (t 0),o⟩,⟨s 70,m (t 1),o⟩,⟨s 71,m (t 2),o⟩,⟨s 72,C (v (F (J 158) [] [])) [t 69,t 70,t 71],o⟩]) (c (t 72) R k)) k)) (q (q (G [⟨⟨s 73,m (t 1),o⟩,0,0,T⟩,⟨⟨s 74,b .gtr (t 73) (v (i I 0)),o⟩,1,0,T⟩,⟨⟨s 75,m (t 74),o⟩,3,0,T⟩,⟨⟨s 76,m (t 0),s (75,T)⟩,7,0,T⟩,⟨⟨s 77,m (t 1),s (75,T)⟩,7,0,T⟩,⟨⟨s 78,b .sub (t 77) (v (i I 1)),s (75,T)⟩,23,0,T⟩,⟨⟨s 79,a 1 (t 76) (t 78),s (75,T)⟩,63,0,T⟩,⟨⟨s 80,l o (t 79),s (75,T)⟩,127,1,T⟩,⟨⟨s 81,m (t 0),s (75,T)⟩,7,0,T⟩,⟨⟨s 82,m (t 11),s (75,T)⟩,7,0,T⟩,⟨⟨s 83,a 1 (t 81) (t 82),s (75,T)⟩,775,0,T⟩,⟨⟨s 84,l o (t 83),s (75,T)⟩,1799,1,T⟩,⟨⟨s 85,C (v (F (J 159) [] [])) [t 80,t 84],s (75,T)⟩,4095,2,U⟩,⟨⟨s 86,.un .not (t 85),s (75,T)⟩,8191,0,U⟩,⟨⟨s 87,p (t 75) (t 86) (v (w U)),o⟩,16383,0,U⟩]) (c (t 87) (q (g [⟨s 88,m (t 0),o⟩,⟨s 89,m (t 1),o⟩,⟨s 90,m (t 2),o⟩,⟨s 91,m (t 11),o⟩,⟨s 92,C (v (F (J 160) [] [])) [t 88,t 89,t 90,t 91],o⟩,⟨s 13,m (t 92),o⟩]) (q (g [⟨s 93,m (t 13),o⟩,⟨s 1,m (t 93),o⟩]) (x 1))) k)) (q (g [⟨s 95,m (t 0),o⟩,⟨s 96,m (t 1),o⟩,⟨s 97,m (t 2),o⟩,⟨s 98,m (t 11),o⟩,⟨s 99,C (v (F (J 161) [] [])) [t 95,t 96,t 97,t 98],o⟩,⟨s 94,m (t 99),o⟩,⟨s 100,e (t 94) 0,o⟩,⟨s 101,e (t 94) 1,o⟩,⟨s 14,m (t 100),o⟩,⟨s 15,m (t 101),o⟩]) (q (g [⟨s 102,m (t 15),o⟩,⟨s 9,m (t 102),o⟩]) (q (g [⟨s 103,m (t 14),o⟩,⟨s 104,m (t 1),o⟩,⟨s 105,b .sub (t 103) (t 104),o⟩,⟨s 106,m (t 2),o⟩,⟨s 107,m (t 14),o⟩,⟨s 108,b .sub (t 106) (t 107),o⟩,⟨s 16,m (t 105),o⟩,⟨s 17,m (t 108),o⟩]) (q (g [⟨s 109,m (t 10),o⟩,⟨s 110,b .quo (t 109) (v (i I 8)),o⟩,⟨s 18,m (t 110),o⟩]) (q (g [⟨s 111,m (t 16),o⟩,⟨s 112,m (t 17),o⟩,⟨s 113,b .lss (t 111) (t 112),o⟩]) (c (t 113) (q (g [⟨s 114,m (t 16),o⟩,⟨s 115,m (t 18),o⟩,⟨s 116,b .geq (t 114) (t 115),o⟩,⟨s 8,m (t 116),o⟩]) (q (g [⟨s 117,m (t 0),o⟩,⟨s 118,m (t 1),o⟩,⟨s 119,m (t 14),o⟩,⟨s 120,m (t 3),o⟩,⟨s 121,C (v (F (J 140) [] [])) [t 117,t 118,t 119,t 120],o⟩]) (g [⟨s 122,m (t 14),o⟩,⟨s 123,b .add (t 122) (v (i I 1)),o⟩,⟨s 1,m (t 123),o⟩]))) (q (g [⟨s 124,m (t 17),o⟩,⟨s 125,m (t 18),o⟩,⟨s 126,b .geq (t 124) (t 125),o⟩,⟨s 8,m (t 126),o⟩]) (q (g [⟨s 127,m (t 0),o⟩,⟨s 128,m (t 14),o⟩,⟨s 129,b .add (t 128) (v (i I 1)),o⟩,⟨s 130,m (t 2),o⟩,⟨s 131,m (t 3),o⟩,⟨s 132,C (v (F (J 140) [] [])) [t 127,t 129,t 130,t 131],o⟩]) (g [⟨s 133,m (t 14),o⟩,⟨s 2,m (t 133),o⟩])))))))))))))))))))))),[]⟩
def c141 : RFunc := ⟨8,.code (q (g [⟨s 2,m (v (i I 0)),o⟩]) (q (c (v (w U)) (q (g [⟨s 3,m (t 0),o⟩,⟨s 4,.convInt .u32 (t 3),o⟩,⟨s 5,C (v (F (J 162) [] [])) [t 4],o⟩,⟨s 2,m (t 5),o⟩]) R) k) (q (g [⟨s 6,m (t 0),o⟩,⟨s 7,C (v (F (J 163) [] [])) [t 6],o⟩,⟨s 2,m (t 7),o⟩]) R))),[.tmp 2]⟩
def c142 : RFunc := ⟨19,.code (q (g [⟨s 4,m (v (i I 0)),o⟩]) (q (q (g [⟨s 6,m (t 0),o⟩,⟨s 7,n (t 6),o⟩,⟨s 8,m (v (i I 0)),o⟩]) (B 0 (L (q (g [⟨s 9,b .lss (t 8) (t 7),o⟩]) (q (c (t 9) k (x 0)) (q (B 1 (q (g [⟨s 10,m (t 8),o⟩,⟨s 5,m (t 10),o⟩]) (q (g [⟨s 11,m (t 1),o⟩,⟨s 12,m (t 0),o⟩,⟨s 13,m (t 5),o⟩,⟨s 14,a 1 (t 12) (t 13),o⟩,⟨s 15,l o (t 14),o⟩,⟨s 16,C (t 11) [t 15],o⟩]) (c (t 16) (q (g [⟨s 17,m (t 5),o⟩,⟨s 4,m (t 17),o⟩]) R) k)))) (g [⟨s 18,b .add (t 8) (v (i I 1)),o⟩,⟨s 8,m (t 18),o⟩]))))))) (q (g [⟨s 4,m (v (i I (-1))),o⟩]) R))),[.tmp 4]⟩
def c143 : RFunc := ⟨53,.code (q (g [⟨s 10,m (t 1),o⟩,⟨s 11,b .add (t 10) (v (i I 1)),o⟩,⟨s 8,m (t 11),o⟩]) (B 0 (L (q (q (g [⟨s 12,m (t 8),o⟩,⟨s 13,m (t 2),o⟩,⟨s 14,b .lss (t 12) (t 13),o⟩]) (c (t 14) k (x 0))) (q (B 1 (q (g [⟨s 17,m (t 8),o⟩,⟨s 9,m (t 17),o⟩]) (B 2 (L (q (q (G [⟨⟨s 18,m (t 9),o⟩,0,0,T⟩,⟨⟨s 19,m (t 1),o⟩,0,0,T⟩,⟨⟨s 20,b .gtr (t 18) (t 19),o⟩,3,0,T⟩,⟨⟨s 21,m (t 20),o⟩,7,0,T⟩,⟨⟨s 22,m (t 3),s (21,T)⟩,15,0,T⟩,⟨⟨s 23,m (t 0),s (21,T)⟩,15,0,T⟩,⟨⟨s 24,m (t 9),s (21,T)⟩,15,0,T⟩,⟨⟨s 25,a 2 (t 23) (t 24),s (21,T)⟩,111,0,T⟩,⟨⟨s 26,l (s 2) (t 25),s (21,T)⟩,239,1,T⟩,⟨⟨s 27,m (t 0),s (21,T)⟩,15,0,T⟩,⟨⟨s 28,m (t 9),s (21,T)⟩,15,0,T⟩,⟨⟨s 29,b .sub (t 28) (v (i I 1)),s (21,T)⟩,1039,0,T⟩,⟨⟨s 30,a 2 (t 27) (t 29),s (21,T)⟩,3599,0,T⟩,⟨⟨s 31,l (s 2) (t 30),s (21,T)⟩,7695,1,T⟩,⟨⟨s 32,C (t 22) [t 26,t 31],s (21,T)⟩,16383,2,U⟩,⟨⟨s 33,b .lss (t 32) (v (i I 0)),s (21,T)⟩,32767,0,U⟩,⟨⟨s 34,p (t 21) (t 33) (v (w U)),o⟩,65535,0,U⟩]) (c (t 34) k (x 2))) (q (B 3 (G [⟨⟨s 37,m (t 0),o⟩,0,0,T⟩,⟨⟨s 38,m (t 9),o⟩,0,0,T⟩,⟨⟨s 39,m (t 0),o⟩,0,0,T⟩,⟨⟨s 40,m (t 9),o⟩,0,0,T⟩,⟨⟨s 41,b .sub (t 40) (v (i I 1)),o⟩,8,0,T⟩,⟨⟨s 42,m (t 0),o⟩,0,0,T⟩,⟨⟨s 43,m (t 9),o⟩,0,0,T⟩,⟨⟨s 44,b .sub (t 43) (v (i I 1)),o⟩,64,0,T⟩,⟨⟨s 45,a 2 (t 42) (t 44),o⟩,224,0,T⟩,⟨⟨s 46,l (s 2) (t 45),o⟩,480,1,T⟩,⟨⟨s 47,m (t 0),o⟩,0,0,T⟩,⟨⟨s 48,m (t 9),o⟩,0,0,T⟩,⟨⟨s 49,a 2 (t 47) (t 48),o⟩,3072,0,T⟩,⟨⟨s 50,l (s 2) (t 49),o⟩,7168,1,T⟩,⟨⟨s 51,a 2 (t 37) (t 38),o⟩,16355,0,T⟩,⟨⟨o,S 2 (t 51) (t 46),o⟩,32739,2,U⟩,⟨⟨s 52,a 2 (t 39) (t 41),o⟩,65535,0,T⟩,⟨⟨o,S 2 (t 52) (t 50),o⟩,131071,2,U⟩])) (g [⟨s 35,m (t 9),o⟩,⟨s 36,b .sub (t 35) (v (i I 1)),o⟩,⟨s 9,m (t 36),o⟩]))))))) (g [⟨s 15,m (t 8),o⟩,⟨s 16,b .add (t 15) (v (i I 1)),o⟩,⟨s 8,m (t 16),o⟩])))))),[]⟩
def c144 : RFunc := ⟨220,.code (q (q (g [⟨s 25,m (t 2),o⟩,⟨s 26,m (t 1),o⟩,⟨s 27,b .sub (t 25) (t 26),o⟩,⟨s 28,b .eql (t 27) (v (i I 1)),o⟩]) (c (t 28) (q (g [⟨s 29,m (t 2),o⟩,⟨s 10,m (t 29),o⟩]) (q (g [⟨s 30,m (t 3),o⟩,⟨s 11,m (t 30),o⟩]) (q (B 0 (L (q (q (g [⟨s 31,m (t 10),o⟩,⟨s 32,m (t 11),o⟩,⟨s 33,b .lss (t 31) (t 32),o⟩]) (c (t 33) k (x 0))) (B 1 (q (g [⟨s 34,m (t 10),o⟩,⟨s 35,m (t 11),o⟩,⟨s 36,b .add (t 34) (t 35),o⟩,⟨s 37,.convInt .u64 (t 36),o⟩,⟨s 38,b .shr (t 37) (v (i .u64 1)),o⟩,⟨s 39,.convInt I (t 38),o⟩,⟨s 12,m (t 39),o⟩]) (q (G [⟨⟨s 40,m (t 4),o⟩,0,0,T⟩,⟨⟨s 41,m (t 0),o⟩,0,0,T⟩,⟨⟨s 42,m (t 12),o⟩,0,0,T⟩,⟨⟨s 43,a 2 (t 41) (t 42),o⟩,6,0,T⟩,⟨⟨s 44,l (s 2) (t 43),o⟩,14,1,T⟩,⟨⟨s 45,m (t 0),o⟩,0,0,T⟩,⟨⟨s 46,m (t 1),o⟩,0,0,T⟩,⟨⟨s 47,a 2 (t 45) (t 46),o⟩,96,0,T⟩,⟨⟨s 48,l (s 2) (t 47),o⟩,224,1,T⟩,⟨⟨s 49,C (t 40) [t 44,t 48],o⟩,511,2,U⟩,⟨⟨s 50,b .lss (t 49) (v (i I 0)),o⟩,1023,0,U⟩]) (c (t 50) (g [⟨s 51,m (t 12),o⟩,⟨s 52,b .add (t 51) (v (i I 1)),o⟩,⟨s 10,m (t 52),o⟩]) (g [⟨s 53,m (t 12),o⟩,⟨s 11,m (t 53),o⟩])))))))) (q (q (g [⟨s 54,m (t 1),o⟩,⟨s 13,m (t 54),o⟩]) (B 2 (L (q (q (g [⟨s 55,m (t 13),o⟩,⟨s 56,m (t 10),o⟩,⟨s 57,b .sub (t 56) (v (i I 1)),o⟩,⟨s 58,b .lss (t 55) (t 57),o⟩]) (c (t 58) k (x 2))) (q (B 3 (G [⟨⟨s 61,m (t 0),o⟩,0,0,T⟩,⟨⟨s 62,m (t 13),o⟩,0,0,T⟩,⟨⟨s 63,m (t 0),o⟩,0,0,T⟩,⟨⟨s 64,m (t 13),o⟩,0,0,T⟩,⟨⟨s 65,b .add (t 64) (v (i I 1)),o⟩,8,0,T⟩,⟨⟨s 66,m (t 0),o⟩,0,0,T⟩,⟨⟨s 67,m (t 13),o⟩,0,0,T⟩,⟨⟨s 68,b .add (t 67) (v (i I 1)),o⟩,64,0,T⟩,⟨⟨s 69,a 2 (t 66) (t 68),o⟩,224,0,T⟩,⟨⟨s 70,l (s 2) (t 69),o⟩,480,1,T⟩,⟨⟨s 71,m (t 0),o⟩,0,0,T⟩,⟨⟨s 72,m (t 13),o⟩,0,0,T⟩,⟨⟨s 73,a 2 (t 71) (t 72),o⟩,3072,0,T⟩,⟨⟨s 74,l (s 2) (t 73),o⟩,7168,1,T⟩,⟨⟨s 75,a 2 (t 61) (t 62),o⟩,16355,0,T⟩,⟨⟨o,S 2 (t 75) (t 70),o⟩,32739,2,U⟩,⟨⟨s 76,a 2 (t 63) (t 65),o⟩,65535,0,T⟩,⟨⟨o,S 2 (t 76) (t 74),o⟩,131071,2,U⟩])) (g [⟨s 59,m (t 13),o⟩,⟨s 60,b .add (t 59) (v (i I 1)),o⟩,⟨s 13,m (t 60),o⟩])))))) R)))) k)) (q (q (g [⟨s 77,m (t 3),o⟩,⟨s 78,m (t 2),o⟩,⟨s 79,b .sub (t 77) (t 78),o⟩,⟨s 80,b .eql (t 79) (v (i I 1)),o⟩]) (c (t 80) (q (g [⟨s 81,m (t 1),o⟩,⟨s 14,m (t 81),o⟩]) (q (g [⟨s 82,m (t 2),o⟩,⟨s 15,m (t 82),o⟩]) (q (B 4 (L (q (q (g [⟨s 83,m (t 14),o⟩,⟨s 84,m (t 15),o⟩,⟨s 85,b .lss (t 83) (t 84),o⟩]) (c (t 85) k (x 4))) (B 5 (q (g [⟨s 86,m (t 14),o⟩,⟨s 87,m (t 15),o⟩,⟨s 88,b .add (t 86) (t 87),o⟩,⟨s 89,.convInt .u64 (t 88),o⟩,⟨s 90,b .shr (t 89) (v (i .u64 1)),o⟩,⟨s 91,.convInt I (t 90),o⟩,⟨s 16,m (t 91),o⟩]) (q (G [⟨⟨s 92,m (t 4),o⟩,0,0,T⟩,⟨⟨s 93,m (t 0),o⟩,0,0,T⟩,⟨⟨s 94,m (t 2),o⟩,0,0,T⟩,⟨⟨s 95,a 2 (t 93) (t 94),o⟩,6,0,T⟩,⟨⟨s 96,l (s 2) (t 95),o⟩,14,1,T⟩,⟨⟨s 97,m (t 0),o⟩,0,0,T⟩,⟨⟨s 98,m (t 16),o⟩,0,0,T⟩,⟨⟨s 99,a 2 (t 97) (t 98),o⟩,96,0,T⟩,⟨⟨s 100,l (s 2) (t 99),o⟩,224,1,T⟩,⟨⟨s 101,C (t 92) [t 96,t 100],o⟩,511,2,U⟩,⟨⟨s 102,b .lss (t 101) (v (i I 0)),o⟩,1023,0,U⟩,⟨⟨s 103,.un .not (t 102),o⟩,2047,0,U⟩]) (c (t 103) (g [⟨s 104,m (t 16),o⟩,⟨s 105,b .add (t 104) (v (i I 1)),o⟩,⟨s 14,m (t 105),o⟩]) (g [⟨s 106,m (t 16),o⟩,⟨s 15,m (t 106),o⟩])))))))) (q (q (g [⟨s 107,m (t 2),o⟩,⟨s 17,m (t 107),o⟩]) (B 6 (L (q (q (g [⟨s 108,m (t 17),o⟩,⟨s 109,m (t 14),o⟩,⟨s 110,b .gtr (t 108) (t 109),o⟩]) (c (t 110) k (x 6))) (q (B 7 (G [⟨⟨s 113,m (t 0),o⟩,0,0,T⟩,⟨⟨s 114,m (t 17),o⟩,0,0,T⟩,⟨⟨s 115,m (t 0),o⟩,0,0,T⟩,⟨⟨s 116,m (t 17),o⟩,0,0,T⟩,⟨⟨s 117,b .sub (t 116) (v (i I 1)),o⟩,8,0,T⟩,⟨⟨s 118,m (t 0),o⟩,0,0,T⟩,⟨⟨s 119,m (t 17),o⟩,0,0,T⟩,⟨⟨s 120,b .sub (t 119) (v (i I 1)),o⟩,64,0,T⟩,⟨⟨s 121,a 2 (t 118) (t 120),o⟩,224,0,T⟩,⟨⟨s 122,l (s 2) (t 121),o⟩,480,1,T⟩,⟨⟨s 123,m (t 0),o⟩,0,0,T⟩,⟨⟨s 124,m (t 17),o⟩,0,0,T⟩,⟨⟨s 125,a 2 (t 123) (t 124),o⟩,3072,0,T⟩,⟨⟨s 126,l (s 2) (t 125),o⟩,7168,1,T⟩,⟨⟨s 127,a 2 (t 113) (t 114),o⟩,16355,0,T⟩,⟨⟨o,S 2 (t 127) (t 122),o⟩,32739,2,U⟩,⟨⟨s 128,a 2 (t 115) (t 117),o⟩,65535,0,T⟩,⟨⟨o,S 2 (t 128) (t 126),o⟩,131071,2,U⟩])) (g [⟨s 111,m (t 17),o⟩,⟨s 112,b .sub (t 111) (v (i I 1)),o⟩,⟨s 17,m (t 112),o⟩])))))) R)))) k)) (q (g [⟨s 129,m (t 1),o⟩,⟨s 130,m (t 3),o⟩,⟨s 131,b .add (t 129) (t 130),o⟩,⟨s 132,.convInt .u64 (t 131),o⟩,⟨s 133,b .shr (t 132) (v (i .u64 1)),o⟩,⟨s 134,.convInt I (t 133),o⟩,⟨s 18,m (t 134),o⟩]) (q (g [⟨s 135,m (t 18),o⟩,⟨s 136,m (t 2),o⟩,⟨s 137,b .add (t 135) (t 136),o⟩,⟨s 19,m (t 137),o⟩]) (q (g [⟨s 20,m (v (i I 0)),o⟩,⟨s 21,m (v (i I 0)),o⟩]) (q (q (g [⟨s 138,m (t 2),o⟩,⟨s 139,m (t 18),o⟩,⟨s 140,b .gtr (t 138) (t 139),o⟩]) (c (t 140) (q (g [⟨s 141,m (t 19),o⟩,⟨s 142,m (t 3),o⟩,⟨s 143,b .sub (t 141) (t 142),o⟩,⟨s 20,m (t 143),o⟩]) (g [⟨s 144,m (t 18),o⟩,⟨s 21,m (t 144),o⟩])) (q (g [⟨s 145,m (t 1),o⟩,⟨s 20,m (t 145),o⟩]) (g [⟨s 146,m (t 2),o⟩,⟨s 21,m (t 146),o⟩])))) (q (g [⟨s 147,m (t 19),o⟩,⟨s 148,b .sub (t 147) (v (i I 1)),o⟩,⟨s 22,m (t 148),o⟩]) (q (B 8 (L (q (q (g [⟨s 149,m (t 20),o⟩,⟨s 150,m (t 21),o⟩,⟨s 151,b .lss (t 149) (t 150),o⟩]) (c (t 151) k (x 8))) (B 9 (q (g [⟨s 152,m (t 20),o⟩,⟨s 153,m (t 21),o⟩,⟨s 154,b .add (t 152) (t 153),o⟩,⟨s 155,.convInt .u64 (t 154),o⟩,⟨s 156,b .shr (t 155) (v (i .u64 1)),o⟩,⟨s 157,.convInt I (t 156),o⟩,⟨s 23,m (t 157),o⟩]) (q (G [⟨⟨s 158,m (t 4),o⟩,0,0,T⟩,⟨⟨s 159,m (t 0),o⟩,0,0,T⟩,⟨⟨s 160,m (t 22),o⟩,0,0,T⟩,⟨⟨s 161,m (t 23),o⟩,0,0,T⟩,⟨⟨s 162,b .sub (t 160) (t 161),o⟩,12,0,T⟩,⟨⟨s 163,a 2 (t 159) (t 162),o⟩,30,0,T⟩,⟨⟨s 164,l (s 2) (t 163),o⟩,62,1,T⟩,⟨⟨s 165,m (t 0),o⟩,0,0,T⟩,⟨⟨s 166,m (t 23),o⟩,0,0,T⟩,⟨⟨s 167,a 2 (t 165) (t 166),o⟩,384,0,T⟩,⟨⟨s 168,l (s 2) (t 167),o⟩,896,1,T⟩,⟨⟨s 169,C (t 158) [t 164,t 168],o⟩,2047,2,U⟩,⟨⟨s 170,b .lss (t 169) (v (i I 0)),o⟩,4095,0,U⟩,⟨⟨s 171,.un .not (t 170),o⟩,8191,0,U⟩]) (c (t 171) (g [⟨s 172,m (t 23),o⟩,⟨s 173,b .add (t 172) (v (i I 1)),o⟩,⟨s 20,m (t 173),o⟩]) (g [⟨s 174,m (t 23),o⟩,⟨s 21,m (t 174),o⟩])))))))) (q (g [⟨s 175,m (t 19),o⟩,⟨s 176,m (t 20),o⟩,⟨s 177,b .sub (t 175) (t 176),o⟩,⟨s 24,m (t 177),o⟩]) (q (q (g [⟨s 178,m (t 20),o⟩,⟨s 179,m (t 2),o⟩,⟨s 180,b .lss (t 178) (t 179),o⟩,⟨s 181,m (t 180),o⟩,⟨s 182,m (t 2),s (181,T)⟩,⟨s 183,m (t 24),s (181,T)⟩,⟨s 184,b .lss (t 182) (t 183),s (181,T)⟩,⟨s 185,p (t 181) (t 184) (v (w U)),o⟩]) (c (t 185) (g [⟨s 186,m (t 0),o⟩,⟨s 187,m (t 20),o⟩,⟨s 188,m (t 2),o⟩,⟨s 189,m (t 24),o⟩,⟨s 190,m (t 4),o⟩,⟨s 191,C (v (F (J 164) [] [])) [t 186,t 187,t 188,t 189,t 190],o⟩]) k)) (q (q (g [⟨s 192,m (t 1),o⟩,⟨s 193,m (t 20),o⟩,⟨s 194,b .lss (t 192) (t 193),o⟩,⟨s 195,m (t 194),o⟩,⟨s 196,m (t 20),s (195,T)⟩,⟨s 197,m (t 18),s (195,T)⟩,⟨s 198,b .lss (t 196) (t 197),s (195,T)⟩,⟨s 199,p (t 195) (t 198) (v (w U)),o⟩]) (c (t 199) (g [⟨s 200,m (t 0),o⟩,⟨s 201,m (t 1),o⟩,⟨s 202,m (t 20),o⟩,⟨s 203,m (t 18),o⟩,⟨s 204,m (t 4),o⟩,⟨s 205,C (v (F (J 144) [] [])) [t 200,t 201,t 202,t 203,t 204],o⟩]) k)) (q (g [⟨s 206,m (t 18),o⟩,⟨s 207,m (t 24),o⟩,⟨s 208,b .lss (t 206) (t 207),o⟩,⟨s 209,m (t 208),o⟩,⟨s 210,m (t 24),s (209,T)⟩,⟨s 211,m (t 3),s (209,T)⟩,⟨s 212,b .lss (t 210) (t 211),s (209,T)⟩,⟨s 213,p (t 209) (t 212) (v (w U)),o⟩]) (c (t 213) (g [⟨s 214,m (t 0),o⟩,⟨s 215,m (t 18),o⟩,⟨s 216,m (t 24),o⟩,⟨s 217,m (t 3),o⟩,⟨s 218,m (t 4),o⟩,⟨s 219,C (v (F (J 144) [] [])) [t 214,t 215,t 216,t 217,t 218],o⟩]) k))))))))))))),[]⟩
def c147 : RFunc := ⟨54,.code (q (g [⟨s 4,m (v (.str ⟨#[]⟩)),o⟩]) (q (q (g [⟨s 10,m (t 1),o⟩,⟨s 11,b .eql (t 10) (v (i I 10)),o⟩]) (c (t 11) (q (q (g [⟨s 12,m (t 0),o⟩,⟨s 13,b .leq (v (i I 0)) (t 12),o⟩,⟨s 14,m (t 13),o⟩,⟨s 15,m (t 0),s (14,T)⟩,⟨s 16,b .lss (t 15) (v (i I 100)),s (14,T)⟩,⟨s 17,p (t 14) (t 16) (v (w U)),o⟩]) (c (t 17) (q (g [⟨s 18,m (t 0),o⟩,⟨s 19,C (v (F (J 165) [] [])) [t 18],o⟩,⟨s 4,m (t 19),o⟩]) R) k)) (q (g [⟨s 5,.new 223 [(i .u8 0),(i .u8 0),(i .u8 0),(i .u8 0),(i .u8 0),(i .u8 0),(i .u8 0),(i .u8 0),(i .u8 0),(i .u8 0),(i .u8 0),(i .u8 0),(i .u8 0),(i .u8 0),(i .u8 0),(i .u8 0),(i .u8 0),(i .u8 0),(i .u8 0),(i .u8 0),(i .u8 0),(i .u8 0),(i .u8 0),(i .u8 0)],o⟩]) (q (g [⟨s 20,m (t 0),o⟩,⟨s 21,.convInt .u64 (t 20),o⟩,⟨s 6,m (t 21),o⟩]) (q (q (g [⟨s 22,m (t 0),o⟩,⟨s 23,b .lss (t 22) (v (i I 0)),o⟩]) (c (t 23) (g [⟨s 24,m (t 6),o⟩,⟨s 25,.un .neg (t 24),o⟩,⟨s 6,m (t 25),o⟩]) k)) (q (g [⟨s 26,m (t 6),o⟩,⟨s 27,C (v (F (J 166) [] [])) [t 26],o⟩,⟨s 7,m (t 27),o⟩]) (q (g [⟨s 28,m (t 7),o⟩,⟨s 29,b .add (v (i I 1)) (t 28),o⟩,⟨s 30,.sliceArr 24 1 (t 5) (s (v (i I 1))) (s (t 29)) o,o⟩,⟨s 31,m (t 6),o⟩,⟨s 32,C (v (F (J 167) [] [])) [t 30,t 31],o⟩]) (q (q (g [⟨s 33,m (t 0),o⟩,⟨s 34,b .lss (t 33) (v (i I 0)),o⟩]) (c (t 34) (q (g [⟨s 35,.idxA 24 1 (t 5) (v (i I 0)),o⟩,⟨o,S 1 (t 35) (v (i .u8 45)),o⟩]) (q (g [⟨s 36,m (t 7),o⟩,⟨s 37,b .add (v (i I 1)) (t 36),o⟩,⟨s 38,.sliceArr 24 1 (t 5) o (s (t 37)) o,o⟩,⟨s 39,.bytesToStr (t 38),o⟩,⟨s 4,m (t 39),o⟩]) R)) k)) (q (g [⟨s 40,m (t 7),o⟩,⟨s 41,b .add (v (i I 1)) (t 40),o⟩,⟨s 42,.sliceArr 24 1 (t 5) (s (v (i I 1))) (s (t 41)) o,o⟩,⟨s 43,.bytesToStr (t 42),o⟩,⟨s 4,m (t 43),o⟩]) R)))))))) k)) (q (g [⟨s 45,m (t 0),o⟩,⟨s 46,.convInt .u64 (t 45),o⟩,⟨s 47,m (t 1),o⟩,⟨s 48,m (t 0),o⟩,⟨s 49,b .lss (t 48) (v (i I 0)),o⟩,⟨s 50,C (v (F (J 168) [] [])) [(v N),t 46,t 47,t 49,(v (w U))],o⟩,⟨s 44,m (t 50),o⟩,⟨s 51,e (t 44) 0,o⟩,⟨s 52,e (t 44) 1,o⟩,⟨s 8,m (t 51),o⟩,⟨s 9,m (t 52),o⟩]) (q (g [⟨s 53,m (t 9),o⟩,⟨s 4,m (t 53),o⟩]) R)))),[.tmp 4]⟩
def c153 : RFunc := ⟨49,.code (q (g [⟨s 8,m (t 1),o⟩,⟨s 9,b .add (t 8) (v (i I 1)),o⟩,⟨s 6,m (t 9),o⟩]) (B 0 (L (q (q (g [⟨s 10,m (t 6),o⟩,⟨s 11,m (t 2),o⟩,⟨s 12,b .lss (t 10) (t 11),o⟩]) (c (t 12) k (x 0))) (q (B 1 (q (g [⟨s 15,m (t 6),o⟩,⟨s 7,m (t 15),o⟩]) (B 2 (L (q (q (G [⟨⟨s 16,m (t 7),o⟩,0,0,T⟩,⟨⟨s 17,m (t 1),o⟩,0,0,T⟩,⟨⟨s 18,b .gtr (t 16) (t 17),o⟩,3,0,T⟩,⟨⟨s 19,m (t 18),o⟩,7,0,T⟩,⟨⟨s 20,m (t 0),s (19,T)⟩,15,0,T⟩,⟨⟨s 21,m (t 7),s (19,T)⟩,15,0,T⟩,⟨⟨s 22,a 1 (t 20) (t 21),s (19,T)⟩,63,0,T⟩,⟨⟨s 23,l o (t 22),s (19,T)⟩,127,1,T⟩,⟨⟨s 24,m (t 0),s (19,T)⟩,15,0,T⟩,⟨⟨s 25,m (t 7),s (19,T)⟩,15,0,T⟩,⟨⟨s 26,b .sub (t 25) (v (i I 1)),s (19,T)⟩,527,0,T⟩,⟨⟨s 27,a 1 (t 24) (t 26),s (19,T)⟩,1807,0,T⟩,⟨⟨s 28,l o (t 27),s (19,T)⟩,3855,1,T⟩,⟨⟨s 29,C (v (F (J 159) [] [])) [t 23,t 28],s (19,T)⟩,8191,2,U⟩,⟨⟨s 30,p (t 19) (t 29) (v (w U)),o⟩,16383,0,U⟩]) (c (t 30) k (x 2))) (q (B 3 (G [⟨⟨s 33,m (t 0),o⟩,0,0,T⟩,⟨⟨s 34,m (t 7),o⟩,0,0,T⟩,⟨⟨s 35,m (t 0),o⟩,0,0,T⟩,⟨⟨s 36,m (t 7),o⟩,0,0,T⟩,⟨⟨s 37,b .sub (t 36) (v (i I 1)),o⟩,8,0,T⟩,⟨⟨s 38,m (t 0),o⟩,0,0,T⟩,⟨⟨s 39,m (t 7),o⟩,0,0,T⟩,⟨⟨s 40,b .sub (t 39) (v (i I 1)),o⟩,64,0,T⟩,⟨⟨s 41,a 1 (t 38) (t 40),o⟩,224,0,T⟩,⟨⟨s 42,l o (t 41),o⟩,480,1,T⟩,⟨⟨s 43,m (t 0),o⟩,0,0,T⟩,⟨⟨s 44,m (t 7),o⟩,0,0,T⟩,⟨⟨s 45,a 1 (t 43) (t 44),o⟩,3072,0,T⟩,⟨⟨s 46,l o (t 45),o⟩,7168,1,T⟩,⟨⟨s 47,a 1 (t 33) (t 34),o⟩,16355,0,T⟩,⟨⟨o,S 1 (t 47) (t 42),o⟩,32739,2,U⟩,⟨⟨s 48,a 1 (t 35) (t 37),o⟩,65535,0,T⟩,⟨⟨o,S 1 (t 48) (t 46),o⟩,131071,2,U⟩])) (g [⟨s 31,m (t 7),o⟩,⟨s 32,b .sub (t 31) (v (i I 1)),o⟩,⟨s 7,m (t 32),o⟩]))))))) (g [⟨s 13,m (t 6),o⟩,⟨s 14,b .add (t 13) (v (i I 1)),o⟩,⟨s 6,m (t 14),o⟩])))))),[]⟩
def c154 : RFunc := ⟨56,.code (q (g [⟨s 11,m (t 1),o⟩,⟨s 6,m (t 11),o⟩]) (q (g [⟨s 7,m (v (i I 0)),o⟩]) (q (g [⟨s 12,m (t 2),o⟩,⟨s 13,m (t 1),o⟩,⟨s 14,b .sub (t 12) (t 13),o⟩,⟨s 8,m (t 14),o⟩]) (q (q (g [⟨s 15,m (t 8),o⟩,⟨s 16,b .sub (t 15) (v (i I 1)),o⟩,⟨s 17,b .quo (t 16) (v (i I 2)),o⟩,⟨s 9,m (t 17),o⟩]) (B 0 (L (q (q (g [⟨s 18,m (t 9),o⟩,⟨s 19,b .geq (t 18) (v (i I 0)),o⟩]) (c (t 19) k (x 0))) (q (B 1 (g [⟨s 22,m (t 0),o⟩,⟨s 23,m (t 9),o⟩,⟨s 24,m (t 8),o⟩,⟨s 25,m (t 6),o⟩,⟨s 26,C (v (F (J 175) [] [])) [t 22,t 23,t 24,t 25],o⟩])) (g [⟨s 20,m (t 9),o⟩,⟨s 21,b .sub (t 20) (v (i I 1)),o⟩,⟨s 9,m (t 21),o⟩])))))) (q (g [⟨s 27,m (t 8),o⟩,⟨s 28,b .sub (t 27) (v (i I 1)),o⟩,⟨s 10,m (t 28),o⟩]) (B 2 (L (q (q (g [⟨s 29,m (t 10),o⟩,⟨s 30,b .geq (t 29) (v (i I 0)),o⟩]) (c (t 30) k (x 2))) (q (B 3 (q (G [⟨⟨s 33,m (t 0),o⟩,0,0,T⟩,⟨⟨s 34,m (t 6),o⟩,0,0,T⟩,⟨⟨s 35,m (t 0),o⟩,0,0,T⟩,⟨⟨s 36,m (t 6),o⟩,0,0,T⟩,⟨⟨s 37,m (t 10),o⟩,0,0,T⟩,⟨⟨s 38,b .add (t 36) (t 37),o⟩,24,0,T⟩,⟨⟨s 39,m (t 0),o⟩,0,0,T⟩,⟨⟨s 40,m (t 6),o⟩,0,0,T⟩,⟨⟨s 41,m (t 10),o⟩,0,0,T⟩,⟨⟨s 42,b .add (t 40) (t 41),o⟩,384,0,T⟩,⟨⟨s 43,a 1 (t 39) (t 42),o⟩,960,0,T⟩,⟨⟨s 44,l o (t 43),o⟩,1984,1,T⟩,⟨⟨s 45,m (t 0),o⟩,0,0,T⟩,⟨⟨s 46,m (t 6),o⟩,0,0,T⟩,⟨⟨s 47,a 1 (t 45) (t 46),o⟩,12288,0,T⟩,⟨⟨s 48,l o (t 47),o⟩,28672,1,T⟩,⟨⟨s 49,a 1 (t 33) (t 34),o⟩,65475,0,T⟩,⟨⟨o,S 1 (t 49) (t 44),o⟩,131011,2,U⟩,⟨⟨s 50,a 1 (t 35) (t 38),o⟩,262143,0,T⟩,⟨⟨o,S 1 (t 50) (t 48),o⟩,524287,2,U⟩]) (g [⟨s 51,m (t 0),o⟩,⟨s 52,m (t 7),o⟩,⟨s 53,m (t 10),o⟩,⟨s 54,m (t 6),o⟩,⟨s 55,C (v (F (J 175) [] [])) [t 51,t 52,t 53,t 54],o⟩]))) (g [⟨s 31,m (t 10),o⟩,⟨s 32,b .sub (t 31) (v (i I 1)),o⟩,⟨s 10,m (t 32),o⟩])))))))))),[]⟩
def c155 : RFunc := ⟨65,.code (q (g [⟨s 11,m (t 2),o⟩,⟨s 12,m (t 1),o⟩,⟨s 13,b .sub (t 11) (t 12),o⟩,⟨s 6,m (t 13),o⟩]) (q (g [⟨s 14,m (t 6),o⟩,⟨s 15,b .geq (t 14) (v (i I 8)),o⟩]) (c (t 15) (q (g [⟨s 16,m (t 6),o⟩,⟨s 17,.convInt .u64 (t 16),o⟩,⟨s 7,.new 234 [(i .u64 0)],o⟩,⟨o,S 1 (t 7) (t 17),o⟩]) (q (g [⟨s 18,m (t 6),o⟩,⟨s 19,C (v (F (J 176) [] [])) [t 18],o⟩,⟨s 8,m (t 19),o⟩]) (q (g [⟨s 20,m (t 1),o⟩,⟨s 21,m (t 6),o⟩,⟨s 22,b .quo (t 21) (v (i I 4)),o⟩,⟨s 23,b .mul (t 22) (v (i I 2)),o⟩,⟨s 24,b .add (t 20) (t 23),o⟩,⟨s 25,b .sub (t 24) (v (i I 1)),o⟩,⟨s 9,m (t 25),o⟩]) (B 0 (L (q (q (g [⟨s 26,m (t 9),o⟩,⟨s 27,m (t 1),o⟩,⟨s 28,m (t 6),o⟩,⟨s 29,b .quo (t 28) (v (i I 4)),o⟩,⟨s 30,b .mul (t 29) (v (i I 2)),o⟩,⟨s 31,b .add (t 27) (t 30),o⟩,⟨s 32,b .add (t 31) (v (i I 1)),o⟩,⟨s 33,b .leq (t 26) (t 32),o⟩]) (c (t 33) k (x 0))) (q (B 1 (q (g [⟨s 36,C (v (F (J 177) [] [])) [t 7],o⟩,⟨s 37,m (t 8),o⟩,⟨s 38,b .sub (t 37) (v (i .u64 1)),o⟩,⟨s 39,b .and (t 36) (t 38),o⟩,⟨s 40,.convInt I (t 39),o⟩,⟨s 10,m (t 40),o⟩]) (q (q (g [⟨s 41,m (t 10),o⟩,⟨s 42,m (t 6),o⟩,⟨s 43,b .geq (t 41) (t 42),o⟩]) (c (t 43) (g [⟨s 44,m (t 10),o⟩,⟨s 45,m (t 6),o⟩,⟨s 46,b .sub (t 44) (t 45),o⟩,⟨s 10,m (t 46),o⟩]) k)) (G [⟨⟨s 47,m (t 0),o⟩,0,0,T⟩,⟨⟨s 48,m (t 9),o⟩,0,0,T⟩,⟨⟨s 49,m (t 0),o⟩,0,0,T⟩,⟨⟨s 50,m (t 1),o⟩,0,0,T⟩,⟨⟨s 51,m (t 10),o⟩,0,0,T⟩,⟨⟨s 52,b .add (t 50) (t 51),o⟩,24,0,T⟩,⟨⟨s 53,m (t 0),o⟩,0,0,T⟩,⟨⟨s 54,m (t 1),o⟩,0,0,T⟩,⟨⟨s 55,m (t 10),o⟩,0,0,T⟩,⟨⟨s 56,b .add (t 54) (t 55),o⟩,384,0,T⟩,⟨⟨s 57,a 1 (t 53) (t 56),o⟩,960,0,T⟩,⟨⟨s 58,l o (t 57),o⟩,1984,1,T⟩,⟨⟨s 59,m (t 0),o⟩,0,0,T⟩,⟨⟨s 60,m (t 9),o⟩,0,0,T⟩,⟨⟨s 61,a 1 (t 59) (t 60),o⟩,12288,0,T⟩,⟨⟨s 62,l o (t 61),o⟩,28672,1,T⟩,⟨⟨s 63,a 1 (t 47) (t 48),o⟩,65475,0,T⟩,⟨⟨o,S 1 (t 63) (t 58),o⟩,131011,2,U⟩,⟨⟨s 64,a 1 (t 49) (t 52),o⟩,262143,0,T⟩,⟨⟨o,S 1 (t 64) (t 62),o⟩,524287,2,U⟩])))) (g [⟨s 34,m (t 9),o⟩,⟨s 35,b .add (t 34) (v (i I 1)),o⟩,⟨s 9,m (t 35),o⟩])))))))) k))),[]⟩
def c156 : RFunc := ⟨57,.code (q (g [⟨s 6,m (v (i I 0)),o⟩,⟨s 7,m (v (i I 0)),o⟩]) (q (g [⟨s 13,m (t 2),o⟩,⟨s 14,m (t 1),o⟩,⟨s 15,b .sub (t 13) (t 14),o⟩,⟨s 8,m (t 15),o⟩]) (q (g [⟨s 9,.new 3 [(i I 0)],o⟩]) (q (g [⟨s 16,m (t 1),o⟩,⟨s 17,m (t 8),o⟩,⟨s 18,b .quo (t 17) (v (i I 4)),o⟩,⟨s 19,b .mul (t 18) (v (i I 1)),o⟩,⟨s 20,b .add (t 16) (t 19),o⟩,⟨s 10,m (t 20),o⟩]) (q (g [⟨s 21,m (t 1),o⟩,⟨s 22,m (t 8),o⟩,⟨s 23,b .quo (t 22) (v (i I 4)),o⟩,⟨s 24,b .mul (t 23) (v (i I 2)),o⟩,⟨s 25,b .add (t 21) (t 24),o⟩,⟨s 11,m (t 25),o⟩]) (q (g [⟨s 26,m (t 1),o⟩,⟨s 27,m (t 8),o⟩,⟨s 28,b .quo (t 27) (v (i I 4)),o⟩,⟨s 29,b .mul (t 28) (v (i I 3)),o⟩,⟨s 30,b .add (t 26) (t 29),o⟩,⟨s 12,m (t 30),o⟩]) (q (q (g [⟨s 31,m (t 8),o⟩,⟨s 32,b .geq (t 31) (v (i I 8)),o⟩]) (c (t 32) (q (q (g [⟨s 33,m (t 8),o⟩,⟨s 34,b .geq (t 33) (v (i I 50)),o⟩]) (c (t 34) (q (g [⟨s 35,m (t 0),o⟩,⟨s 36,m (t 10),o⟩,⟨s 37,C (v (F (J 178) [] [])) [t 35,t 36,t 9],o⟩,⟨s 10,m (t 37),o⟩]) (q (g [⟨s 38,m (t 0),o⟩,⟨s 39,m (t 11),o⟩,⟨s 40,C (v (F (J 178) [] [])) [t 38,t 39,t 9],o⟩,⟨s 11,m (t 40),o⟩]) (g [⟨s 41,m (t 0),o⟩,⟨s 42,m (t 12),o⟩,⟨s 43,C (v (F (J 178) [] [])) [t 41,t 42,t 9],o⟩,⟨s 12,m (t 43),o⟩]))) k)) (g [⟨s 44,m (t 0),o⟩,⟨s 45,m (t 10),o⟩,⟨s 46,m (t 11),o⟩,⟨s 47,m (t 12),o⟩,⟨s 48,C (v (F (J 179) [] [])) [t 44,t 45,t 46,t 47,t 9],o⟩,⟨s 11,m (t 48),o⟩])) k)) (q (g [⟨s 49,l o (t 9),o⟩]) (B 0 (q (g [⟨s 52,b .eql (t 49) (v (i I 0)),o⟩,⟨s 51,m (t 52),o⟩]) (c (t 51) (q (g [⟨s 53,m (t 11),o⟩,⟨s 6,m (t 53),o⟩,⟨s 7,m (v (i I 1)),o⟩]) R) (q (g [⟨s 55,b .eql (t 49) (v (i I 12)),o⟩,⟨s 54,m (t 55),o⟩]) (c (t 54) (q (g [⟨s 56,m (t 11),o⟩,⟨s 6,m (t 56),o⟩,⟨s 7,m (v (i I 2)),o⟩]) R) (q (g [⟨s 50,m (t 11),o⟩,⟨s 6,m (t 50),o⟩,⟨s 7,m (v (i I 0)),o⟩]) R)))))))))))))),[.tmp 6,.tmp 7]⟩
def c157 : RFunc := ⟨32,.code (q (g [⟨s 8,m (t 1),o⟩,⟨s 6,m (t 8),o⟩]) (q (g [⟨s 9,m (t 2),o⟩,⟨s 10,b .sub (t 9) (v (i I 1)),o⟩,⟨s 7,m (t 10),o⟩]) (B 0 (L (q (q (g [⟨s 11,m (t 6),o⟩,⟨s 12,m (t 7),o⟩,⟨s 13,b .lss (t 11) (t 12),o⟩]) (c (t 13) k (x 0))) (B 1 (q (G [⟨⟨s 14,m (t 0),o⟩,0,0,T⟩,⟨⟨s 15,m (t 6),o⟩,0,0,T⟩,⟨⟨s 16,m (t 0),o⟩,0,0,T⟩,⟨⟨s 17,m (t 7),o⟩,0,0,T⟩,⟨⟨s 18,m (t 0),o⟩,0,0,T⟩,⟨⟨s 19,m (t 7),o⟩,0,0,T⟩,⟨⟨s 20,a 1 (t 18) (t 19),o⟩,48,0,T⟩,⟨⟨s 21,l o (t 20),o⟩,112,1,T⟩,⟨⟨s 22,m (t 0),o⟩,0,0,T⟩,⟨⟨s 23,m (t 6),o⟩,0,0,T⟩,⟨⟨s 24,a 1 (t 22) (t 23),o⟩,768,0,T⟩,⟨⟨s 25,l o (t 24),o⟩,1792,1,T⟩,⟨⟨s 26,a 1 (t 14) (t 15),o⟩,4083,0,T⟩,⟨⟨o,S 1 (t 26) (t 21),o⟩,8179,2,U⟩,⟨⟨s 27,a 1 (t 16) (t 17),o⟩,16383,0,T⟩,⟨⟨o,S 1 (t 27) (t 25),o⟩,32767,2,U⟩]) (q (g [⟨s 28,m (t 6),o⟩,⟨s 29,b .add (t 28) (v (i I 1)),o⟩,⟨s 6,m (t 29),o⟩]) (g [⟨s 30,m (t 7),o⟩,⟨s 31,b .sub (t 30) (v (i I 1)),o⟩,⟨s 7,m (t 31),o⟩]))))))))),[]⟩
def c158 : RFunc := ⟨133,.code (q (g [⟨s 6,m (v (w U)),o⟩]) (q (g [⟨s 11,m (t 1),o⟩,⟨s 12,b .add (t 11) (v (i I 1)),o⟩,⟨s 7,m (t 12),o⟩]) (q (q (g [⟨s 8,m (v (i I 0)),o⟩]) (B 0 (L (q (q (g [⟨s 13,m (t 8),o⟩,⟨s 14,b .lss (t 13) (v (i I 5)),o⟩]) (c (t 14) k (x 0))) (q (B 1 (q (B 2 (L (q (q (G [⟨⟨s 17,m (t 7),o⟩,0,0,T⟩,⟨⟨s 18,m (t 2),o⟩,0,0,T⟩,⟨⟨s 19,b .lss (t 17) (t 18),o⟩,3,0,T⟩,⟨⟨s 20,m (t 19),o⟩,7,0,T⟩,⟨⟨s 21,m (t 0),s (20,T)⟩,15,0,T⟩,⟨⟨s 22,m (t 7),s (20,T)⟩,15,0,T⟩,⟨⟨s 23,a 1 (t 21) (t 22),s (20,T)⟩,63,0,T⟩,⟨⟨s 24,l o (t 23),s (20,T)⟩,127,1,T⟩,⟨⟨s 25,m (t 0),s (20,T)⟩,15,0,T⟩,⟨⟨s 26,m (t 7),s (20,T)⟩,15,0,T⟩,⟨⟨s 27,b .sub (t 26) (v (i I 1)),s (20,T)⟩,527,0,T⟩,⟨⟨s 28,a 1 (t 25) (t 27),s (20,T)⟩,1807,0,T⟩,⟨⟨s 29,l o (t 28),s (20,T)⟩,3855,1,T⟩,⟨⟨s 30,C (v (F (J 159) [] [])) [t 24,t 29],s (20,T)⟩,8191,2,U⟩,⟨⟨s 31,.un .not (t 30),s (20,T)⟩,16383,0,U⟩,⟨⟨s 32,p (t 20) (t 31) (v (w U)),o⟩,32767,0,U⟩]) (c (t 32) k (x 2))) (B 3 (g [⟨s 33,m (t 7),o⟩,⟨s 34,b .add (t 33) (v (i I 1)),o⟩,⟨s 7,m (t 34),o⟩]))))) (q (q (g [⟨s 35,m (t 7),o⟩,⟨s 36,m (t 2),o⟩,⟨s 37,b .eql (t 35) (t 36),o⟩]) (c (t 37) (q (g [⟨s 6,m (v (w T)),o⟩]) R) k)) (q (q (g [⟨s 38,m (t 2),o⟩,⟨s 39,m (t 1),o⟩,⟨s 40,b .sub (t 38) (t 39),o⟩,⟨s 41,b .lss (t 40) (v (i I 50)),o⟩]) (c (t 41) (q (g [⟨s 6,m (v (w U)),o⟩]) R) k)) (q (G [⟨⟨s 42,m (t 0),o⟩,0,0,T⟩,⟨⟨s 43,m (t 7),o⟩,0,0,T⟩,⟨⟨s 44,m (t 0),o⟩,0,0,T⟩,⟨⟨s 45,m (t 7),o⟩,0,0,T⟩,⟨⟨s 46,b .sub (t 45) (v (i I 1)),o⟩,8,0,T⟩,⟨⟨s 47,m (t 0),o⟩,0,0,T⟩,⟨⟨s 48,m (t 7),o⟩,0,0,T⟩,⟨⟨s 49,b .sub (t 48) (v (i I 1)),o⟩,64,0,T⟩,⟨⟨s 50,a 1 (t 47) (t 49),o⟩,224,0,T⟩,⟨⟨s 51,l o (t 50),o⟩,480,1,T⟩,⟨⟨s 52,m (t 0),o⟩,0,0,T⟩,⟨⟨s 53,m (t 7),o⟩,0,0,T⟩,⟨⟨s 54,a 1 (t 52) (t 53),o⟩,3072,0,T⟩,⟨⟨s 55,l o (t 54),o⟩,7168,1,T⟩,⟨⟨s 56,a 1 (t 42) (t 43),o⟩,16355,0,T⟩,⟨⟨o,S 1 (t 56) (t 51),o⟩,32739,2,U⟩,⟨⟨s 57,a 1 (t 44) (t 46),o⟩,65535,0,T⟩,⟨⟨o,S 1 (t 57) (t 55),o⟩,131071,2,U⟩]) (q (q (g [⟨s 58,m (t 7),o⟩,⟨s 59,m (t 1),o⟩,⟨s 60,b .sub (t 58) (t 59),o⟩,⟨s 61,b .geq (t 60) (v (i I 2)),o⟩]) (c (t 61) (q (g [⟨s 62,m (t 7),o⟩,⟨s 63,b .sub (t 62) (v (i I 1)),o⟩,⟨s 9,m (t 63),o⟩]) (B 4 (L (q (q (g [⟨s 64,m (t 9),o⟩,⟨s 65,b .geq (t 64) (v (i I 1)),o⟩]) (c (t 65) k (x 4))) (q (B 5 (q (q (G [⟨⟨s 68,m (t 0),o⟩,0,0,T⟩,⟨⟨s 69,m (t 9),o⟩,0,0,T⟩,⟨⟨s 70,a 1 (t 68) (t 69),o⟩,3,0,T⟩,⟨⟨s 71,l o (t 70),o⟩,7,1,T⟩,⟨⟨s 72,m (t 0),o⟩,0,0,T⟩,⟨⟨s 73,m (t 9),o⟩,0,0,T⟩,⟨⟨s 74,b .sub (t 73) (v (i I 1)),o⟩,32,0,T⟩,⟨⟨s 75,a 1 (t 72) (t 74),o⟩,112,0,T⟩,⟨⟨s 76,l o (t 75),o⟩,240,1,T⟩,⟨⟨s 77,C (v (F (J 159) [] [])) [t 71,t 76],o⟩,511,2,U⟩,⟨⟨s 78,.un .not (t 77),o⟩,1023,0,U⟩]) (c (t 78) (x 4) k)) (G [⟨⟨s 79,m (t 0),o⟩,0,0,T⟩,⟨⟨s 80,m (t 9),o⟩,0,0,T⟩,⟨⟨s 81,m (t 0),o⟩,0,0,T⟩,⟨⟨s 82,m (t 9),o⟩,0,0,T⟩,⟨⟨s 83,b .sub (t 82) (v (i I 1)),o⟩,8,0,T⟩,⟨⟨s 84,m (t 0),o⟩,0,0,T⟩,⟨⟨s 85,m (t 9),o⟩,0,0,T⟩,⟨⟨s 86,b .sub (t 85) (v (i I 1)),o⟩,64,0,T⟩,⟨⟨s 87,a 1 (t 84) (t 86),o⟩,224,0,T⟩,⟨⟨s 88,l o (t 87),o⟩,480,1,T⟩,⟨⟨s 89,m (t 0),o⟩,0,0,T⟩,⟨⟨s 90,m (t 9),o⟩,0,0,T⟩,⟨⟨s 91,a 1 (t 89) (t 90),o⟩,3072,0,T⟩,⟨⟨s 92,l o (t 91),o⟩,7168,1,T⟩,⟨⟨s 93,a 1 (t 79) (t 80),o⟩,16355,0,T⟩,⟨⟨o,S 1 (t 93) (t 88),o⟩,32739,2,U⟩,⟨⟨s 94,a 1 (t 81) (t 83),o⟩,65535,0,T⟩,⟨⟨o,S 1 (t 94) (t 92),o⟩,131071,2,U⟩]))) (g [⟨s 66,m (t 9),o⟩,⟨s 67,b .sub (t 66) (v (i I 1)),o⟩,⟨s 9,m (t 67),o⟩])))))) k)) (q (g [⟨s 95,m (t 2),o⟩,⟨s 96,m (t 7),o⟩,⟨s 97,b .sub (t 95) (t 96),o⟩,⟨s 98,b .geq (t 97) (v (i I 2)),o⟩]) (c (t 98) (q (g [⟨s 99,m (t 7),o⟩,⟨s 100,b .add (t 99) (v (i I 1)),o⟩,⟨s 10,m (t 100),o⟩]) (B 6 (L (q (q (g [⟨s 101,m (t 10),o⟩,⟨s 102,m (t 2),o⟩,⟨s 103,b .lss (t 101) (t 102),o⟩]) (c (t 103) k (x 6))) (q (B 7 (q (q (G [⟨⟨s 106,m (t 0),o⟩,0,0,T⟩,⟨⟨s 107,m (t 10),o⟩,0,0,T⟩,⟨⟨s 108,a 1 (t 106) (t 107),o⟩,3,0,T⟩,⟨⟨s 109,l o (t 108),o⟩,7,1,T⟩,⟨⟨s 110,m (t 0),o⟩,0,0,T⟩,⟨⟨s 111,m (t 10),o⟩,0,0,T⟩,⟨⟨s 112,b .sub (t 111) (v (i I 1)),o⟩,32,0,T⟩,⟨⟨s 113,a 1 (t 110) (t 112),o⟩,112,0,T⟩,⟨⟨s 114,l o (t 113),o⟩,240,1,T⟩,⟨⟨s 115,C (v (F (J 159) [] [])) [t 109,t 114],o⟩,511,2,U⟩,⟨⟨s 116,.un .not (t 115),o⟩,1023,0,U⟩]) (c (t 116) (x 6) k)) (G [⟨⟨s 117,m (t 0),o⟩,0,0,T⟩,⟨⟨s 118,m (t 10),o⟩,0,0,T⟩,⟨⟨s 119,m (t 0),o⟩,0,0,T⟩,⟨⟨s 120,m (t 10),o⟩,0,0,T⟩,⟨⟨s 121,b .sub (t 120) (v (i I 1)),o⟩,8,0,T⟩,⟨⟨s 122,m (t 0),o⟩,0,0,T⟩,⟨⟨s 123,m (t 10),o⟩,0,0,T⟩,⟨⟨s 124,b .sub (t 123) (v (i I 1)),o⟩,64,0,T⟩,⟨⟨s 125,a 1 (t 122) (t 124),o⟩,224,0,T⟩,⟨⟨s 126,l o (t 125),o⟩,480,1,T⟩,⟨⟨s 127,m (t 0),o⟩,0,0,T⟩,⟨⟨s 128,m (t 10),o⟩,0,0,T⟩,⟨⟨s 129,a 1 (t 127) (t 128),o⟩,3072,0,T⟩,⟨⟨s 130,l o (t 129),o⟩,7168,1,T⟩,⟨⟨s 131,a 1 (t 117) (t 118),o⟩,16355,0,T⟩,⟨⟨o,S 1 (t 131) (t 126),o⟩,32739,2,U⟩,⟨⟨s 132,a 1 (t 119) (t 121),o⟩,65535,0,T⟩,⟨⟨o,S 1 (t 132) (t 130),o⟩,131071,2,U⟩]))) (g [⟨s 104,m (t 10),o⟩,⟨s 105,b .add (t 104) (v (i I 1)),o⟩,⟨s 10,m (t 105),o⟩])))))) k)))))))) (g [⟨s 15,m (t 8),o⟩,⟨s 16,b .add (t 15) (v (i I 1)),o⟩,⟨s 8,m (t 16),o⟩])))))) (q (g [⟨s 6,m (v (w U)),o⟩]) R)))),[.tmp 6]⟩
def c159 : RFunc := ⟨17,.code (q (g [⟨s 4,m (v (w U)),o⟩]) (q (g [⟨s 5,m (t 0),o⟩,⟨s 6,C (v (F (J 132) [] [])) [t 5],o⟩,⟨s 7,m (t 6),o⟩,⟨s 8,m (t 1),s (7,T)⟩,⟨s 9,C (v (F (J 132) [] [])) [t 8],s (7,T)⟩,⟨s 10,.un .not (t 9),s (7,T)⟩,⟨s 11,p (t 7) (t 10) (v (w U)),o⟩,⟨s 12,m (t 11),o⟩,⟨s 13,m (t 0),s (12,U)⟩,⟨s 14,m (t 1),s (12,U)⟩,⟨s 15,b .lss (t 13) (t 14),s (12,U)⟩,⟨s 16,p (t 12) (v (w T)) (t 15),o⟩,⟨s 4,m (t 16),o⟩]) R)),[.tmp 4]⟩
def c160 : RFunc := ⟨84,.code (q (g [⟨s 8,m (v (i I 0)),o⟩]) (q (G [⟨⟨s 11,m (t 0),o⟩,0,0,T⟩,⟨⟨s 12,m (t 1),o⟩,0,0,T⟩,⟨⟨s 13,m (t 0),o⟩,0,0,T⟩,⟨⟨s 14,m (t 3),o⟩,0,0,T⟩,⟨⟨s 15,m (t 0),o⟩,0,0,T⟩,⟨⟨s 16,m (t 3),o⟩,0,0,T⟩,⟨⟨s 17,a 1 (t 15) (t 16),o⟩,48,0,T⟩,⟨⟨s 18,l o (t 17),o⟩,112,1,T⟩,⟨⟨s 19,m (t 0),o⟩,0,0,T⟩,⟨⟨s 20,m (t 1),o⟩,0,0,T⟩,⟨⟨s 21,a 1 (t 19) (t 20),o⟩,768,0,T⟩,⟨⟨s 22,l o (t 21),o⟩,1792,1,T⟩,⟨⟨s 23,a 1 (t 11) (t 12),o⟩,4083,0,T⟩,⟨⟨o,S 1 (t 23) (t 18),o⟩,8179,2,U⟩,⟨⟨s 24,a 1 (t 13) (t 14),o⟩,16383,0,T⟩,⟨⟨o,S 1 (t 24) (t 22),o⟩,32767,2,U⟩]) (q (g [⟨s 25,m (t 1),o⟩,⟨s 26,b .add (t 25) (v (i I 1)),o⟩,⟨s 27,m (t 2),o⟩,⟨s 28,b .sub (t 27) (v (i I 1)),o⟩,⟨s 9,m (t 26),o⟩,⟨s 10,m (t 28),o⟩]) (q (B 0 (L (B 1 (q (B 2 (L (q (q (G [⟨⟨s 29,m (t 9),o⟩,0,0,T⟩,⟨⟨s 30,m (t 10),o⟩,0,0,T⟩,⟨⟨s 31,b .leq (t 29) (t 30),o⟩,3,0,T⟩,⟨⟨s 32,m (t 31),o⟩,7,0,T⟩,⟨⟨s 33,m (t 0),s (32,T)⟩,15,0,T⟩,⟨⟨s 34,m (t 1),s (32,T)⟩,15,0,T⟩,⟨⟨s 35,a 1 (t 33) (t 34),s (32,T)⟩,63,0,T⟩,⟨⟨s 36,l o (t 35),s (32,T)⟩,127,1,T⟩,⟨⟨s 37,m (t 0),s (32,T)⟩,15,0,T⟩,⟨⟨s 38,m (t 9),s (32,T)⟩,15,0,T⟩,⟨⟨s 39,a 1 (t 37) (t 38),s (32,T)⟩,783,0,T⟩,⟨⟨s 40,l o (t 39),s (32,T)⟩,1807,1,T⟩,⟨⟨s 41,C (v (F (J 159) [] [])) [t 36,t 40],s (32,T)⟩,4095,2,U⟩,⟨⟨s 42,.un .not (t 41),s (32,T)⟩,8191,0,U⟩,⟨⟨s 43,p (t 32) (t 42) (v (w U)),o⟩,16383,0,U⟩]) (c (t 43) k (x 2))) (B 3 (g [⟨s 44,m (t 9),o⟩,⟨s 45,b .add (t 44) (v (i I 1)),o⟩,⟨s 9,m (t 45),o⟩]))))) (q (B 4 (L (q (q (G [⟨⟨s 46,m (t 9),o⟩,0,0,T⟩,⟨⟨s 47,m (t 10),o⟩,0,0,T⟩,⟨⟨s 48,b .leq (t 46) (t 47),o⟩,3,0,T⟩,⟨⟨s 49,m (t 48),o⟩,7,0,T⟩,⟨⟨s 50,m (t 0),s (49,T)⟩,15,0,T⟩,⟨⟨s 51,m (t 1),s (49,T)⟩,15,0,T⟩,⟨⟨s 52,a 1 (t 50) (t 51),s (49,T)⟩,63,0,T⟩,⟨⟨s 53,l o (t 52),s (49,T)⟩,127,1,T⟩,⟨⟨s 54,m (t 0),s (49,T)⟩,15,0,T⟩,⟨⟨s 55,m (t 10),s (49,T)⟩,15,0,T⟩,⟨⟨s 56,a 1 (t 54) (t 55),s (49,T)⟩,783,0,T⟩,⟨⟨s 57,l o (t 56),s (49,T)⟩,1807,1,T⟩,⟨⟨s 58,C (v (F (J 159) [] [])) [t 53,t 57],s (49,T)⟩,4095,2,U⟩,⟨⟨s 59,p (t 49) (t 58) (v (w U)),o⟩,8191,0,U⟩]) (c (t 59) k (x 4))) (B 5 (g [⟨s 60,m (t 10),o⟩,⟨s 61,b .sub (t 60) (v (i I 1)),o⟩,⟨s 10,m (t 61),o⟩]))))) (q (q (g [⟨s 62,m (t 9),o⟩,⟨s 63,m (t 10),o⟩,⟨s 64,b .gtr (t 62) (t 63),o⟩]) (c (t 64) (x 0) k)) (q (G [⟨⟨s 65,m (t 0),o⟩,0,0,T⟩,⟨⟨s 66,m (t 9),o⟩,0,0,T⟩,⟨⟨s 67,m (t 0),o⟩,0,0,T⟩,⟨⟨s 68,m (t 10),o⟩,0,0,T⟩,⟨⟨s 69,m (t 0),o⟩,0,0,T⟩,⟨⟨s 70,m (t 10),o⟩,0,0,T⟩,⟨⟨s 71,a 1 (t 69) (t 70),o⟩,48,0,T⟩,⟨⟨s 72,l o (t 71),o⟩,112,1,T⟩,⟨⟨s 73,m (t 0),o⟩,0,0,T⟩,⟨⟨s 74,m (t 9),o⟩,0,0,T⟩,⟨⟨s 75,a 1 (t 73) (t 74),o⟩,768,0,T⟩,⟨⟨s 76,l o (t 75),o⟩,1792,1,T⟩,⟨⟨s 77,a 1 (t 65) (t 66),o⟩,4083,0,T⟩,⟨⟨o,S 1 (t 77) (t 72),o⟩,8179,2,U⟩,⟨⟨s 78,a 1 (t 67) (t 68),o⟩,16383,0,T⟩,⟨⟨o,S 1 (t 78) (t 76),o⟩,32767,2,U⟩]) (q (g [⟨s 79,m (t 9),o⟩,⟨s 80,b .add (t 79) (v (i I 1)),o⟩,⟨s 9,m (t 80),o⟩]) (g [⟨s 81,m (t 10),o⟩,⟨s 82,b .sub (t 81) (v (i I 1)),o⟩,⟨s 10,m (t 82),o⟩]))))))))) (q (g [⟨s 83,m (t 9),o⟩,⟨s 8,m (t 83),o⟩]) R))))),[.tmp 8]⟩
def c161 : RFunc := ⟨168,.code (q (g [⟨s 8,m (v (i I 0)),o⟩,⟨s 9,m (v (w U)),o⟩]) (q (G [⟨⟨s 12,m (t 0),o⟩,0,0,T⟩,⟨⟨s 13,m (t 1),o⟩,0,0,T⟩,⟨⟨s 14,m (t 0),o⟩,0,0,T⟩,⟨⟨s 15,m (t 3),o⟩,0,0,T⟩,⟨⟨s 16,m (t 0),o⟩,0,0,T⟩,⟨⟨s 17,m (t 3),o⟩,0,0,T⟩,⟨⟨s 18,a 1 (t 16) (t 17),o⟩,48,0,T⟩,⟨⟨s 19,l o (t 18),o⟩,112,1,T⟩,⟨⟨s 20,m (t 0),o⟩,0,0,T⟩,⟨⟨s 21,m (t 1),o⟩,0,0,T⟩,⟨⟨s 22,a 1 (t 20) (t 21),o⟩,768,0,T⟩,⟨⟨s 23,l o (t 22),o⟩,1792,1,T⟩,⟨⟨s 24,a 1 (t 12) (t 13),o⟩,4083,0,T⟩,⟨⟨o,S 1 (t 24) (t 19),o⟩,8179,2,U⟩,⟨⟨s 25,a 1 (t 14) (t 15),o⟩,16383,0,T⟩,⟨⟨o,S 1 (t 25) (t 23),o⟩,32767,2,U⟩]) (q (g [⟨s 26,m (t 1),o⟩,⟨s 27,b .add (t 26) (v (i I 1)),o⟩,⟨s 28,m (t 2),o⟩,⟨s 29,b .sub (t 28) (v (i I 1)),o⟩,⟨s 10,m (t 27),o⟩,⟨s 11,m (t 29),o⟩]) (q (B 0 (L (q (q (G [⟨⟨s 30,m (t 10),o⟩,0,0,T⟩,⟨⟨s 31,m (t 11),o⟩,0,0,T⟩,⟨⟨s 32,b .leq (t 30) (t 31),o⟩,3,0,T⟩,⟨⟨s 33,m (t 32),o⟩,7,0,T⟩,⟨⟨s 34,m (t 0),s (33,T)⟩,15,0,T⟩,⟨⟨s 35,m (t 10),s (33,T)⟩,15,0,T⟩,⟨⟨s 36,a 1 (t 34) (t 35),s (33,T)⟩,63,0,T⟩,⟨⟨s 37,l o (t 36),s (33,T)⟩,127,1,T⟩,⟨⟨s 38,m (t 0),s (33,T)⟩,15,0,T⟩,⟨⟨s 39,m (t 1),s (33,T)⟩,15,0,T⟩,⟨⟨s 40,a 1 (t 38) (t 39),s (33,T)⟩,783,0,T⟩,⟨⟨s 41,l o (t 40),s (33,T)⟩,1807,1,T⟩,⟨⟨s 42,C (v (F (J 159) [] [])) [t 37,t 41],s (33,T)⟩,4095,2,U⟩,⟨⟨s 43,p (t 33) (t 42) (v (w U)),o⟩,8191,0,U⟩]) (c (t 43) k (x 0))) (B 1 (g [⟨s 44,m (t 10),o⟩,⟨s 45,b .add (t 44) (v (i I 1)),o⟩,⟨s 10,m (t 45),o⟩]))))) (q (B 2 (L (q (q (G [⟨⟨s 46,m (t 10),o⟩,0,0,T⟩,⟨⟨s 47,m (t 11),o⟩,0,0,T⟩,⟨⟨s 48,b .leq (t 46) (t 47),o⟩,3,0,T⟩,⟨⟨s 49,m (t 48),o⟩,7,0,T⟩,⟨⟨s 50,m (t 0),s (49,T)⟩,15,0,T⟩,⟨⟨s 51,m (t 11),s (49,T)⟩,15,0,T⟩,⟨⟨s 52,a 1 (t 50) (t 51),s (49,T)⟩,63,0,T⟩,⟨⟨s 53,l o (t 52),s (49,T)⟩,127,1,T⟩,⟨⟨s 54,m (t 0),s (49,T)⟩,15,0,T⟩,⟨⟨s 55,m (t 1),s (49,T)⟩,15,0,T⟩,⟨⟨s 56,a 1 (t 54) (t 55),s (49,T)⟩,783,0,T⟩,⟨⟨s 57,l o (t 56),s (49,T)⟩,1807,1,T⟩,⟨⟨s 58,C (v (F (J 159) [] [])) [t 53,t 57],s (49,T)⟩,4095,2,U⟩,⟨⟨s 59,.un .not (t 58),s (49,T)⟩,8191,0,U⟩,⟨⟨s 60,p (t 49) (t 59) (v (w U)),o⟩,16383,0,U⟩]) (c (t 60) k (x 2))) (B 3 (g [⟨s 61,m (t 11),o⟩,⟨s 62,b .sub (t 61) (v (i I 1)),o⟩,⟨s 11,m (t 62),o⟩]))))) (q (q (g [⟨s 63,m (t 10),o⟩,⟨s 64,m (t 11),o⟩,⟨s 65,b .gtr (t 63) (t 64),o⟩]) (c (t 65) (q (G [⟨⟨s 66,m (t 0),o⟩,0,0,T⟩,⟨⟨s 67,m (t 11),o⟩,0,0,T⟩,⟨⟨s 68,m (t 0),o⟩,0,0,T⟩,⟨⟨s 69,m (t 1),o⟩,0,0,T⟩,⟨⟨s 70,m (t 0),o⟩,0,0,T⟩,⟨⟨s 71,m (t 1),o⟩,0,0,T⟩,⟨⟨s 72,a 1 (t 70) (t 71),o⟩,48,0,T⟩,⟨⟨s 73,l o (t 72),o⟩,112,1,T⟩,⟨⟨s 74,m (t 0),o⟩,0,0,T⟩,⟨⟨s 75,m (t 11),o⟩,0,0,T⟩,⟨⟨s 76,a 1 (t 74) (t 75),o⟩,768,0,T⟩,⟨⟨s 77,l o (t 76),o⟩,1792,1,T⟩,⟨⟨s 78,a 1 (t 66) (t 67),o⟩,4083,0,T⟩,⟨⟨o,S 1 (t 78) (t 73),o⟩,8179,2,U⟩,⟨⟨s 79,a 1 (t 68) (t 69),o⟩,16383,0,T⟩,⟨⟨o,S 1 (t 79) (t 77),o⟩,32767,2,U⟩]) (q (g [⟨s 80,m (t 11),o⟩,⟨s 8,m (t 80),o⟩,⟨s 9,m (v (w T)),o⟩]) R)) k)) (q (G [⟨⟨s 81,m (t 0),o⟩,0,0,T⟩,⟨⟨s 82,m (t 10),o⟩,0,0,T⟩,⟨⟨s 83,m (t 0),o⟩,0,0,T⟩,⟨⟨s 84,m (t 11),o⟩,0,0,T⟩,⟨⟨s 85,m (t 0),o⟩,0,0,T⟩,⟨⟨s 86,m (t 11),o⟩,0,0,T⟩,⟨⟨s 87,a 1 (t 85) (t 86),o⟩,48,0,T⟩,⟨⟨s 88,l o (t 87),o⟩,112,1,T⟩,⟨⟨s 89,m (t 0),o⟩,0,0,T⟩,⟨⟨s 90,m (t 10),o⟩,0,0,T⟩,⟨⟨s 91,a 1 (t 89) (t 90),o⟩,768,0,T⟩,⟨⟨s 92,l o (t 91),o⟩,1792,1,T⟩,⟨⟨s 93,a 1 (t 81) (t 82),o⟩,4083,0,T⟩,⟨⟨o,S 1 (t 93) (t 88),o⟩,8179,2,U⟩,⟨⟨s 94,a 1 (t 83) (t 84),o⟩,16383,0,T⟩,⟨⟨o,S 1 (t 94) (t 92),o⟩,32767,2,U⟩]) (q (g [⟨s 95,m (t 10),o⟩,⟨s 96,b .add (t 95) (v (i I 1)),o⟩,⟨s 10,m (t 96),o⟩]) (q (g [⟨s 97,m (t 11),o⟩,⟨s 98,b .sub (t 97) (v (i I 1)),o⟩,⟨s 11,m (t 98),o⟩]) (q (B 4 (L (B 5 (q (B 6 (L (q (q (G [⟨⟨s 99,m (t 10),o⟩,0,0,T⟩,⟨⟨s 100,m (t 11),o⟩,0,0,T⟩,⟨⟨s 101,b .leq (t 99) (t 100),o⟩,3,0,T⟩,⟨⟨s 102,m (t 101),o⟩,7,0,T⟩,⟨⟨s 103,m (t 0),s (102,T)⟩,15,0,T⟩,⟨⟨s 104,m (t 10),s (102,T)⟩,15,0,T⟩,⟨⟨s 105,a 1 (t 103) (t 104),s (102,T)⟩,63,0,T⟩,⟨⟨s 106,l o (t 105),s (102,T)⟩,127,1,T⟩,⟨⟨s 107,m (t 0),s (102,T)⟩,15,0,T⟩,⟨⟨s 108,m (t 1),s (102,T)⟩,15,0,T⟩,⟨⟨s 109,a 1 (t 107) (t 108),s (102,T)⟩,783,0,T⟩,⟨⟨s 110,l o (t 109),s (102,T)⟩,1807,1,T⟩,⟨⟨s 111,C (v (F (J 159) [] [])) [t 106,t 110],s (102,T)⟩,4095,2,U⟩,⟨⟨s 112,p (t 102) (t 111) (v (w U)),o⟩,8191,0,U⟩]) (c (t 112) k (x 6))) (B 7 (g [⟨s 113,m (t 10),o⟩,⟨s 114,b .add (t 113) (v (i I 1)),o⟩,⟨s 10,m (t 114),o⟩]))))) (q (B 8 (L (q (q (G [⟨⟨s 115,m (t 10),o⟩,0,0,T⟩,⟨⟨s 116,m (t 11),o⟩,0,0,T⟩,⟨⟨s 117,b .leq (t 115) (t 116),o⟩,3,0,T⟩,⟨⟨s 118,m (t 117),o⟩,7,0,T⟩,⟨⟨s 119,m (t 0),s (118,T)⟩,15,0,T⟩,⟨⟨s 120,m (t 11),s (118,T)⟩,15,0,T⟩,⟨⟨s 121,a 1 (t 119) (t 120),s (118,T)⟩,63,0,T⟩,⟨⟨s 122,l o (t 121),s (118,T)⟩,127,1,T⟩,⟨⟨s 123,m (t 0),s (118,T)⟩,15,0,T⟩,⟨⟨s 124,m (t 1),s (118,T)⟩,15,0,T⟩,⟨⟨s 125,a 1 (t 123) (t 124),s (118,T)⟩,783,0,T⟩,⟨⟨s 126,l o (t 125),s (118,T)⟩,1807,1,T⟩,⟨⟨s 127,C (v (F (J 159) [] [])) [t 122,t 126],s (118,T)⟩,4095,2,U⟩,⟨⟨s 128,.un .not (t 127),s (118,T)⟩,8191,0,U⟩,⟨⟨s 129,p (t 118) (t 128) (v (w U)),o⟩,16383,0,U⟩]) (c (t 129) k (x 8))) (B 9 (g [⟨s 130,m (t 11),o⟩,⟨s 131,b .sub (t 130) (v (i I 1)),o⟩,⟨s 11,m (t 131),o⟩]))))) (q (q (g [⟨s 132,m (t 10),o⟩,⟨s 133,m (t 11),o⟩,⟨s 134,b .gtr (t 132) (t 133),o⟩]) (c (t 134) (x 4) k)) (q (G [⟨⟨s 135,m (t 0),o⟩,0,0,T⟩,⟨⟨s 136,m (t 10),o⟩,0,0,T⟩,⟨⟨s 137,m (t 0),o⟩,0,0,T⟩,⟨⟨s 138,m (t 11),o⟩,0,0,T⟩,⟨⟨s 139,m (t 0),o⟩,0,0,T⟩,⟨⟨s 140,m (t 11),o⟩,0,0,T⟩,⟨⟨s 141,a 1 (t 139) (t 140),o⟩,48,0,T⟩,⟨⟨s 142,l o (t 141),o⟩,112,1,T⟩,⟨⟨s 143,m (t 0),o⟩,0,0,T⟩,⟨⟨s 144,m (t 10),o⟩,0,0,T⟩,⟨⟨s 145,a 1 (t 143) (t 144),o⟩,768,0,T⟩,⟨⟨s 146,l o (t 145),o⟩,1792,1,T⟩,⟨⟨s 147,a 1 (t 135) (t 136),o⟩,4083,0,T⟩,⟨⟨o,S 1 (t 147) (t 142),o⟩,8179,2,U⟩,⟨⟨s 148,a 1 (t 137) (t 138),o⟩,16383,0,T⟩,⟨⟨o,S 1 (t 148) (t 146),o⟩,32767,2,U⟩]) (q (g [⟨s 149,m (t 10),o⟩,⟨s 150,b .add (t 149) (v (i I 1)),o⟩,⟨s 10,m (t 150),o⟩]) (g [⟨s 151,m (t 11),o⟩,⟨s 152,b .sub (t 151) (v (i I 1)),o⟩,⟨s 11,m (t 152),o⟩]))))))))) (q (G [⟨⟨s 153,m (t 0),o⟩,0,0,T⟩,⟨⟨s 154,m (t 11),o⟩,0,0,T⟩,⟨⟨s 155,m (t 0),o⟩,0,0,T⟩,⟨⟨s 156,m (t 1),o⟩,0,0,T⟩,⟨⟨s 157,m (t 0),o⟩,0,0,T⟩,⟨⟨s 158,m (t 1),o⟩,0,0,T⟩,⟨⟨s 159,a 1 (t 157) (t 158),o⟩,48,0,T⟩,⟨⟨s 160,l o (t 159),o⟩,112,1,T⟩,⟨⟨s 161,m (t 0),o⟩,0,0,T⟩,⟨⟨s 162,m (t 11),o⟩,0,0,T⟩,⟨⟨s 163,a 1 (t 161) (t 162),o⟩,768,0,T⟩,⟨⟨s 164,l o (t 163),o⟩,1792,1,T⟩,⟨⟨s 165,a 1 (t 153) (t 154),o⟩,4083,0,T⟩,⟨⟨o,S 1 (t 165) (t 160),o⟩,8179,2,U⟩,⟨⟨s 166,a 1 (t 155) (t 156),o⟩,16383,0,T⟩,⟨⟨o,S 1 (t 166) (t 164),o⟩,32767,2,U⟩]) (q (g [⟨s 167,m (t 11),o⟩,⟨s 8,m (t 167),o⟩,⟨s 9,m (v (w U)),o⟩]) R)))))))))))),[.tmp 8,.tmp 9]⟩
def c162 : RFunc := ⟨19,.code (q (g [⟨s 2,m (v (i I 0)),o⟩]) (q (q (g [⟨s 3,m (t 0),o⟩,⟨s 4,b .geq (t 3) (v (i .u32 65536)),o⟩]) (c (t 4) (q (g [⟨s 5,m (t 0),o⟩,⟨s 6,b .shr (t 5) (v (i .u64 16)),o⟩,⟨s 0,m (t 6),o⟩]) (g [⟨s 2,m (v (i I 16)),o⟩])) k)) (q (q (g [⟨s 7,m (t 0),o⟩,⟨s 8,b .geq (t 7) (v (i .u32 256)),o⟩]) (c (t 8) (q (g [⟨s 9,m (t 0),o⟩,⟨s 10,b .shr (t 9) (v (i .u64 8)),o⟩,⟨s 0,m (t 10),o⟩]) (g [⟨s 11,m (t 2),o⟩,⟨s 12,b .add (t 11) (v (i I 8)),o⟩,⟨s 2,m (t 12),o⟩])) k)) (q (g [⟨s 13,m (t 2),o⟩,⟨s 14,m (t 0),o⟩,⟨s 15,.convInt .u8 (t 14),o⟩,⟨s 16,.indexStr (v (.str ⟨#[0,1,2,2,3,3,3,3,4,4,4,4,4,4,4,4,5,5,5,5,5,5,5,5,5,5,5,5,5,5,5,5,6,6,6,6,6,6,6,6,6,6,6,6,6,6,6,6,6,6,6,6,6,6,6,6,6,6,6,6,6,6,6,6,7,7,7,7,7,7,7,7,7,7,7,7,7,7,7,7,7,7,7,7,7,7,7,7,7,7,7,7,7,7,7,7,7,7,7,7,7,7,7,7,7,7,7,7,7,7,7,7,7,7,7,7,7,7,7,7,7,7,7,7,7,7,7,7,8,8,8,8,8,8,8,8,8,8,8,8,8,8,8,8,8,8,8,8,8,8,8,8,8,8,8,8,8,8,8,8,8,8,8,8,8,8,8,8,8,8,8,8,8,8,8,8,8,8,8,8,8,8,8,8,8,8,8,8,8,8,8,8,8,8,8,8,8,8,8,8,8,8,8,8,8,8,8,8,8,8,8,8,8,8,8,8,8,8,8,8,8,8,8,8,8,8,8,8,8,8,8,8,8,8,8,8,8,8,8,8,8,8,8,8,8,8,8,8,8,8,8,8,8,8,8,8]⟩)) (t 15),o⟩,⟨s 17,.convInt I (t 16),o⟩,⟨s 18,b .add (t 13) (t 17),o⟩,⟨s 2,m (t 18),o⟩]) R)))),[.tmp 2]⟩
def c163 : RFunc := ⟨25,.code (q (g [⟨s 2,m (v (i I 0)),o⟩]) (q (q (g [⟨s 3,m (t 0),o⟩,⟨s 4,b .geq (t 3) (v (i .u64 4294967296)),o⟩]) (c (t 4) (q (g [⟨s 5,m (t 0),o⟩,⟨s 6,b .shr (t 5) (v (i .u64 32)),o⟩,⟨s 0,m (t 6),o⟩]) (g [⟨s 2,m (v (i I 32)),o⟩])) k)) (q (q (g [⟨s 7,m (t 0),o⟩,⟨s 8,b .geq (t 7) (v (i .u64 65536)),o⟩]) (c (t 8) (q (g [⟨s 9,m (t 0),o⟩,⟨s 10,b .shr (t 9) (v (i .u64 16)),o⟩,⟨s 0,m (t 10),o⟩]) (g [⟨s 11,m (t 2),o⟩,⟨s 12,b .add (t 11) (v (i I 16)),o⟩,⟨s 2,m (t 12),o⟩])) k)) (q (q (g [⟨s 13,m (t 0),o⟩,⟨s 14,b .geq (t 13) (v (i .u64 256)),o⟩]) (c (t 14) (q (g [⟨s 15,m (t 0),o⟩,⟨s 16,b .shr (t 15) (v (i .u64 8)),o⟩,⟨s 0,m (t 16),o⟩]) (g [⟨s 17,m (t 2),o⟩,⟨s 18,b .add (t 17) (v (i I 8)),o⟩,⟨s 2,m (t 18),o⟩])) k)) (q (g [⟨s 19,m (t 2),o⟩,⟨s 20,m (t 0),o⟩,⟨s 21,.convInt .u8 (t 20),o⟩,⟨s 22,.indexStr (v (.str ⟨#[0,1,2,2,3,3,3,3,4,4,4,4,4,4,4,4,5,5,5,5,5,5,5,5,5,5,5,5,5,5,5,5,6,6,6,6,6,6,6,6,6,6,6,6,6,6,6,6,6,6,6,6,6,6,6,6,6,6,6,6,6,6,6,6,7,7,7,7,7,7,7,7,7,7,7,7,7,7,7,7,7,7,7,7,7,7,7,7,7,7,7,7,7,7,7,7,7,7,7,7,7,7,7,7,7,7,7,7,7,7,7,7,7,7,7,7,7,7,7,7,7,7,7,7,7,7,7,7,8,8,8,8,8,8,8,8,8,8,8,8,8,8,8,8,8,8,8,8,8,8,8,8,8,8,8,8,8,8,8,8,8,8,8,8,8,8,8,8,8,8,8,8,8,8,8,8,8,8,8,8,8,8,8,8,8,8,8,8,8,8,8,8,8,8,8,8,8,8,8,8,8,8,8,8,8,8,8,8,8,8,8,8,8,8,8,8,8,8,8,8,8,8,8,8,8,8,8,8,8,8,8,8,8,8,8,8,8,8,8,8,8,8,8,8,8,8,8,8,8,8,8,8,8,8,8,8]⟩)) (t 21),o⟩,⟨s 23,.convInt I (t 22),o⟩,⟨s 24,b .add (t 19) (t 23),o⟩,⟨s 2,m (t 24),o⟩]) R))))),[.tmp 2]⟩
def c164 : RFunc := ⟨58,.code (q (g [⟨s 12,m (t 2),o⟩,⟨s 13,m (t 1),o⟩,⟨s 14,b .sub (t 12) (t 13),o⟩,⟨s 10,m (t 14),o⟩]) (q (g [⟨s 15,m (t 3),o⟩,⟨s 16,m (t 2),o⟩,⟨s 17,b .sub (t 15) (t 16),o⟩,⟨s 11,m (t 17),o⟩]) (q (B 0 (L (q (q (g [⟨s 18,m (t 10),o⟩,⟨s 19,m (t 11),o⟩,⟨s 20,b .neq (t 18) (t 19),o⟩]) (c (t 20) k (x 0))) (B 1 (q (g [⟨s 21,m (t 10),o⟩,⟨s 22,m (t 11),o⟩,⟨s 23,b .gtr (t 21) (t 22),o⟩]) (c (t 23) (q (g [⟨s 24,m (t 0),o⟩,⟨s 25,m (t 2),o⟩,⟨s 26,m (t 10),o⟩,⟨s 27,b .sub (t 25) (t 26),o⟩,⟨s 28,m (t 2),o⟩,⟨s 29,m (t 11),o⟩,⟨s 30,m (t 4),o⟩,⟨s 31,C (v (F (J 180) [] [])) [t 24,t 27,t 28,t 29,t 30],o⟩]) (g [⟨s 32,m (t 10),o⟩,⟨s 33,m (t 11),o⟩,⟨s 34,b .sub (t 32) (t 33),o⟩,⟨s 10,m (t 34),o⟩])) (q (g [⟨s 35,m (t 0),o⟩,⟨s 36,m (t 2),o⟩,⟨s 37,m (t 10),o⟩,⟨s 38,b .sub (t 36) (t 37),o⟩,⟨s 39,m (t 2),o⟩,⟨s 40,m (t 11),o⟩,⟨s 41,b .add (t 39) (t 40),o⟩,⟨s 42,m (t 10),o⟩,⟨s 43,b .sub (t 41) (t 42),o⟩,⟨s 44,m (t 10),o⟩,⟨s 45,m (t 4),o⟩,⟨s 46,C (v (F (J 180) [] [])) [t 35,t 38,t 43,t 44,t 45],o⟩]) (g [⟨s 47,m (t 11),o⟩,⟨s 48,m (t 10),o⟩,⟨s 49,b .sub (t 47) (t 48),o⟩,⟨s 11,m (t 49),o⟩])))))))) (g [⟨s 50,m (t 0),o⟩,⟨s 51,m (t 2),o⟩,⟨s 52,m (t 10),o⟩,⟨s 53,b .sub (t 51) (t 52),o⟩,⟨s 54,m (t 2),o⟩,⟨s 55,m (t 10),o⟩,⟨s 56,m (t 4),o⟩,⟨s 57,C (v (F (J 180) [] [])) [t 50,t 53,t 54,t 55,t 56],o⟩])))),[]⟩
def c165 : RFunc := ⟨15,.code (q (g [⟨s 2,m (v (.str ⟨#[]⟩)),o⟩]) (q (q (g [⟨s 3,m (t 0),o⟩,⟨s 4,b .lss (t 3) (v (i I 10)),o⟩]) (c (t 4) (q (g [⟨s 5,m (t 0),o⟩,⟨s 6,m (t 0),o⟩,⟨s 7,b .add (t 6) (v (i I 1)),o⟩,⟨s 8,.sliceStr (v (.str ⟨#[48,49,50,51,52,53,54,55,56,57,97,98,99,100,101,102,103,104,105,106,107,108,109,110,111,112,113,114,115,116,117,118,119,120,121,122]⟩)) (s (t 5)) (s (t 7)),o⟩,⟨s 2,m (t 8),o⟩]) R) k)) (q (g [⟨s 9,m (t 0),o⟩,⟨s 10,b .mul (t 9) (v (i I 2)),o⟩,⟨s 11,m (t 0),o⟩,⟨s 12,b .mul (t 11) (v (i I 2)),o⟩,⟨s 13,b .add (t 12) (v (i I 2)),o⟩,⟨s 14,.sliceStr (v (.str ⟨#[48,48,48,49,48,50,48,51,48,52,48,53,48,54,48,55,48,56,48,57,49,48,49,49,49,50,49,51,49,52,49,53,49,54,49,55,49,56,49,57,50,48,50,49,50,50,50,51,50,52,50,53,50,54,50,55,50,56,50,57,51,48,51,49,51,50,51,51,51,52,51,53,51,54,51,55,51,56,51,57,52,48,52,49,52,50,52,51,52,52,52,53,52,54,52,55,52,56,52,57,53,48,53,49,53,50,53,51,53,52,53,53,53,54,53,55,53,56,53,57,54,48,54,49,54,50,54,51,54,52,54,53,54,54,54,55,54,56,54,57,55,48,55,49,55,50,55,51,55,52,55,53,55,54,55,55,55,56,55,57,56,48,56,49,56,50,56,51,56,52,56,53,56,54,56,55,56,56,56,57,57,48,57,49,57,50,57,51,57,52,57,53,57,54,57,55,57,56,57,57]⟩)) (s (t 10)) (s (t 13)),o⟩,⟨s 2,m (t 14),o⟩]) R))),[.tmp 2]⟩
def c166 : RFunc := ⟨15,.code (q (g [⟨s 2,m (v (i I 0)),o⟩]) (q (g [⟨s 4,m (t 0),o⟩,⟨s 5,C (v (F (J 163) [] [])) [t 4],o⟩,⟨s 6,C (v (F (J 181) [] [])) [t 5],o⟩,⟨s 3,m (t 6),o⟩]) (q (g [⟨s 7,m (t 3),o⟩,⟨s 8,m (t 0),o⟩,⟨s 9,m (t 3),o⟩,⟨s 10,.idxA 20 1 (v (.ptr 0 0)) (t 9),o⟩,⟨s 11,l o (t 10),o⟩,⟨s 12,b .geq (t 8) (t 11),o⟩,⟨s 13,C (v (F (J 182) [] [])) [t 12],o⟩,⟨s 14,b .add (t 7) (t 13),o⟩,⟨s 2,m (t 14),o⟩]) R))),[.tmp 2]⟩
end
end Go.Am

namespace Go.Am
open Go
section
open Go.Am.ROpd renaming tmp → t, val → v
open Go.Am.ROp renaming mov → m, load → l, bin → b, idxS → a, fieldAddr → f, call → C, lenS → n, pick → p, store → S, extract → e
open Go.Am.AVal renaming int → i, bool → w, func → F, nslice → N
open Go.Am.RCode renaming seq → q, region → g, cond → c, block → B, loop → L, skip → k, exit → x, dregion → G, ret → R
open Go.IntKind renaming i64 → I
open Go.Fn renaming func → J
open Option renaming some → s, none → o
open Bool renaming true → T, false → U
def c167 : RFunc := ⟨167,.code (q (g [⟨s 17,m (t 0),o⟩,⟨s 18,n (t 17),o⟩,⟨s 4,m (t 18),o⟩]) (q (B 0 (L (q (q (g [⟨s 19,m (t 4),o⟩,⟨s 20,b .geq (t 19) (v (i I 8)),o⟩]) (c (t 20) k (x 0))) (B 1 (q (g [⟨s 21,m (t 1),o⟩,⟨s 22,b .rem (t 21) (v (i .u64 100000000)),o⟩,⟨s 23,.convInt .u32 (t 22),o⟩,⟨s 5,m (t 23),o⟩]) (q (g [⟨s 24,m (t 1),o⟩,⟨s 25,b .quo (t 24) (v (i .u64 100000000)),o⟩,⟨s 1,m (t 25),o⟩]) (q (g [⟨s 26,m (t 5),o⟩,⟨s 27,b .quo (t 26) (v (i .u32 10000)),o⟩,⟨s 28,m (t 5),o⟩,⟨s 29,b .rem (t 28) (v (i .u32 10000)),o⟩,⟨s 6,m (t 27),o⟩,⟨s 7,m (t 29),o⟩]) (q (g [⟨s 30,m (t 7),o⟩,⟨s 31,b .quo (t 30) (v (i .u32 100)),o⟩,⟨s 32,b .mul (t 31) (v (i .u32 2)),o⟩,⟨s 33,m (t 7),o⟩,⟨s 34,b .rem (t 33) (v (i .u32 100)),o⟩,⟨s 35,b .mul (t 34) (v (i .u32 2)),o⟩,⟨s 8,m (t 32),o⟩,⟨s 9,m (t 35),o⟩]) (q (g [⟨s 36,m (t 6),o⟩,⟨s 37,b .quo (t 36) (v (i .u32 100)),o⟩,⟨s 38,b .mul (t 37) (v (i .u32 2)),o⟩,⟨s 39,m (t 6),o⟩,⟨s 40,b .rem (t 39) (v (i .u32 100)),o⟩,⟨s 41,b .mul (t 40) (v (i .u32 2)),o⟩,⟨s 10,m (t 38),o⟩,⟨s 11,m (t 41),o⟩]) (q (G [⟨⟨s 42,m (t 0),o⟩,0,0,T⟩,⟨⟨s 43,m (t 4),o⟩,0,0,T⟩,⟨⟨s 44,b .sub (t 43) (v (i I 1)),o⟩,2,0,T⟩,⟨⟨s 45,m (t 0),o⟩,0,0,T⟩,⟨⟨s 46,m (t 4),o⟩,0,0,T⟩,⟨⟨s 47,b .sub (t 46) (v (i I 2)),o⟩,16,0,T⟩,⟨⟨s 48,m (t 9),o⟩,0,0,T⟩,⟨⟨s 49,b .add (t 48) (v (i .u32 1)),o⟩,64,0,T⟩,⟨⟨s 50,.indexStr (v (.str ⟨#[48,48,48,49,48,50,48,51,48,52,48,53,48,54,48,55,48,56,48,57,49,48,49,49,49,50,49,51,49,52,49,53,49,54,49,55,49,56,49,57,50,48,50,49,50,50,50,51,50,52,50,53,50,54,50,55,50,56,50,57,51,48,51,49,51,50,51,51,51,52,51,53,51,54,51,55,51,56,51,57,52,48,52,49,52,50,52,51,52,52,52,53,52,54,52,55,52,56,52,57,53,48,53,49,53,50,53,51,53,52,53,53,53,54,53,55,53,56,53,57,54,48,54,49,54,50,54,51,54,52,54,53,54,54,54,55,54,56,54,57,55,48,55,49,55,50,55,51,55,52,55,53,55,54,55,55,55,56,55,57,56,48,56,49,56,50,56,51,56,52,56,53,56,54,56,55,56,56,56,57,57,48,57,49,57,50,57,51,57,52,57,53,57,54,57,55,57,56,57,57]⟩)) (t 49),o⟩,192,0,T⟩,⟨⟨s 51,m (t 9),o⟩,0,0,T⟩,⟨⟨s 52,.indexStr (v (.str ⟨#[48,48,48,49,48,50,48,51,48,52,48,53,48,54,48,55,48,56,48,57,49,48,49,49,49,50,49,51,49,52,49,53,49,54,49,55,49,56,49,57,50,48,50,49,50,50,50,51,50,52,50,53,50,54,50,55,50,56,50,57,51,48,51,49,51,50,51,51,51,52,51,53,51,54,51,55,51,56,51,57,52,48,52,49,52,50,52,51,52,52,52,53,52,54,52,55,52,56,52,57,53,48,53,49,53,50,53,51,53,52,53,53,53,54,53,55,53,56,53,57,54,48,54,49,54,50,54,51,54,52,54,53,54,54,54,55,54,56,54,57,55,48,55,49,55,50,55,51,55,52,55,53,55,54,55,55,55,56,55,57,56,48,56,49,56,50,56,51,56,52,56,53,56,54,56,55,56,56,56,57,57,48,57,49,57,50,57,51,57,52,57,53,57,54,57,55,57,56,57,57]⟩)) (t 51),o⟩,512,0,T⟩,⟨⟨s 53,a 1 (t 42) (t 44),o⟩,455,0,T⟩,⟨⟨o,S 1 (t 53) (t 50),o⟩,2503,2,U⟩,⟨⟨s 54,a 1 (t 45) (t 47),o⟩,8191,0,T⟩,⟨⟨o,S 1 (t 54) (t 52),o⟩,16383,2,U⟩]) (q (G [⟨⟨s 55,m (t 0),o⟩,0,0,T⟩,⟨⟨s 56,m (t 4),o⟩,0,0,T⟩,⟨⟨s 57,b .sub (t 56) (v (i I 3)),o⟩,2,0,T⟩,⟨⟨s 58,m (t 0),o⟩,0,0,T⟩,⟨⟨s 59,m (t 4),o⟩,0,0,T⟩,⟨⟨s 60,b .sub (t 59) (v (i I 4)),o⟩,16,0,T⟩,⟨⟨s 61,m (t 8),o⟩,0,0,T⟩,⟨⟨s 62,b .add (t 61) (v (i .u32 1)),o⟩,64,0,T⟩,⟨⟨s 63,.indexStr (v (.str ⟨#[48,48,48,49,48,50,48,51,48,52,48,53,48,54,48,55,48,56,48,57,49,48,49,49,49,50,49,51,49,52,49,53,49,54,49,55,49,56,49,57,50,48,50,49,50,50,50,51,50,52,50,53,50,54,50,55,50,56,50,57,51,48,51,49,51,50,51,51,51,52,51,53,51,54,51,55,51,56,51,57,52,48,52,49,52,50,52,51,52,52,52,53,52,54,52,55,52,56,52,57,53,48,53,49,53,50,53,51,53,52,53,53,53,54,53,55,53,56,53,57,54,48,54,49,54,50,54,51,54,52,54,53,54,54,54,55,54,56,54,57,55,48,55,49,55,50,55,51,55,52,55,53,55,54,55,55,55,56,55,57,56,48,56,49,56,50,56,51,56,52,56,53,56,54,56,55,56,56,56,57,57,48,57,49,57,50,57,51,57,52,57,53,57,54,57,55,57,56,57,57]⟩)) (t 62),o⟩,192,0,T⟩,⟨⟨s 64,m (t 8),o⟩,0,0,T⟩,⟨⟨s 65,.indexStr (v (.str ⟨#[48,48,48,49,48,50,48,51,48,52,48,53,48,54,48,55,48,56,48,57,49,48,49,49,49,50,49,51,49,52,49,53,49,54,49,55,49,56,49,57,50,48,50,49,50,50,50,51,50,52,50,53,50,54,50,55,50,56,50,57,51,48,51,49,51,50,51,51,51,52,51,53,51,54,51,55,51,56,51,57,52,48,52,49,52,50,52,51,52,52,52,53,52,54,52,55,52,56,52,57,53,48,53,49,53,50,53,51,53,52,53,53,53,54,53,55,53,56,53,57,54,48,54,49,54,50,54,51,54,52,54,53,54,54,54,55,54,56,54,57,55,48,55,49,55,50,55,51,55,52,55,53,55,54,55,55,55,56,55,57,56,48,56,49,56,50,56,51,56,52,56,53,56,54,56,55,56,56,56,57,57,48,57,49,57,50,57,51,57,52,57,53,57,54,57,55,57,56,57,57]⟩)) (t 64),o⟩,512,0,T⟩,⟨⟨s 66,a 1 (t 55) (t 57),o⟩,455,0,T⟩,⟨⟨o,S 1 (t 66) (t 63),o⟩,2503,2,U⟩,⟨⟨s 67,a 1 (t 58) (t 60),o⟩,8191,0,T⟩,⟨⟨o,S 1 (t 67) (t 65),o⟩,16383,2,U⟩]) (q (G [⟨⟨s 68,m (t 0),o⟩,0,0,T⟩,⟨⟨s 69,m (t 4),o⟩,0,0,T⟩,⟨⟨s 70,b .sub (t 69) (v (i I 5)),o⟩,2,0,T⟩,⟨⟨s 71,m (t 0),o⟩,0,0,T⟩,⟨⟨s 72,m (t 4),o⟩,0,0,T⟩,⟨⟨s 73,b .sub (t 72) (v (i I 6)),o⟩,16,0,T⟩,⟨⟨s 74,m (t 11),o⟩,0,0,T⟩,⟨⟨s 75,b .add (t 74) (v (i .u32 1)),o⟩,64,0,T⟩,⟨⟨s 76,.indexStr (v (.str ⟨#[48,48,48,49,48,50,48,51,48,52,48,53,48,54,48,55,48,56,48,57,49,48,49,49,49,50,49,51,49,52,49,53,49,54,49,55,49,56,49,57,50,48,50,49,50,50,50,51,50,52,50,53,50,54,50,55,50,56,50,57,51,48,51,49,51,50,51,51,51,52,51,53,51,54,51,55,51,56,51,57,52,48,52,49,52,50,52,51,52,52,52,53,52,54,52,55,52,56,52,57,53,48,53,49,53,50,53,51,53,52,53,53,53,54,53,55,53,56,53,57,54,48,54,49,54,50,54,51,54,52,54,53,54,54,54,55,54,56,54,57,55,48,55,49,55,50,55,51,55,52,55,53,55,54,55,55,55,56,55,57,56,48,56,49,56,50,56,51,56,52,56,53,56,54,56,55,56,56,56,57,57,48,57,49,57,50,57,51,57,52,57,53,57,54,57,55,57,56,57,57]⟩)) (t 75),o⟩,192,0,T⟩,⟨⟨s 77,m (t 11),o⟩,0,0,T⟩,⟨⟨s 78,.indexStr (v (.str ⟨#[48,48,48,49,48,50,48,51,48,52,48,53,48,54,48,55,48,56,48,57,49,48,49,49,49,50,49,51,49,52,49,53,49,54,49,55,49,56,49,57,50,48,50,49,50,50,50,51,50,52,50,53,50,54,50,55,50,56,50,57,51,48,51,49,51,50,51,51,51,52,51,53,51,54,51,55,51,56,51,57,52,48,52,49,52,50,52,51,52,52,52,53,52,54,52,55,52,56,52,57,53,48,53,49,53,50,53,51,53,52,53,53,53,54,53,55,53,56,53,57,54,48,54,49,54,50,54,51,54,52,54,53,54,54,54,55,54,56,54,57,55,48,55,49,55,50,55,51,55,52,55,53,55,54,55,55,55,56,55,57,56,48,56,49,56,50,56,51,56,52,56,53,56,54,56,55,56,56,56,57,57,48,57,49,57,50,57,51,57,52,57,53,57,54,57,55,57,56,57,57]⟩)) (t 77),o⟩,512,0,T⟩,⟨⟨s 79,a 1 (t 68) (t 70),o⟩,455,0,T⟩,⟨⟨o,S 1 (t 79) (t 76),o⟩,2503,2,U⟩,⟨⟨s 80,a 1 (t 71) (t 73),o⟩,8191,0,T⟩,⟨⟨o,S 1 (t 80) (t 78),o⟩,16383,2,U⟩]) (q (G [⟨⟨s 81,m (t 0),o⟩,0,0,T⟩,⟨⟨s 82,m (t 4),o⟩,0,0,T⟩,⟨⟨s 83,b .sub (t 82) (v (i I 7)),o⟩,2,0,T⟩,⟨⟨s 84,m (t 0),o⟩,0,0,T⟩,⟨⟨s 85,m (t 4),o⟩,0,0,T⟩,⟨⟨s 86,b .sub (t 85) (v (i I 8)),o⟩,16,0,T⟩,⟨⟨s 87,m (t 10),o⟩,0,0,T⟩,⟨⟨s 88,b .add (t 87) (v (i .u32 1)),o⟩,64,0,T⟩,⟨⟨s 89,.indexStr (v (.str ⟨#[48,48,48,49,48,50,48,51,48,52,48,53,48,54,48,55,48,56,48,57,49,48,49,49,49,50,49,51,49,52,49,53,49,54,49,55,49,56,49,57,50,48,50,49,50,50,50,51,50,52,50,53,50,54,50,55,50,56,50,57,51,48,51,49,51,50,51,51,51,52,51,53,51,54,51,55,51,56,51,57,52,48,52,49,52,50,52,51,52,52,52,53,52,54,52,55,52,56,52,57,53,48,53,49,53,50,53,51,53,52,53,53,53,54,53,55,53,56,53,57,54,48,54,49,54,50,54,51,54,52,54,53,54,54,54,55,54,56,54,57,55,48,55,49,55,50,55,51,55,52,55,53,55,54,55,55,55,56,55,57,56,48,56,49,56,50,56,51,56,52,56,53,56,54,56,55,56,56,56,57,57,48,57,49,57,50,57,51,57,52,57,53,57,54,57,55,57,56,57,57]⟩)) (t 88),o⟩,192,0,T⟩,⟨⟨s 90,m (t 10),o⟩,0,0,T⟩,⟨⟨s 91,.indexStr (v (.str ⟨#[48,48,48,49,48,50,48,51,48,52,48,53,48,54,48,55,48,56,48,57,49,48,49,49,49,50,49,51,49,52,49,53,49,54,49,55,49,56,49,57,50,48,50,49,50,50,50,51,50,52,50,53,50,54,50,55,50,56,50,57,51,48,51,49,51,50,51,51,51,52,51,53,51,54,51,55,51,56,51,57,52,48,52,49,52,50,52,51,52,52,52,53,52,54,52,55,52,56,52,57,53,48,53,49,53,50,53,51,53,52,53,53,53,54,53,55,53,56,53,57,54,48,54,49,54,50,54,51,54,52,54,53,54,54,54,55,54,56,54,57,55,48,55,49,55,50,55,51,55,52,55,53,55,54,55,55,55,56,55,57,56,48,56,49,56,50,56,51,56,52,56,53,56,54,56,55,56,56,56,57,57,48,57,49,57,50,57,51,57,52,57,53,57,54,57,55,57,56,57,57]⟩)) (t 90),o⟩,512,0,T⟩,⟨⟨s 92,a 1 (t 81) (t 83),o⟩,455,0,T⟩,⟨⟨o,S 1 (t 92) (t 89),o⟩,2503,2,U⟩,⟨⟨s 93,a 1 (t 84) (t 86),o⟩,8191,0,T⟩,⟨⟨o,S 1 (t 93) (t 91),o⟩,16383,2,U⟩]) (g [⟨s 94,m (t 4),o⟩,⟨s 95,b .sub (t 94) (v (i I 8)),o⟩,⟨s 4,m (t 95),o⟩])))))))))))))) (q (g [⟨s 96,m (t 1),o⟩,⟨s 97,.convInt .u32 (t 96),o⟩,⟨s 12,m (t 97),o⟩]) (q (q (g [⟨s 98,m (t 4),o⟩,⟨s 99,b .geq (t 98) (v (i I 4)),o⟩]) (c (t 99) (q (g [⟨s 100,m (t 12),o⟩,⟨s 101,b .rem (t 100) (v (i .u32 10000)),o⟩,⟨s 13,m (t 101),o⟩]) (q (g [⟨s 102,m (t 12),o⟩,⟨s 103,b .quo (t 102) (v (i .u32 10000)),o⟩,⟨s 12,m (t 103),o⟩]) (q (g [⟨s 104,m (t 13),o⟩,⟨s 105,b .quo (t 104) (v (i .u32 100)),o⟩,⟨s 106,b .mul (t 105) (v (i .u32 2)),o⟩,⟨s 107,m (t 13),o⟩,⟨s 108,b .rem (t 107) (v (i .u32 100)),o⟩,⟨s 109,b .mul (t 108) (v (i .u32 2)),o⟩,⟨s 14,m (t 106),o⟩,⟨s 15,m (t 109),o⟩]) (q (G [⟨⟨s 110,m (t 0),o⟩,0,0,T⟩,⟨⟨s 111,m (t 4),o⟩,0,0,T⟩,⟨⟨s 112,b .sub (t 111) (v (i I 1)),o⟩,2,0,T⟩,⟨⟨s 113,m (t 0),o⟩,0,0,T⟩,⟨⟨s 114,m (t 4),o⟩,0,0,T⟩,⟨⟨s 115,b .sub (t 114) (v (i I 2)),o⟩,16,0,T⟩,⟨⟨s 116,m (t 15),o⟩,0,0,T⟩,⟨⟨s 117,b .add (t 116) (v (i .u32 1)),o⟩,64,0,T⟩,⟨⟨s 118,.indexStr (v (.str ⟨#[48,48,48,49,48,50,48,51,48,52,48,53,48,54,48,55,48,56,48,57,49,48,49,49,49,50,49,51,49,52,49,53,49,54,49,55,49,56,49,57,50,48,50,49,50,50,50,51,50,52,50,53,50,54,50,55,50,56,50,57,51,48,51,49,51,50,51,51,51,52,51,53,51,54,51,55,51,56,51,57,52,48,52,49,52,50,52,51,52,52,52,53,52,54,52,55,52,56,52,57,53,48,53,49,53,50,53,51,53,52,53,53,53,54,53,55,53,56,53,57,54,48,54,49,54,50,54,51,54,52,54,53,54,54,54,55,54,56,54,57,55,48,55,49,55,50,55,51,55,52,55,53,55,54,55,55,55,56,55,57,56,48,56,49,56,50,56,51,56,52,56,53,56,54,56,55,56,56,56,57,57,48,57,49,57,50,57,51,57,52,57,53,57,54,57,55,57,56,57,57]⟩)) (t 117),o⟩,192,0,T⟩,⟨⟨s 119,m (t 15),o⟩,0,0,T⟩,⟨⟨s 120,.indexStr (v (.str ⟨#[48,48,48,49,48,50,48,51,48,52,48,53,48,54,48,55,48,56,48,57,49,48,49,49,49,50,49,51,49,52,49,53,49,54,49,55,49,56,49,57,50,48,50,49,50,50,50,51,50,52,50,53,50,54,50,55,50,56,50,57,51,48,51,49,51,50,51,51,51,52,51,53,51,54,51,55,51,56,51,57,52,48,52,49,52,50,52,51,52,52,52,53,52,54,52,55,52,56,52,57,53,48,53,49,53,50,53,51,53,52,53,53,53,54,53,55,53,56,53,57,54,48,54,49,54,50,54,51,54,52,54,53,54,54,54,55,54,56,54,57,55,48,55,49,55,50,55,51,55,52,55,53,55,54,55,55,55,56,55,57,56,48,56,49,56,50,56,51,56,52,56,53,56,54,56,55,56,56,56,57,57,48,57,49,57,50,57,51,57,52,57,53,57,54,57,55,57,56,57,57]⟩)) (t 119),o⟩,512,0,T⟩,⟨⟨s 121,a 1 (t 110) (t 112),o⟩,455,0,T⟩,⟨⟨o,S 1 (t 121) (t 118),o⟩,2503,2,U⟩,⟨⟨s 122,a 1 (t 113) (t 115),o⟩,8191,0,T⟩,⟨⟨o,S 1 (t 122) (t 120),o⟩,16383,2,U⟩]) (q (G [⟨⟨s 123,m (t 0),o⟩,0,0,T⟩,⟨⟨s 124,m (t 4),o⟩,0,0,T⟩,⟨⟨s 125,b .sub (t 124) (v (i I 3)),o⟩,2,0,T⟩,⟨⟨s 126,m (t 0),o⟩,0,0,T⟩,⟨⟨s 127,m (t 4),o⟩,0,0,T⟩,⟨⟨s 128,b .sub (t 127) (v (i I 4)),o⟩,16,0,T⟩,⟨⟨s 129,m (t 14),o⟩,0,0,T⟩,⟨⟨s 130,b .add (t 129) (v (i .u32 1)),o⟩,64,0,T⟩,⟨⟨s 131,.indexStr (v (.str ⟨#[48,48,48,49,48,50,48,51,48,52,48,53,48,54,48,55,48,56,48,57,49,48,49,49,49,50,49,51,49,52,49,53,49,54,49,55,49,56,49,57,50,48,50,49,50,50,50,51,50,52,50,53,50,54,50,55,50,56,50,57,51,48,51,49,51,50,51,51,51,52,51,53,51,54,51,55,51,56,51,57,52,48,52,49,52,50,52,51,52,52,52,53,52,54,52,55,52,56,52,57,53,48,53,49,53,50,53,51,53,52,53,53,53,54,53,55,53,56,53,57,54,48,54,49,54,50,54,51,54,52,54,53,54,54,54,55,54,56,54,57,55,48,55,49,55,50,55,51,55,52,55,53,55,54,55,55,55,56,55,57,56,48,56,49,56,50,56,51,56,52,56,53,56,54,56,55,56,56,56,57,57,48,57,49,57,50,57,51,57,52,57,53,57,54,57,55,57,56,57,57]⟩)) (t 130),o⟩,192,0,T⟩,⟨⟨s 132,m (t 14),o⟩,0,0,T⟩,⟨⟨s 133,.indexStr (v (.str ⟨#[48,48,48,49,48,50,48,51,48,52,48,53,48,54,48,55,48,56,48,57,49,48,49,49,49,50,49,51,49,52,49,53,49,54,49,55,49,56,49,57,50,48,50,49,50,50,50,51,50,52,50,53,50,54,50,55,50,56,50,57,51,48,51,49,51,50,51,51,51,52,51,53,51,54,51,55,51,56,51,57,52,48,52,49,52,50,52,51,52,52,52,53,52,54,52,55,52,56,52,57,53,48,53,49,53,50,53,51,53,52,53,53,53,54,53,55,53,56,53,57,54,48,54,49,54,50,54,51,54,52,54,53,54,54,54,55,54,56,54,57,55,48,55,49,55,50,55,51,55,52,55,53,55,54,55,55,55,56,55,57,56,48,56,49,56,50,56,51,56,52,56,53,56,54,56,55,56,56,56,57,57,48,57,49,57,50,57,51,57,52,57,53,57,54,57,55,57,56,57,57]⟩)) (t 132),o⟩,512,0,T⟩,⟨⟨s 134,a 1 (t 123) (t 125),o⟩,455,0,T⟩,⟨⟨o,S 1 (t 134) (t 131),o⟩,2503,2,U⟩,⟨⟨s 135,a 1 (t 126) (t 128),o⟩,8191,0,T⟩,⟨⟨o,S 1 (t 135) (t 133),o⟩,16383,2,U⟩]) (g [⟨s 136,m (t 4),o⟩,⟨s 137,b .sub (t 136) (v (i I 4)),o⟩,⟨s 4,m (t 137),o⟩])))))) k)) (q (q (g [⟨s 138,m (t 4),o⟩,⟨s 139,b .geq (t 138) (v (i I 2)),o⟩]) (c (t 139) (q (g [⟨s 140,m (t 12),o⟩,⟨s 141,b .rem (t 140) (v (i .u32 100)),o⟩,⟨s 142,b .mul (t 141) (v (i .u32 2)),o⟩,⟨s 16,m (t 142),o⟩]) (q (g [⟨s 143,m (t 12),o⟩,⟨s 144,b .quo (t 143) (v (i .u32 100)),o⟩,⟨s 12,m (t 144),o⟩]) (q (G [⟨⟨s 145,m (t 0),o⟩,0,0,T⟩,⟨⟨s 146,m (t 4),o⟩,0,0,T⟩,⟨⟨s 147,b .sub (t 146) (v (i I 1)),o⟩,2,0,T⟩,⟨⟨s 148,m (t 0),o⟩,0,0,T⟩,⟨⟨s 149,m (t 4),o⟩,0,0,T⟩,⟨⟨s 150,b .sub (t 149) (v (i I 2)),o⟩,16,0,T⟩,⟨⟨s 151,m (t 16),o⟩,0,0,T⟩,⟨⟨s 152,b .add (t 151) (v (i .u32 1)),o⟩,64,0,T⟩,⟨⟨s 153,.indexStr (v (.str ⟨#[48,48,48,49,48,50,48,51,48,52,48,53,48,54,48,55,48,56,48,57,49,48,49,49,49,50,49,51,49,52,49,53,49,54,49,55,49,56,49,57,50,48,50,49,50,50,50,51,50,52,50,53,50,54,50,55,50,56,50,57,51,48,51,49,51,50,51,51,51,52,51,53,51,54,51,55,51,56,51,57,52,48,52,49,52,50,52,51,52,52,52,53,52,54,52,55,52,56,52,57,53,48,53,49,53,50,53,51,53,52,53,53,53,54,53,55,53,56,53,57,54,48,54,49,54,50,54,51,54,52,54,53,54,54,54,55,54,56,54,57,55,48,55,49,55,50,55,51,55,52,55,53,55,54,55,55,55,56,55,57,56,48,56,49,56,50,56,51,56,52,56,53,56,54,56,55,56,56,56,57,57,48,57,49,57,50,57,51,57,52,57,53,57,54,57,55,57,56,57,57]⟩)) (t 152),o⟩,192,0,T⟩,⟨⟨s 154,m (t 16),o⟩,0,0,T⟩,⟨⟨s 155,.indexStr (v (.str ⟨#[48,48,48,49,48,50,48,51,48,52,48,53,48,54,48,55,48,56,48,57,49,48,49,49,49,50,49,51,49,52,49,53,49,54,49,55,49,56,49,57,50,48,50,49,50,50,50,51,50,52,50,53,50,54,50,55,50,56,50,57,51,48,51,49,51,50,51,51,51,52,51,53,51,54,51,55,51,56,51,57,52,48,52,49,52,50,52,51,52,52,52,53,52,54,52,55,52,56,52,57,53,48,53,49,53,50,53,51,53,52,53,53,53,54,53,55,53,56,53,57,54,48,54,49,54,50,54,51,54,52,54,53,54,54,54,55,54,56,54,57,55,48,55,49,55,50,55,51,55,52,55,53,55,54,55,55,55,56,55,57,56,48,56,49,56,50,56,51,56,52,56,53,56,54,56,55,56,56,56,57,57,48,57,49,57,50,57,51,57,52,57,53,57,54,57,55,57,56,57,57]⟩)) (t 154),o⟩,512,0,T⟩,⟨⟨s 156,a 1 (t 145) (t 147),o⟩,455,0,T⟩,⟨⟨o,S 1 (t 156) (t 153),o⟩,2503,2,U⟩,⟨⟨s 157,a 1 (t 148) (t 150),o⟩,8191,0,T⟩,⟨⟨o,S 1 (t 157) (t 155),o⟩,16383,2,U⟩]) (g [⟨s 158,m (t 4),o⟩,⟨s 159,b .sub (t 158) (v (i I 2)),o⟩,⟨s 4,m (t 159),o⟩])))) k)) (q (g [⟨s 160,m (t 4),o⟩,⟨s 161,b .gtr (t 160) (v (i I 0)),o⟩]) (c (t 161) (g [⟨s 162,m (t 0),o⟩,⟨s 163,m (t 12),o⟩,⟨s 164,b .add (v (i .u32 48)) (t 163),o⟩,⟨s 165,.convInt .u8 (t 164),o⟩,⟨s 166,a 1 (t 162) (v (i I 0)),o⟩,⟨o,S 1 (t 166) (t 165),o⟩]) k))))))),[]⟩
def c168 : RFunc := ⟨102,.code (q (g [⟨s 10,m (v N),o⟩,⟨s 11,m (v (.str ⟨#[]⟩)),o⟩]) (q (q (g [⟨s 19,m (t 2),o⟩,⟨s 20,b .lss (t 19) (v (i I 2)),o⟩,⟨s 21,m (t 20),o⟩,⟨s 22,m (t 2),s (21,U)⟩,⟨s 23,b .eql (t 22) (v (i I 10)),s (21,U)⟩,⟨s 24,p (t 21) (v (w T)) (t 23),o⟩,⟨s 25,m (t 24),o⟩,⟨s 26,m (t 2),s (25,U)⟩,⟨s 27,b .gtr (t 26) (v (i I 36)),s (25,U)⟩,⟨s 28,p (t 25) (v (w T)) (t 27),o⟩]) (c (t 28) .fail k)) (q (g [⟨s 12,.new 243 [(i .u8 0),(i .u8 0),(i .u8 0),(i .u8 0),(i .u8 0),(i .u8 0),(i .u8 0),(i .u8 0),(i .u8 0),(i .u8 0),(i .u8 0),(i .u8 0),(i .u8 0),(i .u8 0),(i .u8 0),(i .u8 0),(i .u8 0),(i .u8 0),(i .u8 0),(i .u8 0),(i .u8 0),(i .u8 0),(i .u8 0),(i .u8 0),(i .u8 0),(i .u8 0),(i .u8 0),(i .u8 0),(i .u8 0),(i .u8 0),(i .u8 0),(i .u8 0),(i .u8 0),(i .u8 0),(i .u8 0),(i .u8 0),(i .u8 0),(i .u8 0),(i .u8 0),(i .u8 0),(i .u8 0),(i .u8 0),(i .u8 0),(i .u8 0),(i .u8 0),(i .u8 0),(i .u8 0),(i .u8 0),(i .u8 0),(i .u8 0),(i .u8 0),(i .u8 0),(i .u8 0),(i .u8 0),(i .u8 0),(i .u8 0),(i .u8 0),(i .u8 0),(i .u8 0),(i .u8 0),(i .u8 0),(i .u8 0),(i .u8 0),(i .u8 0),(i .u8 0)],o⟩]) (q (g [⟨s 13,m (v (i I 65)),o⟩]) (q (q (g [⟨s 30,m (t 3),o⟩]) (c (t 30) (g [⟨s 31,m (t 1),o⟩,⟨s 32,.un .neg (t 31),o⟩,⟨s 1,m (t 32),o⟩]) k)) (q (q (g [⟨s 33,m (t 2),o⟩,⟨s 34,C (v (F (J 183) [] [])) [t 33],o⟩]) (c (t 34) (q (g [⟨s 35,m (t 2),o⟩,⟨s 36,.convInt .u64 (t 35),o⟩,⟨s 37,C (v (F (J 184) [] [])) [t 36],o⟩,⟨s 38,.convInt .u64 (t 37),o⟩,⟨s 14,m (t 38),o⟩]) (q (g [⟨s 39,m (t 2),o⟩,⟨s 40,.convInt .u64 (t 39),o⟩,⟨s 15,m (t 40),o⟩]) (q (g [⟨s 41,m (t 2),o⟩,⟨s 42,.convInt .u64 (t 41),o⟩,⟨s 43,b .sub (t 42) (v (i .u64 1)),o⟩,⟨s 16,m (t 43),o⟩]) (q (B 0 (L (q (q (g [⟨s 44,m (t 1),o⟩,⟨s 45,m (t 15),o⟩,⟨s 46,b .geq (t 44) (t 45),o⟩]) (c (t 46) k (x 0))) (B 1 (q (g [⟨s 47,m (t 13),o⟩,⟨s 48,b .sub (t 47) (v (i I 1)),o⟩,⟨s 13,m (t 48),o⟩]) (q (g [⟨s 49,m (t 13),o⟩,⟨s 50,m (t 1),o⟩,⟨s 51,m (t 16),o⟩,⟨s 52,b .and (t 50) (t 51),o⟩,⟨s 53,.indexStr (v (.str ⟨#[48,49,50,51,52,53,54,55,56,57,97,98,99,100,101,102,103,104,105,106,107,108,109,110,111,112,113,114,115,116,117,118,119,120,121,122]⟩)) (t 52),o⟩,⟨s 54,.idxA 65 1 (t 12) (t 49),o⟩,⟨o,S 1 (t 54) (t 53),o⟩]) (g [⟨s 55,m (t 1),o⟩,⟨s 56,m (t 14),o⟩,⟨s 57,b .shr (t 55) (t 56),o⟩,⟨s 1,m (t 57),o⟩]))))))) (q (g [⟨s 58,m (t 13),o⟩,⟨s 59,b .sub (t 58) (v (i I 1)),o⟩,⟨s 13,m (t 59),o⟩]) (g [⟨s 60,m (t 13),o⟩,⟨s 61,m (t 1),o⟩,⟨s 62,.indexStr (v (.str ⟨#[48,49,50,51,52,53,54,55,56,57,97,98,99,100,101,102,103,104,105,106,107,108,109,110,111,112,113,114,115,116,117,118,119,120,121,122]⟩)) (t 61),o⟩,⟨s 63,.idxA 65 1 (t 12) (t 60),o⟩,⟨o,S 1 (t 63) (t 62),o⟩])))))) (q (g [⟨s 64,m (t 2),o⟩,⟨s 65,.convInt .u64 (t 64),o⟩,⟨s 17,m (t 65),o⟩]) (q (B 2 (L (q (q (g [⟨s 66,m (t 1),o⟩,⟨s 67,m (t 17),o⟩,⟨s 68,b .geq (t 66) (t 67),o⟩]) (c (t 68) k (x 2))) (B 3 (q (g [⟨s 69,m (t 13),o⟩,⟨s 70,b .sub (t 69) (v (i I 1)),o⟩,⟨s 13,m (t 70),o⟩]) (q (g [⟨s 71,m (t 1),o⟩,⟨s 72,m (t 17),o⟩,⟨s 73,b .quo (t 71) (t 72),o⟩,⟨s 18,m (t 73),o⟩]) (q (g [⟨s 74,m (t 13),o⟩,⟨s 75,m (t 1),o⟩,⟨s 76,m (t 18),o⟩,⟨s 77,m (t 17),o⟩,⟨s 78,b .mul (t 76) (t 77),o⟩,⟨s 79,b .sub (t 75) (t 78),o⟩,⟨s 80,.indexStr (v (.str ⟨#[48,49,50,51,52,53,54,55,56,57,97,98,99,100,101,102,103,104,105,106,107,108,109,110,111,112,113,114,115,116,117,118,119,120,121,122]⟩)) (t 79),o⟩,⟨s 81,.idxA 65 1 (t 12) (t 74),o⟩,⟨o,S 1 (t 81) (t 80),o⟩]) (g [⟨s 82,m (t 18),o⟩,⟨s 1,m (t 82),o⟩])))))))) (q (g [⟨s 83,m (t 13),o⟩,⟨s 84,b .sub (t 83) (v (i I 1)),o⟩,⟨s 13,m (t 84),o⟩]) (g [⟨s 85,m (t 13),o⟩,⟨s 86,m (t 1),o⟩,⟨s 87,.indexStr (v (.str ⟨#[48,49,50,51,52,53,54,55,56,57,97,98,99,100,101,102,103,104,105,106,107,108,109,110,111,112,113,114,115,116,117,118,119,120,121,122]⟩)) (t 86),o⟩,⟨s 88,.idxA 65 1 (t 12) (t 85),o⟩,⟨o,S 1 (t 88) (t 87),o⟩])))))) (q (q (g [⟨s 89,m (t 3),o⟩]) (c (t 89) (q (g [⟨s 90,m (t 13),o⟩,⟨s 91,b .sub (t 90) (v (i I 1)),o⟩,⟨s 13,m (t 91),o⟩]) (g [⟨s 92,m (t 13),o⟩,⟨s 93,.idxA 65 1 (t 12) (t 92),o⟩,⟨o,S 1 (t 93) (v (i .u8 45)),o⟩])) k)) (q (q (g [⟨s 94,m (t 4),o⟩]) (c (t 94) (q (g [⟨s 95,m (t 0),o⟩,⟨s 96,m (t 13),o⟩,⟨s 97,.sliceArr 65 1 (t 12) (s (t 96)) o o,o⟩,⟨s 98,.append 5 1 1 (t 95) (t 97),o⟩,⟨s 10,m (t 98),o⟩]) R) k)) (q (g [⟨s 99,m (t 13),o⟩,⟨s 100,.sliceArr 65 1 (t 12) (s (t 99)) o o,o⟩,⟨s 101,.bytesToStr (t 100),o⟩,⟨s 11,m (t 101),o⟩]) R))))))))),[.tmp 10,.tmp 11]⟩
def c175 : RFunc := ⟨76,.code (q (g [⟨s 10,m (t 1),o⟩,⟨s 8,m (t 10),o⟩]) (B 0 (L (B 1 (q (g [⟨s 11,m (t 8),o⟩,⟨s 12,b .mul (v (i I 2)) (t 11),o⟩,⟨s 13,b .add (t 12) (v (i I 1)),o⟩,⟨s 9,m (t 13),o⟩]) (q (q (g [⟨s 14,m (t 9),o⟩,⟨s 15,m (t 2),o⟩,⟨s 16,b .geq (t 14) (t 15),o⟩]) (c (t 16) (x 0) k)) (q (q (G [⟨⟨s 17,m (t 9),o⟩,0,0,T⟩,⟨⟨s 18,b .add (t 17) (v (i I 1)),o⟩,1,0,T⟩,⟨⟨s 19,m (t 2),o⟩,0,0,T⟩,⟨⟨s 20,b .lss (t 18) (t 19),o⟩,7,0,T⟩,⟨⟨s 21,m (t 20),o⟩,15,0,T⟩,⟨⟨s 22,m (t 0),s (21,T)⟩,31,0,T⟩,⟨⟨s 23,m (t 3),s (21,T)⟩,31,0,T⟩,⟨⟨s 24,m (t 9),s (21,T)⟩,31,0,T⟩,⟨⟨s 25,b .add (t 23) (t 24),s (21,T)⟩,223,0,T⟩,⟨⟨s 26,a 1 (t 22) (t 25),s (21,T)⟩,511,0,T⟩,⟨⟨s 27,l o (t 26),s (21,T)⟩,1023,1,T⟩,⟨⟨s 28,m (t 0),s (21,T)⟩,31,0,T⟩,⟨⟨s 29,m (t 3),s (21,T)⟩,31,0,T⟩,⟨⟨s 30,m (t 9),s (21,T)⟩,31,0,T⟩,⟨⟨s 31,b .add (t 29) (t 30),s (21,T)⟩,12319,0,T⟩,⟨⟨s 32,b .add (t 31) (v (i I 1)),s (21,T)⟩,28703,0,T⟩,⟨⟨s 33,a 1 (t 28) (t 32),s (21,T)⟩,63519,0,T⟩,⟨⟨s 34,l o (t 33),s (21,T)⟩,129055,1,T⟩,⟨⟨s 35,C (v (F (J 159) [] [])) [t 27,t 34],s (21,T)⟩,262143,2,U⟩,⟨⟨s 36,p (t 21) (t 35) (v (w U)),o⟩,524287,0,U⟩]) (c (t 36) (g [⟨s 37,m (t 9),o⟩,⟨s 38,b .add (t 37) (v (i I 1)),o⟩,⟨s 9,m (t 38),o⟩]) k)) (q (q (G [⟨⟨s 39,m (t 0),o⟩,0,0,T⟩,⟨⟨s 40,m (t 3),o⟩,0,0,T⟩,⟨⟨s 41,m (t 8),o⟩,0,0,T⟩,⟨⟨s 42,b .add (t 40) (t 41),o⟩,6,0,T⟩,⟨⟨s 43,a 1 (t 39) (t 42),o⟩,15,0,T⟩,⟨⟨s 44,l o (t 43),o⟩,31,1,T⟩,⟨⟨s 45,m (t 0),o⟩,0,0,T⟩,⟨⟨s 46,m (t 3),o⟩,0,0,T⟩,⟨⟨s 47,m (t 9),o⟩,0,0,T⟩,⟨⟨s 48,b .add (t 46) (t 47),o⟩,384,0,T⟩,⟨⟨s 49,a 1 (t 45) (t 48),o⟩,960,0,T⟩,⟨⟨s 50,l o (t 49),o⟩,1984,1,T⟩,⟨⟨s 51,C (v (F (J 159) [] [])) [t 44,t 50],o⟩,4095,2,U⟩,⟨⟨s 52,.un .not (t 51),o⟩,8191,0,U⟩]) (c (t 52) R k)) (q (G [⟨⟨s 53,m (t 0),o⟩,0,0,T⟩,⟨⟨s 54,m (t 3),o⟩,0,0,T⟩,⟨⟨s 55,m (t 8),o⟩,0,0,T⟩,⟨⟨s 56,b .add (t 54) (t 55),o⟩,6,0,T⟩,⟨⟨s 57,m (t 0),o⟩,0,0,T⟩,⟨⟨s 58,m (t 3),o⟩,0,0,T⟩,⟨⟨s 59,m (t 9),o⟩,0,0,T⟩,⟨⟨s 60,b .add (t 58) (t 59),o⟩,96,0,T⟩,⟨⟨s 61,m (t 0),o⟩,0,0,T⟩,⟨⟨s 62,m (t 3),o⟩,0,0,T⟩,⟨⟨s 63,m (t 9),o⟩,0,0,T⟩,⟨⟨s 64,b .add (t 62) (t 63),o⟩,1536,0,T⟩,⟨⟨s 65,a 1 (t 61) (t 64),o⟩,3840,0,T⟩,⟨⟨s 66,l o (t 65),o⟩,7936,1,T⟩,⟨⟨s 67,m (t 0),o⟩,0,0,T⟩,⟨⟨s 68,m (t 3),o⟩,0,0,T⟩,⟨⟨s 69,m (t 8),o⟩,0,0,T⟩,⟨⟨s 70,b .add (t 68) (t 69),o⟩,98304,0,T⟩,⟨⟨s 71,a 1 (t 67) (t 70),o⟩,245760,0,T⟩,⟨⟨s 72,l o (t 71),o⟩,507904,1,T⟩,⟨⟨s 73,a 1 (t 53) (t 56),o⟩,1048335,0,T⟩,⟨⟨o,S 1 (t 73) (t 66),o⟩,2096911,2,U⟩,⟨⟨s 74,a 1 (t 57) (t 60),o⟩,4194303,0,T⟩,⟨⟨o,S 1 (t 74) (t 72),o⟩,8388607,2,U⟩]) (g [⟨s 75,m (t 9),o⟩,⟨s 8,m (t 75),o⟩])))))))))),[]⟩
def c176 : RFunc := ⟨7,.code (q (g [⟨s 2,m (v (i .u64 0)),o⟩]) (q (g [⟨s 3,m (t 0),o⟩,⟨s 4,.convInt .u64 (t 3),o⟩,⟨s 5,C (v (F (J 141) [] [])) [t 4],o⟩,⟨s 6,b .shl (v (i .u64 1)) (t 5),o⟩,⟨s 2,m (t 6),o⟩]) R)),[.tmp 2]⟩
def c177 : RFunc := ⟨33,.code (q (g [⟨s 2,m (v (i .u64 0)),o⟩]) (q (G [⟨⟨s 3,m (t 0),o⟩,0,0,T⟩,⟨⟨s 4,.nilCheck (t 3),o⟩,1,0,T⟩,⟨⟨s 5,l o (t 4),o⟩,3,1,T⟩,⟨⟨s 6,m (t 0),o⟩,0,0,T⟩,⟨⟨s 7,.nilCheck (t 6),o⟩,8,0,T⟩,⟨⟨s 8,l o (t 7),o⟩,24,1,T⟩,⟨⟨s 9,b .shl (t 8) (v (i .u64 13)),o⟩,56,0,T⟩,⟨⟨s 10,b .xor (t 5) (t 9),o⟩,127,0,T⟩,⟨⟨s 11,.nilCheck (t 3),o⟩,255,0,T⟩,⟨⟨o,S 1 (t 11) (t 10),o⟩,511,2,U⟩]) (q (G [⟨⟨s 12,m (t 0),o⟩,0,0,T⟩,⟨⟨s 13,.nilCheck (t 12),o⟩,1,0,T⟩,⟨⟨s 14,l o (t 13),o⟩,3,1,T⟩,⟨⟨s 15,m (t 0),o⟩,0,0,T⟩,⟨⟨s 16,.nilCheck (t 15),o⟩,8,0,T⟩,⟨⟨s 17,l o (t 16),o⟩,24,1,T⟩,⟨⟨s 18,b .shr (t 17) (v (i .u64 7)),o⟩,56,0,T⟩,⟨⟨s 19,b .xor (t 14) (t 18),o⟩,127,0,T⟩,⟨⟨s 20,.nilCheck (t 12),o⟩,255,0,T⟩,⟨⟨o,S 1 (t 20) (t 19),o⟩,511,2,U⟩]) (q (G [⟨⟨s 21,m (t 0),o⟩,0,0,T⟩,⟨⟨s 22,.nilCheck (t 21),o⟩,1,0,T⟩,⟨⟨s 23,l o (t 22),o⟩,3,1,T⟩,⟨⟨s 24,m (t 0),o⟩,0,0,T⟩,⟨⟨s 25,.nilCheck (t 24),o⟩,8,0,T⟩,⟨⟨s 26,l o (t 25),o⟩,24,1,T⟩,⟨⟨s 27,b .shl (t 26) (v (i .u64 17)),o⟩,56,0,T⟩,⟨⟨s 28,b .xor (t 23) (t 27),o⟩,127,0,T⟩,⟨⟨s 29,.nilCheck (t 21),o⟩,255,0,T⟩,⟨⟨o,S 1 (t 29) (t 28),o⟩,511,2,U⟩]) (q (g [⟨s 30,m (t 0),o⟩,⟨s 31,.nilCheck (t 30),o⟩,⟨s 32,l o (t 31),o⟩,⟨s 2,m (t 32),o⟩]) R))))),[.tmp 2]⟩
def c178 : RFunc := ⟨15,.code (q (g [⟨s 6,m (v (i I 0)),o⟩]) (q (g [⟨s 7,m (t 0),o⟩,⟨s 8,m (t 1),o⟩,⟨s 9,b .sub (t 8) (v (i I 1)),o⟩,⟨s 10,m (t 1),o⟩,⟨s 11,m (t 1),o⟩,⟨s 12,b .add (t 11) (v (i I 1)),o⟩,⟨s 13,m (t 2),o⟩,⟨s 14,C (v (F (J 179) [] [])) [t 7,t 9,t 10,t 12,t 13],o⟩,⟨s 6,m (t 14),o⟩]) R)),[.tmp 6]⟩
def c179 : RFunc := ⟨36,.code (q (g [⟨s 10,m (v (i I 0)),o⟩]) (q (g [⟨s 12,m (t 0),o⟩,⟨s 13,m (t 1),o⟩,⟨s 14,m (t 2),o⟩,⟨s 15,m (t 4),o⟩,⟨s 16,C (v (F (J 190) [] [])) [t 12,t 13,t 14,t 15],o⟩,⟨s 11,m (t 16),o⟩,⟨s 17,e (t 11) 0,o⟩,⟨s 18,e (t 11) 1,o⟩,⟨s 1,m (t 17),o⟩,⟨s 2,m (t 18),o⟩]) (q (g [⟨s 20,m (t 0),o⟩,⟨s 21,m (t 2),o⟩,⟨s 22,m (t 3),o⟩,⟨s 23,m (t 4),o⟩,⟨s 24,C (v (F (J 190) [] [])) [t 20,t 21,t 22,t 23],o⟩,⟨s 19,m (t 24),o⟩,⟨s 25,e (t 19) 0,o⟩,⟨s 26,e (t 19) 1,o⟩,⟨s 2,m (t 25),o⟩,⟨s 3,m (t 26),o⟩]) (q (g [⟨s 28,m (t 0),o⟩,⟨s 29,m (t 1),o⟩,⟨s 30,m (t 2),o⟩,⟨s 31,m (t 4),o⟩,⟨s 32,C (v (F (J 190) [] [])) [t 28,t 29,t 30,t 31],o⟩,⟨s 27,m (t 32),o⟩,⟨s 33,e (t 27) 0,o⟩,⟨s 34,e (t 27) 1,o⟩,⟨s 1,m (t 33),o⟩,⟨s 2,m (t 34),o⟩]) (q (g [⟨s 35,m (t 2),o⟩,⟨s 10,m (t 35),o⟩]) R))))),[.tmp 10]⟩
def c180 : RFunc := ⟨38,.code (q (g [⟨s 10,m (v (i I 0)),o⟩]) (B 0 (L (q (q (g [⟨s 11,m (t 10),o⟩,⟨s 12,m (t 3),o⟩,⟨s 13,b .lss (t 11) (t 12),o⟩]) (c (t 13) k (x 0))) (q (B 1 (G [⟨⟨s 16,m (t 0),o⟩,0,0,T⟩,⟨⟨s 17,m (t 1),o⟩,0,0,T⟩,⟨⟨s 18,m (t 10),o⟩,0,0,T⟩,⟨⟨s 19,b .add (t 17) (t 18),o⟩,6,0,T⟩,⟨⟨s 20,m (t 0),o⟩,0,0,T⟩,⟨⟨s 21,m (t 2),o⟩,0,0,T⟩,⟨⟨s 22,m (t 10),o⟩,0,0,T⟩,⟨⟨s 23,b .add (t 21) (t 22),o⟩,96,0,T⟩,⟨⟨s 24,m (t 0),o⟩,0,0,T⟩,⟨⟨s 25,m (t 2),o⟩,0,0,T⟩,⟨⟨s 26,m (t 10),o⟩,0,0,T⟩,⟨⟨s 27,b .add (t 25) (t 26),o⟩,1536,0,T⟩,⟨⟨s 28,a 2 (t 24) (t 27),o⟩,3840,0,T⟩,⟨⟨s 29,l (s 2) (t 28),o⟩,7936,1,T⟩,⟨⟨s 30,m (t 0),o⟩,0,0,T⟩,⟨⟨s 31,m (t 1),o⟩,0,0,T⟩,⟨⟨s 32,m (t 10),o⟩,0,0,T⟩,⟨⟨s 33,b .add (t 31) (t 32),o⟩,98304,0,T⟩,⟨⟨s 34,a 2 (t 30) (t 33),o⟩,245760,0,T⟩,⟨⟨s 35,l (s 2) (t 34),o⟩,507904,1,T⟩,⟨⟨s 36,a 2 (t 16) (t 19),o⟩,1048335,0,T⟩,⟨⟨o,S 2 (t 36) (t 29),o⟩,2096911,2,U⟩,⟨⟨s 37,a 2 (t 20) (t 23),o⟩,4194303,0,T⟩,⟨⟨o,S 2 (t 37) (t 35),o⟩,8388607,2,U⟩])) (g [⟨s 14,m (t 10),o⟩,⟨s 15,b .add (t 14) (v (i I 1)),o⟩,⟨s 10,m (t 15),o⟩])))))),[]⟩
def c181 : RFunc := ⟨6,.code (q (g [⟨s 2,m (v (i I 0)),o⟩]) (q (g [⟨s 3,m (t 0),o⟩,⟨s 4,b .mul (t 3) (v (i I 78913)),o⟩,⟨s 5,b .shr (t 4) (v (i .u64 18)),o⟩,⟨s 2,m (t 5),o⟩]) R)),[.tmp 2]⟩
def c182 : RFunc := ⟨4,.code (q (g [⟨s 2,m (v (i I 0)),o⟩]) (q (q (g [⟨s 3,m (t 0),o⟩]) (c (t 3) (q (g [⟨s 2,m (v (i I 1)),o⟩]) R) k)) (q (g [⟨s 2,m (v (i I 0)),o⟩]) R))),[.tmp 2]⟩
def c183 : RFunc := ⟨8,.code (q (g [⟨s 2,m (v (w U)),o⟩]) (q (g [⟨s 3,m (t 0),o⟩,⟨s 4,m (t 0),o⟩,⟨s 5,b .sub (t 4) (v (i I 1)),o⟩,⟨s 6,b .and (t 3) (t 5),o⟩,⟨s 7,b .eql (t 6) (v (i I 0)),o⟩,⟨s 2,m (t 7),o⟩]) R)),[.tmp 2]⟩
def c184 : RFunc := ⟨8,.code (q (g [⟨s 2,m (v (i I 0)),o⟩]) (q (c (v (w U)) (q (g [⟨s 3,m (t 0),o⟩,⟨s 4,.convInt .u32 (t 3),o⟩,⟨s 5,C (v (F (J 191) [] [])) [t 4],o⟩,⟨s 2,m (t 5),o⟩]) R) k) (q (g [⟨s 6,m (t 0),o⟩,⟨s 7,C (v (F (J 192) [] [])) [t 6],o⟩,⟨s 2,m (t 7),o⟩]) R))),[.tmp 2]⟩
def c190 : RFunc := ⟨28,.code (q (g [⟨s 8,m (v (i I 0)),o⟩,⟨s 9,m (v (i I 0)),o⟩]) (q (q (G [⟨⟨s 10,m (t 0),o⟩,0,0,T⟩,⟨⟨s 11,m (t 2),o⟩,0,0,T⟩,⟨⟨s 12,a 1 (t 10) (t 11),o⟩,3,0,T⟩,⟨⟨s 13,l o (t 12),o⟩,7,1,T⟩,⟨⟨s 14,m (t 0),o⟩,0,0,T⟩,⟨⟨s 15,m (t 1),o⟩,0,0,T⟩,⟨⟨s 16,a 1 (t 14) (t 15),o⟩,48,0,T⟩,⟨⟨s 17,l o (t 16),o⟩,112,1,T⟩,⟨⟨s 18,C (v (F (J 159) [] [])) [t 13,t 17],o⟩,255,2,U⟩]) (c (t 18) (q (g [⟨s 19,m (t 3),o⟩,⟨s 20,.nilCheck (t 19),o⟩,⟨s 21,l o (t 20),o⟩,⟨s 22,b .add (t 21) (v (i I 1)),o⟩,⟨s 23,.nilCheck (t 19),o⟩,⟨o,S 1 (t 23) (t 22),o⟩]) (q (g [⟨s 24,m (t 2),o⟩,⟨s 25,m (t 1),o⟩,⟨s 8,m (t 24),o⟩,⟨s 9,m (t 25),o⟩]) R)) k)) (q (g [⟨s 26,m (t 1),o⟩,⟨s 27,m (t 2),o⟩,⟨s 8,m (t 26),o⟩,⟨s 9,m (t 27),o⟩]) R))),[.tmp 8,.tmp 9]⟩
def c191 : RFunc := ⟨14,.code (q (g [⟨s 2,m (v (i I 0)),o⟩]) (q (q (g [⟨s 3,m (t 0),o⟩,⟨s 4,b .eql (t 3) (v (i .u32 0)),o⟩]) (c (t 4) (q (g [⟨s 2,m (v (i I 32)),o⟩]) R) k)) (q (g [⟨s 5,m (t 0),o⟩,⟨s 6,m (t 0),o⟩,⟨s 7,.un .neg (t 6),o⟩,⟨s 8,b .and (t 5) (t 7),o⟩,⟨s 9,b .mul (t 8) (v (i .u32 125613361)),o⟩,⟨s 10,b .shr (t 9) (v (i .u64 27)),o⟩,⟨s 11,.idxA 32 1 (v (.ptr 4 0)) (t 10),o⟩,⟨s 12,l o (t 11),o⟩,⟨s 13,.convInt I (t 12),o⟩,⟨s 2,m (t 13),o⟩]) R))),[.tmp 2]⟩
def c192 : RFunc := ⟨14,.code (q (g [⟨s 2,m (v (i I 0)),o⟩]) (q (q (g [⟨s 3,m (t 0),o⟩,⟨s 4,b .eql (t 3) (v (i .u64 0)),o⟩]) (c (t 4) (q (g [⟨s 2,m (v (i I 64)),o⟩]) R) k)) (q (g [⟨s 5,m (t 0),o⟩,⟨s 6,m (t 0),o⟩,⟨s 7,.un .neg (t 6),o⟩,⟨s 8,b .and (t 5) (t 7),o⟩,⟨s 9,b .mul (t 8) (v (i .u64 285870213051353865)),o⟩,⟨s 10,b .shr (t 9) (v (i .u64 58)),o⟩,⟨s 11,.idxA 64 1 (v (.ptr 5 0)) (t 10),o⟩,⟨s 12,l o (t 11),o⟩,⟨s 13,.convInt I (t 12),o⟩,⟨s 2,m (t 13),o⟩]) R))),[.tmp 2]⟩
end
end Go.Am

namespace Go.Am
open Go
def ext : Exts := fun k args => match k with
  | 0 => aCount args
  | 1 => aIndexByte args
  | 2 => aSelf args
  | 3 => aClosed aroundT (.bool true) args
  | _ => M.fail
def prog0 : FuncId → Option RFunc := fun f => (cond (Nat.blt f 118) (cond (Nat.blt f 78) (cond (Nat.blt f 56) (cond (Nat.blt f 31) (cond (Nat.blt f 15) (cond (Nat.blt f 13) (cond (Nat.beq f 11) (some c11) none) (cond (Nat.beq f 13) (some c13) none)) (cond (Nat.blt f 16) (cond (Nat.beq f 15) (some c15) none) (cond (Nat.blt f 28) (cond (Nat.beq f 16) (some c16) none) (cond (Nat.beq f 28) (some c28) none)))) (cond (Nat.blt f 49) (cond (Nat.blt f 35) (cond (Nat.beq f 31) (some c31) none) (cond (Nat.blt f 39) (cond (Nat.beq f 35) (some c35) none) (cond (Nat.beq f 39) (some c39) none))) (cond (Nat.blt f 51) (cond (Nat.beq f 49) (some c49) none) (cond (Nat.blt f 54) (cond (Nat.beq f 51) (some c51) none) (cond (Nat.beq f 54) (some c54) none))))) (cond (Nat.blt f 61) (cond (Nat.blt f 58) (cond (Nat.blt f 57) (cond (Nat.beq f 56) (some c56) none) (cond (Nat.beq f 57) (some c57) none)) (cond (Nat.blt f 59) (cond (Nat.beq f 58) (some c58) none) (cond (Nat.blt f 60) (cond (Nat.beq f 59) (some c59) none) (cond (Nat.beq f 60) (some c60) none)))) (cond (Nat.blt f 67) (cond (Nat.blt f 63) (cond (Nat.beq f 61) (some c61) none) (cond (Nat.blt f 65) (cond (Nat.beq f 63) (some c63) none) (cond (Nat.beq f 65) (some c65) none))) (cond (Nat.blt f 71) (cond (Nat.beq f 67) (some c67) none) (cond (Nat.blt f 72) (cond (Nat.beq f 71) (some c71) none) (cond (Nat.beq f 72) (some c72) none)))))) (cond (Nat.blt f 101) (cond (Nat.blt f 84) (cond (Nat.blt f 80) (cond (Nat.blt f 79) (cond (Nat.beq f 78) (some c78) none) (cond (Nat.beq f 79) (some c79) none)) (cond (Nat.blt f 81) (cond (Nat.beq f 80) (some c80) none) (cond (Nat.blt f 82) (cond (Nat.beq f 81) (some c81) none) (cond (Nat.beq f 82) (some c82) none)))) (cond (Nat.blt f 98) (cond (Nat.blt f 85) (cond (Nat.beq f 84) (some c84) none) (cond (Nat.blt f 97) (cond (Nat.beq f 85) (some c85) none) (cond (Nat.beq f 97) (some c97) none))) (cond (Nat.blt f 99) (cond (Nat.beq f 98) (some c98) none) (cond (Nat.blt f 100) (cond (Nat.beq f 99) (some c99) none) (cond (Nat.beq f 100) (some c100) none))))) (cond (Nat.blt f 111) (cond (Nat.blt f 108) (cond (Nat.blt f 102) (cond (Nat.beq f 101) (some c101) none) (cond (Nat.beq f 102) (some c102) none)) (cond (Nat.blt f 109) (cond (Nat.beq f 108) (some c108) none) (cond (Nat.blt f 110) (cond (Nat.beq f 109) (some c109) none) (cond (Nat.beq f 110) (some c110) none)))) (cond (Nat.blt f 114) (cond (Nat.blt f 112) (cond (Nat.beq f 111) (some c111) none) (cond (Nat.blt f 113) (cond (Nat.beq f 112) (some c112) none) (cond (Nat.beq f 113) (some c113) none))) (cond (Nat.blt f 115) (cond (Nat.beq f 114) (some c114) none) (cond (Nat.blt f 117) (cond (Nat.beq f 115) (some c115) none) (cond (Nat.beq f 117) (some c117) none))))))) (cond (Nat.blt f 159) (cond (Nat.blt f 141) (cond (Nat.blt f 123) (cond (Nat.blt f 120) (cond (Nat.blt f 119) (cond (Nat.beq f 118) (some c118) none) (cond (Nat.beq f 119) (some c119) none)) (cond (Nat.blt f 121) (cond (Nat.beq f 120) (some c120) none) (cond (Nat.blt f 122) (cond (Nat.beq f 121) (some c121) none) (cond (Nat.beq f 122) (some c122) none)))) (cond (Nat.blt f 133) (cond (Nat.blt f 124) (cond (Nat.beq f 123) (some c123) none) (cond (Nat.blt f 132) (cond (Nat.beq f 124) (some c124) none) (cond (Nat.beq f 132) (some c132) none))) (cond (Nat.blt f 139) (cond (Nat.beq f 133) (some c133) none) (cond (Nat.blt f 140) (cond (Nat.beq f 139) (some c139) none) (cond (Nat.beq f 140) (some c140) none))))) (cond (Nat.blt f 153) (cond (Nat.blt f 143) (cond (Nat.blt f 142) (cond (Nat.beq f 141) (some c141) none) (cond (Nat.beq f 142) (some c142) none)) (cond (Nat.blt f 144) (cond (Nat.beq f 143) (some c143) none) (cond (Nat.blt f 147) (cond (Nat.beq f 144) (some c144) none) (cond (Nat.beq f 147) (some c147) none)))) (cond (Nat.blt f 156) (cond (Nat.blt f 154) (cond (Nat.beq f 153) (some c153) none) (cond (Nat.blt f 155) (cond (Nat.beq f 154) (some c154) none) (cond (Nat.beq f 155) (some c155) none))) (cond (Nat.blt f 157) (cond (Nat.beq f 156) (some c156) none) (cond (Nat.blt f 158) (cond (Nat.beq f 157) (some c157) none) (cond (Nat.beq f 158) (some c158) none)))))) (cond (Nat.blt f 176) (cond (Nat.blt f 164) (cond (Nat.blt f 161) (cond (Nat.blt f 160) (cond (Nat.beq f 159) (some c159) none) (cond (Nat.beq f 160) (some c160) none)) (cond (Nat.blt f 162) (cond (Nat.beq f 161) (some c161) none) (cond (Nat.blt f 163) (cond (Nat.beq f 162) (some c162) none) (cond (Nat.beq f 163) (some c163) none)))) (cond (Nat.blt f 167) (cond (Nat.blt f 165) (cond (Nat.beq f 164) (some c164) none) (cond (Nat.blt f 166) (cond (Nat.beq f 165) (some c165) none) (cond (Nat.beq f 166) (some c166) none))) (cond (Nat.blt f 168) (cond (Nat.beq f 167) (some c167) none) (cond (Nat.blt f 175) (cond (Nat.beq f 168) (some c168) none) (cond (Nat.beq f 175) (some c175) none))))) (cond (Nat.blt f 182) (cond (Nat.blt f 179) (cond (Nat.blt f 177) (cond (Nat.beq f 176) (some c176) none) (cond (Nat.blt f 178) (cond (Nat.beq f 177) (some c177) none) (cond (Nat.beq f 178) (some c178) none))) (cond (Nat.blt f 180) (cond (Nat.beq f 179) (some c179) none) (cond (Nat.blt f 181) (cond (Nat.beq f 180) (some c180) none) (cond (Nat.beq f 181) (some c181) none)))) (cond (Nat.blt f 190) (cond (Nat.blt f 183) (cond (Nat.beq f 182) (some c182) none) (cond (Nat.blt f 184) (cond (Nat.beq f 183) (some c183) none) (cond (Nat.beq f 184) (some c184) none))) (cond (Nat.blt f 191) (cond (Nat.beq f 190) (some c190) none) (cond (Nat.blt f 192) (cond (Nat.beq f 191) (some c191) none) (cond (Nat.beq f 192) (some c192) none))))))))
def prog : FuncId → Option RFunc := fun f => (cond (Nat.blt f 70) (cond (Nat.blt f 27) (cond (Nat.blt f 17) (cond (Nat.blt f 11) (cond (Nat.beq f 4) (some c4) none) (cond (Nat.blt f 16) (cond (Nat.beq f 11) (some ⟨0, .ext 3, []⟩) none) (cond (Nat.beq f 16) (some c16) none))) (cond (Nat.blt f 25) (cond (Nat.blt f 24) (cond (Nat.beq f 17) (some c17) none) (cond (Nat.beq f 24) (some c24) none)) (cond (Nat.blt f 26) (cond (Nat.beq f 25) (some c25) none) (cond (Nat.beq f 26) (some c26) none)))) (cond (Nat.blt f 63) (cond (Nat.blt f 29) (cond (Nat.blt f 28) (cond (Nat.beq f 27) (some c27) none) (cond (Nat.beq f 28) (some c28) none)) (cond (Nat.blt f 30) (cond (Nat.beq f 29) (some c29) none) (cond (Nat.beq f 30) (some c30) none))) (cond (Nat.blt f 68) (cond (Nat.blt f 64) (cond (Nat.beq f 63) (some c63) none) (cond (Nat.beq f 64) (some c64) none)) (cond (Nat.blt f 69) (cond (Nat.beq f 68) (some c68) none) (cond (Nat.beq f 69) (some c69) none))))) (cond (Nat.blt f 109) (cond (Nat.blt f 74) (cond (Nat.blt f 72) (cond (Nat.blt f 71) (cond (Nat.beq f 70) (some c70) none) (cond (Nat.beq f 71) (some c71) none)) (cond (Nat.blt f 73) (cond (Nat.beq f 72) (some c72) none) (cond (Nat.beq f 73) (some c73) none))) (cond (Nat.blt f 76) (cond (Nat.blt f 75) (cond (Nat.beq f 74) (some c74) none) (cond (Nat.beq f 75) (some c75) none)) (cond (Nat.blt f 77) (cond (Nat.beq f 76) (some c76) none) (cond (Nat.beq f 77) (some c77) none)))) (cond (Nat.blt f 118) (cond (Nat.blt f 116) (cond (Nat.blt f 114) (cond (Nat.beq f 109) (some c109) none) (cond (Nat.beq f 114) (some c114) none)) (cond (Nat.blt f 117) (cond (Nat.beq f 116) (some c116) none) (cond (Nat.beq f 117) (some c117) none))) (cond (Nat.blt f 120) (cond (Nat.blt f 119) (cond (Nat.beq f 118) (some c118) none) (cond (Nat.beq f 119) (some c119) none)) (cond (Nat.blt f 142) (cond (Nat.beq f 120) (some c120) none) (cond (Nat.beq f 142) (some c142) none))))))
end Go.Am

namespace Go.Am
open Go Go.RowKit
section
variable {P : Program} {S : Base} {m : RMap} {H H' : AHeap} {w : World}
theorem aBytesFn_some {f : List UInt8 → AVal} {e : Array Value → Sem Value} {bv : Value} (hstr : ∀ (s : ByteArray) (w : World), ∃ y, (e #[.string s, bv]).run P w = .ok y w ∧ emb m (f s.data.toList) = some y)
    (hnil : ∀ (l c : Nat) (w : World), ∃ y, (e #[.slice none l c, bv]).run P w = .ok y w ∧ emb m (f []) = some y)
    (hsl : ∀ (a : Addr) (n c : Nat) (xs : List Int) (w : World), xs.length = n → (∀ j x, xs[j]? = some x → w.cell? (a.add j) = some (.int .u8 x)) → ∃ y, (e #[.slice (some a) n c, bv]).run P w = .ok y w ∧ emb m (f (xs.map fun n => UInt8.ofNat n.toNat)) = some y)
    {av u : AVal} {x : Value} (ha : emb m av = some x) (h : HRel S m H w) (hx : aBytesFn f av H = some (u, H')) : ∃ y, (e #[x, bv]).run P w = .ok y w ∧ Out S m u H' y w := by
  cases av with
  | nslice =>
    obtain ⟨rfl, rfl⟩ := pure_some hx
    simp only [emb] at ha; cases ha
    obtain ⟨y, h1, h2⟩ := hnil 0 0 w
    exact ⟨y, h1, Out.same h h2⟩
  | str s =>
    obtain ⟨rfl, rfl⟩ := pure_some hx
    simp only [emb] at ha; cases ha
    obtain ⟨y, h1, h2⟩ := hstr s w
    exact ⟨y, h1, Out.same h h2⟩
  | slice r off len cap s =>
    obtain ⟨p, hp, rfl⟩ := emb_slice_some ha
    simp only [aBytesFn] at hx
    by_cases hs : s ≠ 1
    · rw [if_pos hs] at hx; exact (fail_some hx).elim
    · rw [if_neg hs] at hx
      obtain ⟨⟨cs, rw⟩, H1, h1, h2⟩ := bind_some hx
      obtain ⟨rfl, hr, e', hg⟩ := aRow_some h1
      simp only [] at h2
      by_cases hq : off + len ≤ cs.length
      · rw [if_pos hq] at h2
        cases hb : bytesOf ((cs.drop off).take len) with
        | none => rw [hb] at h2; exact (fail_some h2).elim
        | some l =>
          rw [hb] at h2
          obtain ⟨rfl, rfl⟩ := pure_some h2
          obtain ⟨ns, hns, rfl⟩ := bytesOf_some hb
          have hok := h.row r cs rw e' p hr hg hp
          have hlen : ns.length = len := by
            have h1 : ((cs.drop off).take len).length = len := by simp; omega
            rw [hns] at h1; simpa using h1
          obtain ⟨y, h3, h4⟩ := hsl (p.1.add off) len (capR cap ((p.2 - off) / s)) ns w hlen fun j b hj => by
            have hjn : j < len := by rw [← hlen]; exact (List.getElem?_eq_some_iff.1 hj).1
            have h1 : cs[off + j]? = some (.int .u8 b) := by
              have h2 : ((cs.drop off).take len)[j]? = some (.int .u8 b) := by rw [hns]; simp [hj]
              rw [List.getElem?_take_of_lt hjn, List.getElem?_drop] at h2; exact h2
            obtain ⟨y, h3, h4⟩ := hok.cell _ _ h1
            simp only [emb] at h3; cases h3
            rw [add_add]; exact h4
          exact ⟨y, h3, Out.same h h4⟩
      · rw [if_neg hq] at h2; exact (fail_some h2).elim
  | _ => exact (fail_some (H := H) hx).elim
theorem yields_extern {f : FuncId} {fn : Func} {e : Array Value → Sem Value} (hf : P.funcs[f]? = some fn) (hname : (fn.name == "runtime.NumGoroutine") = false)
    (hb : fn.body.isNone = true) (hn : Extern.findNext fn = none) (he : Extern.find fn = some e) {args : Array Value} {y : Value} {R : Value → World → Prop} (hr : (e args).run P w = .ok y w) (h : R y w) : Yields P (callFunc f args) w R := by
  unfold Yields
  rw [run_callFunc_extern hf hname hb hn he, hr]
  exact h
theorem sem_bind_of {α β : Type} {P : Program} {w : World} {x : Sem α} {f : α → Sem β} {a : α} {w' : World} {r : Result β} (h : x.run P w = .ok a w') (h2 : (x >>= f).run P w = r) : (f a).run P w' = r := by
  rw [← h2]
  simp [h]
theorem ext_count {ext : Exts} {k : Nat} (hk : ext k = aCount) {f : FuncId} {fn : Func} (hf : P.funcs[f]? = some fn) (hname : (fn.name == "runtime.NumGoroutine") = false)
    (hb : fn.body.isNone = true) (hn : Extern.findNext fn = none) (he : Extern.find fn = some Extern.BytealgCount.count) : ExtSim P ext f k := by
  intro S args H v H' m w vargs hG hx h ha
  rw [hk] at hx
  match args, hx, ha with
  | [x, .int .u8 b], hx, ha =>
    obtain ⟨y, ys, h1, h2, rfl⟩ := embL_cons ha
    obtain ⟨z, zs, h3, h4, rfl⟩ := embL_cons h2
    simp only [embL] at h4; cases h4
    simp only [emb] at h3; cases h3
    obtain ⟨q, h5, h6⟩ := aBytesFn_some (P := P) (e := Extern.BytealgCount.count) (bv := .int .u8 b) (f := fun l => .int .i64 (Lib.countByte l (UInt8.ofNat b.toNat)))
      (fun s w => ⟨_, Lib.run_countString s b w, by simp [emb] <;> rfl⟩)
      (fun l c w => ⟨_, Lib.run_countString .empty b w, by simp [emb] <;> rfl⟩)
      (fun a n c xs w hl hc => by
        have hload := Lib.run_loadBytesX (P := P) w xs a .empty hc
        rw [hl] at hload
        have hs := Lib.run_countString (P := P) ⟨(Lib.bytesOf xs).toArray⟩ b w
        have he : (⟨ByteArray.empty.data ++ (Lib.bytesOf xs).toArray⟩ : ByteArray) = ⟨(Lib.bytesOf xs).toArray⟩ := by
          apply ByteArray.ext
          show (#[] : Array UInt8) ++ (Lib.bytesOf xs).toArray = (Lib.bytesOf xs).toArray
          simp
        rw [he] at hload
        refine ⟨.int .i64 (Lib.countByte (Lib.bytesOf xs) b.toNat.toUInt8), ?_, by simp [emb] <;> rfl⟩
        have hb1 : (Extern.Bytes.bytesOf (.slice (some a) n c)).run P w = .ok ⟨(Lib.bytesOf xs).toArray⟩ w := by simpa [Extern.Bytes.bytesOf] using hload
        have hb2 : (Extern.Bytes.bytesOf (.string ⟨(Lib.bytesOf xs).toArray⟩)).run P w = .ok ⟨(Lib.bytesOf xs).toArray⟩ w := by simp [Extern.Bytes.bytesOf]
        refine sem_bind_ok hb1 ?_
        have hs2 := sem_bind_of hb2 hs
        exact hs2) h1 h hx
    exact yields_extern hf hname hb hn he h5 h6
theorem ext_indexByte {ext : Exts} {k : Nat} (hk : ext k = aIndexByte) {f : FuncId} {fn : Func} (hf : P.funcs[f]? = some fn) (hname : (fn.name == "runtime.NumGoroutine") = false)
    (hb : fn.body.isNone = true) (hn : Extern.findNext fn = none) (he : Extern.find fn = some Extern.BytealgIndexByte.indexByte) : ExtSim P ext f k := by
  intro S args H v H' m w vargs hG hx h ha
  rw [hk] at hx
  match args, hx, ha with
  | [x, .int .u8 b], hx, ha =>
    obtain ⟨y, ys, h1, h2, rfl⟩ := embL_cons ha
    obtain ⟨z, zs, h3, h4, rfl⟩ := embL_cons h2
    simp only [embL] at h4; cases h4
    simp only [emb] at h3; cases h3
    obtain ⟨q, h5, h6⟩ := aBytesFn_some (P := P) (e := Extern.BytealgIndexByte.indexByte) (bv := .int .u8 b) (f := fun l => .int .i64 (Lib.indexByte l (UInt8.ofNat b.toNat)))
      (fun s w => ⟨_, Lib.run_indexByteString s b w, by simp [emb] <;> rfl⟩)
      (fun l c w => ⟨_, Lib.run_indexByteNil w l c b, by simp [emb] <;> rfl⟩)
      (fun a n c xs w hl hc => by
        have hload := Lib.run_loadBytesX (P := P) w xs a .empty hc
        rw [hl] at hload
        have hs := Lib.run_indexByteString (P := P) ⟨(Lib.bytesOf xs).toArray⟩ b w
        have he : (⟨ByteArray.empty.data ++ (Lib.bytesOf xs).toArray⟩ : ByteArray) = ⟨(Lib.bytesOf xs).toArray⟩ := by
          apply ByteArray.ext
          show (#[] : Array UInt8) ++ (Lib.bytesOf xs).toArray = (Lib.bytesOf xs).toArray
          simp
        rw [he] at hload
        refine ⟨.int .i64 (Lib.indexByte (Lib.bytesOf xs) b.toNat.toUInt8), ?_, by simp [emb] <;> rfl⟩
        have hb1 : (Extern.Bytes.bytesOf (.slice (some a) n c)).run P w = .ok ⟨(Lib.bytesOf xs).toArray⟩ w := by simpa [Extern.Bytes.bytesOf] using hload
        have hb2 : (Extern.Bytes.bytesOf (.string ⟨(Lib.bytesOf xs).toArray⟩)).run P w = .ok ⟨(Lib.bytesOf xs).toArray⟩ w := by simp [Extern.Bytes.bytesOf]
        refine sem_bind_ok hb1 ?_
        have hs2 := sem_bind_of hb2 hs
        exact hs2) h1 h hx
    exact yields_extern hf hname hb hn he h5 h6
theorem ext_self {ext : Exts} {k : Nat} (hk : ext k = aSelf) {f : FuncId} {fn : Func} (hf : P.funcs[f]? = some fn) (hname : (fn.name == "runtime.NumGoroutine") = false)
    (hb : fn.body.isNone = true) (hn : Extern.findNext fn = none) (he : Extern.find fn = some Extern.AbiNoEscape.same) : ExtSim P ext f k := by
  intro S args H v H' m w vargs hG hx h ha
  rw [hk] at hx
  match args, hx, ha with
  | [x], hx, ha =>
    obtain ⟨y, ys, h1, h2, rfl⟩ := embL_cons ha
    simp only [embL] at h2; cases h2
    obtain ⟨rfl, rfl⟩ := pure_some hx
    have hr : (Extern.AbiNoEscape.same #[y]).run P w = .ok y w := by
      have : Extern.AbiNoEscape.same #[y] = pure y := rfl
      rw [this]; simp
    exact yields_extern hf hname hb hn he hr (Out.same h h1)
end
end Go.Am

set_option linter.unusedVariables false
namespace Go.Am
open Go
noncomputable def fA : AVal → AVal := @AVal.rec (fun _ => AVal) (fun _ => PUnit) AVal.bool AVal.int AVal.str AVal.nptr AVal.ptr AVal.nslice AVal.slice AVal.nfunc (fun f a b _ _ => AVal.func f a b) AVal.niface (fun t v _ => AVal.iface t v) (fun l _ => AVal.agg l) (fun l _ => AVal.tuple l) AVal.yield AVal.eslice AVal.map AVal.nmap PUnit.unit (fun _ _ _ _ => PUnit.unit)
theorem fA_eq (v : AVal) : fA v = v := by cases v <;> rfl
noncomputable def fO : AObj → AObj := @AObj.rec (fun _ => AObj) AObj.dead AObj.row AObj.iter AObj.loop AObj.mapo
theorem fO_eq (v : AObj) : fO v = v := by cases v <;> rfl
noncomputable def hF (H : AHeap) : AHeap := ⟨Nat.add H.n 0, fun i => fO (H.get i)⟩
theorem hF_eq (H : AHeap) : hF H = H := by simp only [hF, fO_eq]; rfl
noncomputable def xl (fr : AFrame) (d : Nat) (v : AVal) : AFrame := fun i => @Bool.rec (fun _ => AVal) (fA (fr i)) v (Nat.beq i d)
theorem xl_eq (fr : AFrame) (d : Nat) (v : AVal) : xl fr d v = upd fr d v := by
  funext i
  unfold xl upd
  rw [fA_eq]
  cases Nat.beq i d <;> rfl
noncomputable def xput (fr : AFrame) (d : Option Nat) (v : AVal) : AFrame := @Option.rec Nat (fun _ => AFrame) fr (fun d => xl fr d v) d
theorem xput_eq (fr : AFrame) (d : Option Nat) (v : AVal) : xput fr d v = put fr d v := by
  cases d with
  | none => rfl
  | some d => exact xl_eq fr d v
noncomputable def xev (fr : AFrame) (x : ROpd) : AVal := @ROpd.rec (fun _ => AVal) (fun t => fr t) (fun v => v) x
theorem xev_eq (fr : AFrame) (x : ROpd) : xev fr x = x.ev fr := by cases x <;> rfl
noncomputable def xwant (o : ROper) (fr : AFrame) : Bool := @Option.rec (Nat × Bool) (fun _ => Bool) true (fun g => match fr g.1 with | .bool b => (match g.2 with | true => b | false => !b) | _ => false) o.guard
theorem xwant_eq (o : ROper) (fr : AFrame) : xwant o fr = o.wanted fr := by
  unfold xwant ROper.wanted
  cases o.guard with
  | none => rfl
  | some g => rfl
noncomputable def xW (r : Option (AVal × AHeap)) : Option (AVal × AHeap) := match r with | some (v, H) => some (v, hF H) | none => none
theorem xW_eq (r : Option (AVal × AHeap)) : xW r = r := by
  cases r with
  | none => rfl
  | some p => simp only [xW, hF_eq]
abbrev XF := ACall → AFrame → AHeap → Option (AVal × AHeap)
noncomputable def x_mov : ROpd → XF := fun x _ fr H => some (xev fr x, H)
noncomputable def x_pick : ROpd → ROpd → ROpd → XF := fun c a b _ fr H => match xev fr c with | .bool t => some (match t with | true => xev fr a | false => xev fr b, H) | _ => none
noncomputable def x_new : TypeId → (List AVal) → XF := fun e cs _ _ H => some (.ptr H.n 0, hF (H.push (.row cs true (2 * e))))
noncomputable def x_box : TypeId → ROpd → XF := fun e x _ fr H => some (.ptr H.n 0, hF (H.push (.row (xev fr x).cells true (2 * e))))
noncomputable def x_build : (List AVal) → (List (Nat × Nat × ROpd)) → XF := fun x0 x1 call fr H => ROp.exec call fr (ROp.build x0 x1) H
noncomputable def x_buildSlice : TypeId → Nat → Nat → (List AVal) → (List (Nat × Nat × ROpd)) → XF := fun x0 x1 x2 x3 x4 call fr H => xW (ROp.exec call fr (ROp.buildSlice x0 x1 x2 x3 x4) H)
noncomputable def x_load : (Option Nat) → ROpd → XF := fun g a _ fr H => aLoad g (xev fr a) H
noncomputable def x_store : Nat → ROpd → ROpd → XF := fun n a x _ fr H => xW (aStore n (xev fr a) (xev fr x) H)
noncomputable def x_nilCheck : ROpd → XF := fun x0 call fr H => ROp.exec call fr (ROp.nilCheck x0) H
noncomputable def x_bin : BinOp → ROpd → ROpd → XF := fun op x y _ fr H => M.ofOption (aBin op (xev fr x) (xev fr y)) H
noncomputable def x_eq : Bool → EqDesc → ROpd → ROpd → XF := fun x0 x1 x2 x3 call fr H => ROp.exec call fr (ROp.eq x0 x1 x2 x3) H
noncomputable def x_un : UnOp → ROpd → XF := fun x0 x1 call fr H => ROp.exec call fr (ROp.un x0 x1) H
noncomputable def x_convInt : IntKind → ROpd → XF := fun x0 x1 call fr H => ROp.exec call fr (ROp.convInt x0 x1) H
noncomputable def x_mkIface : TypeId → ROpd → XF := fun x0 x1 call fr H => ROp.exec call fr (ROp.mkIface x0 x1) H
noncomputable def x_mkFunc : Fn → (List ROpd) → (List ROpd) → XF := fun fn first caps _ fr H => some (.func fn (first.map (·.ev fr)) (caps.map (·.ev fr)), H)
noncomputable def x_makeSlice : TypeId → (List AVal) → Nat → ROpd → ROpd → XF := fun x0 x1 x2 x3 x4 call fr H => xW (ROp.exec call fr (ROp.makeSlice x0 x1 x2 x3 x4) H)
noncomputable def x_sliceS : Nat → ROpd → (Option ROpd) → (Option ROpd) → (Option ROpd) → XF := fun sz x lo hi mx _ fr H => aSliceS sz (xev fr x) (lo.map (·.ev fr)) (hi.map (·.ev fr)) (mx.map (·.ev fr)) H
noncomputable def x_sliceStr : ROpd → (Option ROpd) → (Option ROpd) → XF := fun x0 x1 x2 call fr H => ROp.exec call fr (ROp.sliceStr x0 x1 x2) H
noncomputable def x_sliceArr : Nat → Nat → ROpd → (Option ROpd) → (Option ROpd) → (Option ROpd) → XF := fun x0 x1 x2 x3 x4 x5 call fr H => ROp.exec call fr (ROp.sliceArr x0 x1 x2 x3 x4 x5) H
noncomputable def x_fieldAddr : Nat → ROpd → XF := fun off x _ fr H => M.ofOption (aFieldAddr off (xev fr x)) H
noncomputable def x_field : (Option Nat) → Nat → ROpd → XF := fun x0 x1 x2 call fr H => ROp.exec call fr (ROp.field x0 x1 x2) H
noncomputable def x_idxS : Nat → ROpd → ROpd → XF := fun sz x i _ fr H => M.ofOption (aIdxS sz (xev fr x) (xev fr i)) H
noncomputable def x_idxA : Nat → Nat → ROpd → ROpd → XF := fun x0 x1 x2 x3 call fr H => ROp.exec call fr (ROp.idxA x0 x1 x2 x3) H
noncomputable def x_indexA : Nat → Nat → Bool → ROpd → ROpd → XF := fun x0 x1 x2 x3 x4 call fr H => ROp.exec call fr (ROp.indexA x0 x1 x2 x3 x4) H
noncomputable def x_indexStr : ROpd → ROpd → XF := fun x0 x1 call fr H => ROp.exec call fr (ROp.indexStr x0 x1) H
noncomputable def x_rangeStr : ROpd → XF := fun x0 call fr H => ROp.exec call fr (ROp.rangeStr x0) H
noncomputable def x_nextStr : ROpd → XF := fun x0 call fr H => ROp.exec call fr (ROp.nextStr x0) H
noncomputable def x_extract : ROpd → Nat → XF := fun x i _ fr H => M.ofOption (aExtract i (xev fr x)) H
noncomputable def x_call : ROpd → (List ROpd) → XF := fun f args call fr H => aCallV call (xev fr f) (args.map (·.ev fr)) H
noncomputable def x_lenS : ROpd → XF := fun x _ fr H => M.ofOption (aLenS (xev fr x)) H
noncomputable def x_lenStr : ROpd → XF := fun x0 call fr H => ROp.exec call fr (ROp.lenStr x0) H
noncomputable def x_lenA : Nat → XF := fun x0 call fr H => ROp.exec call fr (ROp.lenA x0) H
noncomputable def x_capS : ROpd → XF := fun x0 call fr H => ROp.exec call fr (ROp.capS x0) H
noncomputable def x_appendZ : TypeId → Nat → Nat → (List AVal) → ROpd → ROpd → XF := fun x0 x1 x2 x3 x4 x5 call fr H => xW (ROp.exec call fr (ROp.appendZ x0 x1 x2 x3 x4 x5) H)
noncomputable def x_append : TypeId → Nat → Nat → ROpd → ROpd → XF := fun e sz bytes x y _ fr H => xW (aAppend e sz bytes (xev fr x) (xev fr y) H)
noncomputable def x_copy : Nat → ROpd → ROpd → XF := fun x0 x1 x2 call fr H => xW (ROp.exec call fr (ROp.copy x0 x1 x2) H)
noncomputable def x_minmax : Bool → (List ROpd) → XF := fun b xs _ fr H => (match xs with | [] => M.fail | x :: rest => M.ofOption (aMinMax b (xev fr x) (rest.map (fun y => ROpd.ev fr y)))) H
noncomputable def x_bytesToStr : ROpd → XF := fun x0 call fr H => xW (ROp.exec call fr (ROp.bytesToStr x0) H)
noncomputable def x_strToBytes : TypeId → ROpd → XF := fun x0 x1 call fr H => xW (ROp.exec call fr (ROp.strToBytes x0 x1) H)
noncomputable def x_uptr : TypeId → Nat → ROpd → XF := fun x0 x1 x2 call fr H => xW (ROp.exec call fr (ROp.uptr x0 x1 x2) H)
noncomputable def x_sliceData : Nat → ROpd → XF := fun x0 x1 call fr H => xW (ROp.exec call fr (ROp.sliceData x0 x1) H)
noncomputable def x_unsafeStr : TypeId → ROpd → ROpd → XF := fun x0 x1 x2 call fr H => xW (ROp.exec call fr (ROp.unsafeStr x0 x1 x2) H)
noncomputable def x_lookup : EqDesc → AVal → Bool → ROpd → ROpd → XF := fun x0 x1 x2 x3 x4 call fr H => ROp.exec call fr (ROp.lookup x0 x1 x2 x3 x4) H
noncomputable def x_mapLit : (List (AVal × AVal)) → XF := fun x0 call fr H => ROp.exec call fr (ROp.mapLit x0) H
noncomputable def x_mapSet : EqDesc → ROpd → ROpd → ROpd → XF := fun x0 x1 x2 x3 call fr H => ROp.exec call fr (ROp.mapSet x0 x1 x2 x3) H
noncomputable def x_lenM : ROpd → XF := fun x0 call fr H => ROp.exec call fr (ROp.lenM x0) H
noncomputable def xOp : ROp → XF := @ROp.rec (fun _ => XF) x_mov x_pick x_new x_box x_build x_buildSlice x_load x_store x_nilCheck x_bin x_eq x_un x_convInt x_mkIface x_mkFunc x_makeSlice x_sliceS x_sliceStr x_sliceArr x_fieldAddr x_field x_idxS x_idxA x_indexA x_indexStr x_rangeStr x_nextStr x_extract x_call x_lenS x_lenStr x_lenA x_capS x_appendZ x_append x_copy x_minmax x_bytesToStr x_strToBytes x_uptr x_sliceData x_unsafeStr x_lookup x_mapLit x_mapSet x_lenM
theorem xOp_eq (op : ROp) (call : ACall) (fr : AFrame) (H : AHeap) : xOp op call fr H = op.exec call fr H := by
  cases op
  case pick c a b =>
    show x_pick c a b call fr H = _
    simp only [x_pick, xev_eq, ROp.exec]
    cases c.ev fr <;> rfl
  all_goals first
    | rfl
    | exact xW_eq _
    | (unfold xOp; simp only [x_mov, x_new, x_box, x_load, x_store, x_bin, x_fieldAddr, x_idxS, x_extract, x_call, x_lenS, x_sliceS, x_append, x_minmax, xev_eq, hF_eq, xW_eq]; rfl)
abbrev XO := ACall → AFrame → AHeap → Option (AFrame × AHeap)
def xNil : XO := fun _ fr H => some (fr, H)
noncomputable def xCons (o : ROper) (_ : List ROper) (ih : XO) : XO := fun call fr H => @Bool.rec (fun _ => Option (AFrame × AHeap)) (ih call (xput fr o.dst aundef) H)
  (@Option.rec (AVal × AHeap) (fun _ => Option (AFrame × AHeap)) none (fun p => @Prod.rec AVal AHeap (fun _ => Option (AFrame × AHeap)) (fun v H' => @Option.rec Nat (fun _ => Option (AFrame × AHeap)) (ih call fr H') (fun d => ih call (xl fr d v) H') o.dst) p) (xOp o.op call fr H)) (xwant o fr)
noncomputable def xOps : List ROper → XO := @List.rec ROper (fun _ => XO) xNil xCons
theorem xOps_eq (call : ACall) : ∀ (os : List ROper) (fr : AFrame) (H : AHeap), xOps os call fr H = execOps call os fr H := by
  intro os
  induction os with
  | nil => intro fr H; rfl
  | cons o os ih =>
    intro fr H
    show xCons o os (xOps os) call fr H = _
    unfold xCons execOps
    rw [xwant_eq, xOp_eq]
    cases o.wanted fr with
    | false => rw [xput_eq]; exact ih _ _
    | true =>
      simp only [M.bind]
      cases o.op.exec call fr H with
      | none => rfl
      | some r =>
        obtain ⟨v, H'⟩ := r
        simp only
        rw [← ih]
        cases o.dst with
        | none => rfl
        | some d =>
          show xOps os call (xl fr d v) H' = _
          rw [xl_eq]
          rfl
abbrev XT := Nat → ACall → AFrame → AHeap → Option (List DRec × AFrame × AHeap)
noncomputable def xLook (fr : AFrame) (op : ROp) (H : AHeap) : Option AVal :=
  match xOp op noCall fr H with
  | some (v, H1) => match Nat.beq H1.n H.n with
    | true => some v
    | false => match op with
      | .sliceS sz x lo hi mx => aSliceE sz (x.ev fr) (lo.map (·.ev fr)) (hi.map (·.ev fr)) (mx.map (·.ev fr))
      | _ => none
  | none => none
theorem xLook_eq (fr : AFrame) (op : ROp) (H : AHeap) : xLook fr op H = op.look fr H := by
  unfold xLook ROp.look
  rw [xOp_eq]
  rfl
noncomputable def xStep (call : ACall) (it : DItem) (ref : Nat) (fr : AFrame) (H : AHeap) : Option (AVal × Bool × AHeap) :=
  match Nat.beq it.cls 2 with
  | true => match xOp it.o.op call fr H with
    | some (v, H1) => some (v, true, H1)
    | none => none
  | false => match Nat.beq it.cls 3 with
    | true => match it.o.op.made fr with
      | some (cs, e, k) => match ghostIs H ref cs e with | true => some (k ref, false, H) | false => none
      | none => none
    | false => match xLook fr it.o.op H with
      | some v => some (v, false, H)
      | none => none
theorem xStep_eq (call : ACall) (it : DItem) (ref : Nat) (fr : AFrame) (H : AHeap) : xStep call it ref fr H = dstep call it ref fr H := by
  unfold xStep dstep
  rw [xOp_eq, xLook_eq]
  rfl
def xTNil : XT := fun _ _ fr H => some ([], fr, H)
noncomputable def xTCons (it : DItem) (_ : List DItem) (ih : XT) : XT := fun ref call fr H =>
    match it.o.wanted fr with
    | false => match ih (nextRef it.cls ref) call (xput fr it.o.dst aundef) H with
      | some (R, fr', H') => some (⟨it.o, it.b, it.cls, fr, aundef, false, false, H, ref⟩ :: R, fr', H')
      | none => none
    | true => match xStep call it ref fr H with
      | none => none
      | some (v, eff, H1) => match ih (nextRef it.cls ref) call (xput fr it.o.dst v) H1 with
        | some (R, fr', H') => some (⟨it.o, it.b, it.cls, fr, v, true, eff, H1, ref⟩ :: R, fr', H')
        | none => none
noncomputable def xText : List DItem → XT := @List.rec DItem (fun _ => XT) xTNil xTCons
theorem xText_eq (call : ACall) : ∀ (its : List DItem) (ref : Nat) (fr : AFrame) (H : AHeap), xText its ref call fr H = dtext call its ref fr H := by
  intro its
  induction its with
  | nil => intro ref fr H; rfl
  | cons it its ih =>
    intro ref fr H
    show xTCons it its (xText its) ref call fr H = _
    unfold xTCons dtext
    simp only [xput_eq]
    cases it.o.wanted fr with
    | false => simp only [ih]; rfl
    | true =>
      simp only [xStep_eq]
      cases dstep call it ref fr H with
      | none => rfl
      | some r => simp only [ih]; rfl
noncomputable def xOkAt (r : DRec) (H : AHeap) : Bool :=
  match Nat.beq r.cls 3 with
  | true => match r.o.op.made r.fr with
    | some (cs, e, _) => ghostIs H r.ref cs e
    | none => false
  | false => match xLook r.fr r.o.op H with
    | some v => abeq v r.v
    | none => false
theorem xOkAt_eq (r : DRec) (H : AHeap) : xOkAt r H = r.okAt H := by
  unfold xOkAt DRec.okAt
  rw [xLook_eq]
  rfl
noncomputable def xChk (r : DRec) (k : Nat) : List DRec → Nat → AHeap → Bool → Bool := @List.rec DRec (fun _ => Nat → AHeap → Bool → Bool)
  (fun _ cur may => match may with | true => xOkAt r cur | false => true)
  (fun e _ ih i cur may => match e.eff with
    | false => ih (i + 1) cur may
    | true => match may with
      | false => ih (i + 1) e.hp (!(e.b.testBit k))
      | true => match r.b.testBit i with
        | true => ih (i + 1) e.hp (!(e.b.testBit k))
        | false => match xOkAt r cur with
          | true => ih (i + 1) e.hp (!(e.b.testBit k))
          | false => false)
theorem xChk_eq (r : DRec) (k : Nat) : ∀ (es : List DRec) (i : Nat) (cur : AHeap) (may : Bool), xChk r k es i cur may = r.chk k es i cur may := by
  intro es
  induction es with
  | nil =>
    intro i cur may
    cases may
    · rfl
    · show xOkAt r cur = (false || r.okAt cur)
      rw [xOkAt_eq]; rfl
  | cons e es ih =>
    intro i cur may
    unfold DRec.chk
    show (match e.eff with
    | false => xChk r k es (i + 1) cur may
    | true => match may with
      | false => xChk r k es (i + 1) e.hp (!(e.b.testBit k))
      | true => match r.b.testBit i with
        | true => xChk r k es (i + 1) e.hp (!(e.b.testBit k))
        | false => match xOkAt r cur with
          | true => xChk r k es (i + 1) e.hp (!(e.b.testBit k))
          | false => false) = _
    cases e.eff with
    | false => exact ih _ _ _
    | true =>
      simp only [ih, xOkAt_eq]
      cases may <;> cases r.b.testBit i <;> cases r.okAt cur <;> simp
noncomputable def xCheck (R : List DRec) (H0 : AHeap) : List DRec → Nat → Bool := @List.rec DRec (fun _ => Nat → Bool)
  (fun _ => true)
  (fun r _ ih k => match r.want with
    | false => ih (k + 1)
    | true => match Nat.beq r.cls 1 with
      | true => (match xChk r k R 0 H0 true with | true => ih (k + 1) | false => false)
      | false => match Nat.beq r.cls 3 with
        | true => (match xChk r k R 0 H0 true with | true => ih (k + 1) | false => false)
        | false => ih (k + 1))
theorem xCheck_eq (R : List DRec) (H0 : AHeap) : ∀ (rs : List DRec) (k : Nat), xCheck R H0 rs k = dcheck R H0 rs k := by
  intro rs
  induction rs with
  | nil => intro k; rfl
  | cons r rs ih =>
    intro k
    unfold dcheck
    show (match r.want with
    | false => xCheck R H0 rs (k + 1)
    | true => match Nat.beq r.cls 1 with
      | true => (match xChk r k R 0 H0 true with | true => xCheck R H0 rs (k + 1) | false => false)
      | false => match Nat.beq r.cls 3 with
        | true => (match xChk r k R 0 H0 true with | true => xCheck R H0 rs (k + 1) | false => false)
        | false => xCheck R H0 rs (k + 1)) = _
    simp only [ih, xChk_eq]
    cases r.want <;> cases Nat.beq r.cls 1 <;> cases Nat.beq r.cls 3 <;> simp <;> cases r.chk k R 0 H0 true <;> rfl
abbrev XC := ACall → Nat → AFrame → AHeap → Option ((RExit × AFrame) × AHeap)
def xSkip : XC := fun _ _ fr H => some ((.normal, fr), H)
noncomputable def xRegion (ops : List ROper) : XC := fun call _ fr H => match xOps ops call fr H with
  | some (fr', H') => some ((.normal, fr'), H')
  | none => none
noncomputable def xDregion (ops : List DItem) : XC := fun call _ fr H => match xText ops H.n call fr (hF (pushAll H (oracle ops H.n fr H))) with
  | some (R, fr', H') => match xCheck R (hF (pushAll H (oracle ops H.n fr H))) R 0 with | true => some ((.normal, fr'), H') | false => none
  | none => none
noncomputable def xSeq (_ _ : RCode) (a b : XC) : XC := fun call lf fr H => @Option.rec ((RExit × AFrame) × AHeap) (fun _ => Option ((RExit × AFrame) × AHeap)) none
  (fun p => @Prod.rec (RExit × AFrame) AHeap (fun _ => Option ((RExit × AFrame) × AHeap)) (fun y H' => @Prod.rec RExit AFrame (fun _ => Option ((RExit × AFrame) × AHeap)) (fun x fr' => match x with
    | .normal => b call lf fr' H'
    | e => some ((e, fr'), H')) y) p) (a call lf fr H)
noncomputable def xCond (c : ROpd) (_ _ : RCode) (t e : XC) : XC := fun call lf fr H => match xev fr c with
  | .bool b => match b with | true => t call lf fr H | false => e call lf fr H
  | _ => none
def xBlock (id : Nat) (_ : RCode) (b : XC) : XC := fun call lf fr H => match b call lf fr H with
  | some ((x, fr'), H') => match x with
    | .exit id' => match Nat.beq id' id with | true => some ((.normal, fr'), H') | false => some ((.exit id', fr'), H')
    | e => some ((e, fr'), H')
  | none => none
noncomputable def xLoopN (body : AFrame → AHeap → Option ((RExit × AFrame) × AHeap)) : Nat → AFrame → AHeap → Option ((RExit × AFrame) × AHeap) := @Nat.rec (fun _ => AFrame → AHeap → Option ((RExit × AFrame) × AHeap))
  (fun _ _ => none)
  (fun _ ih fr H => match body fr H with
    | some ((x, fr'), H') => match x with
      | .normal => ih fr' H'
      | e => some ((e, fr'), H')
    | none => none)
noncomputable def xLoop (_ : RCode) (b : XC) : XC := fun call lf fr H => xLoopN (b call lf) lf fr H
def xScope (_ : RCode) (b : XC) : XC := b
def xExit (id : Nat) : XC := fun _ _ fr H => some ((.exit id, fr), H)
def xRet : XC := fun _ _ fr H => some ((.ret, fr), H)
def xFail : XC := fun _ _ _ _ => none
noncomputable def xRange (fns : List FuncId) (nt : Nat) (g : ROpd) (ps : List Nat) (a b : RCode) (_ _ : XC) : XC := fun call _ fr H => match g.ev fr, fr nt with
    | .func (.func gf) fi ca, .tuple vs => match fns.contains gf with
      | true => match call gf (fi ++ [.yield (H.n + 1)] ++ ca) (hF ((H.push .dead).push (.loop ⟨H.n, nt, fr, ps, a, b, 0, .normal⟩))) with
        | some (_, H2) => match H2.get (H.n + 1) with
          | .loop R => match Nat.beq R.st 1 || Nat.beq R.st 4 with
            | false => some ((R.pend, upd fr nt (.tuple (.ptr H.n (H.n + 1) :: vs))), hF <| H2.set (H.n + 1) (.loop { R with st := 3 }))
            | true => none
          | _ => none
        | none => none
      | false => none
    | _, _ => none
noncomputable def xCode : RCode → XC := @RCode.rec (fun _ => XC) xSkip xRegion xDregion xSeq xCond xBlock xLoop xScope xSkip xExit xRet xFail xRange
noncomputable def xRun (ext : Exts) (call : ACall) (lf : Nat) (fn : RFunc) (args : List AVal) (H : AHeap) : Option (AVal × AHeap) :=
  match fn.body with
  | .ext name => ext name args H
  | .code c => match Nat.blt fn.nt args.length with
    | true => none
    | false => match xCode c call lf (argFrame args) H with
      | some ((x, fr), H1) => match x with
        | .exit _ => none
        | _ => match getAll fr fn.results H1 with
          | some (vs, H2) => some (aResult vs, H2)
          | none => none
      | none => none
  | .ranges c => match Nat.blt fn.nt args.length with
    | true => none
    | false => match xCode c call lf (argFrame args) H with
      | some ((x, fr), H1) => match x with
        | .exit _ => none
        | _ => match takeMarks (marksOf (fr fn.nt)) H1 with
          | some (_, H2) => match getAll fr fn.results H2 with
            | some (vs, H3) => some (aResult vs, H3)
            | none => none
          | none => none
      | none => none
noncomputable def xRound (call : ACall) (lf : Nat) (r : Nat) (args : List AVal) (H : AHeap) : Option (AVal × AHeap) :=
  match Nat.blt r H.n, H.get r with
  | true, .loop R => match Nat.beq args.length R.ps.length && R.ps.all (fun t => Nat.blt t R.nt) with
    | true => match xCode R.assign call lf (setAll R.fr (R.ps.zip args)) H with
      | some ((.normal, fr1), H1) => match H1.get r with
        | .loop R1 => match Nat.beq R1.st 0 with
          | true => match xCode R.body call lf fr1 (hF (H1.set r (.loop { R1 with st := 1 }))) with
            | some ((x, _), H2) => match H2.get r with
              | .loop R2 => match Nat.beq R2.st 1 with
                | true => some (.bool (match x with | .normal => true | _ => false), hF <| H2.set r (.loop { R2 with st := (match x with | .normal => 0 | _ => 2), pend := x }))
                | false => none
              | _ => none
            | none => none
          | false => none
        | _ => none
      | _ => none
    | false => none
  | _, _ => none
noncomputable def xCallN (ext : Exts) (prog : FuncId → Option RFunc) : Nat → ACall := @Nat.rec (fun _ => ACall) (fun _ _ _ => none)
  (fun n ih f args H => match prog f with
    | some fn => xRun ext ih n fn args H
    | none => match Nat.beq f yieldId, args with
      | true, .yield r :: as1 => xRound ih n r as1 H
      | _, _ => none)
theorem xLoopN_eq (body : AFrame → M (RExit × AFrame)) : ∀ (n : Nat) (fr : AFrame) (H : AHeap), xLoopN body n fr H = loopN body n fr H := by
  intro n
  induction n with
  | zero => intro fr H; rfl
  | succ n ih =>
    intro fr H
    show (match body fr H with
    | some ((x, fr'), H') => match x with
      | .normal => xLoopN body n fr' H'
      | e => some ((e, fr'), H')
    | none => none) = _
    simp only [loopN, M.bind]
    cases body fr H with
    | none => rfl
    | some r =>
      obtain ⟨⟨x, fr'⟩, H'⟩ := r
      cases x with
      | normal => exact ih _ _
      | _ => rfl
theorem xCode_eq (call : ACall) (lf : Nat) : ∀ (c : RCode) (fr : AFrame) (H : AHeap), xCode c call lf fr H = c.exec call lf fr H := by
  intro c
  induction c with
  | skip => intro fr H; rfl
  | label => intro fr H; rfl
  | exit id => intro fr H; rfl
  | ret => intro fr H; rfl
  | fail => intro fr H; rfl
  | region ops =>
    intro fr H
    show xRegion ops call lf fr H = _
    simp only [xRegion, xOps_eq, RCode.exec, M.bind]
    cases execOps call ops fr H <;> rfl
  | dregion ops =>
    intro fr H
    show xDregion ops call lf fr H = _
    simp only [xDregion, hF_eq, xText_eq, xCheck_eq, RCode.exec]
    rfl
  | seq a b iha ihb =>
    intro fr H
    show xSeq a b (xCode a) (xCode b) call lf fr H = _
    simp only [xSeq, iha, RCode.exec, M.bind]
    cases a.exec call lf fr H with
    | none => rfl
    | some r =>
      obtain ⟨⟨x, fr'⟩, H'⟩ := r
      cases x with
      | normal => exact ihb _ _
      | _ => rfl
  | cond c t e iht ihe =>
    intro fr H
    show xCond c t e (xCode t) (xCode e) call lf fr H = _
    simp only [xCond, xev_eq, iht, ihe, RCode.exec]
    cases c.ev fr with
    | bool b => cases b <;> rfl
    | _ => rfl
  | block id b ih =>
    intro fr H
    show xBlock id b (xCode b) call lf fr H = _
    simp only [xBlock, ih, RCode.exec, M.bind]
    cases b.exec call lf fr H with
    | none => rfl
    | some r =>
      obtain ⟨⟨x, fr'⟩, H'⟩ := r
      cases x with
      | exit id' => simp only; cases Nat.beq id' id <;> rfl
      | _ => rfl
  | loop b ih =>
    intro fr H
    show xLoopN (xCode b call lf) lf fr H = _
    rw [show xCode b call lf = b.exec call lf from funext fun fr => funext fun H => ih fr H, xLoopN_eq]
    rfl
  | scope b ih => intro fr H; exact ih fr H
  | rangeFunc fns nt g ps a b _ _ =>
    intro fr H
    show xRange fns nt g ps a b (xCode a) (xCode b) call lf fr H = _
    simp only [xRange, hF_eq, RCode.exec]
    rfl
theorem xRun_eq (ext : Exts) (call : ACall) (lf : Nat) (fn : RFunc) (args : List AVal) (H : AHeap) : xRun ext call lf fn args H = fn.run ext call lf args H := by
  unfold xRun RFunc.run
  cases fn.body with
  | ext name => rfl
  | code c =>
    simp only [xCode_eq]
    cases e : Nat.blt fn.nt args.length with
    | true =>
      have h : fn.nt < args.length := by rw [← Nat.blt_eq]; exact e
      rw [if_pos h]; rfl
    | false =>
      have h : ¬ fn.nt < args.length := by rw [← Nat.blt_eq, e]; exact Bool.noConfusion
      rw [if_neg h]
      simp only [M.bind]
      cases c.exec call lf (argFrame args) H with
      | none => rfl
      | some r =>
        obtain ⟨⟨x, fr⟩, H1⟩ := r
        cases x <;> first
          | rfl
          | (simp only [M.bind]; cases getAll fr fn.results H1 <;> rfl)
  | ranges c =>
    simp only [xCode_eq]
    cases e : Nat.blt fn.nt args.length with
    | true =>
      have h : fn.nt < args.length := by rw [← Nat.blt_eq]; exact e
      rw [if_pos h]; rfl
    | false =>
      have h : ¬ fn.nt < args.length := by rw [← Nat.blt_eq, e]; exact Bool.noConfusion
      rw [if_neg h]
      simp only [M.bind]
      cases c.exec call lf (argFrame args) H with
      | none => rfl
      | some r =>
        obtain ⟨⟨x, fr⟩, H1⟩ := r
        cases x <;> first
          | rfl
          | (simp only [M.bind]
             cases takeMarks (marksOf (fr fn.nt)) H1 with
             | none => rfl
             | some r2 =>
               obtain ⟨u, H2⟩ := r2
               simp only
               cases getAll fr fn.results H2 <;> rfl)
theorem xRound_eq (call : ACall) (lf : Nat) (r : Nat) (args : List AVal) (H : AHeap) : xRound call lf r args H = roundRun call lf r args H := by
  unfold xRound roundRun
  simp only [xCode_eq, hF_eq]
  rfl
theorem xCallN_eq (ext : Exts) (prog : FuncId → Option RFunc) : ∀ (n : Nat) (f : FuncId) (args : List AVal) (H : AHeap), xCallN ext prog n f args H = callN ext prog n f args H := by
  intro n
  induction n with
  | zero => intro f args H; rfl
  | succ n ih =>
    intro f args H
    have ih' : xCallN ext prog n = callN ext prog n := funext fun f => funext fun a => funext fun H => ih f a H
    show (match prog f with
    | some fn => xRun ext (xCallN ext prog n) n fn args H
    | none => match Nat.beq f yieldId, args with
      | true, .yield r :: as1 => xRound (xCallN ext prog n) n r as1 H
      | _, _ => none) = _
    unfold callN
    simp only [ih', xRun_eq, xRound_eq]
    cases prog f with
    | some fn => rfl
    | none =>
      cases Nat.beq f yieldId <;> cases args with
      | nil => rfl
      | cons a l => cases a <;> rfl
end Go.Am

namespace Go.Am
open Go Go.Proofs
theorem ext_of {P : Program} {e e' : Exts} {f : FuncId} {k : Nat} (h : ExtSim P e f k) (hk : e' k = e k) : ExtSim P e' f k := fun S args H v H' m w vargs hG hx => h S args H v H' m w vargs hG (by rw [← hk]; exact hx)
def OkF (f : FuncId) (rf : RFunc) : Prop := (∃ fn c, Tryz.prog.funcs[f]? = some fn ∧ fn.body = some c ∧ cFunc Tryz.prog fn = some rf) ∨ ∃ name, rf.body = .ext name ∧ ExtSim Tryz.prog ext f name
theorem spT {b : Bool} {x y : Option RFunc} {f : FuncId} {rf : RFunc} (h1 : x = some rf → OkF f rf) (h2 : y = some rf → OkF f rf) (h : cond b x y = some rf) : OkF f rf := by
  cases b
  · exact h2 h
  · exact h1 h
theorem lfT {n : Nat} {f : FuncId} {rf c : RFunc} (k : OkF n c) (h : cond (Nat.beq f n) (some c) none = some rf) : OkF f rf := by
  cases hb : Nat.beq f n with
  | true =>
    rw [hb] at h
    obtain rfl := Nat.eq_of_beq_eq_true hb
    cases h
    exact k
  | false =>
    rw [hb] at h
    cases h
theorem k4 : OkF 4 c4 := .inl ⟨_,_,Tryz.func4,rfl,by kernel_rfl⟩
theorem k11 : OkF 11 c11 := .inl ⟨_,_,Tryz.func11,rfl,by kernel_rfl⟩
theorem k13 : OkF 13 c13 := .inl ⟨_,_,Tryz.func13,rfl,by kernel_rfl⟩
theorem k15 : OkF 15 c15 := .inl ⟨_,_,Tryz.func15,rfl,by kernel_rfl⟩
theorem k16 : OkF 16 c16 := .inl ⟨_,_,Tryz.func16,rfl,by kernel_rfl⟩
theorem k17 : OkF 17 c17 := .inl ⟨_,_,Tryz.func17,rfl,by kernel_rfl⟩
theorem k24 : OkF 24 c24 := .inl ⟨_,_,Tryz.func24,rfl,by kernel_rfl⟩
theorem k25 : OkF 25 c25 := .inl ⟨_,_,Tryz.func25,rfl,by kernel_rfl⟩
theorem k26 : OkF 26 c26 := .inl ⟨_,_,Tryz.func26,rfl,by kernel_rfl⟩
theorem k27 : OkF 27 c27 := .inl ⟨_,_,Tryz.func27,rfl,by kernel_rfl⟩
theorem k28 : OkF 28 c28 := .inl ⟨_,_,Tryz.func28,rfl,by kernel_rfl⟩
theorem k29 : OkF 29 c29 := .inl ⟨_,_,Tryz.func29,rfl,by kernel_rfl⟩
theorem k30 : OkF 30 c30 := .inl ⟨_,_,Tryz.func30,rfl,by kernel_rfl⟩
theorem k31 : OkF 31 c31 := .inl ⟨_,_,Tryz.func31,rfl,by kernel_rfl⟩
theorem k35 : OkF 35 c35 := .inl ⟨_,_,Tryz.func35,rfl,by kernel_rfl⟩
theorem k39 : OkF 39 c39 := .inl ⟨_,_,Tryz.func39,rfl,by kernel_rfl⟩
theorem k49 : OkF 49 c49 := .inl ⟨_,_,Tryz.func49,rfl,by kernel_rfl⟩
theorem k51 : OkF 51 c51 := .inl ⟨_,_,Tryz.func51,rfl,by kernel_rfl⟩
theorem k54 : OkF 54 c54 := .inl ⟨_,_,Tryz.func54,rfl,by kernel_rfl⟩
theorem k56 : OkF 56 c56 := .inl ⟨_,_,Tryz.func56,rfl,by kernel_rfl⟩
theorem k57 : OkF 57 c57 := .inl ⟨_,_,Tryz.func57,rfl,by kernel_rfl⟩
theorem k58 : OkF 58 c58 := .inl ⟨_,_,Tryz.func58,rfl,by kernel_rfl⟩
theorem k59 : OkF 59 c59 := .inl ⟨_,_,Tryz.func59,rfl,by kernel_rfl⟩
theorem k60 : OkF 60 c60 := .inl ⟨_,_,Tryz.func60,rfl,by kernel_rfl⟩
theorem k61 : OkF 61 c61 := .inl ⟨_,_,Tryz.func61,rfl,by kernel_rfl⟩
theorem k63 : OkF 63 c63 := .inl ⟨_,_,Tryz.func63,rfl,by kernel_rfl⟩
theorem k64 : OkF 64 c64 := .inl ⟨_,_,Tryz.func64,rfl,by kernel_rfl⟩
theorem k65 : OkF 65 c65 := .inl ⟨_,_,Tryz.func65,rfl,by kernel_rfl⟩
theorem k67 : OkF 67 c67 := .inl ⟨_,_,Tryz.func67,rfl,by kernel_rfl⟩
theorem k68 : OkF 68 c68 := .inl ⟨_,_,Tryz.func68,rfl,by kernel_rfl⟩
theorem k69 : OkF 69 c69 := .inl ⟨_,_,Tryz.func69,rfl,by kernel_rfl⟩
theorem k70 : OkF 70 c70 := .inl ⟨_,_,Tryz.func70,rfl,by kernel_rfl⟩
theorem k71 : OkF 71 c71 := .inl ⟨_,_,Tryz.func71,rfl,by kernel_rfl⟩
theorem k72 : OkF 72 c72 := .inl ⟨_,_,Tryz.func72,rfl,by kernel_rfl⟩
theorem k73 : OkF 73 c73 := .inl ⟨_,_,Tryz.func73,rfl,by kernel_rfl⟩
theorem k74 : OkF 74 c74 := .inl ⟨_,_,Tryz.func74,rfl,by kernel_rfl⟩
theorem k75 : OkF 75 c75 := .inl ⟨_,_,Tryz.func75,rfl,by kernel_rfl⟩
theorem k76 : OkF 76 c76 := .inl ⟨_,_,Tryz.func76,rfl,by kernel_rfl⟩
theorem k77 : OkF 77 c77 := .inl ⟨_,_,Tryz.func77,rfl,by kernel_rfl⟩
theorem k78 : OkF 78 c78 := .inl ⟨_,_,Tryz.func78,rfl,by kernel_rfl⟩
theorem k79 : OkF 79 c79 := .inl ⟨_,_,Tryz.func79,rfl,by kernel_rfl⟩
theorem k80 : OkF 80 c80 := .inl ⟨_,_,Tryz.func80,rfl,by kernel_rfl⟩
theorem k81 : OkF 81 c81 := .inl ⟨_,_,Tryz.func81,rfl,by kernel_rfl⟩
theorem k82 : OkF 82 c82 := .inl ⟨_,_,Tryz.func82,rfl,by kernel_rfl⟩
theorem k84 : OkF 84 c84 := .inl ⟨_,_,Tryz.func84,rfl,by kernel_rfl⟩
theorem k85 : OkF 85 c85 := .inl ⟨_,_,Tryz.func85,rfl,by kernel_rfl⟩
theorem k97 : OkF 97 c97 := .inl ⟨_,_,Tryz.func97,rfl,by kernel_rfl⟩
theorem k98 : OkF 98 c98 := .inl ⟨_,_,Tryz.func98,rfl,by kernel_rfl⟩
theorem k99 : OkF 99 c99 := .inl ⟨_,_,Tryz.func99,rfl,by kernel_rfl⟩
theorem k100 : OkF 100 c100 := .inl ⟨_,_,Tryz.func100,rfl,by kernel_rfl⟩
theorem k101 : OkF 101 c101 := .inl ⟨_,_,Tryz.func101,rfl,by kernel_rfl⟩
theorem k102 : OkF 102 c102 := .inl ⟨_,_,Tryz.func102,rfl,by kernel_rfl⟩
theorem k108 : OkF 108 c108 := .inl ⟨_,_,Tryz.func108,rfl,by kernel_rfl⟩
theorem k109 : OkF 109 c109 := .inl ⟨_,_,Tryz.func109,rfl,by kernel_rfl⟩
theorem k110 : OkF 110 c110 := .inl ⟨_,_,Tryz.func110,rfl,by kernel_rfl⟩
theorem k111 : OkF 111 c111 := .inl ⟨_,_,Tryz.func111,rfl,by kernel_rfl⟩
theorem k112 : OkF 112 c112 := .inl ⟨_,_,Tryz.func112,rfl,by kernel_rfl⟩
theorem k113 : OkF 113 c113 := .inl ⟨_,_,Tryz.func113,rfl,by kernel_rfl⟩
theorem k114 : OkF 114 c114 := .inl ⟨_,_,Tryz.func114,rfl,by kernel_rfl⟩
theorem k115 : OkF 115 c115 := .inl ⟨_,_,Tryz.func115,rfl,by kernel_rfl⟩
theorem k116 : OkF 116 c116 := .inl ⟨_,_,Tryz.func116,rfl,by kernel_rfl⟩
theorem k117 : OkF 117 c117 := .inl ⟨_,_,Tryz.func117,rfl,by kernel_rfl⟩
theorem k118 : OkF 118 c118 := .inl ⟨_,_,Tryz.func118,rfl,by kernel_rfl⟩
theorem k119 : OkF 119 c119 := .inl ⟨_,_,Tryz.func119,rfl,by kernel_rfl⟩
theorem k120 : OkF 120 c120 := .inl ⟨_,_,Tryz.func120,rfl,by kernel_rfl⟩
theorem k121 : OkF 121 c121 := .inl ⟨_,_,Tryz.func121,rfl,by kernel_rfl⟩
theorem k122 : OkF 122 c122 := .inl ⟨_,_,Tryz.func122,rfl,by kernel_rfl⟩
theorem k123 : OkF 123 c123 := .inl ⟨_,_,Tryz.func123,rfl,by kernel_rfl⟩
theorem k124 : OkF 124 c124 := .inl ⟨_,_,Tryz.func124,rfl,by kernel_rfl⟩
theorem k132 : OkF 132 c132 := .inl ⟨_,_,Tryz.func132,rfl,by kernel_rfl⟩
theorem k133 : OkF 133 c133 := .inl ⟨_,_,Tryz.func133,rfl,by kernel_rfl⟩
theorem k139 : OkF 139 c139 := .inl ⟨_,_,Tryz.func139,rfl,by kernel_rfl⟩
theorem k140 : OkF 140 c140 := .inl ⟨_,_,Tryz.func140,rfl,by kernel_rfl⟩
theorem k141 : OkF 141 c141 := .inl ⟨_,_,Tryz.func141,rfl,by kernel_rfl⟩
theorem k142 : OkF 142 c142 := .inl ⟨_,_,Tryz.func142,rfl,by kernel_rfl⟩
theorem k143 : OkF 143 c143 := .inl ⟨_,_,Tryz.func143,rfl,by kernel_rfl⟩
theorem k144 : OkF 144 c144 := .inl ⟨_,_,Tryz.func144,rfl,by kernel_rfl⟩
theorem k147 : OkF 147 c147 := .inl ⟨_,_,Tryz.func147,rfl,by kernel_rfl⟩
theorem k153 : OkF 153 c153 := .inl ⟨_,_,Tryz.func153,rfl,by kernel_rfl⟩
theorem k154 : OkF 154 c154 := .inl ⟨_,_,Tryz.func154,rfl,by kernel_rfl⟩
theorem k155 : OkF 155 c155 := .inl ⟨_,_,Tryz.func155,rfl,by kernel_rfl⟩
theorem k156 : OkF 156 c156 := .inl ⟨_,_,Tryz.func156,rfl,by kernel_rfl⟩
theorem k157 : OkF 157 c157 := .inl ⟨_,_,Tryz.func157,rfl,by kernel_rfl⟩
theorem k158 : OkF 158 c158 := .inl ⟨_,_,Tryz.func158,rfl,by kernel_rfl⟩
theorem k159 : OkF 159 c159 := .inl ⟨_,_,Tryz.func159,rfl,by kernel_rfl⟩
theorem k160 : OkF 160 c160 := .inl ⟨_,_,Tryz.func160,rfl,by kernel_rfl⟩
theorem k161 : OkF 161 c161 := .inl ⟨_,_,Tryz.func161,rfl,by kernel_rfl⟩
theorem k162 : OkF 162 c162 := .inl ⟨_,_,Tryz.func162,rfl,by kernel_rfl⟩
theorem k163 : OkF 163 c163 := .inl ⟨_,_,Tryz.func163,rfl,by kernel_rfl⟩
theorem k164 : OkF 164 c164 := .inl ⟨_,_,Tryz.func164,rfl,by kernel_rfl⟩
theorem k165 : OkF 165 c165 := .inl ⟨_,_,Tryz.func165,rfl,by kernel_rfl⟩
theorem k166 : OkF 166 c166 := .inl ⟨_,_,Tryz.func166,rfl,by kernel_rfl⟩
theorem k167 : OkF 167 c167 := .inl ⟨_,_,Tryz.func167,rfl,by kernel_rfl⟩
theorem k168 : OkF 168 c168 := .inl ⟨_,_,Tryz.func168,rfl,by kernel_rfl⟩
theorem k175 : OkF 175 c175 := .inl ⟨_,_,Tryz.func175,rfl,by kernel_rfl⟩
theorem k176 : OkF 176 c176 := .inl ⟨_,_,Tryz.func176,rfl,by kernel_rfl⟩
theorem k177 : OkF 177 c177 := .inl ⟨_,_,Tryz.func177,rfl,by kernel_rfl⟩
theorem k178 : OkF 178 c178 := .inl ⟨_,_,Tryz.func178,rfl,by kernel_rfl⟩
theorem k179 : OkF 179 c179 := .inl ⟨_,_,Tryz.func179,rfl,by kernel_rfl⟩
theorem k180 : OkF 180 c180 := .inl ⟨_,_,Tryz.func180,rfl,by kernel_rfl⟩
theorem k181 : OkF 181 c181 := .inl ⟨_,_,Tryz.func181,rfl,by kernel_rfl⟩
theorem k182 : OkF 182 c182 := .inl ⟨_,_,Tryz.func182,rfl,by kernel_rfl⟩
theorem k183 : OkF 183 c183 := .inl ⟨_,_,Tryz.func183,rfl,by kernel_rfl⟩
theorem k184 : OkF 184 c184 := .inl ⟨_,_,Tryz.func184,rfl,by kernel_rfl⟩
theorem k190 : OkF 190 c190 := .inl ⟨_,_,Tryz.func190,rfl,by kernel_rfl⟩
theorem k191 : OkF 191 c191 := .inl ⟨_,_,Tryz.func191,rfl,by kernel_rfl⟩
theorem k192 : OkF 192 c192 := .inl ⟨_,_,Tryz.func192,rfl,by kernel_rfl⟩
theorem progOk0 : ProgOk Tryz.prog ext prog0 := ⟨rfl, by decide +kernel, fun f rf => show prog0 f = some rf → OkF f rf from (spT (spT (spT (spT (spT (spT (lfT k11) (lfT k13)) (spT (lfT k15) (spT (lfT k16) (lfT k28)))) (spT (spT (lfT k31) (spT (lfT k35) (lfT k39))) (spT (lfT k49) (spT (lfT k51) (lfT k54))))) (spT (spT (spT (lfT k56) (lfT k57)) (spT (lfT k58) (spT (lfT k59) (lfT k60)))) (spT (spT (lfT k61) (spT (lfT k63) (lfT k65))) (spT (lfT k67) (spT (lfT k71) (lfT k72)))))) (spT (spT (spT (spT (lfT k78) (lfT k79)) (spT (lfT k80) (spT (lfT k81) (lfT k82)))) (spT (spT (lfT k84) (spT (lfT k85) (lfT k97))) (spT (lfT k98) (spT (lfT k99) (lfT k100))))) (spT (spT (spT (lfT k101) (lfT k102)) (spT (lfT k108) (spT (lfT k109) (lfT k110)))) (spT (spT (lfT k111) (spT (lfT k112) (lfT k113))) (spT (lfT k114) (spT (lfT k115) (lfT k117))))))) (spT (spT (spT (spT (spT (lfT k118) (lfT k119)) (spT (lfT k120) (spT (lfT k121) (lfT k122)))) (spT (spT (lfT k123) (spT (lfT k124) (lfT k132))) (spT (lfT k133) (spT (lfT k139) (lfT k140))))) (spT (spT (spT (lfT k141) (lfT k142)) (spT (lfT k143) (spT (lfT k144) (lfT k147)))) (spT (spT (lfT k153) (spT (lfT k154) (lfT k155))) (spT (lfT k156) (spT (lfT k157) (lfT k158)))))) (spT (spT (spT (spT (lfT k159) (lfT k160)) (spT (lfT k161) (spT (lfT k162) (lfT k163)))) (spT (spT (lfT k164) (spT (lfT k165) (lfT k166))) (spT (lfT k167) (spT (lfT k168) (lfT k175))))) (spT (spT (spT (lfT k176) (spT (lfT k177) (lfT k178))) (spT (lfT k179) (spT (lfT k180) (lfT k181)))) (spT (spT (lfT k182) (spT (lfT k183) (lfT k184))) (spT (lfT k190) (spT (lfT k191) (lfT k192))))))))⟩
def isTrue : Option (AVal × AHeap) → Bool | some (.bool true, _) => true | _ => false
theorem isTrue_some {r : Option (AVal × AHeap)} (h : isTrue r = true) : ∃ H', r = some (.bool true, H') := by
  cases r with
  | none => cases h
  | some p =>
    obtain ⟨v, H'⟩ := p
    cases v with
    | bool b => cases b with
      | true => exact ⟨H', rfl⟩
      | false => cases h
    | _ => cases h
theorem awake_true : isTrue (callN ext prog0 300 11 [] (tableHeap Tryz.prog.globals.size aroundT)) = true := by
  rw [← xCallN_eq]
  kernel_rfl
theorem mixed : Tryz.prog.follows .mixedOrders = true := by kernel_rfl
theorem k11e : ExtSim Tryz.prog ext 11 3 := ext_closed mixed progOk0 (T := aroundT) Tryz.func11 rfl (by decide +kernel) (v := .bool true) rfl (by kernel_rfl) (isTrue_some awake_true) rfl
theorem k11f : OkF 11 ⟨0,.ext 3,[]⟩ := .inr ⟨_,rfl,k11e⟩
theorem progOk : ProgOk Tryz.prog ext prog := ⟨rfl, by decide +kernel, fun f rf => show prog f = some rf → OkF f rf from (spT (spT (spT (spT (lfT k4) (spT (lfT k11f) (lfT k16))) (spT (spT (lfT k17) (lfT k24)) (spT (lfT k25) (lfT k26)))) (spT (spT (spT (lfT k27) (lfT k28)) (spT (lfT k29) (lfT k30))) (spT (spT (lfT k63) (lfT k64)) (spT (lfT k68) (lfT k69))))) (spT (spT (spT (spT (lfT k70) (lfT k71)) (spT (lfT k72) (lfT k73))) (spT (spT (lfT k74) (lfT k75)) (spT (lfT k76) (lfT k77)))) (spT (spT (spT (lfT k109) (lfT k114)) (spT (lfT k116) (lfT k117))) (spT (spT (lfT k118) (lfT k119)) (spT (lfT k120) (lfT k142))))))⟩
end Go.Am

namespace Go.Proofs.YtfohnngeckaljaaGreatDoor.Laid
open Go.ChangeShapes Go.WideShapes Go.ChangeAt Go.RowKit Go.Am
theorem own : ownKnob Tryz.prog.godebug = none := by kernel_rfl
theorem laidOut : laidOutB Tryz.prog = true := by kernel_rfl
theorem rowed : mapsRowed Tryz.prog = true := by kernel_rfl
theorem full : ∀ t e, t < Tryz.prog.types.size → Tryz.prog.underlying t = some (.slice e) → 0 < Tryz.prog.cellsOf e := slices_full_of Tryz.prog (by kernel_rfl)
theorem around_cells {W : World} : ∀ t ∈ aroundT, ∀ (i : Nat) (v : AVal), t.2[i]? = some v → ∃ x, emb (fun _ => none) v = some x ∧ W.cell? ⟨t.1, i, none⟩ = some x := by
  intro t ht; cases ht
noncomputable def laidWorld (os : Os) : World :=
  let h := (World.holding Tryz.prog os ⟨#[], #[], []⟩).heap
  let h := h.modify 0 fun
    | .cells _ t frozen => .cells #[.int .u64 1, .int .u64 10, .int .u64 100, .int .u64 1000, .int .u64 10000, .int .u64 100000, .int .u64 1000000, .int .u64 10000000, .int .u64 100000000, .int .u64 1000000000, .int .u64 10000000000, .int .u64 100000000000, .int .u64 1000000000000, .int .u64 10000000000000, .int .u64 100000000000000, .int .u64 1000000000000000, .int .u64 10000000000000000, .int .u64 100000000000000000, .int .u64 1000000000000000000, .int .u64 10000000000000000000] t frozen
    | o => o
  let h := h.modify 4 fun
    | .cells _ t frozen => .cells #[.int .u8 0, .int .u8 1, .int .u8 28, .int .u8 2, .int .u8 29, .int .u8 14, .int .u8 24, .int .u8 3, .int .u8 30, .int .u8 22, .int .u8 20, .int .u8 15, .int .u8 25, .int .u8 17, .int .u8 4, .int .u8 8, .int .u8 31, .int .u8 27, .int .u8 13, .int .u8 23, .int .u8 21, .int .u8 19, .int .u8 16, .int .u8 7, .int .u8 26, .int .u8 12, .int .u8 18, .int .u8 6, .int .u8 11, .int .u8 5, .int .u8 10, .int .u8 9] t frozen
    | o => o
  let h := h.modify 5 fun
    | .cells _ t frozen => .cells #[.int .u8 0, .int .u8 1, .int .u8 56, .int .u8 2, .int .u8 57, .int .u8 49, .int .u8 28, .int .u8 3, .int .u8 61, .int .u8 58, .int .u8 42, .int .u8 50, .int .u8 38, .int .u8 29, .int .u8 17, .int .u8 4, .int .u8 62, .int .u8 47, .int .u8 59, .int .u8 36, .int .u8 45, .int .u8 43, .int .u8 51, .int .u8 22, .int .u8 53, .int .u8 39, .int .u8 33, .int .u8 30, .int .u8 24, .int .u8 18, .int .u8 12, .int .u8 5, .int .u8 63, .int .u8 55, .int .u8 48, .int .u8 27, .int .u8 60, .int .u8 41, .int .u8 37, .int .u8 16, .int .u8 46, .int .u8 35, .int .u8 44, .int .u8 21, .int .u8 52, .int .u8 32, .int .u8 23, .int .u8 11, .int .u8 54, .int .u8 26, .int .u8 40, .int .u8 15, .int .u8 34, .int .u8 20, .int .u8 31, .int .u8 10, .int .u8 25, .int .u8 14, .int .u8 19, .int .u8 9, .int .u8 13, .int .u8 8, .int .u8 7, .int .u8 6] t frozen
    | o => o
  let h := h.modify 3 fun
    | .cells _ t frozen => .cells #[.int .u8 128, .int .u8 191, .int .u8 160, .int .u8 191, .int .u8 128, .int .u8 159, .int .u8 144, .int .u8 191, .int .u8 128, .int .u8 143, .int .u8 0, .int .u8 0, .int .u8 0, .int .u8 0, .int .u8 0, .int .u8 0, .int .u8 0, .int .u8 0, .int .u8 0, .int .u8 0, .int .u8 0, .int .u8 0, .int .u8 0, .int .u8 0, .int .u8 0, .int .u8 0, .int .u8 0, .int .u8 0, .int .u8 0, .int .u8 0, .int .u8 0, .int .u8 0] t frozen
    | o => o
  let h := h.modify 2 fun
    | .cells _ t frozen => .cells #[.int .u8 240, .int .u8 240, .int .u8 240, .int .u8 240, .int .u8 240, .int .u8 240, .int .u8 240, .int .u8 240, .int .u8 240, .int .u8 240, .int .u8 240, .int .u8 240, .int .u8 240, .int .u8 240, .int .u8 240, .int .u8 240, .int .u8 240, .int .u8 240, .int .u8 240, .int .u8 240, .int .u8 240, .int .u8 240, .int .u8 240, .int .u8 240, .int .u8 240, .int .u8 240, .int .u8 240, .int .u8 240, .int .u8 240, .int .u8 240, .int .u8 240, .int .u8 240, .int .u8 240, .int .u8 240, .int .u8 240, .int .u8 240, .int .u8 240, .int .u8 240, .int .u8 240, .int .u8 240, .int .u8 240, .int .u8 240, .int .u8 240, .int .u8 240, .int .u8 240, .int .u8 240, .int .u8 240, .int .u8 240, .int .u8 240, .int .u8 240, .int .u8 240, .int .u8 240, .int .u8 240, .int .u8 240, .int .u8 240, .int .u8 240, .int .u8 240, .int .u8 240, .int .u8 240, .int .u8 240, .int .u8 240, .int .u8 240, .int .u8 240, .int .u8 240, .int .u8 240, .int .u8 240, .int .u8 240, .int .u8 240, .int .u8 240, .int .u8 240, .int .u8 240, .int .u8 240, .int .u8 240, .int .u8 240, .int .u8 240, .int .u8 240, .int .u8 240, .int .u8 240, .int .u8 240, .int .u8 240, .int .u8 240, .int .u8 240, .int .u8 240, .int .u8 240, .int .u8 240, .int .u8 240, .int .u8 240, .int .u8 240, .int .u8 240, .int .u8 240, .int .u8 240, .int .u8 240, .int .u8 240, .int .u8 240, .int .u8 240, .int .u8 240, .int .u8 240, .int .u8 240, .int .u8 240, .int .u8 240, .int .u8 240, .int .u8 240, .int .u8 240, .int .u8 240, .int .u8 240, .int .u8 240, .int .u8 240, .int .u8 240, .int .u8 240, .int .u8 240, .int .u8 240, .int .u8 240, .int .u8 240, .int .u8 240, .int .u8 240, .int .u8 240, .int .u8 240, .int .u8 240, .int .u8 240, .int .u8 240, .int .u8 240, .int .u8 240, .int .u8 240, .int .u8 240, .int .u8 240, .int .u8 240, .int .u8 240, .int .u8 240, .int .u8 241, .int .u8 241, .int .u8 241, .int .u8 241, .int .u8 241, .int .u8 241, .int .u8 241, .int .u8 241, .int .u8 241, .int .u8 241, .int .u8 241, .int .u8 241, .int .u8 241, .int .u8 241, .int .u8 241, .int .u8 241, .int .u8 241, .int .u8 241, .int .u8 241, .int .u8 241, .int .u8 241, .int .u8 241, .int .u8 241, .int .u8 241, .int .u8 241, .int .u8 241, .int .u8 241, .int .u8 241, .int .u8 241, .int .u8 241, .int .u8 241, .int .u8 241, .int .u8 241, .int .u8 241, .int .u8 241, .int .u8 241, .int .u8 241, .int .u8 241, .int .u8 241, .int .u8 241, .int .u8 241, .int .u8 241, .int .u8 241, .int .u8 241, .int .u8 241, .int .u8 241, .int .u8 241, .int .u8 241, .int .u8 241, .int .u8 241, .int .u8 241, .int .u8 241, .int .u8 241, .int .u8 241, .int .u8 241, .int .u8 241, .int .u8 241, .int .u8 241, .int .u8 241, .int .u8 241, .int .u8 241, .int .u8 241, .int .u8 241, .int .u8 241, .int .u8 241, .int .u8 241, .int .u8 2, .int .u8 2, .int .u8 2, .int .u8 2, .int .u8 2, .int .u8 2, .int .u8 2, .int .u8 2, .int .u8 2, .int .u8 2, .int .u8 2, .int .u8 2, .int .u8 2, .int .u8 2, .int .u8 2, .int .u8 2, .int .u8 2, .int .u8 2, .int .u8 2, .int .u8 2, .int .u8 2, .int .u8 2, .int .u8 2, .int .u8 2, .int .u8 2, .int .u8 2, .int .u8 2, .int .u8 2, .int .u8 2, .int .u8 2, .int .u8 19, .int .u8 3, .int .u8 3, .int .u8 3, .int .u8 3, .int .u8 3, .int .u8 3, .int .u8 3, .int .u8 3, .int .u8 3, .int .u8 3, .int .u8 3, .int .u8 3, .int .u8 35, .int .u8 3, .int .u8 3, .int .u8 52, .int .u8 4, .int .u8 4, .int .u8 4, .int .u8 68, .int .u8 241, .int .u8 241, .int .u8 241, .int .u8 241, .int .u8 241, .int .u8 241, .int .u8 241, .int .u8 241, .int .u8 241, .int .u8 241, .int .u8 241] t frozen
    | o => o
  { World.holding Tryz.prog os ⟨#[], #[], []⟩ with heap := h }
theorem slim_app {P : Program} {Hd : Type} {ts vs : List TypeId} {ds gs : List (DataW Hd)} (h : (DataW.weightsEach P (ts ++ vs) (ds ++ gs)).all (· ≤ reachBytes) = true) : ∀ (j : Nat) t d, ts[j]? = some t → ds[j]? = some d → Slim P t d := fun j t d h1 h2 => by
  have a := (List.getElem?_eq_some_iff.1 h1).1
  have b := (List.getElem?_eq_some_iff.1 h2).1
  exact slim_all h j t d (by rw [List.getElem?_append_left a]; exact h1) (by rw [List.getElem?_append_left b]; exact h2)
end Go.Proofs.YtfohnngeckaljaaGreatDoor.Laid

namespace Go.Am
open Go
def madeOk (op : ROp) (fr : AFrame) (ref : Nat) (H : AHeap) : Bool := match op.made fr with
  | some (cs, e, _) => ghostIs H ref cs e
  | none => false
def WpE (call : ACall) (n ref : Nat) (its : List DItem) (H0 : AHeap) (E : List (Nat × AHeap)) (Rd : List (Nat × (AHeap → Bool))) (fr : AFrame) (H : AHeap) (K : AFrame → AHeap → Prop) : Prop :=
  ∀ R0 E0 Rd0, R0.length = n → (∀ p ∈ E0, p ∈ E) → (∀ p ∈ Rd0, (p.1, DRec.okAt p.2) ∈ Rd) → DInv R0 H0 H E0 Rd0 → ∃ R1 fr' H', dtext call its ref fr H = some (R1, fr', H') ∧ dcheck (R0 ++ R1) H0 (R0 ++ R1) 0 = true ∧ K fr' H'
def AllE (b : Nat) (ok : AHeap → Prop) : List (Nat × AHeap) → Prop
  | [] => True
  | p :: l => (b.testBit p.1 = true ∨ ok p.2) ∧ AllE b ok l
def AllR (b : Nat) (H : AHeap) : List (Nat × (AHeap → Bool)) → Prop
  | [] => True
  | p :: l => (b.testBit p.1 = true ∨ p.2 H = true) ∧ AllR b H l
theorem AllE.imp {b : Nat} {ok ok' : AHeap → Prop} (f : ∀ H, ok H → ok' H) : ∀ {l : List (Nat × AHeap)}, AllE b ok l → AllE b ok' l
  | [], _ => trivial
  | _ :: _, h => ⟨h.1.imp id (f _), AllE.imp f h.2⟩
theorem AllE.get {b : Nat} {ok : AHeap → Prop} {l : List (Nat × AHeap)} (h : AllE b ok l) : ∀ p ∈ l, b.testBit p.1 = true ∨ ok p.2 := by
  induction l with
  | nil => simp
  | cons q l ih => intro p hp; rcases List.mem_cons.1 hp with rfl | hp; exact h.1; exact ih h.2 p hp
theorem AllR.get {b : Nat} {H : AHeap} {l : List (Nat × (AHeap → Bool))} (h : AllR b H l) : ∀ p ∈ l, b.testBit p.1 = true ∨ p.2 H = true := by
  induction l with
  | nil => simp
  | cons q l ih => intro p hp; rcases List.mem_cons.1 hp with rfl | hp; exact h.1; exact ih h.2 p hp
theorem madeOk_eq {r : DRec} (hc : Nat.beq r.cls 3 = true) : r.okAt = madeOk r.o.op r.fr r.ref := by
  funext H
  unfold DRec.okAt madeOk
  rw [hc]
  rfl
section
variable {call : ACall} {lf n ref : Nat} {its : List DItem} {H0 H H1 : AHeap} {E : List (Nat × AHeap)} {Rd : List (Nat × (AHeap → Bool))} {fr : AFrame} {K : AFrame → AHeap → Prop} {Q : RExit → AFrame → AHeap → Prop} {op : ROp} {v : AVal} {b : Nat} {pre : Bool} {g : Option (Nat × Bool)}
theorem WpE.nil (h : K fr H) : WpE call n ref [] H0 E Rd fr H K := fun R0 E0 Rd0 _ _ _ hI => ⟨[], fr, H, rfl, by rw [List.append_nil]; exact hI.done, h⟩
theorem WpE.next {it : DItem} {R0 : List DRec} {r : DRec} {E' : List (Nat × AHeap)} {Rd' : List (Nat × (AHeap → Bool))} {E0' : List (Nat × AHeap)} {Rd0' : List (Nat × DRec)} {fr1 : AFrame} (hn : R0.length = n) (he : ∀ p ∈ E0', p ∈ E') (hrd : ∀ p ∈ Rd0', (p.1, DRec.okAt p.2) ∈ Rd')
    (hI : DInv (R0 ++ [r]) H0 H1 E0' Rd0') (hd : ∀ R1 fr' H', dtext call its (nextRef it.cls ref) fr1 H1 = some (R1, fr', H') → dtext call (it :: its) ref fr H = some (r :: R1, fr', H')) (h : WpE call (n + 1) (nextRef it.cls ref) its H0 E' Rd' fr1 H1 K) :
    ∃ R1 fr' H', dtext call (it :: its) ref fr H = some (R1, fr', H') ∧ dcheck (R0 ++ R1) H0 (R0 ++ R1) 0 = true ∧ K fr' H' := by
  obtain ⟨R1, fr', H', h1, h2, h3⟩ := h (R0 ++ [r]) E0' Rd0' (by simp [hn]) he hrd hI
  exact ⟨r :: R1, fr', H', hd _ _ _ h1, by rw [List.append_assoc] at h2; exact h2, h3⟩
theorem WpE.skip {d : Option Nat} {cls : Nat} (hw : ROper.wanted fr ⟨d, op, g⟩ = false) (h : WpE call (n + 1) (nextRef cls ref) its H0 E Rd (put fr d aundef) H K) : WpE call n ref (⟨⟨d, op, g⟩, b, cls, pre⟩ :: its) H0 E Rd fr H K := fun R0 E0 Rd0 hn he hrd hI =>
  WpE.next (r := ⟨⟨d, op, g⟩, b, cls, fr, aundef, false, false, H, ref⟩) hn he hrd (hI.plain rfl rfl) (fun R1 fr' H' hd => by
    simp only [dtext, hw, hd]) h
theorem WpE.pure {d : Option Nat} (hw : ROper.wanted fr ⟨d, op, g⟩ = true) (hx : op.exec noCall fr H = some (v, H)) (h : WpE call (n + 1) ref its H0 E Rd (put fr d v) H K) : WpE call n ref (⟨⟨d, op, g⟩, b, 0, pre⟩ :: its) H0 E Rd fr H K := fun R0 E0 Rd0 hn he hrd hI =>
  WpE.next (r := ⟨⟨d, op, g⟩, b, 0, fr, v, true, false, H, ref⟩) hn he hrd (hI.plain rfl rfl) (fun R1 fr' H' hd => by
    simp only [dtext, hw, dstep, look_of hx rfl]
    simp only [Nat.beq, nextRef] at hd ⊢
    simp [hd]) h
theorem WpE.look {d : Option Nat} (hw : ROper.wanted fr ⟨d, op, g⟩ = true) (hx : op.look fr H = some v) (hE : AllE b (fun H2 => op.look fr H2 = some v) E) (h : WpE call (n + 1) ref its H0 E ((n, readOk op fr v) :: Rd) (put fr d v) H K) : WpE call n ref (⟨⟨d, op, g⟩, b, 1, pre⟩ :: its) H0 E Rd fr H K := fun R0 E0 Rd0 hn he hrd hI =>
  WpE.next (r := ⟨⟨d, op, g⟩, b, 1, fr, v, true, false, H, ref⟩) (Rd0' := Rd0 ++ [(R0.length, ⟨⟨d, op, g⟩, b, 1, fr, v, true, false, H, ref⟩)]) hn he (by
      intro p hp
      rcases List.mem_append.1 hp with hp | hp
      · exact List.mem_cons_of_mem _ (hrd p hp)
      · simp only [List.mem_singleton] at hp
        subst hp
        rw [hn, readOk_eq rfl]
        exact List.mem_cons_self)
    (hI.read rfl (okAt_look rfl hx) (fun p hp => (hE.get p (he p hp)).imp id fun q => okAt_look rfl q)) (fun R1 fr' H' hd => by
    simp only [dtext, hw, dstep, hx]
    simp only [Nat.beq, nextRef] at hd ⊢
    simp [hd]) h
theorem WpE.read {d : Option Nat} (hw : ROper.wanted fr ⟨d, op, g⟩ = true) (hx : op.exec noCall fr H = some (v, H)) (hE : AllE b (fun H2 => op.exec noCall fr H2 = some (v, H2)) E) (h : WpE call (n + 1) ref its H0 E ((n, readOk op fr v) :: Rd) (put fr d v) H K) : WpE call n ref (⟨⟨d, op, g⟩, b, 1, pre⟩ :: its) H0 E Rd fr H K :=
  WpE.look hw (look_of hx rfl) (AllE.imp (fun H2 q => look_of q rfl) hE) h
theorem WpE.effect {d : Option Nat} (hw : ROper.wanted fr ⟨d, op, g⟩ = true) (hx : op.exec call fr H = some (v, H1)) (hR : AllR b H1 Rd) (h : WpE call (n + 1) ref its H0 ((n, H) :: E) Rd (put fr d v) H1 K) : WpE call n ref (⟨⟨d, op, g⟩, b, 2, pre⟩ :: its) H0 E Rd fr H K := fun R0 E0 Rd0 hn he hrd hI =>
  WpE.next (r := ⟨⟨d, op, g⟩, b, 2, fr, v, true, true, H1, ref⟩) (E0' := E0 ++ [(n, H)]) hn (by
      intro p hp
      rcases List.mem_append.1 hp with hp | hp
      · exact List.mem_cons_of_mem _ (he p hp)
      · simp only [List.mem_singleton] at hp
        subst hp
        exact List.mem_cons_self) hrd (by
      have := hI.effect (e := ⟨⟨d, op, g⟩, b, 2, fr, v, true, true, H1, ref⟩) rfl rfl fun p hp => hR.get (p.1, p.2.okAt) (hrd p hp)
      rw [hn] at this; exact this) (fun R1 fr' H' hd => by
    simp only [dtext, hw, dstep, hx]
    simp only [Nat.beq, nextRef] at hd ⊢
    simp [hd]) h
theorem WpE.made {d : Option Nat} {cs : List AVal} {e : TypeId} {k : Nat → AVal} (hw : ROper.wanted fr ⟨d, op, g⟩ = true) (hm : op.made fr = some (cs, e, k)) (hg : ghostIs H ref cs e = true) (hE : AllE b (fun H2 => ghostIs H2 ref cs e = true) E) (h : WpE call (n + 1) (ref + 1) its H0 E ((n, madeOk op fr ref) :: Rd) (put fr d (k ref)) H K) : WpE call n ref (⟨⟨d, op, g⟩, b, 3, pre⟩ :: its) H0 E Rd fr H K := fun R0 E0 Rd0 hn he hrd hI =>
  WpE.next (r := ⟨⟨d, op, g⟩, b, 3, fr, k ref, true, false, H, ref⟩) (Rd0' := Rd0 ++ [(R0.length, ⟨⟨d, op, g⟩, b, 3, fr, k ref, true, false, H, ref⟩)]) hn he (by
      intro p hp
      rcases List.mem_append.1 hp with hp | hp
      · exact List.mem_cons_of_mem _ (hrd p hp)
      · simp only [List.mem_singleton] at hp
        subst hp
        rw [hn, madeOk_eq rfl]
        exact List.mem_cons_self)
    (hI.read rfl (by simp only [DRec.okAt, Nat.beq, hm, hg]) (fun p hp => (hE.get p (he p hp)).imp id fun q => by simp only [DRec.okAt, Nat.beq, hm, q])) (fun R1 fr' H' hd => by
    simp only [dtext, hw, dstep]
    simp only [Nat.beq, nextRef, hm, hg] at hd ⊢
    simp [hd]) h
theorem ghost_of {r : Nat} {cs : List AVal} {e : TypeId} [h : HasRow H r cs true (2 * e)] : ghostIs H r cs e = true := by
  unfold ghostIs
  have hlt := h.lt
  simp only [h.get, abeqL_refl, Nat.beq_refl, Bool.and_true, Bool.and_self]
  simpa using hlt
theorem made_of {r : Nat} {cs : List AVal} {e : TypeId} {k : Nat → AVal} (hm : op.made fr = some (cs, e, k)) [h : HasRow H r cs true (2 * e)] : madeOk op fr r H = true := by
  unfold madeOk
  rw [hm]
  exact ghost_of
theorem Wp.dregionE (os : List AObj) (ho : oracle its H.n fr H = os) (h : WpE call 0 H.n its (pushAll H os) [] [] fr (pushAll H os) fun fr' H' => Q .normal fr' H') : Wp call lf (.dregion its) fr H Q := by
  obtain ⟨R1, fr', H', h1, h2, h3⟩ := h [] [] [] rfl (by simp) (by simp) (DInv.nil _)
  refine ⟨.normal, fr', H', ?_, h3⟩
  simp only [RCode.exec, ho, h1]
  simp only [List.nil_append] at h2
  rw [h2]
theorem Wp.dregion0 (hno : (its.all fun it => !(Nat.beq it.cls 3)) = true) (h : WpE call 0 H.n its H [] [] fr H fun fr' H' => Q .normal fr' H') : Wp call lf (.dregion its) fr H Q :=
  Wp.dregionE [] (oracle_none its H.n fr H hno) h
theorem oracle_pre {it : DItem} {os : List AObj} {v : AVal} {H2 : AHeap} (hc : Nat.beq it.cls 3 = false) (hp : it.pre = true) (hw : it.o.wanted fr = true) (hx : it.o.op.exec noCall fr H = some (v, H2)) (h : oracle its ref (put fr it.o.dst v) H = os) : oracle (it :: its) ref fr H = os := by
  simp only [oracle, hc, hp, hw, hx, h]
theorem oracle_made {it : DItem} {os : List AObj} {cs : List AVal} {e : TypeId} {k : Nat → AVal} (hc : Nat.beq it.cls 3 = true) (hw : it.o.wanted fr = true) (hm : it.o.op.made fr = some (cs, e, k)) (h : oracle its (ref + 1) (put fr it.o.dst (k ref)) H = os) : oracle (it :: its) ref fr H = .row cs true (2 * e) :: os := by
  simp only [oracle, hc, hw, hm, h]
end
theorem WpE.pcall {ext : Exts} {prog : FuncId → Option RFunc} {m dd D : Nat} {f : FuncId} {o : ROpd} {l : List ROpd} {args : List AVal} {v : AVal} {d : Option Nat} {n ref : Nat} {its : List DItem} {H0 H : AHeap} {E : List (Nat × AHeap)} {Rd : List (Nat × (AHeap → Bool))} {fr : AFrame} {K : AFrame → AHeap → Prop} {b : Nat} {pre : Bool} {g : Option (Nat × Bool)}
    (hw : ROper.wanted fr ⟨d, .call o l, g⟩ = true) (hn : fuel0 + D ≤ m) (hf : o.ev fr = .func (.func f) [] []) (hl : l.map (·.ev fr) = args) [hc : PureCon ext prog f args H dd v] (hd : Nat.ble dd D = true)
    (h : ∀ H1, ExtI H H1 → AllR b H1 Rd ∧ WpE (callN ext prog m) (n + 1) ref its H0 ((n, H) :: E) Rd (put fr d v) H1 K) : WpE (callN ext prog m) n ref (⟨⟨d, .call o l, g⟩, b, 2, pre⟩ :: its) H0 E Rd fr H K := by
  obtain ⟨v', H1, hx, hv, hext⟩ := exec_con hc.con (Nat.le_trans (Nat.add_le_add_left (Nat.le_of_ble_eq_true hd) _) hn) hf hl
  subst hv
  obtain ⟨h1, h2⟩ := h H1 ⟨hext⟩
  exact WpE.effect hw hx h1 h2
theorem WpE.con {ext : Exts} {prog : FuncId → Option RFunc} {m dd D : Nat} {f : FuncId} {o : ROpd} {l : List ROpd} {args : List AVal} {R : AVal → AHeap → Prop} {d : Option Nat} {n ref : Nat} {its : List DItem} {H0 H : AHeap} {E : List (Nat × AHeap)} {Rd : List (Nat × (AHeap → Bool))} {fr : AFrame} {K : AFrame → AHeap → Prop} {b : Nat} {pre : Bool} {g : Option (Nat × Bool)}
    (hw : ROper.wanted fr ⟨d, .call o l, g⟩ = true) (hn : fuel0 + D ≤ m) (hd : Nat.ble dd D = true) (hf : o.ev fr = .func (.func f) [] []) (hl : l.map (·.ev fr) = args) (hc : Con ext prog dd f args H R)
    (h : ∀ v H1, R v H1 → AllR b H1 Rd ∧ WpE (callN ext prog m) (n + 1) ref its H0 ((n, H) :: E) Rd (put fr d v) H1 K) : WpE (callN ext prog m) n ref (⟨⟨d, .call o l, g⟩, b, 2, pre⟩ :: its) H0 E Rd fr H K := by
  obtain ⟨v', H1, hx, hv⟩ := exec_con hc (Nat.le_trans (Nat.add_le_add_left (Nat.le_of_ble_eq_true hd) _) hn) hf hl
  obtain ⟨h1, h2⟩ := h v' H1 hv
  exact WpE.effect hw hx h1 h2
section
variable {call : ACall} {fr : AFrame} {H : AHeap}
theorem exec_ldN {a : ROpd} {n r off : Nat} {cs : List AVal} {rw : Bool} {e : TypeId} {l : List AVal} (ha : a.ev fr = .ptr r off) [hg : HasRow H r cs rw e] (hv : Nat.ble (off + n) cs.length = true) (hl : (cs.drop off).take n = l) : (ROp.load (some n) a).exec call fr H = some (.agg l, H) := by
  subst hl
  simp only [ROp.exec, ha, aLoad, M.bind, aRow, if_pos hg.lt, hg.get, if_pos (Nat.le_of_ble_eq_true hv), M.pure]
theorem exec_lenP {x : ROpd} {p : AVal} {sz n : Nat} {cs : List AVal} (hx : x.ev fr = p) [s : SliceAt H p sz n cs] : (ROp.lenS x).exec call fr H = some (.int .i64 n, H) := by
  simp only [ROp.exec, hx, s.lenS, M.ofOption, M.pure]
theorem exec_ldB {a : ROpd} {p : AVal} {j : Nat} {l : List UInt8} (ha : a.ev fr = .ptr (rowOf p) (offOf p + j)) [s : BytesI H p l] (hj : j < l.length) : (ROp.load none a).exec call fr H = some (.int .u8 (l[j].toNat : Int), H) := exec_ldP ha (get_bytes hj)
theorem exec_ldI {a : ROpd} {p : AVal} {j : Nat} {l : List Int} (ha : a.ev fr = .ptr (rowOf p) (offOf p + j)) [s : IntsI H p l] (hj : j < l.length) : (ROp.load none a).exec call fr H = some (.int .i64 l[j], H) := exec_ldP ha (get_ints hj)
theorem exec_build {z : List AVal} {ps : List (Nat × Nat × ROpd)} {cs : List AVal} (hf : aFill fr z ps = some cs) : (ROp.build z ps).exec call fr H = some (.agg cs, H) := by simp only [ROp.exec, hf, M.pure]
end
end Go.Am

namespace Go.Am
open Go
class IsU8 (k : Int) (b : outParam UInt8) : Prop where
  eq : k = (b.toNat : Int)
instance : IsU8 0 0 := ⟨rfl⟩
instance : IsU8 1 1 := ⟨rfl⟩
instance {b : UInt8} : IsU8 (b.toNat : Int) b := ⟨rfl⟩
instance {H : AHeap} {r : Nat} {k : Int} {b : UInt8} {rw : Bool} {e : TypeId} [h : HasRow H r [.int .u8 k] rw e] [x : IsU8 k b] : BytesI H (.slice r 0 1 (some 1) 1) [b] :=
  ⟨Or.inr ⟨r, 0, some 1, _, rw, e, rfl, h.lt, h.get, by simp, by rw [x.eq]; rfl, Nat.le_refl _⟩⟩
end Go.Am
namespace Go.Am
open Go
theorem bind_of {α β : Type} {x : M α} {f : α → M β} {H H' : AHeap} {a : α} (h : x H = some (a, H')) : M.bind x f H = f a H' := by simp [M.bind, h]
end Go.Am
namespace Go.Am
open Go
section
variable {call : ACall} {n ref : Nat} {its : List DItem} {H0 H : AHeap} {E : List (Nat × AHeap)} {Rd : List (Nat × (AHeap → Bool))} {fr : AFrame} {K : AFrame → AHeap → Prop} {b : Nat} {pre : Bool} {g : Option (Nat × Bool)}
theorem WpE.stI {d : Option Nat} {a x : ROpd} {p : AVal} {j : Nat} {l : List Int} {c : Int} (hw : ROper.wanted fr ⟨d, .store 1 a x, g⟩ = true) (ha : a.ev fr = .ptr (rowOf p) (offOf p + j)) (hx : x.ev fr = .int .i64 c) [s : IntsI H p l] [w : WrS H p] (hj : j < l.length)
    (h : ∀ H1, IntsI H1 p (l.set j c) → WrS H1 p → ExtP H H1 p → AllR b H1 Rd ∧ WpE call (n + 1) ref its H0 ((n, H) :: E) Rd (put fr d aundef) H1 K) : WpE call n ref (⟨⟨d, .store 1 a x, g⟩, b, 2, pre⟩ :: its) H0 E Rd fr H K := by
  obtain ⟨v, H1, h1, rfl, h2, h3, h4⟩ := WpX.stI (call := call) (K := fun v H1 => v = aundef ∧ IntsI H1 p (l.set j c) ∧ WrS H1 p ∧ ExtP H H1 p) ha hx hj fun H1 q1 q2 q3 => ⟨rfl, q1, q2, q3⟩
  obtain ⟨h5, h6⟩ := h H1 h2 h3 h4
  exact WpE.effect hw h1 h5 h6
end
end Go.Am
