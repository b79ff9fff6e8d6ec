import Derived.Test.YtpochhefklmnfaaAmBD
import Derived.Test.YtpochhefklmnfaaProg
import Derived.Test.YtpochhefklmnfaaRows
import Derived.WalkKit
import Derived.ProofKit
import Derived.OpenShut
import Derived.Deep.DeepHandedRow
import Derived.Lib.LaidTab
import Derived.Lib.Strings
set_option linter.unusedSimpArgs false
set_option linter.unusedVariables false
set_option maxRecDepth 100000
set_option maxHeartbeats 8000000
set_option synthInstance.maxHeartbeats 4000000
set_option synthInstance.maxSize 1000000000
namespace Go.Am
open Go Go.Proofs
theorem ext_of {P : Program} {e e' : Exts} {f : FuncId} {k : Nat} (h : ExtSim P e f k) (hk : e' k = e k) : ExtSim P e' f k := fun S args H v H' m w vargs hG hx => h S args H v H' m w vargs hG (by rw [← hk]; exact hx)
theorem k10 : cFunc Try.prog Try.f10 = some c10 := by kernel_rfl
theorem k12 : cFunc Try.prog Try.f12 = some c12 := by kernel_rfl
theorem k14 : cFunc Try.prog Try.f14 = some c14 := by kernel_rfl
theorem k15 : cFunc Try.prog Try.f15 = some c15 := by kernel_rfl
theorem k17 : cFunc Try.prog Try.f17 = some c17 := by kernel_rfl
theorem k18 : cFunc Try.prog Try.f18 = some c18 := by kernel_rfl
theorem k20 : cFunc Try.prog Try.f20 = some c20 := by kernel_rfl
theorem k27 : cFunc Try.prog Try.f27 = some c27 := by kernel_rfl
theorem k31 : cFunc Try.prog Try.f31 = some c31 := by kernel_rfl
theorem k35 : cFunc Try.prog Try.f35 = some c35 := by kernel_rfl
theorem k36 : cFunc Try.prog Try.f36 = some c36 := by kernel_rfl
theorem k45 : cFunc Try.prog Try.f45 = some c45 := by kernel_rfl
theorem k46 : cFunc Try.prog Try.f46 = some c46 := by kernel_rfl
theorem k47 : cFunc Try.prog Try.f47 = some c47 := by kernel_rfl
theorem k48 : cFunc Try.prog Try.f48 = some c48 := by kernel_rfl
theorem k50 : cFunc Try.prog Try.f50 = some c50 := by kernel_rfl
theorem k51 : cFunc Try.prog Try.f51 = some c51 := by kernel_rfl
theorem k52 : cFunc Try.prog Try.f52 = some c52 := by kernel_rfl
theorem k53 : cFunc Try.prog Try.f53 = some c53 := by kernel_rfl
theorem k56 : cFunc Try.prog Try.f56 = some c56 := by kernel_rfl
theorem k57 : cFunc Try.prog Try.f57 = some c57 := by kernel_rfl
theorem k58 : cFunc Try.prog Try.f58 = some c58 := by kernel_rfl
theorem k59 : cFunc Try.prog Try.f59 = some c59 := by kernel_rfl
theorem k60 : cFunc Try.prog Try.f60 = some c60 := by kernel_rfl
theorem k61 : cFunc Try.prog Try.f61 = some c61 := by kernel_rfl
theorem k62 : cFunc Try.prog Try.f62 = some c62 := by kernel_rfl
theorem k64 : cFunc Try.prog Try.f64 = some c64 := by kernel_rfl
theorem k72 : cFunc Try.prog Try.f72 = some c72 := by kernel_rfl
theorem k73 : cFunc Try.prog Try.f73 = some c73 := by kernel_rfl
theorem k75 : cFunc Try.prog Try.f75 = some c75 := by kernel_rfl
theorem k79 : cFunc Try.prog Try.f79 = some c79 := by kernel_rfl
theorem k80 : cFunc Try.prog Try.f80 = some c80 := by kernel_rfl
theorem k81 : cFunc Try.prog Try.f81 = some c81 := by kernel_rfl
theorem k82 : cFunc Try.prog Try.f82 = some c82 := by kernel_rfl
theorem k85 : cFunc Try.prog Try.f85 = some c85 := by kernel_rfl
theorem k86 : cFunc Try.prog Try.f86 = some c86 := by kernel_rfl
theorem k88 : cFunc Try.prog Try.f88 = some c88 := by kernel_rfl
theorem k89 : cFunc Try.prog Try.f89 = some c89 := by kernel_rfl
theorem k90 : cFunc Try.prog Try.f90 = some c90 := by kernel_rfl
theorem k91 : cFunc Try.prog Try.f91 = some c91 := by kernel_rfl
theorem k93 : cFunc Try.prog Try.f93 = some c93 := by kernel_rfl
theorem k94 : cFunc Try.prog Try.f94 = some c94 := by kernel_rfl
theorem k95 : cFunc Try.prog Try.f95 = some c95 := by kernel_rfl
theorem k96 : cFunc Try.prog Try.f96 = some c96 := by kernel_rfl
theorem k97 : cFunc Try.prog Try.f97 = some c97 := by kernel_rfl
theorem k98 : cFunc Try.prog Try.f98 = some c98 := by kernel_rfl
theorem k99 : cFunc Try.prog Try.f99 = some c99 := by kernel_rfl
theorem k101 : cFunc Try.prog Try.f101 = some c101 := by kernel_rfl
theorem k103 : cFunc Try.prog Try.f103 = some c103 := by kernel_rfl
theorem k104 : cFunc Try.prog Try.f104 = some c104 := by kernel_rfl
theorem k105 : cFunc Try.prog Try.f105 = some c105 := by kernel_rfl
theorem k109 : cFunc Try.prog Try.f109 = some c109 := by kernel_rfl
theorem k110 : cFunc Try.prog Try.f110 = some c110 := by kernel_rfl
theorem k111 : ExtSim Try.prog ext 111 0 := ext_count rfl Try.func111 (by kernel_rfl) (by kernel_rfl) (by kernel_rfl) (by kernel_rfl)
theorem k112 : cFunc Try.prog Try.f112 = some c112 := by kernel_rfl
theorem k113 : cFunc Try.prog Try.f113 = some c113 := by kernel_rfl
theorem k114 : cFunc Try.prog Try.f114 = some c114 := by kernel_rfl
theorem k115 : cFunc Try.prog Try.f115 = some c115 := by kernel_rfl
theorem k116 : cFunc Try.prog Try.f116 = some c116 := by kernel_rfl
theorem k117 : cFunc Try.prog Try.f117 = some c117 := by kernel_rfl
theorem k118 : cFunc Try.prog Try.f118 = some c118 := by kernel_rfl
theorem k119 : cFunc Try.prog Try.f119 = some c119 := by kernel_rfl
theorem k120 : cFunc Try.prog Try.f120 = some c120 := by kernel_rfl
theorem k121 : cFunc Try.prog Try.f121 = some c121 := by kernel_rfl
theorem k122 : cFunc Try.prog Try.f122 = some c122 := by kernel_rfl
theorem k123 : cFunc Try.prog Try.f123 = some c123 := by kernel_rfl
theorem k127 : cFunc Try.prog Try.f127 = some c127 := by kernel_rfl
theorem k128 : cFunc Try.prog Try.f128 = some c128 := by kernel_rfl
theorem k129 : cFunc Try.prog Try.f129 = some c129 := by kernel_rfl
theorem k131 : cFunc Try.prog Try.f131 = some c131 := by kernel_rfl
theorem k132 : cFunc Try.prog Try.f132 = some c132 := by kernel_rfl
theorem k133 : cFunc Try.prog Try.f133 = some c133 := by kernel_rfl
theorem k134 : cFunc Try.prog Try.f134 = some c134 := by kernel_rfl
theorem k135 : cFunc Try.prog Try.f135 = some c135 := by kernel_rfl
theorem k136 : cFunc Try.prog Try.f136 = some c136 := by kernel_rfl
theorem k137 : cFunc Try.prog Try.f137 = some c137 := by kernel_rfl
theorem k138 : cFunc Try.prog Try.f138 = some c138 := by kernel_rfl
theorem k140 : ExtSim Try.prog ext 140 1 := ext_indexByte rfl Try.func140 (by kernel_rfl) (by kernel_rfl) (by kernel_rfl) (by kernel_rfl)
theorem k141 : cFunc Try.prog Try.f141 = some c141 := by kernel_rfl
theorem k142 : cFunc Try.prog Try.f142 = some c142 := by kernel_rfl
theorem cond_some {α : Type} {b : Bool} {x y : Option α} {v : α} (h : cond b x y = some v) : (b = true ∧ x = some v) ∨ (b = false ∧ y = some v) := by cases b <;> simp_all
theorem progOk0 : ProgOk Try.prog ext prog0 := by
  refine ⟨rfl, by decide +kernel, ?_⟩
  intro f rf h
  unfold prog0 at h
  rcases cond_some h with ⟨_, h⟩ | ⟨_, h⟩
  · skip
    rcases cond_some h with ⟨_, h⟩ | ⟨_, h⟩
    · skip
      rcases cond_some h with ⟨_, h⟩ | ⟨_, h⟩
      · skip
        rcases cond_some h with ⟨_, h⟩ | ⟨_, h⟩
        · skip
          rcases cond_some h with ⟨_, h⟩ | ⟨_, h⟩
          · skip
            rcases cond_some h with ⟨hb, h⟩ | ⟨_, h⟩
            · obtain rfl := Nat.eq_of_beq_eq_true hb; cases h; exact Or.inl ⟨Try.f12, _, Try.func12, rfl, k12⟩
            · cases h
          · skip
            rcases cond_some h with ⟨_, h⟩ | ⟨_, h⟩
            · skip
              rcases cond_some h with ⟨hb, h⟩ | ⟨_, h⟩
              · obtain rfl := Nat.eq_of_beq_eq_true hb; cases h; exact Or.inl ⟨Try.f14, _, Try.func14, rfl, k14⟩
              · cases h
            · skip
              rcases cond_some h with ⟨hb, h⟩ | ⟨_, h⟩
              · obtain rfl := Nat.eq_of_beq_eq_true hb; cases h; exact Or.inl ⟨Try.f15, _, Try.func15, rfl, k15⟩
              · cases h
        · skip
          rcases cond_some h with ⟨_, h⟩ | ⟨_, h⟩
          · skip
            rcases cond_some h with ⟨_, h⟩ | ⟨_, h⟩
            · skip
              rcases cond_some h with ⟨hb, h⟩ | ⟨_, h⟩
              · obtain rfl := Nat.eq_of_beq_eq_true hb; cases h; exact Or.inl ⟨Try.f17, _, Try.func17, rfl, k17⟩
              · cases h
            · skip
              rcases cond_some h with ⟨hb, h⟩ | ⟨_, h⟩
              · obtain rfl := Nat.eq_of_beq_eq_true hb; cases h; exact Or.inl ⟨Try.f18, _, Try.func18, rfl, k18⟩
              · cases h
          · skip
            rcases cond_some h with ⟨_, h⟩ | ⟨_, h⟩
            · skip
              rcases cond_some h with ⟨hb, h⟩ | ⟨_, h⟩
              · obtain rfl := Nat.eq_of_beq_eq_true hb; cases h; exact Or.inl ⟨Try.f27, _, Try.func27, rfl, k27⟩
              · cases h
            · skip
              rcases cond_some h with ⟨hb, h⟩ | ⟨_, h⟩
              · obtain rfl := Nat.eq_of_beq_eq_true hb; cases h; exact Or.inl ⟨Try.f47, _, Try.func47, rfl, k47⟩
              · cases h
      · skip
        rcases cond_some h with ⟨_, h⟩ | ⟨_, h⟩
        · skip
          rcases cond_some h with ⟨_, h⟩ | ⟨_, h⟩
          · skip
            rcases cond_some h with ⟨_, h⟩ | ⟨_, h⟩
            · skip
              rcases cond_some h with ⟨hb, h⟩ | ⟨_, h⟩
              · obtain rfl := Nat.eq_of_beq_eq_true hb; cases h; exact Or.inl ⟨Try.f48, _, Try.func48, rfl, k48⟩
              · cases h
            · skip
              rcases cond_some h with ⟨hb, h⟩ | ⟨_, h⟩
              · obtain rfl := Nat.eq_of_beq_eq_true hb; cases h; exact Or.inl ⟨Try.f50, _, Try.func50, rfl, k50⟩
              · cases h
          · skip
            rcases cond_some h with ⟨_, h⟩ | ⟨_, h⟩
            · skip
              rcases cond_some h with ⟨hb, h⟩ | ⟨_, h⟩
              · obtain rfl := Nat.eq_of_beq_eq_true hb; cases h; exact Or.inl ⟨Try.f51, _, Try.func51, rfl, k51⟩
              · cases h
            · skip
              rcases cond_some h with ⟨hb, h⟩ | ⟨_, h⟩
              · obtain rfl := Nat.eq_of_beq_eq_true hb; cases h; exact Or.inl ⟨Try.f52, _, Try.func52, rfl, k52⟩
              · cases h
        · skip
          rcases cond_some h with ⟨_, h⟩ | ⟨_, h⟩
          · skip
            rcases cond_some h with ⟨_, h⟩ | ⟨_, h⟩
            · skip
              rcases cond_some h with ⟨hb, h⟩ | ⟨_, h⟩
              · obtain rfl := Nat.eq_of_beq_eq_true hb; cases h; exact Or.inl ⟨Try.f53, _, Try.func53, rfl, k53⟩
              · cases h
            · skip
              rcases cond_some h with ⟨hb, h⟩ | ⟨_, h⟩
              · obtain rfl := Nat.eq_of_beq_eq_true hb; cases h; exact Or.inl ⟨Try.f56, _, Try.func56, rfl, k56⟩
              · cases h
          · skip
            rcases cond_some h with ⟨_, h⟩ | ⟨_, h⟩
            · skip
              rcases cond_some h with ⟨hb, h⟩ | ⟨_, h⟩
              · obtain rfl := Nat.eq_of_beq_eq_true hb; cases h; exact Or.inl ⟨Try.f57, _, Try.func57, rfl, k57⟩
              · cases h
            · skip
              rcases cond_some h with ⟨hb, h⟩ | ⟨_, h⟩
              · obtain rfl := Nat.eq_of_beq_eq_true hb; cases h; exact Or.inl ⟨Try.f58, _, Try.func58, rfl, k58⟩
              · cases h
    · skip
      rcases cond_some h with ⟨_, h⟩ | ⟨_, h⟩
      · skip
        rcases cond_some h with ⟨_, h⟩ | ⟨_, h⟩
        · skip
          rcases cond_some h with ⟨_, h⟩ | ⟨_, h⟩
          · skip
            rcases cond_some h with ⟨hb, h⟩ | ⟨_, h⟩
            · obtain rfl := Nat.eq_of_beq_eq_true hb; cases h; exact Or.inl ⟨Try.f59, _, Try.func59, rfl, k59⟩
            · cases h
          · skip
            rcases cond_some h with ⟨_, h⟩ | ⟨_, h⟩
            · skip
              rcases cond_some h with ⟨hb, h⟩ | ⟨_, h⟩
              · obtain rfl := Nat.eq_of_beq_eq_true hb; cases h; exact Or.inl ⟨Try.f60, _, Try.func60, rfl, k60⟩
              · cases h
            · skip
              rcases cond_some h with ⟨hb, h⟩ | ⟨_, h⟩
              · obtain rfl := Nat.eq_of_beq_eq_true hb; cases h; exact Or.inl ⟨Try.f61, _, Try.func61, rfl, k61⟩
              · cases h
        · skip
          rcases cond_some h with ⟨_, h⟩ | ⟨_, h⟩
          · skip
            rcases cond_some h with ⟨_, h⟩ | ⟨_, h⟩
            · skip
              rcases cond_some h with ⟨hb, h⟩ | ⟨_, h⟩
              · obtain rfl := Nat.eq_of_beq_eq_true hb; cases h; exact Or.inl ⟨Try.f62, _, Try.func62, rfl, k62⟩
              · cases h
            · skip
              rcases cond_some h with ⟨hb, h⟩ | ⟨_, h⟩
              · obtain rfl := Nat.eq_of_beq_eq_true hb; cases h; exact Or.inl ⟨Try.f72, _, Try.func72, rfl, k72⟩
              · cases h
          · skip
            rcases cond_some h with ⟨_, h⟩ | ⟨_, h⟩
            · skip
              rcases cond_some h with ⟨hb, h⟩ | ⟨_, h⟩
              · obtain rfl := Nat.eq_of_beq_eq_true hb; cases h; exact Or.inl ⟨Try.f73, _, Try.func73, rfl, k73⟩
              · cases h
            · skip
              rcases cond_some h with ⟨hb, h⟩ | ⟨_, h⟩
              · obtain rfl := Nat.eq_of_beq_eq_true hb; cases h; exact Or.inl ⟨Try.f79, _, Try.func79, rfl, k79⟩
              · cases h
      · skip
        rcases cond_some h with ⟨_, h⟩ | ⟨_, h⟩
        · skip
          rcases cond_some h with ⟨_, h⟩ | ⟨_, h⟩
          · skip
            rcases cond_some h with ⟨_, h⟩ | ⟨_, h⟩
            · skip
              rcases cond_some h with ⟨hb, h⟩ | ⟨_, h⟩
              · obtain rfl := Nat.eq_of_beq_eq_true hb; cases h; exact Or.inl ⟨Try.f86, _, Try.func86, rfl, k86⟩
              · cases h
            · skip
              rcases cond_some h with ⟨hb, h⟩ | ⟨_, h⟩
              · obtain rfl := Nat.eq_of_beq_eq_true hb; cases h; exact Or.inl ⟨Try.f90, _, Try.func90, rfl, k90⟩
              · cases h
          · skip
            rcases cond_some h with ⟨_, h⟩ | ⟨_, h⟩
            · skip
              rcases cond_some h with ⟨hb, h⟩ | ⟨_, h⟩
              · obtain rfl := Nat.eq_of_beq_eq_true hb; cases h; exact Or.inl ⟨Try.f91, _, Try.func91, rfl, k91⟩
              · cases h
            · skip
              rcases cond_some h with ⟨hb, h⟩ | ⟨_, h⟩
              · obtain rfl := Nat.eq_of_beq_eq_true hb; cases h; exact Or.inl ⟨Try.f93, _, Try.func93, rfl, k93⟩
              · cases h
        · skip
          rcases cond_some h with ⟨_, h⟩ | ⟨_, h⟩
          · skip
            rcases cond_some h with ⟨_, h⟩ | ⟨_, h⟩
            · skip
              rcases cond_some h with ⟨hb, h⟩ | ⟨_, h⟩
              · obtain rfl := Nat.eq_of_beq_eq_true hb; cases h; exact Or.inl ⟨Try.f94, _, Try.func94, rfl, k94⟩
              · cases h
            · skip
              rcases cond_some h with ⟨hb, h⟩ | ⟨_, h⟩
              · obtain rfl := Nat.eq_of_beq_eq_true hb; cases h; exact Or.inl ⟨Try.f95, _, Try.func95, rfl, k95⟩
              · cases h
          · skip
            rcases cond_some h with ⟨_, h⟩ | ⟨_, h⟩
            · skip
              rcases cond_some h with ⟨hb, h⟩ | ⟨_, h⟩
              · obtain rfl := Nat.eq_of_beq_eq_true hb; cases h; exact Or.inl ⟨Try.f96, _, Try.func96, rfl, k96⟩
              · cases h
            · skip
              rcases cond_some h with ⟨hb, h⟩ | ⟨_, h⟩
              · obtain rfl := Nat.eq_of_beq_eq_true hb; cases h; exact Or.inl ⟨Try.f97, _, Try.func97, rfl, k97⟩
              · cases h
  · skip
    rcases cond_some h with ⟨_, h⟩ | ⟨_, h⟩
    · skip
      rcases cond_some h with ⟨_, h⟩ | ⟨_, h⟩
      · skip
        rcases cond_some h with ⟨_, h⟩ | ⟨_, h⟩
        · skip
          rcases cond_some h with ⟨_, h⟩ | ⟨_, h⟩
          · skip
            rcases cond_some h with ⟨hb, h⟩ | ⟨_, h⟩
            · obtain rfl := Nat.eq_of_beq_eq_true hb; cases h; exact Or.inl ⟨Try.f98, _, Try.func98, rfl, k98⟩
            · cases h
          · skip
            rcases cond_some h with ⟨_, h⟩ | ⟨_, h⟩
            · skip
              rcases cond_some h with ⟨hb, h⟩ | ⟨_, h⟩
              · obtain rfl := Nat.eq_of_beq_eq_true hb; cases h; exact Or.inl ⟨Try.f99, _, Try.func99, rfl, k99⟩
              · cases h
            · skip
              rcases cond_some h with ⟨hb, h⟩ | ⟨_, h⟩
              · obtain rfl := Nat.eq_of_beq_eq_true hb; cases h; exact Or.inl ⟨Try.f103, _, Try.func103, rfl, k103⟩
              · cases h
        · skip
          rcases cond_some h with ⟨_, h⟩ | ⟨_, h⟩
          · skip
            rcases cond_some h with ⟨_, h⟩ | ⟨_, h⟩
            · skip
              rcases cond_some h with ⟨hb, h⟩ | ⟨_, h⟩
              · obtain rfl := Nat.eq_of_beq_eq_true hb; cases h; exact Or.inl ⟨Try.f110, _, Try.func110, rfl, k110⟩
              · cases h
            · skip
              rcases cond_some h with ⟨hb, h⟩ | ⟨_, h⟩
              · obtain rfl := Nat.eq_of_beq_eq_true hb; cases h; exact Or.inr ⟨0, rfl, k111⟩
              · cases h
          · skip
            rcases cond_some h with ⟨_, h⟩ | ⟨_, h⟩
            · skip
              rcases cond_some h with ⟨hb, h⟩ | ⟨_, h⟩
              · obtain rfl := Nat.eq_of_beq_eq_true hb; cases h; exact Or.inl ⟨Try.f112, _, Try.func112, rfl, k112⟩
              · cases h
            · skip
              rcases cond_some h with ⟨hb, h⟩ | ⟨_, h⟩
              · obtain rfl := Nat.eq_of_beq_eq_true hb; cases h; exact Or.inl ⟨Try.f113, _, Try.func113, rfl, k113⟩
              · cases h
      · skip
        rcases cond_some h with ⟨_, h⟩ | ⟨_, h⟩
        · skip
          rcases cond_some h with ⟨_, h⟩ | ⟨_, h⟩
          · skip
            rcases cond_some h with ⟨_, h⟩ | ⟨_, h⟩
            · skip
              rcases cond_some h with ⟨hb, h⟩ | ⟨_, h⟩
              · obtain rfl := Nat.eq_of_beq_eq_true hb; cases h; exact Or.inl ⟨Try.f114, _, Try.func114, rfl, k114⟩
              · cases h
            · skip
              rcases cond_some h with ⟨hb, h⟩ | ⟨_, h⟩
              · obtain rfl := Nat.eq_of_beq_eq_true hb; cases h; exact Or.inl ⟨Try.f115, _, Try.func115, rfl, k115⟩
              · cases h
          · skip
            rcases cond_some h with ⟨_, h⟩ | ⟨_, h⟩
            · skip
              rcases cond_some h with ⟨hb, h⟩ | ⟨_, h⟩
              · obtain rfl := Nat.eq_of_beq_eq_true hb; cases h; exact Or.inl ⟨Try.f116, _, Try.func116, rfl, k116⟩
              · cases h
            · skip
              rcases cond_some h with ⟨hb, h⟩ | ⟨_, h⟩
              · obtain rfl := Nat.eq_of_beq_eq_true hb; cases h; exact Or.inl ⟨Try.f117, _, Try.func117, rfl, k117⟩
              · cases h
        · skip
          rcases cond_some h with ⟨_, h⟩ | ⟨_, h⟩
          · skip
            rcases cond_some h with ⟨_, h⟩ | ⟨_, h⟩
            · skip
              rcases cond_some h with ⟨hb, h⟩ | ⟨_, h⟩
              · obtain rfl := Nat.eq_of_beq_eq_true hb; cases h; exact Or.inl ⟨Try.f118, _, Try.func118, rfl, k118⟩
              · cases h
            · skip
              rcases cond_some h with ⟨hb, h⟩ | ⟨_, h⟩
              · obtain rfl := Nat.eq_of_beq_eq_true hb; cases h; exact Or.inl ⟨Try.f119, _, Try.func119, rfl, k119⟩
              · cases h
          · skip
            rcases cond_some h with ⟨_, h⟩ | ⟨_, h⟩
            · skip
              rcases cond_some h with ⟨hb, h⟩ | ⟨_, h⟩
              · obtain rfl := Nat.eq_of_beq_eq_true hb; cases h; exact Or.inl ⟨Try.f120, _, Try.func120, rfl, k120⟩
              · cases h
            · skip
              rcases cond_some h with ⟨hb, h⟩ | ⟨_, h⟩
              · obtain rfl := Nat.eq_of_beq_eq_true hb; cases h; exact Or.inl ⟨Try.f121, _, Try.func121, rfl, k121⟩
              · cases h
    · skip
      rcases cond_some h with ⟨_, h⟩ | ⟨_, h⟩
      · skip
        rcases cond_some h with ⟨_, h⟩ | ⟨_, h⟩
        · skip
          rcases cond_some h with ⟨_, h⟩ | ⟨_, h⟩
          · skip
            rcases cond_some h with ⟨_, h⟩ | ⟨_, h⟩
            · skip
              rcases cond_some h with ⟨hb, h⟩ | ⟨_, h⟩
              · obtain rfl := Nat.eq_of_beq_eq_true hb; cases h; exact Or.inl ⟨Try.f122, _, Try.func122, rfl, k122⟩
              · cases h
            · skip
              rcases cond_some h with ⟨hb, h⟩ | ⟨_, h⟩
              · obtain rfl := Nat.eq_of_beq_eq_true hb; cases h; exact Or.inl ⟨Try.f123, _, Try.func123, rfl, k123⟩
              · cases h
          · skip
            rcases cond_some h with ⟨_, h⟩ | ⟨_, h⟩
            · skip
              rcases cond_some h with ⟨hb, h⟩ | ⟨_, h⟩
              · obtain rfl := Nat.eq_of_beq_eq_true hb; cases h; exact Or.inl ⟨Try.f127, _, Try.func127, rfl, k127⟩
              · cases h
            · skip
              rcases cond_some h with ⟨hb, h⟩ | ⟨_, h⟩
              · obtain rfl := Nat.eq_of_beq_eq_true hb; cases h; exact Or.inl ⟨Try.f128, _, Try.func128, rfl, k128⟩
              · cases h
        · skip
          rcases cond_some h with ⟨_, h⟩ | ⟨_, h⟩
          · skip
            rcases cond_some h with ⟨_, h⟩ | ⟨_, h⟩
            · skip
              rcases cond_some h with ⟨hb, h⟩ | ⟨_, h⟩
              · obtain rfl := Nat.eq_of_beq_eq_true hb; cases h; exact Or.inl ⟨Try.f129, _, Try.func129, rfl, k129⟩
              · cases h
            · skip
              rcases cond_some h with ⟨hb, h⟩ | ⟨_, h⟩
              · obtain rfl := Nat.eq_of_beq_eq_true hb; cases h; exact Or.inl ⟨Try.f131, _, Try.func131, rfl, k131⟩
              · cases h
          · skip
            rcases cond_some h with ⟨_, h⟩ | ⟨_, h⟩
            · skip
              rcases cond_some h with ⟨hb, h⟩ | ⟨_, h⟩
              · obtain rfl := Nat.eq_of_beq_eq_true hb; cases h; exact Or.inl ⟨Try.f132, _, Try.func132, rfl, k132⟩
              · cases h
            · skip
              rcases cond_some h with ⟨hb, h⟩ | ⟨_, h⟩
              · obtain rfl := Nat.eq_of_beq_eq_true hb; cases h; exact Or.inl ⟨Try.f133, _, Try.func133, rfl, k133⟩
              · cases h
      · skip
        rcases cond_some h with ⟨_, h⟩ | ⟨_, h⟩
        · skip
          rcases cond_some h with ⟨_, h⟩ | ⟨_, h⟩
          · skip
            rcases cond_some h with ⟨_, h⟩ | ⟨_, h⟩
            · skip
              rcases cond_some h with ⟨hb, h⟩ | ⟨_, h⟩
              · obtain rfl := Nat.eq_of_beq_eq_true hb; cases h; exact Or.inl ⟨Try.f134, _, Try.func134, rfl, k134⟩
              · cases h
            · skip
              rcases cond_some h with ⟨hb, h⟩ | ⟨_, h⟩
              · obtain rfl := Nat.eq_of_beq_eq_true hb; cases h; exact Or.inl ⟨Try.f135, _, Try.func135, rfl, k135⟩
              · cases h
          · skip
            rcases cond_some h with ⟨_, h⟩ | ⟨_, h⟩
            · skip
              rcases cond_some h with ⟨hb, h⟩ | ⟨_, h⟩
              · obtain rfl := Nat.eq_of_beq_eq_true hb; cases h; exact Or.inl ⟨Try.f136, _, Try.func136, rfl, k136⟩
              · cases h
            · skip
              rcases cond_some h with ⟨hb, h⟩ | ⟨_, h⟩
              · obtain rfl := Nat.eq_of_beq_eq_true hb; cases h; exact Or.inl ⟨Try.f137, _, Try.func137, rfl, k137⟩
              · cases h
        · skip
          rcases cond_some h with ⟨_, h⟩ | ⟨_, h⟩
          · skip
            rcases cond_some h with ⟨_, h⟩ | ⟨_, h⟩
            · skip
              rcases cond_some h with ⟨hb, h⟩ | ⟨_, h⟩
              · obtain rfl := Nat.eq_of_beq_eq_true hb; cases h; exact Or.inl ⟨Try.f138, _, Try.func138, rfl, k138⟩
              · cases h
            · skip
              rcases cond_some h with ⟨hb, h⟩ | ⟨_, h⟩
              · obtain rfl := Nat.eq_of_beq_eq_true hb; cases h; exact Or.inr ⟨1, rfl, k140⟩
              · cases h
          · skip
            rcases cond_some h with ⟨_, h⟩ | ⟨_, h⟩
            · skip
              rcases cond_some h with ⟨hb, h⟩ | ⟨_, h⟩
              · obtain rfl := Nat.eq_of_beq_eq_true hb; cases h; exact Or.inl ⟨Try.f141, _, Try.func141, rfl, k141⟩
              · cases h
            · skip
              rcases cond_some h with ⟨hb, h⟩ | ⟨_, h⟩
              · obtain rfl := Nat.eq_of_beq_eq_true hb; cases h; exact Or.inl ⟨Try.f142, _, Try.func142, rfl, k142⟩
              · cases h
def isTrue : Option (AVal × AHeap) → Bool | some (.bool true, _) => true | _ => false
theorem isTrue_some {r : Option (AVal × AHeap)} (h : isTrue r = true) : ∃ H', r = some (.bool true, H') := by
  cases r with
  | none => cases h
  | some p =>
    obtain ⟨v, H'⟩ := p
    cases v with
    | bool b => cases b with
      | true => exact ⟨H', rfl⟩
      | false => cases h
    | _ => cases h
theorem awake_true : isTrue (callN ext prog0 300 12 [] (tableHeap Try.prog.globals.size aroundT)) = true := by
  rw [← xCallN_eq]
  kernel_rfl
theorem mixed : Try.prog.follows .mixedOrders = true := by kernel_rfl
theorem k12e : ExtSim Try.prog ext 12 3 := ext_closed mixed progOk0 (T := aroundT) Try.func12 rfl (by decide +kernel) (v := .bool true) rfl (by kernel_rfl) (isTrue_some awake_true) rfl
theorem progOk : ProgOk Try.prog ext prog := by
  refine ⟨rfl, by decide +kernel, ?_⟩
  intro f rf h
  unfold prog at h
  rcases cond_some h with ⟨_, h⟩ | ⟨_, h⟩
  · skip
    rcases cond_some h with ⟨_, h⟩ | ⟨_, h⟩
    · skip
      rcases cond_some h with ⟨_, h⟩ | ⟨_, h⟩
      · skip
        rcases cond_some h with ⟨_, h⟩ | ⟨_, h⟩
        · skip
          rcases cond_some h with ⟨_, h⟩ | ⟨_, h⟩
          · skip
            rcases cond_some h with ⟨hb, h⟩ | ⟨_, h⟩
            · obtain rfl := Nat.eq_of_beq_eq_true hb; cases h; exact Or.inl ⟨Try.f10, _, Try.func10, rfl, k10⟩
            · cases h
          · skip
            rcases cond_some h with ⟨hb, h⟩ | ⟨_, h⟩
            · obtain rfl := Nat.eq_of_beq_eq_true hb; cases h; exact Or.inr ⟨3, rfl, k12e⟩
            · cases h
        · skip
          rcases cond_some h with ⟨_, h⟩ | ⟨_, h⟩
          · skip
            rcases cond_some h with ⟨hb, h⟩ | ⟨_, h⟩
            · obtain rfl := Nat.eq_of_beq_eq_true hb; cases h; exact Or.inl ⟨Try.f20, _, Try.func20, rfl, k20⟩
            · cases h
          · skip
            rcases cond_some h with ⟨hb, h⟩ | ⟨_, h⟩
            · obtain rfl := Nat.eq_of_beq_eq_true hb; cases h; exact Or.inl ⟨Try.f31, _, Try.func31, rfl, k31⟩
            · cases h
      · skip
        rcases cond_some h with ⟨_, h⟩ | ⟨_, h⟩
        · skip
          rcases cond_some h with ⟨_, h⟩ | ⟨_, h⟩
          · skip
            rcases cond_some h with ⟨hb, h⟩ | ⟨_, h⟩
            · obtain rfl := Nat.eq_of_beq_eq_true hb; cases h; exact Or.inl ⟨Try.f35, _, Try.func35, rfl, k35⟩
            · cases h
          · skip
            rcases cond_some h with ⟨hb, h⟩ | ⟨_, h⟩
            · obtain rfl := Nat.eq_of_beq_eq_true hb; cases h; exact Or.inl ⟨Try.f36, _, Try.func36, rfl, k36⟩
            · cases h
        · skip
          rcases cond_some h with ⟨_, h⟩ | ⟨_, h⟩
          · skip
            rcases cond_some h with ⟨hb, h⟩ | ⟨_, h⟩
            · obtain rfl := Nat.eq_of_beq_eq_true hb; cases h; exact Or.inl ⟨Try.f45, _, Try.func45, rfl, k45⟩
            · cases h
          · skip
            rcases cond_some h with ⟨_, h⟩ | ⟨_, h⟩
            · skip
              rcases cond_some h with ⟨hb, h⟩ | ⟨_, h⟩
              · obtain rfl := Nat.eq_of_beq_eq_true hb; cases h; exact Or.inl ⟨Try.f46, _, Try.func46, rfl, k46⟩
              · cases h
            · skip
              rcases cond_some h with ⟨hb, h⟩ | ⟨_, h⟩
              · obtain rfl := Nat.eq_of_beq_eq_true hb; cases h; exact Or.inl ⟨Try.f50, _, Try.func50, rfl, k50⟩
              · cases h
    · skip
      rcases cond_some h with ⟨_, h⟩ | ⟨_, h⟩
      · skip
        rcases cond_some h with ⟨_, h⟩ | ⟨_, h⟩
        · skip
          rcases cond_some h with ⟨_, h⟩ | ⟨_, h⟩
          · skip
            rcases cond_some h with ⟨hb, h⟩ | ⟨_, h⟩
            · obtain rfl := Nat.eq_of_beq_eq_true hb; cases h; exact Or.inl ⟨Try.f51, _, Try.func51, rfl, k51⟩
            · cases h
          · skip
            rcases cond_some h with ⟨hb, h⟩ | ⟨_, h⟩
            · obtain rfl := Nat.eq_of_beq_eq_true hb; cases h; exact Or.inl ⟨Try.f64, _, Try.func64, rfl, k64⟩
            · cases h
        · skip
          rcases cond_some h with ⟨_, h⟩ | ⟨_, h⟩
          · skip
            rcases cond_some h with ⟨hb, h⟩ | ⟨_, h⟩
            · obtain rfl := Nat.eq_of_beq_eq_true hb; cases h; exact Or.inl ⟨Try.f75, _, Try.func75, rfl, k75⟩
            · cases h
          · skip
            rcases cond_some h with ⟨hb, h⟩ | ⟨_, h⟩
            · obtain rfl := Nat.eq_of_beq_eq_true hb; cases h; exact Or.inl ⟨Try.f79, _, Try.func79, rfl, k79⟩
            · cases h
      · skip
        rcases cond_some h with ⟨_, h⟩ | ⟨_, h⟩
        · skip
          rcases cond_some h with ⟨_, h⟩ | ⟨_, h⟩
          · skip
            rcases cond_some h with ⟨hb, h⟩ | ⟨_, h⟩
            · obtain rfl := Nat.eq_of_beq_eq_true hb; cases h; exact Or.inl ⟨Try.f80, _, Try.func80, rfl, k80⟩
            · cases h
          · skip
            rcases cond_some h with ⟨hb, h⟩ | ⟨_, h⟩
            · obtain rfl := Nat.eq_of_beq_eq_true hb; cases h; exact Or.inl ⟨Try.f81, _, Try.func81, rfl, k81⟩
            · cases h
        · skip
          rcases cond_some h with ⟨_, h⟩ | ⟨_, h⟩
          · skip
            rcases cond_some h with ⟨hb, h⟩ | ⟨_, h⟩
            · obtain rfl := Nat.eq_of_beq_eq_true hb; cases h; exact Or.inl ⟨Try.f82, _, Try.func82, rfl, k82⟩
            · cases h
          · skip
            rcases cond_some h with ⟨_, h⟩ | ⟨_, h⟩
            · skip
              rcases cond_some h with ⟨hb, h⟩ | ⟨_, h⟩
              · obtain rfl := Nat.eq_of_beq_eq_true hb; cases h; exact Or.inl ⟨Try.f85, _, Try.func85, rfl, k85⟩
              · cases h
            · skip
              rcases cond_some h with ⟨hb, h⟩ | ⟨_, h⟩
              · obtain rfl := Nat.eq_of_beq_eq_true hb; cases h; exact Or.inl ⟨Try.f86, _, Try.func86, rfl, k86⟩
              · cases h
  · skip
    rcases cond_some h with ⟨_, h⟩ | ⟨_, h⟩
    · skip
      rcases cond_some h with ⟨_, h⟩ | ⟨_, h⟩
      · skip
        rcases cond_some h with ⟨_, h⟩ | ⟨_, h⟩
        · skip
          rcases cond_some h with ⟨_, h⟩ | ⟨_, h⟩
          · skip
            rcases cond_some h with ⟨hb, h⟩ | ⟨_, h⟩
            · obtain rfl := Nat.eq_of_beq_eq_true hb; cases h; exact Or.inl ⟨Try.f88, _, Try.func88, rfl, k88⟩
            · cases h
          · skip
            rcases cond_some h with ⟨hb, h⟩ | ⟨_, h⟩
            · obtain rfl := Nat.eq_of_beq_eq_true hb; cases h; exact Or.inl ⟨Try.f89, _, Try.func89, rfl, k89⟩
            · cases h
        · skip
          rcases cond_some h with ⟨_, h⟩ | ⟨_, h⟩
          · skip
            rcases cond_some h with ⟨hb, h⟩ | ⟨_, h⟩
            · obtain rfl := Nat.eq_of_beq_eq_true hb; cases h; exact Or.inl ⟨Try.f90, _, Try.func90, rfl, k90⟩
            · cases h
          · skip
            rcases cond_some h with ⟨hb, h⟩ | ⟨_, h⟩
            · obtain rfl := Nat.eq_of_beq_eq_true hb; cases h; exact Or.inl ⟨Try.f91, _, Try.func91, rfl, k91⟩
            · cases h
      · skip
        rcases cond_some h with ⟨_, h⟩ | ⟨_, h⟩
        · skip
          rcases cond_some h with ⟨_, h⟩ | ⟨_, h⟩
          · skip
            rcases cond_some h with ⟨hb, h⟩ | ⟨_, h⟩
            · obtain rfl := Nat.eq_of_beq_eq_true hb; cases h; exact Or.inl ⟨Try.f101, _, Try.func101, rfl, k101⟩
            · cases h
          · skip
            rcases cond_some h with ⟨hb, h⟩ | ⟨_, h⟩
            · obtain rfl := Nat.eq_of_beq_eq_true hb; cases h; exact Or.inl ⟨Try.f103, _, Try.func103, rfl, k103⟩
            · cases h
        · skip
          rcases cond_some h with ⟨_, h⟩ | ⟨_, h⟩
          · skip
            rcases cond_some h with ⟨hb, h⟩ | ⟨_, h⟩
            · obtain rfl := Nat.eq_of_beq_eq_true hb; cases h; exact Or.inl ⟨Try.f104, _, Try.func104, rfl, k104⟩
            · cases h
          · skip
            rcases cond_some h with ⟨_, h⟩ | ⟨_, h⟩
            · skip
              rcases cond_some h with ⟨hb, h⟩ | ⟨_, h⟩
              · obtain rfl := Nat.eq_of_beq_eq_true hb; cases h; exact Or.inl ⟨Try.f105, _, Try.func105, rfl, k105⟩
              · cases h
            · skip
              rcases cond_some h with ⟨hb, h⟩ | ⟨_, h⟩
              · obtain rfl := Nat.eq_of_beq_eq_true hb; cases h; exact Or.inl ⟨Try.f109, _, Try.func109, rfl, k109⟩
              · cases h
    · skip
      rcases cond_some h with ⟨_, h⟩ | ⟨_, h⟩
      · skip
        rcases cond_some h with ⟨_, h⟩ | ⟨_, h⟩
        · skip
          rcases cond_some h with ⟨_, h⟩ | ⟨_, h⟩
          · skip
            rcases cond_some h with ⟨hb, h⟩ | ⟨_, h⟩
            · obtain rfl := Nat.eq_of_beq_eq_true hb; cases h; exact Or.inl ⟨Try.f110, _, Try.func110, rfl, k110⟩
            · cases h
          · skip
            rcases cond_some h with ⟨hb, h⟩ | ⟨_, h⟩
            · obtain rfl := Nat.eq_of_beq_eq_true hb; cases h; exact Or.inr ⟨0, rfl, k111⟩
            · cases h
        · skip
          rcases cond_some h with ⟨_, h⟩ | ⟨_, h⟩
          · skip
            rcases cond_some h with ⟨hb, h⟩ | ⟨_, h⟩
            · obtain rfl := Nat.eq_of_beq_eq_true hb; cases h; exact Or.inl ⟨Try.f112, _, Try.func112, rfl, k112⟩
            · cases h
          · skip
            rcases cond_some h with ⟨_, h⟩ | ⟨_, h⟩
            · skip
              rcases cond_some h with ⟨hb, h⟩ | ⟨_, h⟩
              · obtain rfl := Nat.eq_of_beq_eq_true hb; cases h; exact Or.inl ⟨Try.f127, _, Try.func127, rfl, k127⟩
              · cases h
            · skip
              rcases cond_some h with ⟨hb, h⟩ | ⟨_, h⟩
              · obtain rfl := Nat.eq_of_beq_eq_true hb; cases h; exact Or.inl ⟨Try.f128, _, Try.func128, rfl, k128⟩
              · cases h
      · skip
        rcases cond_some h with ⟨_, h⟩ | ⟨_, h⟩
        · skip
          rcases cond_some h with ⟨_, h⟩ | ⟨_, h⟩
          · skip
            rcases cond_some h with ⟨hb, h⟩ | ⟨_, h⟩
            · obtain rfl := Nat.eq_of_beq_eq_true hb; cases h; exact Or.inl ⟨Try.f129, _, Try.func129, rfl, k129⟩
            · cases h
          · skip
            rcases cond_some h with ⟨hb, h⟩ | ⟨_, h⟩
            · obtain rfl := Nat.eq_of_beq_eq_true hb; cases h; exact Or.inl ⟨Try.f131, _, Try.func131, rfl, k131⟩
            · cases h
        · skip
          rcases cond_some h with ⟨_, h⟩ | ⟨_, h⟩
          · skip
            rcases cond_some h with ⟨hb, h⟩ | ⟨_, h⟩
            · obtain rfl := Nat.eq_of_beq_eq_true hb; cases h; exact Or.inl ⟨Try.f132, _, Try.func132, rfl, k132⟩
            · cases h
          · skip
            rcases cond_some h with ⟨_, h⟩ | ⟨_, h⟩
            · skip
              rcases cond_some h with ⟨hb, h⟩ | ⟨_, h⟩
              · obtain rfl := Nat.eq_of_beq_eq_true hb; cases h; exact Or.inr ⟨1, rfl, k140⟩
              · cases h
            · skip
              rcases cond_some h with ⟨hb, h⟩ | ⟨_, h⟩
              · obtain rfl := Nat.eq_of_beq_eq_true hb; cases h; exact Or.inl ⟨Try.f141, _, Try.func141, rfl, k141⟩
              · cases h
end Go.Am

namespace Go.Proofs.Ytpochhefklmnfaa.Laid
open Go.ChangeShapes Go.WideShapes Go.ChangeAt Go.RowKit Go.Am
theorem own : ownKnob Try.prog.godebug = none := by kernel_rfl
theorem laidOut : laidOutB Try.prog = true := by kernel_rfl
theorem rowed : mapsRowed Try.prog = true := by kernel_rfl
theorem full : ∀ t e, t < Try.prog.types.size → Try.prog.underlying t = some (.slice e) → 0 < Try.prog.cellsOf e := slices_full_of Try.prog (by kernel_rfl)
theorem around_cells {W : World} : ∀ t ∈ aroundT, ∀ (i : Nat) (v : AVal), t.2[i]? = some v → ∃ x, emb (fun _ => none) v = some x ∧ W.cell? ⟨t.1, i, none⟩ = some x := by
  intro t ht; cases ht
noncomputable def laidWorld (os : Os) : World := World.holding Try.prog os ⟨#[], #[], []⟩
end Go.Proofs.Ytpochhefklmnfaa.Laid

namespace Go.Am
open Go
def madeOk (op : ROp) (fr : AFrame) (ref : Nat) (H : AHeap) : Bool := match op.made fr with
  | some (cs, e, _) => ghostIs H ref cs e
  | none => false
def WpE (call : ACall) (n ref : Nat) (its : List DItem) (H0 : AHeap) (E : List (Nat × AHeap)) (Rd : List (Nat × (AHeap → Bool))) (fr : AFrame) (H : AHeap) (K : AFrame → AHeap → Prop) : Prop :=
  ∀ R0 E0 Rd0, R0.length = n → (∀ p ∈ E0, p ∈ E) → (∀ p ∈ Rd0, (p.1, DRec.okAt p.2) ∈ Rd) → DInv R0 H0 H E0 Rd0 → ∃ R1 fr' H', dtext call its ref fr H = some (R1, fr', H') ∧ dcheck (R0 ++ R1) H0 (R0 ++ R1) 0 = true ∧ K fr' H'
def AllE (b : Nat) (ok : AHeap → Prop) : List (Nat × AHeap) → Prop
  | [] => True
  | p :: l => (b.testBit p.1 = true ∨ ok p.2) ∧ AllE b ok l
def AllR (b : Nat) (H : AHeap) : List (Nat × (AHeap → Bool)) → Prop
  | [] => True
  | p :: l => (b.testBit p.1 = true ∨ p.2 H = true) ∧ AllR b H l
theorem AllE.imp {b : Nat} {ok ok' : AHeap → Prop} (f : ∀ H, ok H → ok' H) : ∀ {l : List (Nat × AHeap)}, AllE b ok l → AllE b ok' l
  | [], _ => trivial
  | _ :: _, h => ⟨h.1.imp id (f _), AllE.imp f h.2⟩
theorem AllE.get {b : Nat} {ok : AHeap → Prop} {l : List (Nat × AHeap)} (h : AllE b ok l) : ∀ p ∈ l, b.testBit p.1 = true ∨ ok p.2 := by
  induction l with
  | nil => simp
  | cons q l ih => intro p hp; rcases List.mem_cons.1 hp with rfl | hp; exact h.1; exact ih h.2 p hp
theorem AllR.get {b : Nat} {H : AHeap} {l : List (Nat × (AHeap → Bool))} (h : AllR b H l) : ∀ p ∈ l, b.testBit p.1 = true ∨ p.2 H = true := by
  induction l with
  | nil => simp
  | cons q l ih => intro p hp; rcases List.mem_cons.1 hp with rfl | hp; exact h.1; exact ih h.2 p hp
theorem madeOk_eq {r : DRec} (hc : Nat.beq r.cls 3 = true) : r.okAt = madeOk r.o.op r.fr r.ref := by
  funext H
  unfold DRec.okAt madeOk
  rw [hc]
  rfl
section
variable {call : ACall} {lf n ref : Nat} {its : List DItem} {H0 H H1 : AHeap} {E : List (Nat × AHeap)} {Rd : List (Nat × (AHeap → Bool))} {fr : AFrame} {K : AFrame → AHeap → Prop} {Q : RExit → AFrame → AHeap → Prop} {op : ROp} {v : AVal} {b : Nat} {pre : Bool} {g : Option (Nat × Bool)}
theorem WpE.nil (h : K fr H) : WpE call n ref [] H0 E Rd fr H K := fun R0 E0 Rd0 _ _ _ hI => ⟨[], fr, H, rfl, by rw [List.append_nil]; exact hI.done, h⟩
theorem WpE.next {it : DItem} {R0 : List DRec} {r : DRec} {E' : List (Nat × AHeap)} {Rd' : List (Nat × (AHeap → Bool))} {E0' : List (Nat × AHeap)} {Rd0' : List (Nat × DRec)} {fr1 : AFrame} (hn : R0.length = n) (he : ∀ p ∈ E0', p ∈ E') (hrd : ∀ p ∈ Rd0', (p.1, DRec.okAt p.2) ∈ Rd')
    (hI : DInv (R0 ++ [r]) H0 H1 E0' Rd0') (hd : ∀ R1 fr' H', dtext call its (nextRef it.cls ref) fr1 H1 = some (R1, fr', H') → dtext call (it :: its) ref fr H = some (r :: R1, fr', H')) (h : WpE call (n + 1) (nextRef it.cls ref) its H0 E' Rd' fr1 H1 K) :
    ∃ R1 fr' H', dtext call (it :: its) ref fr H = some (R1, fr', H') ∧ dcheck (R0 ++ R1) H0 (R0 ++ R1) 0 = true ∧ K fr' H' := by
  obtain ⟨R1, fr', H', h1, h2, h3⟩ := h (R0 ++ [r]) E0' Rd0' (by simp [hn]) he hrd hI
  exact ⟨r :: R1, fr', H', hd _ _ _ h1, by rw [List.append_assoc] at h2; exact h2, h3⟩
theorem WpE.skip {d : Option Nat} {cls : Nat} (hw : ROper.wanted fr ⟨d, op, g⟩ = false) (h : WpE call (n + 1) (nextRef cls ref) its H0 E Rd (put fr d aundef) H K) : WpE call n ref (⟨⟨d, op, g⟩, b, cls, pre⟩ :: its) H0 E Rd fr H K := fun R0 E0 Rd0 hn he hrd hI =>
  WpE.next (r := ⟨⟨d, op, g⟩, b, cls, fr, aundef, false, false, H, ref⟩) hn he hrd (hI.plain rfl rfl) (fun R1 fr' H' hd => by
    simp only [dtext, hw, hd]) h
theorem WpE.pure {d : Option Nat} (hw : ROper.wanted fr ⟨d, op, g⟩ = true) (hx : op.exec noCall fr H = some (v, H)) (h : WpE call (n + 1) ref its H0 E Rd (put fr d v) H K) : WpE call n ref (⟨⟨d, op, g⟩, b, 0, pre⟩ :: its) H0 E Rd fr H K := fun R0 E0 Rd0 hn he hrd hI =>
  WpE.next (r := ⟨⟨d, op, g⟩, b, 0, fr, v, true, false, H, ref⟩) hn he hrd (hI.plain rfl rfl) (fun R1 fr' H' hd => by
    simp only [dtext, hw, dstep, look_of hx rfl]
    simp only [Nat.beq, nextRef] at hd ⊢
    simp [hd]) h
theorem WpE.look {d : Option Nat} (hw : ROper.wanted fr ⟨d, op, g⟩ = true) (hx : op.look fr H = some v) (hE : AllE b (fun H2 => op.look fr H2 = some v) E) (h : WpE call (n + 1) ref its H0 E ((n, readOk op fr v) :: Rd) (put fr d v) H K) : WpE call n ref (⟨⟨d, op, g⟩, b, 1, pre⟩ :: its) H0 E Rd fr H K := fun R0 E0 Rd0 hn he hrd hI =>
  WpE.next (r := ⟨⟨d, op, g⟩, b, 1, fr, v, true, false, H, ref⟩) (Rd0' := Rd0 ++ [(R0.length, ⟨⟨d, op, g⟩, b, 1, fr, v, true, false, H, ref⟩)]) hn he (by
      intro p hp
      rcases List.mem_append.1 hp with hp | hp
      · exact List.mem_cons_of_mem _ (hrd p hp)
      · simp only [List.mem_singleton] at hp
        subst hp
        rw [hn, readOk_eq rfl]
        exact List.mem_cons_self)
    (hI.read rfl (okAt_look rfl hx) (fun p hp => (hE.get p (he p hp)).imp id fun q => okAt_look rfl q)) (fun R1 fr' H' hd => by
    simp only [dtext, hw, dstep, hx]
    simp only [Nat.beq, nextRef] at hd ⊢
    simp [hd]) h
theorem WpE.read {d : Option Nat} (hw : ROper.wanted fr ⟨d, op, g⟩ = true) (hx : op.exec noCall fr H = some (v, H)) (hE : AllE b (fun H2 => op.exec noCall fr H2 = some (v, H2)) E) (h : WpE call (n + 1) ref its H0 E ((n, readOk op fr v) :: Rd) (put fr d v) H K) : WpE call n ref (⟨⟨d, op, g⟩, b, 1, pre⟩ :: its) H0 E Rd fr H K :=
  WpE.look hw (look_of hx rfl) (AllE.imp (fun H2 q => look_of q rfl) hE) h
theorem WpE.effect {d : Option Nat} (hw : ROper.wanted fr ⟨d, op, g⟩ = true) (hx : op.exec call fr H = some (v, H1)) (hR : AllR b H1 Rd) (h : WpE call (n + 1) ref its H0 ((n, H) :: E) Rd (put fr d v) H1 K) : WpE call n ref (⟨⟨d, op, g⟩, b, 2, pre⟩ :: its) H0 E Rd fr H K := fun R0 E0 Rd0 hn he hrd hI =>
  WpE.next (r := ⟨⟨d, op, g⟩, b, 2, fr, v, true, true, H1, ref⟩) (E0' := E0 ++ [(n, H)]) hn (by
      intro p hp
      rcases List.mem_append.1 hp with hp | hp
      · exact List.mem_cons_of_mem _ (he p hp)
      · simp only [List.mem_singleton] at hp
        subst hp
        exact List.mem_cons_self) hrd (by
      have := hI.effect (e := ⟨⟨d, op, g⟩, b, 2, fr, v, true, true, H1, ref⟩) rfl rfl fun p hp => hR.get (p.1, p.2.okAt) (hrd p hp)
      rw [hn] at this; exact this) (fun R1 fr' H' hd => by
    simp only [dtext, hw, dstep, hx]
    simp only [Nat.beq, nextRef] at hd ⊢
    simp [hd]) h
theorem WpE.made {d : Option Nat} {cs : List AVal} {e : TypeId} {k : Nat → AVal} (hw : ROper.wanted fr ⟨d, op, g⟩ = true) (hm : op.made fr = some (cs, e, k)) (hg : ghostIs H ref cs e = true) (hE : AllE b (fun H2 => ghostIs H2 ref cs e = true) E) (h : WpE call (n + 1) (ref + 1) its H0 E ((n, madeOk op fr ref) :: Rd) (put fr d (k ref)) H K) : WpE call n ref (⟨⟨d, op, g⟩, b, 3, pre⟩ :: its) H0 E Rd fr H K := fun R0 E0 Rd0 hn he hrd hI =>
  WpE.next (r := ⟨⟨d, op, g⟩, b, 3, fr, k ref, true, false, H, ref⟩) (Rd0' := Rd0 ++ [(R0.length, ⟨⟨d, op, g⟩, b, 3, fr, k ref, true, false, H, ref⟩)]) hn he (by
      intro p hp
      rcases List.mem_append.1 hp with hp | hp
      · exact List.mem_cons_of_mem _ (hrd p hp)
      · simp only [List.mem_singleton] at hp
        subst hp
        rw [hn, madeOk_eq rfl]
        exact List.mem_cons_self)
    (hI.read rfl (by simp only [DRec.okAt, Nat.beq, hm, hg]) (fun p hp => (hE.get p (he p hp)).imp id fun q => by simp only [DRec.okAt, Nat.beq, hm, q])) (fun R1 fr' H' hd => by
    simp only [dtext, hw, dstep]
    simp only [Nat.beq, nextRef, hm, hg] at hd ⊢
    simp [hd]) h
theorem ghost_of {r : Nat} {cs : List AVal} {e : TypeId} [h : HasRow H r cs true (2 * e)] : ghostIs H r cs e = true := by
  unfold ghostIs
  have hlt := h.lt
  simp only [h.get, abeqL_refl, Nat.beq_refl, Bool.and_true, Bool.and_self]
  simpa using hlt
theorem made_of {r : Nat} {cs : List AVal} {e : TypeId} {k : Nat → AVal} (hm : op.made fr = some (cs, e, k)) [h : HasRow H r cs true (2 * e)] : madeOk op fr r H = true := by
  unfold madeOk
  rw [hm]
  exact ghost_of
theorem Wp.dregionE (os : List AObj) (ho : oracle its H.n fr H = os) (h : WpE call 0 H.n its (pushAll H os) [] [] fr (pushAll H os) fun fr' H' => Q .normal fr' H') : Wp call lf (.dregion its) fr H Q := by
  obtain ⟨R1, fr', H', h1, h2, h3⟩ := h [] [] [] rfl (by simp) (by simp) (DInv.nil _)
  refine ⟨.normal, fr', H', ?_, h3⟩
  simp only [RCode.exec, ho, h1]
  simp only [List.nil_append] at h2
  rw [h2]
theorem Wp.dregion0 (hno : (its.all fun it => !(Nat.beq it.cls 3)) = true) (h : WpE call 0 H.n its H [] [] fr H fun fr' H' => Q .normal fr' H') : Wp call lf (.dregion its) fr H Q :=
  Wp.dregionE [] (oracle_none its H.n fr H hno) h
theorem oracle_pre {it : DItem} {os : List AObj} {v : AVal} {H2 : AHeap} (hc : Nat.beq it.cls 3 = false) (hp : it.pre = true) (hw : it.o.wanted fr = true) (hx : it.o.op.exec noCall fr H = some (v, H2)) (h : oracle its ref (put fr it.o.dst v) H = os) : oracle (it :: its) ref fr H = os := by
  simp only [oracle, hc, hp, hw, hx, h]
theorem oracle_made {it : DItem} {os : List AObj} {cs : List AVal} {e : TypeId} {k : Nat → AVal} (hc : Nat.beq it.cls 3 = true) (hw : it.o.wanted fr = true) (hm : it.o.op.made fr = some (cs, e, k)) (h : oracle its (ref + 1) (put fr it.o.dst (k ref)) H = os) : oracle (it :: its) ref fr H = .row cs true (2 * e) :: os := by
  simp only [oracle, hc, hw, hm, h]
end
theorem WpE.pcall {ext : Exts} {prog : FuncId → Option RFunc} {m dd D : Nat} {f : FuncId} {o : ROpd} {l : List ROpd} {args : List AVal} {v : AVal} {d : Option Nat} {n ref : Nat} {its : List DItem} {H0 H : AHeap} {E : List (Nat × AHeap)} {Rd : List (Nat × (AHeap → Bool))} {fr : AFrame} {K : AFrame → AHeap → Prop} {b : Nat} {pre : Bool} {g : Option (Nat × Bool)}
    (hw : ROper.wanted fr ⟨d, .call o l, g⟩ = true) (hn : fuel0 + D ≤ m) (hf : o.ev fr = .func (.func f) [] []) (hl : l.map (·.ev fr) = args) [hc : PureCon ext prog f args H dd v] (hd : Nat.ble dd D = true)
    (h : ∀ H1, ExtI H H1 → AllR b H1 Rd ∧ WpE (callN ext prog m) (n + 1) ref its H0 ((n, H) :: E) Rd (put fr d v) H1 K) : WpE (callN ext prog m) n ref (⟨⟨d, .call o l, g⟩, b, 2, pre⟩ :: its) H0 E Rd fr H K := by
  obtain ⟨v', H1, hx, hv, hext⟩ := exec_con hc.con (Nat.le_trans (Nat.add_le_add_left (Nat.le_of_ble_eq_true hd) _) hn) hf hl
  subst hv
  obtain ⟨h1, h2⟩ := h H1 ⟨hext⟩
  exact WpE.effect hw hx h1 h2
theorem WpE.con {ext : Exts} {prog : FuncId → Option RFunc} {m dd D : Nat} {f : FuncId} {o : ROpd} {l : List ROpd} {args : List AVal} {R : AVal → AHeap → Prop} {d : Option Nat} {n ref : Nat} {its : List DItem} {H0 H : AHeap} {E : List (Nat × AHeap)} {Rd : List (Nat × (AHeap → Bool))} {fr : AFrame} {K : AFrame → AHeap → Prop} {b : Nat} {pre : Bool} {g : Option (Nat × Bool)}
    (hw : ROper.wanted fr ⟨d, .call o l, g⟩ = true) (hn : fuel0 + D ≤ m) (hd : Nat.ble dd D = true) (hf : o.ev fr = .func (.func f) [] []) (hl : l.map (·.ev fr) = args) (hc : Con ext prog dd f args H R)
    (h : ∀ v H1, R v H1 → AllR b H1 Rd ∧ WpE (callN ext prog m) (n + 1) ref its H0 ((n, H) :: E) Rd (put fr d v) H1 K) : WpE (callN ext prog m) n ref (⟨⟨d, .call o l, g⟩, b, 2, pre⟩ :: its) H0 E Rd fr H K := by
  obtain ⟨v', H1, hx, hv⟩ := exec_con hc (Nat.le_trans (Nat.add_le_add_left (Nat.le_of_ble_eq_true hd) _) hn) hf hl
  obtain ⟨h1, h2⟩ := h v' H1 hv
  exact WpE.effect hw hx h1 h2
section
variable {call : ACall} {fr : AFrame} {H : AHeap}
theorem exec_ldN {a : ROpd} {n r off : Nat} {cs : List AVal} {rw : Bool} {e : TypeId} {l : List AVal} (ha : a.ev fr = .ptr r off) [hg : HasRow H r cs rw e] (hv : Nat.ble (off + n) cs.length = true) (hl : (cs.drop off).take n = l) : (ROp.load (some n) a).exec call fr H = some (.agg l, H) := by
  subst hl
  simp only [ROp.exec, ha, aLoad, M.bind, aRow, if_pos hg.lt, hg.get, if_pos (Nat.le_of_ble_eq_true hv), M.pure]
theorem exec_lenP {x : ROpd} {p : AVal} {sz n : Nat} {cs : List AVal} (hx : x.ev fr = p) [s : SliceAt H p sz n cs] : (ROp.lenS x).exec call fr H = some (.int .i64 n, H) := by
  simp only [ROp.exec, hx, s.lenS, M.ofOption, M.pure]
theorem exec_ldB {a : ROpd} {p : AVal} {j : Nat} {l : List UInt8} (ha : a.ev fr = .ptr (rowOf p) (offOf p + j)) [s : BytesI H p l] (hj : j < l.length) : (ROp.load none a).exec call fr H = some (.int .u8 (l[j].toNat : Int), H) := exec_ldP ha (get_bytes hj)
theorem exec_ldI {a : ROpd} {p : AVal} {j : Nat} {l : List Int} (ha : a.ev fr = .ptr (rowOf p) (offOf p + j)) [s : IntsI H p l] (hj : j < l.length) : (ROp.load none a).exec call fr H = some (.int .i64 l[j], H) := exec_ldP ha (get_ints hj)
theorem exec_build {z : List AVal} {ps : List (Nat × Nat × ROpd)} {cs : List AVal} (hf : aFill fr z ps = some cs) : (ROp.build z ps).exec call fr H = some (.agg cs, H) := by simp only [ROp.exec, hf, M.pure]
end
end Go.Am

namespace Go.Am
open Go
theorem ofInt_u8 (a : UInt8) : BitVec.ofInt 8 (a.toNat : Int) = a.toBitVec := by
  apply BitVec.eq_of_toNat_eq
  rw [BitVec.ofInt_natCast, BitVec.toNat_ofNat]
  have := a.toNat_lt
  exact Nat.mod_eq_of_lt (by omega)
theorem wrap_u8 {n : Nat} (h : n < 256) : IntKind.u8.wrap (n : Int) = (n : Int) := by
  have h1 : IntKind.u8.wrap (n : Int) = if (false && decide ((n : Int) % 2 ^ 8 ≥ 2 ^ 7)) = true then (n : Int) % 2 ^ 8 - 2 ^ 8 else (n : Int) % 2 ^ 8 := rfl
  rw [h1]
  simp only [Bool.false_and, Bool.false_eq_true, if_false]
  omega
theorem bits_xor (a b : UInt8) : Go.bits .xor .u8 (a.toNat : Int) (b.toNat : Int) = ((a ^^^ b).toNat : Int) := by
  show IntKind.u8.wrap ((BitVec.ofInt 8 (a.toNat : Int) ^^^ BitVec.ofInt 8 (b.toNat : Int)).toNat : Int) = _
  rw [ofInt_u8, ofInt_u8]
  exact wrap_u8 (by have := (a ^^^ b).toNat_lt; exact this)
class IsU8 (k : Int) (b : outParam UInt8) : Prop where
  eq : k = (b.toNat : Int)
instance : IsU8 0 0 := ⟨rfl⟩
instance : IsU8 1 1 := ⟨rfl⟩
instance {b : UInt8} : IsU8 (b.toNat : Int) b := ⟨rfl⟩
instance {H : AHeap} {r : Nat} {k : Int} {b : UInt8} {rw : Bool} {e : TypeId} [h : HasRow H r [.int .u8 k] rw e] [x : IsU8 k b] : BytesI H (.slice r 0 1 (some 1) 1) [b] :=
  ⟨Or.inr ⟨r, 0, some 1, _, rw, e, rfl, h.lt, h.get, by simp, by rw [x.eq]; rfl, Nat.le_refl _⟩⟩
theorem bytesOf_cellsB (l : List UInt8) : bytesOf (cellsB l) = some l := by
  induction l with
  | nil => rfl
  | cons b l ih =>
    show (match bytesOf (cellsB l) with | some l => some (UInt8.ofNat ((b.toNat : Int)).toNat :: l) | none => none) = _
    rw [ih]
    simp
theorem aBytesFn_at {H : AHeap} {p : AVal} {l : List UInt8} [h : BytesI H p l] (f : List UInt8 → AVal) : aBytesFn f p H = some (f l, H) := by
  rcases h.it with ⟨rfl, h0, _⟩ | ⟨r, off, cap, row, rw, e, rfl, hr, hg, hl, hc, _⟩
  · have : l = [] := List.eq_nil_of_length_eq_zero h0
    subst this; rfl
  · have hl' : off + l.length ≤ row.length := by omega
    have hc' : (row.drop off).take l.length = cellsB l := by rw [← hc, Nat.mul_one]
    simp only [aBytesFn, ne_eq, not_true, if_false, M.bind, aRow, if_pos hr, hg, if_pos hl', hc', bytesOf_cellsB, M.pure]
def pxOk (l : List UInt8) : Bool := l.all fun b => b == 0 || b == 1
theorem count01 (l : List UInt8) : (l.count 0 + l.count 1 = l.length) ↔ pxOk l = true := by
  induction l with
  | nil => simp [pxOk]
  | cons b l ih =>
    have hle : l.count 0 + l.count 1 ≤ l.length := by
      clear ih
      induction l with
      | nil => simp
      | cons c l ihl =>
        simp only [List.count_cons, List.length_cons]
        by_cases h0 : c = 0
        · subst h0; simp; omega
        · by_cases h1 : c = 1
          · subst h1; simp; omega
          · simp [h0, h1]; omega
    simp only [pxOk, List.all_cons, Bool.and_eq_true, Bool.or_eq_true, beq_iff_eq, List.count_cons, List.length_cons] at ih ⊢
    by_cases h0 : b = 0
    · subst h0; simp at ih ⊢; rw [← ih]; omega
    · by_cases h1 : b = 1
      · subst h1; simp at ih ⊢; rw [← ih]; omega
      · simp [h0, h1]; omega
theorem count_le (l : List UInt8) (b : UInt8) : l.count b ≤ l.length := List.count_le_length
end Go.Am
namespace Go.Am
open Go
theorem bind_of {α β : Type} {x : M α} {f : α → M β} {H H' : AHeap} {a : α} (h : x H = some (a, H')) : M.bind x f H = f a H' := by simp [M.bind, h]
theorem exec_appendE {H : AHeap} {p : AVal} {l : List UInt8} {r : Nat} {e0 : TypeId} [h : BytesI H p l] [g : HasRow H r [] true e0] (hl : l.length < 2 ^ 40) (e : TypeId) :
    ∃ v H', aAppend e 1 1 (.slice r 0 0 (some 0) 1) p H = some (v, H') ∧ BytesI H' v l ∧ (∀ r' off len cap sz, v = .slice r' off len cap sz → r' = r ∨ H.n ≤ r') ∧ WrS H' v ∧ Ext H H' := by
  have hf : aLenOf p = some l.length ∧ aFirst 1 l.length p H = some (cellsB l, H) := by
    rcases h.it with ⟨rfl, h0, _⟩ | ⟨r, off, cap, row, rw, e0, rfl, hr, hg, hle, hc, _⟩
    · have : l = [] := List.eq_nil_of_length_eq_zero h0
      subst this; exact ⟨rfl, rfl⟩
    · exact ⟨rfl, by simp only [aFirst, ne_eq, not_true, if_false, M.bind, aRow, if_pos hr, hg, if_pos hle, hc, M.pure]⟩
  have hg1 := g.get
  have hg0 := g.lt
  by_cases h0 : l = []
  · subst h0
    refine ⟨.slice r 0 0 (some 0) 1, H, ?_, ⟨Or.inr ⟨r, 0, some 0, [], true, e0, rfl, hg0, hg1, by simp, by simp [cellsB], Nat.le_refl _⟩⟩, fun r' _ _ _ _ e => by cases e; exact Or.inl rfl, ⟨fun _ _ _ _ _ e => by cases e; exact ⟨_, _, hg1⟩⟩, Ext.refl H⟩
    simp only [aAppend, hf.1, M.bind, List.length_nil] at hf ⊢
    simp only [hf.2]
    simp [cellsB, M.bind, aRow, hg0, hg1, M.pure]
  · have hn0 : ¬ l.length = 0 := by simpa using h0
    refine ⟨.slice H.n 0 (0 + l.length) none 1, H.push (.row (cellsB l) true (2 * e)), ?_, ?_, fun r' _ _ _ _ e => by cases e; exact Or.inr (Nat.le_refl _), ⟨fun _ _ _ _ _ e => by cases e; exact ⟨_, _, push_get_eq⟩⟩, (Ext.refl H).push _⟩
    · simp only [aAppend, hf.1, M.bind, hf.2, cellsB_one, cellsB_length]
      have hroom : 2 * (0 + l.length) * 1 ≤ 2 ^ 48 := by omega
      have hcap : ¬ (0 + l.length ≤ 0) := by omega
      have ha : aRow r H = some (([], true), H) := by simp only [aRow, if_pos hg0, hg1]
      rw [Nat.mul_one] at hroom
      simp only [Bool.not_true, Nat.mul_one, ne_eq, not_true, decide_false, Nat.reduceEqDiff, Bool.or_false, Bool.false_eq_true, if_false, hn0, if_neg hcap]
      rw [bind_of ha]
      have hcond : 0 + 0 ≤ ([] : List AVal).length ∧ 2 * (0 + l.length) ≤ 2 ^ 48 := ⟨by simp, hroom⟩
      simp only [if_pos hcond]
      rfl
    · rw [Nat.zero_add]
      exact ⟨Or.inr ⟨H.n, 0, none, cellsB l, true, 2 * e, rfl, Nat.lt_succ_self _, push_get_eq, by simp [cellsB_length], by rw [List.drop_zero, List.take_of_length_le (by rw [cellsB_length]; omega)], Nat.le_refl _⟩⟩
theorem WpX.appendE {call : ACall} {fr : AFrame} {H : AHeap} {K : AVal → AHeap → Prop} {e e0 : TypeId} {x y : ROpd} {p : AVal} {l : List UInt8} {r : Nat} (hx : x.ev fr = .slice r 0 0 (some 0) 1) (hy : y.ev fr = p) [h : BytesI H p l] [g : HasRow H r [] true e0] (hl : l.length < 2 ^ 40)
    (hk : ∀ v H', BytesI H' v l → (∀ r' off len cap sz, v = .slice r' off len cap sz → r' = r ∨ H.n ≤ r') → WrS H' v → ExtI H H' → K v H') : WpX (.append e 1 1 x y) call fr H K := by
  obtain ⟨v, H', h1, h2, h3, h4, h5⟩ := exec_appendE (H := H) (p := p) (r := r) hl e
  exact ⟨v, H', by simp only [ROp.exec, hx, hy]; exact h1, hk v H' h2 h3 h4 ⟨h5⟩⟩
end Go.Am
namespace Go.Am
open Go
section
variable {call : ACall} {n ref : Nat} {its : List DItem} {H0 H : AHeap} {E : List (Nat × AHeap)} {Rd : List (Nat × (AHeap → Bool))} {fr : AFrame} {K : AFrame → AHeap → Prop} {b : Nat} {pre : Bool} {g : Option (Nat × Bool)}
theorem WpE.stB {d : Option Nat} {a x : ROpd} {p : AVal} {j : Nat} {l : List UInt8} {k : Int} (c : UInt8) (hw : ROper.wanted fr ⟨d, .store 1 a x, g⟩ = true) (ha : a.ev fr = .ptr (rowOf p) (offOf p + j)) (hx : x.ev fr = .int .u8 k) (hk : k = (c.toNat : Int)) [s : BytesI H p l] [w : WrS H p] (hj : j < l.length)
    (h : ∀ H1, BytesI H1 p (l.set j c) → WrS H1 p → ExtP H H1 p → AllR b H1 Rd ∧ WpE call (n + 1) ref its H0 ((n, H) :: E) Rd (put fr d aundef) H1 K) : WpE call n ref (⟨⟨d, .store 1 a x, g⟩, b, 2, pre⟩ :: its) H0 E Rd fr H K := by
  obtain ⟨v, H1, h1, rfl, h2, h3, h4⟩ := WpX.stB (call := call) (K := fun v H1 => v = aundef ∧ BytesI H1 p (l.set j c) ∧ WrS H1 p ∧ ExtP H H1 p) c ha hx hk hj fun H1 q1 q2 q3 => ⟨rfl, q1, q2, q3⟩
  obtain ⟨h5, h6⟩ := h H1 h2 h3 h4
  exact WpE.effect hw h1 h5 h6
theorem WpE.stI {d : Option Nat} {a x : ROpd} {p : AVal} {j : Nat} {l : List Int} {c : Int} (hw : ROper.wanted fr ⟨d, .store 1 a x, g⟩ = true) (ha : a.ev fr = .ptr (rowOf p) (offOf p + j)) (hx : x.ev fr = .int .i64 c) [s : IntsI H p l] [w : WrS H p] (hj : j < l.length)
    (h : ∀ H1, IntsI H1 p (l.set j c) → WrS H1 p → ExtP H H1 p → AllR b H1 Rd ∧ WpE call (n + 1) ref its H0 ((n, H) :: E) Rd (put fr d aundef) H1 K) : WpE call n ref (⟨⟨d, .store 1 a x, g⟩, b, 2, pre⟩ :: its) H0 E Rd fr H K := by
  obtain ⟨v, H1, h1, rfl, h2, h3, h4⟩ := WpX.stI (call := call) (K := fun v H1 => v = aundef ∧ IntsI H1 p (l.set j c) ∧ WrS H1 p ∧ ExtP H H1 p) ha hx hj fun H1 q1 q2 q3 => ⟨rfl, q1, q2, q3⟩
  obtain ⟨h5, h6⟩ := h H1 h2 h3 h4
  exact WpE.effect hw h1 h5 h6
end
def partMap (f : UInt8 → UInt8) (i : Nat) (l : List UInt8) : List UInt8 := (l.take i).map f ++ l.drop i
theorem partMap_length (f : UInt8 → UInt8) (i : Nat) (l : List UInt8) : (partMap f i l).length = l.length := by simp [partMap]; omega
theorem partMap_zero (f : UInt8 → UInt8) (l : List UInt8) : partMap f 0 l = l := by simp [partMap]
theorem partMap_all (f : UInt8 → UInt8) (l : List UInt8) : partMap f l.length l = l.map f := by simp [partMap]
theorem partMap_get (f : UInt8 → UInt8) {i : Nat} {l : List UInt8} (h : i < l.length) : (partMap f i l)[i]'(by rw [partMap_length]; exact h) = l[i] := by
  simp only [partMap]
  rw [List.getElem_append_right (by simp; omega)]
  simp [Nat.min_eq_left (Nat.le_of_lt h)]
theorem partMap_succ (f : UInt8 → UInt8) {i : Nat} {l : List UInt8} (h : i < l.length) : (partMap f i l).set i (f l[i]) = partMap f (i + 1) l := by
  simp only [partMap]
  rw [List.set_append_right _ _ (by simp; omega)]
  rw [List.take_succ_eq_append_getElem h, List.map_append, List.append_assoc]
  congr 1
  simp only [List.length_map, List.length_take, Nat.min_eq_left (Nat.le_of_lt h), Nat.sub_self, List.map_cons, List.map_nil, List.singleton_append]
  rw [List.drop_eq_getElem_cons h]
  rfl
end Go.Am

namespace Go.Am
open Go
theorem ag0 (v : AVal) (vs : List AVal) : argFrame (v :: vs) 0 = v := rfl
theorem ag1 (v w : AVal) (vs : List AVal) : argFrame (v :: w :: vs) 1 = w := rfl
theorem ag2 (v w x : AVal) (vs : List AVal) : argFrame (v :: w :: x :: vs) 2 = x := rfl
theorem ag3 (v w x y : AVal) (vs : List AVal) : argFrame (v :: w :: x :: y :: vs) 3 = y := rfl
theorem ag4 (v w x y z : AVal) (vs : List AVal) : argFrame (v :: w :: x :: y :: z :: vs) 4 = z := rfl
theorem fx1 (fr : AFrame) : updL [] fr = fr := rfl
theorem fx2 (p : Nat × AVal) (l : List (Nat × AVal)) (fr : AFrame) : updL (p :: l) fr = upd (updL l fr) p.1 p.2 := rfl
theorem fx3 (g fr : AFrame) : mix [] g fr = fr := rfl
theorem fx4 (d : Nat) (D : List Nat) (g fr : AFrame) : mix (d :: D) g fr = upd (mix D g fr) d (g d) := rfl
theorem nrmS : (∀ (a b : AVal) l, (a :: l).set 4 b = a :: l.set 3 b) ∧ (∀ (a b : AVal) l, (a :: l).set 5 b = a :: l.set 4 b) ∧ (∀ (a b : AVal) l, (a :: l).set 6 b = a :: l.set 5 b) ∧ (∀ (a b : AVal) l, (a :: l).set 7 b = a :: l.set 6 b) ∧ (∀ (a b : AVal) l, (a :: l).set 8 b = a :: l.set 7 b) ∧ (∀ (a b : AVal) l, (a :: l).set 9 b = a :: l.set 8 b) ∧ (∀ (a b : AVal) l, (a :: l).set 10 b = a :: l.set 9 b) ∧ (∀ (a b : AVal) l, (a :: l).set 11 b = a :: l.set 10 b) ∧ (∀ (a b : AVal) l, (a :: l).set 12 b = a :: l.set 11 b) ∧ (∀ (a b : AVal) l, (a :: l).set 13 b = a :: l.set 12 b) ∧ (∀ (a b : AVal) l, (a :: l).set 14 b = a :: l.set 13 b) ∧ (∀ (a b : AVal) l, (a :: l).set 15 b = a :: l.set 14 b) := ⟨fun _ _ _ => rfl, fun _ _ _ => rfl, fun _ _ _ => rfl, fun _ _ _ => rfl, fun _ _ _ => rfl, fun _ _ _ => rfl, fun _ _ _ => rfl, fun _ _ _ => rfl, fun _ _ _ => rfl, fun _ _ _ => rfl, fun _ _ _ => rfl, fun _ _ _ => rfl⟩
theorem nrmK : (∀ v vs, argFrame (v :: vs) 0 = v) ∧ (∀ v w vs, argFrame (v :: w :: vs) 1 = w) ∧ (∀ v w x vs, argFrame (v :: w :: x :: vs) 2 = x) ∧ (∀ v w x y vs, argFrame (v :: w :: x :: y :: vs) 3 = y) ∧ (∀ v w x y z vs, argFrame (v :: w :: x :: y :: z :: vs) 4 = z) ∧ (∀ v w x y z u vs, argFrame (v :: w :: x :: y :: z :: u :: vs) 5 = u) ∧ (∀ fr, updL [] fr = fr) ∧ (∀ p l fr, updL (p :: l) fr = upd (updL l fr) p.1 p.2) ∧ (∀ g fr, mix [] g fr = fr) ∧ (∀ d D g fr, mix (d :: D) g fr = upd (mix D g fr) d (g d)) := ⟨ag0, ag1, ag2, ag3, ag4, fun _ _ _ _ _ _ _ => rfl, fx1, fx2, fx3, fx4⟩
theorem nrmL : (∀ fr t, ROpd.ev fr (.tmp t) = fr t) ∧ (∀ fr v, ROpd.ev fr (.val v) = v) ∧ (∀ fr d v i, upd fr d v i = if i = d then v else fr i) := ⟨fun _ _ => rfl, fun _ _ => rfl, upd_at⟩
section
variable {call : ACall} {lf : Nat} {fr : AFrame} {H : AHeap} {Q : RExit → AFrame → AHeap → Prop} {KF : AFrame → AHeap → Prop} {os : List ROper} {d : Nat}
theorem Fr.region {ops : List ROper} (h : ∀ KF : AFrame → AHeap → Prop, (∀ fr' H', Q .normal fr' H' → KF fr' H') → WpO call ops fr H KF) : Wp call lf (.region ops) fr H Q := Wp.region (h _ fun _ _ q => q)
theorem Fr.quiet {its : List DItem} {ops : List ROper} (hq : quiet its = true) (ho : opsOf its = ops) (h : ∀ KF : AFrame → AHeap → Prop, (∀ fr' H', Q .normal fr' H' → KF fr' H') → WpO call ops fr H KF) : Wp call lf (.dregion its) fr H Q := Wp.dquiet hq ho (h _ fun _ _ q => q)
theorem Fr.dregion0 {its : List DItem} (hno : (its.all fun it => !(Nat.beq it.cls 3)) = true) (h : ∀ KF : AFrame → AHeap → Prop, (∀ fr' H', Q .normal fr' H' → KF fr' H') → WpE call 0 H.n its H [] [] fr H KF) : Wp call lf (.dregion its) fr H Q := Wp.dregion0 hno (h _ fun _ _ q => q)
theorem Fr.dregionE {its : List DItem} (os : List AObj) (ho : oracle its H.n fr H = os) (h : ∀ KF : AFrame → AHeap → Prop, (∀ fr' H', Q .normal fr' H' → KF fr' H') → WpE call 0 H.n its (pushAll H os) [] [] fr (pushAll H os) KF) : Wp call lf (.dregion its) fr H Q := Wp.dregionE os ho (h _ fun _ _ q => q)
theorem Fo.ld {a : ROpd} {r off : Nat} {cs : List AVal} {rw : Bool} {e : TypeId} {v : AVal} (ha : a.ev fr = .ptr r off) [hg : HasRow H r cs rw e] (hv : cs[off]? = some v) (h : WpO call os (upd fr d v) H KF) : WpO call (⟨some d, .load none a, none⟩ :: os) fr H KF := WpO.do (WpX.ld ha hv h)
theorem Fo.ldN {a : ROpd} {n r off : Nat} {cs : List AVal} {rw : Bool} {e : TypeId} {l : List AVal} (ha : a.ev fr = .ptr r off) [hg : HasRow H r cs rw e] (hv : Nat.ble (off + n) cs.length = true) (hl : (cs.drop off).take n = l) (h : WpO call os (upd fr d (.agg l)) H KF) : WpO call (⟨some d, .load (some n) a, none⟩ :: os) fr H KF := WpO.do (WpX.ldN ha hv hl h)
theorem Fo.len {x : ROpd} {p v : AVal} {sz n : Nat} {cs : List AVal} (hx : x.ev fr = p) [s : SliceAt H p sz n cs] (hv : AVal.int .i64 n = v) (h : WpO call os (upd fr d v) H KF) : WpO call (⟨some d, .lenS x, none⟩ :: os) fr H KF := by subst hv; exact WpO.do (WpX.lenP hx h)
theorem Fo.now {op : ROp} {v v' : AVal} {H1 : AHeap} (_ : nowOk op = true) (hx : op.exec call fr H = some (v, H1)) (hv : v = v') (h : WpO call os (upd fr d v') H1 KF) : WpO call (⟨some d, op, none⟩ :: os) fr H KF := by subst hv; exact WpO.step rfl ⟨v, H1, hx, h⟩
theorem Fo.box {e : TypeId} {x : ROpd} {v : AVal} {cs : List AVal} (hx : x.ev fr = v) (hc : v.cells = cs) (h : WpO call os (upd fr d (.ptr H.n 0)) (H.push (.row cs true (2 * e))) KF) : WpO call (⟨some d, .box e x, none⟩ :: os) fr H KF := by subst hx hc; exact WpO.do (WpX.box h)
theorem Fo.new {e : TypeId} {cs : List AVal} (h : WpO call os (upd fr d (.ptr H.n 0)) (H.push (.row cs true (2 * e))) KF) : WpO call (⟨some d, .new e cs, none⟩ :: os) fr H KF := WpO.do (WpX.new h)
theorem Fo.bslice {e : TypeId} {sz len : Nat} {zero : List AVal} {parts : List (Nat × Nat × ROpd)} {cs cs' : List AVal} (hf : aFill fr zero parts = some cs) (hc : cs = cs') (h : WpO call os (upd fr d (.slice H.n 0 len (some len) sz)) (H.push (.row cs' true (2 * e))) KF) : WpO call (⟨some d, .buildSlice e sz len zero parts, none⟩ :: os) fr H KF := by
  subst hc
  exact WpO.step rfl ⟨_, _, by simp only [ROp.exec, hf, M.bind, aNew, M.pure], h⟩
theorem Fo.st {a x : ROpd} {n r off : Nat} {cs : List AVal} {e : TypeId} {v : AVal} {vs l : List AVal} (ha : a.ev fr = .ptr r off) (hx : x.ev fr = v) (hvs : v.cells = vs) (hn : Nat.beq vs.length n = true) [hg : HasRow H r cs true e] (hl : Nat.ble (off + vs.length) cs.length = true) (ho : vs.all AVal.one = true)
    (hs : setAt cs off vs = l) (h : WpO call os fr (H.set r (.row l true e)) KF) : WpO call (⟨none, .store n a x, none⟩ :: os) fr H KF := WpO.do' (WpX.st ha hx hvs hn hl ho hs h)
theorem Fo.idx {x i : ROpd} {p : AVal} {sz n o : Nat} {cs : List AVal} {k : IntKind} {a : Int} (hx : x.ev fr = p) (hi : i.ev fr = .int k a) [s : SliceAt H p sz n cs] (h0 : 0 ≤ a ∧ a < n) (ho : offOf p + a.toNat * sz = o) (h : WpO call os (upd fr d (.ptr (rowOf p) o)) H KF) : WpO call (⟨some d, .idxS sz x i, none⟩ :: os) fr H KF := by
  subst ho; exact WpO.do (WpX.idxP hx hi h0 h)
theorem Fo.ldB {a : ROpd} {p v : AVal} {j : Nat} {l : List UInt8} (ha : a.ev fr = .ptr (rowOf p) (offOf p + j)) [s : BytesI H p l] (hj : j < l.length) (hv : AVal.int .u8 (l[j].toNat : Int) = v) (h : WpO call os (upd fr d v) H KF) : WpO call (⟨some d, .load none a, none⟩ :: os) fr H KF := by
  subst hv; exact WpO.do (WpX.ldB ha hj h)
theorem Fo.ldI {a : ROpd} {p v : AVal} {j : Nat} {l : List Int} (ha : a.ev fr = .ptr (rowOf p) (offOf p + j)) [s : IntsI H p l] (hj : j < l.length) (hv : AVal.int .i64 l[j] = v) (h : WpO call os (upd fr d v) H KF) : WpO call (⟨some d, .load none a, none⟩ :: os) fr H KF := by
  subst hv; exact WpO.do (WpX.ldI ha hj h)
theorem Fo.build {z : List AVal} {ps : List (Nat × Nat × ROpd)} {cs cs' : List AVal} (hf : aFill fr z ps = some cs) (hc : cs = cs') (h : WpO call os (upd fr d (.agg cs')) H KF) : WpO call (⟨some d, .build z ps, none⟩ :: os) fr H KF := by
  subst hc; exact WpO.do (WpX.build hf h)
theorem Fo.yes {d : Option Nat} {op : ROp} {t : Nat} {want b : Bool} (hb : fr t = .bool b) (hw : b = want) (h : WpO call (⟨d, op, none⟩ :: os) fr H KF) : WpO call (⟨d, op, some (t, want)⟩ :: os) fr H KF := WpO.guard hb (fun _ => h) fun q => absurd hw q
theorem Fo.no {d : Nat} {op : ROp} {t : Nat} {want b : Bool} (hb : fr t = .bool b) (hw : (!b) = want) (h : WpO call os (upd fr d aundef) H KF) : WpO call (⟨some d, op, some (t, want)⟩ :: os) fr H KF := WpO.guard hb (fun q => absurd q (by subst hw; cases b <;> decide)) fun _ => h
theorem Fo.noU {d : Nat} {op : ROp} {t : Nat} {want : Bool} (hb : fr t = aundef) (h : WpO call os (upd fr d aundef) H KF) : WpO call (⟨some d, op, some (t, want)⟩ :: os) fr H KF := WpO.skip (by simp only [ROper.wanted, hb, aundef]) h
end
section
variable {ext : Exts} {prog : FuncId → Option RFunc} {fr : AFrame} {H : AHeap} {KF : AFrame → AHeap → Prop} {os : List ROper} {d : Nat}
theorem Fo.pcall {n dd D : Nat} {f : FuncId} {o : ROpd} {l : List ROpd} {args : List AVal} {v v' : AVal} (hn : fuel0 + D ≤ n) (hf : o.ev fr = .func (.func f) [] []) (hl : l.map (·.ev fr) = args) [hc : PureCon ext prog f args H dd v] (hd : Nat.ble dd D = true) (hv : v = v')
    (h : ∀ H1, ExtI H H1 → WpO (callN ext prog n) os (upd fr d v') H1 KF) : WpO (callN ext prog n) (⟨some d, .call o l, none⟩ :: os) fr H KF := by
  subst hv; exact WpO.do (WpX.pcall hn hf hl hd h)
end
section
variable {call : ACall} {n ref : Nat} {its : List DItem} {H0 H H1 : AHeap} {E : List (Nat × AHeap)} {Rd : List (Nat × (AHeap → Bool))} {fr : AFrame} {K : AFrame → AHeap → Prop} {b : Nat} {pre : Bool} {g : Option (Nat × Bool)} {d : Nat}
theorem Fe.pure {op : ROp} {v v' : AVal} (hw : ROper.wanted fr ⟨some d, op, g⟩ = true) (hx : op.exec noCall fr H = some (v, H)) (hv : v = v') (h : WpE call (n + 1) ref its H0 E Rd (upd fr d v') H K) : WpE call n ref (⟨⟨some d, op, g⟩, b, 0, pre⟩ :: its) H0 E Rd fr H K := by
  subst hv; exact WpE.pure hw hx h
theorem Fe.read {op : ROp} {v v' : AVal} (hw : ROper.wanted fr ⟨some d, op, g⟩ = true) (hx : op.exec noCall fr H = some (v, H)) (hv : v = v') (hE : AllE b (fun H2 => op.exec noCall fr H2 = some (v, H2)) E) (h : WpE call (n + 1) ref its H0 E ((n, readOk op fr v) :: Rd) (upd fr d v') H K) : WpE call n ref (⟨⟨some d, op, g⟩, b, 1, pre⟩ :: its) H0 E Rd fr H K := by
  subst hv; exact WpE.read hw hx hE h
theorem Fe.skip {cls : Nat} {op : ROp} (hw : ROper.wanted fr ⟨some d, op, g⟩ = false) (h : WpE call (n + 1) (nextRef cls ref) its H0 E Rd (upd fr d aundef) H K) : WpE call n ref (⟨⟨some d, op, g⟩, b, cls, pre⟩ :: its) H0 E Rd fr H K := WpE.skip hw h
theorem Fe.made {op : ROp} {cs : List AVal} {e : TypeId} {k : Nat → AVal} {v : AVal} (hw : ROper.wanted fr ⟨some d, op, g⟩ = true) (hm : op.made fr = some (cs, e, k)) (hg : ghostIs H ref cs e = true) (hE : AllE b (fun H2 => ghostIs H2 ref cs e = true) E) (hv : k ref = v) (h : WpE call (n + 1) (ref + 1) its H0 E ((n, madeOk op fr ref) :: Rd) (upd fr d v) H K) : WpE call n ref (⟨⟨some d, op, g⟩, b, 3, pre⟩ :: its) H0 E Rd fr H K := by
  subst hv; exact WpE.made hw hm hg hE h
theorem Fe.effect0 {op : ROp} {v : AVal} (hw : ROper.wanted fr ⟨none, op, g⟩ = true) (hx : op.exec call fr H = some (v, H1)) (hR : AllR b H1 Rd) (h : WpE call (n + 1) ref its H0 ((n, H) :: E) Rd fr H1 K) : WpE call n ref (⟨⟨none, op, g⟩, b, 2, pre⟩ :: its) H0 E Rd fr H K := WpE.effect hw hx hR h
end
section
variable {ext : Exts} {prog : FuncId → Option RFunc} {n ref : Nat} {its : List DItem} {H0 H H1 : AHeap} {E : List (Nat × AHeap)} {Rd : List (Nat × (AHeap → Bool))} {fr : AFrame} {K : AFrame → AHeap → Prop} {b : Nat} {pre : Bool} {g : Option (Nat × Bool)} {d : Nat}
theorem Fe.pcall {m dd D : Nat} {f : FuncId} {o : ROpd} {l : List ROpd} {args : List AVal} {v v' : AVal} (hw : ROper.wanted fr ⟨some d, .call o l, g⟩ = true) (hn : fuel0 + D ≤ m) (hf : o.ev fr = .func (.func f) [] []) (hl : l.map (·.ev fr) = args) [hc : PureCon ext prog f args H dd v] (hd : Nat.ble dd D = true) (hv : v = v')
    (h : ∀ H1, ExtI H H1 → AllR b H1 Rd ∧ WpE (callN ext prog m) (n + 1) ref its H0 ((n, H) :: E) Rd (upd fr d v') H1 K) : WpE (callN ext prog m) n ref (⟨⟨some d, .call o l, g⟩, b, 2, pre⟩ :: its) H0 E Rd fr H K := by
  subst hv; exact WpE.pcall hw hn hf hl hd h
theorem Fe.con {m dd D : Nat} {f : FuncId} {o : ROpd} {l : List ROpd} {args : List AVal} {R : AVal → AHeap → Prop} (hw : ROper.wanted fr ⟨some d, .call o l, g⟩ = true) (hn : fuel0 + D ≤ m) (hd : Nat.ble dd D = true) (hf : o.ev fr = .func (.func f) [] []) (hl : l.map (·.ev fr) = args) (hc : Con ext prog dd f args H R)
    (h : ∀ v H1, R v H1 → AllR b H1 Rd ∧ WpE (callN ext prog m) (n + 1) ref its H0 ((n, H) :: E) Rd (upd fr d v) H1 K) : WpE (callN ext prog m) n ref (⟨⟨some d, .call o l, g⟩, b, 2, pre⟩ :: its) H0 E Rd fr H K := WpE.con hw hn hd hf hl hc h
end
end Go.Am
namespace Go.Am
open Go
section
variable {call : ACall} {fr : AFrame} {H : AHeap} {KF : AFrame → AHeap → Prop} {os : List ROper} {d : Nat}
theorem Fo.mov {x : ROpd} {v : AVal} (hx : x.ev fr = v) (h : WpO call os (upd fr d v) H KF) : WpO call (⟨some d, .mov x, none⟩ :: os) fr H KF := by subst hx; exact WpO.do (WpX.mov h)
theorem Fo.fa {x : ROpd} {r o off : Nat} (hx : x.ev fr = .ptr r o) (h : WpO call os (upd fr d (.ptr r (o + off))) H KF) : WpO call (⟨some d, .fieldAddr off x, none⟩ :: os) fr H KF := WpO.do (WpX.fieldAddr hx h)
theorem Fo.pickT {c a b : ROpd} {v : AVal} (hc : c.ev fr = .bool true) (hx : a.ev fr = v) (h : WpO call os (upd fr d v) H KF) : WpO call (⟨some d, .pick c a b, none⟩ :: os) fr H KF := by subst hx; exact WpO.do (WpX.pick hc h)
theorem Fo.pickF {c a b : ROpd} {v : AVal} (hc : c.ev fr = .bool false) (hx : b.ev fr = v) (h : WpO call os (upd fr d v) H KF) : WpO call (⟨some d, .pick c a b, none⟩ :: os) fr H KF := by subst hx; exact WpO.do (WpX.pick hc h)
theorem Fo.extr {x : ROpd} {i : Nat} {vs : List AVal} {v : AVal} (hx : x.ev fr = .tuple vs) (hv : vs[i]? = some v) (h : WpO call os (upd fr d v) H KF) : WpO call (⟨some d, .extract x i, none⟩ :: os) fr H KF := WpO.do (WpX.extract hx hv h)
theorem Fo.bin {op : BinOp} {x y : ROpd} {a b v v' : AVal} (hx : x.ev fr = a) (hy : y.ev fr = b) (hv : aBin op a b = some v) (he : v = v') (h : WpO call os (upd fr d v') H KF) : WpO call (⟨some d, .bin op x y, none⟩ :: os) fr H KF := by
  subst hx hy he
  exact WpO.step rfl ⟨v, H, by simp only [ROp.exec, hv, M.ofOption, M.pure], h⟩
end
end Go.Am
namespace Go.Am
open Go
section
variable {call : ACall} {fr : AFrame} {H : AHeap} {KF : AFrame → AHeap → Prop} {os : List ROper} {d : Nat}
theorem Fo.boxA {e : TypeId} {x : ROpd} {cs : List AVal} (hx : x.ev fr = .agg cs) (h : WpO call os (upd fr d (.ptr H.n 0)) (H.push (.row cs true (2 * e))) KF) : WpO call (⟨some d, .box e x, none⟩ :: os) fr H KF := Fo.box hx rfl h
theorem Fo.box1 {e : TypeId} {x : ROpd} {v : AVal} (hx : x.ev fr = v) [o : OneV v] (h : WpO call os (upd fr d (.ptr H.n 0)) (H.push (.row [v] true (2 * e))) KF) : WpO call (⟨some d, .box e x, none⟩ :: os) fr H KF := Fo.box hx o.cells h
end
end Go.Am

namespace Go.Am
open Go
section
variable {call : ACall} {lf : Nat} {fr : AFrame} {H : AHeap} {Q : RExit → AFrame → AHeap → Prop} {KF : AFrame → AHeap → Prop} {os : List ROper} {d : Nat}
theorem mI {x : ROpd} {k : IntKind} {n : Int} (h : WpO call os (upd fr d (.int k n)) H KF) (hx : x.ev fr = .int k n := by exact rfl) : WpO call (⟨some d, .mov x, none⟩ :: os) fr H KF := Fo.mov hx h
theorem mB {x : ROpd} {b : Bool} (h : WpO call os (upd fr d (.bool b)) H KF) (hx : x.ev fr = .bool b := by exact rfl) : WpO call (⟨some d, .mov x, none⟩ :: os) fr H KF := Fo.mov hx h
theorem mT {x : ROpd} {l : List AVal} (h : WpO call os (upd fr d (.tuple l)) H KF) (hx : x.ev fr = .tuple l := by exact rfl) : WpO call (⟨some d, .mov x, none⟩ :: os) fr H KF := Fo.mov hx h
theorem mF {x : ROpd} {f : Fn} {a b : List AVal} (h : WpO call os (upd fr d (.func f a b)) H KF) (hx : x.ev fr = .func f a b := by exact rfl) : WpO call (⟨some d, .mov x, none⟩ :: os) fr H KF := Fo.mov hx h
theorem mN {x : ROpd} (h : WpO call os (upd fr d .nslice) H KF) (hx : x.ev fr = .nslice := by exact rfl) : WpO call (⟨some d, .mov x, none⟩ :: os) fr H KF := Fo.mov hx h
theorem tB {c a b : ROpd} {n : Bool} (h : WpO call os (upd fr d (.bool n)) H KF) (hc : c.ev fr = .bool true := by exact rfl) (hx : a.ev fr = .bool n := by exact rfl) : WpO call (⟨some d, .pick c a b, none⟩ :: os) fr H KF := Fo.pickT hc hx h
theorem fB {c a b : ROpd} {n : Bool} (h : WpO call os (upd fr d (.bool n)) H KF) (hc : c.ev fr = .bool false := by exact rfl) (hx : b.ev fr = .bool n := by exact rfl) : WpO call (⟨some d, .pick c a b, none⟩ :: os) fr H KF := Fo.pickF hc hx h
theorem sq {a b : RCode} (h : Wp call lf a fr H fun x fr' H' => match x with | .normal => Wp call lf b fr' H' Q | e => Q e fr' H') : Wp call lf (.seq a b) fr H Q := Wp.seq h
theorem rg {ops : List ROper} (h : ∀ KF : AFrame → AHeap → Prop, (∀ fr' H', Q .normal fr' H' → KF fr' H') → WpO call ops fr H KF) : Wp call lf (.region ops) fr H Q := Fr.region h
theorem ct {c : ROpd} {t e : RCode} (hc : c.ev fr = .bool true) (h : Wp call lf t fr H Q) : Wp call lf (.cond c t e) fr H Q := Wp.cond (b := true) hc h
theorem cf {c : ROpd} {t e : RCode} (hc : c.ev fr = .bool false) (h : Wp call lf e fr H Q) : Wp call lf (.cond c t e) fr H Q := Wp.cond (b := false) hc h
theorem nl {A : AFrame → AHeap → Prop} (hK : ∀ fr H, A fr H → KF fr H) (h : A fr H) : WpO call [] fr H KF := WpO.nil (hK _ _ h)
theorem sk (h : Q .normal fr H) : Wp call lf .skip fr H Q := Wp.skip h
theorem rt (h : Q .ret fr H) : Wp call lf .ret fr H Q := Wp.ret h
theorem xi {id : Nat} (h : Q (.exit id) fr H) : Wp call lf (.exit id) fr H Q := Wp.exit h
theorem oy {d : Option Nat} {op : ROp} {t : Nat} {want b : Bool} (h : WpO call (⟨d, op, none⟩ :: os) fr H KF) (hb : fr t = .bool b := by exact rfl) (hw : b = want := by exact rfl) : WpO call (⟨d, op, some (t, want)⟩ :: os) fr H KF := Fo.yes hb hw h
theorem ox {d : Nat} {op : ROp} {t : Nat} {want b : Bool} (h : WpO call os (upd fr d aundef) H KF) (hb : fr t = .bool b := by exact rfl) (hw : (!b) = want := by exact rfl) : WpO call (⟨some d, op, some (t, want)⟩ :: os) fr H KF := Fo.no hb hw h
theorem fd {x : ROpd} {r o off : Nat} (h : WpO call os (upd fr d (.ptr r (o + off))) H KF) (hx : x.ev fr = .ptr r o := by exact rfl) : WpO call (⟨some d, .fieldAddr off x, none⟩ :: os) fr H KF := Fo.fa hx h
theorem mv {x : ROpd} {v : AVal} (h : WpO call os (upd fr d v) H KF) (hx : x.ev fr = v := by simp only [↓nrmL, nrmK, Nat.reduceEqDiff, ↓reduceIte]; rfl) : WpO call (⟨some d, .mov x, none⟩ :: os) fr H KF := Fo.mov hx h
theorem b0 {op : BinOp} {x y : ROpd} {a b v : AVal} (h : WpO call os (upd fr d v) H KF) (hx : x.ev fr = a := by exact rfl) (hy : y.ev fr = b := by exact rfl) (hv : aBin op a b = some v := by exact rfl) : WpO call (⟨some d, .bin op x y, none⟩ :: os) fr H KF := Fo.bin hx hy hv rfl h
theorem bn {op : BinOp} {x y : ROpd} {a b v v' : AVal} (hx : x.ev fr = a) (hy : y.ev fr = b) (hv : aBin op a b = some v) (he : v = v') (h : WpO call os (upd fr d v') H KF) : WpO call (⟨some d, .bin op x y, none⟩ :: os) fr H KF := Fo.bin hx hy hv he h
theorem xt {x : ROpd} {i : Nat} {vs : List AVal} {v : AVal} (h : WpO call os (upd fr d v) H KF) (hx : x.ev fr = .tuple vs := by exact rfl) (hv : vs[i]? = some v := by exact rfl) : WpO call (⟨some d, .extract x i, none⟩ :: os) fr H KF := Fo.extr hx hv h
theorem bA {e : TypeId} {x : ROpd} {cs : List AVal} (h : WpO call os (upd fr d (.ptr H.n 0)) (H.push (.row cs true (2 * e))) KF) (hx : x.ev fr = .agg cs := by exact rfl) : WpO call (⟨some d, .box e x, none⟩ :: os) fr H KF := Fo.boxA hx h
theorem nw {e : TypeId} {cs : List AVal} (h : WpO call os (upd fr d (.ptr H.n 0)) (H.push (.row cs true (2 * e))) KF) : WpO call (⟨some d, .new e cs, none⟩ :: os) fr H KF := Fo.new h
theorem ln {x : ROpd} {p : AVal} {sz n : Nat} {cs : List AVal} (hx : x.ev fr = p) [s : SliceAt H p sz n cs] (h : WpO call os (upd fr d (.int .i64 n)) H KF) : WpO call (⟨some d, .lenS x, none⟩ :: os) fr H KF := Fo.len hx rfl h
theorem ob {z : List AVal} {ps : List (Nat × Nat × ROpd)} {cs cs' : List AVal} (hc : cs = cs') (h : WpO call os (upd fr d (.agg cs')) H KF) (hf : aFill fr z ps = some cs := by repeat (first | refine aFill1 (by first | exact (rfl : _ = AVal.int _ _) | exact (rfl : _ = AVal.ptr _ _) | exact (rfl : _ = AVal.bool _) | exact (rfl : _ = AVal.agg _) | exact (rfl : _ = AVal.tuple _) | exact (rfl : _ = AVal.func _ _ _) | exact (rfl : _ = AVal.nslice) | ((try simp only [↓nrmL, nrmK, Nat.reduceEqDiff, ↓reduceIte]); rfl)) rfl ?_ | rfl)) : WpO call (⟨some d, .build z ps, none⟩ :: os) fr H KF := Fo.build hf hc h
theorem so {a x : ROpd} {n r off : Nat} {cs : List AVal} {e : TypeId} {v : AVal} {vs l : List AVal} {os : List ROper} (ha : a.ev fr = .ptr r off) (hx : x.ev fr = v) (hvs : v.cells = vs) (hn : Nat.beq vs.length n = true) [hg : HasRow H r cs true e] (hl : Nat.ble (off + vs.length) cs.length = true)
    (hs : setAt cs off vs = l) (h : WpO call os fr (H.set r (.row l true e)) KF) (ho : vs.all AVal.one = true := by repeat (first | rfl | refine allOne_cons ?_)) : WpO call (⟨none, .store n a x, none⟩ :: os) fr H KF := Fo.st ha hx hvs hn hl ho hs h
end
theorem xs {call : ACall} {fr : AFrame} {H : AHeap} {a x : ROpd} {n r off : Nat} {cs : List AVal} {e : TypeId} {v : AVal} {vs l : List AVal} (ha : a.ev fr = .ptr r off) (hx : x.ev fr = v) (hvs : v.cells = vs) (hn : Nat.beq vs.length n = true) [hg : HasRow H r cs true e] (hl : Nat.ble (off + vs.length) cs.length = true)
    (hs : setAt cs off vs = l) (ho : vs.all AVal.one = true := by repeat (first | rfl | refine allOne_cons ?_)) : (ROp.store n a x).exec call fr H = some (aundef, H.set r (.row l true e)) := exec_st ha hx hvs hn hl ho hs
theorem rz {A : Prop} {fr : AFrame} {res : List RRes} {H : AHeap} {vs : List AVal} {Q : List AVal → Prop} (hA : A) (h : Q vs) (hg : getAll fr res H = some (vs, H) := by first | rfl | exact getAllC rfl rfl rfl rfl | exact getAllT rfl (getAllC rfl rfl rfl rfl) | exact getAllC rfl rfl rfl (getAllC rfl rfl rfl rfl) | exact getAllC1 rfl rfl rfl) : A ∧ ∃ vs, getAll fr res H = some (vs, H) ∧ Q vs := ⟨hA, vs, hg, h⟩
section
variable {call : ACall} {n ref : Nat} {its : List DItem} {H0 H H1 : AHeap} {E : List (Nat × AHeap)} {Rd : List (Nat × (AHeap → Bool))} {fr : AFrame} {K : AFrame → AHeap → Prop} {b : Nat} {pre : Bool} {g : Option (Nat × Bool)} {d : Nat}
theorem Er {op : ROp} {v v' : AVal} (hw : ROper.wanted fr ⟨some d, op, g⟩ = true) (hx : op.exec noCall fr H = some (v, H)) (hv : v = v') (h : WpE call (n + 1) ref its H0 E ((n, readOk op fr v) :: Rd) (upd fr d v') H K) (hE : AllE b (fun H2 => op.exec noCall fr H2 = some (v, H2)) E := by repeat (first | exact trivial | refine ⟨(by first | exact Or.inl (by dsimp only; decide) | exact Or.inr (exec_ld rfl rfl) | exact Or.inr (exec_ld rfl (by assumption)) | exact Or.inr (exec_ldN rfl rfl rfl) | exact Or.inr (exec_ldB rfl (by omega)) | exact Or.inr (exec_ldI rfl (by omega)) | exact Or.inr ghost_of), ?_⟩)) : WpE call n ref (⟨⟨some d, op, g⟩, b, 1, pre⟩ :: its) H0 E Rd fr H K := Fe.read hw hx hv hE h
theorem Em {op : ROp} {cs : List AVal} {e : TypeId} {k : Nat → AVal} {v : AVal} (hw : ROper.wanted fr ⟨some d, op, g⟩ = true) (hm : op.made fr = some (cs, e, k)) (hg : ghostIs H ref cs e = true) (hv : k ref = v) (h : WpE call (n + 1) (ref + 1) its H0 E ((n, madeOk op fr ref) :: Rd) (upd fr d v) H K) (hE : AllE b (fun H2 => ghostIs H2 ref cs e = true) E := by repeat (first | exact trivial | refine ⟨(by first | exact Or.inl (by dsimp only; decide) | exact Or.inr (exec_ld rfl rfl) | exact Or.inr (exec_ld rfl (by assumption)) | exact Or.inr (exec_ldN rfl rfl rfl) | exact Or.inr (exec_ldB rfl (by omega)) | exact Or.inr (exec_ldI rfl (by omega)) | exact Or.inr ghost_of), ?_⟩)) : WpE call n ref (⟨⟨some d, op, g⟩, b, 3, pre⟩ :: its) H0 E Rd fr H K := Fe.made hw hm hg hE hv h
theorem Ee {op : ROp} {v : AVal} (hw : ROper.wanted fr ⟨none, op, g⟩ = true) (hx : op.exec call fr H = some (v, H1)) (h : WpE call (n + 1) ref its H0 ((n, H) :: E) Rd fr H1 K) (hR : AllR b H1 Rd := by repeat (first | exact trivial | refine ⟨(by first | exact Or.inl (by dsimp only; decide) | exact Or.inr (readOk_of (exec_ld rfl rfl)) | exact Or.inr (readOk_of (exec_ld rfl (by assumption))) | exact Or.inr (readOk_of (exec_ldN rfl rfl rfl)) | exact Or.inr (readOk_of (exec_ldB rfl (by omega))) | exact Or.inr (readOk_of (exec_ldI rfl (by omega))) | exact Or.inr (made_of rfl)), ?_⟩)) : WpE call n ref (⟨⟨none, op, g⟩, b, 2, pre⟩ :: its) H0 E Rd fr H K := Fe.effect0 hw hx hR h
theorem ar {B : Prop} (h : B) (hR : AllR b H1 Rd := by repeat (first | exact trivial | refine ⟨(by first | exact Or.inl (by dsimp only; decide) | exact Or.inr (readOk_of (exec_ld rfl rfl)) | exact Or.inr (readOk_of (exec_ld rfl (by assumption))) | exact Or.inr (readOk_of (exec_ldN rfl rfl rfl)) | exact Or.inr (readOk_of (exec_ldB rfl (by omega))) | exact Or.inr (readOk_of (exec_ldI rfl (by omega))) | exact Or.inr (made_of rfl)), ?_⟩)) : AllR b H1 Rd ∧ B := ⟨hR, h⟩
end
theorem nrmZ : type_of% nrm ∧ type_of% nrmS := ⟨nrm, nrmS⟩
end Go.Am


namespace Go.Am
open Go
attribute [local irreducible] Wp WpO WpX WpE
def sideB (a : Int) : Bool := decide (a ≥ 0) && decide (a ≤ 640)
instance K_side (a : Int) (H : AHeap) : PureCon ext prog 103 [.int .i64 a] H 1 (.bool (sideB a)) := ⟨by
 refine con_of (show prog 103 = some c103 from rfl) rfl rfl fun n hn => ?_
 unfold sideB
 cases h1 : decide (a ≥ 0) <;> cases h2 : decide (a ≤ 640)
 ·skip
  repeat first
   | refine ox ?_
   | refine mI ?_
   | refine mB ?_
   | (refine bn rfl rfl rfl (by simp only [h1, h2]; rfl) ?_)
   | refine fB ?_
   | refine nl hKF ?_
   | refine sq ?_
   | refine rg fun KF hKF => ?_
   | refine rt ?_
   | dsimp only [cond_true, cond_false]
  exact ⟨trivial, _, rfl, rfl, Ext0.ext⟩
 ·skip
  repeat first
   | refine ox ?_
   | refine mI ?_
   | refine mB ?_
   | (refine bn rfl rfl rfl (by simp only [h1, h2]; rfl) ?_)
   | refine fB ?_
   | refine nl hKF ?_
   | refine sq ?_
   | refine rg fun KF hKF => ?_
   | refine rt ?_
   | dsimp only [cond_true, cond_false]
  exact ⟨trivial, _, rfl, rfl, Ext0.ext⟩
 ·skip
  repeat first
   | refine oy ?_
   | refine mI ?_
   | refine mB ?_
   | (refine bn rfl rfl rfl (by simp only [h1, h2]; rfl) ?_)
   | refine tB ?_
   | refine nl hKF ?_
   | refine sq ?_
   | refine rg fun KF hKF => ?_
   | refine rt ?_
   | dsimp only [cond_true, cond_false]
  exact ⟨trivial, _, rfl, rfl, Ext0.ext⟩
 ·skip
  repeat first
   | refine oy ?_
   | refine mI ?_
   | refine mB ?_
   | (refine bn rfl rfl rfl (by simp only [h1, h2]; rfl) ?_)
   | refine tB ?_
   | refine nl hKF ?_
   | refine sq ?_
   | refine rg fun KF hKF => ?_
   | refine rt ?_
   | dsimp only [cond_true, cond_false]
  exact ⟨trivial, _, rfl, rfl, Ext0.ext⟩⟩
instance K_sized (a b k : Int) (H : AHeap) : PureCon ext prog 90 [.int .i64 a, .int .i64 b, .int .i64 k] H 2 (.bool (sideB a && sideB b && (k == IntKind.i64.wrap (a * b)))) := ⟨by
 refine con_of (show prog 90 = some c90 from rfl) rfl rfl fun n hn => ?_
 cases h1 : sideB a
 ·skip
  repeat first
   | refine ox ?_
   | refine mI ?_
   | refine mB ?_
   | refine fB ?_
   | (refine Fo.pcall (v' := ?_) hn rfl (by simp only [↓nrmL, nrmZ, Nat.reduceEqDiff, ↓reduceIte, Nat.reduceAdd, Int.reduceBEq, Int.reduceBNe, h1, List.map]; rfl) rfl ?hv fun _ _ => ?_; case hv => (simp only [h1]; rfl))
   | refine nl hKF ?_
   | refine sq ?_
   | refine rg fun KF hKF => ?_
   | refine rt ?_
   | dsimp only [cond_true, cond_false]
  exact ⟨trivial, _, rfl, rfl, Ext0.ext⟩
 cases h2 : sideB b
 ·skip
  repeat first
   | refine oy ?_
   | refine ox ?_
   | refine mI ?_
   | refine mB ?_
   | refine tB ?_
   | refine fB ?_
   | (refine Fo.pcall (v' := ?_) hn rfl (by simp only [↓nrmL, nrmZ, Nat.reduceEqDiff, ↓reduceIte, Nat.reduceAdd, Int.reduceBEq, Int.reduceBNe, h1, h2, List.map]; rfl) rfl ?hv fun _ _ => ?_; case hv => (simp only [h1, h2]; rfl))
   | refine nl hKF ?_
   | refine sq ?_
   | refine rg fun KF hKF => ?_
   | refine rt ?_
   | dsimp only [cond_true, cond_false]
  exact ⟨trivial, _, rfl, rfl, Ext0.ext⟩
 ·skip
  repeat first
   | refine oy ?_
   | refine mI ?_
   | refine mB ?_
   | refine b0 ?_
   | refine tB ?_
   | (refine Fo.pcall (v' := ?_) hn rfl (by simp only [↓nrmL, nrmZ, Nat.reduceEqDiff, ↓reduceIte, Nat.reduceAdd, Int.reduceBEq, Int.reduceBNe, h1, h2, List.map]; rfl) rfl ?hv fun _ _ => ?_; case hv => (simp only [h1, h2]; rfl))
   | refine nl hKF ?_
   | refine sq ?_
   | refine rg fun KF hKF => ?_
   | refine rt ?_
   | dsimp only [cond_true, cond_false]
  exact ⟨trivial, _, rfl, rfl, Ext0.ext⟩⟩
end Go.Am


namespace Go.Am
open Go
attribute [local irreducible] Wp WpO WpX WpE
structure Img where
 w : Int
 h : Int
 px : List UInt8
 deriving DecidableEq
def Img.zero : Img := ⟨0, 0, []⟩
def sizedB (a b k : Int) : Bool := sideB a && sideB b && (k == IntKind.i64.wrap (a * b))
def Img.sized (g : Img) : Bool := sizedB g.w g.h g.px.length
def NewInk (H H' : AHeap) (v : AVal) (g : Img) : Prop := ∃ p, v = .agg [.int .i64 g.w, .int .i64 g.h, p] ∧ BytesI H' p g.px ∧ FreshS H p ∧ WrS H' p ∧ Ext H H'
theorem K_blank {w h : Nat} {H : AHeap} (hw : w ≤ 640) (hh : h ≤ 640) : Con ext prog 1 104 [.int .i64 w, .int .i64 h] H fun v H' => NewInk H H' v ⟨w, h, List.replicate (w * h) 0⟩ := by
 refine con_of (show prog 104 = some c104 from rfl) rfl rfl fun n hn => ?_
 have hm : w * h ≤ 640 * 640 := Nat.mul_le_mul hw hh
 have hc : IntKind.i64.wrap ((w : Int) * (h : Int)) = ((w * h : Nat) : Int) := by rw [← Int.natCast_mul]; exact w64 (by omega)
 repeat first
  | refine mI ?_
  | (refine bn rfl rfl rfl (by simp only [hc]; rfl) ?_)
  | refine nw ?_
  | refine nl hKF ?_
  | refine sq ?_
  | refine rg fun KF hKF => ?_
 refine WpO.do (WpX.mkB rfl rfl rfl (by omega) fun p H1 e1 hb hf hw' hx => ?_); try simp only [↓nrmL, nrmZ, Nat.reduceEqDiff, ↓reduceIte, Nat.reduceAdd, Int.reduceBEq, Int.reduceBNe, hc]
 haveI := hb.one
 refine ob (cs' := ?_) ?hc ?_; case hc => (simp only [↓nrmL, nrmZ, Nat.reduceEqDiff, ↓reduceIte, Nat.reduceAdd, Int.reduceBEq, Int.reduceBNe]; rfl)
 refine so rfl (rfl : _ = AVal.agg _) rfl rfl rfl (by simp only [↓nrmL, nrmZ, Nat.reduceEqDiff, ↓reduceIte, Nat.reduceAdd, Int.reduceBEq, Int.reduceBNe]; rfl) ?_
 refine nl hKF ?_
 refine rt ?_
 dsimp only [cond_true, cond_false]
 refine rz trivial ?_
 exact ⟨p, rfl, inferInstance, hf.weak, inferInstance, Ext0.ext⟩
end Go.Am


namespace Go.Am
open Go
attribute [local irreducible] Wp WpO WpX WpE
theorem sized_nat {w h : Int} {n : Nat} (hs : sizedB w h n = true) : ∃ a b : Nat, w = a ∧ h = b ∧ a ≤ 640 ∧ b ≤ 640 ∧ n = a * b := by
 simp only [sizedB, sideB, Bool.and_eq_true, decide_eq_true_eq, beq_iff_eq] at hs
 obtain ⟨⟨⟨h1, h2⟩, h3, h4⟩, h5⟩ := hs
 refine ⟨w.toNat, h.toNat, by omega, by omega, by omega, by omega, ?_⟩
 obtain ⟨a, rfl⟩ : ∃ a : Nat, w = a := ⟨w.toNat, by omega⟩
 obtain ⟨b, rfl⟩ : ∃ b : Nat, h = b := ⟨h.toNat, by omega⟩
 have hm : a * b ≤ 640 * 640 := Nat.mul_le_mul (by omega) (by omega)
 rw [← Int.natCast_mul, w64 (by omega)] at h5
 simp only [Int.toNat_natCast]
 omega
def InkRes (H H' : AHeap) (v : AVal) (r : Img × Int) : Prop := ∃ q, v = .tuple [q, .int .i64 r.2] ∧ NewInk H H' q r.1
theorem newZero {H H' : AHeap} [x : Ext0 H H'] : NewInk H H' (.agg [.int .i64 0, .int .i64 0, .nslice]) Img.zero := ⟨.nslice, rfl, ⟨Or.inl ⟨rfl, rfl, rfl⟩⟩, ⟨fun _ _ _ _ _ e => by cases e⟩, ⟨fun _ _ _ _ _ e => by cases e⟩, x.ext⟩
end Go.Am


namespace Go.Am
open Go
attribute [local irreducible] Wp WpO WpX WpE
def NewBytes (H H' : AHeap) (v : AVal) (l : List UInt8) : Prop := BytesI H' v l ∧ FreshS H v ∧ WrS H' v ∧ Ext H H'
end Go.Am


namespace Go.Am
open Go
attribute [local irreducible] Wp WpO WpX WpE
theorem wm {a b : Nat} (h : a * b < 9223372036854775808) : IntKind.i64.wrap ((a : Int) * (b : Int)) = ((a * b : Nat) : Int) := by rw [← Int.natCast_mul]; exact w64 (by omega)
theorem wa {a b : Nat} (h : a + b < 9223372036854775808) : IntKind.i64.wrap ((a : Int) + (b : Int)) = ((a + b : Nat) : Int) := by rw [← Int.natCast_add]; exact w64 (by omega)
theorem wa1 {a : Nat} (h : a < 9223372036854775807) : IntKind.i64.wrap ((a : Int) + 1) = ((a + 1 : Nat) : Int) := by rw [w64 (by omega)]; omega
theorem idx_lt {x y w h : Nat} (hx : x < w) (hy : y < h) : y * w + x < w * h := by
 have : (y + 1) * w ≤ h * w := Nat.mul_le_mul_right _ hy
 rw [Nat.mul_comm w h]
 rw [Nat.add_mul] at this
 omega
end Go.Am


namespace Go.Am
open Go
attribute [local irreducible] Wp WpO WpX WpE
end Go.Am


namespace Go.Am
open Go
attribute [local irreducible] Wp WpO WpX WpE
def lvStep (acc : List Int) (b : UInt8) : List Int := acc.set b.toNat (acc.getD b.toNat 0 + 1)
def lv (l : List UInt8) : List Int := l.foldl lvStep (List.replicate 256 0)
instance intsNil {H : AHeap} : IntsI H .nslice [] := ⟨Or.inl ⟨rfl, rfl, rfl⟩⟩
instance bytesNil {H : AHeap} : BytesI H .nslice [] := ⟨Or.inl ⟨rfl, rfl, rfl⟩⟩
end Go.Am


namespace Go.Am
open Go
attribute [local irreducible] Wp WpO WpX WpE
theorem eq_of_gets {α : Type} {l m : List α} (hl : l.length = m.length) (h : ∀ j, j < l.length → l[j]? = m[j]?) : l = m := by
 apply List.ext_getElem?
 intro i
 by_cases hi : i < l.length
 ·exact h i hi
 ·rw [List.getElem?_eq_none (by omega), List.getElem?_eq_none (by omega)]
class Short {α : Type} (l : List α) : Prop where
 le : l.length ≤ 999999
instance K_SameBytes {p q : AVal} {H : AHeap} {l m : List UInt8} [hp : BytesI H p l] [hq : BytesI H q m] [hs : Short l] : PureCon ext prog 64 [p, q] H 1 (.bool (decide (l = m))) := ⟨by
 refine con_of (show prog 64 = some c64 from rfl) rfl rfl fun n hn => ?_
 have hsl := hs.le
 by_cases hlm : l.length = m.length
 ·have h1 : (((l.length : Nat) : Int) != ((m.length : Nat) : Int)) = false := by simp [hlm]
  repeat first
   | refine mI ?_
   | refine mB ?_
   | (refine mv ?_)
   | (refine bn rfl rfl rfl (by simp only [h1]; rfl) ?_)
   | (refine ln (by simp only [↓nrmL, nrmK, Nat.reduceEqDiff, ↓reduceIte]; rfl) ?_)
   | refine nl hKF ?_
   | refine sq ?_
   | refine rg fun KF hKF => ?_
   | refine cf rfl ?_
   | refine sk ?_
   | refine Wp.block ?_
   | dsimp only [cond_true, cond_false]
  refine Wp.loopS [4, 5, 11, 12, 13, 14, 15, 16, 17, 18, 19, 20, 21, 22, 23, 24, 25] (fun i : Nat => [(5, .int .i64 i)]) (fun H3 i H2 => i ≤ l.length ∧ (∀ j, j < i → l[j]? = m[j]?) ∧ H2 = H3) (fun i => l.length - i) 0 rfl (fun _ => rfl) ⟨rfl, trivial⟩ ⟨Nat.zero_le _, fun j hj => by omega, rfl⟩ (by unfold fuel0 at hn; omega) ?_
  rintro i g H2 ⟨hi, heq, rfl⟩
  simp only [↓nrmL, nrmZ, Nat.reduceEqDiff, ↓reduceIte, Nat.reduceAdd, Int.reduceBEq, Int.reduceBNe]
  cases hc : decide ((i : Int) < (l.length : Int))
  ·have hil : i = l.length := by have := of_decide_eq_false hc; omega
   subst hil
   have hd : decide (l = m) = true := decide_eq_true (eq_of_gets hlm heq)
   rw [hd]
   repeat first
    | refine mI ?_
    | refine mB ?_
    | (refine mv ?_)
    | (refine bn rfl rfl rfl (by simp only [hc]; rfl) ?_)
    | (refine ln (by simp only [↓nrmL, nrmK, Nat.reduceEqDiff, ↓reduceIte]; rfl) ?_)
    | refine nl hKF ?_
    | refine sq ?_
    | refine rg fun KF hKF => ?_
    | refine cf rfl ?_
    | refine rt ?_
    | refine xi ?_
    | dsimp only [cond_true, cond_false]
   refine rz trivial ?_
   exact ⟨rfl, Ext0.ext⟩
  ·have hil : i < l.length := by have := of_decide_eq_true hc; omega
   have him : i < m.length := by omega
   have hw1 := wa1 (a := i) (by omega)
   cases hne : (((l[i].toNat : Nat) : Int) != ((m[i].toNat : Nat) : Int))
   ·skip
    repeat first
     | refine mI ?_
     | (refine mv ?_)
     | (refine bn rfl rfl rfl (by simp only [hc, hne]; rfl) ?_)
     | refine b0 ?_
     | (refine ln (by simp only [↓nrmL, nrmK, Nat.reduceEqDiff, ↓reduceIte]; rfl) ?_)
     | (refine Fo.idx (by simp only [↓nrmL, nrmK, Nat.reduceEqDiff, ↓reduceIte]; rfl) rfl ?_ (by simp only [↓nrmL, nrmZ, Nat.reduceEqDiff, ↓reduceIte, Nat.reduceAdd, Int.reduceBEq, Int.reduceBNe, hc, hne]; rfl) ?_; (focus omega))
     | (refine Fo.ldB rfl ?_ rfl ?_; (focus omega))
     | refine nl hKF ?_
     | refine sq ?_
     | refine rg fun KF hKF => ?_
     | refine Fr.quiet rfl rfl fun KF hKF => ?_
     | refine ct rfl ?_
     | refine cf rfl ?_
     | refine sk ?_
     | refine Wp.block ?_
     | dsimp only [cond_true, cond_false]
    refine ⟨i + 1, by omega, ⟨by simp only [↓nrmL, nrmZ, Nat.reduceEqDiff, ↓reduceIte, Nat.reduceAdd, Int.reduceBEq, Int.reduceBNe]; rw [hw1], trivial⟩, hil, fun j hj => ?_, rfl⟩
    by_cases hj2 : j < i
    ·exact heq j hj2
    ·have : j = i := by omega
     subst this
     have h2 : l[j].toNat = m[j].toNat := by simp at hne; omega
     have : l[j] = m[j] := UInt8.toNat_inj.1 h2
     simp [hil, him, this]
   ·have hd : decide (l = m) = false := decide_eq_false (fun e => by subst e; simp at hne)
    rw [hd]
    repeat first
     | refine mI ?_
     | refine mB ?_
     | (refine mv ?_)
     | (refine bn rfl rfl rfl (by simp only [hc, hne]; rfl) ?_)
     | (refine ln (by simp only [↓nrmL, nrmK, Nat.reduceEqDiff, ↓reduceIte]; rfl) ?_)
     | (refine Fo.idx (by simp only [↓nrmL, nrmK, Nat.reduceEqDiff, ↓reduceIte]; rfl) rfl ?_ (by simp only [↓nrmL, nrmZ, Nat.reduceEqDiff, ↓reduceIte, Nat.reduceAdd, Int.reduceBEq, Int.reduceBNe, hc, hne]; rfl) ?_; (focus omega))
     | (refine Fo.ldB rfl ?_ rfl ?_; (focus omega))
     | refine nl hKF ?_
     | refine sq ?_
     | refine rg fun KF hKF => ?_
     | refine Fr.quiet rfl rfl fun KF hKF => ?_
     | refine ct rfl ?_
     | refine sk ?_
     | refine rt ?_
     | refine Wp.block ?_
     | dsimp only [cond_true, cond_false]
    refine rz trivial ?_
    exact ⟨rfl, Ext0.ext⟩
 ·have h1 : (((l.length : Nat) : Int) != ((m.length : Nat) : Int)) = true := by simp; omega
  have hd : decide (l = m) = false := decide_eq_false (fun e => by subst e; exact hlm rfl)
  rw [hd]
  repeat first
   | refine mB ?_
   | (refine mv ?_)
   | (refine bn rfl rfl rfl (by simp only [h1]; rfl) ?_)
   | (refine ln (by simp only [↓nrmL, nrmK, Nat.reduceEqDiff, ↓reduceIte]; rfl) ?_)
   | refine nl hKF ?_
   | refine sq ?_
   | refine rg fun KF hKF => ?_
   | refine ct rfl ?_
   | refine rt ?_
   | dsimp only [cond_true, cond_false]
  refine rz trivial ?_
  exact ⟨rfl, Ext0.ext⟩⟩
instance K_SameInk {p q : AVal} {H : AHeap} {w h w' h' : Int} {l m : List UInt8} [hp : BytesI H p l] [hq : BytesI H q m] [hs : Short l] : PureCon ext prog 20 [.agg [.int .i64 w, .int .i64 h, p], .agg [.int .i64 w', .int .i64 h', q]] H 2 (.bool (decide ((⟨w, h, l⟩ : Img) = ⟨w', h', m⟩))) := ⟨by
 refine con_of (show prog 20 = some c20 from rfl) rfl rfl fun n hn => ?_
 haveI := hp.one
 haveI := hq.one
 have e : decide ((⟨w, h, l⟩ : Img) = ⟨w', h', m⟩) = ((w == w') && (h == h') && decide (l = m)) := by
  by_cases h1 : w = w' <;> by_cases h2 : h = h' <;> by_cases h3 : l = m <;> simp [h1, h2, h3]
 rw [e]
 cases h1 : (w == w')
 ·skip
  repeat first
   | refine ox ?_
   | refine mB ?_
   | refine fd ?_
   | refine Fo.ld rfl rfl ?_
   | (refine bn rfl rfl rfl (by simp only [h1]; rfl) ?_)
   | refine fB ?_
   | refine bA ?_
   | refine nl hKF ?_
   | refine sq ?_
   | refine rg fun KF hKF => ?_
   | refine rt ?_
   | dsimp only [cond_true, cond_false]
  refine rz trivial ?_
  exact ⟨rfl, Ext0.ext⟩
 cases h2 : (h == h')
 ·skip
  repeat first
   | refine oy ?_
   | refine ox ?_
   | refine mB ?_
   | refine fd ?_
   | refine Fo.ld rfl rfl ?_
   | (refine bn rfl rfl rfl (by simp only [h1, h2]; rfl) ?_)
   | refine tB ?_
   | refine fB ?_
   | refine bA ?_
   | refine nl hKF ?_
   | refine sq ?_
   | refine rg fun KF hKF => ?_
   | refine rt ?_
   | dsimp only [cond_true, cond_false]
  refine rz trivial ?_
  exact ⟨rfl, Ext0.ext⟩
 ·skip
  repeat first
   | refine oy ?_
   | refine mB ?_
   | refine fd ?_
   | refine Fo.ld rfl rfl ?_
   | (refine bn rfl rfl rfl (by simp only [h1, h2]; rfl) ?_)
   | refine tB ?_
   | (refine Fo.pcall (v' := ?_) hn rfl (by simp only [↓nrmL, nrmZ, Nat.reduceEqDiff, ↓reduceIte, Nat.reduceAdd, Int.reduceBEq, Int.reduceBNe, h1, h2, List.map]; rfl) rfl ?hv fun _ _ => ?_; case hv => rfl)
   | refine bA ?_
   | refine nl hKF ?_
   | refine sq ?_
   | refine rg fun KF hKF => ?_
   | refine rt ?_
   | dsimp only [cond_true, cond_false]
  refine rz trivial ?_
  exact ⟨rfl, Ext0.ext⟩⟩
end Go.Am

namespace Go.Am
open Go
attribute [local irreducible] Wp WpO WpX WpE
instance K_awake {H : AHeap} : PureCon ext prog 12 [] H 0 (.bool true) := ⟨fun n hn => by
 obtain ⟨k, rfl⟩ : ∃ k, n = k + 1 := ⟨n - 1, by unfold fuel0 at hn; omega⟩
 have e1 : prog 12 = some ⟨0, .ext 3, []⟩ := rfl
 refine ⟨.bool true, H, ?_, rfl, Ext.refl H⟩
 rw [call_ext e1]
 rfl⟩
end Go.Am

namespace Go.Am
open Go
attribute [local irreducible] Wp WpO WpX WpE
theorem ws1 {a : Nat} (h : 0 < a) (h2 : a < 9223372036854775807) : IntKind.i64.wrap ((a : Int) - 1) = ((a - 1 : Nat) : Int) := by rw [w64 (by omega)]; omega
def okAt (b : Nat) (l : List Int) (x : Nat) : Bool := decide (0 ≤ l.getD x 0) && decide (l.getD x 0 < (b : Int)) && (x == 0 || (decide (l.getD (x - 1) 0 - 1 ≤ l.getD x 0) && decide (l.getD x 0 ≤ l.getD (x - 1) 0 + 1)))
def okTo (b : Nat) (l : List Int) (x : Nat) : Bool := (List.range x).all (okAt b l)
def pathB (a b : Nat) (l : List Int) : Bool := l.length != 0 && l.length == a && okTo b l l.length
theorem okTo_succ {b : Nat} {l : List Int} {x : Nat} : okTo b l (x + 1) = (okTo b l x && okAt b l x) := by simp [okTo, List.range_succ, List.all_append]
theorem okTo_bad {b : Nat} {l : List Int} {x n : Nat} (h : okAt b l x = false) (hx : x < n) : okTo b l n = false := by
 cases h2 : okTo b l n with
 | false => rfl
 | true =>
  have := List.all_eq_true.1 h2 x (List.mem_range.2 hx)
  rw [h] at this; cases this
theorem okTo_at {b : Nat} {l : List Int} {x n : Nat} (h : okTo b l n = true) (hx : x < n) : okAt b l x = true := List.all_eq_true.1 h x (List.mem_range.2 hx)
theorem getD_at {l : List Int} {x : Nat} (h : x < l.length) : l.getD x 0 = l[x] := by rw [List.getD_eq_getElem?_getD, List.getElem?_eq_getElem h, Option.getD_some]
theorem okTo_range {b : Nat} {l : List Int} {x n : Nat} (h : okTo b l n = true) (hx : x < n) (hl : x < l.length) : 0 ≤ l[x] ∧ l[x] < (b : Int) := by
 have := okTo_at h hx
 simp only [okAt, Bool.and_eq_true, decide_eq_true_eq, getD_at hl] at this
 exact ⟨this.1.1, this.1.2⟩
theorem pathB_len {a b : Nat} {l : List Int} (h : pathB a b l = true) : l.length = a ∧ 0 < a := by
 simp only [pathB, Bool.and_eq_true, bne_iff_ne, beq_iff_eq] at h
 omega
theorem pathB_range {a b : Nat} {l : List Int} (h : pathB a b l = true) {x : Nat} (hx : x < l.length) : 0 ≤ l[x] ∧ l[x] < (b : Int) := by
 simp only [pathB, Bool.and_eq_true] at h
 exact okTo_range h.2 hx hx
class Side (n : Nat) : Prop where
 le : n ≤ 640
instance K_isPath {a b : Nat} {p q : AVal} {H : AHeap} {g : List UInt8} {l : List Int} [hp : BytesI H p g] [hq : IntsI H q l] [ha : Side a] [hb : Side b] : PureCon ext prog 51 [.agg [.int .i64 (a : Int), .int .i64 (b : Int), p], q] H 1 (.bool (pathB a b l)) := ⟨by
 refine con_of (show prog 51 = some c51 from rfl) rfl rfl fun n hn => ?_
 have ha := ha.le
 have hb := hb.le
 haveI := hp.one
 haveI := hq.one
 cases h0 : (((l.length : Nat) : Int) == 0)
 rotate_left
 ·have hl0 : l.length = 0 := by simpa using h0
  have e1 : pathB a b l = false := by simp [pathB, hl0]
  rw [e1]
  repeat first
   | refine ox ?_
   | refine mB ?_
   | (refine mv ?_)
   | (refine bn rfl rfl rfl (by simp only [h0]; rfl) ?_)
   | refine tB ?_
   | (refine ln (by simp only [↓nrmL, nrmK, Nat.reduceEqDiff, ↓reduceIte]; rfl) ?_)
   | refine bA ?_
   | refine nl hKF ?_
   | refine sq ?_
   | refine rg fun KF hKF => ?_
   | refine ct rfl ?_
   | refine rt ?_
   | dsimp only [cond_true, cond_false]
  refine rz trivial ?_
  exact ⟨rfl, Ext0.ext⟩
 have hl0 : l.length ≠ 0 := by simpa using h0
 cases h1 : (((l.length : Nat) : Int) != (a : Int))
 rotate_left
 ·have hl1 : l.length ≠ a := by intro e; rw [e] at h1; simp at h1
  have e1 : pathB a b l = false := by simp [pathB, hl1]
  rw [e1]
  repeat first
   | refine oy ?_
   | refine mB ?_
   | (refine mv ?_)
   | refine fd ?_
   | refine Fo.ld rfl rfl ?_
   | (refine bn rfl rfl rfl (by simp only [h0, h1]; rfl) ?_)
   | refine fB ?_
   | (refine ln (by simp only [↓nrmL, nrmK, Nat.reduceEqDiff, ↓reduceIte]; rfl) ?_)
   | refine bA ?_
   | refine nl hKF ?_
   | refine sq ?_
   | refine rg fun KF hKF => ?_
   | refine ct rfl ?_
   | refine rt ?_
   | dsimp only [cond_true, cond_false]
  refine rz trivial ?_
  exact ⟨rfl, Ext0.ext⟩
 have hl1 : l.length = a := by have h7 := h1; simp only [bne_eq_false_iff_eq] at h7; omega
 have e0 : pathB a b l = okTo b l l.length := by simp [pathB, hl1]; omega
 rw [e0]
 repeat first
  | refine oy ?_
  | refine mI ?_
  | refine mB ?_
  | (refine mv ?_)
  | refine fd ?_
  | refine Fo.ld rfl rfl ?_
  | (refine bn rfl rfl rfl (by simp only [h0, h1]; rfl) ?_)
  | refine fB ?_
  | (refine ln (by simp only [↓nrmL, nrmK, Nat.reduceEqDiff, ↓reduceIte]; rfl) ?_)
  | refine bA ?_
  | refine nl hKF ?_
  | refine sq ?_
  | refine rg fun KF hKF => ?_
  | refine cf rfl ?_
  | refine sk ?_
  | refine Wp.block ?_
  | dsimp only [cond_true, cond_false]
 refine Wp.loopS [4, 5, 6, 19, 20, 21, 22, 23, 24, 25, 26, 27, 28, 29, 30, 31, 32, 33, 34, 35, 36, 37, 38, 39, 40, 41, 42, 43, 44, 45, 46, 47, 48, 49, 50, 51, 52, 53, 54] (fun x : Nat => [(19, .int .i64 x)]) (fun H3 x H2 => x ≤ l.length ∧ okTo b l x = true ∧ Ext0 H3 H2 ∧ H2 = H3) (fun x => l.length - x) 0 rfl (fun _ => rfl) ⟨rfl, trivial⟩ ⟨Nat.zero_le _, rfl, inferInstance, rfl⟩ (by unfold fuel0 at hn; omega) ?_
 rintro x g2 H2 ⟨hx, hok, _, rfl⟩
 simp only [↓nrmL, nrmZ, Nat.reduceEqDiff, ↓reduceIte, Nat.reduceAdd, Int.reduceBEq, Int.reduceBNe]
 cases hc : decide ((x : Int) < ((l.length : Nat) : Int))
 ·have hxl : x = l.length := by have := of_decide_eq_false hc; omega
  subst hxl
  rw [hok]
  repeat first
   | refine mB ?_
   | (refine bn rfl rfl rfl (by simp only [hc]; rfl) ?_)
   | refine nl hKF ?_
   | refine sq ?_
   | refine rg fun KF hKF => ?_
   | refine cf rfl ?_
   | refine rt ?_
   | refine xi ?_
   | dsimp only [cond_true, cond_false]
  refine rz trivial ?_
  exact ⟨rfl, Ext0.ext⟩
 have hxl : x < l.length := by have := of_decide_eq_true hc; omega
 have hw1 := wa1 (a := x) (by omega)
 cases h2 : decide (l[x] < 0)
 rotate_left
 ·rw [okTo_bad (x := x) (n := l.length) (by simp only [okAt, getD_at hxl]; have := of_decide_eq_true h2; rw [decide_eq_false (by omega)]; rfl) hxl]
  repeat first
   | refine ox ?_
   | refine mI ?_
   | refine mB ?_
   | (refine bn rfl rfl rfl (by simp only [hc, h2]; rfl) ?_)
   | refine tB ?_
   | (refine Fo.idx (by simp only [↓nrmL, nrmK, Nat.reduceEqDiff, ↓reduceIte]; rfl) rfl ?_ (by simp only [↓nrmL, nrmZ, Nat.reduceEqDiff, ↓reduceIte, Nat.reduceAdd, Int.reduceBEq, Int.reduceBNe, hc, h2]; rfl) ?_; (focus omega))
   | (refine Fo.ldI rfl ?_ rfl ?_; (focus omega))
   | refine nl hKF ?_
   | refine sq ?_
   | refine rg fun KF hKF => ?_
   | refine ct rfl ?_
   | refine sk ?_
   | refine rt ?_
   | refine Wp.block ?_
   | dsimp only [cond_true, cond_false]
  refine rz trivial ?_
  exact ⟨rfl, Ext0.ext⟩
 cases h3 : decide (l[x] ≥ (b : Int))
 rotate_left
 ·rw [okTo_bad (x := x) (n := l.length) (by simp only [okAt, getD_at hxl]; have := of_decide_eq_true h3; rw [decide_eq_false (p := l[x] < (b : Int)) (by omega), Bool.and_false]; rfl) hxl]
  repeat first
   | refine oy ?_
   | refine mI ?_
   | refine mB ?_
   | refine fd ?_
   | refine Fo.ld rfl rfl ?_
   | (refine bn rfl rfl rfl (by simp only [hc, h2, h3]; rfl) ?_)
   | refine fB ?_
   | (refine Fo.idx (by simp only [↓nrmL, nrmK, Nat.reduceEqDiff, ↓reduceIte]; rfl) rfl ?_ (by simp only [↓nrmL, nrmZ, Nat.reduceEqDiff, ↓reduceIte, Nat.reduceAdd, Int.reduceBEq, Int.reduceBNe, hc, h2, h3]; rfl) ?_; (focus omega))
   | (refine Fo.ldI rfl ?_ rfl ?_; (focus omega))
   | refine nl hKF ?_
   | refine sq ?_
   | refine rg fun KF hKF => ?_
   | refine ct rfl ?_
   | refine sk ?_
   | refine rt ?_
   | refine Wp.block ?_
   | dsimp only [cond_true, cond_false]
  refine rz trivial ?_
  exact ⟨rfl, Ext0.ext⟩
 have g1 : 0 ≤ l[x] := by have := of_decide_eq_false h2; omega
 have g3 : l[x] < (b : Int) := by have := of_decide_eq_false h3; omega
 cases h4 : decide ((x : Int) > 0)
 ·have hx0 : x = 0 := by have := of_decide_eq_false h4; omega
  subst hx0
  have e2 : okTo b l (0 + 1) = true := by rw [okTo_succ, hok, okAt, getD_at hxl, decide_eq_true g1, decide_eq_true g3]; rfl
  repeat first
   | refine oy ?_
   | refine ox ?_
   | refine Fo.noU rfl ?_
   | refine mI ?_
   | refine mB ?_
   | refine fd ?_
   | refine Fo.ld rfl rfl ?_
   | (refine bn rfl rfl rfl (by simp only [hc, h2, h3, h4]; rfl) ?_)
   | refine b0 ?_
   | refine fB ?_
   | (refine Fo.idx (by simp only [↓nrmL, nrmK, Nat.reduceEqDiff, ↓reduceIte]; rfl) rfl ?_ (by simp only [↓nrmL, nrmZ, Nat.reduceEqDiff, ↓reduceIte, Nat.reduceAdd, Int.reduceBEq, Int.reduceBNe, hc, h2, h3, h4]; rfl) ?_; (focus omega))
   | (refine Fo.ldI rfl ?_ rfl ?_; (focus omega))
   | refine nl hKF ?_
   | refine sq ?_
   | refine rg fun KF hKF => ?_
   | refine ct rfl ?_
   | refine cf rfl ?_
   | refine sk ?_
   | refine Wp.block ?_
   | dsimp only [cond_true, cond_false]
  refine ⟨0 + 1, by omega, ⟨by simp only [↓nrmL, nrmZ, Nat.reduceEqDiff, ↓reduceIte, Nat.reduceAdd, Int.reduceBEq, Int.reduceBNe]; rw [hw1], trivial⟩, hxl, e2, inferInstance, rfl⟩
 have hx0 : 0 < x := by have := of_decide_eq_true h4; omega
 have hw2 := ws1 (a := x) hx0 (by omega)
 have hxm : x - 1 < l.length := by omega
 obtain ⟨m1, m2⟩ := okTo_range hok (x := x - 1) (by omega) hxm
 have hw3 : IntKind.i64.wrap (l[x - 1] - 1) = l[x - 1] - 1 := w64 (by omega)
 have hw4 : IntKind.i64.wrap (l[x - 1] + 1) = l[x - 1] + 1 := w64 (by omega)
 cases h5 : decide (l[x] < l[x - 1] - 1)
 rotate_left
 ·rw [okTo_bad (x := x) (n := l.length) (by
   have h5 := of_decide_eq_true h5
   simp only [okAt, getD_at hxl, getD_at hxm]
   rw [decide_eq_false (p := l[x - 1] - 1 ≤ l[x]) (by omega), Bool.false_and, Bool.or_false, beq_eq_false_iff_ne.2 (by omega), Bool.and_false]) hxl]
  repeat first
   | refine oy ?_
   | refine ox ?_
   | refine mI ?_
   | refine mB ?_
   | (refine mv ?_)
   | refine fd ?_
   | refine Fo.ld rfl rfl ?_
   | (refine bn rfl rfl rfl (by simp only [hc, h2, h3, h4, hw2, hw3, hw4, h5]; rfl) ?_)
   | refine tB ?_
   | refine fB ?_
   | (refine Fo.idx (by simp only [↓nrmL, nrmK, Nat.reduceEqDiff, ↓reduceIte]; rfl) rfl ?_ (by simp only [↓nrmL, nrmZ, Nat.reduceEqDiff, ↓reduceIte, Nat.reduceAdd, Int.reduceBEq, Int.reduceBNe, hc, h2, h3, h4, hw2, hw3, hw4, h5]; rfl) ?_; (focus omega))
   | (refine Fo.ldI rfl ?_ rfl ?_; (focus omega))
   | refine nl hKF ?_
   | refine sq ?_
   | refine rg fun KF hKF => ?_
   | refine ct rfl ?_
   | refine cf rfl ?_
   | refine sk ?_
   | refine rt ?_
   | refine Wp.block ?_
   | dsimp only [cond_true, cond_false]
  refine rz trivial ?_
  exact ⟨rfl, Ext0.ext⟩
 cases h6 : decide (l[x] > l[x - 1] + 1)
 rotate_left
 ·rw [okTo_bad (x := x) (n := l.length) (by
   have h6 := of_decide_eq_true h6
   simp only [okAt, getD_at hxl, getD_at hxm]
   rw [decide_eq_false (p := l[x] ≤ l[x - 1] + 1) (by omega), Bool.and_false, Bool.or_false, beq_eq_false_iff_ne.2 (by omega), Bool.and_false]) hxl]
  repeat first
   | refine oy ?_
   | refine mI ?_
   | refine mB ?_
   | (refine mv ?_)
   | refine fd ?_
   | refine Fo.ld rfl rfl ?_
   | (refine bn rfl rfl rfl (by simp only [hc, h2, h3, h4, hw2, hw3, hw4, h5, h6]; rfl) ?_)
   | refine tB ?_
   | refine fB ?_
   | (refine Fo.idx (by simp only [↓nrmL, nrmK, Nat.reduceEqDiff, ↓reduceIte]; rfl) rfl ?_ (by simp only [↓nrmL, nrmZ, Nat.reduceEqDiff, ↓reduceIte, Nat.reduceAdd, Int.reduceBEq, Int.reduceBNe, hc, h2, h3, h4, hw2, hw3, hw4, h5, h6]; rfl) ?_; (focus omega))
   | (refine Fo.ldI rfl ?_ rfl ?_; (focus omega))
   | refine nl hKF ?_
   | refine sq ?_
   | refine rg fun KF hKF => ?_
   | refine ct rfl ?_
   | refine cf rfl ?_
   | refine sk ?_
   | refine rt ?_
   | refine Wp.block ?_
   | dsimp only [cond_true, cond_false]
  refine rz trivial ?_
  exact ⟨rfl, Ext0.ext⟩
 have e2 : okTo b l (x + 1) = true := by
  have h5 := of_decide_eq_false h5
  have h6 := of_decide_eq_false h6
  rw [okTo_succ, hok, okAt, getD_at hxl, getD_at hxm, decide_eq_true g1, decide_eq_true g3, decide_eq_true (p := l[x - 1] - 1 ≤ l[x]) (by omega), decide_eq_true (p := l[x] ≤ l[x - 1] + 1) (by omega)]
  simp
 repeat first
  | refine oy ?_
  | refine mI ?_
  | refine mB ?_
  | (refine mv ?_)
  | refine fd ?_
  | refine Fo.ld rfl rfl ?_
  | (refine bn rfl rfl rfl (by simp only [hc, h2, h3, h4, hw2, hw3, hw4, h5, h6]; rfl) ?_)
  | refine b0 ?_
  | refine tB ?_
  | refine fB ?_
  | (refine Fo.idx (by simp only [↓nrmL, nrmK, Nat.reduceEqDiff, ↓reduceIte]; rfl) rfl ?_ (by simp only [↓nrmL, nrmZ, Nat.reduceEqDiff, ↓reduceIte, Nat.reduceAdd, Int.reduceBEq, Int.reduceBNe, hc, h2, h3, h4, hw2, hw3, hw4, h5, h6]; rfl) ?_; (focus omega))
  | (refine Fo.ldI rfl ?_ rfl ?_; (focus omega))
  | refine nl hKF ?_
  | refine sq ?_
  | refine rg fun KF hKF => ?_
  | refine ct rfl ?_
  | refine cf rfl ?_
  | refine sk ?_
  | refine Wp.block ?_
  | dsimp only [cond_true, cond_false]
 refine ⟨x + 1, by omega, ⟨by simp only [↓nrmL, nrmZ, Nat.reduceEqDiff, ↓reduceIte, Nat.reduceAdd, Int.reduceBEq, Int.reduceBNe]; rw [hw1], trivial⟩, hxl, e2, inferInstance, rfl⟩⟩
def belowTo (l m : List Int) (x : Nat) : Bool := (List.range x).all fun i => decide (l.getD i 0 < m.getD i 0)
def aboveB (l m : List Int) : Bool := belowTo l m l.length
class LenLe (l m : List Int) : Prop where
 le : l.length ≤ m.length
 sm : l.length ≤ 999999
instance K_above {p q : AVal} {H : AHeap} {l m : List Int} [hp : IntsI H p l] [hq : IntsI H q m] [hl : LenLe l m] : PureCon ext prog 101 [p, q] H 1 (.bool (aboveB l m)) := ⟨by
 refine con_of (show prog 101 = some c101 from rfl) rfl rfl fun n hn => ?_
 have hlm := hl.le
 have hsm := hl.sm
 repeat first
  | refine mI ?_
  | refine mB ?_
  | (refine mv ?_)
  | (refine ln (by simp only [↓nrmL, nrmK, Nat.reduceEqDiff, ↓reduceIte]; rfl) ?_)
  | refine nl hKF ?_
  | refine sq ?_
  | refine rg fun KF hKF => ?_
  | refine Wp.block ?_
  | dsimp only [cond_true, cond_false]
 refine Wp.loopS [4, 5, 8, 9, 10, 11, 12, 13, 14, 15, 16, 17, 18, 19, 20] (fun x : Nat => [(8, .int .i64 x)]) (fun H3 x H2 => x ≤ l.length ∧ belowTo l m x = true ∧ H2 = H3) (fun x => l.length - x) 0 rfl (fun _ => rfl) ⟨rfl, trivial⟩ ⟨Nat.zero_le _, rfl, rfl⟩ (by unfold fuel0 at hn; omega) ?_
 rintro x g2 H2 ⟨hx, hok, rfl⟩
 simp only [↓nrmL, nrmZ, Nat.reduceEqDiff, ↓reduceIte, Nat.reduceAdd, Int.reduceBEq, Int.reduceBNe]
 cases hc : decide ((x : Int) < ((l.length : Nat) : Int))
 ·have hxl : x = l.length := by have := of_decide_eq_false hc; omega
  have e1 : aboveB l m = true := by rw [aboveB, ← hxl, hok]
  rw [e1]
  repeat first
   | refine mB ?_
   | (refine bn rfl rfl rfl (by simp only [hc]; rfl) ?_)
   | refine nl hKF ?_
   | refine sq ?_
   | refine rg fun KF hKF => ?_
   | refine cf rfl ?_
   | refine rt ?_
   | refine xi ?_
   | dsimp only [cond_true, cond_false]
  refine rz trivial ?_
  exact ⟨rfl, Ext0.ext⟩
 have hxl : x < l.length := by have := of_decide_eq_true hc; omega
 have hxm : x < m.length := by omega
 have hw1 := wa1 (a := x) (by omega)
 cases h2 : decide (l[x] ≥ m[x])
 ·have e2 : belowTo l m (x + 1) = true := by
   have := of_decide_eq_false h2
   have e3 : belowTo l m (x + 1) = (belowTo l m x && decide (l.getD x 0 < m.getD x 0)) := by simp [belowTo, List.range_succ, List.all_append]
   rw [e3, hok, getD_at hxl, getD_at hxm, decide_eq_true (by omega)]; rfl
  repeat first
   | refine mI ?_
   | (refine mv ?_)
   | (refine bn rfl rfl rfl (by simp only [hc, h2]; rfl) ?_)
   | refine b0 ?_
   | (refine Fo.idx (by simp only [↓nrmL, nrmK, Nat.reduceEqDiff, ↓reduceIte]; rfl) rfl ?_ (by simp only [↓nrmL, nrmZ, Nat.reduceEqDiff, ↓reduceIte, Nat.reduceAdd, Int.reduceBEq, Int.reduceBNe, hc, h2]; rfl) ?_; (focus omega))
   | (refine Fo.ldI rfl ?_ rfl ?_; (focus omega))
   | refine nl hKF ?_
   | refine sq ?_
   | refine rg fun KF hKF => ?_
   | refine Fr.quiet rfl rfl fun KF hKF => ?_
   | refine ct rfl ?_
   | refine cf rfl ?_
   | refine sk ?_
   | refine Wp.block ?_
   | dsimp only [cond_true, cond_false]
  refine ⟨x + 1, by omega, ⟨by simp only [↓nrmL, nrmZ, Nat.reduceEqDiff, ↓reduceIte, Nat.reduceAdd, Int.reduceBEq, Int.reduceBNe]; rw [hw1], trivial⟩, hxl, e2, rfl⟩
 ·have e2 : aboveB l m = false := by
   have h2 := of_decide_eq_true h2
   cases h3 : aboveB l m with
   | false => rfl
   | true =>
    have := List.all_eq_true.1 h3 x (List.mem_range.2 hxl)
    rw [getD_at hxl, getD_at hxm, decide_eq_true_eq] at this
    omega
  rw [e2]
  repeat first
   | refine mI ?_
   | refine mB ?_
   | (refine mv ?_)
   | (refine bn rfl rfl rfl (by simp only [hc, h2]; rfl) ?_)
   | (refine Fo.idx (by simp only [↓nrmL, nrmK, Nat.reduceEqDiff, ↓reduceIte]; rfl) rfl ?_ (by simp only [↓nrmL, nrmZ, Nat.reduceEqDiff, ↓reduceIte, Nat.reduceAdd, Int.reduceBEq, Int.reduceBNe, hc, h2]; rfl) ?_; (focus omega))
   | (refine Fo.ldI rfl ?_ rfl ?_; (focus omega))
   | refine nl hKF ?_
   | refine sq ?_
   | refine rg fun KF hKF => ?_
   | refine Fr.quiet rfl rfl fun KF hKF => ?_
   | refine ct rfl ?_
   | refine sk ?_
   | refine rt ?_
   | refine Wp.block ?_
   | dsimp only [cond_true, cond_false]
  refine rz trivial ?_
  exact ⟨rfl, Ext0.ext⟩⟩
end Go.Am


namespace Go.Am
open Go
attribute [local irreducible] Wp WpO WpX WpE
instance K_bCount {p : AVal} {H : AHeap} {l : List UInt8} {k : Int} {b : UInt8} [hp : BytesI H p l] [hb : IsU8 k b] : PureCon ext prog 111 [p, .int .u8 k] H 0 (.int .i64 (l.count b : Nat)) := ⟨fun n hn => by
 obtain ⟨m, rfl⟩ : ∃ m, n = m + 1 := ⟨n - 1, by unfold fuel0 at hn; omega⟩
 have e1 : prog 111 = some ⟨0, .ext 0, []⟩ := rfl
 refine ⟨_, H, ?_, rfl, Ext.refl H⟩
 rw [call_ext e1]
 have hb' := hb.eq
 subst hb'
 show aBytesFn (fun l => .int .i64 (Lib.countByte l (UInt8.ofNat ((b.toNat : Int)).toNat))) p H = _
 rw [aBytesFn_at]
 simp [Lib.countByte]⟩
instance K_bytesCount {p q : AVal} {H : AHeap} {l : List UInt8} {b : UInt8} [hp : BytesI H p l] [hq : BytesI H q [b]] : PureCon ext prog 91 [p, q] H 1 (.int .i64 (l.count b : Nat)) := ⟨by
 refine con_of (show prog 91 = some c91 from rfl) rfl rfl fun n hn => ?_
 have e0 : [b].length = 1 := rfl
 repeat first
  | refine mI ?_
  | (refine mv ?_)
  | refine b0 ?_
  | (refine Fo.pcall (v' := ?_) hn rfl (by simp only [↓nrmL, nrmZ, Nat.reduceEqDiff, ↓reduceIte, Nat.reduceAdd, Int.reduceBEq, Int.reduceBNe, e0, List.map]; rfl) rfl ?hv fun _ _ => ?_; case hv => rfl)
  | (refine Fo.len (v := ?_) (by simp only [↓nrmL, nrmK, Nat.reduceEqDiff, ↓reduceIte]; rfl) ?hv ?_; case hv => (simp only [e0]; rfl))
  | (refine Fo.idx (by simp only [↓nrmL, nrmK, Nat.reduceEqDiff, ↓reduceIte]; rfl) rfl ?_ (by simp only [↓nrmL, nrmZ, Nat.reduceEqDiff, ↓reduceIte, Nat.reduceAdd, Int.reduceBEq, Int.reduceBNe, e0]; rfl) ?_; (focus omega))
  | (refine Fo.ldB rfl ?_ rfl ?_; (focus omega))
  | refine nl hKF ?_
  | refine sq ?_
  | refine rg fun KF hKF => ?_
  | refine ct rfl ?_
  | refine cf rfl ?_
  | refine sk ?_
  | refine rt ?_
  | dsimp only [cond_true, cond_false]
 refine rz trivial ?_
 exact ⟨rfl, Ext0.ext⟩⟩
end Go.Am


namespace Go.Am
open Go
attribute [local irreducible] Wp WpO WpX WpE
instance K_count {p : AVal} {H : AHeap} {w h : Int} {l : List UInt8} [hp : BytesI H p l] : PureCon ext prog 86 [.agg [.int .i64 w, .int .i64 h, p]] H 2 (.int .i64 (l.count 1 : Nat)) := ⟨by
 refine con_of (show prog 86 = some c86 from rfl) rfl rfl fun n hn => ?_
 haveI := hp.one
 repeat first
  | refine mI ?_
  | refine fd ?_
  | refine Fo.ld rfl rfl ?_
  | (refine Fo.pcall (v' := ?_) hn rfl (by simp only [↓nrmL, nrmZ, Nat.reduceEqDiff, ↓reduceIte, Nat.reduceAdd, Int.reduceBEq, Int.reduceBNe, List.map]; rfl) rfl ?hv fun _ _ => ?_; case hv => rfl)
  | refine bA ?_
  | (refine Fo.bslice rfl (by simp only [↓nrmL, nrmZ, Nat.reduceEqDiff, ↓reduceIte, Nat.reduceAdd, Int.reduceBEq, Int.reduceBNe]; rfl) ?_)
  | refine nl hKF ?_
  | refine sq ?_
  | refine rg fun KF hKF => ?_
  | refine rt ?_
  | dsimp only [cond_true, cond_false]
 refine rz trivial ?_
 exact ⟨rfl, Ext0.ext⟩⟩
def Img.err (g : Img) : Int := bif g.sized then bif pxOk g.px then 0 else 3 else 2
instance K_Check {p : AVal} {H : AHeap} {w h : Int} {l : List UInt8} [hp : BytesI H p l] : PureCon ext prog 50 [.agg [.int .i64 w, .int .i64 h, p]] H 3 (.int .i64 (Img.err ⟨w, h, l⟩)) := ⟨by
 refine con_of (show prog 50 = some c50 from rfl) rfl rfl fun n hn => ?_
 haveI := hp.one
 unfold Img.err Img.sized sizedB
 cases h1 : (sideB w && sideB h && ((l.length : Nat) == IntKind.i64.wrap (w * h)))
 ·skip
  simp only [h1]
  repeat first
   | refine mI ?_
   | refine fd ?_
   | refine Fo.ld rfl rfl ?_
   | (refine Fo.pcall (v' := ?_) hn rfl (by simp only [↓nrmL, nrmZ, Nat.reduceEqDiff, ↓reduceIte, Nat.reduceAdd, Int.reduceBEq, Int.reduceBNe, h1, List.map]; rfl) rfl ?hv fun _ _ => ?_; case hv => (simp only [↓nrmL, nrmZ, Nat.reduceEqDiff, ↓reduceIte, Nat.reduceAdd, Int.reduceBEq, Int.reduceBNe, h1]; rfl))
   | (refine ln (by simp only [↓nrmL, nrmK, Nat.reduceEqDiff, ↓reduceIte]; rfl) ?_)
   | refine bA ?_
   | (refine Fo.now rfl rfl (by simp only [↓nrmL, nrmZ, Nat.reduceEqDiff, ↓reduceIte, Nat.reduceAdd, Int.reduceBEq, Int.reduceBNe, h1]; rfl) ?_)
   | refine nl hKF ?_
   | refine sq ?_
   | refine rg fun KF hKF => ?_
   | refine ct rfl ?_
   | refine rt ?_
   | dsimp only [cond_true, cond_false]
  refine rz trivial ?_
  exact ⟨rfl, Ext0.ext⟩
 ·obtain ⟨a, b, rfl, rfl, ha, hb, hl⟩ := sized_nat (n := l.length) h1
  have hm : a * b ≤ 640 * 640 := Nat.mul_le_mul ha hb
  have hc0 := count_le l 0
  have hc1 := count_le l 1
  have hw := wa (a := l.count 0) (b := l.count 1) (by omega)
  have h2 : (((l.count 0 + l.count 1 : Nat) : Int) != ((l.length : Nat) : Int)) = !(pxOk l) := by
   have := count01 l
   cases hp : pxOk l
   ·have : l.count 0 + l.count 1 ≠ l.length := fun e => by rw [this] at e; rw [hp] at e; cases e
    simp; omega
   ·have := this.2 hp
    simp [this]
  simp only [h1]
  repeat first
   | refine mI ?_
   | refine fd ?_
   | refine Fo.ld rfl rfl ?_
   | (refine Fo.pcall (v' := ?_) hn rfl (by simp only [↓nrmL, nrmZ, Nat.reduceEqDiff, ↓reduceIte, Nat.reduceAdd, Int.reduceBEq, Int.reduceBNe, h1, List.map]; rfl) rfl ?hv fun _ _ => ?_; case hv => (simp only [↓nrmL, nrmZ, Nat.reduceEqDiff, ↓reduceIte, Nat.reduceAdd, Int.reduceBEq, Int.reduceBNe, h1]; rfl))
   | (refine ln (by simp only [↓nrmL, nrmK, Nat.reduceEqDiff, ↓reduceIte]; rfl) ?_)
   | refine bA ?_
   | (refine Fo.now rfl rfl (by simp only [↓nrmL, nrmZ, Nat.reduceEqDiff, ↓reduceIte, Nat.reduceAdd, Int.reduceBEq, Int.reduceBNe, h1]; rfl) ?_)
   | refine nl hKF ?_
   | refine sq ?_
   | refine rg fun KF hKF => ?_
   | refine cf rfl ?_
   | refine sk ?_
   | dsimp only [cond_true, cond_false]
  refine Fr.dregionE [.row [.int .u8 0] true (2 * 5)] ?_ fun KF hKF => ?_
  ·skip
   refine oracle_pre rfl rfl rfl rfl ?_; (try simp only [↓nrmL, nrmZ, Nat.reduceEqDiff, ↓reduceIte, Nat.reduceAdd, Int.reduceBEq, Int.reduceBNe])
   refine oracle_pre rfl rfl rfl (exec_ld rfl rfl) ?_; (try simp only [↓nrmL, nrmZ, Nat.reduceEqDiff, ↓reduceIte, Nat.reduceAdd, Int.reduceBEq, Int.reduceBNe])
   refine oracle_made rfl rfl rfl ?_; (try simp only [↓nrmL, nrmZ, Nat.reduceEqDiff, ↓reduceIte, Nat.reduceAdd, Int.reduceBEq, Int.reduceBNe])
   exact oracle_none _ _ _ _ rfl
  simp only [pushAll]
  simp only [↓nrmL, nrmZ, Nat.reduceEqDiff, ↓reduceIte, Nat.reduceAdd, Int.reduceBEq, Int.reduceBNe, hw]
  repeat first
   | (refine Er rfl (exec_ld rfl rfl) rfl ?_)
   | (refine Er rfl (exec_ldN rfl rfl (by simp only [↓nrmL, nrmZ, Nat.reduceEqDiff, ↓reduceIte, Nat.reduceAdd, Int.reduceBEq, Int.reduceBNe, hw]; rfl)) rfl ?_)
   | (refine Fe.pure rfl (exec_lenP (by (try simp only [↓nrmL, nrmZ, Nat.reduceEqDiff, ↓reduceIte, Nat.reduceAdd, Int.reduceBEq, Int.reduceBNe, hw]); rfl)) rfl ?_)
   | (refine Fe.pure rfl rfl (by simp only [↓nrmL, nrmZ, Nat.reduceEqDiff, ↓reduceIte, Nat.reduceAdd, Int.reduceBEq, Int.reduceBNe, hw]; rfl) ?_)
   | refine Fe.pure rfl rfl rfl ?_
   | (refine Em rfl rfl ghost_of rfl ?_)
   | (refine Fe.pcall (v' := ?_) rfl hn rfl (by simp only [↓nrmL, nrmZ, Nat.reduceEqDiff, ↓reduceIte, Nat.reduceAdd, Int.reduceBEq, Int.reduceBNe, hw, List.map]; rfl) rfl ?hv fun _ _ => ar ?_; case hv => rfl)
   | refine WpE.nil (hKF _ _ ?_)
  cases hp2 : pxOk l
  ·rw [hp2] at h2
   simp only [hw, h2]
   refine ct rfl ?_
   refine sq ?_
   refine rg fun KF hKF => ?_
   refine mI ?_
   refine nl hKF ?_
   refine rt ?_
   dsimp only [cond_true, cond_false]
   refine rz trivial ?_
   exact ⟨rfl, Ext0.ext⟩
  ·rw [hp2] at h2
   simp only [hw, h2]
   refine cf rfl ?_
   refine sk ?_
   refine sq ?_
   refine rg fun KF hKF => ?_
   refine mI ?_
   refine nl hKF ?_
   refine rt ?_
   dsimp only [cond_true, cond_false]
   refine rz trivial ?_
   exact ⟨rfl, Ext0.ext⟩⟩
end Go.Am


namespace Go.Am
open Go
attribute [local irreducible] Wp WpO WpX WpE
theorem K_Clone {H : AHeap} {p : AVal} {l : List UInt8} [hp : BytesI H p l] (hl : l.length < 2 ^ 40) : Con ext prog 1 109 [p] H fun v H' => NewBytes H H' v l := by
 refine con_of (show prog 109 = some c109 from rfl) rfl rfl fun n hn => ?_
 rcases hp.it with ⟨rfl, h0, _⟩ | ⟨r, off, cap, row, rw, e, rfl, hr, hg, hle, hc, _⟩
 ·have : l = [] := List.eq_nil_of_length_eq_zero h0
  subst this
  repeat first
   | refine mN ?_
   | (refine Fo.now rfl rfl (by simp only [↓nrmL, nrmZ, Nat.reduceEqDiff, ↓reduceIte, Nat.reduceAdd, Int.reduceBEq, Int.reduceBNe]; rfl) ?_)
   | refine nl hKF ?_
   | refine sq ?_
   | refine rg fun KF hKF => ?_
   | refine ct rfl ?_
   | refine rt ?_
   | dsimp only [cond_true, cond_false]
  refine rz trivial ?_
  exact (show NewBytes H H .nslice [] from ⟨inferInstance, ⟨fun _ _ _ _ _ e => by cases e⟩, ⟨fun _ _ _ _ _ e => by cases e⟩, Ext0.ext⟩)
 ·skip
  repeat first
   | refine mN ?_
   | (refine mv ?_)
   | refine Fo.bslice rfl rfl ?_
   | (refine Fo.now rfl rfl (by simp only [↓nrmL, nrmZ, Nat.reduceEqDiff, ↓reduceIte, Nat.reduceAdd, Int.reduceBEq, Int.reduceBNe]; rfl) ?_)
   | refine nl hKF ?_
   | refine sq ?_
   | refine rg fun KF hKF => ?_
   | refine cf rfl ?_
   | refine sk ?_
  refine WpO.do (WpX.appendE rfl (by simp only [↓nrmL, nrmZ, Nat.reduceEqDiff, ↓reduceIte, Nat.reduceAdd, Int.reduceBEq, Int.reduceBNe, List.map] <;> rfl) hl fun v H1 h1 h2 h3 h4 => ?_)
  refine mv ?_
  refine nl hKF ?_
  refine rt ?_
  dsimp only [cond_true, cond_false]
  refine rz trivial ?_
  refine (show NewBytes H H1 v l from ⟨h1, ⟨fun r' _ _ _ _ e => ?_⟩, h3, Ext0.ext⟩)
  rcases h2 _ _ _ _ _ e with rfl | h5
  ·exact Nat.le_refl _
  ·exact Nat.le_trans (Nat.le_succ _) h5
theorem K_twin {H : AHeap} {a b : Int} {p : AVal} {l : List UInt8} [hp : BytesI H p l] (hl : l.length < 2 ^ 40) : Con ext prog 2 88 [.agg [.int .i64 a, .int .i64 b, p]] H fun v H' => NewInk H H' v ⟨a, b, l⟩ := by
 refine con_of (show prog 88 = some c88 from rfl) rfl rfl fun n hn => ?_
 haveI := hp.one
 refine sq ?_
 refine rg fun KF hKF => ?_
 refine bA ?_
 refine nw ?_
 refine nl hKF ?_
 refine sq ?_
 refine Fr.dregion0 rfl fun KF hKF => ?_
 repeat first
  | (refine Er rfl (exec_ld rfl rfl) rfl ?_)
  | (refine Fe.pure rfl rfl (by simp only [↓nrmL, nrmZ, Nat.reduceEqDiff, ↓reduceIte, Nat.reduceAdd, Int.reduceBEq, Int.reduceBNe]; rfl) ?_)
 refine Fe.con rfl hn rfl rfl (by simp only [↓nrmL, nrmZ, Nat.reduceEqDiff, ↓reduceIte, Nat.reduceAdd, Int.reduceBEq, Int.reduceBNe, List.map] <;> rfl) (K_Clone hl) fun v H1 ⟨h1, h2, h3, h4⟩ => ?_
 haveI : ExtI _ H1 := ⟨h4⟩
 haveI := h1.one
 refine ar ?_
 refine Fe.pure rfl (exec_build (by repeat (first | refine aFill1 (by (try simp only [↓nrmL, nrmZ, Nat.reduceEqDiff, ↓reduceIte, Nat.reduceAdd, Int.reduceBEq, Int.reduceBNe]); rfl) rfl ?_ | rfl))) (by simp only [↓nrmL, nrmZ, Nat.reduceEqDiff, ↓reduceIte, Nat.reduceAdd, Int.reduceBEq, Int.reduceBNe]; rfl) ?_
 refine Ee rfl (xs rfl (by (try simp only [↓nrmL, nrmZ, Nat.reduceEqDiff, ↓reduceIte, Nat.reduceAdd, Int.reduceBEq, Int.reduceBNe]); rfl) rfl rfl rfl (by (try simp only [↓nrmL, nrmZ, Nat.reduceEqDiff, ↓reduceIte, Nat.reduceAdd, Int.reduceBEq, Int.reduceBNe]); rfl)) ?_
 refine WpE.nil (hKF _ _ ?_)
 refine rt ?_
 dsimp only [cond_true, cond_false]
 refine rz trivial ?_
 exact ⟨v, rfl, inferInstance, h2.weak, inferInstance, Ext0.ext⟩
theorem K_New {w h : Int} {H : AHeap} : Con ext prog 3 81 [.int .i64 w, .int .i64 h] H fun v H' => InkRes H H' v (bif sideB w && sideB h then (⟨w, h, List.replicate (w.toNat * h.toNat) 0⟩, 0) else (.zero, 2)) := by
 refine con_of (show prog 81 = some c81 from rfl) rfl rfl fun n hn => ?_
 cases h1 : sideB w
 ·skip
  simp only [h1, Bool.false_and, cond_false]
  repeat first
   | refine ox ?_
   | refine mI ?_
   | refine mB ?_
   | refine tB ?_
   | (refine Fo.pcall (v' := ?_) hn rfl (by simp only [↓nrmL, nrmZ, Nat.reduceEqDiff, ↓reduceIte, Nat.reduceAdd, Int.reduceBEq, Int.reduceBNe, h1, Bool.false_and, cond_false, List.map]; rfl) rfl ?hv fun _ _ => ?_; case hv => (simp only [h1, Bool.false_and, cond_false]; rfl))
   | refine nw ?_
   | (refine ob (cs' := ?_) ?hc ?_; case hc => rfl)
   | (refine Fo.now rfl rfl (by simp only [↓nrmL, nrmZ, Nat.reduceEqDiff, ↓reduceIte, Nat.reduceAdd, Int.reduceBEq, Int.reduceBNe, h1, Bool.false_and, cond_false]; rfl) ?_)
   | (refine so rfl (rfl : _ = AVal.agg _) rfl rfl rfl (by simp only [↓nrmL, nrmZ, Nat.reduceEqDiff, ↓reduceIte, Nat.reduceAdd, Int.reduceBEq, Int.reduceBNe, h1, Bool.false_and, cond_false]; rfl) ?_)
   | refine nl hKF ?_
   | refine sq ?_
   | refine rg fun KF hKF => ?_
   | refine ct rfl ?_
   | refine rt ?_
   | dsimp only [cond_true, cond_false]
  refine rz trivial ?_
  exact ⟨_, rfl, newZero⟩
 cases h2 : sideB h
 ·skip
  simp only [h1, h2, Bool.false_and, Bool.and_false, cond_false]
  repeat first
   | refine oy ?_
   | refine mI ?_
   | refine mB ?_
   | refine fB ?_
   | (refine Fo.pcall (v' := ?_) hn rfl (by simp only [↓nrmL, nrmZ, Nat.reduceEqDiff, ↓reduceIte, Nat.reduceAdd, Int.reduceBEq, Int.reduceBNe, h1, h2, Bool.false_and, Bool.and_false, cond_false, List.map]; rfl) rfl ?hv fun _ _ => ?_; case hv => (simp only [h1, h2, Bool.false_and, Bool.and_false, cond_false]; rfl))
   | refine nw ?_
   | (refine ob (cs' := ?_) ?hc ?_; case hc => rfl)
   | (refine Fo.now rfl rfl (by simp only [↓nrmL, nrmZ, Nat.reduceEqDiff, ↓reduceIte, Nat.reduceAdd, Int.reduceBEq, Int.reduceBNe, h1, h2, Bool.false_and, Bool.and_false, cond_false]; rfl) ?_)
   | (refine so rfl (rfl : _ = AVal.agg _) rfl rfl rfl (by simp only [↓nrmL, nrmZ, Nat.reduceEqDiff, ↓reduceIte, Nat.reduceAdd, Int.reduceBEq, Int.reduceBNe, h1, h2, Bool.false_and, Bool.and_false, cond_false]; rfl) ?_)
   | refine nl hKF ?_
   | refine sq ?_
   | refine rg fun KF hKF => ?_
   | refine ct rfl ?_
   | refine rt ?_
   | dsimp only [cond_true, cond_false]
  refine rz trivial ?_
  exact ⟨_, rfl, newZero⟩
 ·have hw : 0 ≤ w ∧ w ≤ 640 := by simpa [sideB] using h1
  have hh : 0 ≤ h ∧ h ≤ 640 := by simpa [sideB] using h2
  obtain ⟨a, rfl⟩ : ∃ a : Nat, w = a := ⟨w.toNat, by omega⟩
  obtain ⟨b, rfl⟩ : ∃ b : Nat, h = b := ⟨h.toNat, by omega⟩
  simp only [↓nrmL, nrmZ, Nat.reduceEqDiff, ↓reduceIte, Nat.reduceAdd, Int.reduceBEq, Int.reduceBNe, h1, h2]
  repeat first
   | refine oy ?_
   | refine mI ?_
   | refine mB ?_
   | refine fB ?_
   | (refine Fo.pcall (v' := ?_) hn rfl (by simp only [↓nrmL, nrmZ, Nat.reduceEqDiff, ↓reduceIte, Nat.reduceAdd, Int.reduceBEq, Int.reduceBNe, h1, h2, List.map]; rfl) rfl ?hv fun _ _ => ?_; case hv => (simp only [h1, h2]; rfl))
   | refine nw ?_
   | (refine Fo.now rfl rfl (by simp only [↓nrmL, nrmZ, Nat.reduceEqDiff, ↓reduceIte, Nat.reduceAdd, Int.reduceBEq, Int.reduceBNe, h1, h2]; rfl) ?_)
   | refine nl hKF ?_
   | refine sq ?_
   | refine rg fun KF hKF => ?_
   | refine cf rfl ?_
   | refine sk ?_
  refine WpO.do (WpX.conD hn rfl rfl (by simp only [↓nrmL, nrmZ, Nat.reduceEqDiff, ↓reduceIte, Nat.reduceAdd, Int.reduceBEq, Int.reduceBNe, List.map] <;> rfl) (K_blank (w := a) (h := b) (by omega) (by omega)) fun v H1 h5 => ?_)
  obtain ⟨q, e2, hq, hf, hw3, hx⟩ := h5
  subst e2
  haveI : ExtI _ H1 := ⟨hx⟩
  haveI := hq.one
  refine so rfl (rfl : _ = AVal.agg _) rfl rfl rfl (by simp only [↓nrmL, nrmZ, Nat.reduceEqDiff, ↓reduceIte, Nat.reduceAdd, Int.reduceBEq, Int.reduceBNe]; rfl) ?_
  refine mI ?_
  refine nl hKF ?_
  refine rt ?_
  dsimp only [cond_true, cond_false]
  refine rz trivial ?_
  exact ⟨_, rfl, q, rfl, inferInstance, hf.weak, inferInstance, Ext0.ext⟩
end Go.Am


namespace Go.Am
open Go
attribute [local irreducible] Wp WpO WpX WpE
theorem K_invert {p : AVal} {H : AHeap} {w h : Int} {l : List UInt8} [hp : BytesI H p l] [hw : WrS H p] (hl : l.length ≤ 999999) : Con ext prog 1 89 [.agg [.int .i64 w, .int .i64 h, p]] H fun v H' => BytesI H' p (l.map (· ^^^ 1)) ∧ WrS H' p ∧ ExtP H H' p := by
 refine con_of (show prog 89 = some c89 from rfl) rfl rfl fun n hn => ?_
 haveI := hp.one
 repeat first
  | refine mI ?_
  | refine fd ?_
  | refine Fo.ld rfl rfl ?_
  | (refine ln (by simp only [↓nrmL, nrmK, Nat.reduceEqDiff, ↓reduceIte]; rfl) ?_)
  | refine bA ?_
  | refine nl hKF ?_
  | refine sq ?_
  | refine rg fun KF hKF => ?_
  | refine Wp.block ?_
  | dsimp only [cond_true, cond_false]
 refine Wp.loopS [2, 6, 7, 8, 9, 10, 11, 12, 13, 14, 15, 16] (fun i : Nat => [(6, .int .i64 i)]) (fun H3 i H2 => i ≤ l.length ∧ BytesI H2 p (partMap (· ^^^ 1) i l) ∧ WrS H2 p ∧ ExtP0 H3 H2 p) (fun i => l.length - i) 0 rfl (fun _ => rfl) ⟨rfl, trivial⟩ ⟨Nat.zero_le _, by rw [partMap_zero]; infer_instance, inferInstance, inferInstance⟩ (by unfold fuel0 at hn; omega) ?_
 rintro i g H2 ⟨hi, hb2, hw2, ⟨hx2⟩⟩
 simp only [↓nrmL, nrmZ, Nat.reduceEqDiff, ↓reduceIte, Nat.reduceAdd, Int.reduceBEq, Int.reduceBNe]
 cases hc : decide ((i : Int) < (l.length : Int))
 ·have hil : i = l.length := by have := of_decide_eq_false hc; omega
  subst hil
  rw [partMap_all] at hb2
  refine sq ?_
  refine rg fun KF hKF => ?_
  refine bn rfl rfl rfl (by simp only [hc]; rfl) ?_
  refine nl hKF ?_
  refine sq ?_
  refine cf rfl ?_
  refine xi ?_
  dsimp only [cond_true, cond_false]
  exact ⟨trivial, _, rfl, hb2, hw2, (inferInstance : ExtP0 H H2 p).ext⟩
 ·have hil : i < l.length := by have := of_decide_eq_true hc; omega
  have hfl := partMap_length (· ^^^ 1) i l
  have hget := partMap_get (· ^^^ 1) hil
  have hw1 := wa1 (a := i) (by omega)
  have hb := bits_xor l[i] 1
  repeat first
   | refine mI ?_
   | refine fd ?_
   | refine Fo.ld rfl rfl ?_
   | (refine bn rfl rfl rfl (by simp only [hc, hget]; rfl) ?_)
   | refine b0 ?_
   | (refine Fo.idx (by simp only [↓nrmL, nrmK, Nat.reduceEqDiff, ↓reduceIte]; rfl) rfl ?_ (by simp only [↓nrmL, nrmZ, Nat.reduceEqDiff, ↓reduceIte, Nat.reduceAdd, Int.reduceBEq, Int.reduceBNe, hc, hget]; rfl) ?_; (focus omega))
   | (refine Fo.ldB rfl ?_ (by simp only [hc, hget]; rfl) ?_; (focus omega))
   | refine nl hKF ?_
   | refine sq ?_
   | refine rg fun KF hKF => ?_
   | refine ct rfl ?_
   | refine sk ?_
   | refine Wp.block ?_
  refine WpO.do' (WpX.stB (l[i] ^^^ 1) rfl rfl hb (by rw [hfl]; exact hil) fun H4 hb4 hw4 hx4 => ?_)
  refine nl hKF ?_
  refine rg fun KF hKF => ?_
  refine b0 ?_
  refine mI ?_
  refine nl hKF ?_
  dsimp only [cond_true, cond_false]
  refine ⟨i + 1, by omega, ⟨by simp only [↓nrmL, nrmZ, Nat.reduceEqDiff, ↓reduceIte, Nat.reduceAdd, Int.reduceBEq, Int.reduceBNe]; rw [hw1], trivial⟩, hil, by rw [← partMap_succ _ hil]; infer_instance, inferInstance, inferInstance⟩
theorem Img.ok {g : Img} (h : (g.err == 0) = true) : g.sized = true ∧ pxOk g.px = true := by
 unfold Img.err at h
 cases h1 : g.sized
 ·rw [h1] at h; cases h
 ·cases h2 : pxOk g.px
  ·rw [h1, h2] at h; cases h
  ·exact ⟨rfl, rfl⟩
def notSpec (g : Img) : Img × Int := bif g.err == 0 then (⟨g.w, g.h, g.px.map (· ^^^ 1)⟩, 0) else (.zero, g.err)
theorem K_Not {p : AVal} {H : AHeap} {w h : Int} {l : List UInt8} [hp : BytesI H p l] : Con ext prog 4 46 [.agg [.int .i64 w, .int .i64 h, p]] H fun v H' => InkRes H H' v (notSpec ⟨w, h, l⟩) := by
 refine con_of (show prog 46 = some c46 from rfl) rfl rfl fun n hn => ?_
 haveI := hp.one
 cases h0 : (Img.err ⟨w, h, l⟩ == 0)
 ·have e1 : notSpec ⟨w, h, l⟩ = (.zero, Img.err ⟨w, h, l⟩) := by simp [notSpec, h0]
  rw [e1]
  repeat first
   | refine mI ?_
   | (refine Fo.ldN rfl rfl (by simp only [↓nrmL, nrmZ, Nat.reduceEqDiff, ↓reduceIte, Nat.reduceAdd, Int.reduceBEq, Int.reduceBNe, h0, bne]; rfl) ?_)
   | (refine bn rfl rfl rfl (by simp only [h0, bne]; rfl) ?_)
   | (refine Fo.pcall (v' := ?_) hn rfl (by simp only [↓nrmL, nrmZ, Nat.reduceEqDiff, ↓reduceIte, Nat.reduceAdd, Int.reduceBEq, Int.reduceBNe, h0, bne, List.map]; rfl) rfl ?hv fun _ _ => ?_; case hv => rfl)
   | refine bA ?_
   | refine nw ?_
   | (refine ob (cs' := ?_) ?hc ?_; case hc => rfl)
   | (refine so rfl (rfl : _ = AVal.agg _) rfl rfl rfl (by simp only [↓nrmL, nrmZ, Nat.reduceEqDiff, ↓reduceIte, Nat.reduceAdd, Int.reduceBEq, Int.reduceBNe, h0, bne]; rfl) ?_)
   | refine nl hKF ?_
   | refine sq ?_
   | refine rg fun KF hKF => ?_
   | refine ct rfl ?_
   | refine rt ?_
   | dsimp only [cond_true, cond_false]
  refine rz trivial ?_
  exact ⟨_, rfl, newZero⟩
 ·have e1 : notSpec ⟨w, h, l⟩ = (⟨w, h, l.map (· ^^^ 1)⟩, 0) := by simp [notSpec, h0]
  rw [e1]
  obtain ⟨a, b, _, _, ha, hb, hl⟩ := sized_nat (Img.ok h0).1
  have hm : a * b ≤ 640 * 640 := Nat.mul_le_mul ha hb
  repeat first
   | refine mI ?_
   | (refine Fo.ldN rfl rfl (by simp only [↓nrmL, nrmZ, Nat.reduceEqDiff, ↓reduceIte, Nat.reduceAdd, Int.reduceBEq, Int.reduceBNe, h0, bne]; rfl) ?_)
   | (refine bn rfl rfl rfl (by simp only [h0, bne]; rfl) ?_)
   | (refine Fo.pcall (v' := ?_) hn rfl (by simp only [↓nrmL, nrmZ, Nat.reduceEqDiff, ↓reduceIte, Nat.reduceAdd, Int.reduceBEq, Int.reduceBNe, h0, bne, List.map]; rfl) rfl ?hv fun _ _ => ?_; case hv => rfl)
   | refine bA ?_
   | refine nw ?_
   | refine nl hKF ?_
   | refine sq ?_
   | refine rg fun KF hKF => ?_
   | refine cf rfl ?_
   | refine sk ?_
  refine WpO.do (WpX.conD hn rfl rfl (by simp only [↓nrmL, nrmZ, Nat.reduceEqDiff, ↓reduceIte, Nat.reduceAdd, Int.reduceBEq, Int.reduceBNe, List.map] <;> rfl) (K_twin (l := l) (by simp only at hl; omega)) fun v H1 h5 => ?_)
  obtain ⟨q, e2, hq, hf, hw3, hx⟩ := h5
  subst e2
  haveI : ExtI _ H1 := ⟨hx⟩
  haveI := hq.one
  have hq : BytesI H1 q l := hq
  refine nw ?_
  refine so rfl (rfl : _ = AVal.agg _) rfl rfl rfl (by simp only [↓nrmL, nrmZ, Nat.reduceEqDiff, ↓reduceIte, Nat.reduceAdd, Int.reduceBEq, Int.reduceBNe]; rfl) ?_
  refine nl hKF ?_
  refine sq ?_
  refine rg fun KF hKF => ?_
  refine Fo.ldN rfl rfl (by simp only [↓nrmL, nrmZ, Nat.reduceEqDiff, ↓reduceIte, Nat.reduceAdd, Int.reduceBEq, Int.reduceBNe]; rfl) ?_
  dsimp only [cond_true, cond_false]
  refine WpO.do (WpX.conD hn rfl rfl (by simp only [↓nrmL, nrmZ, Nat.reduceEqDiff, ↓reduceIte, Nat.reduceAdd, Int.reduceBEq, Int.reduceBNe, List.map] <;> rfl) (K_invert (l := l) (by simp only at hl; omega)) fun v H4 h5 => ?_)
  obtain ⟨hb4, hw4, hx4⟩ := h5
  refine nl hKF ?_
  refine sq ?_
  refine rg fun KF hKF => ?_
  refine Fo.ldN rfl rfl (by simp only [↓nrmL, nrmZ, Nat.reduceEqDiff, ↓reduceIte, Nat.reduceAdd, Int.reduceBEq, Int.reduceBNe]; rfl) ?_
  refine so rfl (rfl : _ = AVal.agg _) rfl rfl rfl (by simp only [↓nrmL, nrmZ, Nat.reduceEqDiff, ↓reduceIte, Nat.reduceAdd, Int.reduceBEq, Int.reduceBNe]; rfl) ?_
  refine mI ?_
  refine nl hKF ?_
  refine rt ?_
  dsimp only [cond_true, cond_false]
  refine rz trivial ?_
  exact ⟨_, rfl, q, rfl, inferInstance, hf.weak, inferInstance, Ext0.ext⟩
end Go.Am


namespace Go.Am
open Go
attribute [local irreducible] Wp WpO WpX WpE
class PixFn (F : FuncId) (op : outParam (UInt8 → UInt8 → UInt8)) : Prop where
 con : ∀ (a b : UInt8) (H : AHeap), PureCon ext prog F [.int .u8 (a.toNat : Int), .int .u8 (b.toNat : Int)] H 1 (.int .u8 ((op a b).toNat : Int))
instance {F : FuncId} {op : UInt8 → UInt8 → UInt8} {a b : UInt8} {H : AHeap} [h : PixFn F op] : PureCon ext prog F [.int .u8 (a.toNat : Int), .int .u8 (b.toNat : Int)] H 1 (.int .u8 ((op a b).toNat : Int)) := h.con a b H
end Go.Am


namespace Go.Am
open Go
attribute [local irreducible] Wp WpO WpX WpE
class Fits (w h : Int) (l : List UInt8) : Prop where
 it : sizedB w h l.length = true
end Go.Am

namespace Go.Am
open Go
attribute [local irreducible] Wp WpO WpX WpE
class Rows (H : AHeap) (ps : List AVal) (ls : List (List Int)) : Prop where
 it : ∀ (i : Nat) (h : i < ls.length), ∃ q, ps[i]? = some q ∧ IntsI H q ls[i]
class LinesI (H : AHeap) (p : AVal) (ls : outParam (List (List Int))) : Prop where
 it : ∃ ps : List AVal, SliceAt H p 1 ls.length ps ∧ Rows H ps ls
theorem Rows.ext {H H' : AHeap} {ps : List AVal} {ls : List (List Int)} (h : Rows H ps ls) (x : Ext H H') : Rows H' ps ls := ⟨fun i hi => by
 obtain ⟨q, h1, h2⟩ := h.it i hi
 haveI : ExtI H H' := ⟨x⟩
 exact ⟨q, h1, inferInstance⟩⟩
theorem LinesI.ext {H H' : AHeap} {p : AVal} {ls : List (List Int)} (h : LinesI H p ls) (x : Ext H H') : LinesI H' p ls := by
 obtain ⟨ps, h1, h2⟩ := h.it
 haveI : ExtI H H' := ⟨x⟩
 exact ⟨ps, inferInstance, h2.ext x⟩
instance {H : AHeap} {o : AObj} {p : AVal} {ls : List (List Int)} [h : LinesI H p ls] : LinesI (H.push o) p ls := h.ext ((Ext.refl H).push o)
instance {H H' : AHeap} {p : AVal} {ls : List (List Int)} [x : ExtI H H'] [h : LinesI H p ls] : LinesI H' p ls := h.ext x.ext
def fitAt (a b : Nat) (ls : List (List Int)) (i : Nat) : Bool := pathB a b (ls.getD i []) && (i == 0 || aboveB (ls.getD (i - 1) []) (ls.getD i []))
def fitTo (a b : Nat) (ls : List (List Int)) (x : Nat) : Bool := (List.range x).all (fitAt a b ls)
def fitsB (a b : Nat) (ls : List (List Int)) : Bool := ls.length == 5 && fitTo a b ls 5
theorem fitTo_succ {a b : Nat} {ls : List (List Int)} {x : Nat} : fitTo a b ls (x + 1) = (fitTo a b ls x && fitAt a b ls x) := by simp [fitTo, List.range_succ, List.all_append]
theorem fitTo_bad {a b : Nat} {ls : List (List Int)} {x n : Nat} (h : fitAt a b ls x = false) (hx : x < n) : fitTo a b ls n = false := by
 cases h2 : fitTo a b ls n with
 | false => rfl
 | true =>
  have := List.all_eq_true.1 h2 x (List.mem_range.2 hx)
  rw [h] at this; cases this
theorem getDL_at {ls : List (List Int)} {x : Nat} (h : x < ls.length) : ls.getD x [] = ls[x] := by rw [List.getD_eq_getElem?_getD, List.getElem?_eq_getElem h, Option.getD_some]
theorem fitTo_path {a b : Nat} {ls : List (List Int)} {x n : Nat} (h : fitTo a b ls n = true) (hx : x < n) (hl : x < ls.length) : pathB a b ls[x] = true := by
 have := List.all_eq_true.1 h x (List.mem_range.2 hx)
 simp only [fitAt, Bool.and_eq_true, getDL_at hl] at this
 exact this.1
theorem fitsB_iff {a b : Nat} {ls : List (List Int)} (h : fitsB a b ls = true) : ls.length = 5 ∧ (∀ i (hi : i < ls.length), pathB a b ls[i] = true) := by
 simp only [fitsB, Bool.and_eq_true, beq_iff_eq] at h
 exact ⟨h.1, fun i hi => fitTo_path h.2 (by omega) hi⟩
instance K_fits {a b : Nat} {p q : AVal} {H : AHeap} {g : List UInt8} {ls : List (List Int)} [hp : BytesI H p g] [hq : LinesI H q ls] [ha : Side a] [hb : Side b] : PureCon ext prog 75 [.agg [.int .i64 (a : Int), .int .i64 (b : Int), p], .agg [q]] H 3 (.bool (fitsB a b ls)) := ⟨by
 refine con_of (show prog 75 = some c75 from rfl) rfl rfl fun n hn => ?_
 obtain ⟨ps, hps, hrw⟩ := hq.it
 haveI := hp.one
 haveI := hps.one
 have hal := ha.le
 cases h0 : (((ls.length : Nat) : Int) != 5)
 rotate_left
 ·have e1 : fitsB a b ls = false := by
   have : ls.length ≠ 5 := by intro e; rw [e] at h0; simp at h0
   simp [fitsB, this]
  rw [e1]
  repeat first
   | refine mB ?_
   | refine fd ?_
   | refine Fo.ld rfl rfl ?_
   | (refine bn rfl rfl rfl (by simp only [h0]; rfl) ?_)
   | (refine ln (by simp only [↓nrmL, nrmK, Nat.reduceEqDiff, ↓reduceIte]; rfl) ?_)
   | refine bA ?_
   | refine nl hKF ?_
   | refine sq ?_
   | refine rg fun KF hKF => ?_
   | refine ct rfl ?_
   | refine rt ?_
   | dsimp only [cond_true, cond_false]
  refine rz trivial ?_
  exact ⟨rfl, Ext0.ext⟩
 have hl5 : ls.length = 5 := by have h7 := h0; simp only [bne_eq_false_iff_eq] at h7; omega
 have e0 : fitsB a b ls = fitTo a b ls ls.length := by simp [fitsB, hl5]
 rw [e0]
 repeat first
  | refine mI ?_
  | refine mB ?_
  | refine fd ?_
  | refine Fo.ld rfl rfl ?_
  | (refine bn rfl rfl rfl (by simp only [h0]; rfl) ?_)
  | (refine ln (by simp only [↓nrmL, nrmK, Nat.reduceEqDiff, ↓reduceIte]; rfl) ?_)
  | refine bA ?_
  | refine nl hKF ?_
  | refine sq ?_
  | refine rg fun KF hKF => ?_
  | refine cf rfl ?_
  | refine sk ?_
  | refine Wp.block ?_
  | dsimp only [cond_true, cond_false]
 refine Wp.loopS [4, 5, 6, 14, 15, 16, 17, 18, 19, 20, 21, 22, 23, 24, 25, 26, 27, 28, 29, 30, 31, 32, 33, 34, 35, 36, 37, 38] (fun x : Nat => [(14, .int .i64 x)]) (fun H3 x H2 => x ≤ ls.length ∧ fitTo a b ls x = true ∧ Ext0 H3 H2) (fun x => ls.length - x) 0 rfl (fun _ => rfl) ⟨rfl, trivial⟩ ⟨Nat.zero_le _, rfl, inferInstance⟩ (by unfold fuel0 at hn; omega) ?_
 rintro x g2 H2 ⟨hx, hok, ⟨hx2⟩⟩
 haveI : ExtI _ H2 := ⟨hx2⟩
 simp only [↓nrmL, nrmZ, Nat.reduceEqDiff, ↓reduceIte, Nat.reduceAdd, Int.reduceBEq, Int.reduceBNe]
 cases hc : decide ((x : Int) < ((ls.length : Nat) : Int))
 ·have hxl : x = ls.length := by have := of_decide_eq_false hc; omega
  subst hxl
  rw [hok]
  repeat first
   | refine mB ?_
   | (refine bn rfl rfl rfl (by simp only [hc]; rfl) ?_)
   | refine nl hKF ?_
   | refine sq ?_
   | refine rg fun KF hKF => ?_
   | refine cf rfl ?_
   | refine rt ?_
   | refine xi ?_
   | dsimp only [cond_true, cond_false]
  refine rz trivial ?_
  exact ⟨rfl, Ext0.ext⟩
 have hxl : x < ls.length := by have := of_decide_eq_true hc; omega
 have hw1 := wa1 (a := x) (by omega)
 obtain ⟨qi, hqi, hIi⟩ := hrw.it x hxl
 haveI := hIi
 haveI := hIi.one
 cases hpa : pathB a b ls[x]
 ·rw [fitTo_bad (x := x) (n := ls.length) (by rw [fitAt, getDL_at hxl, hpa]; rfl) hxl]
  repeat first
   | refine mI ?_
   | (refine bn rfl rfl rfl (by simp only [hc]; rfl) ?_)
   | (refine Fo.idx (by simp only [↓nrmL, nrmK, Nat.reduceEqDiff, ↓reduceIte]; rfl) rfl ?_ (by simp only [↓nrmL, nrmZ, Nat.reduceEqDiff, ↓reduceIte, Nat.reduceAdd, Int.reduceBEq, Int.reduceBNe, hc]; rfl) ?_; (focus omega))
   | refine nl hKF ?_
   | refine sq ?_
   | refine rg fun KF hKF => ?_
   | refine ct rfl ?_
   | refine sk ?_
   | refine Wp.block ?_
  refine Fo.now rfl (exec_ldP (p := q) (j := x) rfl hqi) rfl ?_
  repeat first
   | refine ox ?_
   | refine Fo.noU rfl ?_
   | refine mI ?_
   | refine mB ?_
   | (refine mv ?_)
   | (refine Fo.ldN rfl rfl (by simp only [↓nrmL, nrmZ, Nat.reduceEqDiff, ↓reduceIte, Nat.reduceAdd, Int.reduceBEq, Int.reduceBNe, hpa]; rfl) ?_)
   | refine tB ?_
   | (refine Fo.pcall (v' := ?_) hn rfl (by simp only [↓nrmL, nrmZ, Nat.reduceEqDiff, ↓reduceIte, Nat.reduceAdd, Int.reduceBEq, Int.reduceBNe, hpa, List.map]; rfl) rfl ?hv fun _ _ => ?_; case hv => (simp only [hpa]; rfl))
   | (refine Fo.now rfl rfl (by simp only [↓nrmL, nrmZ, Nat.reduceEqDiff, ↓reduceIte, Nat.reduceAdd, Int.reduceBEq, Int.reduceBNe, hpa]; rfl) ?_)
   | refine nl hKF ?_
   | refine sq ?_
   | refine rg fun KF hKF => ?_
   | refine ct rfl ?_
   | refine rt ?_
   | dsimp only [cond_true, cond_false]
  refine rz trivial ?_
  exact ⟨rfl, Ext0.ext⟩
 obtain ⟨hpl, _⟩ := pathB_len hpa
 cases h4 : decide ((x : Int) > 0)
 ·have hx0 : x = 0 := by have := of_decide_eq_false h4; omega
  have e2 : fitTo a b ls (x + 1) = true := by rw [fitTo_succ, hok, fitAt, getDL_at hxl, hpa]; simp [hx0]
  repeat first
   | refine mI ?_
   | (refine bn rfl rfl rfl (by simp only [hc]; rfl) ?_)
   | (refine Fo.idx (by simp only [↓nrmL, nrmK, Nat.reduceEqDiff, ↓reduceIte]; rfl) rfl ?_ (by simp only [↓nrmL, nrmZ, Nat.reduceEqDiff, ↓reduceIte, Nat.reduceAdd, Int.reduceBEq, Int.reduceBNe, hc]; rfl) ?_; (focus omega))
   | refine nl hKF ?_
   | refine sq ?_
   | refine rg fun KF hKF => ?_
   | refine ct rfl ?_
   | refine sk ?_
   | refine Wp.block ?_
  refine Fo.now rfl (exec_ldP (p := q) (j := x) rfl hqi) rfl ?_
  repeat first
   | refine oy ?_
   | refine ox ?_
   | refine mI ?_
   | refine mB ?_
   | (refine mv ?_)
   | (refine Fo.ldN rfl rfl (by simp only [↓nrmL, nrmZ, Nat.reduceEqDiff, ↓reduceIte, Nat.reduceAdd, Int.reduceBEq, Int.reduceBNe, hpa, h4]; rfl) ?_)
   | (refine bn rfl rfl rfl (by simp only [hpa, h4]; rfl) ?_)
   | refine b0 ?_
   | refine fB ?_
   | (refine Fo.pcall (v' := ?_) hn rfl (by simp only [↓nrmL, nrmZ, Nat.reduceEqDiff, ↓reduceIte, Nat.reduceAdd, Int.reduceBEq, Int.reduceBNe, hpa, h4, List.map]; rfl) rfl ?hv fun _ _ => ?_; case hv => (simp only [hpa, h4]; rfl))
   | (refine Fo.now rfl rfl (by simp only [↓nrmL, nrmZ, Nat.reduceEqDiff, ↓reduceIte, Nat.reduceAdd, Int.reduceBEq, Int.reduceBNe, hpa, h4]; rfl) ?_)
   | refine nl hKF ?_
   | refine sq ?_
   | refine rg fun KF hKF => ?_
   | refine cf rfl ?_
   | refine sk ?_
   | dsimp only [cond_true, cond_false]
  refine ⟨x + 1, by omega, ⟨by simp only [↓nrmL, nrmZ, Nat.reduceEqDiff, ↓reduceIte, Nat.reduceAdd, Int.reduceBEq, Int.reduceBNe]; rw [hw1], trivial⟩, hxl, e2, inferInstance⟩
 have hx0 : 0 < x := by have := of_decide_eq_true h4; omega
 have hw2 := ws1 (a := x) hx0 (by omega)
 have hxm : x - 1 < ls.length := by omega
 obtain ⟨qm, hqm, hIm⟩ := hrw.it (x - 1) hxm
 haveI := hIm
 haveI := hIm.one
 have hpm : pathB a b ls[x - 1] = true := fitTo_path hok (by omega) hxm
 obtain ⟨hml, _⟩ := pathB_len hpm
 haveI : LenLe ls[x - 1] ls[x] := ⟨by omega, by omega⟩
 have e2 : fitTo a b ls (x + 1) = aboveB ls[x - 1] ls[x] := by
  rw [fitTo_succ, hok, fitAt, getDL_at hxl, getDL_at hxm, hpa, beq_eq_false_iff_ne.2 (by omega)]; rfl
 cases hab : aboveB ls[x - 1] ls[x]
 ·rw [fitTo_bad (x := x) (n := ls.length) (by rw [fitAt, getDL_at hxl, getDL_at hxm, hab, beq_eq_false_iff_ne.2 (by omega), Bool.or_false, Bool.and_false]) hxl]
  repeat first
   | refine mI ?_
   | (refine bn rfl rfl rfl (by simp only [hc]; rfl) ?_)
   | (refine Fo.idx (by simp only [↓nrmL, nrmK, Nat.reduceEqDiff, ↓reduceIte]; rfl) rfl ?_ (by simp only [↓nrmL, nrmZ, Nat.reduceEqDiff, ↓reduceIte, Nat.reduceAdd, Int.reduceBEq, Int.reduceBNe, hc]; rfl) ?_; (focus omega))
   | refine nl hKF ?_
   | refine sq ?_
   | refine rg fun KF hKF => ?_
   | refine ct rfl ?_
   | refine sk ?_
   | refine Wp.block ?_
  refine Fo.now rfl (exec_ldP (p := q) (j := x) rfl hqi) rfl ?_
  repeat first
   | refine oy ?_
   | refine mI ?_
   | refine mB ?_
   | (refine mv ?_)
   | refine fd ?_
   | refine Fo.ld rfl rfl ?_
   | (refine Fo.ldN rfl rfl (by simp only [↓nrmL, nrmZ, Nat.reduceEqDiff, ↓reduceIte, Nat.reduceAdd, Int.reduceBEq, Int.reduceBNe, hpa, h4, hw2]; rfl) ?_)
   | (refine bn rfl rfl rfl (by simp only [hpa, h4, hw2]; rfl) ?_)
   | (refine Fo.pcall (v' := ?_) hn rfl (by simp only [↓nrmL, nrmZ, Nat.reduceEqDiff, ↓reduceIte, Nat.reduceAdd, Int.reduceBEq, Int.reduceBNe, hpa, h4, hw2, List.map]; rfl) rfl ?hv fun _ _ => ?_; case hv => (simp only [hpa, h4, hw2]; rfl))
   | (refine Fo.idx (by simp only [↓nrmL, nrmK, Nat.reduceEqDiff, ↓reduceIte]; rfl) rfl ?_ (by simp only [↓nrmL, nrmZ, Nat.reduceEqDiff, ↓reduceIte, Nat.reduceAdd, Int.reduceBEq, Int.reduceBNe, hpa, h4, hw2]; rfl) ?_; (focus omega))
   | (refine Fo.now rfl rfl (by simp only [↓nrmL, nrmZ, Nat.reduceEqDiff, ↓reduceIte, Nat.reduceAdd, Int.reduceBEq, Int.reduceBNe, hpa, h4, hw2]; rfl) ?_)
   | refine nl hKF ?_
   | refine sq ?_
   | refine rg fun KF hKF => ?_
  refine Fo.now rfl (exec_ldP (p := q) (j := x - 1) rfl hqm) rfl ?_
  simp only [↓nrmL, nrmZ, Nat.reduceEqDiff, ↓reduceIte, Nat.reduceAdd, Int.reduceBEq, Int.reduceBNe, hab]
  repeat first
   | refine oy ?_
   | refine mB ?_
   | (refine mv ?_)
   | refine tB ?_
   | refine fB ?_
   | (refine Fo.pcall (v' := ?_) hn rfl (by simp only [↓nrmL, nrmZ, Nat.reduceEqDiff, ↓reduceIte, Nat.reduceAdd, Int.reduceBEq, Int.reduceBNe, hab, List.map]; rfl) rfl ?hv fun _ _ => ?_; case hv => (simp only [hab]; rfl))
   | (refine Fo.now rfl rfl (by simp only [↓nrmL, nrmZ, Nat.reduceEqDiff, ↓reduceIte, Nat.reduceAdd, Int.reduceBEq, Int.reduceBNe, hab]; rfl) ?_)
   | refine nl hKF ?_
   | refine sq ?_
   | refine rg fun KF hKF => ?_
   | refine ct rfl ?_
   | refine rt ?_
   | dsimp only [cond_true, cond_false]
  refine rz trivial ?_
  exact ⟨rfl, Ext0.ext⟩
 rw [hab] at e2
 repeat first
  | refine mI ?_
  | (refine bn rfl rfl rfl (by simp only [hc]; rfl) ?_)
  | (refine Fo.idx (by simp only [↓nrmL, nrmK, Nat.reduceEqDiff, ↓reduceIte]; rfl) rfl ?_ (by simp only [↓nrmL, nrmZ, Nat.reduceEqDiff, ↓reduceIte, Nat.reduceAdd, Int.reduceBEq, Int.reduceBNe, hc]; rfl) ?_; (focus omega))
  | refine nl hKF ?_
  | refine sq ?_
  | refine rg fun KF hKF => ?_
  | refine ct rfl ?_
  | refine sk ?_
  | refine Wp.block ?_
 refine Fo.now rfl (exec_ldP (p := q) (j := x) rfl hqi) rfl ?_
 repeat first
  | refine oy ?_
  | refine mI ?_
  | refine mB ?_
  | (refine mv ?_)
  | refine fd ?_
  | refine Fo.ld rfl rfl ?_
  | (refine Fo.ldN rfl rfl (by simp only [↓nrmL, nrmZ, Nat.reduceEqDiff, ↓reduceIte, Nat.reduceAdd, Int.reduceBEq, Int.reduceBNe, hpa, h4, hw2]; rfl) ?_)
  | (refine bn rfl rfl rfl (by simp only [hpa, h4, hw2]; rfl) ?_)
  | (refine Fo.pcall (v' := ?_) hn rfl (by simp only [↓nrmL, nrmZ, Nat.reduceEqDiff, ↓reduceIte, Nat.reduceAdd, Int.reduceBEq, Int.reduceBNe, hpa, h4, hw2, List.map]; rfl) rfl ?hv fun _ _ => ?_; case hv => (simp only [hpa, h4, hw2]; rfl))
  | (refine Fo.idx (by simp only [↓nrmL, nrmK, Nat.reduceEqDiff, ↓reduceIte]; rfl) rfl ?_ (by simp only [↓nrmL, nrmZ, Nat.reduceEqDiff, ↓reduceIte, Nat.reduceAdd, Int.reduceBEq, Int.reduceBNe, hpa, h4, hw2]; rfl) ?_; (focus omega))
  | (refine Fo.now rfl rfl (by simp only [↓nrmL, nrmZ, Nat.reduceEqDiff, ↓reduceIte, Nat.reduceAdd, Int.reduceBEq, Int.reduceBNe, hpa, h4, hw2]; rfl) ?_)
  | refine nl hKF ?_
  | refine sq ?_
  | refine rg fun KF hKF => ?_
 refine Fo.now rfl (exec_ldP (p := q) (j := x - 1) rfl hqm) rfl ?_
 simp only [↓nrmL, nrmZ, Nat.reduceEqDiff, ↓reduceIte, Nat.reduceAdd, Int.reduceBEq, Int.reduceBNe, hab]
 repeat first
  | refine oy ?_
  | refine mI ?_
  | (refine mv ?_)
  | refine b0 ?_
  | refine tB ?_
  | refine fB ?_
  | (refine Fo.pcall (v' := ?_) hn rfl (by simp only [↓nrmL, nrmZ, Nat.reduceEqDiff, ↓reduceIte, Nat.reduceAdd, Int.reduceBEq, Int.reduceBNe, hab, List.map]; rfl) rfl ?hv fun _ _ => ?_; case hv => (simp only [hab]; rfl))
  | (refine Fo.now rfl rfl (by simp only [↓nrmL, nrmZ, Nat.reduceEqDiff, ↓reduceIte, Nat.reduceAdd, Int.reduceBEq, Int.reduceBNe, hab]; rfl) ?_)
  | refine nl hKF ?_
  | refine rg fun KF hKF => ?_
  | refine cf rfl ?_
  | refine sk ?_
  | dsimp only [cond_true, cond_false]
 refine ⟨x + 1, by omega, ⟨by simp only [↓nrmL, nrmZ, Nat.reduceEqDiff, ↓reduceIte, Nat.reduceAdd, Int.reduceBEq, Int.reduceBNe]; rw [hw1], trivial⟩, hxl, e2, inferInstance⟩⟩
end Go.Am

namespace Go.Am
open Go
attribute [local irreducible] Wp WpO WpX WpE
theorem aboveB_iff {l m : List Int} : aboveB l m = true ↔ ∀ x, x < l.length → l.getD x 0 < m.getD x 0 := by
 simp [aboveB, belowTo]
theorem fitsB_of {a b : Nat} {ls : List (List Int)} (h5 : ls.length = 5) (hp : ∀ i, i < 5 → pathB a b (ls.getD i []) = true) (hb : ∀ x, x < a → ∀ i, 1 ≤ i → i < 5 → (ls.getD (i - 1) []).getD x 0 < (ls.getD i []).getD x 0) : fitsB a b ls = true := by
 have : fitTo a b ls 5 = true := by
  rw [fitTo, List.all_eq_true]
  intro i hi
  have hi := List.mem_range.1 hi
  rw [fitAt, hp i hi]
  by_cases h0 : i = 0
  ·simp [h0]
  ·have : aboveB (ls.getD (i - 1) []) (ls.getD i []) = true := aboveB_iff.2 fun x hx => hb x (by have := (pathB_len (hp (i - 1) (by omega))).1; omega) i (by omega) hi
   rw [this]; simp
 rw [fitsB, this, h5]; rfl
end Go.Am


namespace Go.Am
open Go
attribute [local irreducible] Wp WpO WpX WpE
end Go.Am


namespace Go.Am
open Go
attribute [local irreducible] Wp WpO WpX WpE
end Go.Am


namespace Go.Am
open Go
attribute [local irreducible] Wp WpO WpX WpE
def bitC (z : Int) : UInt8 := ⟨BitVec.ofInt 8 z &&& 1⟩
theorem bitC_eq (z : Int) : Go.bits .and .u8 z 1 = ((bitC z).toNat : Int) := by
 show IntKind.u8.wrap ((BitVec.ofInt 8 z &&& BitVec.ofInt 8 1).toNat : Int) = _
 exact wrap_u8 (by have := (bitC z).toNat_lt; exact this)
theorem bitC_01 (z : Int) : bitC z = 0 ∨ bitC z = 1 := by
 have h : (bitC z).toNat = (BitVec.ofInt 8 z).toNat % 2 := by
  show (BitVec.ofInt 8 z &&& 1#8).toNat = _
  rw [BitVec.toNat_and]
  exact Nat.and_one_is_mod _
 rcases Nat.mod_two_eq_zero_or_one (BitVec.ofInt 8 z).toNat with h0 | h0
 ·exact Or.inl (UInt8.toNat_inj.1 (by rw [h, h0]; rfl))
 ·exact Or.inr (UInt8.toNat_inj.1 (by rw [h, h0]; rfl))
theorem wq8 {i : Nat} (h : i < 9223372036854775808) : IntKind.i64.wrap ((i : Int).tdiv 8) = ((i / 8 : Nat) : Int) := by
 have e : (i : Int).tdiv 8 = ((i / 8 : Nat) : Int) := rfl
 rw [e]; exact w64 (by omega)
theorem wr8 {i : Nat} : (i : Int).tmod 8 = ((i % 8 : Nat) : Int) := rfl
theorem pxOk_rep (n : Nat) : pxOk (List.replicate n 0) = true := by
 simp [pxOk, List.all_replicate]
theorem pxOk_set {l : List UInt8} {i : Nat} {c : UInt8} (h : pxOk l = true) (hc : c = 0 ∨ c = 1) : pxOk (l.set i c) = true := by
 unfold pxOk at h ⊢
 rw [List.all_eq_true] at h ⊢
 intro x hx
 rcases List.mem_or_eq_of_mem_set hx with h1 | rfl
 ·exact h x h1
 ·rcases hc with rfl | rfl <;> rfl
structure Ok (a b : Nat) (l : List UInt8) : Prop where
 wa : a ≤ 640
 hb : b ≤ 640
 len : l.length = a * b
 px : pxOk l = true
theorem Ok.sized {a b : Nat} {l : List UInt8} (h : Ok a b l) : sizedB a b l.length = true := by
 have hm : a * b ≤ 640 * 640 := Nat.mul_le_mul h.wa h.hb
 have h1 : sideB a = true := by simp only [sideB, Bool.and_eq_true, decide_eq_true_eq]; have := h.wa; omega
 have h2 : sideB b = true := by simp only [sideB, Bool.and_eq_true, decide_eq_true_eq]; have := h.hb; omega
 unfold sizedB
 rw [h1, h2, wm (by omega), h.len]
 simp
theorem Ok.err {a b : Nat} {l : List UInt8} (h : Ok a b l) : Img.err ⟨a, b, l⟩ = 0 := by
 have h1 : (⟨a, b, l⟩ : Img).sized = true := h.sized
 have h2 := h.px
 unfold Img.err
 rw [h1]
 simp only [h2, cond_true]
end Go.Am

namespace Go.Am
open Go
class Part (p : outParam AVal) (v : AVal) (a n : outParam Nat) : Prop where
  it : (n = 0 ∧ aLenS v = some (.int .i64 0) ∧ v.cells = [v] ∧ v.one = true) ∨ ∃ r off len cap cap', p = .slice r off len cap 1 ∧ v = .slice r (off + a) n cap' 1 ∧ a + n ≤ len
theorem Part.one {p v : AVal} {a n : Nat} (h : Part p v a n) : OneV v := by
  rcases h.it with ⟨_, _, h1, h2⟩ | ⟨r, off, len, cap, cap', _, rfl, _⟩
  · exact ⟨h1, h2⟩
  · infer_instance
theorem Part.lenS {p v : AVal} {a n : Nat} (h : Part p v a n) : aLenS v = some (.int .i64 n) := by
  rcases h.it with ⟨rfl, h1, _⟩ | ⟨r, off, len, cap, cap', _, rfl, _⟩
  · exact h1
  · rfl
section
variable {call : ACall} {fr : AFrame} {H : AHeap} {KF : AFrame → AHeap → Prop} {os : List ROper} {d : Nat}
theorem cells_sub {row : List AVal} {l : List UInt8} {off a b : Nat} (hc : (row.drop off).take l.length = cellsB l) (hb : b ≤ l.length) : (row.drop (off + a)).take (b - a) = cellsB ((l.drop a).take (b - a)) := by
  have h1 : (cellsB l).drop a = cellsB (l.drop a) := by simp [cellsB, List.map_drop]
  have h2 : ∀ (k : Nat) (m : List UInt8), (cellsB m).take k = cellsB (m.take k) := fun k m => by simp [cellsB, List.map_take]
  rw [← h2, ← h1, ← hc, List.drop_take, List.drop_drop, List.take_take]
  congr 1
  omega
def bnd (o : Option AVal) (dflt n : Nat) : Prop := (o = none ∧ n = dflt) ∨ ∃ k, o = some (.int k n)
theorem exec_slc {x : ROpd} {lo hi : Option ROpd} {p : AVal} {l : List UInt8} {a b : Nat} (hx : x.ev fr = p) (hlo : bnd (lo.map (·.ev fr)) 0 a) (hhi : bnd (hi.map (·.ev fr)) l.length b) (hab : a ≤ b) (hbl : b ≤ l.length) [s : BytesI H p l] :
    ∃ v H', (ROp.sliceS 1 x lo hi none).exec call fr H = some (v, H') ∧ Part p v a (b - a) ∧ BytesI H' v ((l.drop a).take (b - a)) ∧ Ext H H' := by
  have hlen : ((l.drop a).take (b - a)).length = b - a := by rw [List.length_take, List.length_drop]; omega
  have hl1 : ∀ h, a ≤ h → aLow h (lo.map (·.ev fr)) = some a := by
    intro h hh
    rcases hlo with ⟨h1, rfl⟩ | ⟨k, h1⟩
    · rw [h1]; rfl
    · rw [h1]
      have : (0 : Int) ≤ (a : Int) ∧ (a : Int) ≤ (h : Int) := by omega
      simp only [aLow, aBound, if_pos this, Int.toNat_natCast]
  have hh1 : ∀ y, b ≤ y → aHigh l.length y (hi.map (·.ev fr)) = some b := by
    intro y hy
    rcases hhi with ⟨h1, rfl⟩ | ⟨k, h1⟩
    · rw [h1]; rfl
    · rw [h1]
      have : (0 : Int) ≤ (b : Int) ∧ (b : Int) ≤ (y : Int) := by omega
      simp only [aHigh, aBound, if_pos this, Int.toNat_natCast]
  rcases s.it with ⟨rfl, h0, _⟩ | ⟨r, off, cap, row, rw, e, rfl, hr, hg, hl, hc, hcap⟩
  · have e1 : b = 0 := by omega
    have e2 : a = 0 := by omega
    subst e1 e2
    have hb0 : aBounds 0 (some 0) (lo.map (·.ev fr)) (hi.map (·.ev fr)) none = some (0, 0, some 0) := by
      have h1 := hh1 (capD 0 (some 0)) (Nat.zero_le _)
      rw [h0] at h1
      simp only [aBounds, h1, hl1 0 (Nat.zero_le _)]
    refine ⟨.nslice, H, by simp only [ROp.exec, hx, Option.map_none, aSliceS, hb0, M.pure], ⟨Or.inl ⟨rfl, rfl, rfl, rfl⟩⟩, ?_, Ext.refl H⟩
    have e3 : (l.drop 0).take (0 - 0) = [] := by simp
    rw [e3]
    exact ⟨Or.inl ⟨rfl, rfl, rfl⟩⟩
  · rw [Nat.mul_one] at hl hc
    have hb0 : aBounds l.length cap (lo.map (·.ev fr)) (hi.map (·.ev fr)) none = some (a, b, cap) := by
      simp only [aBounds, hh1 _ (Nat.le_trans hbl hcap), hl1 b hab]
    have hsub := cells_sub (a := a) hc hbl
    have full : ∀ cap', (b - a ≤ capD (b - a) cap') → BytesI H (.slice r (off + a) (b - a) cap' 1) ((l.drop a).take (b - a)) := by
      intro cap' hc'
      unfold BytesI
      rw [hlen]
      exact ⟨Or.inr ⟨r, off + a, cap', row, rw, e, rfl, hr, hg, by omega, by rw [Nat.mul_one]; exact hsub, hc'⟩⟩
    have none0 : a = b → ∀ cap', BytesI H (.slice r off (b - a) cap' 1) ((l.drop a).take (b - a)) := by
      intro hE cap'
      subst hE
      have e3 : (l.drop a).take (a - a) = [] := by simp
      rw [e3, Nat.sub_self]
      exact ⟨Or.inr ⟨r, off, cap', row, rw, e, rfl, hr, hg, by simp; omega, by simp [cellsB], Nat.zero_le _⟩⟩
    cases cap with
    | some c =>
      simp only [capD] at hcap
      by_cases hca : c = a
      · have hE : a = b := by omega
        refine ⟨.slice r off (b - a) (some 0) 1, H, by simp only [ROp.exec, hx, Option.map_none, aSliceS, ne_eq, not_true, if_false, hb0, M.pure, if_pos hca], ⟨Or.inl ⟨by omega, by rw [hE, Nat.sub_self]; rfl, rfl, rfl⟩⟩, none0 hE _, Ext.refl H⟩
      · refine ⟨.slice r (off + a) (b - a) (some (c - a)) 1, H, by simp only [ROp.exec, hx, Option.map_none, aSliceS, ne_eq, not_true, if_false, hb0, M.pure, if_neg hca, Nat.mul_one], ⟨Or.inr ⟨r, off, l.length, some c, some (c - a), rfl, rfl, by omega⟩⟩, full _ (by simp only [capD]; omega), Ext.refl H⟩
    | none =>
      have h2 : ¬ row.length < off + l.length := by omega
      have hrow : aRow r H = some ((row, rw), H) := by simp only [aRow, if_pos hr, hg]
      by_cases hcd : a < b ∨ a = 0
      · refine ⟨.slice r (off + a) (b - a) none 1, H, ?_, ⟨Or.inr ⟨r, off, l.length, none, none, rfl, rfl, by omega⟩⟩, full _ (Nat.le_refl _), Ext.refl H⟩
        simp only [ROp.exec, hx, Option.map_none, aSliceS, ne_eq, not_true, if_false, hb0, Nat.mul_one, Nat.one_ne_zero, M.bind, hrow, if_neg h2, if_pos hcd, M.pure]
      · have hE : a = b := by omega
        refine ⟨.slice H.n 0 0 none 1, H.push (.row [] false 0), ?_, ⟨Or.inl ⟨by omega, rfl, rfl, rfl⟩⟩, ?_, (Ext.refl H).push _⟩
        · simp only [ROp.exec, hx, Option.map_none, aSliceS, ne_eq, not_true, if_false, hb0, Nat.mul_one, Nat.one_ne_zero, M.bind, hrow, if_neg h2, if_neg hcd, M.pure, aNew]
        · have e3 : (l.drop a).take (b - a) = [] := by rw [hE, Nat.sub_self]; simp
          rw [e3]
          exact ⟨Or.inr ⟨H.n, 0, none, [], false, 0, rfl, Nat.lt_succ_self _, push_get_eq, by simp, by simp [cellsB], Nat.zero_le _⟩⟩
theorem Fo.slc {x : ROpd} {lo hi : Option ROpd} {p : AVal} {l : List UInt8} {a b : Nat} (hx : x.ev fr = p) (hlo : bnd (lo.map (·.ev fr)) 0 a) (hhi : bnd (hi.map (·.ev fr)) l.length b) (hab : a ≤ b) (hbl : b ≤ l.length) [s : BytesI H p l]
    (h : ∀ v H1, Part p v a (b - a) → BytesI H1 v ((l.drop a).take (b - a)) → ExtI H H1 → WpO call os (upd fr d v) H1 KF) : WpO call (⟨some d, .sliceS 1 x lo hi none, none⟩ :: os) fr H KF := by
  obtain ⟨v, H1, h1, h2, h3, h4⟩ := exec_slc (call := call) hx hlo hhi hab hbl (s := s)
  exact WpO.step rfl ⟨v, H1, h1, h v H1 h2 h3 ⟨h4⟩⟩
end
end Go.Am


namespace Go.Am
open Go
attribute [local irreducible] Wp WpO WpX WpE
end Go.Am


namespace Go.Am
open Go
attribute [local irreducible] Wp WpO WpX WpE
theorem ok_of {w h : Int} {l : List UInt8} (h0 : (Img.err ⟨w, h, l⟩ == 0) = true) : ∃ a b : Nat, w = a ∧ h = b ∧ Ok a b l := by
 obtain ⟨h1, h2⟩ := Img.ok h0
 obtain ⟨a, b, e1, e2, e3, e4, e5⟩ := sized_nat h1
 exact ⟨a, b, e1, e2, e3, e4, e5, h2⟩
end Go.Am

namespace Go.Am
open Go
class OwnS (H : AHeap) (p : AVal) (sz : outParam Nat) (n : outParam Nat) (cs : outParam (List AVal)) (e : outParam TypeId) : Prop where
  it : (p = .nslice ∧ n = 0 ∧ cs = []) ∨ ∃ r e', p = .slice r 0 n none sz ∧ r < H.n ∧ H.get r = .row cs true e' ∧ e' / 2 = e ∧ cs.length = n * sz ∧ 0 < n
theorem OwnS.sl {H : AHeap} {p : AVal} {sz n : Nat} {cs : List AVal} {e : TypeId} (h : OwnS H p sz n cs e) : SliceAt H p sz n cs := by
  rcases h.it with ⟨h1, h2, h3⟩ | ⟨r, e', h1, h2, h3, h4, h5, h6⟩
  · exact ⟨Or.inl ⟨h1, h2, h3⟩⟩
  · exact ⟨Or.inr ⟨r, 0, none, cs, true, e', h1, h2, h3, by omega, by rw [List.drop_zero, List.take_of_length_le (by omega)], Nat.le_refl _⟩⟩
theorem OwnS.wr {H : AHeap} {p : AVal} {sz n : Nat} {cs : List AVal} {e : TypeId} (h : OwnS H p sz n cs e) : WrS H p := ⟨fun r off len cap s q => by
  rcases h.it with ⟨h1, _⟩ | ⟨r', e', h1, h2, h3, _⟩
  · rw [h1] at q; cases q
  · rw [h1] at q; cases q; exact ⟨cs, e', h3⟩⟩
theorem OwnS.keep {H H' : AHeap} {p : AVal} {sz n : Nat} {cs : List AVal} {e : TypeId} (h : OwnS H p sz n cs e) (hn : H.n ≤ H'.n) (hg : ∀ r off len cap sz, p = .slice r off len cap sz → r < H.n → H'.get r = H.get r) : OwnS H' p sz n cs e := by
  rcases h.it with ⟨h1, h2, h3⟩ | ⟨r, e', h1, h2, h3, h4⟩
  · exact ⟨Or.inl ⟨h1, h2, h3⟩⟩
  · exact ⟨Or.inr ⟨r, e', h1, by omega, by rw [hg _ _ _ _ _ h1 h2]; exact h3, h4⟩⟩
instance {H H' : AHeap} {p : AVal} {sz n : Nat} {cs : List AVal} {e : TypeId} [x : ExtI H H'] [h : OwnS H p sz n cs e] : OwnS H' p sz n cs e := h.keep x.ext.n fun _ _ _ _ _ _ hr => x.ext.get _ hr
instance {H : AHeap} {o : AObj} {p : AVal} {sz n : Nat} {cs : List AVal} {e : TypeId} [h : OwnS H p sz n cs e] : OwnS (H.push o) p sz n cs e := h.keep (Nat.le_succ _) fun _ _ _ _ _ _ hr => push_get_lt hr
instance {H : AHeap} {s : Nat} {o : AObj} {p : AVal} {sz n : Nat} {cs : List AVal} {e : TypeId} [h : OwnS H p sz n cs e] [k : RowNe p s] : OwnS (H.set s o) p sz n cs e := h.keep (Nat.le_refl _) fun _ _ _ _ _ e _ => set_get_ne (k.ne _ _ _ _ _ e)
instance {H H' : AHeap} {p q : AVal} {sz n : Nat} {cs : List AVal} {e : TypeId} [x : ExtP H H' q] [h : OwnS H p sz n cs e] [k : SepS p q] : OwnS H' p sz n cs e := h.keep x.n fun r _ _ _ _ e hr => x.get r hr ⟨fun r' _ _ _ _ e' => fun hh => k.ne _ _ _ _ _ _ _ _ _ _ e e' hh.symm⟩
theorem exec_grow {H : AHeap} {p q : AVal} {sz n k bytes : Nat} {cs new : List AVal} {e : TypeId} (h : OwnS H p sz n cs e) (hf : aLenOf q = some k ∧ aFirst sz k q H = some (new, H)) (hnl : new.length = k * sz) (hsz : 0 < sz) (hb : 0 < bytes) (hk : 0 < k) (hroom : 2 * (n + k) * bytes ≤ 2 ^ 48) (hone : new.all AVal.one = true) :
    ∃ p' H', aAppend e sz bytes p q H = some (p', H') ∧ OwnS H' p' sz (n + k) (cs ++ new) e ∧ FreshS H p' ∧ ExtP H H' p := by
  have hk0 : ¬ k = 0 := by omega
  have hs0 : ¬ sz = 0 := by omega
  have hb0 : ¬ bytes = 0 := by omega
  rcases h.it with ⟨rfl, rfl, rfl⟩ | ⟨r, e', rfl, h2, h3, h4, h5, h6⟩
  · refine ⟨.slice H.n 0 k none sz, H.push (.row new true (2 * e)), ?_, ⟨Or.inr ⟨H.n, 2 * e, by rw [Nat.zero_add], Nat.lt_succ_self _, by rw [List.nil_append]; exact push_get_eq, half_even _, by rw [List.nil_append, Nat.zero_add]; exact hnl, by omega⟩⟩, ⟨fun _ _ _ _ _ q => by cases q; exact Nat.le_refl _⟩, ⟨Nat.le_succ _, fun r hr _ => push_get_lt hr⟩⟩
    rw [Nat.zero_add] at hroom
    simp only [aAppend, hf.1]
    rw [bind_of hf.2]
    simp only [hone, hnl, Bool.not_true, ne_eq, not_true, decide_false, hs0, hb0, Bool.or_false, Bool.false_eq_true, if_false, hk0, if_pos hroom, M.bind, aNew, M.pure]
  · have hcl : 0 + n * sz ≤ cs.length := by omega
    have hno : ¬ (0 + (n + k) * sz ≤ cs.length) := by
      have : 0 < k * sz := Nat.mul_pos hk hsz
      rw [Nat.add_mul]; omega
    refine ⟨.slice H.n 0 (n + k) none sz, (H.set r .dead).push (.row (cs ++ new) true (2 * e + 1)), ?_, ⟨Or.inr ⟨H.n, 2 * e + 1, rfl, Nat.lt_succ_self _, push_get_eq (H := H.set r .dead), half_odd _, by rw [List.length_append, hnl, h5, Nat.add_mul], by omega⟩⟩, ⟨fun _ _ _ _ _ q => by cases q; exact Nat.le_refl _⟩, ⟨Nat.le_succ _, fun s hs hne => by
      have hsr : s ≠ r := fun q => hne.ne _ _ _ _ _ rfl q.symm
      rw [push_get_lt (H := H.set r .dead) hs, set_get_ne hsr]⟩⟩
    have ha : aRow r H = some ((cs, true), H) := by simp only [aRow, if_pos h2, h3]
    have hmv : aMove r e (.row (((cs.drop 0).take (n * sz)) ++ new) true (2 * e + 1)) H = some (H.n, (H.set r .dead).push (.row (cs ++ new) true (2 * e + 1))) := by
      simp only [aMove, h3, h4, nbeq_self]
      rw [List.drop_zero, List.take_of_length_le (by omega)]
    simp only [aAppend, hf.1]
    rw [bind_of hf.2]
    simp only [hone, hnl, Bool.not_true, ne_eq, not_true, decide_false, hs0, hb0, Bool.or_false, Bool.false_eq_true, if_false]
    rw [bind_of ha]
    simp only [hk0, if_false, hno, Bool.true_and, decide_eq_true hcl, decide_eq_true hroom, Bool.and_true, if_true]
    rw [bind_of hmv]
    rfl
theorem aFirst_at {H : AHeap} {q : AVal} {sz k : Nat} {new : List AVal} (h : SliceAt H q sz k new) : aLenOf q = some k ∧ aFirst sz k q H = some (new, H) := by
  rcases h.it with ⟨rfl, rfl, rfl⟩ | ⟨r, off, cap, row, rw, e0, rfl, hr, hg, hle, hc, _⟩
  · exact ⟨rfl, rfl⟩
  · exact ⟨rfl, by simp only [aFirst, ne_eq, not_true, if_false, M.bind, aRow, if_pos hr, hg, if_pos hle, hc, M.pure]⟩
section
variable {call : ACall} {fr : AFrame} {H : AHeap} {K : AVal → AHeap → Prop}
theorem WpX.grow {e : TypeId} {x y : ROpd} {p q : AVal} {sz n k bytes : Nat} {cs new : List AVal} (hx : x.ev fr = p) (hy : y.ev fr = q) [h : OwnS H p sz n cs e] [hq : SliceAt H q sz k new] (hsz : 0 < sz) (hb : 0 < bytes) (hk : 0 < k) (hroom : 2 * (n + k) * bytes ≤ 2 ^ 48) (hone : new.all AVal.one = true)
    (hK : ∀ p' H', OwnS H' p' sz (n + k) (cs ++ new) e → FreshS H p' → ExtP H H' p → K p' H') : WpX (.append e sz bytes x y) call fr H K := by
  obtain ⟨p', H', h1, h2, h3, h4⟩ := exec_grow h (aFirst_at hq) hq.len hsz hb hk hroom hone
  exact ⟨p', H', by simp only [ROp.exec, hx, hy]; exact h1, hK p' H' h2 h3 h4⟩
end
class HasLoop (H : AHeap) (r : Nat) (R : outParam RLoop) : Prop where
  lt : r < H.n
  get : H.get r = .loop R
instance {H : AHeap} {r : Nat} {R : RLoop} [h : HasLoop H r R] : LtN r H := ⟨h.lt⟩
theorem HasLoop.ext {H H' : AHeap} {r : Nat} {R : RLoop} (h : HasLoop H r R) (x : Ext H H') : HasLoop H' r R := ⟨Nat.lt_of_lt_of_le h.lt x.n, by rw [x.get r h.lt]; exact h.get⟩
instance {H H' : AHeap} {r : Nat} {R : RLoop} [x : ExtI H H'] [h : HasLoop H r R] : HasLoop H' r R := h.ext x.ext
instance {H : AHeap} {o : AObj} {r : Nat} {R : RLoop} [h : HasLoop H r R] : HasLoop (H.push o) r R := ⟨Nat.lt_succ_of_lt h.lt, by rw [push_get_lt h.lt]; exact h.get⟩
instance {H : AHeap} {R : RLoop} : HasLoop (H.push (.loop R)) H.n R := ⟨Nat.lt_succ_self _, push_get_eq⟩
instance {H : AHeap} {s : Nat} {o : AObj} {r : Nat} {R : RLoop} [h : HasLoop H r R] [k : NeR r s] : HasLoop (H.set s o) r R := ⟨h.lt, by rw [set_get_ne k.ne]; exact h.get⟩
instance {H : AHeap} {r : Nat} {R R' : RLoop} [h : HasLoop H r R'] : HasLoop (H.set r (.loop R)) r R := ⟨h.lt, set_get_eq⟩
instance {H H' : AHeap} {r : Nat} {R : RLoop} {q : AVal} [x : ExtP H H' q] [h : HasLoop H r R] [k : RowNe q r] : HasLoop H' r R := ⟨Nat.lt_of_lt_of_le h.lt x.n, by rw [x.get r h.lt k]; exact h.get⟩
theorem con_ofR {ext : Exts} {prog : FuncId → Option RFunc} {d : Nat} {f : FuncId} {rf : RFunc} {c : RCode} {args : List AVal} {H : AHeap} {Q : AVal → AHeap → Prop} (hp : prog f = some rf) (hc : rf.body = .ranges c) (hn : Nat.ble args.length rf.nt = true)
    (h : ∀ n, fuel0 + d ≤ n → Wp (callN ext prog n) n c (argFrame args) H fun x fr' H' => (match x with | .exit _ => False | _ => True) ∧ ∃ H2, takeMarks (marksOf (fr' rf.nt)) H' = some ((), H2) ∧ ∃ vs, getAll fr' rf.results H2 = some (vs, H2) ∧ Q (aResult vs) H2) : Con ext prog (d + 1) f args H Q := by
  intro n hle
  obtain ⟨k, rfl⟩ : ∃ k, n = k + 1 := ⟨n - 1, by unfold fuel0 at hle; omega⟩
  obtain ⟨nt, body, res⟩ := rf
  simp only [] at hc
  subst hc
  obtain ⟨x, fr', H', h1, h2, H2, h5, vs, h3, h4⟩ := h k (by omega)
  refine ⟨aResult vs, H2, ?_, h4⟩
  have hlt : ¬ nt < args.length := by have := Nat.le_of_ble_eq_true hn; simp only at this; omega
  simp only at h5 h3
  simp only [callN, hp, RFunc.run, if_neg hlt, M.bind, h1]
  cases x with
  | exit i => exact h2.elim
  | normal => simp only [M.bind, h5, h3, M.pure]
  | ret => simp only [M.bind, h5, h3, M.pure]
theorem takeMarks1 {H : AHeap} {d l : Nat} {R : RLoop} (h : HasLoop H l R) (hs : R.st = 3) (hd : R.d = d) : takeMarks [.ptr d l] H = some ((), H.set l (.loop { R with st := 4 })) := by
  have h1 : Nat.blt l H.n = true := by simpa using h.lt
  have h2 : (Nat.beq R.st 3 && Nat.beq R.d d) = true := by rw [hs, hd]; simp
  have h3 : takeMark (.ptr d l) H = some ((), H.set l (.loop { R with st := 4 })) := by
    show (match Nat.blt l H.n, H.get l with
      | true, .loop R => (match Nat.beq R.st 3 && Nat.beq R.d d with
        | true => some ((), H.set l (.loop { R with st := 4 }))
        | false => none)
      | _, _ => none) = _
    rw [h1, h.get]
    simp only [h2]
  show M.bind (takeMark (.ptr d l)) (fun _ => takeMarks []) H = _
  simp only [M.bind, h3, takeMarks, M.pure]
section
variable {call : ACall} {lf : Nat} {fr : AFrame} {H : AHeap} {Q : RExit → AFrame → AHeap → Prop}
theorem Wp.range {fns : List FuncId} {nt : Nat} {g : ROpd} {ps : List Nat} {a b : RCode} {gf : FuncId} {fi ca vs : List AVal} (hg : g.ev fr = .func (.func gf) fi ca) (hv : fr nt = .tuple vs) (hf : fns.contains gf = true)
    (h : ∃ v H2 R, call gf (fi ++ [.yield (H.n + 1)] ++ ca) ((H.push .dead).push (.loop ⟨H.n, nt, fr, ps, a, b, 0, .normal⟩)) = some (v, H2) ∧ H2.get (H.n + 1) = .loop R ∧ (Nat.beq R.st 1 || Nat.beq R.st 4) = false ∧
      Q R.pend (upd fr nt (.tuple (.ptr H.n (H.n + 1) :: vs))) (H2.set (H.n + 1) (.loop { R with st := 3 }))) : Wp call lf (.rangeFunc fns nt g ps a b) fr H Q := by
  obtain ⟨v, H2, R, h1, h2, h3, h4⟩ := h
  refine ⟨_, _, _, ?_, h4⟩
  simp only [RCode.exec, hg, hv, hf, h1, h2, h3]
end
theorem round_next {ext : Exts} {prog : FuncId → Option RFunc} {k r : Nat} {avs : List AVal} {H : AHeap} {K : AHeap → Prop} (hp : prog yieldId = none) {R : RLoop} (hl : HasLoop H r R) (hst : R.st = 0) (hpd : R.pend = .normal) (hlen : (Nat.beq avs.length R.ps.length && R.ps.all (fun t => Nat.blt t R.nt)) = true)
    (h : Wp (callN ext prog k) k R.assign (setAll R.fr (R.ps.zip avs)) H fun x fr1 H1 => x = .normal ∧ HasLoop H1 r R ∧ Wp (callN ext prog k) k R.body fr1 (H1.set r (.loop { R with st := 1 })) fun x _ H2 => x = .normal ∧ HasLoop H2 r { R with st := 1 } ∧ K (H2.set r (.loop R))) :
    ∃ H', callN ext prog (k + 1) yieldId (.yield r :: avs) H = some (.bool true, H') ∧ K H' := by
  obtain ⟨x, fr1, H1, h1, rfl, h2, x2, fr2, H2, h3, rfl, h4, h5⟩ := h
  refine ⟨_, ?_, h5⟩
  have e1 : Nat.blt r H.n = true := by simpa using hl.lt
  have e2 : Nat.beq R.st 0 = true := by rw [hst]; rfl
  have e3 : ({ R with st := 0, pend := .normal } : RLoop) = R := by rw [← hst, ← hpd]
  have e4 : Nat.beq yieldId yieldId = true := by simp
  simp only [callN, hp, e4]
  unfold roundRun
  simp only [e1, hl.get, hlen, h1, h2.get, e2, h3, h4.get, Nat.beq_refl, e3]
end Go.Am

namespace Go.Am
open Go
abbrev Bs := List UInt8
abbrev strV (l : Bs) : AVal := .str ⟨l.toArray⟩
theorem str_size (l : Bs) : (⟨l.toArray⟩ : ByteArray).size = l.length := by
  show l.toArray.size = l.length
  simp
section
variable {call : ACall} {fr : AFrame} {H : AHeap} {KF : AFrame → AHeap → Prop} {os : List ROper} {d : Nat}
theorem exec_lenStr {x : ROpd} {l : Bs} (hx : x.ev fr = strV l) : (ROp.lenStr x).exec call fr H = some (.int .i64 l.length, H) := by
  simp only [ROp.exec, hx, aLenStr, str_size, M.ofOption, M.pure]
theorem Fo.lenStr {x : ROpd} {l : Bs} {v : AVal} (hx : x.ev fr = strV l) (hv : AVal.int .i64 l.length = v) (h : WpO call os (upd fr d v) H KF) : WpO call (⟨some d, .lenStr x, none⟩ :: os) fr H KF := by
  subst hv; exact WpO.step rfl ⟨_, _, exec_lenStr hx, h⟩
end
theorem Fo.uptr {call : ACall} {fr : AFrame} {H : AHeap} {KF : AFrame → AHeap → Prop} {os : List ROper} {d : Nat} {t s r : Nat} {x : ROpd} {cs : List AVal} (hx : x.ev fr = .ptr r 0) [h : HasRow H r cs true (2 * t)] (hs : Nat.ble s cs.length = true) (h0 : Nat.blt 0 s = true) (hK : WpO call os (upd fr d (.ptr r 0)) H KF) :
    WpO call (⟨some d, .uptr t s x, none⟩ :: os) fr H KF := by
  refine WpO.step rfl ⟨.ptr r 0, H, ?_, hK⟩
  have h1 : Nat.blt r H.n = true := by simpa using h.lt
  have h2 : (Nat.blt r H.n && Nat.beq 0 0 && Nat.blt 0 s) = true := by rw [h1, h0]; rfl
  have h3 : (Nat.beq (2 * t) (2 * t) && Nat.ble s cs.length) = true := by rw [hs]; simp
  have h4 : aUptr t s (.ptr r 0) H = some (.ptr r 0, H) := by
    show (match Nat.blt r H.n && Nat.beq 0 0 && Nat.blt 0 s with
      | true => (match H.get r with
        | .row cs true e => (match Nat.beq e (2 * t) && Nat.ble s cs.length with
          | true => some (AVal.ptr r 0, H)
          | false => none)
        | _ => none)
      | false => none) = _
    rw [h2, h.get]
    simp only [h3]
  show aUptr t s (x.ev fr) H = _
  rw [hx, h4]
theorem WpX.growX {call : ACall} {fr : AFrame} {H : AHeap} {K : AVal → AHeap → Prop} {e : TypeId} {x y : ROpd} {p q : AVal} {sz n k bytes : Nat} {cs new : List AVal} (hx : x.ev fr = p) (hy : y.ev fr = q) (h : OwnS H p sz n cs e) (hq : SliceAt H q sz k new) (hsz : 0 < sz) (hb : 0 < bytes) (hk : 0 < k) (hroom : 2 * (n + k) * bytes ≤ 2 ^ 48) (hone : new.all AVal.one = true)
    (hK : ∀ p' H', OwnS H' p' sz (n + k) (cs ++ new) e → FreshS H p' → ExtP H H' p → K p' H') : WpX (.append e sz bytes x y) call fr H K := WpX.grow hx hy hsz hb hk hroom hone hK
theorem WpX.yield {call : ACall} {fr : AFrame} {H : AHeap} {K : AVal → AHeap → Prop} {r : Nat} {o : ROpd} {l : List ROpd} {args : List AVal} (hf : o.ev fr = .yield r) (hl : l.map (·.ev fr) = args) (h : ∃ v H', call yieldId (.yield r :: args) H = some (v, H') ∧ K v H') : WpX (.call o l) call fr H K := by
  obtain ⟨v, H', h1, h2⟩ := h
  refine ⟨v, H', ?_, h2⟩
  simp only [ROp.exec, hf, hl, aCallV]
  exact h1
theorem Fo.stO {call : ACall} {fr : AFrame} {H : AHeap} {KF : AFrame → AHeap → Prop} {os : List ROper} {a x : ROpd} {r off : Nat} {cs l : List AVal} {e : TypeId} {v : AVal} (ha : a.ev fr = .ptr r off) (hx : x.ev fr = v) [o : OneV v] [hg : HasRow H r cs true e] (hl : Nat.ble (off + 1) cs.length = true) (hs : cs.set off v = l) (h : WpO call os fr (H.set r (.row l true e)) KF) :
    WpO call (⟨none, .store 1 a x, none⟩ :: os) fr H KF :=
  WpO.do' (WpX.st ha hx o.cells rfl hl (by simp only [List.all_cons, o.one, List.all_nil, Bool.and_self]) (by rw [← hs]; rfl) h)
end Go.Am

namespace Go.Am
open Go
attribute [local irreducible] Wp WpO WpX WpE
def checkS (g : Img) (ls : List (List Int)) : Int := bif g.err == 0 then (bif fitsB g.w.toNat g.h.toNat ls then 0 else 10) else g.err
instance K_stCheck {w h : Int} {p q : AVal} {H : AHeap} {l : List UInt8} {ls : List (List Int)} [hp : BytesI H p l] [hq : LinesI H q ls] : PureCon ext prog 31 [.agg [.int .i64 w, .int .i64 h, p], .agg [q]] H 4 (.int .i64 (checkS ⟨w, h, l⟩ ls)) := ⟨by
 refine con_of (show prog 31 = some c31 from rfl) rfl rfl fun n hn => ?_
 obtain ⟨ps, hps, _⟩ := hq.it
 haveI := hp.one
 haveI := hps.one
 cases h0 : (Img.err ⟨w, h, l⟩ == 0)
 ·have e1 : checkS ⟨w, h, l⟩ ls = Img.err ⟨w, h, l⟩ := by simp only [checkS, h0, cond_false]
  rw [e1]
  repeat first
   | refine mI ?_
   | (refine Fo.ldN rfl rfl (by simp only [↓nrmL, nrmZ, Nat.reduceEqDiff, ↓reduceIte, Nat.reduceAdd, Int.reduceBEq, Int.reduceBNe, h0, bne]; rfl) ?_)
   | (refine bn rfl rfl rfl (by simp only [h0, bne]; rfl) ?_)
   | (refine Fo.pcall (v' := ?_) hn rfl (by simp only [↓nrmL, nrmZ, Nat.reduceEqDiff, ↓reduceIte, Nat.reduceAdd, Int.reduceBEq, Int.reduceBNe, h0, bne, List.map]; rfl) rfl ?hv fun _ _ => ?_; case hv => rfl)
   | refine bA ?_
   | refine nl hKF ?_
   | refine sq ?_
   | refine rg fun KF hKF => ?_
   | refine ct rfl ?_
   | refine rt ?_
   | dsimp only [cond_true, cond_false]
  refine rz trivial ?_
  exact ⟨rfl, Ext0.ext⟩
 obtain ⟨a, b, rfl, rfl, ok⟩ := ok_of h0
 haveI : Side a := ⟨ok.wa⟩
 haveI : Side b := ⟨ok.hb⟩
 have e1 : checkS ⟨a, b, l⟩ ls = bif fitsB a b ls then 0 else 10 := by simp only [checkS, h0, cond_true, Int.toNat_natCast]
 cases hf : fitsB a b ls
 ·rw [e1, hf]
  repeat first
   | refine mI ?_
   | (refine Fo.ldN rfl rfl (by simp only [↓nrmL, nrmZ, Nat.reduceEqDiff, ↓reduceIte, Nat.reduceAdd, Int.reduceBEq, Int.reduceBNe, h0, bne]; rfl) ?_)
   | (refine bn rfl rfl rfl (by simp only [h0, bne]; rfl) ?_)
   | (refine Fo.pcall (v' := ?_) hn rfl (by simp only [↓nrmL, nrmZ, Nat.reduceEqDiff, ↓reduceIte, Nat.reduceAdd, Int.reduceBEq, Int.reduceBNe, h0, bne, List.map]; rfl) rfl ?hv fun _ _ => ?_; case hv => rfl)
   | refine bA ?_
   | refine Fo.now rfl rfl rfl ?_
   | refine nl hKF ?_
   | refine sq ?_
   | refine rg fun KF hKF => ?_
   | refine cf rfl ?_
   | refine sk ?_
   | dsimp only [cond_true, cond_false]
  rename AHeap => H1
  haveI : LinesI H1 q ls := hq.ext Ext0.ext
  simp only [hf]
  refine ct rfl ?_
  refine sq ?_
  refine rg fun KF hKF => ?_
  refine mI ?_
  refine nl hKF ?_
  refine rt ?_
  dsimp only [cond_true, cond_false]
  refine rz trivial ?_
  exact ⟨rfl, Ext0.ext⟩
 ·rw [e1, hf]
  repeat first
   | refine mI ?_
   | (refine Fo.ldN rfl rfl (by simp only [↓nrmL, nrmZ, Nat.reduceEqDiff, ↓reduceIte, Nat.reduceAdd, Int.reduceBEq, Int.reduceBNe, h0, bne]; rfl) ?_)
   | (refine bn rfl rfl rfl (by simp only [h0, bne]; rfl) ?_)
   | (refine Fo.pcall (v' := ?_) hn rfl (by simp only [↓nrmL, nrmZ, Nat.reduceEqDiff, ↓reduceIte, Nat.reduceAdd, Int.reduceBEq, Int.reduceBNe, h0, bne, List.map]; rfl) rfl ?hv fun _ _ => ?_; case hv => rfl)
   | refine bA ?_
   | refine Fo.now rfl rfl rfl ?_
   | refine nl hKF ?_
   | refine sq ?_
   | refine rg fun KF hKF => ?_
   | refine cf rfl ?_
   | refine sk ?_
   | dsimp only [cond_true, cond_false]
  rename AHeap => H1
  haveI : LinesI H1 q ls := hq.ext Ext0.ext
  simp only [hf]
  refine cf rfl ?_
  refine sk ?_
  refine sq ?_
  refine rg fun KF hKF => ?_
  refine mI ?_
  refine nl hKF ?_
  refine rt ?_
  dsimp only [cond_true, cond_false]
  refine rz trivial ?_
  exact ⟨rfl, Ext0.ext⟩⟩
def loN (m : List Int) (up x : Nat) : Nat := (m.getD x 0).toNat - up
theorem K_common {a b h up : Nat} {m : List Int} {r r6 r7 r5 r4 : Nat} {p6 q4 sp ip : AVal} {ps : List AVal} {e6 e7 e5 e4 : TypeId} {w6 w7 w5 w4 : Bool} {J : Nat → Nat → AHeap → Prop} {H : AHeap} {D : Nat} (ha : a ≤ 640) (hb : b ≤ 640) (hh : h ≤ 640) (hu : up ≤ 640) (hm : pathB a b m = true) (hps : ps[4]? = some q4)
  (hrow : ∀ x y H, J x y H → HasRow H r6 [p6] w6 e6 ∧ SliceAt H p6 1 5 ps ∧ IntsI H q4 m ∧ HasRow H r7 [.int .i64 up] w7 e7 ∧ HasRow H r5 [.int .i64 a, .int .i64 h, sp] w5 e5 ∧ HasRow H r4 [.int .i64 a, .int .i64 b, ip] w4 e4)
  (hnext : ∀ x y H, x < a → loN m up x ≤ y → (y < b → (m.getD x 0).toNat + h ≤ y + up) → J x y H → J (x + 1) (loN m up (x + 1)) H)
  (hy : ∀ x y H, x < a → loN m up x ≤ y → y < b → (m.getD x 0).toNat ≤ y + up → y + up < (m.getD x 0).toNat + h → J x y H → ∀ n, fuel0 + D ≤ n → ∃ H', callN ext prog n yieldId [.yield r, .int .i64 ((y * a + x : Nat) : Int), .int .i64 (((y + up - (m.getD x 0).toNat) * a + x : Nat) : Int)] H = some (.bool true, H') ∧ J x (y + 1) H')
  (hJ : J 0 (loN m up 0) H) : Con ext prog (D + 3) 105 [.yield r, .ptr r6 0, .ptr r7 0, .ptr r5 0, .ptr r4 0] H fun _ H' => J a (loN m up a) H' := by
 refine con_of (show prog 105 = some c105 from rfl) rfl rfl fun n hn => ?_
 obtain ⟨hml, ha0⟩ := pathB_len hm
 obtain ⟨k6, ks, kq, k7, k5, k4⟩ := hrow _ _ _ hJ
 haveI := ks.one
 haveI := kq.one
 refine sq ?_
 refine rg fun KF hKF => ?_
 refine fd ?_
 refine Fo.ld rfl rfl ?_
 refine Fo.idx (by simp only [↓nrmL, nrmK, Nat.reduceEqDiff, ↓reduceIte]; rfl) rfl ?_ (by simp only [↓nrmL, nrmZ, Nat.reduceEqDiff, ↓reduceIte, Nat.reduceAdd, Int.reduceBEq, Int.reduceBNe]; rfl) ?_; (focus omega)
 refine Fo.now rfl (exec_ldP (p := p6) (j := 4) rfl hps) rfl ?_
 refine ln (by simp only [↓nrmL, nrmK, Nat.reduceEqDiff, ↓reduceIte]; rfl) ?_
 refine mI ?_
 refine nl hKF ?_
 refine Wp.block ?_
 dsimp only [cond_true, cond_false]
 refine Wp.loopS [6, 7, 8, 9, 15, 16, 17, 18, 19, 20, 21, 22, 23, 24, 25, 26, 27, 28, 29, 30, 31, 32, 33, 34, 35, 36, 37, 38, 39, 40, 41, 42, 43, 44, 45, 46, 47, 48, 49, 50, 51, 52, 53] (fun x : Nat => [(15, .int .i64 x)]) (fun _ x H2 => x ≤ a ∧ J x (loN m up x) H2) (fun x => a - x) 0 rfl (fun _ => rfl) ⟨rfl, trivial⟩ ⟨Nat.zero_le _, hJ⟩ (by unfold fuel0 at hn; omega) ?_
 rintro x g H2 ⟨hxa, hJ2⟩
 obtain ⟨k6, ks, kq, k7, k5, k4⟩ := hrow _ _ _ hJ2
 simp only [↓nrmL, nrmZ, Nat.reduceEqDiff, ↓reduceIte, Nat.reduceAdd, Int.reduceBEq, Int.reduceBNe]
 cases hc : decide ((x : Int) < ((m.length : Nat) : Int))
 ·have hxe : x = a := by have := of_decide_eq_false hc; omega
  refine sq ?_
  refine rg fun KF hKF => ?_
  refine bn rfl rfl rfl (by simp only [hc]; rfl) ?_
  refine nl hKF ?_
  refine sq ?_
  refine cf rfl ?_
  refine xi ?_
  dsimp only [cond_true, cond_false]
  refine rz trivial ?_
  exact hxe ▸ hJ2
 have hxl : x < m.length := by have := of_decide_eq_true hc; omega
 have hx : x < a := by omega
 have hw1 := wa1 (a := x) (by omega)
 obtain ⟨hm0, hmb⟩ := pathB_range hm hxl
 obtain ⟨mx, hmx⟩ : ∃ k : Nat, m[x] = (k : Int) := ⟨m[x].toNat, by omega⟩
 have hgx : (m.getD x 0).toNat = mx := by rw [getD_at hxl, hmx]; rfl
 have hlo : loN m up x = mx - up := by rw [loN, hgx]
 have hsub : IntKind.i64.wrap ((mx : Int) - (up : Int)) = (mx : Int) - (up : Int) := w64 (by omega)
 have hadd : IntKind.i64.wrap ((mx : Int) - (up : Int) + (h : Int)) = (mx : Int) - (up : Int) + (h : Int) := w64 (by omega)
 have hmax : (if (0 : Int) > (mx : Int) - (up : Int) then (0 : Int) else (mx : Int) - (up : Int)) = ((loN m up x : Nat) : Int) := by rw [hlo]; split <;> omega
 repeat first
  | refine mI ?_
  | refine Fo.ld rfl rfl ?_
  | (refine bn rfl rfl rfl (by simp only [hc, hmx, hsub, hmax]; rfl) ?_)
  | (refine Fo.idx (by simp only [↓nrmL, nrmK, Nat.reduceEqDiff, ↓reduceIte]; rfl) rfl ?_ (by simp only [↓nrmL, nrmZ, Nat.reduceEqDiff, ↓reduceIte, Nat.reduceAdd, Int.reduceBEq, Int.reduceBNe, hc, hmx, hsub, hmax]; rfl) ?_; (focus omega))
  | (refine Fo.ldI rfl ?_ (by simp only [hc, hmx, hsub, hmax]; rfl) ?_; (focus omega))
  | (refine Fo.now rfl rfl (by simp only [hc, hmx, hsub, hmax]; rfl) ?_)
  | refine nl hKF ?_
  | refine sq ?_
  | refine rg fun KF hKF => ?_
  | refine ct rfl ?_
  | refine sk ?_
  | refine Wp.block ?_
  | dsimp only [cond_true, cond_false]
 refine Wp.loopS [9, 25, 26, 27, 28, 29, 30, 31, 32, 33, 34, 35, 36, 37, 38, 39, 40, 41, 42, 43, 44, 45, 46, 47, 48, 49, 50, 51, 52] (fun y : Nat => [(9, .int .i64 y)]) (fun _ y H3 => loN m up x ≤ y ∧ y ≤ 2000 ∧ J x y H3) (fun y => 2000 - y) (loN m up x) rfl (fun _ => rfl) ⟨rfl, trivial⟩ ⟨Nat.le_refl _, by omega, hJ2⟩ (by unfold fuel0 at hn; omega) ?_
 rintro y g2 H3 ⟨hyl, hyb, hJ3⟩
 obtain ⟨k6, ks, kq, k7, k5, k4⟩ := hrow _ _ _ hJ3
 simp only [↓nrmL, nrmZ, Nat.reduceEqDiff, ↓reduceIte, Nat.reduceAdd, Int.reduceBEq, Int.reduceBNe]
 obtain ⟨z, hz⟩ : ∃ z : Int, (if (b : Int) < (mx : Int) - (up : Int) + (h : Int) then (b : Int) else (mx : Int) - (up : Int) + (h : Int)) = z := ⟨_, rfl⟩
 cases hc2 : decide ((y : Int) < z)
 ·skip
  repeat first
   | refine mI ?_
   | refine fd ?_
   | refine Fo.ld rfl rfl ?_
   | (refine bn rfl rfl rfl (by simp only [hadd, Bool.false_eq_true, if_false, hz, hc2]; rfl) ?_)
   | refine b0 ?_
   | (refine Fo.now rfl rfl (by simp only [hadd, Bool.false_eq_true, if_false, hz, hc2]; rfl) ?_)
   | refine nl hKF ?_
   | refine sq ?_
   | refine rg fun KF hKF => ?_
   | refine cf rfl ?_
   | refine xi ?_
   | dsimp only [cond_true, cond_false]
  refine ⟨x + 1, by omega, ⟨by simp only [↓nrmL, nrmZ, Nat.reduceEqDiff, ↓reduceIte, Nat.reduceAdd, Int.reduceBEq, Int.reduceBNe]; rw [hw1], trivial⟩, by omega, hnext x y H3 hx hyl (fun hyb2 => ?_) hJ3⟩
  have := of_decide_eq_false hc2
  rw [hgx]
  split at hz <;> omega
 have hlt := of_decide_eq_true hc2
 have hy1 : y < b := by split at hz <;> omega
 have hy2 : y + up < mx + h := by split at hz <;> omega
 have hy0 : mx ≤ y + up := by omega
 have hlt1 := idx_lt hx hy1
 have hm1 : a * b ≤ 640 * 640 := Nat.mul_le_mul ha hb
 have hm2 : a * h ≤ 640 * 640 := Nat.mul_le_mul ha hh
 have hlt2 : (y + up - mx) * a + x < a * h := idx_lt hx (by omega)
 have m1 : IntKind.i64.wrap ((y : Int) * (a : Int)) = ((y * a : Nat) : Int) := wm (by omega)
 have m2 : IntKind.i64.wrap (((y * a : Nat) : Int) + (x : Int)) = ((y * a + x : Nat) : Int) := wa (by omega)
 have m3 : IntKind.i64.wrap ((y : Int) - ((mx : Int) - (up : Int))) = ((y + up - mx : Nat) : Int) := by rw [w64 (by omega)]; omega
 have m4 : IntKind.i64.wrap (((y + up - mx : Nat) : Int) * (a : Int)) = (((y + up - mx) * a : Nat) : Int) := wm (by omega)
 have m5 : IntKind.i64.wrap ((((y + up - mx) * a : Nat) : Int) + (x : Int)) = (((y + up - mx) * a + x : Nat) : Int) := wa (by omega)
 obtain ⟨H4, y1, hJ4⟩ := hy x y H3 hx hyl hy1 (by omega) (by omega) hJ3 n (by omega)
 rw [hgx] at y1
 have hw2 := wa1 (a := y) (by omega)
 repeat first
  | refine mI ?_
  | (refine mv ?_)
  | refine fd ?_
  | refine Fo.ld rfl rfl ?_
  | (refine bn rfl rfl rfl (by simp only [hadd, Bool.false_eq_true, if_false, hz, hc2, m1, m2, m3, m4, m5]; rfl) ?_)
  | (refine Fo.now rfl rfl (by simp only [hadd, Bool.false_eq_true, if_false, hz, hc2, m1, m2, m3, m4, m5]; rfl) ?_)
  | refine nl hKF ?_
  | refine sq ?_
  | refine rg fun KF hKF => ?_
  | refine ct rfl ?_
  | refine sk ?_
  | refine Wp.block ?_
 refine WpO.do (WpX.yield rfl (by simp only [↓nrmL, nrmZ, Nat.reduceEqDiff, ↓reduceIte, Nat.reduceAdd, Int.reduceBEq, Int.reduceBNe, List.map] <;> rfl) ⟨_, _, y1, ?_⟩)
 refine Fo.now rfl rfl (by simp only [↓nrmL, nrmZ, Nat.reduceEqDiff, ↓reduceIte, Nat.reduceAdd, Int.reduceBEq, Int.reduceBNe]; rfl) ?_
 refine nl hKF ?_
 refine cf rfl ?_
 refine sk ?_
 refine rg fun KF hKF => ?_
 refine mI ?_
 refine b0 ?_
 refine mI ?_
 refine nl hKF ?_
 dsimp only [cond_true, cond_false]
 refine ⟨y + 1, by omega, ⟨by simp only [↓nrmL, nrmZ, Nat.reduceEqDiff, ↓reduceIte, Nat.reduceAdd, Int.reduceBEq, Int.reduceBNe]; rw [hw2], trivial⟩, by omega, by omega, hJ4⟩
theorem K_commonF {q : AVal} {up : Int} {w h w' h' : Int} {p p' : AVal} {H : AHeap} [hp : OneV p] [hp' : OneV p'] [hq : OneV q] : Con ext prog 1 82 [.agg [.int .i64 w, .int .i64 h, p], .agg [.int .i64 w', .int .i64 h', p'], .agg [q], .int .i64 up] H fun v H' => ∃ r6 r7 r5 r4, v = .func (.func 105) [] [.ptr r6 0, .ptr r7 0, .ptr r5 0, .ptr r4 0] ∧ HasRow H' r6 [q] true (2 * 43) ∧ HasRow H' r7 [.int .i64 up] true (2 * 3) ∧ HasRow H' r5 [.int .i64 w', .int .i64 h', p'] true (2 * 24) ∧ HasRow H' r4 [.int .i64 w, .int .i64 h, p] true (2 * 24) ∧ Ext H H' ∧ H.n ≤ r6 ∧ H.n ≤ r7 ∧ H.n ≤ r5 ∧ H.n ≤ r4 := by
 refine con_of (show prog 82 = some c82 from rfl) rfl rfl fun n hn => ?_
 repeat first
  | refine mF ?_
  | (refine mv ?_)
  | refine bA ?_
  | refine Fo.box1 (rfl : _ = AVal.int _ _) ?_
  | refine Fo.now rfl rfl rfl ?_
  | refine nl hKF ?_
  | refine sq ?_
  | refine rg fun KF hKF => ?_
  | refine rt ?_
  | dsimp only [cond_true, cond_false]
 refine rz trivial ?_
 refine ⟨_, _, _, _, rfl, inferInstance, inferInstance, inferInstance, inferInstance, Ext0.ext, ?_, ?_, ?_, ?_⟩ <;> first | exact Nat.le_refl _ | (simp only [AHeap.push]; omega)
end Go.Am

namespace Go.Am
open Go
attribute [local irreducible] Wp WpO WpX WpE
def mixP (P : Nat → Bool) (f g : Nat → UInt8) (n : Nat) : List UInt8 := (List.range n).map fun k => if P k = true then f k else g k
theorem mixP_length (P : Nat → Bool) (f g : Nat → UInt8) (n : Nat) : (mixP P f g n).length = n := by simp [mixP]
theorem mixP_congr {P Q : Nat → Bool} {f g : Nat → UInt8} {n : Nat} (h : ∀ k, k < n → (Q k = true ↔ P k = true) ∨ f k = g k) : mixP P f g n = mixP Q f g n := by
 unfold mixP
 apply List.map_congr_left
 intro k hk
 have hk := List.mem_range.1 hk
 rcases h k hk with h1 | h1
 ·by_cases hp : P k = true
  ·rw [if_pos hp, if_pos (h1.2 hp)]
  ·rw [if_neg hp, if_neg (fun q => hp (h1.1 q))]
 ·split <;> split <;> simp_all
theorem mixP_set {P Q : Nat → Bool} {f g : Nat → UInt8} {n j : Nat} (h : ∀ k, k < n → (Q k = true ↔ P k = true ∨ k = j)) : (mixP P f g n).set j (f j) = mixP Q f g n := by
 apply List.ext_getElem
 ·simp [mixP]
 ·intro k h1 h2
  have hk : k < n := by simpa [mixP] using h2
  have := h k hk
  rw [List.getElem_set]
  simp only [mixP, List.getElem_map, List.getElem_range]
  by_cases e : j = k
  ·subst e
   rw [if_pos rfl, if_pos (this.2 (Or.inr rfl))]
  ·rw [if_neg e]
   by_cases hp : P k = true
   ·rw [if_pos hp, if_pos (this.2 (Or.inl hp))]
   ·rw [if_neg hp, if_neg (fun q => by rcases this.1 q with h3 | h3; exact hp h3; exact e h3.symm)]
structure JS (Hb : AHeap) (r : Nat) (R0 : RLoop) (q : AVal) (L : List UInt8) (H : AHeap) : Prop where
 n : Hb.n ≤ H.n
 get : ∀ s, s < Hb.n → RowNe q s → H.get s = Hb.get s
 px : BytesI H q L
 wr : WrS H q
 loop : HasLoop H r R0
theorem JS.row {Hb H : AHeap} {r s : Nat} {R0 : RLoop} {q : AVal} {L : List UInt8} {cs : List AVal} {rw : Bool} {e : TypeId} (h : JS Hb r R0 q L H) (k : HasRow Hb s cs rw e) (hne : RowNe q s) : HasRow H s cs rw e := ⟨Nat.lt_of_lt_of_le k.lt h.n, by rw [h.get s k.lt hne]; exact k.get⟩
theorem JS.slice {Hb H : AHeap} {r : Nat} {R0 : RLoop} {q p : AVal} {L : List UInt8} {sz n : Nat} {cs : List AVal} (h : JS Hb r R0 q L H) (k : SliceAt Hb p sz n cs) (hne : SepS p q) : SliceAt H p sz n cs := k.keep h.n fun s _ _ _ _ e hs => h.get s hs ⟨fun r' _ _ _ _ e' hh => hne.ne _ _ _ _ _ _ _ _ _ _ e e' hh.symm⟩
theorem JS.ext {Hh Hb H : AHeap} {r : Nat} {R0 : RLoop} {q : AVal} {L : List UInt8} (h : JS Hb r R0 q L H) (x : Ext Hh Hb) (f : FreshS Hh q) : Ext Hh H := ⟨Nat.le_trans x.n h.n, fun s hs => by have := x.n; rw [h.get s (by omega) ⟨fun r' _ _ _ _ e => by have := f.ge _ _ _ _ _ e; omega⟩, x.get s hs]⟩
theorem JS.start {Hb : AHeap} {R0 : RLoop} {q : AVal} {L : List UInt8} (k : BytesI Hb q L) (w : WrS Hb q) : JS Hb (Hb.n + 1) R0 q L ((Hb.push .dead).push (.loop R0)) := by
 haveI := k
 haveI := w
 refine ⟨by simp only [AHeap.push]; omega, fun s hs _ => ?_, inferInstance, inferInstance, (inferInstance : HasLoop ((Hb.push .dead).push (.loop R0)) (Hb.push .dead).n R0)⟩
 rw [push_get_lt (by simp only [AHeap.push]; omega), push_get_lt hs]
theorem px_ne {H : AHeap} {q : AVal} {r : Nat} {L : List UInt8} {R0 : RLoop} (k : BytesI H q L) (hl : HasLoop H r R0) : RowNe q r := ⟨fun r' off len cap sz e => by
 rcases k.it with ⟨rfl, _⟩ | ⟨r2, off2, cap2, row, rw2, e2, rfl, h2, h3, _⟩
 ·cases e
 ·cases e
  intro e; subst e
  have := hl.get
  rw [h3] at this; cases this⟩
def rctF (l : List UInt8) (a b : Nat) (m : List Int) (up k : Nat) : UInt8 := if up ≤ (m.getD (k % a) 0).toNat + k / a ∧ (m.getD (k % a) 0).toNat + k / a < up + b then l.getD (((m.getD (k % a) 0).toNat + k / a - up) * a + k % a) 0 else 0
def rctL (l : List UInt8) (a b : Nat) (m : List Int) (up h : Nat) : List UInt8 := (List.range (a * h)).map (rctF l a b m up)
def rctP (a : Nat) (m : List Int) (up x y k : Nat) : Bool := decide (k % a < x) || (decide (k % a = x) && decide ((m.getD x 0).toNat + k / a < y + up))
theorem rct_at {a x y : Nat} (hx : x < a) : (y * a + x) % a = x ∧ (y * a + x) / a = y := by
 constructor
 ·rw [Nat.mul_comm, Nat.mul_add_mod]; exact Nat.mod_eq_of_lt hx
 ·rw [Nat.mul_comm, Nat.mul_add_div (by omega), Nat.div_eq_of_lt hx, Nat.add_zero]
theorem div_inj {a j k : Nat} (h1 : j % a = k % a) (h2 : j / a = k / a) : j = k := by
 have := Nat.div_add_mod j a
 have := Nat.div_add_mod k a
 rw [h1, h2] at *; omega
theorem rctP_next {a up x y : Nat} {m : List Int} (hx : x < a) (hy : (m.getD x 0).toNat ≤ y + up) (k : Nat) : rctP a m up x (y + 1) k = true ↔ rctP a m up x y k = true ∨ k = (y + up - (m.getD x 0).toNat) * a + x := by
 simp only [rctP, Bool.or_eq_true, Bool.and_eq_true, decide_eq_true_eq]
 obtain ⟨e1, e2⟩ := rct_at (y := y + up - (m.getD x 0).toNat) hx
 constructor
 ·rintro (h | ⟨h, h2⟩)
  ·exact Or.inl (Or.inl h)
  ·by_cases h3 : (m.getD x 0).toNat + k / a < y + up
   ·exact Or.inl (Or.inr ⟨h, h3⟩)
   ·exact Or.inr (div_inj (a := a) (by rw [e1, h]) (by rw [e2]; omega))
 ·rintro ((h | ⟨h, h2⟩) | h)
  ·exact Or.inl h
  ·exact Or.inr ⟨h, by omega⟩
  ·subst h
   exact Or.inr ⟨e1, by rw [e2]; omega⟩
theorem rctP_col {a b h up x y : Nat} {l : List UInt8} {m : List Int} (hx : x < a) (hy : y < b → (m.getD x 0).toNat + h ≤ y + up) (hl : loN m up x ≤ y) {k : Nat} (hk : k < a * h) : (rctP a m up (x + 1) (loN m up (x + 1)) k = true ↔ rctP a m up x y k = true) ∨ rctF l a b m up k = 0 := by
 have hkh : k / a < h := Nat.div_lt_of_lt_mul hk
 simp only [rctP, Bool.or_eq_true, Bool.and_eq_true, decide_eq_true_eq]
 by_cases h1 : k % a < x
 ·exact Or.inl ⟨fun _ => Or.inl h1, fun _ => Or.inl (by omega)⟩
 by_cases h2 : k % a = x
 ·by_cases h3 : (m.getD x 0).toNat + k / a < y + up
  ·exact Or.inl ⟨fun _ => Or.inr ⟨h2, h3⟩, fun _ => Or.inl (by omega)⟩
  ·right
   rw [rctF, h2, if_neg]
   intro h4
   by_cases h5 : y < b
   ·have := hy h5; omega
   ·omega
 ·by_cases h3 : k % a = x + 1
  ·by_cases h4 : (m.getD (x + 1) 0).toNat + k / a < loN m up (x + 1) + up
   ·right
    rw [rctF, h3, if_neg]
    intro h5
    unfold loN at h4
    have := Nat.zero_le (k / a)
    omega
   ·left
    constructor
    ·rintro (h5 | ⟨_, h5⟩)
     ·omega
     ·exact absurd h5 h4
    ·rintro (h5 | ⟨h5, _⟩)
     ·exact absurd h5 h1
     ·exact absurd h5 h2
  ·left
   constructor
   ·rintro (h5 | ⟨h5, _⟩)
    ·omega
    ·exact absurd h5 h3
   ·rintro (h5 | ⟨h5, _⟩)
    ·exact absurd h5 h1
    ·exact absurd h5 h2
theorem rctP_first {a b up : Nat} {l : List UInt8} {m : List Int} {k : Nat} : (rctP a m up 0 (loN m up 0) k = true ↔ false = true) ∨ rctF l a b m up k = 0 := by
 by_cases h : rctP a m up 0 (loN m up 0) k = true
 ·right
  simp only [rctP, Bool.or_eq_true, Bool.and_eq_true, decide_eq_true_eq] at h
  rcases h with h | ⟨h, h2⟩
  ·omega
  ·rw [rctF, h, if_neg]
   intro h3
   unfold loN at h2
   have := Nat.zero_le (k / a)
   omega
 ·left
  exact ⟨fun q => absurd q h, fun q => by cases q⟩
theorem rct_start {a b up n : Nat} {l : List UInt8} {m : List Int} : List.replicate n (0 : UInt8) = mixP (rctP a m up 0 (loN m up 0)) (rctF l a b m up) (fun _ => 0) n := by
 rw [mixP_congr (Q := fun _ => false) fun k _ => by rcases rctP_first (a := a) (b := b) (up := up) (l := l) (m := m) (k := k) with h | h; exact Or.inl ⟨fun q => (h.2 q), fun q => h.1 q⟩; exact Or.inr h]
 apply List.ext_getElem <;> simp [mixP]
theorem rct_end {a b h up : Nat} {l : List UInt8} {m : List Int} (ha : 0 < a) {y : Nat} : mixP (rctP a m up a y) (rctF l a b m up) (fun _ => 0) (a * h) = rctL l a b m up h := by
 unfold mixP rctL
 apply List.map_congr_left
 intro k _
 rw [if_pos]
 simp only [rctP, Bool.or_eq_true, decide_eq_true_eq]
 exact Or.inl (Nat.mod_lt _ ha)
end Go.Am

namespace Go.Am
open Go
attribute [local irreducible] Wp WpO WpX WpE
theorem exec_fa {call : ACall} {fr : AFrame} {H : AHeap} {x : ROpd} {r o off : Nat} (hx : x.ev fr = .ptr r o) : (ROp.fieldAddr off x).exec call fr H = some (.ptr r (o + off), H) := by simp only [ROp.exec, hx, aFieldAddr, M.ofOption, M.pure]
abbrev recA : RCode := .seq (.region [⟨(some 13), .mov (.tmp 50), none⟩]) (.region [⟨(some 14), .mov (.tmp 51), none⟩])
abbrev recB : RCode := .block 1 (.dregion [⟨⟨(some 52), .fieldAddr 2 (.tmp 11), none⟩, 0, 0, true⟩,
   ⟨⟨(some 53), .load none (.tmp 52), none⟩, 1, 1, true⟩,
   ⟨⟨(some 54), .mov (.tmp 14), none⟩, 0, 0, true⟩,
   ⟨⟨(some 55), .fieldAddr 2 (.tmp 4), none⟩, 0, 0, true⟩,
   ⟨⟨(some 56), .load none (.tmp 55), none⟩, 8, 1, true⟩,
   ⟨⟨(some 57), .mov (.tmp 13), none⟩, 0, 0, true⟩,
   ⟨⟨(some 58), .idxS 1 (.tmp 56) (.tmp 57), none⟩, 56, 0, true⟩,
   ⟨⟨(some 59), .load none (.tmp 58), none⟩, 120, 1, true⟩,
   ⟨⟨(some 60), .idxS 1 (.tmp 53) (.tmp 54), none⟩, 255, 0, true⟩,
   ⟨⟨none, .store 1 (.tmp 60) (.tmp 59), none⟩, 511, 2, false⟩])
abbrev recR (d : Nat) (fr : AFrame) : RLoop := ⟨d, 62, fr, [50, 51], recA, recB, 0, .normal⟩
theorem round_rect {Hb H : AHeap} {r11 r4 r d n i j : Nat} {fr : AFrame} {q p : AVal} {L l : List UInt8} {u v w s : Int} {e11 e4 : TypeId} {w11 w4 : Bool} (h11 : fr 11 = .ptr r11 0) (h4 : fr 4 = .ptr r4 0) (k11 : HasRow H r11 [.int .i64 u, .int .i64 v, q] w11 e11) (k4 : HasRow H r4 [.int .i64 w, .int .i64 s, p] w4 e4) (kp : BytesI H p l) (n11 : RowNe q r11) (n4 : RowNe q r4) (hpq : SepS p q) (hr : Hb.n ≤ r) (hJ : JS Hb r (recR d fr) q L H) (hi : i < l.length) (hj : j < L.length) (hn : fuel0 + 1 ≤ n) :
  ∃ H', callN ext prog n yieldId [.yield r, .int .i64 (i : Int), .int .i64 (j : Int)] H = some (.bool true, H') ∧ JS Hb r (recR d fr) q (L.set j l[i]) H' := by
 obtain ⟨k, rfl⟩ : ∃ k, n = k + 1 := ⟨n - 1, by omega⟩
 haveI := hJ.loop
 haveI := hJ.px
 haveI := hJ.wr
 haveI : RowNe q r := px_ne hJ.px hJ.loop
 haveI : RowNe p r := px_ne kp hJ.loop
 haveI : NeR r11 r := ⟨fun e => by have := k11.get; have h2 := hJ.loop.get; rw [e, h2] at this; cases this⟩
 haveI : NeR r4 r := ⟨fun e => by have := k4.get; have h2 := hJ.loop.get; rw [e, h2] at this; cases this⟩
 haveI := kp.one
 haveI := hJ.px.one
 refine round_next (R := recR d fr) rfl hJ.loop rfl rfl rfl ?_
 show Wp (callN ext prog k) k recA (upd (upd fr 50 (.int .i64 (i : Int))) 51 (.int .i64 (j : Int))) H _
 simp only [h11, h4]
 repeat first
  | refine mI ?_
  | refine nl hKF ?_
  | refine sq ?_
  | refine rg fun KF hKF => ?_
 refine ⟨rfl, inferInstance, ?_⟩
 show Wp (callN ext prog k) k recB _ _ _
 refine Wp.block ?_
 refine Fr.dregion0 rfl fun KF hKF => ?_
 refine Fe.pure rfl (exec_fa h11) rfl ?_
 refine Er rfl (exec_ld rfl rfl) rfl ?_
 refine Fe.pure rfl rfl (by simp only [↓nrmL, nrmZ, Nat.reduceEqDiff, ↓reduceIte, Nat.reduceAdd, Int.reduceBEq, Int.reduceBNe]; rfl) ?_
 refine Fe.pure rfl (exec_fa h4) rfl ?_
 repeat first
  | (refine Er rfl (exec_ld rfl rfl) rfl ?_)
  | (refine Fe.pure rfl rfl (by simp only [↓nrmL, nrmZ, Nat.reduceEqDiff, ↓reduceIte, Nat.reduceAdd, Int.reduceBEq, Int.reduceBNe]; rfl) ?_)
  | (refine Fe.pure rfl (exec_idxP (by (try simp only [↓nrmL, nrmZ, Nat.reduceEqDiff, ↓reduceIte, Nat.reduceAdd, Int.reduceBEq, Int.reduceBNe]); rfl) rfl ?_) (by simp only [↓nrmL, nrmZ, Nat.reduceEqDiff, ↓reduceIte, Nat.reduceAdd, Int.reduceBEq, Int.reduceBNe]; rfl) ?_; (focus omega))
  | (refine Er rfl (exec_ldB rfl (by omega)) rfl ?_)
 refine WpE.stB (l[i]) rfl rfl rfl rfl hj fun H8 hb8 hw8 hx8 => ar ?_
 refine WpE.nil (hKF _ _ ?_)
 dsimp only [cond_true, cond_false]
 have hn1 := hJ.n
 have hn8 := hx8.n
 refine ⟨rfl, inferInstance, ⟨by simp only [AHeap.set] at hn8 ⊢; omega, fun s hs hne => ?_, inferInstance, inferInstance, inferInstance⟩⟩
 have hsr : s ≠ r := by omega
 rw [set_get_ne hsr, hx8.get s (by simp only [AHeap.set]; omega) hne, set_get_ne hsr]
 exact hJ.get s hs hne
def rectS (g : Img) (ls : List (List Int)) (up down : Int) : Img × Int :=
 bif checkS g ls == 0 then (bif decide (up < 0) || decide (down < 0) then (.zero, 1) else (bif decide (up + down + 1 ≤ 640) then (⟨g.w, up + down + 1, rctL g.px g.w.toNat g.h.toNat (ls.getD 4 []) up.toNat (up + down + 1).toNat⟩, 0) else (.zero, 2))) else (.zero, checkS g ls)
theorem checkS_ok {w h : Int} {l : List UInt8} {ls : List (List Int)} (h0 : (checkS ⟨w, h, l⟩ ls == 0) = true) : ∃ a b : Nat, w = a ∧ h = b ∧ Ok a b l ∧ fitsB a b ls = true := by
 unfold checkS at h0
 cases h1 : (Img.err ⟨w, h, l⟩ == 0)
 ·rw [h1, cond_false] at h0
  rw [h1] at h0; cases h0
 ·obtain ⟨a, b, rfl, rfl, ok⟩ := ok_of h1
  rw [h1, cond_true] at h0
  refine ⟨a, b, rfl, rfl, ok, ?_⟩
  simp only [Int.toNat_natCast] at h0
  cases hf : fitsB a b ls with
  | true => rfl
  | false => rw [hf] at h0; cases h0
theorem K_Rectify {w h up down : Int} {p q : AVal} {H : AHeap} {l : List UInt8} {ls : List (List Int)} [hp : BytesI H p l] [hq : LinesI H q ls] : Con ext prog 9 36 [.agg [.int .i64 w, .int .i64 h, p], .agg [q], .int .i64 up, .int .i64 down] H fun v H' => InkRes H H' v (rectS ⟨w, h, l⟩ ls up down) := by
 refine con_ofR (show prog 36 = some c36 from rfl) rfl rfl fun n hn => ?_
 obtain ⟨ps, hps, hrw⟩ := hq.it
 haveI := hp.one
 haveI := hps.one
 obtain ⟨R, hR⟩ : ∃ R, rectS ⟨w, h, l⟩ ls up down = R := ⟨_, rfl⟩
 rw [hR]
 cases h0 : (checkS ⟨w, h, l⟩ ls == 0)
 ·have e1 : rectS ⟨w, h, l⟩ ls up down = (.zero, checkS ⟨w, h, l⟩ ls) := by simp only [rectS, h0, cond_false]
  rw [e1] at hR
  subst hR
  simp only [h0, bne]
  repeat first
   | refine mI ?_
   | (refine Fo.ldN rfl rfl (by simp only [↓nrmL, nrmZ, Nat.reduceEqDiff, ↓reduceIte, Nat.reduceAdd, Int.reduceBEq, Int.reduceBNe, h0, bne]; rfl) ?_)
   | (refine bn rfl rfl rfl (by simp only [h0, bne]; rfl) ?_)
   | (refine Fo.pcall (v' := ?_) hn rfl (by simp only [↓nrmL, nrmZ, Nat.reduceEqDiff, ↓reduceIte, Nat.reduceAdd, Int.reduceBEq, Int.reduceBNe, h0, bne, List.map]; rfl) rfl ?hv fun _ _ => ?_; case hv => rfl)
   | refine bA ?_
   | refine nw ?_
   | (refine ob (cs' := ?_) ?hc ?_; case hc => rfl)
   | (refine so rfl (rfl : _ = AVal.agg _) rfl rfl rfl (by simp only [↓nrmL, nrmZ, Nat.reduceEqDiff, ↓reduceIte, Nat.reduceAdd, Int.reduceBEq, Int.reduceBNe, h0, bne]; rfl) ?_)
   | refine nl hKF ?_
   | refine sq ?_
   | refine rg fun KF hKF => ?_
   | refine ct rfl ?_
   | refine rt ?_
   | dsimp only [cond_true, cond_false]
  exact ⟨trivial, _, rfl, _, getAllC rfl rfl rfl rfl, _, rfl, newZero⟩
 obtain ⟨a, b, rfl, rfl, ok, hfit⟩ := checkS_ok h0
 obtain ⟨hl5, hpaths⟩ := fitsB_iff hfit
 have h4l : 4 < ls.length := by omega
 have hm := hpaths 4 h4l
 obtain ⟨hml, ha0⟩ := pathB_len hm
 obtain ⟨q4, hq4, hI4⟩ := hrw.it 4 h4l
 obtain ⟨m, hmdef⟩ : ∃ m, ls[4] = m := ⟨_, rfl⟩
 rw [hmdef] at hm hml hI4
 haveI := hI4
 have ha := ok.wa
 have hb := ok.hb
 have hlen := ok.len
 cases hu0 : decide (up < 0)
 rotate_left
 ·have e1 : rectS ⟨a, b, l⟩ ls up down = (.zero, 1) := by simp only [rectS, h0, hu0, cond_true, Bool.true_or]
  rw [e1] at hR
  subst hR
  simp only [h0, bne, hu0]
  repeat first
   | refine ox ?_
   | refine mI ?_
   | refine mB ?_
   | (refine Fo.ldN rfl rfl (by simp only [↓nrmL, nrmZ, Nat.reduceEqDiff, ↓reduceIte, Nat.reduceAdd, Int.reduceBEq, Int.reduceBNe, h0, bne, hu0]; rfl) ?_)
   | (refine bn rfl rfl rfl (by simp only [h0, bne, hu0]; rfl) ?_)
   | refine tB ?_
   | (refine Fo.pcall (v' := ?_) hn rfl (by simp only [↓nrmL, nrmZ, Nat.reduceEqDiff, ↓reduceIte, Nat.reduceAdd, Int.reduceBEq, Int.reduceBNe, h0, bne, hu0, List.map]; rfl) rfl ?hv fun _ _ => ?_; case hv => rfl)
   | refine bA ?_
   | refine nw ?_
   | (refine ob (cs' := ?_) ?hc ?_; case hc => rfl)
   | (refine so rfl (rfl : _ = AVal.agg _) rfl rfl rfl (by simp only [↓nrmL, nrmZ, Nat.reduceEqDiff, ↓reduceIte, Nat.reduceAdd, Int.reduceBEq, Int.reduceBNe, h0, bne, hu0]; rfl) ?_)
   | refine nl hKF ?_
   | refine sq ?_
   | refine rg fun KF hKF => ?_
   | refine ct rfl ?_
   | refine cf rfl ?_
   | refine sk ?_
   | refine rt ?_
   | dsimp only [cond_true, cond_false]
  exact ⟨trivial, _, rfl, _, getAllC rfl rfl rfl rfl, _, rfl, newZero⟩
 cases hd0 : decide (down < 0)
 rotate_left
 ·have e1 : rectS ⟨a, b, l⟩ ls up down = (.zero, 1) := by simp only [rectS, h0, hu0, hd0, cond_true, Bool.or_true]
  rw [e1] at hR
  subst hR
  simp only [h0, bne, hu0, hd0]
  repeat first
   | refine oy ?_
   | refine mI ?_
   | refine mB ?_
   | (refine Fo.ldN rfl rfl (by simp only [↓nrmL, nrmZ, Nat.reduceEqDiff, ↓reduceIte, Nat.reduceAdd, Int.reduceBEq, Int.reduceBNe, h0, bne, hu0, hd0]; rfl) ?_)
   | (refine bn rfl rfl rfl (by simp only [h0, bne, hu0, hd0]; rfl) ?_)
   | refine fB ?_
   | (refine Fo.pcall (v' := ?_) hn rfl (by simp only [↓nrmL, nrmZ, Nat.reduceEqDiff, ↓reduceIte, Nat.reduceAdd, Int.reduceBEq, Int.reduceBNe, h0, bne, hu0, hd0, List.map]; rfl) rfl ?hv fun _ _ => ?_; case hv => rfl)
   | refine bA ?_
   | refine nw ?_
   | (refine ob (cs' := ?_) ?hc ?_; case hc => rfl)
   | (refine so rfl (rfl : _ = AVal.agg _) rfl rfl rfl (by simp only [↓nrmL, nrmZ, Nat.reduceEqDiff, ↓reduceIte, Nat.reduceAdd, Int.reduceBEq, Int.reduceBNe, h0, bne, hu0, hd0]; rfl) ?_)
   | refine nl hKF ?_
   | refine sq ?_
   | refine rg fun KF hKF => ?_
   | refine ct rfl ?_
   | refine cf rfl ?_
   | refine sk ?_
   | refine rt ?_
   | dsimp only [cond_true, cond_false]
  exact ⟨trivial, _, rfl, _, getAllC rfl rfl rfl rfl, _, rfl, newZero⟩
 obtain ⟨u, rfl⟩ : ∃ k : Nat, up = k := ⟨up.toNat, by have := of_decide_eq_false hu0; omega⟩
 obtain ⟨d, rfl⟩ : ∃ k : Nat, down = k := ⟨down.toNat, by have := of_decide_eq_false hd0; omega⟩
 obtain ⟨cu, hcu⟩ : ∃ k : Nat, (if (640 : Int) < (u : Int) then (640 : Int) else (u : Int)) = (k : Int) := ⟨min u 640, by split <;> omega⟩
 obtain ⟨cd, hcd⟩ : ∃ k : Nat, (if (640 : Int) < (d : Int) then (640 : Int) else (d : Int)) = (k : Int) := ⟨min d 640, by split <;> omega⟩
 have hcu2 : cu = min u 640 := by split at hcu <;> omega
 have hcd2 : cd = min d 640 := by split at hcd <;> omega
 have m1 : IntKind.i64.wrap ((cu : Int) + (cd : Int)) = ((cu + cd : Nat) : Int) := wa (by omega)
 have m2 := wa1 (a := cu + cd) (by omega)
 have hsa : sideB (a : Int) = true := by unfold sideB; rw [decide_eq_true (by omega), decide_eq_true (by omega)]; rfl
 simp only [h0, bne, hu0, hd0, Bool.false_eq_true, if_false, hcu, hcd, m1, m2]
 repeat first
  | refine oy ?_
  | refine mI ?_
  | refine mB ?_
  | refine fd ?_
  | refine Fo.ld rfl rfl ?_
  | (refine Fo.ldN rfl rfl (by simp only [↓nrmL, nrmZ, Nat.reduceEqDiff, ↓reduceIte, Nat.reduceAdd, Int.reduceBEq, Int.reduceBNe, h0, bne, hu0, hd0, Bool.false_eq_true, if_false, hcu, hcd, m1, m2]; rfl) ?_)
  | (refine bn rfl rfl rfl (by simp only [h0, bne, hu0, hd0, Bool.false_eq_true, if_false, hcu, hcd, m1, m2]; rfl) ?_)
  | refine fB ?_
  | (refine Fo.pcall (v' := ?_) hn rfl (by simp only [↓nrmL, nrmZ, Nat.reduceEqDiff, ↓reduceIte, Nat.reduceAdd, Int.reduceBEq, Int.reduceBNe, h0, bne, hu0, hd0, Bool.false_eq_true, if_false, hcu, hcd, m1, m2, List.map]; rfl) rfl ?hv fun _ _ => ?_; case hv => rfl)
  | refine bA ?_
  | refine nw ?_
  | (refine Fo.now rfl rfl (by simp only [h0, bne, hu0, hd0, Bool.false_eq_true, if_false, hcu, hcd, m1, m2]; rfl) ?_)
  | refine nl hKF ?_
  | refine sq ?_
  | refine rg fun KF hKF => ?_
  | refine cf rfl ?_
  | refine sk ?_
 refine WpO.do (WpX.conD hn rfl rfl (by simp only [↓nrmL, nrmZ, Nat.reduceEqDiff, ↓reduceIte, Nat.reduceAdd, Int.reduceBEq, Int.reduceBNe, List.map] <;> rfl) (K_New (w := a) (h := ((cu + cd + 1 : Nat) : Int))) fun v H6 h5 => ?_)
 cases hq : decide ((u : Int) + (d : Int) + 1 ≤ 640)
 ·have hsf : sideB ((cu + cd + 1 : Nat) : Int) = false := by
   have := of_decide_eq_false hq
   unfold sideB; rw [decide_eq_false (p := ((cu + cd + 1 : Nat) : Int) ≤ 640) (by omega), Bool.and_false]
  rw [hsa, hsf] at h5
  have e1 : rectS ⟨a, b, l⟩ ls u d = (.zero, 2) := by simp only [rectS, h0, hu0, hd0, cond_true, Bool.or_false, cond_false, hq]
  rw [e1] at hR
  subst hR
  obtain ⟨x, e1, q2, e2, hq2, hf2, hw2, hx2⟩ := h5
  subst e1 e2
  haveI : ExtI _ H6 := ⟨hx2⟩
  haveI := hq2.one
  try dsimp only [Bool.and_false, cond_false, Img.zero] at hq2
  simp only [Bool.and_false, cond_false, Img.zero]
  repeat first
   | refine mI ?_
   | refine mT ?_
   | (refine bn rfl rfl rfl (by simp only [↓nrmL, nrmZ, Nat.reduceEqDiff, ↓reduceIte, Nat.reduceAdd, Int.reduceBEq, Int.reduceBNe, Bool.and_false, cond_false, Img.zero]; rfl) ?_)
   | refine xt ?_
   | refine nw ?_
   | (refine ob (cs' := ?_) ?hc ?_; case hc => rfl)
   | (refine so rfl (rfl : _ = AVal.agg _) rfl rfl rfl (by simp only [↓nrmL, nrmZ, Nat.reduceEqDiff, ↓reduceIte, Nat.reduceAdd, Int.reduceBEq, Int.reduceBNe, Bool.and_false, cond_false, Img.zero]; rfl) ?_)
   | refine nl hKF ?_
   | refine sq ?_
   | refine rg fun KF hKF => ?_
   | refine ct rfl ?_
   | refine rt ?_
   | dsimp only [cond_true, cond_false]
  exact ⟨trivial, _, rfl, _, getAllC rfl rfl rfl rfl, _, rfl, newZero⟩
 have hud : u + d + 1 ≤ 640 := by have := of_decide_eq_true hq; omega
 have ecu : cu = u := by omega
 have ecd : cd = d := by omega
 subst ecu ecd
 obtain ⟨c, hc⟩ : ∃ c, cu + cd + 1 = c := ⟨_, rfl⟩
 have hsc : sideB ((c : Nat) : Int) = true := by unfold sideB; rw [decide_eq_true (by omega), decide_eq_true (by omega)]; rfl
 rw [hc, hsa, hsc] at h5
 have e0 : (cu : Int) + (cd : Int) + 1 = (c : Int) := by omega
 rw [e0] at hq
 have e1 : rectS ⟨a, b, l⟩ ls cu cd = (⟨a, c, rctL l a b m cu c⟩, 0) := by
  simp only [rectS, h0, hu0, hd0, cond_true, Bool.or_false, cond_false, hq, e0, Int.toNat_natCast, getDL_at h4l, hmdef]
 rw [e1] at hR
 subst hR
 obtain ⟨x, e1, sp, e2, hsp, hfsp, hwsp, hxsp⟩ := h5
 subst e1 e2
 simp only [Bool.and_self, cond_true, Int.toNat_natCast] at hsp
 haveI : ExtI _ H6 := ⟨hxsp⟩
 haveI := hsp.one
 have hmn : a * c ≤ 640 * 640 := Nat.mul_le_mul ha (by omega)
 simp only [Bool.and_self, cond_true, hc]
 repeat first
  | refine mI ?_
  | refine mT ?_
  | (refine Fo.ldN rfl rfl (by simp only [↓nrmL, nrmZ, Nat.reduceEqDiff, ↓reduceIte, Nat.reduceAdd, Int.reduceBEq, Int.reduceBNe, Bool.and_self, cond_true, hc]; rfl) ?_)
  | (refine bn rfl rfl rfl (by simp only [↓nrmL, nrmZ, Nat.reduceEqDiff, ↓reduceIte, Nat.reduceAdd, Int.reduceBEq, Int.reduceBNe, Bool.and_self, cond_true, hc]; rfl) ?_)
  | refine xt ?_
  | refine nw ?_
  | (refine so rfl (rfl : _ = AVal.agg _) rfl rfl rfl (by simp only [↓nrmL, nrmZ, Nat.reduceEqDiff, ↓reduceIte, Nat.reduceAdd, Int.reduceBEq, Int.reduceBNe, Bool.and_self, cond_true, hc]; rfl) ?_)
  | refine nl hKF ?_
  | refine sq ?_
  | refine rg fun KF hKF => ?_
  | refine cf rfl ?_
  | refine sk ?_
 refine WpO.do (WpX.conD hn rfl rfl (by simp only [↓nrmL, nrmZ, Nat.reduceEqDiff, ↓reduceIte, Nat.reduceAdd, Int.reduceBEq, Int.reduceBNe, List.map] <;> rfl) (K_commonF (q := q) (up := (cu : Int)) (w := a) (h := b) (w' := a) (h' := c) (p := p) (p' := sp)) fun v H7 h5 => ?_)
 obtain ⟨r6, r7, r5, r4, e2, k6, k7, k5, k4, hx7, g6, g7, g5, g4⟩ := h5
 subst e2
 haveI : ExtI _ H7 := ⟨hx7⟩
 have k11 : HasRow H7 H6.n [.int .i64 a, .int .i64 c, sp] true (2 * 24) := inferInstance
 have k4i : HasRow H7 H.n [.int .i64 a, .int .i64 b, p] true (2 * 24) := inferInstance
 have k8 : HasRow H7 (AHeap.n ((H.push (.row [.int .i64 a, .int .i64 b, p] true (2 * 24))).push (.row [q] true (2 * 43)))) [.int .i64 0, .int .i64 0, .nslice] true (2 * 24) := inferInstance
 have kp : BytesI H7 p l := inferInstance
 have ksp : BytesI H7 sp (List.replicate (a * c) 0) := inferInstance
 have wsp : WrS H7 sp := inferInstance
 have kps : SliceAt H7 q 1 ls.length ps := inferInstance
 have kq4 : IntsI H7 q4 m := inferInstance
 haveI := hfsp
 have n11 : RowNe sp H6.n := inferInstance
 have n4 : RowNe sp H.n := inferInstance
 have n8 : RowNe sp (AHeap.n ((H.push (.row [.int .i64 a, .int .i64 b, p] true (2 * 24))).push (.row [q] true (2 * 43)))) := inferInstance
 have s1 : SepS p sp := inferInstance
 have s2 : SepS q sp := inferInstance
 have s3 : SepS q4 sp := inferInstance
 have n6 : RowNe sp r6 := ⟨fun _ _ _ _ _ e h => by have := hsp.lt e; simp only [AHeap.push, AHeap.set] at g6; omega⟩
 have n7 : RowNe sp r7 := ⟨fun _ _ _ _ _ e h => by have := hsp.lt e; simp only [AHeap.push, AHeap.set] at g7; omega⟩
 have n5 : RowNe sp r5 := ⟨fun _ _ _ _ _ e h => by have := hsp.lt e; simp only [AHeap.push, AHeap.set] at g5; omega⟩
 have n4' : RowNe sp r4 := ⟨fun _ _ _ _ _ e h => by have := hsp.lt e; simp only [AHeap.push, AHeap.set] at g4; omega⟩
 have hx07 : Ext H H7 := Ext0.ext
 have fsp : FreshS H sp := hfsp.weak
 rw [hl5] at kps
 have hu640 : cu ≤ 640 := by omega
 have hc640 : c ≤ 640 := by omega
 have key : ∀ fr : AFrame, fr 11 = .ptr H6.n 0 → fr 4 = .ptr H.n 0 → ∃ v H3, callN ext prog n 105 [.yield (H7.n + 1), .ptr r6 0, .ptr r7 0, .ptr r5 0, .ptr r4 0] ((H7.push .dead).push (.loop (recR H7.n fr))) = some (v, H3) ∧ JS H7 (H7.n + 1) (recR H7.n fr) sp (mixP (rctP a m cu a (loN m cu a)) (rctF l a b m cu) (fun _ => 0) (a * c)) H3 := fun fr h11 h4 =>
  K_common (a := a) (b := b) (h := c) (up := cu) (m := m) (r := H7.n + 1) (p6 := q) (q4 := q4) (sp := sp) (ip := p) (ps := ps) (J := fun x y H => JS H7 (H7.n + 1) (recR H7.n fr) sp (mixP (rctP a m cu x y) (rctF l a b m cu) (fun _ => 0) (a * c)) H) (D := 1) ha hb hc640 hu640 hm hq4
   (fun x y H4 hJ => ⟨hJ.row k6 n6, hJ.slice kps s2, hJ.slice kq4 s3, hJ.row k7 n7, hJ.row k5 n5, hJ.row k4 n4'⟩)
   (fun x y H4 hx hl hy hJ => by rw [mixP_congr (Q := rctP a m cu x y) fun k hk => by rcases rctP_col (l := l) hx hy hl hk with h | h; exact Or.inl h.symm; exact Or.inr h]; exact hJ)
   (fun x y H4 hx hl hyb hy1 hy2 hJ k hk => by
    have hlt1 := idx_lt hx hyb
    have hlt2 : (y + cu - (m.getD x 0).toNat) * a + x < a * c := idx_lt hx (by omega)
    have hil : y * a + x < l.length := by omega
    obtain ⟨H', y1, hJ2⟩ := round_rect (i := y * a + x) (j := (y + cu - (m.getD x 0).toNat) * a + x) h11 h4 (hJ.row k11 n11) (hJ.row k4i n4) (hJ.slice kp s1) n11 n4 s1 (Nat.le_succ _) hJ hil (by rw [mixP_length]; exact hlt2) hk
    refine ⟨H', y1, ?_⟩
    have e : rctF l a b m cu ((y + cu - (m.getD x 0).toNat) * a + x) = l[y * a + x] := by
     obtain ⟨d1, d2⟩ := rct_at (y := y + cu - (m.getD x 0).toNat) hx
     rw [rctF, d1, d2, if_pos (by omega), show (m.getD x 0).toNat + (y + cu - (m.getD x 0).toNat) - cu = y by omega, List.getD_eq_getElem?_getD, List.getElem?_eq_getElem hil, Option.getD_some]
    rw [← e, mixP_set (Q := rctP a m cu x (y + 1)) fun k _ => rctP_next hx hy1 k] at hJ2
    exact hJ2)
   (by rw [← rct_start]; exact JS.start ksp wsp) n (by omega)
 have key2 : ∀ (fr : AFrame) (P : AVal → AHeap → RLoop → Prop), fr 11 = .ptr H6.n 0 → fr 4 = .ptr H.n 0 → (∀ v H3, JS H7 (H7.n + 1) (recR H7.n fr) sp (rctL l a b m cu c) H3 → P v H3 (recR H7.n fr)) →
   ∃ v H3 R, callN ext prog n 105 ([] ++ [.yield (H7.n + 1)] ++ [.ptr r6 0, .ptr r7 0, .ptr r5 0, .ptr r4 0]) ((H7.push .dead).push (.loop ⟨H7.n, 62, fr, [50, 51], recA, recB, 0, .normal⟩)) = some (v, H3) ∧ H3.get (H7.n + 1) = .loop R ∧ (Nat.beq R.st 1 || Nat.beq R.st 4) = false ∧ P v H3 R := fun fr P h11 h4 hP => by
  obtain ⟨v, H3, e3, hJ⟩ := key fr h11 h4
  rw [rct_end ha0] at hJ
  exact ⟨v, H3, recR H7.n fr, e3, hJ.loop.get, rfl, hP v H3 hJ⟩
 refine nl hKF ?_
 refine Wp.block ?_
 dsimp only [cond_true, cond_false]
 refine Wp.range (gf := 105) (fi := []) (ca := [.ptr r6 0, .ptr r7 0, .ptr r5 0, .ptr r4 0]) (vs := []) rfl rfl rfl ?_
 refine key2 _ _ rfl rfl fun v H3 hJ => ?_
 haveI := hJ.loop
 haveI := hJ.px
 haveI := hJ.wr
 haveI := px_ne hJ.px hJ.loop
 have hx03 := hJ.ext hx07 fsp
 have hH7n := hx07.n
 have hn3 := hJ.n
 haveI := hJ.row k11 n11
 haveI := hJ.row k8 n8
 haveI : NeR H6.n (H7.n + 1) := ⟨by have := k11.lt; omega⟩
 haveI : NeR (AHeap.n ((H.push (.row [.int .i64 a, .int .i64 b, p] true (2 * 24))).push (.row [q] true (2 * 43)))) (H7.n + 1) := ⟨by have := k8.lt; omega⟩
 haveI : NeR (H7.n + 1) (AHeap.n ((H.push (.row [.int .i64 a, .int .i64 b, p] true (2 * 24))).push (.row [q] true (2 * 43)))) := ⟨by have := k8.lt; omega⟩
 haveI : OneV sp := hJ.px.one
 refine sq ?_
 refine rg fun KF hKF => ?_
 refine Fo.ldN rfl rfl (by simp only [↓nrmL, nrmZ, Nat.reduceEqDiff, ↓reduceIte, Nat.reduceAdd, Int.reduceBEq, Int.reduceBNe]; rfl) ?_
 refine so rfl (rfl : _ = AVal.agg _) rfl rfl rfl (by simp only [↓nrmL, nrmZ, Nat.reduceEqDiff, ↓reduceIte, Nat.reduceAdd, Int.reduceBEq, Int.reduceBNe]; rfl) ?_
 refine mI ?_
 refine nl hKF ?_
 refine rt ?_
 dsimp only [cond_true, cond_false]
 refine ⟨trivial, _, takeMarks1 (d := H7.n) (l := H7.n + 1) inferInstance rfl rfl, _, getAllC rfl rfl rfl rfl, _, rfl, sp, rfl, (show BytesI _ sp (rctL l a b m cu c) from inferInstance), fsp, inferInstance, ?_⟩
 refine ⟨by have := hx03.n; simp only [AHeap.set]; exact this, fun s hs => ?_⟩
 have e8 : s ≠ AHeap.n ((H.push (.row [.int .i64 a, .int .i64 b, p] true (2 * 24))).push (.row [q] true (2 * 43))) := by simp only [AHeap.push]; omega
 rw [set_get_ne (by omega), set_get_ne e8, set_get_ne (by omega)]
 exact hx03.get s hs
end Go.Am
