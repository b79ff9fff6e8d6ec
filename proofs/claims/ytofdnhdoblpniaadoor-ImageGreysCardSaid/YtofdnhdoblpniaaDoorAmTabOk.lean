/- The table of functions is right. -/
import Derived.Test.YtofdnhdoblpniaaDoorAmTabT
import Derived.Test.YtofdnhdoblpniaaDoorAmExtSim
import Derived.Test.YtofdnhdoblpniaaDoorProg
set_option linter.unusedSimpArgs false
set_option linter.unusedVariables false
set_option maxRecDepth 100000
set_option maxHeartbeats 4000000
namespace Go.Am
open Go Go.Proofs
theorem ext_of {P : Program} {e e' : Exts} {f : FuncId} {k : Nat} (h : ExtSim P e f k) (hk : e' k = e k) : ExtSim P e' f k := fun S args H v H' m w vargs hG hx => h S args H v H' m w vargs hG (by rw [← hk]; exact hx)
theorem k5 : cFunc Tryd.prog Tryd.f5 = some c5 := by kernel_rfl
theorem k15 : cFunc Tryd.prog Tryd.f15 = some c15 := by kernel_rfl
theorem k23 : cFunc Tryd.prog Tryd.f23 = some c23 := by kernel_rfl
theorem k25 : cFunc Tryd.prog Tryd.f25 = some c25 := by kernel_rfl
theorem k26 : cFunc Tryd.prog Tryd.f26 = some c26 := by kernel_rfl
theorem k28 : cFunc Tryd.prog Tryd.f28 = some c28 := by kernel_rfl
theorem k34 : cFunc Tryd.prog Tryd.f34 = some c34 := by kernel_rfl
theorem k35 : cFunc Tryd.prog Tryd.f35 = some c35 := by kernel_rfl
theorem k36 : cFunc Tryd.prog Tryd.f36 = some c36 := by kernel_rfl
theorem k37 : cFunc Tryd.prog Tryd.f37 = some c37 := by kernel_rfl
theorem k38 : cFunc Tryd.prog Tryd.f38 = some c38 := by kernel_rfl
theorem k39 : cFunc Tryd.prog Tryd.f39 = some c39 := by kernel_rfl
theorem k40 : cFunc Tryd.prog Tryd.f40 = some c40 := by kernel_rfl
theorem k41 : cFunc Tryd.prog Tryd.f41 = some c41 := by kernel_rfl
theorem k56 : cFunc Tryd.prog Tryd.f56 = some c56 := by kernel_rfl
theorem k66 : cFunc Tryd.prog Tryd.f66 = some c66 := by kernel_rfl
theorem k68 : cFunc Tryd.prog Tryd.f68 = some c68 := by kernel_rfl
theorem k73 : cFunc Tryd.prog Tryd.f73 = some c73 := by kernel_rfl
theorem k87 : cFunc Tryd.prog Tryd.f87 = some c87 := by kernel_rfl
theorem k88 : cFunc Tryd.prog Tryd.f88 = some c88 := by kernel_rfl
theorem k89 : cFunc Tryd.prog Tryd.f89 = some c89 := by kernel_rfl
theorem k90 : cFunc Tryd.prog Tryd.f90 = some c90 := by kernel_rfl
theorem k91 : cFunc Tryd.prog Tryd.f91 = some c91 := by kernel_rfl
theorem k95 : cFunc Tryd.prog Tryd.f95 = some c95 := by kernel_rfl
theorem k96 : cFunc Tryd.prog Tryd.f96 = some c96 := by kernel_rfl
theorem k97 : cFunc Tryd.prog Tryd.f97 = some c97 := by kernel_rfl
theorem k98 : cFunc Tryd.prog Tryd.f98 = some c98 := by kernel_rfl
theorem k99 : cFunc Tryd.prog Tryd.f99 = some c99 := by kernel_rfl
theorem k100 : cFunc Tryd.prog Tryd.f100 = some c100 := by kernel_rfl
theorem k101 : cFunc Tryd.prog Tryd.f101 = some c101 := by kernel_rfl
theorem k102 : cFunc Tryd.prog Tryd.f102 = some c102 := by kernel_rfl
theorem k111 : cFunc Tryd.prog Tryd.f111 = some c111 := by kernel_rfl
theorem k114 : cFunc Tryd.prog Tryd.f114 = some c114 := by kernel_rfl
theorem k115 : cFunc Tryd.prog Tryd.f115 = some c115 := by kernel_rfl
theorem k119 : cFunc Tryd.prog Tryd.f119 = some c119 := by kernel_rfl
theorem k120 : cFunc Tryd.prog Tryd.f120 = some c120 := by kernel_rfl
theorem k121 : cFunc Tryd.prog Tryd.f121 = some c121 := by kernel_rfl
theorem k122 : cFunc Tryd.prog Tryd.f122 = some c122 := by kernel_rfl
theorem k123 : cFunc Tryd.prog Tryd.f123 = some c123 := by kernel_rfl
theorem k125 : cFunc Tryd.prog Tryd.f125 = some c125 := by kernel_rfl
theorem k126 : cFunc Tryd.prog Tryd.f126 = some c126 := by kernel_rfl
theorem k127 : cFunc Tryd.prog Tryd.f127 = some c127 := by kernel_rfl
theorem k128 : cFunc Tryd.prog Tryd.f128 = some c128 := by kernel_rfl
theorem k135 : cFunc Tryd.prog Tryd.f135 = some c135 := by kernel_rfl
theorem k136 : cFunc Tryd.prog Tryd.f136 = some c136 := by kernel_rfl
theorem k144 : cFunc Tryd.prog Tryd.f144 = some c144 := by kernel_rfl
theorem k145 : ExtSim Tryd.prog ext 145 0 := ext_count rfl Tryd.func145 (by kernel_rfl) (by kernel_rfl) (by kernel_rfl) (by kernel_rfl)
theorem k146 : cFunc Tryd.prog Tryd.f146 = some c146 := by kernel_rfl
theorem k151 : cFunc Tryd.prog Tryd.f151 = some c151 := by kernel_rfl
theorem k153 : ExtSim Tryd.prog ext 153 1 := ext_indexByte rfl Tryd.func153 (by kernel_rfl) (by kernel_rfl) (by kernel_rfl) (by kernel_rfl)
theorem k154 : cFunc Tryd.prog Tryd.f154 = some c154 := by kernel_rfl
theorem k155 : cFunc Tryd.prog Tryd.f155 = some c155 := by kernel_rfl
theorem k156 : cFunc Tryd.prog Tryd.f156 = some c156 := by kernel_rfl
theorem k161 : cFunc Tryd.prog Tryd.f161 = some c161 := by kernel_rfl
theorem k162 : cFunc Tryd.prog Tryd.f162 = some c162 := by kernel_rfl
theorem k164 : cFunc Tryd.prog Tryd.f164 = some c164 := by kernel_rfl
theorem k165 : cFunc Tryd.prog Tryd.f165 = some c165 := by kernel_rfl
theorem k166 : ExtSim Tryd.prog ext 166 2 := ext_self rfl Tryd.func166 (by kernel_rfl) (by kernel_rfl) (by kernel_rfl) (by kernel_rfl)
theorem k167 : cFunc Tryd.prog Tryd.f167 = some c167 := by kernel_rfl
theorem k170 : cFunc Tryd.prog Tryd.f170 = some c170 := by kernel_rfl
theorem k171 : cFunc Tryd.prog Tryd.f171 = some c171 := by kernel_rfl
theorem k172 : cFunc Tryd.prog Tryd.f172 = some c172 := by kernel_rfl
theorem k173 : cFunc Tryd.prog Tryd.f173 = some c173 := by kernel_rfl
theorem k174 : cFunc Tryd.prog Tryd.f174 = some c174 := by kernel_rfl
theorem k178 : cFunc Tryd.prog Tryd.f178 = some c178 := by kernel_rfl
theorem k179 : cFunc Tryd.prog Tryd.f179 = some c179 := by kernel_rfl
theorem k180 : cFunc Tryd.prog Tryd.f180 = some c180 := by kernel_rfl
theorem k181 : cFunc Tryd.prog Tryd.f181 = some c181 := by kernel_rfl
theorem k182 : cFunc Tryd.prog Tryd.f182 = some c182 := by kernel_rfl
theorem k184 : cFunc Tryd.prog Tryd.f184 = some c184 := by kernel_rfl
theorem k185 : cFunc Tryd.prog Tryd.f185 = some c185 := by kernel_rfl
theorem cond_some {α : Type} {b : Bool} {x y : Option α} {v : α} (h : cond b x y = some v) : (b = true ∧ x = some v) ∨ (b = false ∧ y = some v) := by cases b <;> simp_all
theorem progOk0 : ProgOk Tryd.prog ext prog0 := by
  intro f rf h
  unfold prog0 at h
  rcases cond_some h with ⟨_, h⟩ | ⟨_, h⟩
  · skip
    rcases cond_some h with ⟨_, h⟩ | ⟨_, h⟩
    · skip
      rcases cond_some h with ⟨_, h⟩ | ⟨_, h⟩
      · skip
        rcases cond_some h with ⟨_, h⟩ | ⟨_, h⟩
        · skip
          rcases cond_some h with ⟨_, h⟩ | ⟨_, h⟩
          · skip
            rcases cond_some h with ⟨hb, h⟩ | ⟨_, h⟩
            · obtain rfl := Nat.eq_of_beq_eq_true hb; cases h; exact Or.inl ⟨Tryd.f15, _, Tryd.func15, rfl, k15⟩
            · cases h
          · skip
            rcases cond_some h with ⟨_, h⟩ | ⟨_, h⟩
            · skip
              rcases cond_some h with ⟨hb, h⟩ | ⟨_, h⟩
              · obtain rfl := Nat.eq_of_beq_eq_true hb; cases h; exact Or.inl ⟨Tryd.f23, _, Tryd.func23, rfl, k23⟩
              · cases h
            · skip
              rcases cond_some h with ⟨hb, h⟩ | ⟨_, h⟩
              · obtain rfl := Nat.eq_of_beq_eq_true hb; cases h; exact Or.inl ⟨Tryd.f28, _, Tryd.func28, rfl, k28⟩
              · cases h
        · skip
          rcases cond_some h with ⟨_, h⟩ | ⟨_, h⟩
          · skip
            rcases cond_some h with ⟨_, h⟩ | ⟨_, h⟩
            · skip
              rcases cond_some h with ⟨hb, h⟩ | ⟨_, h⟩
              · obtain rfl := Nat.eq_of_beq_eq_true hb; cases h; exact Or.inl ⟨Tryd.f56, _, Tryd.func56, rfl, k56⟩
              · cases h
            · skip
              rcases cond_some h with ⟨hb, h⟩ | ⟨_, h⟩
              · obtain rfl := Nat.eq_of_beq_eq_true hb; cases h; exact Or.inl ⟨Tryd.f66, _, Tryd.func66, rfl, k66⟩
              · cases h
          · skip
            rcases cond_some h with ⟨_, h⟩ | ⟨_, h⟩
            · skip
              rcases cond_some h with ⟨hb, h⟩ | ⟨_, h⟩
              · obtain rfl := Nat.eq_of_beq_eq_true hb; cases h; exact Or.inl ⟨Tryd.f68, _, Tryd.func68, rfl, k68⟩
              · cases h
            · skip
              rcases cond_some h with ⟨hb, h⟩ | ⟨_, h⟩
              · obtain rfl := Nat.eq_of_beq_eq_true hb; cases h; exact Or.inl ⟨Tryd.f73, _, Tryd.func73, rfl, k73⟩
              · cases h
      · skip
        rcases cond_some h with ⟨_, h⟩ | ⟨_, h⟩
        · skip
          rcases cond_some h with ⟨_, h⟩ | ⟨_, h⟩
          · skip
            rcases cond_some h with ⟨hb, h⟩ | ⟨_, h⟩
            · obtain rfl := Nat.eq_of_beq_eq_true hb; cases h; exact Or.inl ⟨Tryd.f87, _, Tryd.func87, rfl, k87⟩
            · cases h
          · skip
            rcases cond_some h with ⟨_, h⟩ | ⟨_, h⟩
            · skip
              rcases cond_some h with ⟨hb, h⟩ | ⟨_, h⟩
              · obtain rfl := Nat.eq_of_beq_eq_true hb; cases h; exact Or.inl ⟨Tryd.f90, _, Tryd.func90, rfl, k90⟩
              · cases h
            · skip
              rcases cond_some h with ⟨hb, h⟩ | ⟨_, h⟩
              · obtain rfl := Nat.eq_of_beq_eq_true hb; cases h; exact Or.inl ⟨Tryd.f91, _, Tryd.func91, rfl, k91⟩
              · cases h
        · skip
          rcases cond_some h with ⟨_, h⟩ | ⟨_, h⟩
          · skip
            rcases cond_some h with ⟨_, h⟩ | ⟨_, h⟩
            · skip
              rcases cond_some h with ⟨hb, h⟩ | ⟨_, h⟩
              · obtain rfl := Nat.eq_of_beq_eq_true hb; cases h; exact Or.inl ⟨Tryd.f95, _, Tryd.func95, rfl, k95⟩
              · cases h
            · skip
              rcases cond_some h with ⟨hb, h⟩ | ⟨_, h⟩
              · obtain rfl := Nat.eq_of_beq_eq_true hb; cases h; exact Or.inl ⟨Tryd.f96, _, Tryd.func96, rfl, k96⟩
              · cases h
          · skip
            rcases cond_some h with ⟨_, h⟩ | ⟨_, h⟩
            · skip
              rcases cond_some h with ⟨hb, h⟩ | ⟨_, h⟩
              · obtain rfl := Nat.eq_of_beq_eq_true hb; cases h; exact Or.inl ⟨Tryd.f99, _, Tryd.func99, rfl, k99⟩
              · cases h
            · skip
              rcases cond_some h with ⟨hb, h⟩ | ⟨_, h⟩
              · obtain rfl := Nat.eq_of_beq_eq_true hb; cases h; exact Or.inl ⟨Tryd.f100, _, Tryd.func100, rfl, k100⟩
              · cases h
    · skip
      rcases cond_some h with ⟨_, h⟩ | ⟨_, h⟩
      · skip
        rcases cond_some h with ⟨_, h⟩ | ⟨_, h⟩
        · skip
          rcases cond_some h with ⟨_, h⟩ | ⟨_, h⟩
          · skip
            rcases cond_some h with ⟨hb, h⟩ | ⟨_, h⟩
            · obtain rfl := Nat.eq_of_beq_eq_true hb; cases h; exact Or.inl ⟨Tryd.f101, _, Tryd.func101, rfl, k101⟩
            · cases h
          · skip
            rcases cond_some h with ⟨_, h⟩ | ⟨_, h⟩
            · skip
              rcases cond_some h with ⟨hb, h⟩ | ⟨_, h⟩
              · obtain rfl := Nat.eq_of_beq_eq_true hb; cases h; exact Or.inl ⟨Tryd.f102, _, Tryd.func102, rfl, k102⟩
              · cases h
            · skip
              rcases cond_some h with ⟨hb, h⟩ | ⟨_, h⟩
              · obtain rfl := Nat.eq_of_beq_eq_true hb; cases h; exact Or.inl ⟨Tryd.f111, _, Tryd.func111, rfl, k111⟩
              · cases h
        · skip
          rcases cond_some h with ⟨_, h⟩ | ⟨_, h⟩
          · skip
            rcases cond_some h with ⟨_, h⟩ | ⟨_, h⟩
            · skip
              rcases cond_some h with ⟨hb, h⟩ | ⟨_, h⟩
              · obtain rfl := Nat.eq_of_beq_eq_true hb; cases h; exact Or.inl ⟨Tryd.f114, _, Tryd.func114, rfl, k114⟩
              · cases h
            · skip
              rcases cond_some h with ⟨hb, h⟩ | ⟨_, h⟩
              · obtain rfl := Nat.eq_of_beq_eq_true hb; cases h; exact Or.inl ⟨Tryd.f115, _, Tryd.func115, rfl, k115⟩
              · cases h
          · skip
            rcases cond_some h with ⟨_, h⟩ | ⟨_, h⟩
            · skip
              rcases cond_some h with ⟨hb, h⟩ | ⟨_, h⟩
              · obtain rfl := Nat.eq_of_beq_eq_true hb; cases h; exact Or.inl ⟨Tryd.f119, _, Tryd.func119, rfl, k119⟩
              · cases h
            · skip
              rcases cond_some h with ⟨hb, h⟩ | ⟨_, h⟩
              · obtain rfl := Nat.eq_of_beq_eq_true hb; cases h; exact Or.inl ⟨Tryd.f120, _, Tryd.func120, rfl, k120⟩
              · cases h
      · skip
        rcases cond_some h with ⟨_, h⟩ | ⟨_, h⟩
        · skip
          rcases cond_some h with ⟨_, h⟩ | ⟨_, h⟩
          · skip
            rcases cond_some h with ⟨hb, h⟩ | ⟨_, h⟩
            · obtain rfl := Nat.eq_of_beq_eq_true hb; cases h; exact Or.inl ⟨Tryd.f121, _, Tryd.func121, rfl, k121⟩
            · cases h
          · skip
            rcases cond_some h with ⟨_, h⟩ | ⟨_, h⟩
            · skip
              rcases cond_some h with ⟨hb, h⟩ | ⟨_, h⟩
              · obtain rfl := Nat.eq_of_beq_eq_true hb; cases h; exact Or.inl ⟨Tryd.f122, _, Tryd.func122, rfl, k122⟩
              · cases h
            · skip
              rcases cond_some h with ⟨hb, h⟩ | ⟨_, h⟩
              · obtain rfl := Nat.eq_of_beq_eq_true hb; cases h; exact Or.inl ⟨Tryd.f123, _, Tryd.func123, rfl, k123⟩
              · cases h
        · skip
          rcases cond_some h with ⟨_, h⟩ | ⟨_, h⟩
          · skip
            rcases cond_some h with ⟨_, h⟩ | ⟨_, h⟩
            · skip
              rcases cond_some h with ⟨hb, h⟩ | ⟨_, h⟩
              · obtain rfl := Nat.eq_of_beq_eq_true hb; cases h; exact Or.inl ⟨Tryd.f125, _, Tryd.func125, rfl, k125⟩
              · cases h
            · skip
              rcases cond_some h with ⟨hb, h⟩ | ⟨_, h⟩
              · obtain rfl := Nat.eq_of_beq_eq_true hb; cases h; exact Or.inl ⟨Tryd.f126, _, Tryd.func126, rfl, k126⟩
              · cases h
          · skip
            rcases cond_some h with ⟨_, h⟩ | ⟨_, h⟩
            · skip
              rcases cond_some h with ⟨hb, h⟩ | ⟨_, h⟩
              · obtain rfl := Nat.eq_of_beq_eq_true hb; cases h; exact Or.inl ⟨Tryd.f127, _, Tryd.func127, rfl, k127⟩
              · cases h
            · skip
              rcases cond_some h with ⟨hb, h⟩ | ⟨_, h⟩
              · obtain rfl := Nat.eq_of_beq_eq_true hb; cases h; exact Or.inl ⟨Tryd.f128, _, Tryd.func128, rfl, k128⟩
              · cases h
  · skip
    rcases cond_some h with ⟨_, h⟩ | ⟨_, h⟩
    · skip
      rcases cond_some h with ⟨_, h⟩ | ⟨_, h⟩
      · skip
        rcases cond_some h with ⟨_, h⟩ | ⟨_, h⟩
        · skip
          rcases cond_some h with ⟨_, h⟩ | ⟨_, h⟩
          · skip
            rcases cond_some h with ⟨hb, h⟩ | ⟨_, h⟩
            · obtain rfl := Nat.eq_of_beq_eq_true hb; cases h; exact Or.inl ⟨Tryd.f135, _, Tryd.func135, rfl, k135⟩
            · cases h
          · skip
            rcases cond_some h with ⟨_, h⟩ | ⟨_, h⟩
            · skip
              rcases cond_some h with ⟨hb, h⟩ | ⟨_, h⟩
              · obtain rfl := Nat.eq_of_beq_eq_true hb; cases h; exact Or.inl ⟨Tryd.f136, _, Tryd.func136, rfl, k136⟩
              · cases h
            · skip
              rcases cond_some h with ⟨hb, h⟩ | ⟨_, h⟩
              · obtain rfl := Nat.eq_of_beq_eq_true hb; cases h; exact Or.inl ⟨Tryd.f144, _, Tryd.func144, rfl, k144⟩
              · cases h
        · skip
          rcases cond_some h with ⟨_, h⟩ | ⟨_, h⟩
          · skip
            rcases cond_some h with ⟨_, h⟩ | ⟨_, h⟩
            · skip
              rcases cond_some h with ⟨hb, h⟩ | ⟨_, h⟩
              · obtain rfl := Nat.eq_of_beq_eq_true hb; cases h; exact Or.inr ⟨0, rfl, k145⟩
              · cases h
            · skip
              rcases cond_some h with ⟨hb, h⟩ | ⟨_, h⟩
              · obtain rfl := Nat.eq_of_beq_eq_true hb; cases h; exact Or.inl ⟨Tryd.f146, _, Tryd.func146, rfl, k146⟩
              · cases h
          · skip
            rcases cond_some h with ⟨_, h⟩ | ⟨_, h⟩
            · skip
              rcases cond_some h with ⟨hb, h⟩ | ⟨_, h⟩
              · obtain rfl := Nat.eq_of_beq_eq_true hb; cases h; exact Or.inl ⟨Tryd.f151, _, Tryd.func151, rfl, k151⟩
              · cases h
            · skip
              rcases cond_some h with ⟨hb, h⟩ | ⟨_, h⟩
              · obtain rfl := Nat.eq_of_beq_eq_true hb; cases h; exact Or.inr ⟨1, rfl, k153⟩
              · cases h
      · skip
        rcases cond_some h with ⟨_, h⟩ | ⟨_, h⟩
        · skip
          rcases cond_some h with ⟨_, h⟩ | ⟨_, h⟩
          · skip
            rcases cond_some h with ⟨hb, h⟩ | ⟨_, h⟩
            · obtain rfl := Nat.eq_of_beq_eq_true hb; cases h; exact Or.inl ⟨Tryd.f154, _, Tryd.func154, rfl, k154⟩
            · cases h
          · skip
            rcases cond_some h with ⟨_, h⟩ | ⟨_, h⟩
            · skip
              rcases cond_some h with ⟨hb, h⟩ | ⟨_, h⟩
              · obtain rfl := Nat.eq_of_beq_eq_true hb; cases h; exact Or.inl ⟨Tryd.f155, _, Tryd.func155, rfl, k155⟩
              · cases h
            · skip
              rcases cond_some h with ⟨hb, h⟩ | ⟨_, h⟩
              · obtain rfl := Nat.eq_of_beq_eq_true hb; cases h; exact Or.inl ⟨Tryd.f156, _, Tryd.func156, rfl, k156⟩
              · cases h
        · skip
          rcases cond_some h with ⟨_, h⟩ | ⟨_, h⟩
          · skip
            rcases cond_some h with ⟨_, h⟩ | ⟨_, h⟩
            · skip
              rcases cond_some h with ⟨hb, h⟩ | ⟨_, h⟩
              · obtain rfl := Nat.eq_of_beq_eq_true hb; cases h; exact Or.inl ⟨Tryd.f161, _, Tryd.func161, rfl, k161⟩
              · cases h
            · skip
              rcases cond_some h with ⟨hb, h⟩ | ⟨_, h⟩
              · obtain rfl := Nat.eq_of_beq_eq_true hb; cases h; exact Or.inl ⟨Tryd.f162, _, Tryd.func162, rfl, k162⟩
              · cases h
          · skip
            rcases cond_some h with ⟨_, h⟩ | ⟨_, h⟩
            · skip
              rcases cond_some h with ⟨hb, h⟩ | ⟨_, h⟩
              · obtain rfl := Nat.eq_of_beq_eq_true hb; cases h; exact Or.inl ⟨Tryd.f164, _, Tryd.func164, rfl, k164⟩
              · cases h
            · skip
              rcases cond_some h with ⟨hb, h⟩ | ⟨_, h⟩
              · obtain rfl := Nat.eq_of_beq_eq_true hb; cases h; exact Or.inl ⟨Tryd.f165, _, Tryd.func165, rfl, k165⟩
              · cases h
    · skip
      rcases cond_some h with ⟨_, h⟩ | ⟨_, h⟩
      · skip
        rcases cond_some h with ⟨_, h⟩ | ⟨_, h⟩
        · skip
          rcases cond_some h with ⟨_, h⟩ | ⟨_, h⟩
          · skip
            rcases cond_some h with ⟨hb, h⟩ | ⟨_, h⟩
            · obtain rfl := Nat.eq_of_beq_eq_true hb; cases h; exact Or.inr ⟨2, rfl, k166⟩
            · cases h
          · skip
            rcases cond_some h with ⟨_, h⟩ | ⟨_, h⟩
            · skip
              rcases cond_some h with ⟨hb, h⟩ | ⟨_, h⟩
              · obtain rfl := Nat.eq_of_beq_eq_true hb; cases h; exact Or.inl ⟨Tryd.f167, _, Tryd.func167, rfl, k167⟩
              · cases h
            · skip
              rcases cond_some h with ⟨hb, h⟩ | ⟨_, h⟩
              · obtain rfl := Nat.eq_of_beq_eq_true hb; cases h; exact Or.inl ⟨Tryd.f170, _, Tryd.func170, rfl, k170⟩
              · cases h
        · skip
          rcases cond_some h with ⟨_, h⟩ | ⟨_, h⟩
          · skip
            rcases cond_some h with ⟨_, h⟩ | ⟨_, h⟩
            · skip
              rcases cond_some h with ⟨hb, h⟩ | ⟨_, h⟩
              · obtain rfl := Nat.eq_of_beq_eq_true hb; cases h; exact Or.inl ⟨Tryd.f171, _, Tryd.func171, rfl, k171⟩
              · cases h
            · skip
              rcases cond_some h with ⟨hb, h⟩ | ⟨_, h⟩
              · obtain rfl := Nat.eq_of_beq_eq_true hb; cases h; exact Or.inl ⟨Tryd.f172, _, Tryd.func172, rfl, k172⟩
              · cases h
          · skip
            rcases cond_some h with ⟨_, h⟩ | ⟨_, h⟩
            · skip
              rcases cond_some h with ⟨hb, h⟩ | ⟨_, h⟩
              · obtain rfl := Nat.eq_of_beq_eq_true hb; cases h; exact Or.inl ⟨Tryd.f173, _, Tryd.func173, rfl, k173⟩
              · cases h
            · skip
              rcases cond_some h with ⟨hb, h⟩ | ⟨_, h⟩
              · obtain rfl := Nat.eq_of_beq_eq_true hb; cases h; exact Or.inl ⟨Tryd.f174, _, Tryd.func174, rfl, k174⟩
              · cases h
      · skip
        rcases cond_some h with ⟨_, h⟩ | ⟨_, h⟩
        · skip
          rcases cond_some h with ⟨_, h⟩ | ⟨_, h⟩
          · skip
            rcases cond_some h with ⟨hb, h⟩ | ⟨_, h⟩
            · obtain rfl := Nat.eq_of_beq_eq_true hb; cases h; exact Or.inl ⟨Tryd.f178, _, Tryd.func178, rfl, k178⟩
            · cases h
          · skip
            rcases cond_some h with ⟨_, h⟩ | ⟨_, h⟩
            · skip
              rcases cond_some h with ⟨hb, h⟩ | ⟨_, h⟩
              · obtain rfl := Nat.eq_of_beq_eq_true hb; cases h; exact Or.inl ⟨Tryd.f179, _, Tryd.func179, rfl, k179⟩
              · cases h
            · skip
              rcases cond_some h with ⟨hb, h⟩ | ⟨_, h⟩
              · obtain rfl := Nat.eq_of_beq_eq_true hb; cases h; exact Or.inl ⟨Tryd.f180, _, Tryd.func180, rfl, k180⟩
              · cases h
        · skip
          rcases cond_some h with ⟨_, h⟩ | ⟨_, h⟩
          · skip
            rcases cond_some h with ⟨_, h⟩ | ⟨_, h⟩
            · skip
              rcases cond_some h with ⟨hb, h⟩ | ⟨_, h⟩
              · obtain rfl := Nat.eq_of_beq_eq_true hb; cases h; exact Or.inl ⟨Tryd.f181, _, Tryd.func181, rfl, k181⟩
              · cases h
            · skip
              rcases cond_some h with ⟨hb, h⟩ | ⟨_, h⟩
              · obtain rfl := Nat.eq_of_beq_eq_true hb; cases h; exact Or.inl ⟨Tryd.f182, _, Tryd.func182, rfl, k182⟩
              · cases h
          · skip
            rcases cond_some h with ⟨_, h⟩ | ⟨_, h⟩
            · skip
              rcases cond_some h with ⟨hb, h⟩ | ⟨_, h⟩
              · obtain rfl := Nat.eq_of_beq_eq_true hb; cases h; exact Or.inl ⟨Tryd.f184, _, Tryd.func184, rfl, k184⟩
              · cases h
            · skip
              rcases cond_some h with ⟨hb, h⟩ | ⟨_, h⟩
              · obtain rfl := Nat.eq_of_beq_eq_true hb; cases h; exact Or.inl ⟨Tryd.f185, _, Tryd.func185, rfl, k185⟩
              · cases h
def isTrue : Option (AVal × AHeap) → Bool | some (.bool true, _) => true | _ => false
theorem isTrue_some {r : Option (AVal × AHeap)} (h : isTrue r = true) : ∃ H', r = some (.bool true, H') := by
  cases r with
  | none => cases h
  | some p =>
    obtain ⟨v, H'⟩ := p
    cases v with
    | bool b => cases b with
      | true => exact ⟨H', rfl⟩
      | false => cases h
    | _ => cases h
/-- The examples of the chapter hold. -/
theorem awake_true : isTrue (callN ext prog0 300 15 [] (tableHeap Tryd.prog.globals.size aroundT)) = true := by kernel_rfl
theorem mixed : Tryd.prog.follows .mixedOrders = true := by kernel_rfl
theorem k15e : ExtSim Tryd.prog ext 15 3 := ext_closed mixed progOk0 (T := aroundT) Tryd.func15 rfl (by decide +kernel) (v := .bool true) rfl (by kernel_rfl) (isTrue_some awake_true) rfl
theorem progOk : ProgOk Tryd.prog ext prog := by
  intro f rf h
  unfold prog at h
  rcases cond_some h with ⟨_, h⟩ | ⟨_, h⟩
  · skip
    rcases cond_some h with ⟨_, h⟩ | ⟨_, h⟩
    · skip
      rcases cond_some h with ⟨_, h⟩ | ⟨_, h⟩
      · skip
        rcases cond_some h with ⟨_, h⟩ | ⟨_, h⟩
        · skip
          rcases cond_some h with ⟨hb, h⟩ | ⟨_, h⟩
          · obtain rfl := Nat.eq_of_beq_eq_true hb; cases h; exact Or.inl ⟨Tryd.f5, _, Tryd.func5, rfl, k5⟩
          · cases h
        · skip
          rcases cond_some h with ⟨hb, h⟩ | ⟨_, h⟩
          · obtain rfl := Nat.eq_of_beq_eq_true hb; cases h; exact Or.inr ⟨3, rfl, k15e⟩
          · cases h
      · skip
        rcases cond_some h with ⟨_, h⟩ | ⟨_, h⟩
        · skip
          rcases cond_some h with ⟨hb, h⟩ | ⟨_, h⟩
          · obtain rfl := Nat.eq_of_beq_eq_true hb; cases h; exact Or.inl ⟨Tryd.f25, _, Tryd.func25, rfl, k25⟩
          · cases h
        · skip
          rcases cond_some h with ⟨_, h⟩ | ⟨_, h⟩
          · skip
            rcases cond_some h with ⟨hb, h⟩ | ⟨_, h⟩
            · obtain rfl := Nat.eq_of_beq_eq_true hb; cases h; exact Or.inl ⟨Tryd.f26, _, Tryd.func26, rfl, k26⟩
            · cases h
          · skip
            rcases cond_some h with ⟨hb, h⟩ | ⟨_, h⟩
            · obtain rfl := Nat.eq_of_beq_eq_true hb; cases h; exact Or.inl ⟨Tryd.f28, _, Tryd.func28, rfl, k28⟩
            · cases h
    · skip
      rcases cond_some h with ⟨_, h⟩ | ⟨_, h⟩
      · skip
        rcases cond_some h with ⟨_, h⟩ | ⟨_, h⟩
        · skip
          rcases cond_some h with ⟨hb, h⟩ | ⟨_, h⟩
          · obtain rfl := Nat.eq_of_beq_eq_true hb; cases h; exact Or.inl ⟨Tryd.f34, _, Tryd.func34, rfl, k34⟩
          · cases h
        · skip
          rcases cond_some h with ⟨hb, h⟩ | ⟨_, h⟩
          · obtain rfl := Nat.eq_of_beq_eq_true hb; cases h; exact Or.inl ⟨Tryd.f35, _, Tryd.func35, rfl, k35⟩
          · cases h
      · skip
        rcases cond_some h with ⟨_, h⟩ | ⟨_, h⟩
        · skip
          rcases cond_some h with ⟨hb, h⟩ | ⟨_, h⟩
          · obtain rfl := Nat.eq_of_beq_eq_true hb; cases h; exact Or.inl ⟨Tryd.f36, _, Tryd.func36, rfl, k36⟩
          · cases h
        · skip
          rcases cond_some h with ⟨_, h⟩ | ⟨_, h⟩
          · skip
            rcases cond_some h with ⟨hb, h⟩ | ⟨_, h⟩
            · obtain rfl := Nat.eq_of_beq_eq_true hb; cases h; exact Or.inl ⟨Tryd.f37, _, Tryd.func37, rfl, k37⟩
            · cases h
          · skip
            rcases cond_some h with ⟨hb, h⟩ | ⟨_, h⟩
            · obtain rfl := Nat.eq_of_beq_eq_true hb; cases h; exact Or.inl ⟨Tryd.f38, _, Tryd.func38, rfl, k38⟩
            · cases h
  · skip
    rcases cond_some h with ⟨_, h⟩ | ⟨_, h⟩
    · skip
      rcases cond_some h with ⟨_, h⟩ | ⟨_, h⟩
      · skip
        rcases cond_some h with ⟨_, h⟩ | ⟨_, h⟩
        · skip
          rcases cond_some h with ⟨hb, h⟩ | ⟨_, h⟩
          · obtain rfl := Nat.eq_of_beq_eq_true hb; cases h; exact Or.inl ⟨Tryd.f39, _, Tryd.func39, rfl, k39⟩
          · cases h
        · skip
          rcases cond_some h with ⟨hb, h⟩ | ⟨_, h⟩
          · obtain rfl := Nat.eq_of_beq_eq_true hb; cases h; exact Or.inl ⟨Tryd.f40, _, Tryd.func40, rfl, k40⟩
          · cases h
      · skip
        rcases cond_some h with ⟨_, h⟩ | ⟨_, h⟩
        · skip
          rcases cond_some h with ⟨hb, h⟩ | ⟨_, h⟩
          · obtain rfl := Nat.eq_of_beq_eq_true hb; cases h; exact Or.inl ⟨Tryd.f41, _, Tryd.func41, rfl, k41⟩
          · cases h
        · skip
          rcases cond_some h with ⟨_, h⟩ | ⟨_, h⟩
          · skip
            rcases cond_some h with ⟨hb, h⟩ | ⟨_, h⟩
            · obtain rfl := Nat.eq_of_beq_eq_true hb; cases h; exact Or.inl ⟨Tryd.f88, _, Tryd.func88, rfl, k88⟩
            · cases h
          · skip
            rcases cond_some h with ⟨hb, h⟩ | ⟨_, h⟩
            · obtain rfl := Nat.eq_of_beq_eq_true hb; cases h; exact Or.inl ⟨Tryd.f89, _, Tryd.func89, rfl, k89⟩
            · cases h
    · skip
      rcases cond_some h with ⟨_, h⟩ | ⟨_, h⟩
      · skip
        rcases cond_some h with ⟨_, h⟩ | ⟨_, h⟩
        · skip
          rcases cond_some h with ⟨hb, h⟩ | ⟨_, h⟩
          · obtain rfl := Nat.eq_of_beq_eq_true hb; cases h; exact Or.inl ⟨Tryd.f95, _, Tryd.func95, rfl, k95⟩
          · cases h
        · skip
          rcases cond_some h with ⟨_, h⟩ | ⟨_, h⟩
          · skip
            rcases cond_some h with ⟨hb, h⟩ | ⟨_, h⟩
            · obtain rfl := Nat.eq_of_beq_eq_true hb; cases h; exact Or.inl ⟨Tryd.f96, _, Tryd.func96, rfl, k96⟩
            · cases h
          · skip
            rcases cond_some h with ⟨hb, h⟩ | ⟨_, h⟩
            · obtain rfl := Nat.eq_of_beq_eq_true hb; cases h; exact Or.inl ⟨Tryd.f97, _, Tryd.func97, rfl, k97⟩
            · cases h
      · skip
        rcases cond_some h with ⟨_, h⟩ | ⟨_, h⟩
        · skip
          rcases cond_some h with ⟨hb, h⟩ | ⟨_, h⟩
          · obtain rfl := Nat.eq_of_beq_eq_true hb; cases h; exact Or.inl ⟨Tryd.f98, _, Tryd.func98, rfl, k98⟩
          · cases h
        · skip
          rcases cond_some h with ⟨_, h⟩ | ⟨_, h⟩
          · skip
            rcases cond_some h with ⟨hb, h⟩ | ⟨_, h⟩
            · obtain rfl := Nat.eq_of_beq_eq_true hb; cases h; exact Or.inl ⟨Tryd.f99, _, Tryd.func99, rfl, k99⟩
            · cases h
          · skip
            rcases cond_some h with ⟨hb, h⟩ | ⟨_, h⟩
            · obtain rfl := Nat.eq_of_beq_eq_true hb; cases h; exact Or.inl ⟨Tryd.f101, _, Tryd.func101, rfl, k101⟩
            · cases h
end Go.Am
