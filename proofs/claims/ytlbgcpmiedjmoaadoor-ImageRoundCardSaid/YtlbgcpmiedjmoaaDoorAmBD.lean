import Derived.Test.YtlbgcpmiedjmoaaDoorAmBC
import Derived.Test.YtlbgcpmiedjmoaaDoorProg
import Derived.Test.YtlbgcpmiedjmoaaDoorCards
import Derived.Test.YtlbgcpmiedjmoaaDoorTie
import Derived.WalkKit
import Derived.ProofKit
import Derived.OpenShut
import Derived.Deep.DeepHandedRow
import Derived.Lib.LaidTab
import Derived.Lib.Strings
set_option linter.unusedSimpArgs false
set_option linter.unusedVariables false
/- The table of functions is right. -/
set_option maxRecDepth 100000
set_option maxHeartbeats 4000000
namespace Go.Am
open Go Go.Proofs
theorem ext_of {P : Program} {e e' : Exts} {f : FuncId} {k : Nat} (h : ExtSim P e f k) (hk : e' k = e k) : ExtSim P e' f k := fun S args H v H' m w vargs hG hx => h S args H v H' m w vargs hG (by rw [← hk]; exact hx)
theorem k17 : cFunc Tryd.prog Tryd.f17 = some c17 := by kernel_rfl
theorem k19 : cFunc Tryd.prog Tryd.f19 = some c19 := by kernel_rfl
theorem k25 : cFunc Tryd.prog Tryd.f25 = some c25 := by kernel_rfl
theorem k27 : cFunc Tryd.prog Tryd.f27 = some c27 := by kernel_rfl
theorem k32 : cFunc Tryd.prog Tryd.f32 = some c32 := by kernel_rfl
theorem k60 : cFunc Tryd.prog Tryd.f60 = some c60 := by kernel_rfl
theorem k70 : cFunc Tryd.prog Tryd.f70 = some c70 := by kernel_rfl
theorem k72 : cFunc Tryd.prog Tryd.f72 = some c72 := by kernel_rfl
theorem k73 : cFunc Tryd.prog Tryd.f73 = some c73 := by kernel_rfl
theorem k76 : cFunc Tryd.prog Tryd.f76 = some c76 := by kernel_rfl
theorem k77 : cFunc Tryd.prog Tryd.f77 = some c77 := by kernel_rfl
theorem k94 : cFunc Tryd.prog Tryd.f94 = some c94 := by kernel_rfl
theorem k97 : cFunc Tryd.prog Tryd.f97 = some c97 := by kernel_rfl
theorem k98 : cFunc Tryd.prog Tryd.f98 = some c98 := by kernel_rfl
theorem k101 : cFunc Tryd.prog Tryd.f101 = some c101 := by kernel_rfl
theorem k102 : cFunc Tryd.prog Tryd.f102 = some c102 := by kernel_rfl
theorem k103 : cFunc Tryd.prog Tryd.f103 = some c103 := by kernel_rfl
theorem k106 : cFunc Tryd.prog Tryd.f106 = some c106 := by kernel_rfl
theorem k107 : cFunc Tryd.prog Tryd.f107 = some c107 := by kernel_rfl
theorem k108 : cFunc Tryd.prog Tryd.f108 = some c108 := by kernel_rfl
theorem k109 : cFunc Tryd.prog Tryd.f109 = some c109 := by kernel_rfl
theorem k118 : cFunc Tryd.prog Tryd.f118 = some c118 := by kernel_rfl
theorem k121 : cFunc Tryd.prog Tryd.f121 = some c121 := by kernel_rfl
theorem k122 : cFunc Tryd.prog Tryd.f122 = some c122 := by kernel_rfl
theorem k126 : cFunc Tryd.prog Tryd.f126 = some c126 := by kernel_rfl
theorem k127 : cFunc Tryd.prog Tryd.f127 = some c127 := by kernel_rfl
theorem k128 : cFunc Tryd.prog Tryd.f128 = some c128 := by kernel_rfl
theorem k129 : cFunc Tryd.prog Tryd.f129 = some c129 := by kernel_rfl
theorem k130 : cFunc Tryd.prog Tryd.f130 = some c130 := by kernel_rfl
theorem k132 : cFunc Tryd.prog Tryd.f132 = some c132 := by kernel_rfl
theorem k133 : cFunc Tryd.prog Tryd.f133 = some c133 := by kernel_rfl
theorem k134 : cFunc Tryd.prog Tryd.f134 = some c134 := by kernel_rfl
theorem k135 : cFunc Tryd.prog Tryd.f135 = some c135 := by kernel_rfl
theorem k136 : cFunc Tryd.prog Tryd.f136 = some c136 := by kernel_rfl
theorem k137 : cFunc Tryd.prog Tryd.f137 = some c137 := by kernel_rfl
theorem k138 : cFunc Tryd.prog Tryd.f138 = some c138 := by kernel_rfl
theorem k142 : cFunc Tryd.prog Tryd.f142 = some c142 := by kernel_rfl
theorem k143 : cFunc Tryd.prog Tryd.f143 = some c143 := by kernel_rfl
theorem k147 : cFunc Tryd.prog Tryd.f147 = some c147 := by kernel_rfl
theorem k148 : cFunc Tryd.prog Tryd.f148 = some c148 := by kernel_rfl
theorem k149 : cFunc Tryd.prog Tryd.f149 = some c149 := by kernel_rfl
theorem k153 : cFunc Tryd.prog Tryd.f153 = some c153 := by kernel_rfl
theorem k154 : ExtSim Tryd.prog ext 154 0 := ext_count rfl Tryd.func154 (by kernel_rfl) (by kernel_rfl) (by kernel_rfl) (by kernel_rfl)
theorem k155 : cFunc Tryd.prog Tryd.f155 = some c155 := by kernel_rfl
theorem k160 : cFunc Tryd.prog Tryd.f160 = some c160 := by kernel_rfl
theorem k162 : ExtSim Tryd.prog ext 162 1 := ext_indexByte rfl Tryd.func162 (by kernel_rfl) (by kernel_rfl) (by kernel_rfl) (by kernel_rfl)
theorem k163 : cFunc Tryd.prog Tryd.f163 = some c163 := by kernel_rfl
theorem k164 : cFunc Tryd.prog Tryd.f164 = some c164 := by kernel_rfl
theorem k165 : cFunc Tryd.prog Tryd.f165 = some c165 := by kernel_rfl
theorem k166 : cFunc Tryd.prog Tryd.f166 = some c166 := by kernel_rfl
theorem k167 : cFunc Tryd.prog Tryd.f167 = some c167 := by kernel_rfl
theorem k168 : cFunc Tryd.prog Tryd.f168 = some c168 := by kernel_rfl
theorem k170 : cFunc Tryd.prog Tryd.f170 = some c170 := by kernel_rfl
theorem k171 : cFunc Tryd.prog Tryd.f171 = some c171 := by kernel_rfl
theorem k173 : cFunc Tryd.prog Tryd.f173 = some c173 := by kernel_rfl
theorem k174 : cFunc Tryd.prog Tryd.f174 = some c174 := by kernel_rfl
theorem k175 : ExtSim Tryd.prog ext 175 2 := ext_self rfl Tryd.func175 (by kernel_rfl) (by kernel_rfl) (by kernel_rfl) (by kernel_rfl)
theorem k176 : cFunc Tryd.prog Tryd.f176 = some c176 := by kernel_rfl
theorem k177 : cFunc Tryd.prog Tryd.f177 = some c177 := by kernel_rfl
theorem k178 : cFunc Tryd.prog Tryd.f178 = some c178 := by kernel_rfl
theorem k179 : cFunc Tryd.prog Tryd.f179 = some c179 := by kernel_rfl
theorem k180 : cFunc Tryd.prog Tryd.f180 = some c180 := by kernel_rfl
theorem k181 : cFunc Tryd.prog Tryd.f181 = some c181 := by kernel_rfl
theorem k182 : cFunc Tryd.prog Tryd.f182 = some c182 := by kernel_rfl
theorem k183 : cFunc Tryd.prog Tryd.f183 = some c183 := by kernel_rfl
theorem k185 : cFunc Tryd.prog Tryd.f185 = some c185 := by kernel_rfl
theorem k186 : ExtSim Tryd.prog ext 186 1 := ext_indexByte rfl Tryd.func186 (by kernel_rfl) (by kernel_rfl) (by kernel_rfl) (by kernel_rfl)
theorem k187 : cFunc Tryd.prog Tryd.f187 = some c187 := by kernel_rfl
theorem k188 : cFunc Tryd.prog Tryd.f188 = some c188 := by kernel_rfl
theorem k189 : cFunc Tryd.prog Tryd.f189 = some c189 := by kernel_rfl
theorem k190 : cFunc Tryd.prog Tryd.f190 = some c190 := by kernel_rfl
theorem k191 : cFunc Tryd.prog Tryd.f191 = some c191 := by kernel_rfl
theorem k192 : cFunc Tryd.prog Tryd.f192 = some c192 := by kernel_rfl
theorem k193 : cFunc Tryd.prog Tryd.f193 = some c193 := by kernel_rfl
theorem k194 : cFunc Tryd.prog Tryd.f194 = some c194 := by kernel_rfl
theorem cond_some {α : Type} {b : Bool} {x y : Option α} {v : α} (h : cond b x y = some v) : (b = true ∧ x = some v) ∨ (b = false ∧ y = some v) := by cases b <;> simp_all
theorem progOk0 : ProgOk Tryd.prog ext prog0 := by
  refine ⟨rfl, by decide +kernel, ?_⟩
  intro f rf h
  unfold prog0 at h
  rcases cond_some h with ⟨_, h⟩ | ⟨_, h⟩
  · skip
    rcases cond_some h with ⟨_, h⟩ | ⟨_, h⟩
    · skip
      rcases cond_some h with ⟨_, h⟩ | ⟨_, h⟩
      · skip
        rcases cond_some h with ⟨_, h⟩ | ⟨_, h⟩
        · skip
          rcases cond_some h with ⟨_, h⟩ | ⟨_, h⟩
          · skip
            rcases cond_some h with ⟨hb, h⟩ | ⟨_, h⟩
            · obtain rfl := Nat.eq_of_beq_eq_true hb; cases h; exact Or.inl ⟨Tryd.f19, _, Tryd.func19, rfl, k19⟩
            · cases h
          · skip
            rcases cond_some h with ⟨_, h⟩ | ⟨_, h⟩
            · skip
              rcases cond_some h with ⟨hb, h⟩ | ⟨_, h⟩
              · obtain rfl := Nat.eq_of_beq_eq_true hb; cases h; exact Or.inl ⟨Tryd.f27, _, Tryd.func27, rfl, k27⟩
              · cases h
            · skip
              rcases cond_some h with ⟨hb, h⟩ | ⟨_, h⟩
              · obtain rfl := Nat.eq_of_beq_eq_true hb; cases h; exact Or.inl ⟨Tryd.f32, _, Tryd.func32, rfl, k32⟩
              · cases h
        · skip
          rcases cond_some h with ⟨_, h⟩ | ⟨_, h⟩
          · skip
            rcases cond_some h with ⟨_, h⟩ | ⟨_, h⟩
            · skip
              rcases cond_some h with ⟨hb, h⟩ | ⟨_, h⟩
              · obtain rfl := Nat.eq_of_beq_eq_true hb; cases h; exact Or.inl ⟨Tryd.f60, _, Tryd.func60, rfl, k60⟩
              · cases h
            · skip
              rcases cond_some h with ⟨hb, h⟩ | ⟨_, h⟩
              · obtain rfl := Nat.eq_of_beq_eq_true hb; cases h; exact Or.inl ⟨Tryd.f70, _, Tryd.func70, rfl, k70⟩
              · cases h
          · skip
            rcases cond_some h with ⟨_, h⟩ | ⟨_, h⟩
            · skip
              rcases cond_some h with ⟨hb, h⟩ | ⟨_, h⟩
              · obtain rfl := Nat.eq_of_beq_eq_true hb; cases h; exact Or.inl ⟨Tryd.f72, _, Tryd.func72, rfl, k72⟩
              · cases h
            · skip
              rcases cond_some h with ⟨hb, h⟩ | ⟨_, h⟩
              · obtain rfl := Nat.eq_of_beq_eq_true hb; cases h; exact Or.inl ⟨Tryd.f77, _, Tryd.func77, rfl, k77⟩
              · cases h
      · skip
        rcases cond_some h with ⟨_, h⟩ | ⟨_, h⟩
        · skip
          rcases cond_some h with ⟨_, h⟩ | ⟨_, h⟩
          · skip
            rcases cond_some h with ⟨hb, h⟩ | ⟨_, h⟩
            · obtain rfl := Nat.eq_of_beq_eq_true hb; cases h; exact Or.inl ⟨Tryd.f94, _, Tryd.func94, rfl, k94⟩
            · cases h
          · skip
            rcases cond_some h with ⟨_, h⟩ | ⟨_, h⟩
            · skip
              rcases cond_some h with ⟨hb, h⟩ | ⟨_, h⟩
              · obtain rfl := Nat.eq_of_beq_eq_true hb; cases h; exact Or.inl ⟨Tryd.f97, _, Tryd.func97, rfl, k97⟩
              · cases h
            · skip
              rcases cond_some h with ⟨hb, h⟩ | ⟨_, h⟩
              · obtain rfl := Nat.eq_of_beq_eq_true hb; cases h; exact Or.inl ⟨Tryd.f98, _, Tryd.func98, rfl, k98⟩
              · cases h
        · skip
          rcases cond_some h with ⟨_, h⟩ | ⟨_, h⟩
          · skip
            rcases cond_some h with ⟨_, h⟩ | ⟨_, h⟩
            · skip
              rcases cond_some h with ⟨hb, h⟩ | ⟨_, h⟩
              · obtain rfl := Nat.eq_of_beq_eq_true hb; cases h; exact Or.inl ⟨Tryd.f102, _, Tryd.func102, rfl, k102⟩
              · cases h
            · skip
              rcases cond_some h with ⟨hb, h⟩ | ⟨_, h⟩
              · obtain rfl := Nat.eq_of_beq_eq_true hb; cases h; exact Or.inl ⟨Tryd.f103, _, Tryd.func103, rfl, k103⟩
              · cases h
          · skip
            rcases cond_some h with ⟨_, h⟩ | ⟨_, h⟩
            · skip
              rcases cond_some h with ⟨hb, h⟩ | ⟨_, h⟩
              · obtain rfl := Nat.eq_of_beq_eq_true hb; cases h; exact Or.inl ⟨Tryd.f106, _, Tryd.func106, rfl, k106⟩
              · cases h
            · skip
              rcases cond_some h with ⟨hb, h⟩ | ⟨_, h⟩
              · obtain rfl := Nat.eq_of_beq_eq_true hb; cases h; exact Or.inl ⟨Tryd.f107, _, Tryd.func107, rfl, k107⟩
              · cases h
    · skip
      rcases cond_some h with ⟨_, h⟩ | ⟨_, h⟩
      · skip
        rcases cond_some h with ⟨_, h⟩ | ⟨_, h⟩
        · skip
          rcases cond_some h with ⟨_, h⟩ | ⟨_, h⟩
          · skip
            rcases cond_some h with ⟨hb, h⟩ | ⟨_, h⟩
            · obtain rfl := Nat.eq_of_beq_eq_true hb; cases h; exact Or.inl ⟨Tryd.f108, _, Tryd.func108, rfl, k108⟩
            · cases h
          · skip
            rcases cond_some h with ⟨_, h⟩ | ⟨_, h⟩
            · skip
              rcases cond_some h with ⟨hb, h⟩ | ⟨_, h⟩
              · obtain rfl := Nat.eq_of_beq_eq_true hb; cases h; exact Or.inl ⟨Tryd.f109, _, Tryd.func109, rfl, k109⟩
              · cases h
            · skip
              rcases cond_some h with ⟨hb, h⟩ | ⟨_, h⟩
              · obtain rfl := Nat.eq_of_beq_eq_true hb; cases h; exact Or.inl ⟨Tryd.f118, _, Tryd.func118, rfl, k118⟩
              · cases h
        · skip
          rcases cond_some h with ⟨_, h⟩ | ⟨_, h⟩
          · skip
            rcases cond_some h with ⟨_, h⟩ | ⟨_, h⟩
            · skip
              rcases cond_some h with ⟨hb, h⟩ | ⟨_, h⟩
              · obtain rfl := Nat.eq_of_beq_eq_true hb; cases h; exact Or.inl ⟨Tryd.f121, _, Tryd.func121, rfl, k121⟩
              · cases h
            · skip
              rcases cond_some h with ⟨hb, h⟩ | ⟨_, h⟩
              · obtain rfl := Nat.eq_of_beq_eq_true hb; cases h; exact Or.inl ⟨Tryd.f122, _, Tryd.func122, rfl, k122⟩
              · cases h
          · skip
            rcases cond_some h with ⟨_, h⟩ | ⟨_, h⟩
            · skip
              rcases cond_some h with ⟨hb, h⟩ | ⟨_, h⟩
              · obtain rfl := Nat.eq_of_beq_eq_true hb; cases h; exact Or.inl ⟨Tryd.f126, _, Tryd.func126, rfl, k126⟩
              · cases h
            · skip
              rcases cond_some h with ⟨hb, h⟩ | ⟨_, h⟩
              · obtain rfl := Nat.eq_of_beq_eq_true hb; cases h; exact Or.inl ⟨Tryd.f127, _, Tryd.func127, rfl, k127⟩
              · cases h
      · skip
        rcases cond_some h with ⟨_, h⟩ | ⟨_, h⟩
        · skip
          rcases cond_some h with ⟨_, h⟩ | ⟨_, h⟩
          · skip
            rcases cond_some h with ⟨hb, h⟩ | ⟨_, h⟩
            · obtain rfl := Nat.eq_of_beq_eq_true hb; cases h; exact Or.inl ⟨Tryd.f128, _, Tryd.func128, rfl, k128⟩
            · cases h
          · skip
            rcases cond_some h with ⟨_, h⟩ | ⟨_, h⟩
            · skip
              rcases cond_some h with ⟨hb, h⟩ | ⟨_, h⟩
              · obtain rfl := Nat.eq_of_beq_eq_true hb; cases h; exact Or.inl ⟨Tryd.f129, _, Tryd.func129, rfl, k129⟩
              · cases h
            · skip
              rcases cond_some h with ⟨hb, h⟩ | ⟨_, h⟩
              · obtain rfl := Nat.eq_of_beq_eq_true hb; cases h; exact Or.inl ⟨Tryd.f130, _, Tryd.func130, rfl, k130⟩
              · cases h
        · skip
          rcases cond_some h with ⟨_, h⟩ | ⟨_, h⟩
          · skip
            rcases cond_some h with ⟨_, h⟩ | ⟨_, h⟩
            · skip
              rcases cond_some h with ⟨hb, h⟩ | ⟨_, h⟩
              · obtain rfl := Nat.eq_of_beq_eq_true hb; cases h; exact Or.inl ⟨Tryd.f132, _, Tryd.func132, rfl, k132⟩
              · cases h
            · skip
              rcases cond_some h with ⟨hb, h⟩ | ⟨_, h⟩
              · obtain rfl := Nat.eq_of_beq_eq_true hb; cases h; exact Or.inl ⟨Tryd.f133, _, Tryd.func133, rfl, k133⟩
              · cases h
          · skip
            rcases cond_some h with ⟨_, h⟩ | ⟨_, h⟩
            · skip
              rcases cond_some h with ⟨hb, h⟩ | ⟨_, h⟩
              · obtain rfl := Nat.eq_of_beq_eq_true hb; cases h; exact Or.inl ⟨Tryd.f134, _, Tryd.func134, rfl, k134⟩
              · cases h
            · skip
              rcases cond_some h with ⟨hb, h⟩ | ⟨_, h⟩
              · obtain rfl := Nat.eq_of_beq_eq_true hb; cases h; exact Or.inl ⟨Tryd.f135, _, Tryd.func135, rfl, k135⟩
              · cases h
  · skip
    rcases cond_some h with ⟨_, h⟩ | ⟨_, h⟩
    · skip
      rcases cond_some h with ⟨_, h⟩ | ⟨_, h⟩
      · skip
        rcases cond_some h with ⟨_, h⟩ | ⟨_, h⟩
        · skip
          rcases cond_some h with ⟨_, h⟩ | ⟨_, h⟩
          · skip
            rcases cond_some h with ⟨hb, h⟩ | ⟨_, h⟩
            · obtain rfl := Nat.eq_of_beq_eq_true hb; cases h; exact Or.inl ⟨Tryd.f142, _, Tryd.func142, rfl, k142⟩
            · cases h
          · skip
            rcases cond_some h with ⟨_, h⟩ | ⟨_, h⟩
            · skip
              rcases cond_some h with ⟨hb, h⟩ | ⟨_, h⟩
              · obtain rfl := Nat.eq_of_beq_eq_true hb; cases h; exact Or.inl ⟨Tryd.f143, _, Tryd.func143, rfl, k143⟩
              · cases h
            · skip
              rcases cond_some h with ⟨hb, h⟩ | ⟨_, h⟩
              · obtain rfl := Nat.eq_of_beq_eq_true hb; cases h; exact Or.inl ⟨Tryd.f153, _, Tryd.func153, rfl, k153⟩
              · cases h
        · skip
          rcases cond_some h with ⟨_, h⟩ | ⟨_, h⟩
          · skip
            rcases cond_some h with ⟨_, h⟩ | ⟨_, h⟩
            · skip
              rcases cond_some h with ⟨hb, h⟩ | ⟨_, h⟩
              · obtain rfl := Nat.eq_of_beq_eq_true hb; cases h; exact Or.inr ⟨0, rfl, k154⟩
              · cases h
            · skip
              rcases cond_some h with ⟨hb, h⟩ | ⟨_, h⟩
              · obtain rfl := Nat.eq_of_beq_eq_true hb; cases h; exact Or.inl ⟨Tryd.f155, _, Tryd.func155, rfl, k155⟩
              · cases h
          · skip
            rcases cond_some h with ⟨_, h⟩ | ⟨_, h⟩
            · skip
              rcases cond_some h with ⟨hb, h⟩ | ⟨_, h⟩
              · obtain rfl := Nat.eq_of_beq_eq_true hb; cases h; exact Or.inl ⟨Tryd.f160, _, Tryd.func160, rfl, k160⟩
              · cases h
            · skip
              rcases cond_some h with ⟨hb, h⟩ | ⟨_, h⟩
              · obtain rfl := Nat.eq_of_beq_eq_true hb; cases h; exact Or.inr ⟨1, rfl, k162⟩
              · cases h
      · skip
        rcases cond_some h with ⟨_, h⟩ | ⟨_, h⟩
        · skip
          rcases cond_some h with ⟨_, h⟩ | ⟨_, h⟩
          · skip
            rcases cond_some h with ⟨hb, h⟩ | ⟨_, h⟩
            · obtain rfl := Nat.eq_of_beq_eq_true hb; cases h; exact Or.inl ⟨Tryd.f163, _, Tryd.func163, rfl, k163⟩
            · cases h
          · skip
            rcases cond_some h with ⟨_, h⟩ | ⟨_, h⟩
            · skip
              rcases cond_some h with ⟨hb, h⟩ | ⟨_, h⟩
              · obtain rfl := Nat.eq_of_beq_eq_true hb; cases h; exact Or.inl ⟨Tryd.f164, _, Tryd.func164, rfl, k164⟩
              · cases h
            · skip
              rcases cond_some h with ⟨hb, h⟩ | ⟨_, h⟩
              · obtain rfl := Nat.eq_of_beq_eq_true hb; cases h; exact Or.inl ⟨Tryd.f165, _, Tryd.func165, rfl, k165⟩
              · cases h
        · skip
          rcases cond_some h with ⟨_, h⟩ | ⟨_, h⟩
          · skip
            rcases cond_some h with ⟨_, h⟩ | ⟨_, h⟩
            · skip
              rcases cond_some h with ⟨hb, h⟩ | ⟨_, h⟩
              · obtain rfl := Nat.eq_of_beq_eq_true hb; cases h; exact Or.inl ⟨Tryd.f170, _, Tryd.func170, rfl, k170⟩
              · cases h
            · skip
              rcases cond_some h with ⟨hb, h⟩ | ⟨_, h⟩
              · obtain rfl := Nat.eq_of_beq_eq_true hb; cases h; exact Or.inl ⟨Tryd.f171, _, Tryd.func171, rfl, k171⟩
              · cases h
          · skip
            rcases cond_some h with ⟨_, h⟩ | ⟨_, h⟩
            · skip
              rcases cond_some h with ⟨hb, h⟩ | ⟨_, h⟩
              · obtain rfl := Nat.eq_of_beq_eq_true hb; cases h; exact Or.inl ⟨Tryd.f173, _, Tryd.func173, rfl, k173⟩
              · cases h
            · skip
              rcases cond_some h with ⟨hb, h⟩ | ⟨_, h⟩
              · obtain rfl := Nat.eq_of_beq_eq_true hb; cases h; exact Or.inl ⟨Tryd.f174, _, Tryd.func174, rfl, k174⟩
              · cases h
    · skip
      rcases cond_some h with ⟨_, h⟩ | ⟨_, h⟩
      · skip
        rcases cond_some h with ⟨_, h⟩ | ⟨_, h⟩
        · skip
          rcases cond_some h with ⟨_, h⟩ | ⟨_, h⟩
          · skip
            rcases cond_some h with ⟨hb, h⟩ | ⟨_, h⟩
            · obtain rfl := Nat.eq_of_beq_eq_true hb; cases h; exact Or.inr ⟨2, rfl, k175⟩
            · cases h
          · skip
            rcases cond_some h with ⟨_, h⟩ | ⟨_, h⟩
            · skip
              rcases cond_some h with ⟨hb, h⟩ | ⟨_, h⟩
              · obtain rfl := Nat.eq_of_beq_eq_true hb; cases h; exact Or.inl ⟨Tryd.f176, _, Tryd.func176, rfl, k176⟩
              · cases h
            · skip
              rcases cond_some h with ⟨hb, h⟩ | ⟨_, h⟩
              · obtain rfl := Nat.eq_of_beq_eq_true hb; cases h; exact Or.inl ⟨Tryd.f179, _, Tryd.func179, rfl, k179⟩
              · cases h
        · skip
          rcases cond_some h with ⟨_, h⟩ | ⟨_, h⟩
          · skip
            rcases cond_some h with ⟨_, h⟩ | ⟨_, h⟩
            · skip
              rcases cond_some h with ⟨hb, h⟩ | ⟨_, h⟩
              · obtain rfl := Nat.eq_of_beq_eq_true hb; cases h; exact Or.inl ⟨Tryd.f180, _, Tryd.func180, rfl, k180⟩
              · cases h
            · skip
              rcases cond_some h with ⟨hb, h⟩ | ⟨_, h⟩
              · obtain rfl := Nat.eq_of_beq_eq_true hb; cases h; exact Or.inl ⟨Tryd.f181, _, Tryd.func181, rfl, k181⟩
              · cases h
          · skip
            rcases cond_some h with ⟨_, h⟩ | ⟨_, h⟩
            · skip
              rcases cond_some h with ⟨hb, h⟩ | ⟨_, h⟩
              · obtain rfl := Nat.eq_of_beq_eq_true hb; cases h; exact Or.inl ⟨Tryd.f182, _, Tryd.func182, rfl, k182⟩
              · cases h
            · skip
              rcases cond_some h with ⟨hb, h⟩ | ⟨_, h⟩
              · obtain rfl := Nat.eq_of_beq_eq_true hb; cases h; exact Or.inl ⟨Tryd.f183, _, Tryd.func183, rfl, k183⟩
              · cases h
      · skip
        rcases cond_some h with ⟨_, h⟩ | ⟨_, h⟩
        · skip
          rcases cond_some h with ⟨_, h⟩ | ⟨_, h⟩
          · skip
            rcases cond_some h with ⟨hb, h⟩ | ⟨_, h⟩
            · obtain rfl := Nat.eq_of_beq_eq_true hb; cases h; exact Or.inl ⟨Tryd.f187, _, Tryd.func187, rfl, k187⟩
            · cases h
          · skip
            rcases cond_some h with ⟨_, h⟩ | ⟨_, h⟩
            · skip
              rcases cond_some h with ⟨hb, h⟩ | ⟨_, h⟩
              · obtain rfl := Nat.eq_of_beq_eq_true hb; cases h; exact Or.inl ⟨Tryd.f188, _, Tryd.func188, rfl, k188⟩
              · cases h
            · skip
              rcases cond_some h with ⟨hb, h⟩ | ⟨_, h⟩
              · obtain rfl := Nat.eq_of_beq_eq_true hb; cases h; exact Or.inl ⟨Tryd.f189, _, Tryd.func189, rfl, k189⟩
              · cases h
        · skip
          rcases cond_some h with ⟨_, h⟩ | ⟨_, h⟩
          · skip
            rcases cond_some h with ⟨_, h⟩ | ⟨_, h⟩
            · skip
              rcases cond_some h with ⟨hb, h⟩ | ⟨_, h⟩
              · obtain rfl := Nat.eq_of_beq_eq_true hb; cases h; exact Or.inl ⟨Tryd.f190, _, Tryd.func190, rfl, k190⟩
              · cases h
            · skip
              rcases cond_some h with ⟨hb, h⟩ | ⟨_, h⟩
              · obtain rfl := Nat.eq_of_beq_eq_true hb; cases h; exact Or.inl ⟨Tryd.f191, _, Tryd.func191, rfl, k191⟩
              · cases h
          · skip
            rcases cond_some h with ⟨_, h⟩ | ⟨_, h⟩
            · skip
              rcases cond_some h with ⟨hb, h⟩ | ⟨_, h⟩
              · obtain rfl := Nat.eq_of_beq_eq_true hb; cases h; exact Or.inl ⟨Tryd.f193, _, Tryd.func193, rfl, k193⟩
              · cases h
            · skip
              rcases cond_some h with ⟨hb, h⟩ | ⟨_, h⟩
              · obtain rfl := Nat.eq_of_beq_eq_true hb; cases h; exact Or.inl ⟨Tryd.f194, _, Tryd.func194, rfl, k194⟩
              · cases h
def isTrue : Option (AVal × AHeap) → Bool | some (.bool true, _) => true | _ => false
theorem isTrue_some {r : Option (AVal × AHeap)} (h : isTrue r = true) : ∃ H', r = some (.bool true, H') := by
  cases r with
  | none => cases h
  | some p =>
    obtain ⟨v, H'⟩ := p
    cases v with
    | bool b => cases b with
      | true => exact ⟨H', rfl⟩
      | false => cases h
    | _ => cases h
/-- The examples of the chapter hold. -/
theorem awake_true : isTrue (callN ext prog0 300 19 [] (tableHeap Tryd.prog.globals.size aroundT)) = true := by kernel_rfl
theorem mixed : Tryd.prog.follows .mixedOrders = true := by kernel_rfl
theorem k19e : ExtSim Tryd.prog ext 19 3 := ext_closed mixed progOk0 (T := aroundT) Tryd.func19 rfl (by decide +kernel) (v := .bool true) rfl (by kernel_rfl) (isTrue_some awake_true) rfl
theorem gsize : Tryd.prog.globals.size = 5 := by kernel_rfl
theorem fam_F {f : Nat} {T : List (Nat × List AVal)} (h : ∀ n, n ≤ 640 → famOk f 5 T n = true) : ∀ args v, digF args = some v → args.all plainV = true ∧ plainV v = true ∧ ∃ H', callN ext prog0 300 f args (tableHeap Tryd.prog.globals.size T) = some (v, H') := by
  intro args v hF
  rw [gsize]
  unfold digF at hF
  split at hF
  · rename_i n
    split at hF
    · rename_i hn
      cases hF
      refine ⟨rfl, rfl, ?_⟩
      obtain ⟨k, rfl⟩ : ∃ k : Nat, n = k := ⟨n.toNat, by omega⟩
      have h1 := h k (by omega)
      unfold famOk at h1
      split at h1
      · rename_i s H' hc
        refine ⟨H', ?_⟩
        rw [hc]
        have h2 : s.data.toList = digs k := by simpa using h1
        rw [Int.toNat_natCast, ← h2]
      · cases h1
    · cases hF
  · cases hF
theorem k133e : ExtSim Tryd.prog ext 133 4 := ext_fam mixed progOk0 (T := powT) (F := digF) (n := 300) Tryd.func133 (by kernel_rfl) (fam_F fam133) rfl
theorem progOk : ProgOk Tryd.prog ext prog := by
  refine ⟨rfl, by decide +kernel, ?_⟩
  intro f rf h
  unfold prog at h
  rcases cond_some h with ⟨_, h⟩ | ⟨_, h⟩
  · skip
    rcases cond_some h with ⟨_, h⟩ | ⟨_, h⟩
    · skip
      rcases cond_some h with ⟨_, h⟩ | ⟨_, h⟩
      · skip
        rcases cond_some h with ⟨_, h⟩ | ⟨_, h⟩
        · skip
          rcases cond_some h with ⟨_, h⟩ | ⟨_, h⟩
          · skip
            rcases cond_some h with ⟨hb, h⟩ | ⟨_, h⟩
            · obtain rfl := Nat.eq_of_beq_eq_true hb; cases h; exact Or.inl ⟨Tryd.f17, _, Tryd.func17, rfl, k17⟩
            · cases h
          · skip
            rcases cond_some h with ⟨hb, h⟩ | ⟨_, h⟩
            · obtain rfl := Nat.eq_of_beq_eq_true hb; cases h; exact Or.inr ⟨3, rfl, k19e⟩
            · cases h
        · skip
          rcases cond_some h with ⟨_, h⟩ | ⟨_, h⟩
          · skip
            rcases cond_some h with ⟨hb, h⟩ | ⟨_, h⟩
            · obtain rfl := Nat.eq_of_beq_eq_true hb; cases h; exact Or.inl ⟨Tryd.f25, _, Tryd.func25, rfl, k25⟩
            · cases h
          · skip
            rcases cond_some h with ⟨_, h⟩ | ⟨_, h⟩
            · skip
              rcases cond_some h with ⟨hb, h⟩ | ⟨_, h⟩
              · obtain rfl := Nat.eq_of_beq_eq_true hb; cases h; exact Or.inl ⟨Tryd.f27, _, Tryd.func27, rfl, k27⟩
              · cases h
            · skip
              rcases cond_some h with ⟨hb, h⟩ | ⟨_, h⟩
              · obtain rfl := Nat.eq_of_beq_eq_true hb; cases h; exact Or.inl ⟨Tryd.f32, _, Tryd.func32, rfl, k32⟩
              · cases h
      · skip
        rcases cond_some h with ⟨_, h⟩ | ⟨_, h⟩
        · skip
          rcases cond_some h with ⟨_, h⟩ | ⟨_, h⟩
          · skip
            rcases cond_some h with ⟨hb, h⟩ | ⟨_, h⟩
            · obtain rfl := Nat.eq_of_beq_eq_true hb; cases h; exact Or.inl ⟨Tryd.f72, _, Tryd.func72, rfl, k72⟩
            · cases h
          · skip
            rcases cond_some h with ⟨_, h⟩ | ⟨_, h⟩
            · skip
              rcases cond_some h with ⟨hb, h⟩ | ⟨_, h⟩
              · obtain rfl := Nat.eq_of_beq_eq_true hb; cases h; exact Or.inl ⟨Tryd.f73, _, Tryd.func73, rfl, k73⟩
              · cases h
            · skip
              rcases cond_some h with ⟨hb, h⟩ | ⟨_, h⟩
              · obtain rfl := Nat.eq_of_beq_eq_true hb; cases h; exact Or.inl ⟨Tryd.f76, _, Tryd.func76, rfl, k76⟩
              · cases h
        · skip
          rcases cond_some h with ⟨_, h⟩ | ⟨_, h⟩
          · skip
            rcases cond_some h with ⟨hb, h⟩ | ⟨_, h⟩
            · obtain rfl := Nat.eq_of_beq_eq_true hb; cases h; exact Or.inl ⟨Tryd.f97, _, Tryd.func97, rfl, k97⟩
            · cases h
          · skip
            rcases cond_some h with ⟨_, h⟩ | ⟨_, h⟩
            · skip
              rcases cond_some h with ⟨hb, h⟩ | ⟨_, h⟩
              · obtain rfl := Nat.eq_of_beq_eq_true hb; cases h; exact Or.inl ⟨Tryd.f101, _, Tryd.func101, rfl, k101⟩
              · cases h
            · skip
              rcases cond_some h with ⟨hb, h⟩ | ⟨_, h⟩
              · obtain rfl := Nat.eq_of_beq_eq_true hb; cases h; exact Or.inl ⟨Tryd.f102, _, Tryd.func102, rfl, k102⟩
              · cases h
    · skip
      rcases cond_some h with ⟨_, h⟩ | ⟨_, h⟩
      · skip
        rcases cond_some h with ⟨_, h⟩ | ⟨_, h⟩
        · skip
          rcases cond_some h with ⟨_, h⟩ | ⟨_, h⟩
          · skip
            rcases cond_some h with ⟨hb, h⟩ | ⟨_, h⟩
            · obtain rfl := Nat.eq_of_beq_eq_true hb; cases h; exact Or.inl ⟨Tryd.f103, _, Tryd.func103, rfl, k103⟩
            · cases h
          · skip
            rcases cond_some h with ⟨_, h⟩ | ⟨_, h⟩
            · skip
              rcases cond_some h with ⟨hb, h⟩ | ⟨_, h⟩
              · obtain rfl := Nat.eq_of_beq_eq_true hb; cases h; exact Or.inl ⟨Tryd.f106, _, Tryd.func106, rfl, k106⟩
              · cases h
            · skip
              rcases cond_some h with ⟨hb, h⟩ | ⟨_, h⟩
              · obtain rfl := Nat.eq_of_beq_eq_true hb; cases h; exact Or.inl ⟨Tryd.f107, _, Tryd.func107, rfl, k107⟩
              · cases h
        · skip
          rcases cond_some h with ⟨_, h⟩ | ⟨_, h⟩
          · skip
            rcases cond_some h with ⟨hb, h⟩ | ⟨_, h⟩
            · obtain rfl := Nat.eq_of_beq_eq_true hb; cases h; exact Or.inl ⟨Tryd.f108, _, Tryd.func108, rfl, k108⟩
            · cases h
          · skip
            rcases cond_some h with ⟨_, h⟩ | ⟨_, h⟩
            · skip
              rcases cond_some h with ⟨hb, h⟩ | ⟨_, h⟩
              · obtain rfl := Nat.eq_of_beq_eq_true hb; cases h; exact Or.inl ⟨Tryd.f118, _, Tryd.func118, rfl, k118⟩
              · cases h
            · skip
              rcases cond_some h with ⟨hb, h⟩ | ⟨_, h⟩
              · obtain rfl := Nat.eq_of_beq_eq_true hb; cases h; exact Or.inl ⟨Tryd.f128, _, Tryd.func128, rfl, k128⟩
              · cases h
      · skip
        rcases cond_some h with ⟨_, h⟩ | ⟨_, h⟩
        · skip
          rcases cond_some h with ⟨_, h⟩ | ⟨_, h⟩
          · skip
            rcases cond_some h with ⟨hb, h⟩ | ⟨_, h⟩
            · obtain rfl := Nat.eq_of_beq_eq_true hb; cases h; exact Or.inl ⟨Tryd.f132, _, Tryd.func132, rfl, k132⟩
            · cases h
          · skip
            rcases cond_some h with ⟨_, h⟩ | ⟨_, h⟩
            · skip
              rcases cond_some h with ⟨hb, h⟩ | ⟨_, h⟩
              · obtain rfl := Nat.eq_of_beq_eq_true hb; cases h; exact Or.inr ⟨4, rfl, k133e⟩
              · cases h
            · skip
              rcases cond_some h with ⟨hb, h⟩ | ⟨_, h⟩
              · obtain rfl := Nat.eq_of_beq_eq_true hb; cases h; exact Or.inl ⟨Tryd.f134, _, Tryd.func134, rfl, k134⟩
              · cases h
        · skip
          rcases cond_some h with ⟨_, h⟩ | ⟨_, h⟩
          · skip
            rcases cond_some h with ⟨hb, h⟩ | ⟨_, h⟩
            · obtain rfl := Nat.eq_of_beq_eq_true hb; cases h; exact Or.inl ⟨Tryd.f135, _, Tryd.func135, rfl, k135⟩
            · cases h
          · skip
            rcases cond_some h with ⟨_, h⟩ | ⟨_, h⟩
            · skip
              rcases cond_some h with ⟨hb, h⟩ | ⟨_, h⟩
              · obtain rfl := Nat.eq_of_beq_eq_true hb; cases h; exact Or.inl ⟨Tryd.f136, _, Tryd.func136, rfl, k136⟩
              · cases h
            · skip
              rcases cond_some h with ⟨hb, h⟩ | ⟨_, h⟩
              · obtain rfl := Nat.eq_of_beq_eq_true hb; cases h; exact Or.inl ⟨Tryd.f137, _, Tryd.func137, rfl, k137⟩
              · cases h
  · skip
    rcases cond_some h with ⟨_, h⟩ | ⟨_, h⟩
    · skip
      rcases cond_some h with ⟨_, h⟩ | ⟨_, h⟩
      · skip
        rcases cond_some h with ⟨_, h⟩ | ⟨_, h⟩
        · skip
          rcases cond_some h with ⟨_, h⟩ | ⟨_, h⟩
          · skip
            rcases cond_some h with ⟨hb, h⟩ | ⟨_, h⟩
            · obtain rfl := Nat.eq_of_beq_eq_true hb; cases h; exact Or.inl ⟨Tryd.f138, _, Tryd.func138, rfl, k138⟩
            · cases h
          · skip
            rcases cond_some h with ⟨hb, h⟩ | ⟨_, h⟩
            · obtain rfl := Nat.eq_of_beq_eq_true hb; cases h; exact Or.inl ⟨Tryd.f147, _, Tryd.func147, rfl, k147⟩
            · cases h
        · skip
          rcases cond_some h with ⟨_, h⟩ | ⟨_, h⟩
          · skip
            rcases cond_some h with ⟨hb, h⟩ | ⟨_, h⟩
            · obtain rfl := Nat.eq_of_beq_eq_true hb; cases h; exact Or.inl ⟨Tryd.f148, _, Tryd.func148, rfl, k148⟩
            · cases h
          · skip
            rcases cond_some h with ⟨_, h⟩ | ⟨_, h⟩
            · skip
              rcases cond_some h with ⟨hb, h⟩ | ⟨_, h⟩
              · obtain rfl := Nat.eq_of_beq_eq_true hb; cases h; exact Or.inl ⟨Tryd.f149, _, Tryd.func149, rfl, k149⟩
              · cases h
            · skip
              rcases cond_some h with ⟨hb, h⟩ | ⟨_, h⟩
              · obtain rfl := Nat.eq_of_beq_eq_true hb; cases h; exact Or.inl ⟨Tryd.f153, _, Tryd.func153, rfl, k153⟩
              · cases h
      · skip
        rcases cond_some h with ⟨_, h⟩ | ⟨_, h⟩
        · skip
          rcases cond_some h with ⟨_, h⟩ | ⟨_, h⟩
          · skip
            rcases cond_some h with ⟨hb, h⟩ | ⟨_, h⟩
            · obtain rfl := Nat.eq_of_beq_eq_true hb; cases h; exact Or.inr ⟨0, rfl, k154⟩
            · cases h
          · skip
            rcases cond_some h with ⟨_, h⟩ | ⟨_, h⟩
            · skip
              rcases cond_some h with ⟨hb, h⟩ | ⟨_, h⟩
              · obtain rfl := Nat.eq_of_beq_eq_true hb; cases h; exact Or.inl ⟨Tryd.f155, _, Tryd.func155, rfl, k155⟩
              · cases h
            · skip
              rcases cond_some h with ⟨hb, h⟩ | ⟨_, h⟩
              · obtain rfl := Nat.eq_of_beq_eq_true hb; cases h; exact Or.inr ⟨1, rfl, k162⟩
              · cases h
        · skip
          rcases cond_some h with ⟨_, h⟩ | ⟨_, h⟩
          · skip
            rcases cond_some h with ⟨hb, h⟩ | ⟨_, h⟩
            · obtain rfl := Nat.eq_of_beq_eq_true hb; cases h; exact Or.inl ⟨Tryd.f164, _, Tryd.func164, rfl, k164⟩
            · cases h
          · skip
            rcases cond_some h with ⟨_, h⟩ | ⟨_, h⟩
            · skip
              rcases cond_some h with ⟨hb, h⟩ | ⟨_, h⟩
              · obtain rfl := Nat.eq_of_beq_eq_true hb; cases h; exact Or.inl ⟨Tryd.f166, _, Tryd.func166, rfl, k166⟩
              · cases h
            · skip
              rcases cond_some h with ⟨hb, h⟩ | ⟨_, h⟩
              · obtain rfl := Nat.eq_of_beq_eq_true hb; cases h; exact Or.inl ⟨Tryd.f167, _, Tryd.func167, rfl, k167⟩
              · cases h
    · skip
      rcases cond_some h with ⟨_, h⟩ | ⟨_, h⟩
      · skip
        rcases cond_some h with ⟨_, h⟩ | ⟨_, h⟩
        · skip
          rcases cond_some h with ⟨_, h⟩ | ⟨_, h⟩
          · skip
            rcases cond_some h with ⟨hb, h⟩ | ⟨_, h⟩
            · obtain rfl := Nat.eq_of_beq_eq_true hb; cases h; exact Or.inl ⟨Tryd.f168, _, Tryd.func168, rfl, k168⟩
            · cases h
          · skip
            rcases cond_some h with ⟨_, h⟩ | ⟨_, h⟩
            · skip
              rcases cond_some h with ⟨hb, h⟩ | ⟨_, h⟩
              · obtain rfl := Nat.eq_of_beq_eq_true hb; cases h; exact Or.inl ⟨Tryd.f170, _, Tryd.func170, rfl, k170⟩
              · cases h
            · skip
              rcases cond_some h with ⟨hb, h⟩ | ⟨_, h⟩
              · obtain rfl := Nat.eq_of_beq_eq_true hb; cases h; exact Or.inl ⟨Tryd.f171, _, Tryd.func171, rfl, k171⟩
              · cases h
        · skip
          rcases cond_some h with ⟨_, h⟩ | ⟨_, h⟩
          · skip
            rcases cond_some h with ⟨hb, h⟩ | ⟨_, h⟩
            · obtain rfl := Nat.eq_of_beq_eq_true hb; cases h; exact Or.inl ⟨Tryd.f173, _, Tryd.func173, rfl, k173⟩
            · cases h
          · skip
            rcases cond_some h with ⟨_, h⟩ | ⟨_, h⟩
            · skip
              rcases cond_some h with ⟨hb, h⟩ | ⟨_, h⟩
              · obtain rfl := Nat.eq_of_beq_eq_true hb; cases h; exact Or.inl ⟨Tryd.f174, _, Tryd.func174, rfl, k174⟩
              · cases h
            · skip
              rcases cond_some h with ⟨hb, h⟩ | ⟨_, h⟩
              · obtain rfl := Nat.eq_of_beq_eq_true hb; cases h; exact Or.inr ⟨2, rfl, k175⟩
              · cases h
      · skip
        rcases cond_some h with ⟨_, h⟩ | ⟨_, h⟩
        · skip
          rcases cond_some h with ⟨_, h⟩ | ⟨_, h⟩
          · skip
            rcases cond_some h with ⟨hb, h⟩ | ⟨_, h⟩
            · obtain rfl := Nat.eq_of_beq_eq_true hb; cases h; exact Or.inl ⟨Tryd.f177, _, Tryd.func177, rfl, k177⟩
            · cases h
          · skip
            rcases cond_some h with ⟨_, h⟩ | ⟨_, h⟩
            · skip
              rcases cond_some h with ⟨hb, h⟩ | ⟨_, h⟩
              · obtain rfl := Nat.eq_of_beq_eq_true hb; cases h; exact Or.inl ⟨Tryd.f178, _, Tryd.func178, rfl, k178⟩
              · cases h
            · skip
              rcases cond_some h with ⟨hb, h⟩ | ⟨_, h⟩
              · obtain rfl := Nat.eq_of_beq_eq_true hb; cases h; exact Or.inl ⟨Tryd.f179, _, Tryd.func179, rfl, k179⟩
              · cases h
        · skip
          rcases cond_some h with ⟨_, h⟩ | ⟨_, h⟩
          · skip
            rcases cond_some h with ⟨hb, h⟩ | ⟨_, h⟩
            · obtain rfl := Nat.eq_of_beq_eq_true hb; cases h; exact Or.inl ⟨Tryd.f185, _, Tryd.func185, rfl, k185⟩
            · cases h
          · skip
            rcases cond_some h with ⟨_, h⟩ | ⟨_, h⟩
            · skip
              rcases cond_some h with ⟨hb, h⟩ | ⟨_, h⟩
              · obtain rfl := Nat.eq_of_beq_eq_true hb; cases h; exact Or.inr ⟨1, rfl, k186⟩
              · cases h
            · skip
              rcases cond_some h with ⟨hb, h⟩ | ⟨_, h⟩
              · obtain rfl := Nat.eq_of_beq_eq_true hb; cases h; exact Or.inl ⟨Tryd.f192, _, Tryd.func192, rfl, k192⟩
              · cases h
end Go.Am

/-
  What all laws of the seat share: a world that holds the listed tables, and the cells of the table around.
-/
set_option maxRecDepth 100000
set_option maxHeartbeats 4000000
namespace Go.Proofs.YtlbgcpmiedjmoaaDoor.Laid
open Go.ChangeShapes Go.WideShapes Go.ChangeAt Go.RowKit Go.Am

theorem own : ownKnob Tryd.prog.godebug = none := by kernel_rfl
theorem laidOut : laidOutB Tryd.prog = true := by kernel_rfl
theorem rowed : mapsRowed Tryd.prog = true := by kernel_rfl
theorem full : ∀ t e, t < Tryd.prog.types.size → Tryd.prog.underlying t = some (.slice e) → 0 < Tryd.prog.cellsOf e := slices_full_of Tryd.prog (by kernel_rfl)
theorem gAround : Tryd.prog.globalNamed "custos/image.around" = some 0 := by kernel_rfl

theorem around_cells {W : World} (h : laidMetH Tryd.prog Rows.imageGreysRow.laid W) : ∀ t ∈ aroundT, ∀ (i : Nat) (v : AVal), t.2[i]? = some v → ∃ x, emb (fun _ => none) v = some x ∧ W.cell? ⟨t.1, i, none⟩ = some x := by
  have h1 : laidMet Tryd.prog Rows.imageGreysRow.laid W := h
  intro t ht i v hv
  simp only [aroundT, List.mem_singleton] at ht
  subst ht
  have key : ∀ (l : List Value), flatD 3 Rows.laid_custos_image_around (Hd := Unit) = l → embL (fun _ => none) [.int .i64 0, .int .i64 (-1), .int .i64 1, .int .i64 (-1), .int .i64 1, .int .i64 0, .int .i64 1, .int .i64 1, .int .i64 0, .int .i64 1, .int .i64 (-1), .int .i64 1, .int .i64 (-1), .int .i64 0, .int .i64 (-1), .int .i64 (-1)] = some l → ∃ x, emb (fun _ => none) v = some x ∧ W.cell? ⟨0, i, none⟩ = some x := by
    intro l h2 h3
    obtain ⟨x, h4, h5⟩ := embL_get h3 hv
    exact ⟨x, h4, laid_cells laidOut rowed h1 (by simp [Rows.imageGreysRow]) (n := 3) gAround (by kernel_rfl : (Tryd.prog.globals[0]?).map (·.type) = some 182) (by decide +kernel) (by kernel_rfl) h2 h5⟩
  exact key _ rfl (by kernel_rfl)

noncomputable def laidWorld (os : Os) : World :=
  let h := (World.holding Tryd.prog os ⟨#[], #[], []⟩).heap
  let h := h.modify 0 fun
    | .cells _ t frozen => .cells #[.int .i64 0, .int .i64 (-1), .int .i64 1, .int .i64 (-1), .int .i64 1, .int .i64 0, .int .i64 1, .int .i64 1, .int .i64 0, .int .i64 1, .int .i64 (-1), .int .i64 1, .int .i64 (-1), .int .i64 0, .int .i64 (-1), .int .i64 (-1)] t frozen
    | o => o
  let h := h.modify 2 fun
    | .cells _ t frozen => .cells #[.int .u64 1, .int .u64 10, .int .u64 100, .int .u64 1000, .int .u64 10000, .int .u64 100000, .int .u64 1000000, .int .u64 10000000, .int .u64 100000000, .int .u64 1000000000, .int .u64 10000000000, .int .u64 100000000000, .int .u64 1000000000000, .int .u64 10000000000000, .int .u64 100000000000000, .int .u64 1000000000000000, .int .u64 10000000000000000, .int .u64 100000000000000000, .int .u64 1000000000000000000, .int .u64 10000000000000000000] t frozen
    | o => o
  let h := h.modify 3 fun
    | .cells _ t frozen => .cells #[.int .u8 0, .int .u8 1, .int .u8 28, .int .u8 2, .int .u8 29, .int .u8 14, .int .u8 24, .int .u8 3, .int .u8 30, .int .u8 22, .int .u8 20, .int .u8 15, .int .u8 25, .int .u8 17, .int .u8 4, .int .u8 8, .int .u8 31, .int .u8 27, .int .u8 13, .int .u8 23, .int .u8 21, .int .u8 19, .int .u8 16, .int .u8 7, .int .u8 26, .int .u8 12, .int .u8 18, .int .u8 6, .int .u8 11, .int .u8 5, .int .u8 10, .int .u8 9] t frozen
    | o => o
  let h := h.modify 4 fun
    | .cells _ t frozen => .cells #[.int .u8 0, .int .u8 1, .int .u8 56, .int .u8 2, .int .u8 57, .int .u8 49, .int .u8 28, .int .u8 3, .int .u8 61, .int .u8 58, .int .u8 42, .int .u8 50, .int .u8 38, .int .u8 29, .int .u8 17, .int .u8 4, .int .u8 62, .int .u8 47, .int .u8 59, .int .u8 36, .int .u8 45, .int .u8 43, .int .u8 51, .int .u8 22, .int .u8 53, .int .u8 39, .int .u8 33, .int .u8 30, .int .u8 24, .int .u8 18, .int .u8 12, .int .u8 5, .int .u8 63, .int .u8 55, .int .u8 48, .int .u8 27, .int .u8 60, .int .u8 41, .int .u8 37, .int .u8 16, .int .u8 46, .int .u8 35, .int .u8 44, .int .u8 21, .int .u8 52, .int .u8 32, .int .u8 23, .int .u8 11, .int .u8 54, .int .u8 26, .int .u8 40, .int .u8 15, .int .u8 34, .int .u8 20, .int .u8 31, .int .u8 10, .int .u8 25, .int .u8 14, .int .u8 19, .int .u8 9, .int .u8 13, .int .u8 8, .int .u8 7, .int .u8 6] t frozen
    | o => o
  { World.holding Tryd.prog os ⟨#[], #[], []⟩ with heap := h }
end Go.Proofs.YtlbgcpmiedjmoaaDoor.Laid

/- The cells of both tables. -/
set_option maxRecDepth 100000
set_option maxHeartbeats 4000000
namespace Go.Proofs.YtlbgcpmiedjmoaaDoor.Laid
open Go.ChangeShapes Go.WideShapes Go.ChangeAt Go.RowKit Go.Am
theorem gPow : Tryd.prog.globalNamed "internal/strconv.uint64pow10" = some 2 := by kernel_rfl
theorem text_cells {W : World} (h : laidMetH Tryd.prog Rows.imageGreysRow.laid W) : ∀ t ∈ aroundT ++ powT, ∀ (i : Nat) (v : AVal), t.2[i]? = some v → ∃ x, emb (fun _ => none) v = some x ∧ W.cell? ⟨t.1, i, none⟩ = some x := by
  intro t ht i v hv
  rcases List.mem_append.1 ht with ht | ht
  · exact around_cells h t ht i v hv
  have h1 : laidMet Tryd.prog Rows.imageGreysRow.laid W := h
  simp only [powT, List.mem_singleton] at ht
  subst ht
  have key : ∀ (l : List Value), flatD 3 Rows.laid_internal_strconv_uint64pow10 (Hd := Unit) = l → embL (fun _ => none) [.int .u64 1, .int .u64 10, .int .u64 100, .int .u64 1000, .int .u64 10000, .int .u64 100000, .int .u64 1000000, .int .u64 10000000, .int .u64 100000000, .int .u64 1000000000, .int .u64 10000000000, .int .u64 100000000000, .int .u64 1000000000000, .int .u64 10000000000000, .int .u64 100000000000000, .int .u64 1000000000000000, .int .u64 10000000000000000, .int .u64 100000000000000000, .int .u64 1000000000000000000, .int .u64 10000000000000000000] = some l → ∃ x, emb (fun _ => none) v = some x ∧ W.cell? ⟨2, i, none⟩ = some x := by
    intro l h2 h3
    obtain ⟨x, h4, h5⟩ := embL_get h3 hv
    exact ⟨x, h4, laid_cells laidOut rowed h1 (by simp [Rows.imageGreysRow]) (n := 3) gPow (by kernel_rfl : (Tryd.prog.globals[2]?).map (·.type) = some 205) (by decide +kernel) (by kernel_rfl) h2 h5⟩
  exact key _ rfl (by kernel_rfl)
theorem tablesIn_append {a b : List (Nat × List AVal)} {H : AHeap} (h : tablesIn (a ++ b) H = true) : tablesIn a H = true ∧ tablesIn b H = true := by
  unfold tablesIn at h ⊢
  rw [List.all_append, Bool.and_eq_true] at h
  exact h
end Go.Proofs.YtlbgcpmiedjmoaaDoor.Laid

/- Regions without order in contracts, with rows made and guards. -/
namespace Go.Am
open Go

def madeOk (op : ROp) (fr : AFrame) (ref : Nat) (H : AHeap) : Bool := match op.made fr with
  | some (cs, e, _) => ghostIs H ref cs e
  | none => false

/-- The rest of a region: n are done; the next row made is ref; E: the effects so far, with the heaps before them; Rd: what was read or made so far. -/
def WpE (call : ACall) (n ref : Nat) (its : List DItem) (H0 : AHeap) (E : List (Nat × AHeap)) (Rd : List (Nat × (AHeap → Bool))) (fr : AFrame) (H : AHeap) (K : AFrame → AHeap → Prop) : Prop :=
  ∀ R0 E0 Rd0, R0.length = n → (∀ p ∈ E0, p ∈ E) → (∀ p ∈ Rd0, (p.1, DRec.okAt p.2) ∈ Rd) → DInv R0 H0 H E0 Rd0 → ∃ R1 fr' H', dtext call its ref fr H = some (R1, fr', H') ∧ dcheck (R0 ++ R1) H0 (R0 ++ R1) 0 = true ∧ K fr' H'

/-- Every effect so far comes before, or did not matter. -/
def AllE (b : Nat) (ok : AHeap → Prop) : List (Nat × AHeap) → Prop
  | [] => True
  | p :: l => (b.testBit p.1 = true ∨ ok p.2) ∧ AllE b ok l
/-- Everything read so far comes before, or still holds. -/
def AllR (b : Nat) (H : AHeap) : List (Nat × (AHeap → Bool)) → Prop
  | [] => True
  | p :: l => (b.testBit p.1 = true ∨ p.2 H = true) ∧ AllR b H l
theorem AllE.imp {b : Nat} {ok ok' : AHeap → Prop} (f : ∀ H, ok H → ok' H) : ∀ {l : List (Nat × AHeap)}, AllE b ok l → AllE b ok' l
  | [], _ => trivial
  | _ :: _, h => ⟨h.1.imp id (f _), AllE.imp f h.2⟩
theorem AllE.get {b : Nat} {ok : AHeap → Prop} {l : List (Nat × AHeap)} (h : AllE b ok l) : ∀ p ∈ l, b.testBit p.1 = true ∨ ok p.2 := by
  induction l with
  | nil => simp
  | cons q l ih => intro p hp; rcases List.mem_cons.1 hp with rfl | hp; exact h.1; exact ih h.2 p hp
theorem AllR.get {b : Nat} {H : AHeap} {l : List (Nat × (AHeap → Bool))} (h : AllR b H l) : ∀ p ∈ l, b.testBit p.1 = true ∨ p.2 H = true := by
  induction l with
  | nil => simp
  | cons q l ih => intro p hp; rcases List.mem_cons.1 hp with rfl | hp; exact h.1; exact ih h.2 p hp

theorem madeOk_eq {r : DRec} (hc : Nat.beq r.cls 3 = true) : r.okAt = madeOk r.o.op r.fr r.ref := by
  funext H
  unfold DRec.okAt madeOk
  rw [hc]
  rfl

section
variable {call : ACall} {lf n ref : Nat} {its : List DItem} {H0 H H1 : AHeap} {E : List (Nat × AHeap)} {Rd : List (Nat × (AHeap → Bool))} {fr : AFrame} {K : AFrame → AHeap → Prop} {Q : RExit → AFrame → AHeap → Prop} {op : ROp} {v : AVal} {b : Nat} {pre : Bool} {g : Option (Nat × Bool)}

theorem WpE.nil (h : K fr H) : WpE call n ref [] H0 E Rd fr H K := fun R0 E0 Rd0 _ _ _ hI => ⟨[], fr, H, rfl, by rw [List.append_nil]; exact hI.done, h⟩

theorem WpE.next {it : DItem} {R0 : List DRec} {r : DRec} {E' : List (Nat × AHeap)} {Rd' : List (Nat × (AHeap → Bool))} {E0' : List (Nat × AHeap)} {Rd0' : List (Nat × DRec)} {fr1 : AFrame} (hn : R0.length = n) (he : ∀ p ∈ E0', p ∈ E') (hrd : ∀ p ∈ Rd0', (p.1, DRec.okAt p.2) ∈ Rd')
    (hI : DInv (R0 ++ [r]) H0 H1 E0' Rd0') (hd : ∀ R1 fr' H', dtext call its (nextRef it.cls ref) fr1 H1 = some (R1, fr', H') → dtext call (it :: its) ref fr H = some (r :: R1, fr', H')) (h : WpE call (n + 1) (nextRef it.cls ref) its H0 E' Rd' fr1 H1 K) :
    ∃ R1 fr' H', dtext call (it :: its) ref fr H = some (R1, fr', H') ∧ dcheck (R0 ++ R1) H0 (R0 ++ R1) 0 = true ∧ K fr' H' := by
  obtain ⟨R1, fr', H', h1, h2, h3⟩ := h (R0 ++ [r]) E0' Rd0' (by simp [hn]) he hrd hI
  exact ⟨r :: R1, fr', H', hd _ _ _ h1, by rw [List.append_assoc] at h2; exact h2, h3⟩

theorem WpE.skip {d : Option Nat} {cls : Nat} (hw : ROper.wanted fr ⟨d, op, g⟩ = false) (h : WpE call (n + 1) (nextRef cls ref) its H0 E Rd (put fr d aundef) H K) : WpE call n ref (⟨⟨d, op, g⟩, b, cls, pre⟩ :: its) H0 E Rd fr H K := fun R0 E0 Rd0 hn he hrd hI =>
  WpE.next (r := ⟨⟨d, op, g⟩, b, cls, fr, aundef, false, false, H, ref⟩) hn he hrd (hI.plain rfl rfl) (fun R1 fr' H' hd => by
    simp only [dtext, hw, hd]) h
theorem WpE.pure {d : Option Nat} (hw : ROper.wanted fr ⟨d, op, g⟩ = true) (hx : op.exec noCall fr H = some (v, H)) (h : WpE call (n + 1) ref its H0 E Rd (put fr d v) H K) : WpE call n ref (⟨⟨d, op, g⟩, b, 0, pre⟩ :: its) H0 E Rd fr H K := fun R0 E0 Rd0 hn he hrd hI =>
  WpE.next (r := ⟨⟨d, op, g⟩, b, 0, fr, v, true, false, H, ref⟩) hn he hrd (hI.plain rfl rfl) (fun R1 fr' H' hd => by
    simp only [dtext, hw, dstep, look_of hx rfl]
    simp only [Nat.beq, nextRef] at hd ⊢
    simp [hd]) h
theorem WpE.look {d : Option Nat} (hw : ROper.wanted fr ⟨d, op, g⟩ = true) (hx : op.look fr H = some v) (hE : AllE b (fun H2 => op.look fr H2 = some v) E) (h : WpE call (n + 1) ref its H0 E ((n, readOk op fr v) :: Rd) (put fr d v) H K) : WpE call n ref (⟨⟨d, op, g⟩, b, 1, pre⟩ :: its) H0 E Rd fr H K := fun R0 E0 Rd0 hn he hrd hI =>
  WpE.next (r := ⟨⟨d, op, g⟩, b, 1, fr, v, true, false, H, ref⟩) (Rd0' := Rd0 ++ [(R0.length, ⟨⟨d, op, g⟩, b, 1, fr, v, true, false, H, ref⟩)]) hn he (by
      intro p hp
      rcases List.mem_append.1 hp with hp | hp
      · exact List.mem_cons_of_mem _ (hrd p hp)
      · simp only [List.mem_singleton] at hp
        subst hp
        rw [hn, readOk_eq rfl]
        exact List.mem_cons_self)
    (hI.read rfl (okAt_look rfl hx) (fun p hp => (hE.get p (he p hp)).imp id fun q => okAt_look rfl q)) (fun R1 fr' H' hd => by
    simp only [dtext, hw, dstep, hx]
    simp only [Nat.beq, nextRef] at hd ⊢
    simp [hd]) h
theorem WpE.read {d : Option Nat} (hw : ROper.wanted fr ⟨d, op, g⟩ = true) (hx : op.exec noCall fr H = some (v, H)) (hE : AllE b (fun H2 => op.exec noCall fr H2 = some (v, H2)) E) (h : WpE call (n + 1) ref its H0 E ((n, readOk op fr v) :: Rd) (put fr d v) H K) : WpE call n ref (⟨⟨d, op, g⟩, b, 1, pre⟩ :: its) H0 E Rd fr H K :=
  WpE.look hw (look_of hx rfl) (AllE.imp (fun H2 q => look_of q rfl) hE) h
theorem WpE.effect {d : Option Nat} (hw : ROper.wanted fr ⟨d, op, g⟩ = true) (hx : op.exec call fr H = some (v, H1)) (hR : AllR b H1 Rd) (h : WpE call (n + 1) ref its H0 ((n, H) :: E) Rd (put fr d v) H1 K) : WpE call n ref (⟨⟨d, op, g⟩, b, 2, pre⟩ :: its) H0 E Rd fr H K := fun R0 E0 Rd0 hn he hrd hI =>
  WpE.next (r := ⟨⟨d, op, g⟩, b, 2, fr, v, true, true, H1, ref⟩) (E0' := E0 ++ [(n, H)]) hn (by
      intro p hp
      rcases List.mem_append.1 hp with hp | hp
      · exact List.mem_cons_of_mem _ (he p hp)
      · simp only [List.mem_singleton] at hp
        subst hp
        exact List.mem_cons_self) hrd (by
      have := hI.effect (e := ⟨⟨d, op, g⟩, b, 2, fr, v, true, true, H1, ref⟩) rfl rfl fun p hp => hR.get (p.1, p.2.okAt) (hrd p hp)
      rw [hn] at this; exact this) (fun R1 fr' H' hd => by
    simp only [dtext, hw, dstep, hx]
    simp only [Nat.beq, nextRef] at hd ⊢
    simp [hd]) h
theorem WpE.made {d : Option Nat} {cs : List AVal} {e : TypeId} {k : Nat → AVal} (hw : ROper.wanted fr ⟨d, op, g⟩ = true) (hm : op.made fr = some (cs, e, k)) (hg : ghostIs H ref cs e = true) (hE : AllE b (fun H2 => ghostIs H2 ref cs e = true) E) (h : WpE call (n + 1) (ref + 1) its H0 E ((n, madeOk op fr ref) :: Rd) (put fr d (k ref)) H K) : WpE call n ref (⟨⟨d, op, g⟩, b, 3, pre⟩ :: its) H0 E Rd fr H K := fun R0 E0 Rd0 hn he hrd hI =>
  WpE.next (r := ⟨⟨d, op, g⟩, b, 3, fr, k ref, true, false, H, ref⟩) (Rd0' := Rd0 ++ [(R0.length, ⟨⟨d, op, g⟩, b, 3, fr, k ref, true, false, H, ref⟩)]) hn he (by
      intro p hp
      rcases List.mem_append.1 hp with hp | hp
      · exact List.mem_cons_of_mem _ (hrd p hp)
      · simp only [List.mem_singleton] at hp
        subst hp
        rw [hn, madeOk_eq rfl]
        exact List.mem_cons_self)
    (hI.read rfl (by simp only [DRec.okAt, Nat.beq, hm, hg]) (fun p hp => (hE.get p (he p hp)).imp id fun q => by simp only [DRec.okAt, Nat.beq, hm, q])) (fun R1 fr' H' hd => by
    simp only [dtext, hw, dstep]
    simp only [Nat.beq, nextRef, hm, hg] at hd ⊢
    simp [hd]) h

theorem ghost_of {r : Nat} {cs : List AVal} {e : TypeId} [h : HasRow H r cs true (2 * e)] : ghostIs H r cs e = true := by
  unfold ghostIs
  have hlt := h.lt
  simp only [h.get, abeqL_refl, Nat.beq_refl, Bool.and_true, Bool.and_self]
  simpa using hlt
theorem made_of {r : Nat} {cs : List AVal} {e : TypeId} {k : Nat → AVal} (hm : op.made fr = some (cs, e, k)) [h : HasRow H r cs true (2 * e)] : madeOk op fr r H = true := by
  unfold madeOk
  rw [hm]
  exact ghost_of

theorem Wp.dregionE (os : List AObj) (ho : oracle its H.n fr H = os) (h : WpE call 0 H.n its (pushAll H os) [] [] fr (pushAll H os) fun fr' H' => Q .normal fr' H') : Wp call lf (.dregion its) fr H Q := by
  obtain ⟨R1, fr', H', h1, h2, h3⟩ := h [] [] [] rfl (by simp) (by simp) (DInv.nil _)
  refine ⟨.normal, fr', H', ?_, h3⟩
  simp only [RCode.exec, ho, h1]
  simp only [List.nil_append] at h2
  rw [h2]
/-- No rows are made. -/
theorem Wp.dregion0 (hno : (its.all fun it => !(Nat.beq it.cls 3)) = true) (h : WpE call 0 H.n its H [] [] fr H fun fr' H' => Q .normal fr' H') : Wp call lf (.dregion its) fr H Q :=
  Wp.dregionE [] (oracle_none its H.n fr H hno) h

theorem oracle_pre {it : DItem} {os : List AObj} {v : AVal} {H2 : AHeap} (hc : Nat.beq it.cls 3 = false) (hp : it.pre = true) (hw : it.o.wanted fr = true) (hx : it.o.op.exec noCall fr H = some (v, H2)) (h : oracle its ref (put fr it.o.dst v) H = os) : oracle (it :: its) ref fr H = os := by
  simp only [oracle, hc, hp, hw, hx, h]
theorem oracle_made {it : DItem} {os : List AObj} {cs : List AVal} {e : TypeId} {k : Nat → AVal} (hc : Nat.beq it.cls 3 = true) (hw : it.o.wanted fr = true) (hm : it.o.op.made fr = some (cs, e, k)) (h : oracle its (ref + 1) (put fr it.o.dst (k ref)) H = os) : oracle (it :: its) ref fr H = .row cs true (2 * e) :: os := by
  simp only [oracle, hc, hw, hm, h]
end

theorem WpE.pcall {ext : Exts} {prog : FuncId → Option RFunc} {m dd D : Nat} {f : FuncId} {o : ROpd} {l : List ROpd} {args : List AVal} {v : AVal} {d : Option Nat} {n ref : Nat} {its : List DItem} {H0 H : AHeap} {E : List (Nat × AHeap)} {Rd : List (Nat × (AHeap → Bool))} {fr : AFrame} {K : AFrame → AHeap → Prop} {b : Nat} {pre : Bool} {g : Option (Nat × Bool)}
    (hw : ROper.wanted fr ⟨d, .call o l, g⟩ = true) (hn : fuel0 + D ≤ m) (hf : o.ev fr = .func (.func f) [] []) (hl : l.map (·.ev fr) = args) [hc : PureCon ext prog f args H dd v] (hd : Nat.ble dd D = true)
    (h : ∀ H1, ExtI H H1 → AllR b H1 Rd ∧ WpE (callN ext prog m) (n + 1) ref its H0 ((n, H) :: E) Rd (put fr d v) H1 K) : WpE (callN ext prog m) n ref (⟨⟨d, .call o l, g⟩, b, 2, pre⟩ :: its) H0 E Rd fr H K := by
  obtain ⟨v', H1, hx, hv, hext⟩ := exec_con hc.con (Nat.le_trans (Nat.add_le_add_left (Nat.le_of_ble_eq_true hd) _) hn) hf hl
  subst hv
  obtain ⟨h1, h2⟩ := h H1 ⟨hext⟩
  exact WpE.effect hw hx h1 h2
theorem WpE.con {ext : Exts} {prog : FuncId → Option RFunc} {m dd D : Nat} {f : FuncId} {o : ROpd} {l : List ROpd} {args : List AVal} {R : AVal → AHeap → Prop} {d : Option Nat} {n ref : Nat} {its : List DItem} {H0 H : AHeap} {E : List (Nat × AHeap)} {Rd : List (Nat × (AHeap → Bool))} {fr : AFrame} {K : AFrame → AHeap → Prop} {b : Nat} {pre : Bool} {g : Option (Nat × Bool)}
    (hw : ROper.wanted fr ⟨d, .call o l, g⟩ = true) (hn : fuel0 + D ≤ m) (hd : Nat.ble dd D = true) (hf : o.ev fr = .func (.func f) [] []) (hl : l.map (·.ev fr) = args) (hc : Con ext prog dd f args H R)
    (h : ∀ v H1, R v H1 → AllR b H1 Rd ∧ WpE (callN ext prog m) (n + 1) ref its H0 ((n, H) :: E) Rd (put fr d v) H1 K) : WpE (callN ext prog m) n ref (⟨⟨d, .call o l, g⟩, b, 2, pre⟩ :: its) H0 E Rd fr H K := by
  obtain ⟨v', H1, hx, hv⟩ := exec_con hc (Nat.le_trans (Nat.add_le_add_left (Nat.le_of_ble_eq_true hd) _) hn) hf hl
  obtain ⟨h1, h2⟩ := h v' H1 hv
  exact WpE.effect hw hx h1 h2
section
variable {call : ACall} {fr : AFrame} {H : AHeap}
theorem exec_ldN {a : ROpd} {n r off : Nat} {cs : List AVal} {rw : Bool} {e : TypeId} {l : List AVal} (ha : a.ev fr = .ptr r off) [hg : HasRow H r cs rw e] (hv : Nat.ble (off + n) cs.length = true) (hl : (cs.drop off).take n = l) : (ROp.load (some n) a).exec call fr H = some (.agg l, H) := by
  subst hl
  simp only [ROp.exec, ha, aLoad, M.bind, aRow, if_pos hg.lt, hg.get, if_pos (Nat.le_of_ble_eq_true hv), M.pure]
theorem exec_lenP {x : ROpd} {p : AVal} {sz n : Nat} {cs : List AVal} (hx : x.ev fr = p) [s : SliceAt H p sz n cs] : (ROp.lenS x).exec call fr H = some (.int .i64 n, H) := by
  simp only [ROp.exec, hx, s.lenS, M.ofOption, M.pure]
theorem exec_ldB {a : ROpd} {p : AVal} {j : Nat} {l : List UInt8} (ha : a.ev fr = .ptr (rowOf p) (offOf p + j)) [s : BytesI H p l] (hj : j < l.length) : (ROp.load none a).exec call fr H = some (.int .u8 (l[j].toNat : Int), H) := exec_ldP ha (get_bytes hj)
theorem exec_ldI {a : ROpd} {p : AVal} {j : Nat} {l : List Int} (ha : a.ev fr = .ptr (rowOf p) (offOf p + j)) [s : IntsI H p l] (hj : j < l.length) : (ROp.load none a).exec call fr H = some (.int .i64 l[j], H) := exec_ldP ha (get_ints hj)
end

end Go.Am

/- Bytes: bits, counts, one-byte slices. -/
namespace Go.Am
open Go

theorem ofInt_u8 (a : UInt8) : BitVec.ofInt 8 (a.toNat : Int) = a.toBitVec := by
  apply BitVec.eq_of_toNat_eq
  rw [BitVec.ofInt_natCast, BitVec.toNat_ofNat]
  have := a.toNat_lt
  exact Nat.mod_eq_of_lt (by omega)
theorem wrap_u8 {n : Nat} (h : n < 256) : IntKind.u8.wrap (n : Int) = (n : Int) := by
  have h1 : IntKind.u8.wrap (n : Int) = if (false && decide ((n : Int) % 2 ^ 8 ≥ 2 ^ 7)) = true then (n : Int) % 2 ^ 8 - 2 ^ 8 else (n : Int) % 2 ^ 8 := rfl
  rw [h1]
  simp only [Bool.false_and, Bool.false_eq_true, if_false]
  omega
theorem bits_xor (a b : UInt8) : Go.bits .xor .u8 (a.toNat : Int) (b.toNat : Int) = ((a ^^^ b).toNat : Int) := by
  show IntKind.u8.wrap ((BitVec.ofInt 8 (a.toNat : Int) ^^^ BitVec.ofInt 8 (b.toNat : Int)).toNat : Int) = _
  rw [ofInt_u8, ofInt_u8]
  exact wrap_u8 (by have := (a ^^^ b).toNat_lt; exact this)
theorem bits_and (a b : UInt8) : Go.bits .and .u8 (a.toNat : Int) (b.toNat : Int) = ((a &&& b).toNat : Int) := by
  show IntKind.u8.wrap ((BitVec.ofInt 8 (a.toNat : Int) &&& BitVec.ofInt 8 (b.toNat : Int)).toNat : Int) = _
  rw [ofInt_u8, ofInt_u8]
  exact wrap_u8 (by have := (a &&& b).toNat_lt; exact this)
theorem bits_or (a b : UInt8) : Go.bits .or .u8 (a.toNat : Int) (b.toNat : Int) = ((a ||| b).toNat : Int) := by
  show IntKind.u8.wrap ((BitVec.ofInt 8 (a.toNat : Int) ||| BitVec.ofInt 8 (b.toNat : Int)).toNat : Int) = _
  rw [ofInt_u8, ofInt_u8]
  exact wrap_u8 (by have := (a ||| b).toNat_lt; exact this)
theorem bits_andNot (a b : UInt8) : Go.bits .andNot .u8 (a.toNat : Int) (b.toNat : Int) = ((a &&& ~~~b).toNat : Int) := by
  show IntKind.u8.wrap ((BitVec.ofInt 8 (a.toNat : Int) &&& ~~~(BitVec.ofInt 8 (b.toNat : Int))).toNat : Int) = _
  rw [ofInt_u8, ofInt_u8]
  exact wrap_u8 (by have := (a &&& ~~~b).toNat_lt; exact this)

class IsU8 (k : Int) (b : outParam UInt8) : Prop where
  eq : k = (b.toNat : Int)
instance : IsU8 0 0 := ⟨rfl⟩
instance : IsU8 1 1 := ⟨rfl⟩
instance {b : UInt8} : IsU8 (b.toNat : Int) b := ⟨rfl⟩
instance {H : AHeap} {r : Nat} {k : Int} {b : UInt8} {rw : Bool} {e : TypeId} [h : HasRow H r [.int .u8 k] rw e] [x : IsU8 k b] : BytesI H (.slice r 0 1 (some 1) 1) [b] :=
  ⟨Or.inr ⟨r, 0, some 1, _, rw, e, rfl, h.lt, h.get, by simp, by rw [x.eq]; rfl, Nat.le_refl _⟩⟩

theorem bytesOf_cellsB (l : List UInt8) : bytesOf (cellsB l) = some l := by
  induction l with
  | nil => rfl
  | cons b l ih =>
    show (match bytesOf (cellsB l) with | some l => some (UInt8.ofNat ((b.toNat : Int)).toNat :: l) | none => none) = _
    rw [ih]
    simp
theorem aBytesFn_at {H : AHeap} {p : AVal} {l : List UInt8} [h : BytesI H p l] (f : List UInt8 → AVal) : aBytesFn f p H = some (f l, H) := by
  rcases h.it with ⟨rfl, h0, _⟩ | ⟨r, off, cap, row, rw, e, rfl, hr, hg, hl, hc, _⟩
  · have : l = [] := List.eq_nil_of_length_eq_zero h0
    subst this; rfl
  · have hl' : off + l.length ≤ row.length := by omega
    have hc' : (row.drop off).take l.length = cellsB l := by rw [← hc, Nat.mul_one]
    simp only [aBytesFn, ne_eq, not_true, if_false, M.bind, aRow, if_pos hr, hg, if_pos hl', hc', bytesOf_cellsB, M.pure]

/-- Ink and paper alone. -/
def pxOk (l : List UInt8) : Bool := l.all fun b => b == 0 || b == 1
theorem count01 (l : List UInt8) : (l.count 0 + l.count 1 = l.length) ↔ pxOk l = true := by
  induction l with
  | nil => simp [pxOk]
  | cons b l ih =>
    have hle : l.count 0 + l.count 1 ≤ l.length := by
      clear ih
      induction l with
      | nil => simp
      | cons c l ihl =>
        simp only [List.count_cons, List.length_cons]
        by_cases h0 : c = 0
        · subst h0; simp; omega
        · by_cases h1 : c = 1
          · subst h1; simp; omega
          · simp [h0, h1]; omega
    simp only [pxOk, List.all_cons, Bool.and_eq_true, Bool.or_eq_true, beq_iff_eq, List.count_cons, List.length_cons] at ih ⊢
    by_cases h0 : b = 0
    · subst h0; simp at ih ⊢; rw [← ih]; omega
    · by_cases h1 : b = 1
      · subst h1; simp at ih ⊢; rw [← ih]; omega
      · simp [h0, h1]; omega
theorem count_le (l : List UInt8) (b : UInt8) : l.count b ≤ l.length := List.count_le_length
end Go.Am
namespace Go.Am
open Go
theorem bind_of {α β : Type} {x : M α} {f : α → M β} {H H' : AHeap} {a : α} (h : x H = some (a, H')) : M.bind x f H = f a H' := by simp [M.bind, h]
end Go.Am
namespace Go.Am
open Go
section
variable {call : ACall} {n ref : Nat} {its : List DItem} {H0 H : AHeap} {E : List (Nat × AHeap)} {Rd : List (Nat × (AHeap → Bool))} {fr : AFrame} {K : AFrame → AHeap → Prop} {b : Nat} {pre : Bool} {g : Option (Nat × Bool)}
theorem WpE.stB {d : Option Nat} {a x : ROpd} {p : AVal} {j : Nat} {l : List UInt8} {k : Int} (c : UInt8) (hw : ROper.wanted fr ⟨d, .store 1 a x, g⟩ = true) (ha : a.ev fr = .ptr (rowOf p) (offOf p + j)) (hx : x.ev fr = .int .u8 k) (hk : k = (c.toNat : Int)) [s : BytesI H p l] [w : WrS H p] (hj : j < l.length)
    (h : ∀ H1, BytesI H1 p (l.set j c) → WrS H1 p → ExtP H H1 p → AllR b H1 Rd ∧ WpE call (n + 1) ref its H0 ((n, H) :: E) Rd (put fr d aundef) H1 K) : WpE call n ref (⟨⟨d, .store 1 a x, g⟩, b, 2, pre⟩ :: its) H0 E Rd fr H K := by
  obtain ⟨v, H1, h1, rfl, h2, h3, h4⟩ := WpX.stB (call := call) (K := fun v H1 => v = aundef ∧ BytesI H1 p (l.set j c) ∧ WrS H1 p ∧ ExtP H H1 p) c ha hx hk hj fun H1 q1 q2 q3 => ⟨rfl, q1, q2, q3⟩
  obtain ⟨h5, h6⟩ := h H1 h2 h3 h4
  exact WpE.effect hw h1 h5 h6
end
end Go.Am

/- Steps that put in order only what is new. -/
namespace Go.Am
open Go

theorem ag0 (v : AVal) (vs : List AVal) : argFrame (v :: vs) 0 = v := rfl
theorem ag1 (v w : AVal) (vs : List AVal) : argFrame (v :: w :: vs) 1 = w := rfl
theorem ag2 (v w x : AVal) (vs : List AVal) : argFrame (v :: w :: x :: vs) 2 = x := rfl
theorem ag3 (v w x y : AVal) (vs : List AVal) : argFrame (v :: w :: x :: y :: vs) 3 = y := rfl
theorem ag4 (v w x y z : AVal) (vs : List AVal) : argFrame (v :: w :: x :: y :: z :: vs) 4 = z := rfl
theorem fx1 (fr : AFrame) : updL [] fr = fr := rfl
theorem fx2 (p : Nat × AVal) (l : List (Nat × AVal)) (fr : AFrame) : updL (p :: l) fr = upd (updL l fr) p.1 p.2 := rfl
theorem fx3 (g fr : AFrame) : mix [] g fr = fr := rfl
theorem fx4 (d : Nat) (D : List Nat) (g fr : AFrame) : mix (d :: D) g fr = upd (mix D g fr) d (g d) := rfl
theorem nrmS : (∀ (a b : AVal) l, (a :: l).set 4 b = a :: l.set 3 b) ∧ (∀ (a b : AVal) l, (a :: l).set 5 b = a :: l.set 4 b) ∧ (∀ (a b : AVal) l, (a :: l).set 6 b = a :: l.set 5 b) ∧ (∀ (a b : AVal) l, (a :: l).set 7 b = a :: l.set 6 b) ∧ (∀ (a b : AVal) l, (a :: l).set 8 b = a :: l.set 7 b) ∧ (∀ (a b : AVal) l, (a :: l).set 9 b = a :: l.set 8 b) ∧ (∀ (a b : AVal) l, (a :: l).set 10 b = a :: l.set 9 b) ∧ (∀ (a b : AVal) l, (a :: l).set 11 b = a :: l.set 10 b) ∧ (∀ (a b : AVal) l, (a :: l).set 12 b = a :: l.set 11 b) ∧ (∀ (a b : AVal) l, (a :: l).set 13 b = a :: l.set 12 b) ∧ (∀ (a b : AVal) l, (a :: l).set 14 b = a :: l.set 13 b) ∧ (∀ (a b : AVal) l, (a :: l).set 15 b = a :: l.set 14 b) := ⟨fun _ _ _ => rfl, fun _ _ _ => rfl, fun _ _ _ => rfl, fun _ _ _ => rfl, fun _ _ _ => rfl, fun _ _ _ => rfl, fun _ _ _ => rfl, fun _ _ _ => rfl, fun _ _ _ => rfl, fun _ _ _ => rfl, fun _ _ _ => rfl, fun _ _ _ => rfl⟩
theorem nrmK : (∀ v vs, argFrame (v :: vs) 0 = v) ∧ (∀ v w vs, argFrame (v :: w :: vs) 1 = w) ∧ (∀ v w x vs, argFrame (v :: w :: x :: vs) 2 = x) ∧ (∀ v w x y vs, argFrame (v :: w :: x :: y :: vs) 3 = y) ∧ (∀ v w x y z vs, argFrame (v :: w :: x :: y :: z :: vs) 4 = z) ∧ (∀ v w x y z u vs, argFrame (v :: w :: x :: y :: z :: u :: vs) 5 = u) ∧ (∀ fr, updL [] fr = fr) ∧ (∀ p l fr, updL (p :: l) fr = upd (updL l fr) p.1 p.2) ∧ (∀ g fr, mix [] g fr = fr) ∧ (∀ d D g fr, mix (d :: D) g fr = upd (mix D g fr) d (g d)) := ⟨ag0, ag1, ag2, ag3, ag4, fun _ _ _ _ _ _ _ => rfl, fx1, fx2, fx3, fx4⟩
theorem nrmL : (∀ fr t, ROpd.ev fr (.tmp t) = fr t) ∧ (∀ fr v, ROpd.ev fr (.val v) = v) ∧ (∀ fr d v i, upd fr d v i = if i = d then v else fr i) := ⟨fun _ _ => rfl, fun _ _ => rfl, upd_at⟩

section
variable {call : ACall} {lf : Nat} {fr : AFrame} {H : AHeap} {Q : RExit → AFrame → AHeap → Prop} {KF : AFrame → AHeap → Prop} {os : List ROper} {d : Nat}
/-- A region, what comes behind it out of sight. -/
theorem Fr.region {ops : List ROper} (h : ∀ KF : AFrame → AHeap → Prop, (∀ fr' H', Q .normal fr' H' → KF fr' H') → WpO call ops fr H KF) : Wp call lf (.region ops) fr H Q := Wp.region (h _ fun _ _ q => q)
theorem Fr.quiet {its : List DItem} {ops : List ROper} (hq : quiet its = true) (ho : opsOf its = ops) (h : ∀ KF : AFrame → AHeap → Prop, (∀ fr' H', Q .normal fr' H' → KF fr' H') → WpO call ops fr H KF) : Wp call lf (.dregion its) fr H Q := Wp.dquiet hq ho (h _ fun _ _ q => q)
theorem Fr.dregion0 {its : List DItem} (hno : (its.all fun it => !(Nat.beq it.cls 3)) = true) (h : ∀ KF : AFrame → AHeap → Prop, (∀ fr' H', Q .normal fr' H' → KF fr' H') → WpE call 0 H.n its H [] [] fr H KF) : Wp call lf (.dregion its) fr H Q := Wp.dregion0 hno (h _ fun _ _ q => q)
theorem Fr.dregionE {its : List DItem} (os : List AObj) (ho : oracle its H.n fr H = os) (h : ∀ KF : AFrame → AHeap → Prop, (∀ fr' H', Q .normal fr' H' → KF fr' H') → WpE call 0 H.n its (pushAll H os) [] [] fr (pushAll H os) KF) : Wp call lf (.dregion its) fr H Q := Wp.dregionE os ho (h _ fun _ _ q => q)

theorem Fo.ld {a : ROpd} {r off : Nat} {cs : List AVal} {rw : Bool} {e : TypeId} {v : AVal} (ha : a.ev fr = .ptr r off) [hg : HasRow H r cs rw e] (hv : cs[off]? = some v) (h : WpO call os (upd fr d v) H KF) : WpO call (⟨some d, .load none a, none⟩ :: os) fr H KF := WpO.do (WpX.ld ha hv h)
theorem Fo.ldN {a : ROpd} {n r off : Nat} {cs : List AVal} {rw : Bool} {e : TypeId} {l : List AVal} (ha : a.ev fr = .ptr r off) [hg : HasRow H r cs rw e] (hv : Nat.ble (off + n) cs.length = true) (hl : (cs.drop off).take n = l) (h : WpO call os (upd fr d (.agg l)) H KF) : WpO call (⟨some d, .load (some n) a, none⟩ :: os) fr H KF := WpO.do (WpX.ldN ha hv hl h)
theorem Fo.len {x : ROpd} {p v : AVal} {sz n : Nat} {cs : List AVal} (hx : x.ev fr = p) [s : SliceAt H p sz n cs] (hv : AVal.int .i64 n = v) (h : WpO call os (upd fr d v) H KF) : WpO call (⟨some d, .lenS x, none⟩ :: os) fr H KF := by subst hv; exact WpO.do (WpX.lenP hx h)
theorem Fo.now {op : ROp} {v v' : AVal} {H1 : AHeap} (_ : nowOk op = true) (hx : op.exec call fr H = some (v, H1)) (hv : v = v') (h : WpO call os (upd fr d v') H1 KF) : WpO call (⟨some d, op, none⟩ :: os) fr H KF := by subst hv; exact WpO.step rfl ⟨v, H1, hx, h⟩
theorem Fo.box {e : TypeId} {x : ROpd} {v : AVal} {cs : List AVal} (hx : x.ev fr = v) (hc : v.cells = cs) (h : WpO call os (upd fr d (.ptr H.n 0)) (H.push (.row cs true (2 * e))) KF) : WpO call (⟨some d, .box e x, none⟩ :: os) fr H KF := by subst hx hc; exact WpO.do (WpX.box h)
theorem Fo.new {e : TypeId} {cs : List AVal} (h : WpO call os (upd fr d (.ptr H.n 0)) (H.push (.row cs true (2 * e))) KF) : WpO call (⟨some d, .new e cs, none⟩ :: os) fr H KF := WpO.do (WpX.new h)
theorem Fo.bslice {e : TypeId} {sz len : Nat} {zero : List AVal} {parts : List (Nat × Nat × ROpd)} {cs cs' : List AVal} (hf : aFill fr zero parts = some cs) (hc : cs = cs') (h : WpO call os (upd fr d (.slice H.n 0 len (some len) sz)) (H.push (.row cs' true (2 * e))) KF) : WpO call (⟨some d, .buildSlice e sz len zero parts, none⟩ :: os) fr H KF := by
  subst hc
  exact WpO.step rfl ⟨_, _, by simp only [ROp.exec, hf, M.bind, aNew, M.pure], h⟩
theorem Fo.st {a x : ROpd} {n r off : Nat} {cs : List AVal} {e : TypeId} {v : AVal} {vs l : List AVal} (ha : a.ev fr = .ptr r off) (hx : x.ev fr = v) (hvs : v.cells = vs) (hn : Nat.beq vs.length n = true) [hg : HasRow H r cs true e] (hl : Nat.ble (off + vs.length) cs.length = true) (ho : vs.all AVal.one = true)
    (hs : setAt cs off vs = l) (h : WpO call os fr (H.set r (.row l true e)) KF) : WpO call (⟨none, .store n a x, none⟩ :: os) fr H KF := WpO.do' (WpX.st ha hx hvs hn hl ho hs h)
theorem Fo.idx {x i : ROpd} {p : AVal} {sz n o : Nat} {cs : List AVal} {k : IntKind} {a : Int} (hx : x.ev fr = p) (hi : i.ev fr = .int k a) [s : SliceAt H p sz n cs] (h0 : 0 ≤ a ∧ a < n) (ho : offOf p + a.toNat * sz = o) (h : WpO call os (upd fr d (.ptr (rowOf p) o)) H KF) : WpO call (⟨some d, .idxS sz x i, none⟩ :: os) fr H KF := by
  subst ho; exact WpO.do (WpX.idxP hx hi h0 h)
theorem Fo.ldB {a : ROpd} {p v : AVal} {j : Nat} {l : List UInt8} (ha : a.ev fr = .ptr (rowOf p) (offOf p + j)) [s : BytesI H p l] (hj : j < l.length) (hv : AVal.int .u8 (l[j].toNat : Int) = v) (h : WpO call os (upd fr d v) H KF) : WpO call (⟨some d, .load none a, none⟩ :: os) fr H KF := by
  subst hv; exact WpO.do (WpX.ldB ha hj h)
theorem Fo.build {z : List AVal} {ps : List (Nat × Nat × ROpd)} {cs cs' : List AVal} (hf : aFill fr z ps = some cs) (hc : cs = cs') (h : WpO call os (upd fr d (.agg cs')) H KF) : WpO call (⟨some d, .build z ps, none⟩ :: os) fr H KF := by
  subst hc; exact WpO.do (WpX.build hf h)
/-- A guard that lets by. -/
theorem Fo.yes {d : Option Nat} {op : ROp} {t : Nat} {want b : Bool} (hb : fr t = .bool b) (hw : b = want) (h : WpO call (⟨d, op, none⟩ :: os) fr H KF) : WpO call (⟨d, op, some (t, want)⟩ :: os) fr H KF := WpO.guard hb (fun _ => h) fun q => absurd hw q
theorem Fo.no {d : Nat} {op : ROp} {t : Nat} {want b : Bool} (hb : fr t = .bool b) (hw : (!b) = want) (h : WpO call os (upd fr d aundef) H KF) : WpO call (⟨some d, op, some (t, want)⟩ :: os) fr H KF := WpO.guard hb (fun q => absurd q (by subst hw; cases b <;> decide)) fun _ => h
/-- A guard that has not been decided, since it was not asked. -/
theorem Fo.noU {d : Nat} {op : ROp} {t : Nat} {want : Bool} (hb : fr t = aundef) (h : WpO call os (upd fr d aundef) H KF) : WpO call (⟨some d, op, some (t, want)⟩ :: os) fr H KF := WpO.skip (by simp only [ROper.wanted, hb, aundef]) h
end
section
variable {ext : Exts} {prog : FuncId → Option RFunc} {fr : AFrame} {H : AHeap} {KF : AFrame → AHeap → Prop} {os : List ROper} {d : Nat}
theorem Fo.pcall {n dd D : Nat} {f : FuncId} {o : ROpd} {l : List ROpd} {args : List AVal} {v v' : AVal} (hn : fuel0 + D ≤ n) (hf : o.ev fr = .func (.func f) [] []) (hl : l.map (·.ev fr) = args) [hc : PureCon ext prog f args H dd v] (hd : Nat.ble dd D = true) (hv : v = v')
    (h : ∀ H1, ExtI H H1 → WpO (callN ext prog n) os (upd fr d v') H1 KF) : WpO (callN ext prog n) (⟨some d, .call o l, none⟩ :: os) fr H KF := by
  subst hv; exact WpO.do (WpX.pcall hn hf hl hd h)
end
section
variable {call : ACall} {n ref : Nat} {its : List DItem} {H0 H H1 : AHeap} {E : List (Nat × AHeap)} {Rd : List (Nat × (AHeap → Bool))} {fr : AFrame} {K : AFrame → AHeap → Prop} {b : Nat} {pre : Bool} {g : Option (Nat × Bool)} {d : Nat}
theorem Fe.pure {op : ROp} {v v' : AVal} (hw : ROper.wanted fr ⟨some d, op, g⟩ = true) (hx : op.exec noCall fr H = some (v, H)) (hv : v = v') (h : WpE call (n + 1) ref its H0 E Rd (upd fr d v') H K) : WpE call n ref (⟨⟨some d, op, g⟩, b, 0, pre⟩ :: its) H0 E Rd fr H K := by
  subst hv; exact WpE.pure hw hx h
theorem Fe.read {op : ROp} {v v' : AVal} (hw : ROper.wanted fr ⟨some d, op, g⟩ = true) (hx : op.exec noCall fr H = some (v, H)) (hv : v = v') (hE : AllE b (fun H2 => op.exec noCall fr H2 = some (v, H2)) E) (h : WpE call (n + 1) ref its H0 E ((n, readOk op fr v) :: Rd) (upd fr d v') H K) : WpE call n ref (⟨⟨some d, op, g⟩, b, 1, pre⟩ :: its) H0 E Rd fr H K := by
  subst hv; exact WpE.read hw hx hE h
theorem Fe.skip {cls : Nat} {op : ROp} (hw : ROper.wanted fr ⟨some d, op, g⟩ = false) (h : WpE call (n + 1) (nextRef cls ref) its H0 E Rd (upd fr d aundef) H K) : WpE call n ref (⟨⟨some d, op, g⟩, b, cls, pre⟩ :: its) H0 E Rd fr H K := WpE.skip hw h
theorem Fe.made {op : ROp} {cs : List AVal} {e : TypeId} {k : Nat → AVal} {v : AVal} (hw : ROper.wanted fr ⟨some d, op, g⟩ = true) (hm : op.made fr = some (cs, e, k)) (hg : ghostIs H ref cs e = true) (hE : AllE b (fun H2 => ghostIs H2 ref cs e = true) E) (hv : k ref = v) (h : WpE call (n + 1) (ref + 1) its H0 E ((n, madeOk op fr ref) :: Rd) (upd fr d v) H K) : WpE call n ref (⟨⟨some d, op, g⟩, b, 3, pre⟩ :: its) H0 E Rd fr H K := by
  subst hv; exact WpE.made hw hm hg hE h
end
section
variable {ext : Exts} {prog : FuncId → Option RFunc} {n ref : Nat} {its : List DItem} {H0 H H1 : AHeap} {E : List (Nat × AHeap)} {Rd : List (Nat × (AHeap → Bool))} {fr : AFrame} {K : AFrame → AHeap → Prop} {b : Nat} {pre : Bool} {g : Option (Nat × Bool)} {d : Nat}
theorem Fe.pcall {m dd D : Nat} {f : FuncId} {o : ROpd} {l : List ROpd} {args : List AVal} {v v' : AVal} (hw : ROper.wanted fr ⟨some d, .call o l, g⟩ = true) (hn : fuel0 + D ≤ m) (hf : o.ev fr = .func (.func f) [] []) (hl : l.map (·.ev fr) = args) [hc : PureCon ext prog f args H dd v] (hd : Nat.ble dd D = true) (hv : v = v')
    (h : ∀ H1, ExtI H H1 → AllR b H1 Rd ∧ WpE (callN ext prog m) (n + 1) ref its H0 ((n, H) :: E) Rd (upd fr d v') H1 K) : WpE (callN ext prog m) n ref (⟨⟨some d, .call o l, g⟩, b, 2, pre⟩ :: its) H0 E Rd fr H K := by
  subst hv; exact WpE.pcall hw hn hf hl hd h
theorem Fe.con {m dd D : Nat} {f : FuncId} {o : ROpd} {l : List ROpd} {args : List AVal} {R : AVal → AHeap → Prop} (hw : ROper.wanted fr ⟨some d, .call o l, g⟩ = true) (hn : fuel0 + D ≤ m) (hd : Nat.ble dd D = true) (hf : o.ev fr = .func (.func f) [] []) (hl : l.map (·.ev fr) = args) (hc : Con ext prog dd f args H R)
    (h : ∀ v H1, R v H1 → AllR b H1 Rd ∧ WpE (callN ext prog m) (n + 1) ref its H0 ((n, H) :: E) Rd (upd fr d v) H1 K) : WpE (callN ext prog m) n ref (⟨⟨some d, .call o l, g⟩, b, 2, pre⟩ :: its) H0 E Rd fr H K := WpE.con hw hn hd hf hl hc h
end
end Go.Am
namespace Go.Am
open Go
section
variable {call : ACall} {fr : AFrame} {H : AHeap} {KF : AFrame → AHeap → Prop} {os : List ROper} {d : Nat}
theorem Fo.mov {x : ROpd} {v : AVal} (hx : x.ev fr = v) (h : WpO call os (upd fr d v) H KF) : WpO call (⟨some d, .mov x, none⟩ :: os) fr H KF := by subst hx; exact WpO.do (WpX.mov h)
theorem Fo.fa {x : ROpd} {r o off : Nat} (hx : x.ev fr = .ptr r o) (h : WpO call os (upd fr d (.ptr r (o + off))) H KF) : WpO call (⟨some d, .fieldAddr off x, none⟩ :: os) fr H KF := WpO.do (WpX.fieldAddr hx h)
theorem Fo.pickT {c a b : ROpd} {v : AVal} (hc : c.ev fr = .bool true) (hx : a.ev fr = v) (h : WpO call os (upd fr d v) H KF) : WpO call (⟨some d, .pick c a b, none⟩ :: os) fr H KF := by subst hx; exact WpO.do (WpX.pick hc h)
theorem Fo.pickF {c a b : ROpd} {v : AVal} (hc : c.ev fr = .bool false) (hx : b.ev fr = v) (h : WpO call os (upd fr d v) H KF) : WpO call (⟨some d, .pick c a b, none⟩ :: os) fr H KF := by subst hx; exact WpO.do (WpX.pick hc h)
theorem Fo.extr {x : ROpd} {i : Nat} {vs : List AVal} {v : AVal} (hx : x.ev fr = .tuple vs) (hv : vs[i]? = some v) (h : WpO call os (upd fr d v) H KF) : WpO call (⟨some d, .extract x i, none⟩ :: os) fr H KF := WpO.do (WpX.extract hx hv h)
theorem Fo.bin {op : BinOp} {x y : ROpd} {a b v v' : AVal} (hx : x.ev fr = a) (hy : y.ev fr = b) (hv : aBin op a b = some v) (he : v = v') (h : WpO call os (upd fr d v') H KF) : WpO call (⟨some d, .bin op x y, none⟩ :: os) fr H KF := by
  subst hx hy he
  exact WpO.step rfl ⟨v, H, by simp only [ROp.exec, hv, M.ofOption, M.pure], h⟩
end
end Go.Am
namespace Go.Am
open Go
section
variable {call : ACall} {fr : AFrame} {H : AHeap} {KF : AFrame → AHeap → Prop} {os : List ROper} {d : Nat}
theorem Fo.boxA {e : TypeId} {x : ROpd} {cs : List AVal} (hx : x.ev fr = .agg cs) (h : WpO call os (upd fr d (.ptr H.n 0)) (H.push (.row cs true (2 * e))) KF) : WpO call (⟨some d, .box e x, none⟩ :: os) fr H KF := Fo.box hx rfl h
end
end Go.Am

/- Short names of steps. -/
namespace Go.Am
open Go
section
variable {call : ACall} {lf : Nat} {fr : AFrame} {H : AHeap} {Q : RExit → AFrame → AHeap → Prop} {KF : AFrame → AHeap → Prop} {os : List ROper} {d : Nat}
theorem mI {x : ROpd} {k : IntKind} {n : Int} (hx : x.ev fr = .int k n) (h : WpO call os (upd fr d (.int k n)) H KF) : WpO call (⟨some d, .mov x, none⟩ :: os) fr H KF := Fo.mov hx h
theorem mB {x : ROpd} {b : Bool} (hx : x.ev fr = .bool b) (h : WpO call os (upd fr d (.bool b)) H KF) : WpO call (⟨some d, .mov x, none⟩ :: os) fr H KF := Fo.mov hx h
theorem mP {x : ROpd} {r o : Nat} (hx : x.ev fr = .ptr r o) (h : WpO call os (upd fr d (.ptr r o)) H KF) : WpO call (⟨some d, .mov x, none⟩ :: os) fr H KF := Fo.mov hx h
theorem mN {x : ROpd} (hx : x.ev fr = .nslice) (h : WpO call os (upd fr d .nslice) H KF) : WpO call (⟨some d, .mov x, none⟩ :: os) fr H KF := Fo.mov hx h
theorem tB {c a b : ROpd} {n : Bool} (hc : c.ev fr = .bool true) (hx : a.ev fr = .bool n) (h : WpO call os (upd fr d (.bool n)) H KF) : WpO call (⟨some d, .pick c a b, none⟩ :: os) fr H KF := Fo.pickT hc hx h
theorem fB {c a b : ROpd} {n : Bool} (hc : c.ev fr = .bool false) (hx : b.ev fr = .bool n) (h : WpO call os (upd fr d (.bool n)) H KF) : WpO call (⟨some d, .pick c a b, none⟩ :: os) fr H KF := Fo.pickF hc hx h
theorem sq {a b : RCode} (h : Wp call lf a fr H fun x fr' H' => match x with | .normal => Wp call lf b fr' H' Q | e => Q e fr' H') : Wp call lf (.seq a b) fr H Q := Wp.seq h
theorem rg {ops : List ROper} (h : ∀ KF : AFrame → AHeap → Prop, (∀ fr' H', Q .normal fr' H' → KF fr' H') → WpO call ops fr H KF) : Wp call lf (.region ops) fr H Q := Fr.region h
end
theorem nrmZ : type_of% nrm ∧ type_of% nrmS := ⟨nrm, nrmS⟩
end Go.Am

/- Parts of slices of bytes. -/
namespace Go.Am
open Go

/-- v is a part of the slice p: n bytes from a on. -/
class Part (p : outParam AVal) (v : AVal) (a n : outParam Nat) : Prop where
  it : (n = 0 ∧ aLenS v = some (.int .i64 0) ∧ v.cells = [v] ∧ v.one = true) ∨ ∃ r off len cap cap', p = .slice r off len cap 1 ∧ v = .slice r (off + a) n cap' 1 ∧ a + n ≤ len
theorem Part.one {p v : AVal} {a n : Nat} (h : Part p v a n) : OneV v := by
  rcases h.it with ⟨_, _, h1, h2⟩ | ⟨r, off, len, cap, cap', _, rfl, _⟩
  · exact ⟨h1, h2⟩
  · infer_instance
theorem Part.lenS {p v : AVal} {a n : Nat} (h : Part p v a n) : aLenS v = some (.int .i64 n) := by
  rcases h.it with ⟨rfl, h1, _⟩ | ⟨r, off, len, cap, cap', _, rfl, _⟩
  · exact h1
  · rfl
section
variable {call : ACall} {fr : AFrame} {H : AHeap} {KF : AFrame → AHeap → Prop} {os : List ROper} {d : Nat}
theorem exec_idxV {x i : ROpd} {p v : AVal} {a n : Nat} {k : IntKind} {j : Int} (hx : x.ev fr = v) (hi : i.ev fr = .int k j) [s : Part p v a n] (h0 : 0 ≤ j ∧ j < n) : (ROp.idxS 1 x i).exec call fr H = some (.ptr (rowOf p) (offOf p + (a + j.toNat)), H) := by
  rcases s.it with ⟨rfl, _⟩ | ⟨r, off, len, cap, cap', rfl, rfl, _⟩
  · have := h0.1; have := h0.2; omega
  · simp only [ROp.exec, hx, hi, aIdxS, true_and, if_pos h0, M.ofOption, M.pure, rowOf, offOf, Nat.mul_one, Nat.add_assoc]
theorem exec_lenV {x : ROpd} {p v : AVal} {a n : Nat} (hx : x.ev fr = v) [s : Part p v a n] : (ROp.lenS x).exec call fr H = some (.int .i64 n, H) := by
  simp only [ROp.exec, hx, s.lenS, M.ofOption, M.pure]
theorem Fo.idxV {x i : ROpd} {p v : AVal} {a n o : Nat} {k : IntKind} {j : Int} (hx : x.ev fr = v) (hi : i.ev fr = .int k j) [s : Part p v a n] (h0 : 0 ≤ j ∧ j < n) (ho : offOf p + (a + j.toNat) = o) (h : WpO call os (upd fr d (.ptr (rowOf p) o)) H KF) : WpO call (⟨some d, .idxS 1 x i, none⟩ :: os) fr H KF := by
  subst ho; exact WpO.step rfl ⟨_, _, exec_idxV hx hi h0, h⟩
theorem Fo.lenV {x : ROpd} {p v u : AVal} {a n : Nat} (hx : x.ev fr = v) [s : Part p v a n] (hv : AVal.int .i64 n = u) (h : WpO call os (upd fr d u) H KF) : WpO call (⟨some d, .lenS x, none⟩ :: os) fr H KF := by
  subst hv; exact WpO.step rfl ⟨_, _, exec_lenV hx, h⟩

theorem cells_sub {row : List AVal} {l : List UInt8} {off a b : Nat} (hc : (row.drop off).take l.length = cellsB l) (hb : b ≤ l.length) : (row.drop (off + a)).take (b - a) = cellsB ((l.drop a).take (b - a)) := by
  have h1 : (cellsB l).drop a = cellsB (l.drop a) := by simp [cellsB, List.map_drop]
  have h2 : ∀ (k : Nat) (m : List UInt8), (cellsB m).take k = cellsB (m.take k) := fun k m => by simp [cellsB, List.map_take]
  rw [← h2, ← h1, ← hc, List.drop_take, List.drop_drop, List.take_take]
  congr 1
  omega
/-- What a slice expression's bound says. -/
def bnd (o : Option AVal) (dflt n : Nat) : Prop := (o = none ∧ n = dflt) ∨ ∃ k, o = some (.int k n)
theorem exec_slc {x : ROpd} {lo hi : Option ROpd} {p : AVal} {l : List UInt8} {a b : Nat} (hx : x.ev fr = p) (hlo : bnd (lo.map (·.ev fr)) 0 a) (hhi : bnd (hi.map (·.ev fr)) l.length b) (hab : a ≤ b) (hbl : b ≤ l.length) [s : BytesI H p l] :
    ∃ v H', (ROp.sliceS 1 x lo hi none).exec call fr H = some (v, H') ∧ Part p v a (b - a) ∧ BytesI H' v ((l.drop a).take (b - a)) ∧ Ext H H' := by
  have hlen : ((l.drop a).take (b - a)).length = b - a := by rw [List.length_take, List.length_drop]; omega
  have hl1 : ∀ h, a ≤ h → aLow h (lo.map (·.ev fr)) = some a := by
    intro h hh
    rcases hlo with ⟨h1, rfl⟩ | ⟨k, h1⟩
    · rw [h1]; rfl
    · rw [h1]
      have : (0 : Int) ≤ (a : Int) ∧ (a : Int) ≤ (h : Int) := by omega
      simp only [aLow, aBound, if_pos this, Int.toNat_natCast]
  have hh1 : ∀ y, b ≤ y → aHigh l.length y (hi.map (·.ev fr)) = some b := by
    intro y hy
    rcases hhi with ⟨h1, rfl⟩ | ⟨k, h1⟩
    · rw [h1]; rfl
    · rw [h1]
      have : (0 : Int) ≤ (b : Int) ∧ (b : Int) ≤ (y : Int) := by omega
      simp only [aHigh, aBound, if_pos this, Int.toNat_natCast]
  rcases s.it with ⟨rfl, h0, _⟩ | ⟨r, off, cap, row, rw, e, rfl, hr, hg, hl, hc, hcap⟩
  · have e1 : b = 0 := by omega
    have e2 : a = 0 := by omega
    subst e1 e2
    have hb0 : aBounds 0 (some 0) (lo.map (·.ev fr)) (hi.map (·.ev fr)) none = some (0, 0, some 0) := by
      have h1 := hh1 (capD 0 (some 0)) (Nat.zero_le _)
      rw [h0] at h1
      simp only [aBounds, h1, hl1 0 (Nat.zero_le _)]
    refine ⟨.nslice, H, by simp only [ROp.exec, hx, Option.map_none, aSliceS, hb0, M.pure], ⟨Or.inl ⟨rfl, rfl, rfl, rfl⟩⟩, ?_, Ext.refl H⟩
    have e3 : (l.drop 0).take (0 - 0) = [] := by simp
    rw [e3]
    exact ⟨Or.inl ⟨rfl, rfl, rfl⟩⟩
  · rw [Nat.mul_one] at hl hc
    have hb0 : aBounds l.length cap (lo.map (·.ev fr)) (hi.map (·.ev fr)) none = some (a, b, cap) := by
      simp only [aBounds, hh1 _ (Nat.le_trans hbl hcap), hl1 b hab]
    have hsub := cells_sub (a := a) hc hbl
    have full : ∀ cap', (b - a ≤ capD (b - a) cap') → BytesI H (.slice r (off + a) (b - a) cap' 1) ((l.drop a).take (b - a)) := by
      intro cap' hc'
      unfold BytesI
      rw [hlen]
      exact ⟨Or.inr ⟨r, off + a, cap', row, rw, e, rfl, hr, hg, by omega, by rw [Nat.mul_one]; exact hsub, hc'⟩⟩
    have none0 : a = b → ∀ cap', BytesI H (.slice r off (b - a) cap' 1) ((l.drop a).take (b - a)) := by
      intro hE cap'
      subst hE
      have e3 : (l.drop a).take (a - a) = [] := by simp
      rw [e3, Nat.sub_self]
      exact ⟨Or.inr ⟨r, off, cap', row, rw, e, rfl, hr, hg, by simp; omega, by simp [cellsB], Nat.zero_le _⟩⟩
    cases cap with
    | some c =>
      simp only [capD] at hcap
      by_cases hca : c = a
      · have hE : a = b := by omega
        refine ⟨.slice r off (b - a) (some 0) 1, H, by simp only [ROp.exec, hx, Option.map_none, aSliceS, ne_eq, not_true, if_false, hb0, M.pure, if_pos hca], ⟨Or.inl ⟨by omega, by rw [hE, Nat.sub_self]; rfl, rfl, rfl⟩⟩, none0 hE _, Ext.refl H⟩
      · refine ⟨.slice r (off + a) (b - a) (some (c - a)) 1, H, by simp only [ROp.exec, hx, Option.map_none, aSliceS, ne_eq, not_true, if_false, hb0, M.pure, if_neg hca, Nat.mul_one], ⟨Or.inr ⟨r, off, l.length, some c, some (c - a), rfl, rfl, by omega⟩⟩, full _ (by simp only [capD]; omega), Ext.refl H⟩
    | none =>
      have h2 : ¬ row.length < off + l.length := by omega
      have hrow : aRow r H = some ((row, rw), H) := by simp only [aRow, if_pos hr, hg]
      by_cases hcd : a < b ∨ a = 0
      · refine ⟨.slice r (off + a) (b - a) none 1, H, ?_, ⟨Or.inr ⟨r, off, l.length, none, none, rfl, rfl, by omega⟩⟩, full _ (Nat.le_refl _), Ext.refl H⟩
        simp only [ROp.exec, hx, Option.map_none, aSliceS, ne_eq, not_true, if_false, hb0, Nat.mul_one, Nat.one_ne_zero, M.bind, hrow, if_neg h2, if_pos hcd, M.pure]
      · have hE : a = b := by omega
        refine ⟨.slice H.n 0 0 none 1, H.push (.row [] false 0), ?_, ⟨Or.inl ⟨by omega, rfl, rfl, rfl⟩⟩, ?_, (Ext.refl H).push _⟩
        · simp only [ROp.exec, hx, Option.map_none, aSliceS, ne_eq, not_true, if_false, hb0, Nat.mul_one, Nat.one_ne_zero, M.bind, hrow, if_neg h2, if_neg hcd, M.pure, aNew]
        · have e3 : (l.drop a).take (b - a) = [] := by rw [hE, Nat.sub_self]; simp
          rw [e3]
          exact ⟨Or.inr ⟨H.n, 0, none, [], false, 0, rfl, Nat.lt_succ_self _, push_get_eq, by simp, by simp [cellsB], Nat.zero_le _⟩⟩
theorem Fo.slc {x : ROpd} {lo hi : Option ROpd} {p : AVal} {l : List UInt8} {a b : Nat} (hx : x.ev fr = p) (hlo : bnd (lo.map (·.ev fr)) 0 a) (hhi : bnd (hi.map (·.ev fr)) l.length b) (hab : a ≤ b) (hbl : b ≤ l.length) [s : BytesI H p l]
    (h : ∀ v H1, Part p v a (b - a) → BytesI H1 v ((l.drop a).take (b - a)) → ExtI H H1 → WpO call os (upd fr d v) H1 KF) : WpO call (⟨some d, .sliceS 1 x lo hi none, none⟩ :: os) fr H KF := by
  obtain ⟨v, H1, h1, h2, h3, h4⟩ := exec_slc (call := call) hx hlo hhi hab hbl (s := s)
  exact WpO.step rfl ⟨v, H1, h1, h v H1 h2 h3 ⟨h4⟩⟩
end
/-- A row of an image. -/
def rowL (l : List UInt8) (a y : Nat) : List UInt8 := (l.drop (y * a)).take a
theorem row_le {a b y : Nat} (hy : y < b) : y * a + a ≤ a * b := by
  have : (y + 1) * a ≤ b * a := Nat.mul_le_mul_right _ hy
  rw [Nat.add_mul, Nat.one_mul] at this
  rw [Nat.mul_comm a b]; exact this
theorem rowL_length {l : List UInt8} {a b y : Nat} (hl : l.length = a * b) (hy : y < b) : (rowL l a y).length = a := by
  have := row_le (a := a) hy
  rw [rowL, List.length_take, List.length_drop]; omega
theorem rowL_get {l : List UInt8} {a b y x : Nat} (hl : l.length = a * b) (hy : y < b) (hx : x < a) : (rowL l a y)[x]'(by rw [rowL_length hl hy]; exact hx) = l[y * a + x]'(by have := row_le (a := a) hy; omega) := by
  simp only [rowL, List.getElem_take, List.getElem_drop]
end Go.Am

/- Slices that grow: append to a slice that the function alone holds. Loops over functions: the rules for contracts. -/
set_option maxHeartbeats 4000000
namespace Go.Am
open Go

/-- A slice that nobody else holds, with all of its row. -/
class OwnS (H : AHeap) (p : AVal) (sz : outParam Nat) (n : outParam Nat) (cs : outParam (List AVal)) (e : outParam TypeId) : Prop where
  it : (p = .nslice ∧ n = 0 ∧ cs = []) ∨ ∃ r e', p = .slice r 0 n none sz ∧ r < H.n ∧ H.get r = .row cs true e' ∧ e' / 2 = e ∧ cs.length = n * sz ∧ 0 < n
theorem OwnS.sl {H : AHeap} {p : AVal} {sz n : Nat} {cs : List AVal} {e : TypeId} (h : OwnS H p sz n cs e) : SliceAt H p sz n cs := by
  rcases h.it with ⟨h1, h2, h3⟩ | ⟨r, e', h1, h2, h3, h4, h5, h6⟩
  · exact ⟨Or.inl ⟨h1, h2, h3⟩⟩
  · exact ⟨Or.inr ⟨r, 0, none, cs, true, e', h1, h2, h3, by omega, by rw [List.drop_zero, List.take_of_length_le (by omega)], Nat.le_refl _⟩⟩
theorem OwnS.keep {H H' : AHeap} {p : AVal} {sz n : Nat} {cs : List AVal} {e : TypeId} (h : OwnS H p sz n cs e) (hn : H.n ≤ H'.n) (hg : ∀ r off len cap sz, p = .slice r off len cap sz → r < H.n → H'.get r = H.get r) : OwnS H' p sz n cs e := by
  rcases h.it with ⟨h1, h2, h3⟩ | ⟨r, e', h1, h2, h3, h4⟩
  · exact ⟨Or.inl ⟨h1, h2, h3⟩⟩
  · exact ⟨Or.inr ⟨r, e', h1, by omega, by rw [hg _ _ _ _ _ h1 h2]; exact h3, h4⟩⟩
instance {H H' : AHeap} {p : AVal} {sz n : Nat} {cs : List AVal} {e : TypeId} [x : ExtI H H'] [h : OwnS H p sz n cs e] : OwnS H' p sz n cs e := h.keep x.ext.n fun _ _ _ _ _ _ hr => x.ext.get _ hr
instance {H : AHeap} {o : AObj} {p : AVal} {sz n : Nat} {cs : List AVal} {e : TypeId} [h : OwnS H p sz n cs e] : OwnS (H.push o) p sz n cs e := h.keep (Nat.le_succ _) fun _ _ _ _ _ _ hr => push_get_lt hr
instance {H : AHeap} {s : Nat} {o : AObj} {p : AVal} {sz n : Nat} {cs : List AVal} {e : TypeId} [h : OwnS H p sz n cs e] [k : RowNe p s] : OwnS (H.set s o) p sz n cs e := h.keep (Nat.le_refl _) fun _ _ _ _ _ e _ => set_get_ne (k.ne _ _ _ _ _ e)
instance {H H' : AHeap} {p q : AVal} {sz n : Nat} {cs : List AVal} {e : TypeId} [x : ExtP H H' q] [h : OwnS H p sz n cs e] [k : SepS p q] : OwnS H' p sz n cs e := h.keep x.n fun r _ _ _ _ e hr => x.get r hr ⟨fun r' _ _ _ _ e' => fun hh => k.ne _ _ _ _ _ _ _ _ _ _ e e' hh.symm⟩

theorem exec_grow {H : AHeap} {p q : AVal} {sz n k bytes : Nat} {cs new : List AVal} {e : TypeId} (h : OwnS H p sz n cs e) (hf : aLenOf q = some k ∧ aFirst sz k q H = some (new, H)) (hnl : new.length = k * sz) (hsz : 0 < sz) (hb : 0 < bytes) (hk : 0 < k) (hroom : 2 * (n + k) * bytes ≤ 2 ^ 48) (hone : new.all AVal.one = true) :
    ∃ p' H', aAppend e sz bytes p q H = some (p', H') ∧ OwnS H' p' sz (n + k) (cs ++ new) e ∧ FreshS H p' ∧ ExtP H H' p := by
  have hk0 : ¬ k = 0 := by omega
  have hs0 : ¬ sz = 0 := by omega
  have hb0 : ¬ bytes = 0 := by omega
  rcases h.it with ⟨rfl, rfl, rfl⟩ | ⟨r, e', rfl, h2, h3, h4, h5, h6⟩
  · refine ⟨.slice H.n 0 k none sz, H.push (.row new true (2 * e)), ?_, ⟨Or.inr ⟨H.n, 2 * e, by rw [Nat.zero_add], Nat.lt_succ_self _, by rw [List.nil_append]; exact push_get_eq, half_even _, by rw [List.nil_append, Nat.zero_add]; exact hnl, by omega⟩⟩, ⟨fun _ _ _ _ _ q => by cases q; exact Nat.le_refl _⟩, ⟨Nat.le_succ _, fun r hr _ => push_get_lt hr⟩⟩
    rw [Nat.zero_add] at hroom
    simp only [aAppend, hf.1]
    rw [bind_of hf.2]
    simp only [hone, hnl, Bool.not_true, ne_eq, not_true, decide_false, hs0, hb0, Bool.or_false, Bool.false_eq_true, if_false, hk0, if_pos hroom, M.bind, aNew, M.pure]
  · have hcl : 0 + n * sz ≤ cs.length := by omega
    have hno : ¬ (0 + (n + k) * sz ≤ cs.length) := by
      have : 0 < k * sz := Nat.mul_pos hk hsz
      rw [Nat.add_mul]; omega
    refine ⟨.slice H.n 0 (n + k) none sz, (H.set r .dead).push (.row (cs ++ new) true (2 * e + 1)), ?_, ⟨Or.inr ⟨H.n, 2 * e + 1, rfl, Nat.lt_succ_self _, push_get_eq (H := H.set r .dead), half_odd _, by rw [List.length_append, hnl, h5, Nat.add_mul], by omega⟩⟩, ⟨fun _ _ _ _ _ q => by cases q; exact Nat.le_refl _⟩, ⟨Nat.le_succ _, fun s hs hne => by
      have hsr : s ≠ r := fun q => hne.ne _ _ _ _ _ rfl q.symm
      rw [push_get_lt (H := H.set r .dead) hs, set_get_ne hsr]⟩⟩
    have ha : aRow r H = some ((cs, true), H) := by simp only [aRow, if_pos h2, h3]
    have hmv : aMove r e (.row (((cs.drop 0).take (n * sz)) ++ new) true (2 * e + 1)) H = some (H.n, (H.set r .dead).push (.row (cs ++ new) true (2 * e + 1))) := by
      simp only [aMove, h3, h4, nbeq_self]
      rw [List.drop_zero, List.take_of_length_le (by omega)]
    simp only [aAppend, hf.1]
    rw [bind_of hf.2]
    simp only [hone, hnl, Bool.not_true, ne_eq, not_true, decide_false, hs0, hb0, Bool.or_false, Bool.false_eq_true, if_false]
    rw [bind_of ha]
    simp only [hk0, if_false, hno, Bool.true_and, decide_eq_true hcl, decide_eq_true hroom, Bool.and_true, if_true]
    rw [bind_of hmv]
    rfl

theorem aFirst_at {H : AHeap} {q : AVal} {sz k : Nat} {new : List AVal} (h : SliceAt H q sz k new) : aLenOf q = some k ∧ aFirst sz k q H = some (new, H) := by
  rcases h.it with ⟨rfl, rfl, rfl⟩ | ⟨r, off, cap, row, rw, e0, rfl, hr, hg, hle, hc, _⟩
  · exact ⟨rfl, rfl⟩
  · exact ⟨rfl, by simp only [aFirst, ne_eq, not_true, if_false, M.bind, aRow, if_pos hr, hg, if_pos hle, hc, M.pure]⟩
theorem aFirst_str {H : AHeap} {s : ByteArray} : aLenOf (.str s) = some s.size ∧ aFirst 1 s.size (.str s) H = some (cellsB s.data.toList, H) := by
  refine ⟨rfl, ?_⟩
  simp only [aFirst, M.pure]
  have : s.extract 0 s.size = s := by simp
  rw [this]; rfl

section
variable {call : ACall} {fr : AFrame} {H : AHeap} {K : AVal → AHeap → Prop}
theorem WpX.grow {e : TypeId} {x y : ROpd} {p q : AVal} {sz n k bytes : Nat} {cs new : List AVal} (hx : x.ev fr = p) (hy : y.ev fr = q) [h : OwnS H p sz n cs e] [hq : SliceAt H q sz k new] (hsz : 0 < sz) (hb : 0 < bytes) (hk : 0 < k) (hroom : 2 * (n + k) * bytes ≤ 2 ^ 48) (hone : new.all AVal.one = true)
    (hK : ∀ p' H', OwnS H' p' sz (n + k) (cs ++ new) e → FreshS H p' → ExtP H H' p → K p' H') : WpX (.append e sz bytes x y) call fr H K := by
  obtain ⟨p', H', h1, h2, h3, h4⟩ := exec_grow h (aFirst_at hq) hq.len hsz hb hk hroom hone
  exact ⟨p', H', by simp only [ROp.exec, hx, hy]; exact h1, hK p' H' h2 h3 h4⟩
/-- append of a text to bytes. -/
theorem WpX.growS {e : TypeId} {x y : ROpd} {p : AVal} {s : ByteArray} {n bytes : Nat} {cs : List AVal} (hx : x.ev fr = p) (hy : y.ev fr = .str s) [h : OwnS H p 1 n cs e] (hb : 0 < bytes) (hk : 0 < s.size) (hroom : 2 * (n + s.size) * bytes ≤ 2 ^ 48)
    (hK : ∀ p' H', OwnS H' p' 1 (n + s.size) (cs ++ cellsB s.data.toList) e → FreshS H p' → ExtP H H' p → K p' H') : WpX (.append e 1 bytes x y) call fr H K := by
  obtain ⟨p', H', h1, h2, h3, h4⟩ := exec_grow h (aFirst_str (H := H) (s := s)) (by rw [cellsB_length, Nat.mul_one]; rfl) (by omega) hb hk hroom (cellsB_one _)
  exact ⟨p', H', by simp only [ROp.exec, hx, hy]; exact h1, hK p' H' h2 h3 h4⟩
end

/- ===== loops over functions ===== -/
class HasLoop (H : AHeap) (r : Nat) (R : outParam RLoop) : Prop where
  lt : r < H.n
  get : H.get r = .loop R
instance {H : AHeap} {r : Nat} {R : RLoop} [h : HasLoop H r R] : LtN r H := ⟨h.lt⟩
theorem HasLoop.ext {H H' : AHeap} {r : Nat} {R : RLoop} (h : HasLoop H r R) (x : Ext H H') : HasLoop H' r R := ⟨Nat.lt_of_lt_of_le h.lt x.n, by rw [x.get r h.lt]; exact h.get⟩
instance {H H' : AHeap} {r : Nat} {R : RLoop} [x : ExtI H H'] [h : HasLoop H r R] : HasLoop H' r R := h.ext x.ext
instance {H : AHeap} {o : AObj} {r : Nat} {R : RLoop} [h : HasLoop H r R] : HasLoop (H.push o) r R := ⟨Nat.lt_succ_of_lt h.lt, by rw [push_get_lt h.lt]; exact h.get⟩
instance {H : AHeap} {R : RLoop} : HasLoop (H.push (.loop R)) H.n R := ⟨Nat.lt_succ_self _, push_get_eq⟩
instance {H : AHeap} {s : Nat} {o : AObj} {r : Nat} {R : RLoop} [h : HasLoop H r R] [k : NeR r s] : HasLoop (H.set s o) r R := ⟨h.lt, by rw [set_get_ne k.ne]; exact h.get⟩
instance {H : AHeap} {r : Nat} {R R' : RLoop} [h : HasLoop H r R'] : HasLoop (H.set r (.loop R)) r R := ⟨h.lt, set_get_eq⟩
instance {H H' : AHeap} {r : Nat} {R : RLoop} {q : AVal} [x : ExtP H H' q] [h : HasLoop H r R] [k : RowNe q r] : HasLoop H' r R := ⟨Nat.lt_of_lt_of_le h.lt x.n, by rw [x.get r h.lt k]; exact h.get⟩

section
variable {call : ACall} {lf : Nat} {fr : AFrame} {H : AHeap} {Q : RExit → AFrame → AHeap → Prop}
theorem Wp.range {fns : List FuncId} {nt : Nat} {g : ROpd} {ps : List Nat} {a b : RCode} {gf : FuncId} {fi ca vs : List AVal} (hg : g.ev fr = .func (.func gf) fi ca) (hv : fr nt = .tuple vs) (hf : fns.contains gf = true)
    (h : ∃ v H2 R, call gf (fi ++ [.yield (H.n + 1)] ++ ca) ((H.push .dead).push (.loop ⟨H.n, nt, fr, ps, a, b, 0, .normal⟩)) = some (v, H2) ∧ H2.get (H.n + 1) = .loop R ∧ (Nat.beq R.st 1 || Nat.beq R.st 4) = false ∧
      Q R.pend (upd fr nt (.tuple (.ptr H.n (H.n + 1) :: vs))) (H2.set (H.n + 1) (.loop { R with st := 3 }))) : Wp call lf (.rangeFunc fns nt g ps a b) fr H Q := by
  obtain ⟨v, H2, R, h1, h2, h3, h4⟩ := h
  refine ⟨_, _, _, ?_, h4⟩
  simp only [RCode.exec, hg, hv, hf, h1, h2, h3]
end

end Go.Am

/- Texts as values, and the steps that use them. -/
set_option maxHeartbeats 4000000
set_option maxRecDepth 100000
namespace Go.Am
open Go
/- ===== texts as lists of bytes ===== -/
abbrev Bs := List UInt8
abbrev strV (l : Bs) : AVal := .str ⟨l.toArray⟩
theorem str_size (l : Bs) : (⟨l.toArray⟩ : ByteArray).size = l.length := by
  show l.toArray.size = l.length
  simp
theorem str_extract (l : Bs) (a b : Nat) : (⟨l.toArray⟩ : ByteArray).extract a b = ⟨((l.drop a).take (b - a)).toArray⟩ := Lib.extract_eq _ _ _
theorem str_append (a b : Bs) : (⟨a.toArray⟩ : ByteArray) ++ ⟨b.toArray⟩ = ⟨(a ++ b).toArray⟩ := by
  apply ByteArray.ext
  rw [ByteArray.data_append]
  simp
theorem str_toList (a : Bs) : (⟨a.toArray⟩ : ByteArray).toList = a := by rw [Lib.toList_data]
theorem str_get {l : Bs} {i : Nat} (h : i < l.length) : (⟨l.toArray⟩ : ByteArray)[i]? = some l[i] := by
  have h2 : i < (⟨l.toArray⟩ : ByteArray).size := by rw [str_size]; exact h
  rw [getElem?_pos _ i h2]
  rfl
theorem str_mk (s : ByteArray) : s = ⟨s.data.toList.toArray⟩ := (Lib.mk_data s).symm

theorem aSliceStr_of {l : Bs} {lo hi : Option AVal} {a b : Nat} (hlo : bnd lo 0 a) (hhi : bnd hi l.length b) (hab : a ≤ b) (hbl : b ≤ l.length) : aSliceStr (strV l) lo hi = some (strV ((l.drop a).take (b - a))) := by
  have h1 : aHigh l.length l.length hi = some b := by
    rcases hhi with ⟨h1, rfl⟩ | ⟨k, h1⟩
    · rw [h1]; rfl
    · rw [h1]
      have : (0 : Int) ≤ (b : Int) ∧ (b : Int) ≤ (l.length : Int) := by omega
      simp only [aHigh, aBound, if_pos this, Int.toNat_natCast]
  have h2 : aLow b lo = some a := by
    rcases hlo with ⟨h1, rfl⟩ | ⟨k, h1⟩
    · rw [h1]; rfl
    · rw [h1]
      have : (0 : Int) ≤ (a : Int) ∧ (a : Int) ≤ (b : Int) := by omega
      simp only [aLow, aBound, if_pos this, Int.toNat_natCast]
  simp only [aSliceStr, aBounds, str_size, capD, h1, h2, str_extract]

section
variable {call : ACall} {fr : AFrame} {H : AHeap} {KF : AFrame → AHeap → Prop} {os : List ROper} {d : Nat}
theorem exec_lenStr {x : ROpd} {l : Bs} (hx : x.ev fr = strV l) : (ROp.lenStr x).exec call fr H = some (.int .i64 l.length, H) := by
  simp only [ROp.exec, hx, aLenStr, str_size, M.ofOption, M.pure]
theorem exec_slcStr {x : ROpd} {lo hi : Option ROpd} {l : Bs} {a b : Nat} (hx : x.ev fr = strV l) (hlo : bnd (lo.map (·.ev fr)) 0 a) (hhi : bnd (hi.map (·.ev fr)) l.length b) (hab : a ≤ b) (hbl : b ≤ l.length) : (ROp.sliceStr x lo hi).exec call fr H = some (strV ((l.drop a).take (b - a)), H) := by
  simp only [ROp.exec, hx, aSliceStr_of hlo hhi hab hbl, M.ofOption, M.pure]
theorem exec_idxStr {x i : ROpd} {l : Bs} {k : IntKind} {j : Nat} (hx : x.ev fr = strV l) (hi : i.ev fr = .int k j) (hj : j < l.length) : (ROp.indexStr x i).exec call fr H = some (.int .u8 (l[j].toNat : Int), H) := by
  have h0 : (0 : Int) ≤ (j : Int) := by omega
  simp only [ROp.exec, hx, hi, aIndexStr, if_pos h0, Int.toNat_natCast, str_get hj, M.ofOption, M.pure]
theorem exec_eqStr {x y : ROpd} {a b : Bs} (hx : x.ev fr = strV a) (hy : y.ev fr = strV b) : (ROp.bin .eql x y).exec call fr H = some (.bool (a == b), H) := by
  simp only [ROp.exec, hx, hy, aBin, strBin, str_toList, M.ofOption, M.pure]
theorem exec_neStr {x y : ROpd} {a b : Bs} (hx : x.ev fr = strV a) (hy : y.ev fr = strV b) : (ROp.bin .neq x y).exec call fr H = some (.bool (!(a == b)), H) := by
  simp only [ROp.exec, hx, hy, aBin, strBin, str_toList, M.ofOption, M.pure]
theorem exec_addStr {x y : ROpd} {a b : Bs} (hx : x.ev fr = strV a) (hy : y.ev fr = strV b) (hl : a.length + b.length ≤ 1000000) : (ROp.bin .add x y).exec call fr H = some (strV (a ++ b), H) := by
  have h : ¬ (((a.length + b.length : Nat) : Int) > IntKind.i64.max) := by
    have : IntKind.i64.max = 9223372036854775807 := by decide
    omega
  simp only [ROp.exec, hx, hy, aBin, strBin, str_size, if_neg h, str_append, M.ofOption, M.pure]
theorem Fo.lenStr {x : ROpd} {l : Bs} {v : AVal} (hx : x.ev fr = strV l) (hv : AVal.int .i64 l.length = v) (h : WpO call os (upd fr d v) H KF) : WpO call (⟨some d, .lenStr x, none⟩ :: os) fr H KF := by
  subst hv; exact WpO.step rfl ⟨_, _, exec_lenStr hx, h⟩
theorem Fo.slcStr {x : ROpd} {lo hi : Option ROpd} {l : Bs} {a b : Nat} {v : AVal} (hx : x.ev fr = strV l) (hlo : bnd (lo.map (·.ev fr)) 0 a) (hhi : bnd (hi.map (·.ev fr)) l.length b) (hab : a ≤ b) (hbl : b ≤ l.length) (hv : strV ((l.drop a).take (b - a)) = v) (h : WpO call os (upd fr d v) H KF) : WpO call (⟨some d, .sliceStr x lo hi, none⟩ :: os) fr H KF := by
  subst hv; exact WpO.step rfl ⟨_, _, exec_slcStr hx hlo hhi hab hbl, h⟩
theorem Fo.idxStr {x i : ROpd} {l : Bs} {k : IntKind} {j : Nat} {v : AVal} (hx : x.ev fr = strV l) (hi : i.ev fr = .int k j) (hj : j < l.length) (hv : AVal.int .u8 (l[j].toNat : Int) = v) (h : WpO call os (upd fr d v) H KF) : WpO call (⟨some d, .indexStr x i, none⟩ :: os) fr H KF := by
  subst hv; exact WpO.step rfl ⟨_, _, exec_idxStr hx hi hj, h⟩
theorem Fo.eqStr {x y : ROpd} {a b : Bs} {v : AVal} (hx : x.ev fr = strV a) (hy : y.ev fr = strV b) (hv : AVal.bool (a == b) = v) (h : WpO call os (upd fr d v) H KF) : WpO call (⟨some d, .bin .eql x y, none⟩ :: os) fr H KF := by
  subst hv; exact WpO.step rfl ⟨_, _, exec_eqStr hx hy, h⟩
theorem Fo.neStr {x y : ROpd} {a b : Bs} {v : AVal} (hx : x.ev fr = strV a) (hy : y.ev fr = strV b) (hv : AVal.bool (!(a == b)) = v) (h : WpO call os (upd fr d v) H KF) : WpO call (⟨some d, .bin .neq x y, none⟩ :: os) fr H KF := by
  subst hv; exact WpO.step rfl ⟨_, _, exec_neStr hx hy, h⟩
end

theorem Fo.uptr {call : ACall} {fr : AFrame} {H : AHeap} {KF : AFrame → AHeap → Prop} {os : List ROper} {d : Nat} {t s r : Nat} {x : ROpd} {cs : List AVal} (hx : x.ev fr = .ptr r 0) [h : HasRow H r cs true (2 * t)] (hs : Nat.ble s cs.length = true) (h0 : Nat.blt 0 s = true) (hK : WpO call os (upd fr d (.ptr r 0)) H KF) :
    WpO call (⟨some d, .uptr t s x, none⟩ :: os) fr H KF := by
  refine WpO.step rfl ⟨.ptr r 0, H, ?_, hK⟩
  have h1 : Nat.blt r H.n = true := by simpa using h.lt
  have h2 : (Nat.blt r H.n && Nat.beq 0 0 && Nat.blt 0 s) = true := by rw [h1, h0]; rfl
  have h3 : (Nat.beq (2 * t) (2 * t) && Nat.ble s cs.length) = true := by rw [hs]; simp
  have h4 : aUptr t s (.ptr r 0) H = some (.ptr r 0, H) := by
    show (match Nat.blt r H.n && Nat.beq 0 0 && Nat.blt 0 s with
      | true => (match H.get r with
        | .row cs true e => (match Nat.beq e (2 * t) && Nat.ble s cs.length with
          | true => some (AVal.ptr r 0, H)
          | false => none)
        | _ => none)
      | false => none) = _
    rw [h2, h.get]
    simp only [h3]
  show aUptr t s (x.ev fr) H = _
  rw [hx, h4]
theorem Fo.eqD {call : ACall} {fr : AFrame} {H : AHeap} {KF : AFrame → AHeap → Prop} {os : List ROper} {d : Nat} {neg bb : Bool} {D : EqDesc} {x y : ROpd} {a b v : AVal} (hx : x.ev fr = a) (hy : y.ev fr = b) (he : aEq D a b = some bb) (hv : AVal.bool (match neg with | true => !bb | false => bb) = v) (h : WpO call os (upd fr d v) H KF) :
    WpO call (⟨some d, .eq neg D x y, none⟩ :: os) fr H KF := by
  subst hv
  refine WpO.step rfl ⟨_, H, ?_, h⟩
  simp only [ROp.exec, hx, hy, he]
  cases neg <;> rfl

theorem WpX.yield {call : ACall} {fr : AFrame} {H : AHeap} {K : AVal → AHeap → Prop} {r : Nat} {o : ROpd} {l : List ROpd} {args : List AVal} (hf : o.ev fr = .yield r) (hl : l.map (·.ev fr) = args) (h : ∃ v H', call yieldId (.yield r :: args) H = some (v, H') ∧ K v H') : WpX (.call o l) call fr H K := by
  obtain ⟨v, H', h1, h2⟩ := h
  refine ⟨v, H', ?_, h2⟩
  simp only [ROp.exec, hf, hl, aCallV]
  exact h1
theorem Fo.stO {call : ACall} {fr : AFrame} {H : AHeap} {KF : AFrame → AHeap → Prop} {os : List ROper} {a x : ROpd} {r off : Nat} {cs l : List AVal} {e : TypeId} {v : AVal} (ha : a.ev fr = .ptr r off) (hx : x.ev fr = v) [o : OneV v] [hg : HasRow H r cs true e] (hl : Nat.ble (off + 1) cs.length = true) (hs : cs.set off v = l) (h : WpO call os fr (H.set r (.row l true e)) KF) :
    WpO call (⟨none, .store 1 a x, none⟩ :: os) fr H KF :=
  WpO.do' (WpX.st ha hx o.cells rfl hl (by simp only [List.all_cons, o.one, List.all_nil, Bool.and_self]) (by rw [← hs]; rfl) h)
end Go.Am

set_option maxHeartbeats 4000000
set_option maxRecDepth 100000
namespace Go.Am
open Go
attribute [local irreducible] Wp WpO WpX WpE
/-- sides -/
def sideB (a : Int) : Bool := decide (a ≥ 0) && decide (a ≤ 640)
instance K_side (a : Int) (H : AHeap) : PureCon ext prog 102 [.int .i64 a] H 1 (.bool (sideB a)) := ⟨by
 refine con_of (show prog 102 = some c102 from rfl) rfl rfl fun n hn => ?_
 unfold sideB
 cases h1 : decide (a ≥ 0) <;> cases h2 : decide (a ≤ 640)
 ·skip
  try simp only [↓nrmL, nrmZ, Nat.reduceEqDiff, ↓reduceIte, Nat.reduceAdd, Int.reduceBEq, Int.reduceBNe, h1, h2]
  refine sq ?_
  refine rg fun KF hKF => ?_
  refine mB rfl ?_
  refine WpO.nil (hKF _ _ ?_)
  refine sq ?_
  refine rg fun KF hKF => ?_
  refine mI rfl ?_
  refine Fo.bin rfl rfl rfl (by simp only [↓nrmL, nrmZ, Nat.reduceEqDiff, ↓reduceIte, Nat.reduceAdd, Int.reduceBEq, Int.reduceBNe, h1, h2]; rfl) ?_
  refine mB rfl ?_
  refine Fo.no rfl rfl ?_
  refine Fo.no rfl rfl ?_
  refine fB rfl rfl ?_
  refine mB rfl ?_
  refine WpO.nil (hKF _ _ ?_)
  refine Wp.ret ?_
  dsimp only [cond_true, cond_false]
  exact ⟨trivial, _, rfl, rfl, Ext0.ext⟩
 ·skip
  try simp only [↓nrmL, nrmZ, Nat.reduceEqDiff, ↓reduceIte, Nat.reduceAdd, Int.reduceBEq, Int.reduceBNe, h1, h2]
  refine sq ?_
  refine rg fun KF hKF => ?_
  refine mB rfl ?_
  refine WpO.nil (hKF _ _ ?_)
  refine sq ?_
  refine rg fun KF hKF => ?_
  refine mI rfl ?_
  refine Fo.bin rfl rfl rfl (by simp only [↓nrmL, nrmZ, Nat.reduceEqDiff, ↓reduceIte, Nat.reduceAdd, Int.reduceBEq, Int.reduceBNe, h1, h2]; rfl) ?_
  refine mB rfl ?_
  refine Fo.no rfl rfl ?_
  refine Fo.no rfl rfl ?_
  refine fB rfl rfl ?_
  refine mB rfl ?_
  refine WpO.nil (hKF _ _ ?_)
  refine Wp.ret ?_
  dsimp only [cond_true, cond_false]
  exact ⟨trivial, _, rfl, rfl, Ext0.ext⟩
 ·skip
  try simp only [↓nrmL, nrmZ, Nat.reduceEqDiff, ↓reduceIte, Nat.reduceAdd, Int.reduceBEq, Int.reduceBNe, h1, h2]
  refine sq ?_
  refine rg fun KF hKF => ?_
  refine mB rfl ?_
  refine WpO.nil (hKF _ _ ?_)
  refine sq ?_
  refine rg fun KF hKF => ?_
  refine mI rfl ?_
  refine Fo.bin rfl rfl rfl (by simp only [↓nrmL, nrmZ, Nat.reduceEqDiff, ↓reduceIte, Nat.reduceAdd, Int.reduceBEq, Int.reduceBNe, h1, h2]; rfl) ?_
  refine mB rfl ?_
  refine Fo.yes rfl rfl ?_
  refine mI rfl ?_
  refine Fo.yes rfl rfl ?_
  refine Fo.bin rfl rfl rfl (by simp only [↓nrmL, nrmZ, Nat.reduceEqDiff, ↓reduceIte, Nat.reduceAdd, Int.reduceBEq, Int.reduceBNe, h1, h2]; rfl) ?_
  refine tB rfl rfl ?_
  refine mB rfl ?_
  refine WpO.nil (hKF _ _ ?_)
  refine Wp.ret ?_
  dsimp only [cond_true, cond_false]
  exact ⟨trivial, _, rfl, rfl, Ext0.ext⟩
 ·skip
  try simp only [↓nrmL, nrmZ, Nat.reduceEqDiff, ↓reduceIte, Nat.reduceAdd, Int.reduceBEq, Int.reduceBNe, h1, h2]
  refine sq ?_
  refine rg fun KF hKF => ?_
  refine mB rfl ?_
  refine WpO.nil (hKF _ _ ?_)
  refine sq ?_
  refine rg fun KF hKF => ?_
  refine mI rfl ?_
  refine Fo.bin rfl rfl rfl (by simp only [↓nrmL, nrmZ, Nat.reduceEqDiff, ↓reduceIte, Nat.reduceAdd, Int.reduceBEq, Int.reduceBNe, h1, h2]; rfl) ?_
  refine mB rfl ?_
  refine Fo.yes rfl rfl ?_
  refine mI rfl ?_
  refine Fo.yes rfl rfl ?_
  refine Fo.bin rfl rfl rfl (by simp only [↓nrmL, nrmZ, Nat.reduceEqDiff, ↓reduceIte, Nat.reduceAdd, Int.reduceBEq, Int.reduceBNe, h1, h2]; rfl) ?_
  refine tB rfl rfl ?_
  refine mB rfl ?_
  refine WpO.nil (hKF _ _ ?_)
  refine Wp.ret ?_
  dsimp only [cond_true, cond_false]
  exact ⟨trivial, _, rfl, rfl, Ext0.ext⟩⟩
instance K_sized (a b k : Int) (H : AHeap) : PureCon ext prog 106 [.int .i64 a, .int .i64 b, .int .i64 k] H 2 (.bool (sideB a && sideB b && (k == IntKind.i64.wrap (a * b)))) := ⟨by
 refine con_of (show prog 106 = some c106 from rfl) rfl rfl fun n hn => ?_
 cases h1 : sideB a
 ·skip
  try simp only [↓nrmL, nrmZ, Nat.reduceEqDiff, ↓reduceIte, Nat.reduceAdd, Int.reduceBEq, Int.reduceBNe, h1]
  refine sq ?_
  refine rg fun KF hKF => ?_
  refine mB rfl ?_
  refine WpO.nil (hKF _ _ ?_)
  refine sq ?_
  refine rg fun KF hKF => ?_
  refine mI rfl ?_
  refine Fo.pcall (v' := ?_) hn rfl (by simp only [↓nrmL, nrmZ, Nat.reduceEqDiff, ↓reduceIte, Nat.reduceAdd, Int.reduceBEq, Int.reduceBNe, h1, List.map]; rfl) rfl ?hv fun _ _ => ?_; case hv => (simp only [↓nrmL, nrmZ, Nat.reduceEqDiff, ↓reduceIte, Nat.reduceAdd, Int.reduceBEq, Int.reduceBNe, h1]; rfl)
  refine mB rfl ?_
  refine Fo.no rfl rfl ?_
  refine Fo.no rfl rfl ?_
  refine fB rfl rfl ?_
  refine mB rfl ?_
  refine Fo.no rfl rfl ?_
  refine Fo.no rfl rfl ?_
  refine Fo.no rfl rfl ?_
  refine Fo.no rfl rfl ?_
  refine Fo.no rfl rfl ?_
  refine fB rfl rfl ?_
  refine mB rfl ?_
  refine WpO.nil (hKF _ _ ?_)
  refine Wp.ret ?_
  dsimp only [cond_true, cond_false]
  exact ⟨trivial, _, rfl, rfl, Ext0.ext⟩
 cases h2 : sideB b
 ·skip
  try simp only [↓nrmL, nrmZ, Nat.reduceEqDiff, ↓reduceIte, Nat.reduceAdd, Int.reduceBEq, Int.reduceBNe, h1, h2]
  refine sq ?_
  refine rg fun KF hKF => ?_
  refine mB rfl ?_
  refine WpO.nil (hKF _ _ ?_)
  refine sq ?_
  refine rg fun KF hKF => ?_
  refine mI rfl ?_
  refine Fo.pcall (v' := ?_) hn rfl (by simp only [↓nrmL, nrmZ, Nat.reduceEqDiff, ↓reduceIte, Nat.reduceAdd, Int.reduceBEq, Int.reduceBNe, h1, h2, List.map]; rfl) rfl ?hv fun _ _ => ?_; case hv => (simp only [↓nrmL, nrmZ, Nat.reduceEqDiff, ↓reduceIte, Nat.reduceAdd, Int.reduceBEq, Int.reduceBNe, h1, h2]; rfl)
  refine mB rfl ?_
  refine Fo.yes rfl rfl ?_
  refine mI rfl ?_
  refine Fo.yes rfl rfl ?_
  refine Fo.pcall (v' := ?_) hn rfl (by simp only [↓nrmL, nrmZ, Nat.reduceEqDiff, ↓reduceIte, Nat.reduceAdd, Int.reduceBEq, Int.reduceBNe, h1, h2, List.map]; rfl) rfl ?hv fun _ _ => ?_; case hv => (simp only [↓nrmL, nrmZ, Nat.reduceEqDiff, ↓reduceIte, Nat.reduceAdd, Int.reduceBEq, Int.reduceBNe, h1, h2]; rfl)
  refine tB rfl rfl ?_
  refine mB rfl ?_
  refine Fo.no rfl rfl ?_
  refine Fo.no rfl rfl ?_
  refine Fo.no rfl rfl ?_
  refine Fo.no rfl rfl ?_
  refine Fo.no rfl rfl ?_
  refine fB rfl rfl ?_
  refine mB rfl ?_
  refine WpO.nil (hKF _ _ ?_)
  refine Wp.ret ?_
  dsimp only [cond_true, cond_false]
  exact ⟨trivial, _, rfl, rfl, Ext0.ext⟩
 ·skip
  try simp only [↓nrmL, nrmZ, Nat.reduceEqDiff, ↓reduceIte, Nat.reduceAdd, Int.reduceBEq, Int.reduceBNe, h1, h2]
  refine sq ?_
  refine rg fun KF hKF => ?_
  refine mB rfl ?_
  refine WpO.nil (hKF _ _ ?_)
  refine sq ?_
  refine rg fun KF hKF => ?_
  refine mI rfl ?_
  refine Fo.pcall (v' := ?_) hn rfl (by simp only [↓nrmL, nrmZ, Nat.reduceEqDiff, ↓reduceIte, Nat.reduceAdd, Int.reduceBEq, Int.reduceBNe, h1, h2, List.map]; rfl) rfl ?hv fun _ _ => ?_; case hv => (simp only [↓nrmL, nrmZ, Nat.reduceEqDiff, ↓reduceIte, Nat.reduceAdd, Int.reduceBEq, Int.reduceBNe, h1, h2]; rfl)
  refine mB rfl ?_
  refine Fo.yes rfl rfl ?_
  refine mI rfl ?_
  refine Fo.yes rfl rfl ?_
  refine Fo.pcall (v' := ?_) hn rfl (by simp only [↓nrmL, nrmZ, Nat.reduceEqDiff, ↓reduceIte, Nat.reduceAdd, Int.reduceBEq, Int.reduceBNe, h1, h2, List.map]; rfl) rfl ?hv fun _ _ => ?_; case hv => (simp only [↓nrmL, nrmZ, Nat.reduceEqDiff, ↓reduceIte, Nat.reduceAdd, Int.reduceBEq, Int.reduceBNe, h1, h2]; rfl)
  refine tB rfl rfl ?_
  refine mB rfl ?_
  refine Fo.yes rfl rfl ?_
  refine mI rfl ?_
  refine Fo.yes rfl rfl ?_
  refine mI rfl ?_
  refine Fo.yes rfl rfl ?_
  refine mI rfl ?_
  refine Fo.yes rfl rfl ?_
  refine Fo.bin rfl rfl rfl rfl ?_
  refine Fo.yes rfl rfl ?_
  refine Fo.bin rfl rfl rfl rfl ?_
  refine tB rfl rfl ?_
  refine mB rfl ?_
  refine WpO.nil (hKF _ _ ?_)
  refine Wp.ret ?_
  dsimp only [cond_true, cond_false]
  exact ⟨trivial, _, rfl, rfl, Ext0.ext⟩⟩
end Go.Am

set_option maxHeartbeats 4000000
set_option maxRecDepth 100000
namespace Go.Am
open Go
attribute [local irreducible] Wp WpO WpX WpE

structure Img where
 w : Int
 h : Int
 px : List UInt8
 deriving DecidableEq
def Img.zero : Img := ⟨0, 0, []⟩
def sizedB (a b k : Int) : Bool := sideB a && sideB b && (k == IntKind.i64.wrap (a * b))
def Img.sized (g : Img) : Bool := sizedB g.w g.h g.px.length
/-- A new image as a result. -/
def NewInk (H H' : AHeap) (v : AVal) (g : Img) : Prop := ∃ p, v = .agg [.int .i64 g.w, .int .i64 g.h, p] ∧ BytesI H' p g.px ∧ FreshS H p ∧ WrS H' p ∧ Ext H H'

theorem K_blank {w h : Nat} {H : AHeap} (hw : w ≤ 640) (hh : h ≤ 640) : Con ext prog 1 103 [.int .i64 w, .int .i64 h] H fun v H' => NewInk H H' v ⟨w, h, List.replicate (w * h) 0⟩ := by
 refine con_of (show prog 103 = some c103 from rfl) rfl rfl fun n hn => ?_
 have hm : w * h ≤ 640 * 640 := Nat.mul_le_mul hw hh
 have hc : IntKind.i64.wrap ((w : Int) * (h : Int)) = ((w * h : Nat) : Int) := by rw [← Int.natCast_mul]; exact w64 (by omega)
 try simp only [↓nrmL, nrmZ, Nat.reduceEqDiff, ↓reduceIte, Nat.reduceAdd, Int.reduceBEq, Int.reduceBNe, hc]
 refine sq ?_
 refine rg fun KF hKF => ?_
 refine Fo.new ?_
 refine WpO.nil (hKF _ _ ?_)
 refine sq ?_
 refine rg fun KF hKF => ?_
 refine mI rfl ?_
 refine mI rfl ?_
 refine mI rfl ?_
 refine mI rfl ?_
 refine Fo.bin rfl rfl rfl (by simp only [↓nrmL, nrmZ, Nat.reduceEqDiff, ↓reduceIte, Nat.reduceAdd, Int.reduceBEq, Int.reduceBNe, hc]; rfl) ?_
 refine WpO.do (WpX.mkB rfl rfl rfl (by omega) fun p H1 e1 hb hf hw' hx => ?_); try simp only [↓nrmL, nrmZ, Nat.reduceEqDiff, ↓reduceIte, Nat.reduceAdd, Int.reduceBEq, Int.reduceBNe, hc]
 haveI := hb.one
 refine Fo.build (by repeat (first | refine aFill1 (by first | exact (rfl : _ = AVal.int _ _) | exact (rfl : _ = AVal.ptr _ _) | exact (rfl : _ = AVal.bool _) | exact (rfl : _ = AVal.agg _) | exact (rfl : _ = AVal.tuple _) | exact (rfl : _ = AVal.func _ _ _) | exact (rfl : _ = AVal.nslice) | ((try simp only [↓nrmL, nrmK, Nat.reduceEqDiff, ↓reduceIte]); rfl)) rfl ?_ | rfl)) (by simp only [↓nrmL, nrmZ, Nat.reduceEqDiff, ↓reduceIte, Nat.reduceAdd, Int.reduceBEq, Int.reduceBNe]; rfl) ?_
 refine Fo.st rfl (rfl : _ = AVal.agg _) rfl rfl rfl (by repeat (first | rfl | refine allOne_cons ?_)) (by simp only [↓nrmL, nrmZ, Nat.reduceEqDiff, ↓reduceIte, Nat.reduceAdd, Int.reduceBEq, Int.reduceBNe]; rfl) ?_
 refine WpO.nil (hKF _ _ ?_)
 refine Wp.ret ?_
 dsimp only [cond_true, cond_false]
 refine ⟨trivial, _, (by first | rfl | exact getAllC rfl rfl rfl rfl | exact getAllT rfl (getAllC rfl rfl rfl rfl) | exact getAllC rfl rfl rfl (getAllC rfl rfl rfl rfl) | exact getAllC1 rfl rfl rfl), ?_⟩
 exact ⟨p, rfl, inferInstance, hf.weak, inferInstance, Ext0.ext⟩
end Go.Am

set_option maxHeartbeats 4000000
set_option maxRecDepth 100000
namespace Go.Am
open Go
attribute [local irreducible] Wp WpO WpX WpE

theorem sized_nat {w h : Int} {n : Nat} (hs : sizedB w h n = true) : ∃ a b : Nat, w = a ∧ h = b ∧ a ≤ 640 ∧ b ≤ 640 ∧ n = a * b := by
 simp only [sizedB, sideB, Bool.and_eq_true, decide_eq_true_eq, beq_iff_eq] at hs
 obtain ⟨⟨⟨h1, h2⟩, h3, h4⟩, h5⟩ := hs
 refine ⟨w.toNat, h.toNat, by omega, by omega, by omega, by omega, ?_⟩
 obtain ⟨a, rfl⟩ : ∃ a : Nat, w = a := ⟨w.toNat, by omega⟩
 obtain ⟨b, rfl⟩ : ∃ b : Nat, h = b := ⟨h.toNat, by omega⟩
 have hm : a * b ≤ 640 * 640 := Nat.mul_le_mul (by omega) (by omega)
 rw [← Int.natCast_mul, w64 (by omega)] at h5
 simp only [Int.toNat_natCast]
 omega

/-- A new image and an error as a result. -/
def InkRes (H H' : AHeap) (v : AVal) (r : Img × Int) : Prop := ∃ q, v = .tuple [q, .int .i64 r.2] ∧ NewInk H H' q r.1
theorem newZero {H H' : AHeap} [x : Ext0 H H'] : NewInk H H' (.agg [.int .i64 0, .int .i64 0, .nslice]) Img.zero := ⟨.nslice, rfl, ⟨Or.inl ⟨rfl, rfl, rfl⟩⟩, ⟨fun _ _ _ _ _ e => by cases e⟩, ⟨fun _ _ _ _ _ e => by cases e⟩, x.ext⟩

end Go.Am

set_option maxHeartbeats 4000000
set_option maxRecDepth 100000
namespace Go.Am
open Go
attribute [local irreducible] Wp WpO WpX WpE

end Go.Am

set_option maxHeartbeats 4000000
set_option maxRecDepth 100000
namespace Go.Am
open Go
attribute [local irreducible] Wp WpO WpX WpE

theorem wm {a b : Nat} (h : a * b < 9223372036854775808) : IntKind.i64.wrap ((a : Int) * (b : Int)) = ((a * b : Nat) : Int) := by rw [← Int.natCast_mul]; exact w64 (by omega)
theorem wa {a b : Nat} (h : a + b < 9223372036854775808) : IntKind.i64.wrap ((a : Int) + (b : Int)) = ((a + b : Nat) : Int) := by rw [← Int.natCast_add]; exact w64 (by omega)
theorem wa1 {a : Nat} (h : a < 9223372036854775807) : IntKind.i64.wrap ((a : Int) + 1) = ((a + 1 : Nat) : Int) := by rw [w64 (by omega)]; omega
theorem idx_lt {x y w h : Nat} (hx : x < w) (hy : y < h) : y * w + x < w * h := by
 have : (y + 1) * w ≤ h * w := Nat.mul_le_mul_right _ hy
 rw [Nat.mul_comm w h]
 rw [Nat.add_mul] at this
 omega

end Go.Am

set_option maxHeartbeats 4000000
set_option maxRecDepth 100000
namespace Go.Am
open Go
attribute [local irreducible] Wp WpO WpX WpE

end Go.Am

set_option maxHeartbeats 4000000
set_option maxRecDepth 100000
namespace Go.Am
open Go
attribute [local irreducible] Wp WpO WpX WpE

def lvStep (acc : List Int) (b : UInt8) : List Int := acc.set b.toNat (acc.getD b.toNat 0 + 1)
def lv (l : List UInt8) : List Int := l.foldl lvStep (List.replicate 256 0)
instance intsNil {H : AHeap} : IntsI H .nslice [] := ⟨Or.inl ⟨rfl, rfl, rfl⟩⟩
instance bytesNil {H : AHeap} : BytesI H .nslice [] := ⟨Or.inl ⟨rfl, rfl, rfl⟩⟩

end Go.Am

set_option maxHeartbeats 4000000
set_option maxRecDepth 100000
namespace Go.Am
open Go
attribute [local irreducible] Wp WpO WpX WpE

theorem eq_of_gets {α : Type} {l m : List α} (hl : l.length = m.length) (h : ∀ j, j < l.length → l[j]? = m[j]?) : l = m := by
 apply List.ext_getElem?
 intro i
 by_cases hi : i < l.length
 ·exact h i hi
 ·rw [List.getElem?_eq_none (by omega), List.getElem?_eq_none (by omega)]

/-- Short enough for the loops. -/
class Short {α : Type} (l : List α) : Prop where
 le : l.length ≤ 999999

instance K_SameBytes {p q : AVal} {H : AHeap} {l m : List UInt8} [hp : BytesI H p l] [hq : BytesI H q m] [hs : Short l] : PureCon ext prog 108 [p, q] H 1 (.bool (decide (l = m))) := ⟨by
 refine con_of (show prog 108 = some c108 from rfl) rfl rfl fun n hn => ?_
 have hsl := hs.le
 by_cases hlm : l.length = m.length
 ·have h1 : (((l.length : Nat) : Int) != ((m.length : Nat) : Int)) = false := by simp [hlm]
  try simp only [↓nrmL, nrmZ, Nat.reduceEqDiff, ↓reduceIte, Nat.reduceAdd, Int.reduceBEq, Int.reduceBNe, h1]
  refine sq ?_
  refine rg fun KF hKF => ?_
  refine mB rfl ?_
  refine WpO.nil (hKF _ _ ?_)
  refine sq ?_
  refine sq ?_
  refine rg fun KF hKF => ?_
  refine Fo.mov (by simp only [↓nrmL, nrmK, Nat.reduceEqDiff, ↓reduceIte]; rfl) ?_
  refine Fo.len (v := ?_) (by simp only [↓nrmL, nrmK, Nat.reduceEqDiff, ↓reduceIte]; rfl) ?hv ?_; case hv => rfl
  refine Fo.mov (by simp only [↓nrmL, nrmK, Nat.reduceEqDiff, ↓reduceIte]; rfl) ?_
  refine Fo.len (v := ?_) (by simp only [↓nrmL, nrmK, Nat.reduceEqDiff, ↓reduceIte]; rfl) ?hv ?_; case hv => rfl
  refine Fo.bin rfl rfl rfl (by simp only [↓nrmL, nrmZ, Nat.reduceEqDiff, ↓reduceIte, Nat.reduceAdd, Int.reduceBEq, Int.reduceBNe, h1]; rfl) ?_
  refine WpO.nil (hKF _ _ ?_)
  refine Wp.cond (b := false) rfl ?_
  refine Wp.skip ?_
  refine sq ?_
  refine sq ?_
  refine rg fun KF hKF => ?_
  refine mI rfl ?_
  refine WpO.nil (hKF _ _ ?_)
  refine Wp.block ?_
  dsimp only [cond_true, cond_false]
  refine Wp.loopS [4, 5, 11, 12, 13, 14, 15, 16, 17, 18, 19, 20, 21, 22, 23, 24, 25] (fun i : Nat => [(5, .int .i64 i)]) (fun H3 i H2 => i ≤ l.length ∧ (∀ j, j < i → l[j]? = m[j]?) ∧ H2 = H3) (fun i => l.length - i) 0 rfl (fun _ => rfl) ⟨rfl, trivial⟩ ⟨Nat.zero_le _, fun j hj => by omega, rfl⟩ (by unfold fuel0 at hn; omega) ?_
  rintro i g H2 ⟨hi, heq, rfl⟩
  simp only [↓nrmL, nrmZ, Nat.reduceEqDiff, ↓reduceIte, Nat.reduceAdd, Int.reduceBEq, Int.reduceBNe]
  cases hc : decide ((i : Int) < (l.length : Int))
  ·have hil : i = l.length := by have := of_decide_eq_false hc; omega
   subst hil
   have hd : decide (l = m) = true := decide_eq_true (eq_of_gets hlm heq)
   rw [hd]
   try simp only [↓nrmL, nrmZ, Nat.reduceEqDiff, ↓reduceIte, Nat.reduceAdd, Int.reduceBEq, Int.reduceBNe, hc]
   refine sq ?_
   refine sq ?_
   refine rg fun KF hKF => ?_
   refine mI rfl ?_
   refine Fo.mov (by simp only [↓nrmL, nrmK, Nat.reduceEqDiff, ↓reduceIte]; rfl) ?_
   refine Fo.len (v := ?_) (by simp only [↓nrmL, nrmK, Nat.reduceEqDiff, ↓reduceIte]; rfl) ?hv ?_; case hv => rfl
   refine Fo.bin rfl rfl rfl (by simp only [↓nrmL, nrmZ, Nat.reduceEqDiff, ↓reduceIte, Nat.reduceAdd, Int.reduceBEq, Int.reduceBNe, hc]; rfl) ?_
   refine WpO.nil (hKF _ _ ?_)
   refine Wp.cond (b := false) rfl ?_
   refine Wp.exit ?_
   refine sq ?_
   refine rg fun KF hKF => ?_
   refine mB rfl ?_
   refine WpO.nil (hKF _ _ ?_)
   refine Wp.ret ?_
   dsimp only [cond_true, cond_false]
   refine ⟨trivial, _, (by first | rfl | exact getAllC rfl rfl rfl rfl | exact getAllT rfl (getAllC rfl rfl rfl rfl) | exact getAllC rfl rfl rfl (getAllC rfl rfl rfl rfl) | exact getAllC1 rfl rfl rfl), ?_⟩
   exact ⟨rfl, Ext0.ext⟩
  ·have hil : i < l.length := by have := of_decide_eq_true hc; omega
   have him : i < m.length := by omega
   have hw1 := wa1 (a := i) (by omega)
   cases hne : (((l[i].toNat : Nat) : Int) != ((m[i].toNat : Nat) : Int))
   ·skip
    try simp only [↓nrmL, nrmZ, Nat.reduceEqDiff, ↓reduceIte, Nat.reduceAdd, Int.reduceBEq, Int.reduceBNe, hc, hne]
    refine sq ?_
    refine sq ?_
    refine rg fun KF hKF => ?_
    refine mI rfl ?_
    refine Fo.mov (by simp only [↓nrmL, nrmK, Nat.reduceEqDiff, ↓reduceIte]; rfl) ?_
    refine Fo.len (v := ?_) (by simp only [↓nrmL, nrmK, Nat.reduceEqDiff, ↓reduceIte]; rfl) ?hv ?_; case hv => rfl
    refine Fo.bin rfl rfl rfl (by simp only [↓nrmL, nrmZ, Nat.reduceEqDiff, ↓reduceIte, Nat.reduceAdd, Int.reduceBEq, Int.reduceBNe, hc, hne]; rfl) ?_
    refine WpO.nil (hKF _ _ ?_)
    refine Wp.cond (b := true) rfl ?_
    refine Wp.skip ?_
    refine sq ?_
    refine Wp.block ?_
    refine sq ?_
    refine Fr.quiet rfl rfl fun KF hKF => ?_
    refine Fo.mov (by simp only [↓nrmL, nrmK, Nat.reduceEqDiff, ↓reduceIte]; rfl) ?_
    refine mI rfl ?_
    refine Fo.idx (by simp only [↓nrmL, nrmK, Nat.reduceEqDiff, ↓reduceIte]; rfl) rfl ?_ (by simp only [↓nrmL, nrmZ, Nat.reduceEqDiff, ↓reduceIte, Nat.reduceAdd, Int.reduceBEq, Int.reduceBNe, hc, hne]; rfl) ?_; (focus omega)
    refine Fo.ldB rfl ?_ rfl ?_; (focus omega)
    refine Fo.mov (by simp only [↓nrmL, nrmK, Nat.reduceEqDiff, ↓reduceIte]; rfl) ?_
    refine mI rfl ?_
    refine Fo.idx (by simp only [↓nrmL, nrmK, Nat.reduceEqDiff, ↓reduceIte]; rfl) rfl ?_ (by simp only [↓nrmL, nrmZ, Nat.reduceEqDiff, ↓reduceIte, Nat.reduceAdd, Int.reduceBEq, Int.reduceBNe, hc, hne]; rfl) ?_; (focus omega)
    refine Fo.ldB rfl ?_ rfl ?_; (focus omega)
    refine Fo.bin rfl rfl rfl (by simp only [↓nrmL, nrmZ, Nat.reduceEqDiff, ↓reduceIte, Nat.reduceAdd, Int.reduceBEq, Int.reduceBNe, hc, hne]; rfl) ?_
    refine WpO.nil (hKF _ _ ?_)
    refine Wp.cond (b := false) rfl ?_
    refine Wp.skip ?_
    refine rg fun KF hKF => ?_
    refine mI rfl ?_
    refine Fo.bin rfl rfl rfl rfl ?_
    refine mI rfl ?_
    refine WpO.nil (hKF _ _ ?_)
    dsimp only [cond_true, cond_false]
    refine ⟨i + 1, by omega, ⟨by simp only [↓nrmL, nrmZ, Nat.reduceEqDiff, ↓reduceIte, Nat.reduceAdd, Int.reduceBEq, Int.reduceBNe]; rw [hw1], trivial⟩, hil, fun j hj => ?_, rfl⟩
    by_cases hj2 : j < i
    ·exact heq j hj2
    ·have : j = i := by omega
     subst this
     have h2 : l[j].toNat = m[j].toNat := by simp at hne; omega
     have : l[j] = m[j] := UInt8.toNat_inj.1 h2
     simp [hil, him, this]
   ·have hd : decide (l = m) = false := decide_eq_false (fun e => by subst e; simp at hne)
    rw [hd]
    try simp only [↓nrmL, nrmZ, Nat.reduceEqDiff, ↓reduceIte, Nat.reduceAdd, Int.reduceBEq, Int.reduceBNe, hc, hne]
    refine sq ?_
    refine sq ?_
    refine rg fun KF hKF => ?_
    refine mI rfl ?_
    refine Fo.mov (by simp only [↓nrmL, nrmK, Nat.reduceEqDiff, ↓reduceIte]; rfl) ?_
    refine Fo.len (v := ?_) (by simp only [↓nrmL, nrmK, Nat.reduceEqDiff, ↓reduceIte]; rfl) ?hv ?_; case hv => rfl
    refine Fo.bin rfl rfl rfl (by simp only [↓nrmL, nrmZ, Nat.reduceEqDiff, ↓reduceIte, Nat.reduceAdd, Int.reduceBEq, Int.reduceBNe, hc, hne]; rfl) ?_
    refine WpO.nil (hKF _ _ ?_)
    refine Wp.cond (b := true) rfl ?_
    refine Wp.skip ?_
    refine sq ?_
    refine Wp.block ?_
    refine sq ?_
    refine Fr.quiet rfl rfl fun KF hKF => ?_
    refine Fo.mov (by simp only [↓nrmL, nrmK, Nat.reduceEqDiff, ↓reduceIte]; rfl) ?_
    refine mI rfl ?_
    refine Fo.idx (by simp only [↓nrmL, nrmK, Nat.reduceEqDiff, ↓reduceIte]; rfl) rfl ?_ (by simp only [↓nrmL, nrmZ, Nat.reduceEqDiff, ↓reduceIte, Nat.reduceAdd, Int.reduceBEq, Int.reduceBNe, hc, hne]; rfl) ?_; (focus omega)
    refine Fo.ldB rfl ?_ rfl ?_; (focus omega)
    refine Fo.mov (by simp only [↓nrmL, nrmK, Nat.reduceEqDiff, ↓reduceIte]; rfl) ?_
    refine mI rfl ?_
    refine Fo.idx (by simp only [↓nrmL, nrmK, Nat.reduceEqDiff, ↓reduceIte]; rfl) rfl ?_ (by simp only [↓nrmL, nrmZ, Nat.reduceEqDiff, ↓reduceIte, Nat.reduceAdd, Int.reduceBEq, Int.reduceBNe, hc, hne]; rfl) ?_; (focus omega)
    refine Fo.ldB rfl ?_ rfl ?_; (focus omega)
    refine Fo.bin rfl rfl rfl (by simp only [↓nrmL, nrmZ, Nat.reduceEqDiff, ↓reduceIte, Nat.reduceAdd, Int.reduceBEq, Int.reduceBNe, hc, hne]; rfl) ?_
    refine WpO.nil (hKF _ _ ?_)
    refine Wp.cond (b := true) rfl ?_
    refine sq ?_
    refine rg fun KF hKF => ?_
    refine mB rfl ?_
    refine WpO.nil (hKF _ _ ?_)
    refine Wp.ret ?_
    dsimp only [cond_true, cond_false]
    refine ⟨trivial, _, (by first | rfl | exact getAllC rfl rfl rfl rfl | exact getAllT rfl (getAllC rfl rfl rfl rfl) | exact getAllC rfl rfl rfl (getAllC rfl rfl rfl rfl) | exact getAllC1 rfl rfl rfl), ?_⟩
    exact ⟨rfl, Ext0.ext⟩
 ·have h1 : (((l.length : Nat) : Int) != ((m.length : Nat) : Int)) = true := by simp; omega
  have hd : decide (l = m) = false := decide_eq_false (fun e => by subst e; exact hlm rfl)
  rw [hd]
  try simp only [↓nrmL, nrmZ, Nat.reduceEqDiff, ↓reduceIte, Nat.reduceAdd, Int.reduceBEq, Int.reduceBNe, h1]
  refine sq ?_
  refine rg fun KF hKF => ?_
  refine mB rfl ?_
  refine WpO.nil (hKF _ _ ?_)
  refine sq ?_
  refine sq ?_
  refine rg fun KF hKF => ?_
  refine Fo.mov (by simp only [↓nrmL, nrmK, Nat.reduceEqDiff, ↓reduceIte]; rfl) ?_
  refine Fo.len (v := ?_) (by simp only [↓nrmL, nrmK, Nat.reduceEqDiff, ↓reduceIte]; rfl) ?hv ?_; case hv => rfl
  refine Fo.mov (by simp only [↓nrmL, nrmK, Nat.reduceEqDiff, ↓reduceIte]; rfl) ?_
  refine Fo.len (v := ?_) (by simp only [↓nrmL, nrmK, Nat.reduceEqDiff, ↓reduceIte]; rfl) ?hv ?_; case hv => rfl
  refine Fo.bin rfl rfl rfl (by simp only [↓nrmL, nrmZ, Nat.reduceEqDiff, ↓reduceIte, Nat.reduceAdd, Int.reduceBEq, Int.reduceBNe, h1]; rfl) ?_
  refine WpO.nil (hKF _ _ ?_)
  refine Wp.cond (b := true) rfl ?_
  refine sq ?_
  refine rg fun KF hKF => ?_
  refine mB rfl ?_
  refine WpO.nil (hKF _ _ ?_)
  refine Wp.ret ?_
  dsimp only [cond_true, cond_false]
  refine ⟨trivial, _, (by first | rfl | exact getAllC rfl rfl rfl rfl | exact getAllT rfl (getAllC rfl rfl rfl rfl) | exact getAllC rfl rfl rfl (getAllC rfl rfl rfl rfl) | exact getAllC1 rfl rfl rfl), ?_⟩
  exact ⟨rfl, Ext0.ext⟩⟩

/-- Two images are the same. -/
instance K_SameInk {p q : AVal} {H : AHeap} {w h w' h' : Int} {l m : List UInt8} [hp : BytesI H p l] [hq : BytesI H q m] [hs : Short l] : PureCon ext prog 32 [.agg [.int .i64 w, .int .i64 h, p], .agg [.int .i64 w', .int .i64 h', q]] H 2 (.bool (decide ((⟨w, h, l⟩ : Img) = ⟨w', h', m⟩))) := ⟨by
 refine con_of (show prog 32 = some c32 from rfl) rfl rfl fun n hn => ?_
 haveI := hp.one
 haveI := hq.one
 have e : decide ((⟨w, h, l⟩ : Img) = ⟨w', h', m⟩) = ((w == w') && (h == h') && decide (l = m)) := by
  by_cases h1 : w = w' <;> by_cases h2 : h = h' <;> by_cases h3 : l = m <;> simp [h1, h2, h3]
 rw [e]
 cases h1 : (w == w')
 ·skip
  try simp only [↓nrmL, nrmZ, Nat.reduceEqDiff, ↓reduceIte, Nat.reduceAdd, Int.reduceBEq, Int.reduceBNe, h1]
  refine sq ?_
  refine rg fun KF hKF => ?_
  refine Fo.boxA rfl ?_
  refine Fo.boxA rfl ?_
  refine mB rfl ?_
  refine WpO.nil (hKF _ _ ?_)
  refine sq ?_
  refine rg fun KF hKF => ?_
  refine Fo.fa rfl ?_
  refine Fo.ld rfl rfl ?_
  refine Fo.fa rfl ?_
  refine Fo.ld rfl rfl ?_
  refine Fo.bin rfl rfl rfl (by simp only [↓nrmL, nrmZ, Nat.reduceEqDiff, ↓reduceIte, Nat.reduceAdd, Int.reduceBEq, Int.reduceBNe, h1]; rfl) ?_
  refine mB rfl ?_
  refine Fo.no rfl rfl ?_
  refine Fo.no rfl rfl ?_
  refine Fo.no rfl rfl ?_
  refine Fo.no rfl rfl ?_
  refine Fo.no rfl rfl ?_
  refine fB rfl rfl ?_
  refine mB rfl ?_
  refine Fo.no rfl rfl ?_
  refine Fo.no rfl rfl ?_
  refine Fo.no rfl rfl ?_
  refine Fo.no rfl rfl ?_
  refine Fo.no rfl rfl ?_
  refine fB rfl rfl ?_
  refine mB rfl ?_
  refine WpO.nil (hKF _ _ ?_)
  refine Wp.ret ?_
  dsimp only [cond_true, cond_false]
  refine ⟨trivial, _, (by first | rfl | exact getAllC rfl rfl rfl rfl | exact getAllT rfl (getAllC rfl rfl rfl rfl) | exact getAllC rfl rfl rfl (getAllC rfl rfl rfl rfl) | exact getAllC1 rfl rfl rfl), ?_⟩
  exact ⟨rfl, Ext0.ext⟩
 cases h2 : (h == h')
 ·skip
  try simp only [↓nrmL, nrmZ, Nat.reduceEqDiff, ↓reduceIte, Nat.reduceAdd, Int.reduceBEq, Int.reduceBNe, h1, h2]
  refine sq ?_
  refine rg fun KF hKF => ?_
  refine Fo.boxA rfl ?_
  refine Fo.boxA rfl ?_
  refine mB rfl ?_
  refine WpO.nil (hKF _ _ ?_)
  refine sq ?_
  refine rg fun KF hKF => ?_
  refine Fo.fa rfl ?_
  refine Fo.ld rfl rfl ?_
  refine Fo.fa rfl ?_
  refine Fo.ld rfl rfl ?_
  refine Fo.bin rfl rfl rfl (by simp only [↓nrmL, nrmZ, Nat.reduceEqDiff, ↓reduceIte, Nat.reduceAdd, Int.reduceBEq, Int.reduceBNe, h1, h2]; rfl) ?_
  refine mB rfl ?_
  refine Fo.yes rfl rfl ?_
  refine Fo.fa rfl ?_
  refine Fo.yes rfl rfl ?_
  refine Fo.ld rfl rfl ?_
  refine Fo.yes rfl rfl ?_
  refine Fo.fa rfl ?_
  refine Fo.yes rfl rfl ?_
  refine Fo.ld rfl rfl ?_
  refine Fo.yes rfl rfl ?_
  refine Fo.bin rfl rfl rfl (by simp only [↓nrmL, nrmZ, Nat.reduceEqDiff, ↓reduceIte, Nat.reduceAdd, Int.reduceBEq, Int.reduceBNe, h1, h2]; rfl) ?_
  refine tB rfl rfl ?_
  refine mB rfl ?_
  refine Fo.no rfl rfl ?_
  refine Fo.no rfl rfl ?_
  refine Fo.no rfl rfl ?_
  refine Fo.no rfl rfl ?_
  refine Fo.no rfl rfl ?_
  refine fB rfl rfl ?_
  refine mB rfl ?_
  refine WpO.nil (hKF _ _ ?_)
  refine Wp.ret ?_
  dsimp only [cond_true, cond_false]
  refine ⟨trivial, _, (by first | rfl | exact getAllC rfl rfl rfl rfl | exact getAllT rfl (getAllC rfl rfl rfl rfl) | exact getAllC rfl rfl rfl (getAllC rfl rfl rfl rfl) | exact getAllC1 rfl rfl rfl), ?_⟩
  exact ⟨rfl, Ext0.ext⟩
 ·skip
  try simp only [↓nrmL, nrmZ, Nat.reduceEqDiff, ↓reduceIte, Nat.reduceAdd, Int.reduceBEq, Int.reduceBNe, h1, h2]
  refine sq ?_
  refine rg fun KF hKF => ?_
  refine Fo.boxA rfl ?_
  refine Fo.boxA rfl ?_
  refine mB rfl ?_
  refine WpO.nil (hKF _ _ ?_)
  refine sq ?_
  refine rg fun KF hKF => ?_
  refine Fo.fa rfl ?_
  refine Fo.ld rfl rfl ?_
  refine Fo.fa rfl ?_
  refine Fo.ld rfl rfl ?_
  refine Fo.bin rfl rfl rfl (by simp only [↓nrmL, nrmZ, Nat.reduceEqDiff, ↓reduceIte, Nat.reduceAdd, Int.reduceBEq, Int.reduceBNe, h1, h2]; rfl) ?_
  refine mB rfl ?_
  refine Fo.yes rfl rfl ?_
  refine Fo.fa rfl ?_
  refine Fo.yes rfl rfl ?_
  refine Fo.ld rfl rfl ?_
  refine Fo.yes rfl rfl ?_
  refine Fo.fa rfl ?_
  refine Fo.yes rfl rfl ?_
  refine Fo.ld rfl rfl ?_
  refine Fo.yes rfl rfl ?_
  refine Fo.bin rfl rfl rfl (by simp only [↓nrmL, nrmZ, Nat.reduceEqDiff, ↓reduceIte, Nat.reduceAdd, Int.reduceBEq, Int.reduceBNe, h1, h2]; rfl) ?_
  refine tB rfl rfl ?_
  refine mB rfl ?_
  refine Fo.yes rfl rfl ?_
  refine Fo.fa rfl ?_
  refine Fo.yes rfl rfl ?_
  refine Fo.ld rfl rfl ?_
  refine Fo.yes rfl rfl ?_
  refine Fo.fa rfl ?_
  refine Fo.yes rfl rfl ?_
  refine Fo.ld rfl rfl ?_
  refine Fo.yes rfl rfl ?_
  refine Fo.pcall (v' := ?_) hn rfl (by simp only [↓nrmL, nrmZ, Nat.reduceEqDiff, ↓reduceIte, Nat.reduceAdd, Int.reduceBEq, Int.reduceBNe, h1, h2, List.map]; rfl) rfl ?hv fun _ _ => ?_; case hv => rfl
  refine tB rfl rfl ?_
  refine mB rfl ?_
  refine WpO.nil (hKF _ _ ?_)
  refine Wp.ret ?_
  dsimp only [cond_true, cond_false]
  refine ⟨trivial, _, (by first | rfl | exact getAllC rfl rfl rfl rfl | exact getAllT rfl (getAllC rfl rfl rfl rfl) | exact getAllC rfl rfl rfl (getAllC rfl rfl rfl rfl) | exact getAllC1 rfl rfl rfl), ?_⟩
  exact ⟨rfl, Ext0.ext⟩⟩
end Go.Am

set_option maxHeartbeats 4000000
set_option maxRecDepth 100000
namespace Go.Am
open Go
attribute [local irreducible] Wp WpO WpX WpE

/-- bytealg.Count -/
instance K_bCount {p : AVal} {H : AHeap} {l : List UInt8} {k : Int} {b : UInt8} [hp : BytesI H p l] [hb : IsU8 k b] : PureCon ext prog 154 [p, .int .u8 k] H 0 (.int .i64 (l.count b : Nat)) := ⟨fun n hn => by
 obtain ⟨m, rfl⟩ : ∃ m, n = m + 1 := ⟨n - 1, by unfold fuel0 at hn; omega⟩
 have e1 : prog 154 = some ⟨0, .ext 0, []⟩ := rfl
 refine ⟨_, H, ?_, rfl, Ext.refl H⟩
 rw [call_ext e1]
 have hb' := hb.eq
 subst hb'
 show aBytesFn (fun l => .int .i64 (Lib.countByte l (UInt8.ofNat ((b.toNat : Int)).toNat))) p H = _
 rw [aBytesFn_at]
 simp [Lib.countByte]⟩
/-- bytes.Count of one byte -/
instance K_bytesCount {p q : AVal} {H : AHeap} {l : List UInt8} {b : UInt8} [hp : BytesI H p l] [hq : BytesI H q [b]] : PureCon ext prog 107 [p, q] H 1 (.int .i64 (l.count b : Nat)) := ⟨by
 refine con_of (show prog 107 = some c107 from rfl) rfl rfl fun n hn => ?_
 have e0 : [b].length = 1 := rfl
 try simp only [↓nrmL, nrmZ, Nat.reduceEqDiff, ↓reduceIte, Nat.reduceAdd, Int.reduceBEq, Int.reduceBNe, e0]
 refine sq ?_
 refine rg fun KF hKF => ?_
 refine mI rfl ?_
 refine WpO.nil (hKF _ _ ?_)
 refine sq ?_
 refine sq ?_
 refine rg fun KF hKF => ?_
 refine Fo.mov (by simp only [↓nrmL, nrmK, Nat.reduceEqDiff, ↓reduceIte]; rfl) ?_
 refine Fo.len (v := ?_) (by simp only [↓nrmL, nrmK, Nat.reduceEqDiff, ↓reduceIte]; rfl) ?hv ?_; case hv => (simp only [↓nrmL, nrmZ, Nat.reduceEqDiff, ↓reduceIte, Nat.reduceAdd, Int.reduceBEq, Int.reduceBNe, e0]; rfl)
 refine Fo.bin rfl rfl rfl rfl ?_
 refine WpO.nil (hKF _ _ ?_)
 refine Wp.cond (b := false) rfl ?_
 refine Wp.skip ?_
 refine sq ?_
 refine sq ?_
 refine rg fun KF hKF => ?_
 refine Fo.mov (by simp only [↓nrmL, nrmK, Nat.reduceEqDiff, ↓reduceIte]; rfl) ?_
 refine Fo.len (v := ?_) (by simp only [↓nrmL, nrmK, Nat.reduceEqDiff, ↓reduceIte]; rfl) ?hv ?_; case hv => (simp only [↓nrmL, nrmZ, Nat.reduceEqDiff, ↓reduceIte, Nat.reduceAdd, Int.reduceBEq, Int.reduceBNe, e0]; rfl)
 refine Fo.bin rfl rfl rfl rfl ?_
 refine WpO.nil (hKF _ _ ?_)
 refine Wp.cond (b := true) rfl ?_
 refine sq ?_
 refine rg fun KF hKF => ?_
 refine Fo.mov (by simp only [↓nrmL, nrmK, Nat.reduceEqDiff, ↓reduceIte]; rfl) ?_
 refine Fo.mov (by simp only [↓nrmL, nrmK, Nat.reduceEqDiff, ↓reduceIte]; rfl) ?_
 refine Fo.idx (by simp only [↓nrmL, nrmK, Nat.reduceEqDiff, ↓reduceIte]; rfl) rfl ?_ (by simp only [↓nrmL, nrmZ, Nat.reduceEqDiff, ↓reduceIte, Nat.reduceAdd, Int.reduceBEq, Int.reduceBNe, e0]; rfl) ?_; (focus omega)
 refine Fo.ldB rfl ?_ rfl ?_; (focus omega)
 refine Fo.pcall (v' := ?_) hn rfl (by simp only [↓nrmL, nrmZ, Nat.reduceEqDiff, ↓reduceIte, Nat.reduceAdd, Int.reduceBEq, Int.reduceBNe, e0, List.map]; rfl) rfl ?hv fun _ _ => ?_; case hv => rfl
 refine mI rfl ?_
 refine WpO.nil (hKF _ _ ?_)
 refine Wp.ret ?_
 dsimp only [cond_true, cond_false]
 refine ⟨trivial, _, (by first | rfl | exact getAllC rfl rfl rfl rfl | exact getAllT rfl (getAllC rfl rfl rfl rfl) | exact getAllC rfl rfl rfl (getAllC rfl rfl rfl rfl) | exact getAllC1 rfl rfl rfl), ?_⟩
 exact ⟨rfl, Ext0.ext⟩⟩
end Go.Am

set_option maxHeartbeats 4000000
set_option maxRecDepth 100000
namespace Go.Am
open Go
attribute [local irreducible] Wp WpO WpX WpE

instance K_count {p : AVal} {H : AHeap} {w h : Int} {l : List UInt8} [hp : BytesI H p l] : PureCon ext prog 97 [.agg [.int .i64 w, .int .i64 h, p]] H 2 (.int .i64 (l.count 1 : Nat)) := ⟨by
 refine con_of (show prog 97 = some c97 from rfl) rfl rfl fun n hn => ?_
 haveI := hp.one
 refine sq ?_
 refine rg fun KF hKF => ?_
 refine Fo.boxA rfl ?_
 refine mI rfl ?_
 refine WpO.nil (hKF _ _ ?_)
 refine sq ?_
 refine rg fun KF hKF => ?_
 refine Fo.fa rfl ?_
 refine Fo.ld rfl rfl ?_
 refine Fo.bslice rfl (by simp only [↓nrmL, nrmZ, Nat.reduceEqDiff, ↓reduceIte, Nat.reduceAdd, Int.reduceBEq, Int.reduceBNe]; rfl) ?_
 refine Fo.pcall (v' := ?_) hn rfl (by simp only [↓nrmL, nrmZ, Nat.reduceEqDiff, ↓reduceIte, Nat.reduceAdd, Int.reduceBEq, Int.reduceBNe, List.map]; rfl) rfl ?hv fun _ _ => ?_; case hv => rfl
 refine mI rfl ?_
 refine WpO.nil (hKF _ _ ?_)
 refine Wp.ret ?_
 dsimp only [cond_true, cond_false]
 refine ⟨trivial, _, (by first | rfl | exact getAllC rfl rfl rfl rfl | exact getAllT rfl (getAllC rfl rfl rfl rfl) | exact getAllC rfl rfl rfl (getAllC rfl rfl rfl rfl) | exact getAllC1 rfl rfl rfl), ?_⟩
 exact ⟨rfl, Ext0.ext⟩⟩

/-- The error of an image. -/
def Img.err (g : Img) : Int := bif g.sized then bif pxOk g.px then 0 else 3 else 2
instance K_Check {p : AVal} {H : AHeap} {w h : Int} {l : List UInt8} [hp : BytesI H p l] : PureCon ext prog 27 [.agg [.int .i64 w, .int .i64 h, p]] H 3 (.int .i64 (Img.err ⟨w, h, l⟩)) := ⟨by
 refine con_of (show prog 27 = some c27 from rfl) rfl rfl fun n hn => ?_
 haveI := hp.one
 unfold Img.err Img.sized sizedB
 cases h1 : (sideB w && sideB h && ((l.length : Nat) == IntKind.i64.wrap (w * h)))
 ·skip
  try simp only [↓nrmL, nrmZ, Nat.reduceEqDiff, ↓reduceIte, Nat.reduceAdd, Int.reduceBEq, Int.reduceBNe, h1]
  refine sq ?_
  refine rg fun KF hKF => ?_
  refine Fo.boxA rfl ?_
  refine mI rfl ?_
  refine WpO.nil (hKF _ _ ?_)
  refine sq ?_
  refine sq ?_
  refine rg fun KF hKF => ?_
  refine Fo.fa rfl ?_
  refine Fo.ld rfl rfl ?_
  refine Fo.fa rfl ?_
  refine Fo.ld rfl rfl ?_
  refine Fo.fa rfl ?_
  refine Fo.ld rfl rfl ?_
  refine Fo.len (v := ?_) (by simp only [↓nrmL, nrmK, Nat.reduceEqDiff, ↓reduceIte]; rfl) ?hv ?_; case hv => rfl
  refine Fo.pcall (v' := ?_) hn rfl (by simp only [↓nrmL, nrmZ, Nat.reduceEqDiff, ↓reduceIte, Nat.reduceAdd, Int.reduceBEq, Int.reduceBNe, h1, List.map]; rfl) rfl ?hv fun _ _ => ?_; case hv => (simp only [↓nrmL, nrmZ, Nat.reduceEqDiff, ↓reduceIte, Nat.reduceAdd, Int.reduceBEq, Int.reduceBNe, h1]; rfl)
  refine Fo.now rfl rfl (by simp only [↓nrmL, nrmZ, Nat.reduceEqDiff, ↓reduceIte, Nat.reduceAdd, Int.reduceBEq, Int.reduceBNe, h1]; rfl) ?_
  refine WpO.nil (hKF _ _ ?_)
  refine Wp.cond (b := true) rfl ?_
  refine sq ?_
  refine rg fun KF hKF => ?_
  refine mI rfl ?_
  refine WpO.nil (hKF _ _ ?_)
  refine Wp.ret ?_
  dsimp only [cond_true, cond_false]
  refine ⟨trivial, _, (by first | rfl | exact getAllC rfl rfl rfl rfl | exact getAllT rfl (getAllC rfl rfl rfl rfl) | exact getAllC rfl rfl rfl (getAllC rfl rfl rfl rfl) | exact getAllC1 rfl rfl rfl), ?_⟩
  exact ⟨rfl, Ext0.ext⟩
 ·obtain ⟨a, b, rfl, rfl, ha, hb, hl⟩ := sized_nat (n := l.length) h1
  have hm : a * b ≤ 640 * 640 := Nat.mul_le_mul ha hb
  have hc0 := count_le l 0
  have hc1 := count_le l 1
  have hw := wa (a := l.count 0) (b := l.count 1) (by omega)
  have h2 : (((l.count 0 + l.count 1 : Nat) : Int) != ((l.length : Nat) : Int)) = !(pxOk l) := by
   have := count01 l
   cases hp : pxOk l
   ·have : l.count 0 + l.count 1 ≠ l.length := fun e => by rw [this] at e; rw [hp] at e; cases e
    simp; omega
   ·have := this.2 hp
    simp [this]
  try simp only [↓nrmL, nrmZ, Nat.reduceEqDiff, ↓reduceIte, Nat.reduceAdd, Int.reduceBEq, Int.reduceBNe, h1]
  refine sq ?_
  refine rg fun KF hKF => ?_
  refine Fo.boxA rfl ?_
  refine mI rfl ?_
  refine WpO.nil (hKF _ _ ?_)
  refine sq ?_
  refine sq ?_
  refine rg fun KF hKF => ?_
  refine Fo.fa rfl ?_
  refine Fo.ld rfl rfl ?_
  refine Fo.fa rfl ?_
  refine Fo.ld rfl rfl ?_
  refine Fo.fa rfl ?_
  refine Fo.ld rfl rfl ?_
  refine Fo.len (v := ?_) (by simp only [↓nrmL, nrmK, Nat.reduceEqDiff, ↓reduceIte]; rfl) ?hv ?_; case hv => rfl
  refine Fo.pcall (v' := ?_) hn rfl (by simp only [↓nrmL, nrmZ, Nat.reduceEqDiff, ↓reduceIte, Nat.reduceAdd, Int.reduceBEq, Int.reduceBNe, h1, List.map]; rfl) rfl ?hv fun _ _ => ?_; case hv => (simp only [↓nrmL, nrmZ, Nat.reduceEqDiff, ↓reduceIte, Nat.reduceAdd, Int.reduceBEq, Int.reduceBNe, h1]; rfl)
  refine Fo.now rfl rfl (by simp only [↓nrmL, nrmZ, Nat.reduceEqDiff, ↓reduceIte, Nat.reduceAdd, Int.reduceBEq, Int.reduceBNe, h1]; rfl) ?_
  refine WpO.nil (hKF _ _ ?_)
  refine Wp.cond (b := false) rfl ?_
  refine Wp.skip ?_
  refine sq ?_
  refine sq ?_
  dsimp only [cond_true, cond_false]
  refine Fr.dregionE [.row [.int .u8 0] true (2 * 5)] ?_ fun KF hKF => ?_
  ·skip
   refine oracle_pre rfl rfl rfl rfl ?_; (try simp only [↓nrmL, nrmZ, Nat.reduceEqDiff, ↓reduceIte, Nat.reduceAdd, Int.reduceBEq, Int.reduceBNe])
   refine oracle_pre rfl rfl rfl (exec_ld rfl rfl) ?_; (try simp only [↓nrmL, nrmZ, Nat.reduceEqDiff, ↓reduceIte, Nat.reduceAdd, Int.reduceBEq, Int.reduceBNe])
   refine oracle_made rfl rfl rfl ?_; (try simp only [↓nrmL, nrmZ, Nat.reduceEqDiff, ↓reduceIte, Nat.reduceAdd, Int.reduceBEq, Int.reduceBNe])
   exact oracle_none _ _ _ _ rfl
  simp only [pushAll]
  try simp only [↓nrmL, nrmZ, Nat.reduceEqDiff, ↓reduceIte, Nat.reduceAdd, Int.reduceBEq, Int.reduceBNe, hw]
  refine Fe.pure rfl rfl (by simp only [↓nrmL, nrmZ, Nat.reduceEqDiff, ↓reduceIte, Nat.reduceAdd, Int.reduceBEq, Int.reduceBNe, hw]; rfl) ?_
  refine Fe.read rfl (exec_ld rfl rfl) rfl (by repeat (first | exact trivial | refine ⟨(by first | exact Or.inl (by dsimp only; decide) | exact Or.inr (exec_ld rfl rfl) | exact Or.inr (exec_ldN rfl rfl rfl) | exact Or.inr (exec_ldB rfl (by omega)) | exact Or.inr (exec_ldI rfl (by omega)) | exact Or.inr ghost_of), ?_⟩)) ?_
  refine Fe.made rfl rfl ghost_of (by repeat (first | exact trivial | refine ⟨(by first | exact Or.inl (by dsimp only; decide) | exact Or.inr (exec_ld rfl rfl) | exact Or.inr (exec_ldN rfl rfl rfl) | exact Or.inr (exec_ldB rfl (by omega)) | exact Or.inr (exec_ldI rfl (by omega)) | exact Or.inr ghost_of), ?_⟩)) rfl ?_
  refine Fe.pcall (v' := ?_) rfl hn rfl (by simp only [↓nrmL, nrmZ, Nat.reduceEqDiff, ↓reduceIte, Nat.reduceAdd, Int.reduceBEq, Int.reduceBNe, hw, List.map]; rfl) rfl ?hv fun _ _ => ⟨(by repeat (first | exact trivial | refine ⟨(by first | exact Or.inl (by dsimp only; decide) | exact Or.inr (readOk_of (exec_ld rfl rfl)) | exact Or.inr (readOk_of (exec_ldN rfl rfl rfl)) | exact Or.inr (readOk_of (exec_ldB rfl (by omega))) | exact Or.inr (readOk_of (exec_ldI rfl (by omega))) | exact Or.inr (made_of rfl)), ?_⟩)), ?_⟩; case hv => rfl
  refine Fe.read rfl (exec_ldN rfl rfl (by simp only [↓nrmL, nrmZ, Nat.reduceEqDiff, ↓reduceIte, Nat.reduceAdd, Int.reduceBEq, Int.reduceBNe, hw]; rfl)) rfl (by repeat (first | exact trivial | refine ⟨(by first | exact Or.inl (by dsimp only; decide) | exact Or.inr (exec_ld rfl rfl) | exact Or.inr (exec_ldN rfl rfl rfl) | exact Or.inr (exec_ldB rfl (by omega)) | exact Or.inr (exec_ldI rfl (by omega)) | exact Or.inr ghost_of), ?_⟩)) ?_
  refine Fe.pcall (v' := ?_) rfl hn rfl (by simp only [↓nrmL, nrmZ, Nat.reduceEqDiff, ↓reduceIte, Nat.reduceAdd, Int.reduceBEq, Int.reduceBNe, hw, List.map]; rfl) rfl ?hv fun _ _ => ⟨(by repeat (first | exact trivial | refine ⟨(by first | exact Or.inl (by dsimp only; decide) | exact Or.inr (readOk_of (exec_ld rfl rfl)) | exact Or.inr (readOk_of (exec_ldN rfl rfl rfl)) | exact Or.inr (readOk_of (exec_ldB rfl (by omega))) | exact Or.inr (readOk_of (exec_ldI rfl (by omega))) | exact Or.inr (made_of rfl)), ?_⟩)), ?_⟩; case hv => rfl
  refine Fe.pure rfl rfl (by simp only [↓nrmL, nrmZ, Nat.reduceEqDiff, ↓reduceIte, Nat.reduceAdd, Int.reduceBEq, Int.reduceBNe, hw]; rfl) ?_
  refine Fe.pure rfl rfl (by simp only [↓nrmL, nrmZ, Nat.reduceEqDiff, ↓reduceIte, Nat.reduceAdd, Int.reduceBEq, Int.reduceBNe, hw]; rfl) ?_
  refine Fe.read rfl (exec_ld rfl rfl) rfl (by repeat (first | exact trivial | refine ⟨(by first | exact Or.inl (by dsimp only; decide) | exact Or.inr (exec_ld rfl rfl) | exact Or.inr (exec_ldN rfl rfl rfl) | exact Or.inr (exec_ldB rfl (by omega)) | exact Or.inr (exec_ldI rfl (by omega)) | exact Or.inr ghost_of), ?_⟩)) ?_
  refine Fe.pure rfl (exec_lenP (by (try simp only [↓nrmL, nrmZ, Nat.reduceEqDiff, ↓reduceIte, Nat.reduceAdd, Int.reduceBEq, Int.reduceBNe, hw]); rfl)) rfl ?_
  refine Fe.pure rfl rfl rfl ?_
  refine WpE.nil (hKF _ _ ?_)
  cases hp2 : pxOk l
  ·rw [hp2] at h2
   try simp only [↓nrmL, nrmZ, Nat.reduceEqDiff, ↓reduceIte, Nat.reduceAdd, Int.reduceBEq, Int.reduceBNe, hw, h2]
   refine Wp.cond (b := true) rfl ?_
   refine sq ?_
   refine rg fun KF hKF => ?_
   refine mI rfl ?_
   refine WpO.nil (hKF _ _ ?_)
   refine Wp.ret ?_
   dsimp only [cond_true, cond_false]
   refine ⟨trivial, _, (by first | rfl | exact getAllC rfl rfl rfl rfl | exact getAllT rfl (getAllC rfl rfl rfl rfl) | exact getAllC rfl rfl rfl (getAllC rfl rfl rfl rfl) | exact getAllC1 rfl rfl rfl), ?_⟩
   exact ⟨rfl, Ext0.ext⟩
  ·rw [hp2] at h2
   try simp only [↓nrmL, nrmZ, Nat.reduceEqDiff, ↓reduceIte, Nat.reduceAdd, Int.reduceBEq, Int.reduceBNe, hw, h2]
   refine Wp.cond (b := false) rfl ?_
   refine Wp.skip ?_
   refine sq ?_
   refine rg fun KF hKF => ?_
   refine mI rfl ?_
   refine WpO.nil (hKF _ _ ?_)
   refine Wp.ret ?_
   dsimp only [cond_true, cond_false]
   refine ⟨trivial, _, (by first | rfl | exact getAllC rfl rfl rfl rfl | exact getAllT rfl (getAllC rfl rfl rfl rfl) | exact getAllC rfl rfl rfl (getAllC rfl rfl rfl rfl) | exact getAllC1 rfl rfl rfl), ?_⟩
   exact ⟨rfl, Ext0.ext⟩⟩
end Go.Am

set_option maxHeartbeats 4000000
set_option maxRecDepth 100000
namespace Go.Am
open Go
attribute [local irreducible] Wp WpO WpX WpE

theorem K_New {w h : Int} {H : AHeap} : Con ext prog 3 25 [.int .i64 w, .int .i64 h] H fun v H' => InkRes H H' v (bif sideB w && sideB h then (⟨w, h, List.replicate (w.toNat * h.toNat) 0⟩, 0) else (.zero, 2)) := by
 refine con_of (show prog 25 = some c25 from rfl) rfl rfl fun n hn => ?_
 cases h1 : sideB w
 ·skip
  try simp only [↓nrmL, nrmZ, Nat.reduceEqDiff, ↓reduceIte, Nat.reduceAdd, Int.reduceBEq, Int.reduceBNe, h1, Bool.false_and, cond_false]
  refine sq ?_
  refine rg fun KF hKF => ?_
  refine Fo.new ?_
  refine mI rfl ?_
  refine WpO.nil (hKF _ _ ?_)
  refine sq ?_
  refine sq ?_
  refine rg fun KF hKF => ?_
  refine mI rfl ?_
  refine Fo.pcall (v' := ?_) hn rfl (by simp only [↓nrmL, nrmZ, Nat.reduceEqDiff, ↓reduceIte, Nat.reduceAdd, Int.reduceBEq, Int.reduceBNe, h1, Bool.false_and, cond_false, List.map]; rfl) rfl ?hv fun _ _ => ?_; case hv => (simp only [↓nrmL, nrmZ, Nat.reduceEqDiff, ↓reduceIte, Nat.reduceAdd, Int.reduceBEq, Int.reduceBNe, h1, Bool.false_and, cond_false]; rfl)
  refine Fo.now rfl rfl (by simp only [↓nrmL, nrmZ, Nat.reduceEqDiff, ↓reduceIte, Nat.reduceAdd, Int.reduceBEq, Int.reduceBNe, h1, Bool.false_and, cond_false]; rfl) ?_
  refine mB rfl ?_
  refine Fo.no rfl rfl ?_
  refine Fo.no rfl rfl ?_
  refine Fo.no rfl rfl ?_
  refine tB rfl rfl ?_
  refine WpO.nil (hKF _ _ ?_)
  refine Wp.cond (b := true) rfl ?_
  refine sq ?_
  refine rg fun KF hKF => ?_
  refine Fo.build (by repeat (first | refine aFill1 (by first | exact (rfl : _ = AVal.int _ _) | exact (rfl : _ = AVal.ptr _ _) | exact (rfl : _ = AVal.bool _) | exact (rfl : _ = AVal.agg _) | exact (rfl : _ = AVal.tuple _) | exact (rfl : _ = AVal.func _ _ _) | exact (rfl : _ = AVal.nslice) | ((try simp only [↓nrmL, nrmK, Nat.reduceEqDiff, ↓reduceIte]); rfl)) rfl ?_ | rfl)) rfl ?_
  refine Fo.st rfl (rfl : _ = AVal.agg _) rfl rfl rfl (by repeat (first | rfl | refine allOne_cons ?_)) (by simp only [↓nrmL, nrmZ, Nat.reduceEqDiff, ↓reduceIte, Nat.reduceAdd, Int.reduceBEq, Int.reduceBNe, h1, Bool.false_and, cond_false]; rfl) ?_
  refine mI rfl ?_
  refine WpO.nil (hKF _ _ ?_)
  refine Wp.ret ?_
  dsimp only [cond_true, cond_false]
  refine ⟨trivial, _, (by first | rfl | exact getAllC rfl rfl rfl rfl | exact getAllT rfl (getAllC rfl rfl rfl rfl) | exact getAllC rfl rfl rfl (getAllC rfl rfl rfl rfl) | exact getAllC1 rfl rfl rfl), ?_⟩
  exact ⟨_, rfl, newZero⟩
 cases h2 : sideB h
 ·skip
  try simp only [↓nrmL, nrmZ, Nat.reduceEqDiff, ↓reduceIte, Nat.reduceAdd, Int.reduceBEq, Int.reduceBNe, h1, h2, Bool.false_and, Bool.and_false, cond_false]
  refine sq ?_
  refine rg fun KF hKF => ?_
  refine Fo.new ?_
  refine mI rfl ?_
  refine WpO.nil (hKF _ _ ?_)
  refine sq ?_
  refine sq ?_
  refine rg fun KF hKF => ?_
  refine mI rfl ?_
  refine Fo.pcall (v' := ?_) hn rfl (by simp only [↓nrmL, nrmZ, Nat.reduceEqDiff, ↓reduceIte, Nat.reduceAdd, Int.reduceBEq, Int.reduceBNe, h1, h2, Bool.false_and, Bool.and_false, cond_false, List.map]; rfl) rfl ?hv fun _ _ => ?_; case hv => (simp only [↓nrmL, nrmZ, Nat.reduceEqDiff, ↓reduceIte, Nat.reduceAdd, Int.reduceBEq, Int.reduceBNe, h1, h2, Bool.false_and, Bool.and_false, cond_false]; rfl)
  refine Fo.now rfl rfl (by simp only [↓nrmL, nrmZ, Nat.reduceEqDiff, ↓reduceIte, Nat.reduceAdd, Int.reduceBEq, Int.reduceBNe, h1, h2, Bool.false_and, Bool.and_false, cond_false]; rfl) ?_
  refine mB rfl ?_
  refine Fo.yes rfl rfl ?_
  refine mI rfl ?_
  refine Fo.yes rfl rfl ?_
  refine Fo.pcall (v' := ?_) hn rfl (by simp only [↓nrmL, nrmZ, Nat.reduceEqDiff, ↓reduceIte, Nat.reduceAdd, Int.reduceBEq, Int.reduceBNe, h1, h2, Bool.false_and, Bool.and_false, cond_false, List.map]; rfl) rfl ?hv fun _ _ => ?_; case hv => (simp only [↓nrmL, nrmZ, Nat.reduceEqDiff, ↓reduceIte, Nat.reduceAdd, Int.reduceBEq, Int.reduceBNe, h1, h2, Bool.false_and, Bool.and_false, cond_false]; rfl)
  refine Fo.yes rfl rfl ?_
  refine Fo.now rfl rfl (by simp only [↓nrmL, nrmZ, Nat.reduceEqDiff, ↓reduceIte, Nat.reduceAdd, Int.reduceBEq, Int.reduceBNe, h1, h2, Bool.false_and, Bool.and_false, cond_false]; rfl) ?_
  refine fB rfl rfl ?_
  refine WpO.nil (hKF _ _ ?_)
  refine Wp.cond (b := true) rfl ?_
  refine sq ?_
  refine rg fun KF hKF => ?_
  refine Fo.build (by repeat (first | refine aFill1 (by first | exact (rfl : _ = AVal.int _ _) | exact (rfl : _ = AVal.ptr _ _) | exact (rfl : _ = AVal.bool _) | exact (rfl : _ = AVal.agg _) | exact (rfl : _ = AVal.tuple _) | exact (rfl : _ = AVal.func _ _ _) | exact (rfl : _ = AVal.nslice) | ((try simp only [↓nrmL, nrmK, Nat.reduceEqDiff, ↓reduceIte]); rfl)) rfl ?_ | rfl)) rfl ?_
  refine Fo.st rfl (rfl : _ = AVal.agg _) rfl rfl rfl (by repeat (first | rfl | refine allOne_cons ?_)) (by simp only [↓nrmL, nrmZ, Nat.reduceEqDiff, ↓reduceIte, Nat.reduceAdd, Int.reduceBEq, Int.reduceBNe, h1, h2, Bool.false_and, Bool.and_false, cond_false]; rfl) ?_
  refine mI rfl ?_
  refine WpO.nil (hKF _ _ ?_)
  refine Wp.ret ?_
  dsimp only [cond_true, cond_false]
  refine ⟨trivial, _, (by first | rfl | exact getAllC rfl rfl rfl rfl | exact getAllT rfl (getAllC rfl rfl rfl rfl) | exact getAllC rfl rfl rfl (getAllC rfl rfl rfl rfl) | exact getAllC1 rfl rfl rfl), ?_⟩
  exact ⟨_, rfl, newZero⟩
 ·have hw : 0 ≤ w ∧ w ≤ 640 := by simpa [sideB] using h1
  have hh : 0 ≤ h ∧ h ≤ 640 := by simpa [sideB] using h2
  obtain ⟨a, rfl⟩ : ∃ a : Nat, w = a := ⟨w.toNat, by omega⟩
  obtain ⟨b, rfl⟩ : ∃ b : Nat, h = b := ⟨h.toNat, by omega⟩
  try simp only [↓nrmL, nrmZ, Nat.reduceEqDiff, ↓reduceIte, Nat.reduceAdd, Int.reduceBEq, Int.reduceBNe, h1, h2]
  refine sq ?_
  refine rg fun KF hKF => ?_
  refine Fo.new ?_
  refine mI rfl ?_
  refine WpO.nil (hKF _ _ ?_)
  refine sq ?_
  refine sq ?_
  refine rg fun KF hKF => ?_
  refine mI rfl ?_
  refine Fo.pcall (v' := ?_) hn rfl (by simp only [↓nrmL, nrmZ, Nat.reduceEqDiff, ↓reduceIte, Nat.reduceAdd, Int.reduceBEq, Int.reduceBNe, h1, h2, List.map]; rfl) rfl ?hv fun _ _ => ?_; case hv => (simp only [↓nrmL, nrmZ, Nat.reduceEqDiff, ↓reduceIte, Nat.reduceAdd, Int.reduceBEq, Int.reduceBNe, h1, h2]; rfl)
  refine Fo.now rfl rfl (by simp only [↓nrmL, nrmZ, Nat.reduceEqDiff, ↓reduceIte, Nat.reduceAdd, Int.reduceBEq, Int.reduceBNe, h1, h2]; rfl) ?_
  refine mB rfl ?_
  refine Fo.yes rfl rfl ?_
  refine mI rfl ?_
  refine Fo.yes rfl rfl ?_
  refine Fo.pcall (v' := ?_) hn rfl (by simp only [↓nrmL, nrmZ, Nat.reduceEqDiff, ↓reduceIte, Nat.reduceAdd, Int.reduceBEq, Int.reduceBNe, h1, h2, List.map]; rfl) rfl ?hv fun _ _ => ?_; case hv => (simp only [↓nrmL, nrmZ, Nat.reduceEqDiff, ↓reduceIte, Nat.reduceAdd, Int.reduceBEq, Int.reduceBNe, h1, h2]; rfl)
  refine Fo.yes rfl rfl ?_
  refine Fo.now rfl rfl (by simp only [↓nrmL, nrmZ, Nat.reduceEqDiff, ↓reduceIte, Nat.reduceAdd, Int.reduceBEq, Int.reduceBNe, h1, h2]; rfl) ?_
  refine fB rfl rfl ?_
  refine WpO.nil (hKF _ _ ?_)
  refine Wp.cond (b := false) rfl ?_
  refine Wp.skip ?_
  refine sq ?_
  refine rg fun KF hKF => ?_
  refine mI rfl ?_
  refine mI rfl ?_
  refine WpO.do (WpX.conD hn rfl rfl (by simp only [↓nrmL, nrmZ, Nat.reduceEqDiff, ↓reduceIte, Nat.reduceAdd, Int.reduceBEq, Int.reduceBNe, List.map] <;> rfl) (K_blank (w := a) (h := b) (by omega) (by omega)) fun v H1 h5 => ?_)
  obtain ⟨q, e2, hq, hf, hw3, hx⟩ := h5
  subst e2
  haveI : ExtI _ H1 := ⟨hx⟩
  haveI := hq.one
  refine Fo.st rfl (rfl : _ = AVal.agg _) rfl rfl rfl (by repeat (first | rfl | refine allOne_cons ?_)) (by simp only [↓nrmL, nrmZ, Nat.reduceEqDiff, ↓reduceIte, Nat.reduceAdd, Int.reduceBEq, Int.reduceBNe]; rfl) ?_
  refine mI rfl ?_
  refine WpO.nil (hKF _ _ ?_)
  refine Wp.ret ?_
  dsimp only [cond_true, cond_false]
  refine ⟨trivial, _, (by first | rfl | exact getAllC rfl rfl rfl rfl | exact getAllT rfl (getAllC rfl rfl rfl rfl) | exact getAllC rfl rfl rfl (getAllC rfl rfl rfl rfl) | exact getAllC1 rfl rfl rfl), ?_⟩
  exact ⟨_, rfl, q, rfl, inferInstance, hf.weak, inferInstance, Ext0.ext⟩
end Go.Am

set_option maxHeartbeats 4000000
set_option maxRecDepth 100000
namespace Go.Am
open Go
attribute [local irreducible] Wp WpO WpX WpE

theorem Img.ok {g : Img} (h : (g.err == 0) = true) : g.sized = true ∧ pxOk g.px = true := by
 unfold Img.err at h
 cases h1 : g.sized
 ·rw [h1] at h; cases h
 ·cases h2 : pxOk g.px
  ·rw [h1, h2] at h; cases h
  ·exact ⟨rfl, rfl⟩

end Go.Am

set_option maxHeartbeats 4000000
set_option maxRecDepth 100000
namespace Go.Am
open Go
attribute [local irreducible] Wp WpO WpX WpE

/-- A function of two pixels. -/
class PixFn (F : FuncId) (op : outParam (UInt8 → UInt8 → UInt8)) : Prop where
 con : ∀ (a b : UInt8) (H : AHeap), PureCon ext prog F [.int .u8 (a.toNat : Int), .int .u8 (b.toNat : Int)] H 1 (.int .u8 ((op a b).toNat : Int))
instance {F : FuncId} {op : UInt8 → UInt8 → UInt8} {a b : UInt8} {H : AHeap} [h : PixFn F op] : PureCon ext prog F [.int .u8 (a.toNat : Int), .int .u8 (b.toNat : Int)] H 1 (.int .u8 ((op a b).toNat : Int)) := h.con a b H

instance pixDistance : PixFn 101 (· ^^^ ·) := ⟨fun a b H => ⟨by
 refine con_of (show prog 101 = some c101 from rfl) rfl rfl fun n hn => ?_
 have h1 := bits_xor a b
 try simp only [↓nrmL, nrmZ, Nat.reduceEqDiff, ↓reduceIte, Nat.reduceAdd, Int.reduceBEq, Int.reduceBNe, h1]
 refine sq ?_
 refine rg fun KF hKF => ?_
 refine mI rfl ?_
 refine WpO.nil (hKF _ _ ?_)
 refine sq ?_
 refine rg fun KF hKF => ?_
 refine mI rfl ?_
 refine mI rfl ?_
 refine Fo.bin rfl rfl rfl (by simp only [↓nrmL, nrmZ, Nat.reduceEqDiff, ↓reduceIte, Nat.reduceAdd, Int.reduceBEq, Int.reduceBNe, h1]; rfl) ?_
 refine mI rfl ?_
 refine WpO.nil (hKF _ _ ?_)
 refine Wp.ret ?_
 dsimp only [cond_true, cond_false]
 refine ⟨trivial, _, (by first | rfl | exact getAllC rfl rfl rfl rfl | exact getAllT rfl (getAllC rfl rfl rfl rfl) | exact getAllC rfl rfl rfl (getAllC rfl rfl rfl rfl) | exact getAllC1 rfl rfl rfl), ?_⟩
 exact ⟨rfl, Ext0.ext⟩⟩⟩
instance pixOr : PixFn 147 (· ||| ·) := ⟨fun a b H => ⟨by
 refine con_of (show prog 147 = some c147 from rfl) rfl rfl fun n hn => ?_
 have h1 := bits_or a b
 try simp only [↓nrmL, nrmZ, Nat.reduceEqDiff, ↓reduceIte, Nat.reduceAdd, Int.reduceBEq, Int.reduceBNe, h1]
 refine sq ?_
 refine rg fun KF hKF => ?_
 refine mI rfl ?_
 refine WpO.nil (hKF _ _ ?_)
 refine sq ?_
 refine rg fun KF hKF => ?_
 refine mI rfl ?_
 refine mI rfl ?_
 refine Fo.bin rfl rfl rfl (by simp only [↓nrmL, nrmZ, Nat.reduceEqDiff, ↓reduceIte, Nat.reduceAdd, Int.reduceBEq, Int.reduceBNe, h1]; rfl) ?_
 refine mI rfl ?_
 refine WpO.nil (hKF _ _ ?_)
 refine Wp.ret ?_
 dsimp only [cond_true, cond_false]
 refine ⟨trivial, _, (by first | rfl | exact getAllC rfl rfl rfl rfl | exact getAllT rfl (getAllC rfl rfl rfl rfl) | exact getAllC rfl rfl rfl (getAllC rfl rfl rfl rfl) | exact getAllC1 rfl rfl rfl), ?_⟩
 exact ⟨rfl, Ext0.ext⟩⟩⟩
instance pixAnd : PixFn 148 (· &&& ·) := ⟨fun a b H => ⟨by
 refine con_of (show prog 148 = some c148 from rfl) rfl rfl fun n hn => ?_
 have h1 := bits_and a b
 try simp only [↓nrmL, nrmZ, Nat.reduceEqDiff, ↓reduceIte, Nat.reduceAdd, Int.reduceBEq, Int.reduceBNe, h1]
 refine sq ?_
 refine rg fun KF hKF => ?_
 refine mI rfl ?_
 refine WpO.nil (hKF _ _ ?_)
 refine sq ?_
 refine rg fun KF hKF => ?_
 refine mI rfl ?_
 refine mI rfl ?_
 refine Fo.bin rfl rfl rfl (by simp only [↓nrmL, nrmZ, Nat.reduceEqDiff, ↓reduceIte, Nat.reduceAdd, Int.reduceBEq, Int.reduceBNe, h1]; rfl) ?_
 refine mI rfl ?_
 refine WpO.nil (hKF _ _ ?_)
 refine Wp.ret ?_
 dsimp only [cond_true, cond_false]
 refine ⟨trivial, _, (by first | rfl | exact getAllC rfl rfl rfl rfl | exact getAllT rfl (getAllC rfl rfl rfl rfl) | exact getAllC rfl rfl rfl (getAllC rfl rfl rfl rfl) | exact getAllC1 rfl rfl rfl), ?_⟩
 exact ⟨rfl, Ext0.ext⟩⟩⟩
instance pixLess : PixFn 149 (fun a b => a &&& ~~~b) := ⟨fun a b H => ⟨by
 refine con_of (show prog 149 = some c149 from rfl) rfl rfl fun n hn => ?_
 have h1 := bits_andNot a b
 try simp only [↓nrmL, nrmZ, Nat.reduceEqDiff, ↓reduceIte, Nat.reduceAdd, Int.reduceBEq, Int.reduceBNe, h1]
 refine sq ?_
 refine rg fun KF hKF => ?_
 refine mI rfl ?_
 refine WpO.nil (hKF _ _ ?_)
 refine sq ?_
 refine rg fun KF hKF => ?_
 refine mI rfl ?_
 refine mI rfl ?_
 refine Fo.bin rfl rfl rfl (by simp only [↓nrmL, nrmZ, Nat.reduceEqDiff, ↓reduceIte, Nat.reduceAdd, Int.reduceBEq, Int.reduceBNe, h1]; rfl) ?_
 refine mI rfl ?_
 refine WpO.nil (hKF _ _ ?_)
 refine Wp.ret ?_
 dsimp only [cond_true, cond_false]
 refine ⟨trivial, _, (by first | rfl | exact getAllC rfl rfl rfl rfl | exact getAllT rfl (getAllC rfl rfl rfl rfl) | exact getAllC rfl rfl rfl (getAllC rfl rfl rfl rfl) | exact getAllC1 rfl rfl rfl), ?_⟩
 exact ⟨rfl, Ext0.ext⟩⟩⟩

end Go.Am

set_option maxHeartbeats 4000000
set_option maxRecDepth 100000
namespace Go.Am
open Go
attribute [local irreducible] Wp WpO WpX WpE

/-- The sides and the number of pixels fit. -/
class Fits (w h : Int) (l : List UInt8) : Prop where
 it : sizedB w h l.length = true
end Go.Am

set_option maxHeartbeats 4000000
set_option maxRecDepth 100000
namespace Go.Am
open Go
attribute [local irreducible] Wp WpO WpX WpE

theorem px_get {l : List UInt8} (h : pxOk l = true) {i : Nat} (hi : i < l.length) : l.getD i 0 = 0 ∨ l.getD i 0 = 1 := by
 have := List.all_eq_true.1 h l[i] (List.getElem_mem hi)
 simp only [Bool.or_eq_true, beq_iff_eq] at this
 simpa [hi] using this

end Go.Am

set_option maxHeartbeats 4000000
set_option maxRecDepth 100000
namespace Go.Am
open Go
attribute [local irreducible] Wp WpO WpX WpE

end Go.Am

set_option maxHeartbeats 4000000
set_option maxRecDepth 100000
namespace Go.Am
open Go
attribute [local irreducible] Wp WpO WpX WpE

/-- The lowest bit of a number. -/
def bitC (z : Int) : UInt8 := ⟨BitVec.ofInt 8 z &&& 1⟩
theorem bitC_eq (z : Int) : Go.bits .and .u8 z 1 = ((bitC z).toNat : Int) := by
 show IntKind.u8.wrap ((BitVec.ofInt 8 z &&& BitVec.ofInt 8 1).toNat : Int) = _
 exact wrap_u8 (by have := (bitC z).toNat_lt; exact this)
theorem bitC_01 (z : Int) : bitC z = 0 ∨ bitC z = 1 := by
 have h : (bitC z).toNat = (BitVec.ofInt 8 z).toNat % 2 := by
  show (BitVec.ofInt 8 z &&& 1#8).toNat = _
  rw [BitVec.toNat_and]
  exact Nat.and_one_is_mod _
 rcases Nat.mod_two_eq_zero_or_one (BitVec.ofInt 8 z).toNat with h0 | h0
 ·exact Or.inl (UInt8.toNat_inj.1 (by rw [h, h0]; rfl))
 ·exact Or.inr (UInt8.toNat_inj.1 (by rw [h, h0]; rfl))
theorem wq8 {i : Nat} (h : i < 9223372036854775808) : IntKind.i64.wrap ((i : Int).tdiv 8) = ((i / 8 : Nat) : Int) := by
 have e : (i : Int).tdiv 8 = ((i / 8 : Nat) : Int) := rfl
 rw [e]; exact w64 (by omega)
theorem wr8 {i : Nat} : (i : Int).tmod 8 = ((i % 8 : Nat) : Int) := rfl
theorem pxOk_rep (n : Nat) : pxOk (List.replicate n 0) = true := by
 simp [pxOk, List.all_replicate]
theorem pxOk_set {l : List UInt8} {i : Nat} {c : UInt8} (h : pxOk l = true) (hc : c = 0 ∨ c = 1) : pxOk (l.set i c) = true := by
 unfold pxOk at h ⊢
 rw [List.all_eq_true] at h ⊢
 intro x hx
 rcases List.mem_or_eq_of_mem_set hx with h1 | rfl
 ·exact h x h1
 ·rcases hc with rfl | rfl <;> rfl

/-- A valid image. -/
structure Ok (a b : Nat) (l : List UInt8) : Prop where
 wa : a ≤ 640
 hb : b ≤ 640
 len : l.length = a * b
 px : pxOk l = true
theorem Ok.sized {a b : Nat} {l : List UInt8} (h : Ok a b l) : sizedB a b l.length = true := by
 have hm : a * b ≤ 640 * 640 := Nat.mul_le_mul h.wa h.hb
 have h1 : sideB a = true := by simp only [sideB, Bool.and_eq_true, decide_eq_true_eq]; have := h.wa; omega
 have h2 : sideB b = true := by simp only [sideB, Bool.and_eq_true, decide_eq_true_eq]; have := h.hb; omega
 unfold sizedB
 rw [h1, h2, wm (by omega), h.len]
 simp
theorem Ok.err {a b : Nat} {l : List UInt8} (h : Ok a b l) : Img.err ⟨a, b, l⟩ = 0 := by
 have h1 : (⟨a, b, l⟩ : Img).sized = true := h.sized
 have h2 := h.px
 unfold Img.err
 rw [h1]
 simp only [h2, cond_true]
theorem Ok.short {a b : Nat} {l : List UInt8} (h : Ok a b l) : l.length ≤ 409600 := by
 have hm : a * b ≤ 640 * 640 := Nat.mul_le_mul h.wa h.hb
 rw [h.len]; omega
/-- A valid new image of some sides. -/
def NewOk (H H' : AHeap) (v : AVal) (wm hm : Nat) : Prop := ∃ (a b : Nat) (l : List UInt8), a ≤ wm ∧ b ≤ hm ∧ Ok a b l ∧ NewInk H H' v ⟨a, b, l⟩
theorem K_Made {s : Nat} {p : AVal} {H : AHeap} {bits : List UInt8} [hp : BytesI H p bits] (hs : s < 65536) : Con ext prog 1 76 [.int .u16 s, p] H fun v H' => NewOk H H' v 40 30 := by
 refine con_of (show prog 76 = some c76 from rfl) rfl rfl fun n hn => ?_
 haveI := hp.one
 have e1 : IntKind.i64.wrap ((s : Int).tmod 41) = ((s % 41 : Nat) : Int) := by
  have e : (s : Int).tmod 41 = ((s % 41 : Nat) : Int) := rfl
  rw [e]; exact w64 (by omega)
 have e2 : IntKind.u16.wrap ((s : Int).tdiv 41) = ((s / 41 : Nat) : Int) := by
  have e : (s : Int).tdiv 41 = ((s / 41 : Nat) : Int) := rfl
  have h1 : IntKind.u16.wrap ((s / 41 : Nat) : Int) = if (false && decide (((s / 41 : Nat) : Int) % 2 ^ 16 ≥ 2 ^ 15)) = true then ((s / 41 : Nat) : Int) % 2 ^ 16 - 2 ^ 16 else ((s / 41 : Nat) : Int) % 2 ^ 16 := rfl
  rw [e, h1]
  simp only [Bool.false_and, Bool.false_eq_true, if_false]
  omega
 have e3 : IntKind.i64.wrap (((s / 41 : Nat) : Int).tmod 31) = ((s / 41 % 31 : Nat) : Int) := by
  have e : ((s / 41 : Nat) : Int).tmod 31 = ((s / 41 % 31 : Nat) : Int) := rfl
  rw [e]; exact w64 (by omega)
 obtain ⟨a, ha⟩ : ∃ a, s % 41 = a := ⟨_, rfl⟩
 obtain ⟨b, hb⟩ : ∃ b, s / 41 % 31 = b := ⟨_, rfl⟩
 rw [ha] at e1
 rw [hb] at e3
 have ha : a ≤ 40 := by omega
 have hb : b ≤ 30 := by omega
 have hm : a * b ≤ 40 * 30 := Nat.mul_le_mul ha hb
 have hc : IntKind.i64.wrap ((a : Int) * (b : Int)) = ((a * b : Nat) : Int) := wm (by omega)
 try simp only [↓nrmL, nrmZ, Nat.reduceEqDiff, ↓reduceIte, Nat.reduceAdd, Int.reduceBEq, Int.reduceBNe, e1, e2, e3, hc]
 refine sq ?_
 refine rg fun KF hKF => ?_
 refine Fo.new ?_
 refine WpO.nil (hKF _ _ ?_)
 refine sq ?_
 refine rg fun KF hKF => ?_
 refine mI rfl ?_
 refine Fo.bin rfl rfl rfl rfl ?_
 refine Fo.now rfl rfl (by simp only [↓nrmL, nrmZ, Nat.reduceEqDiff, ↓reduceIte, Nat.reduceAdd, Int.reduceBEq, Int.reduceBNe, e1, e2, e3, hc]; rfl) ?_
 refine mI rfl ?_
 refine Fo.bin rfl rfl rfl (by simp only [↓nrmL, nrmZ, Nat.reduceEqDiff, ↓reduceIte, Nat.reduceAdd, Int.reduceBEq, Int.reduceBNe, e1, e2, e3, hc]; rfl) ?_
 refine Fo.bin rfl rfl rfl rfl ?_
 refine Fo.now rfl rfl (by simp only [↓nrmL, nrmZ, Nat.reduceEqDiff, ↓reduceIte, Nat.reduceAdd, Int.reduceBEq, Int.reduceBNe, e1, e2, e3, hc]; rfl) ?_
 refine mI rfl ?_
 refine mI rfl ?_
 refine WpO.nil (hKF _ _ ?_)
 refine sq ?_
 refine rg fun KF hKF => ?_
 refine mI rfl ?_
 refine mI rfl ?_
 refine mI rfl ?_
 refine mI rfl ?_
 refine Fo.bin rfl rfl rfl (by simp only [↓nrmL, nrmZ, Nat.reduceEqDiff, ↓reduceIte, Nat.reduceAdd, Int.reduceBEq, Int.reduceBNe, e1, e2, e3, hc]; rfl) ?_
 refine WpO.do (WpX.mkB rfl rfl rfl (by omega) fun q H1 e1 hq hf hw' hx => ?_); try simp only [↓nrmL, nrmZ, Nat.reduceEqDiff, ↓reduceIte, Nat.reduceAdd, Int.reduceBEq, Int.reduceBNe, hc]
 haveI := hq.one
 refine Fo.build (by repeat (first | refine aFill1 (by first | exact (rfl : _ = AVal.int _ _) | exact (rfl : _ = AVal.ptr _ _) | exact (rfl : _ = AVal.bool _) | exact (rfl : _ = AVal.agg _) | exact (rfl : _ = AVal.tuple _) | exact (rfl : _ = AVal.func _ _ _) | exact (rfl : _ = AVal.nslice) | ((try simp only [↓nrmL, nrmK, Nat.reduceEqDiff, ↓reduceIte]); rfl)) rfl ?_ | rfl)) (by simp only [↓nrmL, nrmZ, Nat.reduceEqDiff, ↓reduceIte, Nat.reduceAdd, Int.reduceBEq, Int.reduceBNe]; rfl) ?_
 refine Fo.new ?_
 refine Fo.st rfl (rfl : _ = AVal.agg _) rfl rfl rfl (by repeat (first | rfl | refine allOne_cons ?_)) (by simp only [↓nrmL, nrmZ, Nat.reduceEqDiff, ↓reduceIte, Nat.reduceAdd, Int.reduceBEq, Int.reduceBNe]; rfl) ?_
 refine WpO.nil (hKF _ _ ?_)
 refine sq ?_
 refine sq ?_
 refine rg fun KF hKF => ?_
 refine Fo.fa rfl ?_
 refine Fo.ld rfl rfl ?_
 refine Fo.len (v := ?_) (by simp only [↓nrmL, nrmK, Nat.reduceEqDiff, ↓reduceIte]; rfl) ?hv ?_; case hv => rfl
 refine mI rfl ?_
 refine WpO.nil (hKF _ _ ?_)
 refine Wp.block ?_
 dsimp only [cond_true, cond_false]
 refine Wp.loopS [8, 26, 27, 28, 29, 30, 31, 32, 33, 34, 35, 36, 37, 38, 39, 40, 41, 42, 43, 44, 45, 46, 47] (fun t : Nat × List UInt8 => [(26, .int .i64 t.1)]) (fun H3 t H2 => t.1 ≤ a * b ∧ t.2.length = a * b ∧ pxOk t.2 = true ∧ BytesI H2 q t.2 ∧ WrS H2 q ∧ ExtP0 H3 H2 q) (fun t => a * b - t.1) (0, List.replicate (a * b) 0) rfl (fun _ => rfl) ⟨rfl, trivial⟩ ⟨Nat.zero_le _, List.length_replicate, pxOk_rep _, inferInstance, inferInstance, inferInstance⟩ (by unfold fuel0 at hn; omega) ?_
 rintro ⟨i, t⟩ g H2 ⟨hi, hlen, hpx, hb2, hw2, ⟨hx2⟩⟩
 dsimp only at hi hlen hpx hb2
 simp only [↓nrmL, nrmZ, Nat.reduceEqDiff, ↓reduceIte, Nat.reduceAdd, Int.reduceBEq, Int.reduceBNe, List.length_replicate]
 cases hcc : decide ((i : Int) < ((a * b : Nat) : Int))
 ·have hil : i = a * b := by have := of_decide_eq_false hcc; omega
  subst hil
  try simp only [↓nrmL, nrmZ, Nat.reduceEqDiff, ↓reduceIte, Nat.reduceAdd, Int.reduceBEq, Int.reduceBNe, hcc]
  refine sq ?_
  refine rg fun KF hKF => ?_
  refine Fo.bin rfl rfl rfl (by simp only [↓nrmL, nrmZ, Nat.reduceEqDiff, ↓reduceIte, Nat.reduceAdd, Int.reduceBEq, Int.reduceBNe, hcc]; rfl) ?_
  refine WpO.nil (hKF _ _ ?_)
  refine sq ?_
  refine Wp.cond (b := false) rfl ?_
  refine Wp.exit ?_
  refine sq ?_
  refine rg fun KF hKF => ?_
  refine Fo.ldN rfl rfl (by simp only [↓nrmL, nrmZ, Nat.reduceEqDiff, ↓reduceIte, Nat.reduceAdd, Int.reduceBEq, Int.reduceBNe, hcc]; rfl) ?_
  refine Fo.st rfl (rfl : _ = AVal.agg _) rfl rfl rfl (by repeat (first | rfl | refine allOne_cons ?_)) (by simp only [↓nrmL, nrmZ, Nat.reduceEqDiff, ↓reduceIte, Nat.reduceAdd, Int.reduceBEq, Int.reduceBNe, hcc]; rfl) ?_
  refine WpO.nil (hKF _ _ ?_)
  refine Wp.ret ?_
  dsimp only [cond_true, cond_false]
  refine ⟨trivial, _, (by first | rfl | exact getAllC rfl rfl rfl rfl | exact getAllT rfl (getAllC rfl rfl rfl rfl) | exact getAllC rfl rfl rfl (getAllC rfl rfl rfl rfl) | exact getAllC1 rfl rfl rfl), ?_⟩
  exact ⟨a, b, t, ha, hb, ⟨by omega, by omega, hlen, hpx⟩, q, rfl, (show BytesI _ q t from inferInstance), hf.weak, inferInstance, Ext0.ext⟩
 ·have hil : i < a * b := by have := of_decide_eq_true hcc; omega
  have hw1 := wa1 (a := i) (by omega)
  have hq8 := wq8 (i := i) (by omega)
  cases ht : decide (((i / 8 : Nat) : Int) < ((bits.length : Nat) : Int))
  ·skip
   try simp only [↓nrmL, nrmZ, Nat.reduceEqDiff, ↓reduceIte, Nat.reduceAdd, Int.reduceBEq, Int.reduceBNe, hcc, hq8, ht]
   refine sq ?_
   refine rg fun KF hKF => ?_
   refine Fo.bin rfl rfl rfl (by simp only [↓nrmL, nrmZ, Nat.reduceEqDiff, ↓reduceIte, Nat.reduceAdd, Int.reduceBEq, Int.reduceBNe, hcc, hq8, ht]; rfl) ?_
   refine WpO.nil (hKF _ _ ?_)
   refine sq ?_
   refine Wp.cond (b := true) rfl ?_
   refine Wp.skip ?_
   refine sq ?_
   refine Wp.block ?_
   refine sq ?_
   refine rg fun KF hKF => ?_
   refine mI rfl ?_
   refine mI rfl ?_
   refine WpO.nil (hKF _ _ ?_)
   refine sq ?_
   refine rg fun KF hKF => ?_
   refine mI rfl ?_
   refine Fo.bin rfl rfl rfl (by simp only [↓nrmL, nrmZ, Nat.reduceEqDiff, ↓reduceIte, Nat.reduceAdd, Int.reduceBEq, Int.reduceBNe, hcc, hq8, ht]; rfl) ?_
   refine Fo.mov (by simp only [↓nrmL, nrmK, Nat.reduceEqDiff, ↓reduceIte]; rfl) ?_
   refine Fo.len (v := ?_) (by simp only [↓nrmL, nrmK, Nat.reduceEqDiff, ↓reduceIte]; rfl) ?hv ?_; case hv => rfl
   refine Fo.bin rfl rfl rfl (by simp only [↓nrmL, nrmZ, Nat.reduceEqDiff, ↓reduceIte, Nat.reduceAdd, Int.reduceBEq, Int.reduceBNe, hcc, hq8, ht]; rfl) ?_
   refine WpO.nil (hKF _ _ ?_)
   refine Wp.cond (b := false) rfl ?_
   refine Wp.skip ?_
   refine rg fun KF hKF => ?_
   refine Fo.bin rfl rfl rfl rfl ?_
   refine mI rfl ?_
   refine WpO.nil (hKF _ _ ?_)
   dsimp only [cond_true, cond_false]
   exact ⟨(i + 1, t), by dsimp only; omega, ⟨by simp only [↓nrmL, nrmZ, Nat.reduceEqDiff, ↓reduceIte, Nat.reduceAdd, Int.reduceBEq, Int.reduceBNe]; rw [hw1], trivial⟩, hil, hlen, hpx, hb2, hw2, inferInstance⟩
  ·have hbi : i / 8 < bits.length := by have := of_decide_eq_true ht; omega
   try simp only [↓nrmL, nrmZ, Nat.reduceEqDiff, ↓reduceIte, Nat.reduceAdd, Int.reduceBEq, Int.reduceBNe, hcc, hq8, ht]
   refine sq ?_
   refine rg fun KF hKF => ?_
   refine Fo.bin rfl rfl rfl (by simp only [↓nrmL, nrmZ, Nat.reduceEqDiff, ↓reduceIte, Nat.reduceAdd, Int.reduceBEq, Int.reduceBNe, hcc, hq8, ht]; rfl) ?_
   refine WpO.nil (hKF _ _ ?_)
   refine sq ?_
   refine Wp.cond (b := true) rfl ?_
   refine Wp.skip ?_
   refine sq ?_
   refine Wp.block ?_
   refine sq ?_
   refine rg fun KF hKF => ?_
   refine mI rfl ?_
   refine mI rfl ?_
   refine WpO.nil (hKF _ _ ?_)
   refine sq ?_
   refine rg fun KF hKF => ?_
   refine mI rfl ?_
   refine Fo.bin rfl rfl rfl (by simp only [↓nrmL, nrmZ, Nat.reduceEqDiff, ↓reduceIte, Nat.reduceAdd, Int.reduceBEq, Int.reduceBNe, hcc, hq8, ht]; rfl) ?_
   refine Fo.mov (by simp only [↓nrmL, nrmK, Nat.reduceEqDiff, ↓reduceIte]; rfl) ?_
   refine Fo.len (v := ?_) (by simp only [↓nrmL, nrmK, Nat.reduceEqDiff, ↓reduceIte]; rfl) ?hv ?_; case hv => rfl
   refine Fo.bin rfl rfl rfl (by simp only [↓nrmL, nrmZ, Nat.reduceEqDiff, ↓reduceIte, Nat.reduceAdd, Int.reduceBEq, Int.reduceBNe, hcc, hq8, ht]; rfl) ?_
   refine WpO.nil (hKF _ _ ?_)
   refine Wp.cond (b := true) rfl ?_
   dsimp only [cond_true, cond_false]
   refine Fr.dregion0 rfl fun KF hKF => ?_
   try simp only [↓nrmL, nrmZ, Nat.reduceEqDiff, ↓reduceIte, Nat.reduceAdd, Int.reduceBEq, Int.reduceBNe, hq8, wr8]
   refine Fe.pure rfl rfl (by simp only [↓nrmL, nrmZ, Nat.reduceEqDiff, ↓reduceIte, Nat.reduceAdd, Int.reduceBEq, Int.reduceBNe, hq8, wr8]; rfl) ?_
   refine Fe.read rfl (exec_ld rfl rfl) rfl (by repeat (first | exact trivial | refine ⟨(by first | exact Or.inl (by dsimp only; decide) | exact Or.inr (exec_ld rfl rfl) | exact Or.inr (exec_ldN rfl rfl rfl) | exact Or.inr (exec_ldB rfl (by omega)) | exact Or.inr (exec_ldI rfl (by omega)) | exact Or.inr ghost_of), ?_⟩)) ?_
   refine Fe.pure rfl rfl (by simp only [↓nrmL, nrmZ, Nat.reduceEqDiff, ↓reduceIte, Nat.reduceAdd, Int.reduceBEq, Int.reduceBNe, hq8, wr8]; rfl) ?_
   refine Fe.pure rfl rfl (by simp only [↓nrmL, nrmZ, Nat.reduceEqDiff, ↓reduceIte, Nat.reduceAdd, Int.reduceBEq, Int.reduceBNe, hq8, wr8]; rfl) ?_
   refine Fe.pure rfl rfl (by simp only [↓nrmL, nrmZ, Nat.reduceEqDiff, ↓reduceIte, Nat.reduceAdd, Int.reduceBEq, Int.reduceBNe, hq8, wr8]; rfl) ?_
   refine Fe.pure rfl rfl (by simp only [↓nrmL, nrmZ, Nat.reduceEqDiff, ↓reduceIte, Nat.reduceAdd, Int.reduceBEq, Int.reduceBNe, hq8, wr8]; rfl) ?_
   refine Fe.pure rfl (exec_idxP (by (try simp only [↓nrmL, nrmZ, Nat.reduceEqDiff, ↓reduceIte, Nat.reduceAdd, Int.reduceBEq, Int.reduceBNe, hq8, wr8]); rfl) rfl ?_) (by simp only [↓nrmL, nrmZ, Nat.reduceEqDiff, ↓reduceIte, Nat.reduceAdd, Int.reduceBEq, Int.reduceBNe, hq8, wr8]; rfl) ?_; (focus omega)
   refine Fe.read rfl (exec_ldB rfl (by omega)) rfl (by repeat (first | exact trivial | refine ⟨(by first | exact Or.inl (by dsimp only; decide) | exact Or.inr (exec_ld rfl rfl) | exact Or.inr (exec_ldN rfl rfl rfl) | exact Or.inr (exec_ldB rfl (by omega)) | exact Or.inr (exec_ldI rfl (by omega)) | exact Or.inr ghost_of), ?_⟩)) ?_
   refine Fe.pure rfl rfl (by simp only [↓nrmL, nrmZ, Nat.reduceEqDiff, ↓reduceIte, Nat.reduceAdd, Int.reduceBEq, Int.reduceBNe, hq8, wr8]; rfl) ?_
   refine Fe.pure rfl rfl (by simp only [↓nrmL, nrmZ, Nat.reduceEqDiff, ↓reduceIte, Nat.reduceAdd, Int.reduceBEq, Int.reduceBNe, hq8, wr8]; rfl) ?_
   refine Fe.pure rfl rfl (by simp only [↓nrmL, nrmZ, Nat.reduceEqDiff, ↓reduceIte, Nat.reduceAdd, Int.reduceBEq, Int.reduceBNe, hq8, wr8]; rfl) ?_
   refine Fe.pure rfl rfl rfl ?_
   refine Fe.pure rfl (exec_idxP (by (try simp only [↓nrmL, nrmZ, Nat.reduceEqDiff, ↓reduceIte, Nat.reduceAdd, Int.reduceBEq, Int.reduceBNe, hq8, wr8]); rfl) rfl ?_) (by simp only [↓nrmL, nrmZ, Nat.reduceEqDiff, ↓reduceIte, Nat.reduceAdd, Int.reduceBEq, Int.reduceBNe, hq8, wr8]; rfl) ?_; (focus omega)
   refine WpE.stB (bitC _) rfl rfl rfl (bitC_eq _) (by rw [hlen]; exact hil) fun H4 hb4 hw4 hx4 => ⟨(by repeat (first | exact trivial | refine ⟨(by first | exact Or.inl (by dsimp only; decide) | exact Or.inr (readOk_of (exec_ld rfl rfl)) | exact Or.inr (readOk_of (exec_ldN rfl rfl rfl)) | exact Or.inr (readOk_of (exec_ldB rfl (by omega))) | exact Or.inr (readOk_of (exec_ldI rfl (by omega))) | exact Or.inr (made_of rfl)), ?_⟩)), ?_⟩
   refine WpE.nil (hKF _ _ ?_)
   refine rg fun KF hKF => ?_
   refine Fo.bin rfl rfl rfl rfl ?_
   refine mI rfl ?_
   refine WpO.nil (hKF _ _ ?_)
   dsimp only [cond_true, cond_false]
   exact ⟨(i + 1, _), by dsimp only; omega, ⟨by simp only [↓nrmL, nrmZ, Nat.reduceEqDiff, ↓reduceIte, Nat.reduceAdd, Int.reduceBEq, Int.reduceBNe]; rw [hw1], trivial⟩, hil, by rw [List.length_set]; exact hlen, pxOk_set hpx (bitC_01 _), hb4, hw4, inferInstance⟩
end Go.Am

set_option maxHeartbeats 4000000
set_option maxRecDepth 100000
namespace Go.Am
open Go
attribute [local irreducible] Wp WpO WpX WpE

/- ===== cutting ===== -/
def cutB (s : Bs) (c : UInt8) : Bs × Bs × Bool := if 0 ≤ Lib.indexByte s c then (s.take (Lib.indexByte s c).toNat, s.drop ((Lib.indexByte s c).toNat + 1), true) else (s, [], false)
theorem ibLt (s : Bs) (c : UInt8) : Lib.indexByte s c < s.length := by
 induction s with
 | nil => simp [Lib.indexByte]
 | cons b l ih =>
  unfold Lib.indexByte
  simp only [List.length_cons]
  split
  ·omega
  ·split
   ·omega
   ·omega
theorem cutB_yes {s : Bs} {c : UInt8} {i : Nat} (h : Lib.indexByte s c = i) : cutB s c = (s.take i, s.drop (i + 1), true) := by
 unfold cutB
 rw [h, if_pos (by omega), Int.toNat_natCast]
theorem cutB_no {s : Bs} {c : UInt8} (h : ¬ 0 ≤ Lib.indexByte s c) : cutB s c = (s, [], false) := by
 unfold cutB
 rw [if_neg h]
theorem cutB_nil (c : UInt8) : cutB [] c = ([], [], false) := cutB_no (by simp [Lib.indexByte])
theorem cutB_cons (a : UInt8) (s : Bs) (c : UInt8) : cutB (a :: s) c = if a = c then ([], s, true) else (a :: (cutB s c).1, (cutB s c).2.1, (cutB s c).2.2) := by
 have hge := Lib.indexByte_ge s c
 by_cases h : a = c
 ·subst h
  have e : Lib.indexByte (a :: s) a = (0 : Nat) := by simp [Lib.indexByte]
  rw [cutB_yes e, if_pos rfl]
  simp
 ·rw [if_neg h]
  have hb : (a == c) = false := by simpa using h
  by_cases h1 : Lib.indexByte s c = -1
  ·have e : Lib.indexByte (a :: s) c = -1 := by simp [Lib.indexByte, hb, h1]
   rw [cutB_no (by rw [e]; decide), cutB_no (by rw [h1]; decide)]
  ·obtain ⟨i, hi⟩ : ∃ i : Nat, Lib.indexByte s c = i := ⟨(Lib.indexByte s c).toNat, by omega⟩
   have h2 : (((i : Nat) : Int) == -1) = false := by simp
   have e : Lib.indexByte (a :: s) c = ((i + 1 : Nat) : Int) := by simp [Lib.indexByte, hb, hi, h2]
   rw [cutB_yes e, cutB_yes hi]
   simp
theorem cutB_of : ∀ {x : Bs} {y : Bs} {c : UInt8}, c ∉ x → cutB (x ++ c :: y) c = (x, y, true)
 | [], y, c, _ => by rw [List.nil_append, cutB_cons, if_pos rfl]
 | a :: x, y, c, h => by
  have h1 : ¬ a = c := fun e => h (by simp [e])
  have h2 : c ∉ x := fun e => h (List.mem_cons_of_mem _ e)
  rw [List.cons_append, cutB_cons, if_neg h1, cutB_of h2]
theorem cutB_found : ∀ {s : Bs} {c : UInt8}, (cutB s c).2.2 = true → s = (cutB s c).1 ++ c :: (cutB s c).2.1
 | [], c, h => by rw [cutB_nil] at h; cases h
 | a :: s, c, h => by
  rw [cutB_cons] at h ⊢
  by_cases h1 : a = c
  ·simp [h1]
  ·rw [if_neg h1] at h ⊢
   simp only [List.cons_append]
   rw [← cutB_found h]
theorem cutB_not : ∀ {s : Bs} {c : UInt8}, (cutB s c).2.2 = false → cutB s c = (s, [], false) := fun {s c} h => by
 unfold cutB at h ⊢
 split
 ·rename_i h1; rw [if_pos h1] at h; cases h
 ·rfl
theorem cutB_len (s : Bs) (c : UInt8) : (cutB s c).1.length ≤ s.length ∧ (cutB s c).2.1.length ≤ s.length := by
 unfold cutB
 split <;> simp <;> omega

/- ===== numbers ===== -/
def isDig (c : UInt8) : Bool := !(decide ((c.toNat : Int) < 48)) && !(decide ((c.toNat : Int) > 57))
def valD (l : Bs) : Nat := l.foldl (fun n c => 10 * n + (c.toNat - 48)) 0
def numOk (s : Bs) : Bool := !(s == []) && !(decide ((s.length : Int) > 9)) && !(s.headD 0 == 48 && decide ((s.length : Int) > 1)) && s.all isDig
def numB (s : Bs) : Option Nat := if numOk s = true then some (valD s) else none
theorem valD_snoc (l : Bs) (c : UInt8) : valD (l ++ [c]) = 10 * valD l + (c.toNat - 48) := by simp [valD]
theorem isDig_iff {c : UInt8} : isDig c = true ↔ 48 ≤ c.toNat ∧ c.toNat ≤ 57 := by
 unfold isDig
 simp
 omega
theorem valD_lt : ∀ (k : Nat) (l : Bs), l.length = k → l.all isDig = true → valD l < 10 ^ k
 | 0, l, h, _ => by rw [List.length_eq_zero_iff.1 h]; decide
 | k + 1, l, h, hd => by
  obtain ⟨m, c, rfl⟩ : ∃ m c, l = m ++ [c] := ⟨l.dropLast, l.getLast (by intro e; simp [e] at h), (List.dropLast_concat_getLast _).symm⟩
  simp only [List.length_append, List.length_cons, List.length_nil] at h
  rw [List.all_append, Bool.and_eq_true] at hd
  have ih := valD_lt k m (by omega) hd.1
  have hc := isDig_iff.1 (by simpa using hd.2 : isDig c = true)
  rw [valD_snoc, Nat.pow_succ]
  omega
theorem valD_ge : ∀ (k : Nat) (a : UInt8) (l : Bs), l.length = k → 49 ≤ a.toNat → 10 ^ k ≤ valD (a :: l)
 | 0, a, l, h, ha => by rw [List.length_eq_zero_iff.1 h]; simp [valD]; omega
 | k + 1, a, l, h, ha => by
  obtain ⟨m, c, rfl⟩ : ∃ m c, l = m ++ [c] := ⟨l.dropLast, l.getLast (by intro e; simp [e] at h), (List.dropLast_concat_getLast _).symm⟩
  simp only [List.length_append, List.length_cons, List.length_nil] at h
  have ih := valD_ge k a m (by omega) ha
  rw [show a :: (m ++ [c]) = (a :: m) ++ [c] from rfl, valD_snoc, Nat.pow_succ]
  omega

theorem num_digs : ∀ n, n ≤ 640 → numB (digs n) = some n := by
 have h : (List.range 641).all (fun n => numB (digs n) == some n) = true := by decide +kernel
 intro n hn
 have := List.all_eq_true.1 h n (by simp; omega)
 simpa using this
theorem dg_of {c : UInt8} (h : isDig c = true) : c = dg (c.toNat - 48) := by
 have h1 := isDig_iff.1 h
 apply UInt8.toNat_inj.1
 unfold dg
 rw [UInt8.toNat_ofNat']
 omega
theorem digs_num {s : Bs} {n : Nat} (h : numB s = some n) (hn : n ≤ 640) : s = digs n := by
 unfold numB at h
 split at h
 ·rename_i hok
  cases h
  unfold numOk at hok
  simp only [Bool.and_eq_true, Bool.not_eq_true', Bool.and_eq_false_iff, beq_eq_false_iff_ne, decide_eq_false_iff_not] at hok
  obtain ⟨⟨⟨h1, h2⟩, h3⟩, h4⟩ := hok
  match s with
  | [] => exact absurd rfl h1
  | [a] =>
   have ha : isDig a = true := by simpa using h4
   have := isDig_iff.1 ha
   have e := dg_of ha
   have hv : valD [a] = a.toNat - 48 := by simp [valD]
   rw [hv, digs, if_pos (by omega), ← e]
  | [a, b] =>
   simp only [List.all_cons, List.all_nil, Bool.and_true, Bool.and_eq_true] at h4
   have h5 := isDig_iff.1 h4.1
   have h6 := isDig_iff.1 h4.2
   have ha0 : a.toNat ≠ 48 := fun e => by
    rcases h3 with h3 | h3
    ·exact h3 (UInt8.toNat_inj.1 e)
    ·exact h3 (by simp)
   have hv : valD [a, b] = 10 * (a.toNat - 48) + (b.toNat - 48) := by simp [valD]
   rw [hv, digs, if_neg (by omega), if_pos (by omega)]
   rw [show (10 * (a.toNat - 48) + (b.toNat - 48)) / 10 = a.toNat - 48 by omega, show (10 * (a.toNat - 48) + (b.toNat - 48)) % 10 = b.toNat - 48 by omega, ← dg_of h4.1, ← dg_of h4.2]
  | [a, b, c] =>
   simp only [List.all_cons, List.all_nil, Bool.and_true, Bool.and_eq_true] at h4
   have h5 := isDig_iff.1 h4.1
   have h6 := isDig_iff.1 h4.2.1
   have h7 := isDig_iff.1 h4.2.2
   have ha0 : a.toNat ≠ 48 := fun e => by
    rcases h3 with h3 | h3
    ·exact h3 (UInt8.toNat_inj.1 e)
    ·exact h3 (by simp)
   have hv : valD [a, b, c] = 10 * (10 * (a.toNat - 48) + (b.toNat - 48)) + (c.toNat - 48) := by simp [valD]
   rw [hv, digs, if_neg (by omega), if_neg (by omega)]
   rw [show (10 * (10 * (a.toNat - 48) + (b.toNat - 48)) + (c.toNat - 48)) / 100 = a.toNat - 48 by omega, show (10 * (10 * (a.toNat - 48) + (b.toNat - 48)) + (c.toNat - 48)) / 10 % 10 = b.toNat - 48 by omega, show (10 * (10 * (a.toNat - 48) + (b.toNat - 48)) + (c.toNat - 48)) % 10 = c.toNat - 48 by omega, ← dg_of h4.1, ← dg_of h4.2.1, ← dg_of h4.2.2]
  | a :: b :: c :: d :: t =>
   have ha : isDig a = true := by simp only [List.all_cons, Bool.and_eq_true] at h4; exact h4.1
   have h5 := isDig_iff.1 ha
   have ha0 : a.toNat ≠ 48 := fun e => by
    rcases h3 with h3 | h3
    ·exact h3 (UInt8.toNat_inj.1 e)
    ·exact h3 (by simp; omega)
   have := valD_ge (t.length + 3) a (b :: c :: d :: t) (by simp) (by omega)
   have h10 : 10 ^ 3 ≤ 10 ^ (t.length + 3) := Nat.pow_le_pow_right (by omega) (by omega)
   omega
 ·cases h

/- ===== images as texts ===== -/
def sgn (p : UInt8) : UInt8 := if p = 1 then 35 else 46
def isSgn (c : UInt8) : Bool := c == 46 || c == 35
def unS (c : UInt8) : UInt8 := if c = 35 then 1 else 0
def rowsT (w : Nat) : Nat → List UInt8 → Bs
 | 0, _ => []
 | k + 1, l => (l.take w).map sgn ++ 10 :: rowsT w k (l.drop w)
def headT (w h : Nat) : Bs := digs w ++ [32] ++ digs h ++ [10]
def fmtT (w h : Nat) (l : List UInt8) : Bs := headT w h ++ rowsT w h l
/-- Rows that are read: the pixels, or the number of the line that is none. -/
def rowsP (w : Nat) : Nat → Nat → Bs → List UInt8 → List UInt8 ⊕ Nat
 | 0, y, rest, acc => if rest = [] then .inl acc else .inr (y + 1)
 | k + 1, y, rest, acc => if ((cutB rest 10).2.2 && decide ((cutB rest 10).1.length = w) && (cutB rest 10).1.all isSgn) = true then rowsP w k (y + 1) (cutB rest 10).2.1 (acc ++ (cutB rest 10).1.map unS) else .inr (y + 1)
def sidesP (t : Bs) : Option (Nat × Nat × Bs) :=
 match numB (cutB (cutB t 10).1 32).1, numB (cutB (cutB t 10).1 32).2.1, (cutB t 10).2.2 with
 | some w, some h, true => some (w, h, (cutB t 10).2.1)
 | _, _, _ => none
/-- What is read of a text: the image, the line, the error. -/
def prsT (t : Bs) : Img × Int × Int :=
 match sidesP t with
 | none => (.zero, 0, 5)
 | some (w, h, rest) => if w ≤ 640 ∧ h ≤ 640 then (match rowsP w h 0 rest [] with | .inl l => (⟨w, h, l⟩, 0, 0) | .inr y => (.zero, y, 5)) else (.zero, 0, 2)

theorem sgn_unS {c : UInt8} (h : isSgn c = true) : sgn (unS c) = c := by
 unfold isSgn at h
 simp only [Bool.or_eq_true, beq_iff_eq] at h
 rcases h with rfl | rfl <;> decide
theorem unS_sgn {p : UInt8} (h : p = 0 ∨ p = 1) : unS (sgn p) = p := by rcases h with rfl | rfl <;> decide
theorem sgn_isSgn (p : UInt8) : isSgn (sgn p) = true := by unfold sgn; split <;> decide
theorem sgn_ne (p : UInt8) : sgn p ≠ 10 := by unfold sgn; split <;> decide
theorem unS_ok (c : UInt8) : unS c = 0 ∨ unS c = 1 := by unfold unS; split <;> simp
theorem rowsP_rowsT (w : Nat) : ∀ (k y : Nat) (l acc : List UInt8), l.length = w * k → (∀ p ∈ l, p = 0 ∨ p = 1) → rowsP w k y (rowsT w k l) acc = .inl (acc ++ l)
 | 0, y, l, acc, hl, _ => by
  have : l = [] := List.eq_nil_of_length_eq_zero (by simpa using hl)
  subst this
  simp [rowsP, rowsT]
 | k + 1, y, l, acc, hl, hp => by
  have hn : (10 : UInt8) ∉ (l.take w).map sgn := fun h => by
   obtain ⟨p, _, hp⟩ := List.mem_map.1 h
   exact sgn_ne p hp
  have hlw : (l.take w).length = w := by rw [List.length_take, hl, Nat.mul_succ]; omega
  simp only [rowsP, rowsT, cutB_of hn]
  have h1 : ((l.take w).map sgn).all isSgn = true := by rw [List.all_map]; exact List.all_eq_true.2 fun p _ => sgn_isSgn p
  have hmin := hlw
  rw [List.length_take] at hmin
  rw [if_pos (by rw [h1]; simp [hmin])]
  rw [rowsP_rowsT w k (y + 1) (l.drop w) _ (by rw [List.length_drop, hl, Nat.mul_succ]; omega) (fun p h => hp p (List.mem_of_mem_drop h))]
  have h2 : ((l.take w).map sgn).map unS = l.take w := by
   rw [List.map_map]
   have : ∀ p ∈ l.take w, (unS ∘ sgn) p = p := fun p h => unS_sgn (hp p (List.mem_of_mem_take h))
   exact (List.map_congr_left this).trans (List.map_id _)
  rw [h2, List.append_assoc, List.take_append_drop]
theorem rowsT_rowsP (w : Nat) : ∀ (k y : Nat) (rest : Bs) (acc l : List UInt8), rowsP w k y rest acc = .inl l → ∃ m, l = acc ++ m ∧ m.length = w * k ∧ (∀ p ∈ m, p = 0 ∨ p = 1) ∧ rest = rowsT w k m
 | 0, y, rest, acc, l, h => by
  simp only [rowsP] at h
  split at h
  ·rename_i h0; cases h; exact ⟨[], by simp, by simp, by simp, h0⟩
  ·cases h
 | k + 1, y, rest, acc, l, h => by
  simp only [rowsP] at h
  split at h
  ·rename_i hc
   simp only [Bool.and_eq_true, decide_eq_true_eq] at hc
   obtain ⟨⟨h1, h2⟩, h3⟩ := hc
   obtain ⟨m, e1, e2, e3, e4⟩ := rowsT_rowsP w k (y + 1) _ _ l h
   have hs := cutB_found h1
   refine ⟨(cutB rest 10).1.map unS ++ m, by rw [e1, List.append_assoc], by rw [List.length_append, List.length_map, h2, e2, Nat.mul_succ]; omega, fun p hp => ?_, ?_⟩
   ·rcases List.mem_append.1 hp with hp | hp
    ·obtain ⟨c, _, rfl⟩ := List.mem_map.1 hp; exact unS_ok c
    ·exact e3 p hp
   ·have h4 : ((cutB rest 10).1.map unS).length = w := by rw [List.length_map, h2]
    simp only [rowsT]
    rw [List.take_left' h4, List.drop_left' h4, ← e4, List.map_map]
    have : ∀ c ∈ (cutB rest 10).1, (sgn ∘ unS) c = c := fun c hc => sgn_unS (List.all_eq_true.1 h3 c hc)
    rw [(List.map_congr_left this).trans (List.map_id _)]
    exact hs
  ·cases h
theorem digs_no {n : Nat} (hn : n ≤ 640) : (10 : UInt8) ∉ digs n ∧ (32 : UInt8) ∉ digs n := by
 have h : (List.range 641).all (fun n => !(digs n).contains 10 && !(digs n).contains 32) = true := by decide +kernel
 have := List.all_eq_true.1 h n (by simp; omega)
 simpa using this
theorem prs_fmt {w h : Nat} {l : List UInt8} (hw : w ≤ 640) (hh : h ≤ 640) (hl : l.length = w * h) (hp : ∀ p ∈ l, p = 0 ∨ p = 1) : prsT (fmtT w h l) = (⟨w, h, l⟩, 0, 0) := by
 have h1 : (10 : UInt8) ∉ digs w ++ 32 :: digs h := by
  have := (digs_no hw).1
  have := (digs_no hh).1
  simp [*]
 have e1 : fmtT w h l = (digs w ++ 32 :: digs h) ++ 10 :: rowsT w h l := by simp [fmtT, headT]
 have e2 := cutB_of (y := rowsT w h l) h1
 have e3 := cutB_of (y := digs h) (digs_no hw).2
 unfold prsT sidesP
 rw [e1, e2]
 simp only []
 rw [e3]
 simp only [num_digs w hw, num_digs h hh, if_pos (And.intro hw hh)]
 rw [rowsP_rowsT w h 0 l [] hl hp]
 rfl
theorem fmt_prs {t : Bs} {g : Img} {y : Int} (h : prsT t = (g, y, 0)) : ∃ w hh : Nat, w ≤ 640 ∧ hh ≤ 640 ∧ g = ⟨w, hh, g.px⟩ ∧ g.px.length = w * hh ∧ (∀ p ∈ g.px, p = 0 ∨ p = 1) ∧ fmtT w hh g.px = t := by
 unfold prsT at h
 cases hs : sidesP t with
 | none => rw [hs] at h; cases h
 | some q =>
  obtain ⟨w, hh, rest⟩ := q
  rw [hs] at h
  simp only [] at h
  split at h
  ·rename_i hb
   cases hr : rowsP w hh 0 rest [] with
   | inr y => rw [hr] at h; cases h
   | inl l =>
    rw [hr] at h
    cases h
    obtain ⟨m, e1, e2, e3, e4⟩ := rowsT_rowsP w hh 0 rest [] l hr
    rw [List.nil_append] at e1
    subst e1
    refine ⟨w, hh, hb.1, hb.2, rfl, e2, e3, ?_⟩
    unfold sidesP at hs
    split at hs
    ·rename_i w' h' k1 k2 k3
     cases hs
     have c1 := cutB_found k3
     have k4 : (cutB (cutB t 10).1 32).2.2 = true := by
      cases hf : (cutB (cutB t 10).1 32).2.2 with
      | true => rfl
      | false => rw [cutB_not hf] at k2; simp [numB, numOk] at k2
     have c2 := cutB_found k4
     have d1 := digs_num k1 hb.1
     have d2 := digs_num k2 hb.2
     rw [d1, d2] at c2
     rw [c2, e4] at c1
     rw [c1]
     simp [fmtT, headT]
    ·cases hs
  ·cases h
end Go.Am

set_option maxHeartbeats 4000000
set_option maxRecDepth 100000
namespace Go.Am
open Go
attribute [local irreducible] Wp WpO WpX WpE

instance : IsU8 10 10 := ⟨rfl⟩
instance : IsU8 32 32 := ⟨rfl⟩
instance K_bIdxStr {s : Bs} {H : AHeap} {k : Int} {b : UInt8} [hb : IsU8 k b] : PureCon ext prog 186 [strV s, .int .u8 k] H 0 (.int .i64 (Lib.indexByte s b)) := ⟨fun n hn => by
 obtain ⟨m, rfl⟩ : ∃ m, n = m + 1 := ⟨n - 1, by unfold fuel0 at hn; omega⟩
 have e1 : prog 186 = some ⟨0, .ext 1, []⟩ := rfl
 refine ⟨_, H, ?_, rfl, Ext.refl H⟩
 rw [call_ext e1]
 have hb' := hb.eq
 subst hb'
 show aBytesFn (fun l => .int .i64 (Lib.indexByte l (UInt8.ofNat ((b.toNat : Int)).toNat))) (strV s) H = _
 simp [aBytesFn, M.pure]⟩
instance K_slIndexByte {s : Bs} {H : AHeap} {k : Int} {b : UInt8} [hb : IsU8 k b] : PureCon ext prog 178 [strV s, .int .u8 k] H 1 (.int .i64 (Lib.indexByte s b)) := ⟨by
 refine con_of (show prog 178 = some c178 from rfl) rfl rfl fun n hn => ?_
 refine sq ?_
 refine rg fun KF hKF => ?_
 refine Fo.mov (by simp only [↓nrmL, nrmK, Nat.reduceEqDiff, ↓reduceIte]; rfl) ?_
 refine WpO.nil (hKF _ _ ?_)
 refine sq ?_
 refine rg fun KF hKF => ?_
 refine Fo.mov (rfl : _ = strV _) ?_
 refine Fo.mov (by simp only [↓nrmL, nrmK, Nat.reduceEqDiff, ↓reduceIte]; rfl) ?_
 refine Fo.pcall (v' := ?_) hn rfl (by simp only [↓nrmL, nrmZ, Nat.reduceEqDiff, ↓reduceIte, Nat.reduceAdd, Int.reduceBEq, Int.reduceBNe, List.map]; rfl) rfl ?hv fun _ _ => ?_; case hv => rfl
 refine Fo.mov (by simp only [↓nrmL, nrmK, Nat.reduceEqDiff, ↓reduceIte]; rfl) ?_
 refine WpO.nil (hKF _ _ ?_)
 refine Wp.ret ?_
 dsimp only [cond_true, cond_false]
 refine ⟨trivial, _, (by first | rfl | exact getAllC rfl rfl rfl rfl | exact getAllT rfl (getAllC rfl rfl rfl rfl) | exact getAllC rfl rfl rfl (getAllC rfl rfl rfl rfl) | exact getAllC1 rfl rfl rfl), ?_⟩
 exact ⟨rfl, Ext0.ext⟩⟩
instance K_strIndexByte {s : Bs} {H : AHeap} {k : Int} {b : UInt8} [hb : IsU8 k b] : PureCon ext prog 168 [strV s, .int .u8 k] H 2 (.int .i64 (Lib.indexByte s b)) := ⟨by
 refine con_of (show prog 168 = some c168 from rfl) rfl rfl fun n hn => ?_
 refine sq ?_
 refine rg fun KF hKF => ?_
 refine Fo.mov (by simp only [↓nrmL, nrmK, Nat.reduceEqDiff, ↓reduceIte]; rfl) ?_
 refine WpO.nil (hKF _ _ ?_)
 refine sq ?_
 refine rg fun KF hKF => ?_
 refine Fo.mov (rfl : _ = strV _) ?_
 refine Fo.mov (by simp only [↓nrmL, nrmK, Nat.reduceEqDiff, ↓reduceIte]; rfl) ?_
 refine Fo.pcall (v' := ?_) hn rfl (by simp only [↓nrmL, nrmZ, Nat.reduceEqDiff, ↓reduceIte, Nat.reduceAdd, Int.reduceBEq, Int.reduceBNe, List.map]; rfl) rfl ?hv fun _ _ => ?_; case hv => rfl
 refine Fo.mov (by simp only [↓nrmL, nrmK, Nat.reduceEqDiff, ↓reduceIte]; rfl) ?_
 refine WpO.nil (hKF _ _ ?_)
 refine Wp.ret ?_
 dsimp only [cond_true, cond_false]
 refine ⟨trivial, _, (by first | rfl | exact getAllC rfl rfl rfl rfl | exact getAllT rfl (getAllC rfl rfl rfl rfl) | exact getAllC rfl rfl rfl (getAllC rfl rfl rfl rfl) | exact getAllC1 rfl rfl rfl), ?_⟩
 exact ⟨rfl, Ext0.ext⟩⟩
instance K_slIndex {s : Bs} {H : AHeap} {b : UInt8} : PureCon ext prog 177 [strV s, strV [b]] H 2 (.int .i64 (Lib.indexByte s b)) := ⟨by
 refine con_of (show prog 177 = some c177 from rfl) rfl rfl fun n hn => ?_
 have e0 : [b].length = 1 := rfl
 have e1 : [b][0] = b := rfl
 cases hq : ([b] == s)
 ·skip
  try simp only [↓nrmL, nrmZ, Nat.reduceEqDiff, ↓reduceIte, Nat.reduceAdd, Int.reduceBEq, Int.reduceBNe, e0, e1, hq]
  refine sq ?_
  refine rg fun KF hKF => ?_
  refine Fo.mov (by simp only [↓nrmL, nrmK, Nat.reduceEqDiff, ↓reduceIte]; rfl) ?_
  refine WpO.nil (hKF _ _ ?_)
  refine sq ?_
  refine rg fun KF hKF => ?_
  refine Fo.mov (rfl : _ = strV _) ?_
  refine Fo.lenStr (rfl : _ = strV _) (by simp only [↓nrmL, nrmZ, Nat.reduceEqDiff, ↓reduceIte, Nat.reduceAdd, Int.reduceBEq, Int.reduceBNe, e0, e1, hq]; rfl) ?_
  refine Fo.mov (by simp only [↓nrmL, nrmK, Nat.reduceEqDiff, ↓reduceIte]; rfl) ?_
  refine WpO.nil (hKF _ _ ?_)
  refine sq ?_
  refine Wp.block ?_
  refine sq ?_
  refine rg fun KF hKF => ?_
  refine Fo.mov (by simp only [↓nrmL, nrmK, Nat.reduceEqDiff, ↓reduceIte]; rfl) ?_
  refine Fo.bin rfl rfl rfl rfl ?_
  refine Fo.mov (by simp only [↓nrmL, nrmK, Nat.reduceEqDiff, ↓reduceIte]; rfl) ?_
  refine Fo.yes rfl rfl ?_
  refine Fo.mov (rfl : _ = strV _) ?_
  refine Fo.yes rfl rfl ?_
  refine Fo.mov (rfl : _ = strV _) ?_
  refine Fo.yes rfl rfl ?_
  refine Fo.eqStr rfl rfl (by simp only [↓nrmL, nrmZ, Nat.reduceEqDiff, ↓reduceIte, Nat.reduceAdd, Int.reduceBEq, Int.reduceBNe, e0, e1, hq]; rfl) ?_
  refine fB rfl rfl ?_
  refine Fo.mov (by simp only [↓nrmL, nrmK, Nat.reduceEqDiff, ↓reduceIte]; rfl) ?_
  refine WpO.nil (hKF _ _ ?_)
  refine Wp.cond (b := false) rfl ?_
  refine sq ?_
  refine rg fun KF hKF => ?_
  refine Fo.mov (by simp only [↓nrmL, nrmK, Nat.reduceEqDiff, ↓reduceIte]; rfl) ?_
  refine Fo.bin rfl rfl rfl rfl ?_
  refine Fo.mov (by simp only [↓nrmL, nrmK, Nat.reduceEqDiff, ↓reduceIte]; rfl) ?_
  refine WpO.nil (hKF _ _ ?_)
  refine Wp.cond (b := true) rfl ?_
  refine sq ?_
  refine rg fun KF hKF => ?_
  refine Fo.mov (rfl : _ = strV _) ?_
  refine Fo.mov (rfl : _ = strV _) ?_
  refine Fo.now rfl rfl (by simp only [↓nrmL, nrmZ, Nat.reduceEqDiff, ↓reduceIte, Nat.reduceAdd, Int.reduceBEq, Int.reduceBNe, e0, e1, hq]; rfl) ?_
  refine Fo.pcall (v' := ?_) hn rfl (by simp only [↓nrmL, nrmZ, Nat.reduceEqDiff, ↓reduceIte, Nat.reduceAdd, Int.reduceBEq, Int.reduceBNe, e0, e1, hq, List.map]; rfl) rfl ?hv fun _ _ => ?_; case hv => rfl
  refine Fo.mov (by simp only [↓nrmL, nrmK, Nat.reduceEqDiff, ↓reduceIte]; rfl) ?_
  refine WpO.nil (hKF _ _ ?_)
  refine Wp.ret ?_
  dsimp only [cond_true, cond_false]
  refine ⟨trivial, _, (by first | rfl | exact getAllC rfl rfl rfl rfl | exact getAllT rfl (getAllC rfl rfl rfl rfl) | exact getAllC rfl rfl rfl (getAllC rfl rfl rfl rfl) | exact getAllC1 rfl rfl rfl), ?_⟩
  exact ⟨rfl, Ext0.ext⟩
 ·have hs : s = [b] := (beq_iff_eq.1 hq).symm
  have h0 : Lib.indexByte s b = 0 := by rw [hs]; simp [Lib.indexByte]
  rw [h0]
  try simp only [↓nrmL, nrmZ, Nat.reduceEqDiff, ↓reduceIte, Nat.reduceAdd, Int.reduceBEq, Int.reduceBNe, e0, e1, hq]
  refine sq ?_
  refine rg fun KF hKF => ?_
  refine Fo.mov (by simp only [↓nrmL, nrmK, Nat.reduceEqDiff, ↓reduceIte]; rfl) ?_
  refine WpO.nil (hKF _ _ ?_)
  refine sq ?_
  refine rg fun KF hKF => ?_
  refine Fo.mov (rfl : _ = strV _) ?_
  refine Fo.lenStr (rfl : _ = strV _) (by simp only [↓nrmL, nrmZ, Nat.reduceEqDiff, ↓reduceIte, Nat.reduceAdd, Int.reduceBEq, Int.reduceBNe, e0, e1, hq]; rfl) ?_
  refine Fo.mov (by simp only [↓nrmL, nrmK, Nat.reduceEqDiff, ↓reduceIte]; rfl) ?_
  refine WpO.nil (hKF _ _ ?_)
  refine sq ?_
  refine Wp.block ?_
  refine sq ?_
  refine rg fun KF hKF => ?_
  refine Fo.mov (by simp only [↓nrmL, nrmK, Nat.reduceEqDiff, ↓reduceIte]; rfl) ?_
  refine Fo.bin rfl rfl rfl rfl ?_
  refine Fo.mov (by simp only [↓nrmL, nrmK, Nat.reduceEqDiff, ↓reduceIte]; rfl) ?_
  refine Fo.yes rfl rfl ?_
  refine Fo.mov (rfl : _ = strV _) ?_
  refine Fo.yes rfl rfl ?_
  refine Fo.mov (rfl : _ = strV _) ?_
  refine Fo.yes rfl rfl ?_
  refine Fo.eqStr rfl rfl (by simp only [↓nrmL, nrmZ, Nat.reduceEqDiff, ↓reduceIte, Nat.reduceAdd, Int.reduceBEq, Int.reduceBNe, e0, e1, hq]; rfl) ?_
  refine fB rfl rfl ?_
  refine Fo.mov (by simp only [↓nrmL, nrmK, Nat.reduceEqDiff, ↓reduceIte]; rfl) ?_
  refine WpO.nil (hKF _ _ ?_)
  refine Wp.cond (b := true) rfl ?_
  refine sq ?_
  refine rg fun KF hKF => ?_
  refine Fo.mov (by simp only [↓nrmL, nrmK, Nat.reduceEqDiff, ↓reduceIte]; rfl) ?_
  refine WpO.nil (hKF _ _ ?_)
  refine Wp.ret ?_
  dsimp only [cond_true, cond_false]
  refine ⟨trivial, _, (by first | rfl | exact getAllC rfl rfl rfl rfl | exact getAllT rfl (getAllC rfl rfl rfl rfl) | exact getAllC rfl rfl rfl (getAllC rfl rfl rfl rfl) | exact getAllC1 rfl rfl rfl), ?_⟩
  exact ⟨rfl, Ext0.ext⟩⟩
theorem take_drop0 (s : Bs) (i : Nat) : (s.drop 0).take (i - 0) = s.take i := by simp
theorem take_rest (s : Bs) (i : Nat) : (s.drop i).take (s.length - i) = s.drop i := List.take_of_length_le (by rw [List.length_drop]; exact Nat.le_refl _)
class ShortS (s : Bs) : Prop where
 le : s.length ≤ 999999
instance K_slCut {s : Bs} {H : AHeap} {b : UInt8} [hs : ShortS s] : PureCon ext prog 167 [strV s, strV [b]] H 3 (.tuple [strV (cutB s b).1, strV (cutB s b).2.1, .bool (cutB s b).2.2]) := ⟨by
 refine con_of (show prog 167 = some c167 from rfl) rfl rfl fun n hn => ?_
 have hsl := hs.le
 have e0 : [b].length = 1 := rfl
 have hlt := ibLt s b
 cases h0 : decide (Lib.indexByte s b ≥ 0)
 ·have hc := cutB_no (s := s) (c := b) (of_decide_eq_false h0)
  rw [hc]
  try simp only [↓nrmL, nrmZ, Nat.reduceEqDiff, ↓reduceIte, Nat.reduceAdd, Int.reduceBEq, Int.reduceBNe, e0, h0]
  refine sq ?_
  refine rg fun KF hKF => ?_
  refine Fo.mov (rfl : _ = strV _) ?_
  refine Fo.mov (rfl : _ = strV _) ?_
  refine Fo.mov (by simp only [↓nrmL, nrmK, Nat.reduceEqDiff, ↓reduceIte]; rfl) ?_
  refine WpO.nil (hKF _ _ ?_)
  refine sq ?_
  refine sq ?_
  refine rg fun KF hKF => ?_
  refine Fo.mov (rfl : _ = strV _) ?_
  refine Fo.mov (rfl : _ = strV _) ?_
  refine Fo.pcall (v' := ?_) hn rfl (by simp only [↓nrmL, nrmZ, Nat.reduceEqDiff, ↓reduceIte, Nat.reduceAdd, Int.reduceBEq, Int.reduceBNe, e0, h0, List.map]; rfl) rfl ?hv fun _ _ => ?_; case hv => rfl
  refine Fo.mov (by simp only [↓nrmL, nrmK, Nat.reduceEqDiff, ↓reduceIte]; rfl) ?_
  refine WpO.nil (hKF _ _ ?_)
  refine sq ?_
  refine rg fun KF hKF => ?_
  refine Fo.mov (by simp only [↓nrmL, nrmK, Nat.reduceEqDiff, ↓reduceIte]; rfl) ?_
  refine Fo.bin rfl rfl rfl (by simp only [↓nrmL, nrmZ, Nat.reduceEqDiff, ↓reduceIte, Nat.reduceAdd, Int.reduceBEq, Int.reduceBNe, e0, h0]; rfl) ?_
  refine WpO.nil (hKF _ _ ?_)
  refine Wp.cond (b := false) rfl ?_
  refine Wp.skip ?_
  refine sq ?_
  refine rg fun KF hKF => ?_
  refine Fo.mov (rfl : _ = strV _) ?_
  refine Fo.mov (rfl : _ = strV _) ?_
  refine Fo.mov (rfl : _ = strV _) ?_
  refine Fo.mov (by simp only [↓nrmL, nrmK, Nat.reduceEqDiff, ↓reduceIte]; rfl) ?_
  refine WpO.nil (hKF _ _ ?_)
  refine Wp.ret ?_
  dsimp only [cond_true, cond_false]
  refine ⟨trivial, _, (by first | rfl | exact getAllC rfl rfl rfl rfl | exact getAllT rfl (getAllC rfl rfl rfl rfl) | exact getAllC rfl rfl rfl (getAllC rfl rfl rfl rfl) | exact getAllC1 rfl rfl rfl), ?_⟩
  exact ⟨rfl, Ext0.ext⟩
 ·have hge := of_decide_eq_true h0
  obtain ⟨i, hi⟩ : ∃ i : Nat, Lib.indexByte s b = i := ⟨(Lib.indexByte s b).toNat, by omega⟩
  rw [cutB_yes hi]
  rw [hi] at h0 hlt
  have hw : IntKind.i64.wrap ((i : Int) + ((1 : Nat) : Int)) = ((i + 1 : Nat) : Int) := wa (by omega)
  try simp only [↓nrmL, nrmZ, Nat.reduceEqDiff, ↓reduceIte, Nat.reduceAdd, Int.reduceBEq, Int.reduceBNe, e0, hi, h0, hw, take_drop0, take_rest]
  refine sq ?_
  refine rg fun KF hKF => ?_
  refine Fo.mov (rfl : _ = strV _) ?_
  refine Fo.mov (rfl : _ = strV _) ?_
  refine Fo.mov (by simp only [↓nrmL, nrmK, Nat.reduceEqDiff, ↓reduceIte]; rfl) ?_
  refine WpO.nil (hKF _ _ ?_)
  refine sq ?_
  refine sq ?_
  refine rg fun KF hKF => ?_
  refine Fo.mov (rfl : _ = strV _) ?_
  refine Fo.mov (rfl : _ = strV _) ?_
  refine Fo.pcall (v' := ?_) hn rfl (by simp only [↓nrmL, nrmZ, Nat.reduceEqDiff, ↓reduceIte, Nat.reduceAdd, Int.reduceBEq, Int.reduceBNe, e0, hi, h0, hw, take_drop0, take_rest, List.map]; rfl) rfl ?hv fun _ _ => ?_; case hv => (simp only [↓nrmL, nrmZ, Nat.reduceEqDiff, ↓reduceIte, Nat.reduceAdd, Int.reduceBEq, Int.reduceBNe, e0, hi, h0, hw, take_drop0, take_rest]; rfl)
  refine Fo.mov (by simp only [↓nrmL, nrmK, Nat.reduceEqDiff, ↓reduceIte]; rfl) ?_
  refine WpO.nil (hKF _ _ ?_)
  refine sq ?_
  refine rg fun KF hKF => ?_
  refine Fo.mov (by simp only [↓nrmL, nrmK, Nat.reduceEqDiff, ↓reduceIte]; rfl) ?_
  refine Fo.bin rfl rfl rfl (by simp only [↓nrmL, nrmZ, Nat.reduceEqDiff, ↓reduceIte, Nat.reduceAdd, Int.reduceBEq, Int.reduceBNe, e0, hi, h0, hw, take_drop0, take_rest]; rfl) ?_
  refine WpO.nil (hKF _ _ ?_)
  refine Wp.cond (b := true) rfl ?_
  refine sq ?_
  refine Fr.quiet rfl rfl fun KF hKF => ?_
  refine Fo.mov (rfl : _ = strV _) ?_
  refine Fo.mov (by simp only [↓nrmL, nrmK, Nat.reduceEqDiff, ↓reduceIte]; rfl) ?_
  refine Fo.slcStr (rfl : _ = strV _) (by first | exact Or.inl ⟨rfl, rfl⟩ | exact Or.inr ⟨_, rfl⟩) (by first | exact Or.inl ⟨rfl, rfl⟩ | exact Or.inr ⟨_, rfl⟩) ?_ ?_ (by simp only [↓nrmL, nrmZ, Nat.reduceEqDiff, ↓reduceIte, Nat.reduceAdd, Int.reduceBEq, Int.reduceBNe, e0, hi, h0, hw, take_drop0, take_rest]; rfl) ?_; (focus omega); (focus omega)
  refine Fo.mov (rfl : _ = strV _) ?_
  refine Fo.mov (by simp only [↓nrmL, nrmK, Nat.reduceEqDiff, ↓reduceIte]; rfl) ?_
  refine Fo.mov (rfl : _ = strV _) ?_
  refine Fo.lenStr (rfl : _ = strV _) (by simp only [↓nrmL, nrmZ, Nat.reduceEqDiff, ↓reduceIte, Nat.reduceAdd, Int.reduceBEq, Int.reduceBNe, e0, hi, h0, hw, take_drop0, take_rest]; rfl) ?_
  refine Fo.bin rfl rfl rfl (by simp only [↓nrmL, nrmZ, Nat.reduceEqDiff, ↓reduceIte, Nat.reduceAdd, Int.reduceBEq, Int.reduceBNe, e0, hi, h0, hw, take_drop0, take_rest]; rfl) ?_
  refine Fo.slcStr (rfl : _ = strV _) (by first | exact Or.inl ⟨rfl, rfl⟩ | exact Or.inr ⟨_, rfl⟩) (by first | exact Or.inl ⟨rfl, rfl⟩ | exact Or.inr ⟨_, rfl⟩) ?_ ?_ (by simp only [↓nrmL, nrmZ, Nat.reduceEqDiff, ↓reduceIte, Nat.reduceAdd, Int.reduceBEq, Int.reduceBNe, e0, hi, h0, hw, take_drop0, take_rest]; rfl) ?_; (focus omega); (focus omega)
  refine Fo.mov (rfl : _ = strV _) ?_
  refine Fo.mov (rfl : _ = strV _) ?_
  refine Fo.mov (by simp only [↓nrmL, nrmK, Nat.reduceEqDiff, ↓reduceIte]; rfl) ?_
  refine WpO.nil (hKF _ _ ?_)
  refine Wp.ret ?_
  dsimp only [cond_true, cond_false]
  refine ⟨trivial, _, (by first | rfl | exact getAllC rfl rfl rfl rfl | exact getAllT rfl (getAllC rfl rfl rfl rfl) | exact getAllC rfl rfl rfl (getAllC rfl rfl rfl rfl) | exact getAllC1 rfl rfl rfl), ?_⟩
  exact ⟨rfl, Ext0.ext⟩⟩
instance K_Cut {s : Bs} {H : AHeap} {b : UInt8} [hs : ShortS s] : PureCon ext prog 137 [strV s, strV [b]] H 4 (.tuple [strV (cutB s b).1, strV (cutB s b).2.1, .bool (cutB s b).2.2]) := ⟨by
 refine con_of (show prog 137 = some c137 from rfl) rfl rfl fun n hn => ?_
 refine sq ?_
 refine rg fun KF hKF => ?_
 refine Fo.mov (rfl : _ = strV _) ?_
 refine Fo.mov (rfl : _ = strV _) ?_
 refine Fo.mov (by simp only [↓nrmL, nrmK, Nat.reduceEqDiff, ↓reduceIte]; rfl) ?_
 refine WpO.nil (hKF _ _ ?_)
 refine sq ?_
 refine rg fun KF hKF => ?_
 refine Fo.mov (rfl : _ = strV _) ?_
 refine Fo.mov (rfl : _ = strV _) ?_
 refine Fo.pcall (v' := ?_) hn rfl (by simp only [↓nrmL, nrmZ, Nat.reduceEqDiff, ↓reduceIte, Nat.reduceAdd, Int.reduceBEq, Int.reduceBNe, List.map]; rfl) rfl ?hv fun _ _ => ?_; case hv => rfl
 refine Fo.extr rfl rfl ?_
 refine Fo.extr rfl rfl ?_
 refine Fo.extr rfl rfl ?_
 refine Fo.mov (rfl : _ = strV _) ?_
 refine Fo.mov (rfl : _ = strV _) ?_
 refine Fo.mov (by simp only [↓nrmL, nrmK, Nat.reduceEqDiff, ↓reduceIte]; rfl) ?_
 refine WpO.nil (hKF _ _ ?_)
 refine Wp.ret ?_
 dsimp only [cond_true, cond_false]
 refine ⟨trivial, _, (by first | rfl | exact getAllC rfl rfl rfl rfl | exact getAllT rfl (getAllC rfl rfl rfl rfl) | exact getAllC rfl rfl rfl (getAllC rfl rfl rfl rfl) | exact getAllC1 rfl rfl rfl), ?_⟩
 exact ⟨rfl, Ext0.ext⟩⟩

end Go.Am

set_option maxHeartbeats 4000000
set_option maxRecDepth 100000
namespace Go.Am
open Go
attribute [local irreducible] Wp WpO WpX WpE

def numR (s : Bs) : Int × Bool := match numB s with | some n => ((n : Nat), true) | none => (0, false)
theorem numR_ok {s : Bs} (h : numOk s = true) : numR s = ((valD s : Int), true) := by simp [numR, numB, h]
theorem numR_no {s : Bs} (h : numOk s = false) : numR s = (0, false) := by simp [numR, numB, h]
theorem valD_bound {l : Bs} (h : l.length ≤ 9) (hd : l.all isDig = true) : valD l < 1000000000 := by
 have h1 := valD_lt l.length l rfl hd
 have h2 : 10 ^ l.length ≤ 10 ^ 9 := Nat.pow_le_pow_right (by omega) h
 omega
theorem all_take_succ {s : Bs} {i : Nat} (h : i < s.length) : (s.take (i + 1)).all isDig = ((s.take i).all isDig && isDig s[i]) := by
 rw [List.take_succ_eq_append_getElem h, List.all_append]
 simp
theorem valD_take_succ {s : Bs} {i : Nat} (h : i < s.length) : valD (s.take (i + 1)) = 10 * valD (s.take i) + (s[i].toNat - 48) := by
 rw [List.take_succ_eq_append_getElem h, valD_snoc]
theorem numOk_cons {c : UInt8} {t : Bs} : numOk (c :: t) = (!(decide ((((c :: t).length : Nat) : Int) > 9)) && !(((c.toNat : Int) == 48) && decide ((((c :: t).length : Nat) : Int) > 1)) && (c :: t).all isDig) := by
 unfold numOk
 have h1 : ((c :: t) == ([] : Bs)) = false := by simp
 have h2 : ((c :: t).headD 0 == 48) = ((c.toNat : Int) == 48) := by
  simp only [List.headD_cons]
  by_cases h : c = 48
  ·subst h; rfl
  ·have h3 : (c == 48) = false := by simpa using h
   have h4 : ¬ (c.toNat : Int) = 48 := fun e => h (UInt8.toNat_inj.1 (by have : (48 : UInt8).toNat = 48 := rfl; omega))
   have h5 : ((c.toNat : Int) == 48) = false := by simpa using h4
   rw [h3, h5]
 rw [h1, h2]
 simp
theorem wsub8 {c : Nat} (h : 48 ≤ c ∧ c ≤ 57) : IntKind.u8.wrap ((c : Int) - 48) = ((c - 48 : Nat) : Int) := by
 rw [show (c : Int) - 48 = ((c - 48 : Nat) : Int) by omega]
 exact wrap_u8 (by omega)
instance K_parseNumber {s : Bs} {H : AHeap} : PureCon ext prog 166 [strV s] H 1 (.tuple [.int .i64 (numR s).1, .bool (numR s).2]) := ⟨by
 refine con_of (show prog 166 = some c166 from rfl) rfl rfl fun n hn => ?_
 by_cases hnil : s = []
 ·subst hnil
  have e0 : ((([] : Bs)) == []) = true := rfl
  rw [numR_no (s := []) rfl]
  try simp only [↓nrmL, nrmZ, Nat.reduceEqDiff, ↓reduceIte, Nat.reduceAdd, Int.reduceBEq, Int.reduceBNe, e0]
  refine sq ?_
  refine rg fun KF hKF => ?_
  refine Fo.mov (by simp only [↓nrmL, nrmK, Nat.reduceEqDiff, ↓reduceIte]; rfl) ?_
  refine Fo.mov (by simp only [↓nrmL, nrmK, Nat.reduceEqDiff, ↓reduceIte]; rfl) ?_
  refine WpO.nil (hKF _ _ ?_)
  refine sq ?_
  refine sq ?_
  refine rg fun KF hKF => ?_
  refine Fo.mov (rfl : _ = strV _) ?_
  refine Fo.eqStr rfl rfl (by simp only [↓nrmL, nrmZ, Nat.reduceEqDiff, ↓reduceIte, Nat.reduceAdd, Int.reduceBEq, Int.reduceBNe, e0]; rfl) ?_
  refine Fo.mov (by simp only [↓nrmL, nrmK, Nat.reduceEqDiff, ↓reduceIte]; rfl) ?_
  refine Fo.no rfl rfl ?_
  refine Fo.no rfl rfl ?_
  refine Fo.no rfl rfl ?_
  refine tB rfl rfl ?_
  refine Fo.mov (by simp only [↓nrmL, nrmK, Nat.reduceEqDiff, ↓reduceIte]; rfl) ?_
  refine Fo.no rfl rfl ?_
  refine Fo.no rfl rfl ?_
  refine Fo.no rfl rfl ?_
  refine Fo.no rfl rfl ?_
  refine Fo.noU rfl ?_
  refine Fo.noU rfl ?_
  refine Fo.noU rfl ?_
  refine Fo.no rfl rfl ?_
  refine tB rfl rfl ?_
  refine WpO.nil (hKF _ _ ?_)
  refine Wp.cond (b := true) rfl ?_
  refine sq ?_
  refine rg fun KF hKF => ?_
  refine Fo.mov (by simp only [↓nrmL, nrmK, Nat.reduceEqDiff, ↓reduceIte]; rfl) ?_
  refine Fo.mov (by simp only [↓nrmL, nrmK, Nat.reduceEqDiff, ↓reduceIte]; rfl) ?_
  refine WpO.nil (hKF _ _ ?_)
  refine Wp.ret ?_
  dsimp only [cond_true, cond_false]
  refine ⟨trivial, _, (by first | rfl | exact getAllC rfl rfl rfl rfl | exact getAllT rfl (getAllC rfl rfl rfl rfl) | exact getAllC rfl rfl rfl (getAllC rfl rfl rfl rfl) | exact getAllC1 rfl rfl rfl), ?_⟩
  exact ⟨rfl, Ext0.ext⟩
 obtain ⟨c, t, hs⟩ : ∃ c t, s = c :: t := List.exists_cons_of_ne_nil hnil
 have hpos : 0 < s.length := by rw [hs]; simp
 have e0 : (s == ([] : Bs)) = false := by rw [hs]; simp
 have e1 : s[0] = c := by simp only [hs]; rfl
 cases h1 : decide (((s.length : Nat) : Int) > 9)
 ·skip
  have h9 : s.length ≤ 9 := by have := of_decide_eq_false h1; omega
  cases h2 : (((c.toNat : Nat) : Int) == 48) && decide (((s.length : Nat) : Int) > 1)
  ·skip
   have hok : numOk s = s.all isDig := by have h1' := h1; have h2' := h2; rw [hs] at h1' h2' ⊢; rw [numOk_cons, h1', h2']; simp
   cases h3 : (((c.toNat : Nat) : Int) == 48)
   ·skip
    try simp only [↓nrmL, nrmZ, Nat.reduceEqDiff, ↓reduceIte, Nat.reduceAdd, Int.reduceBEq, Int.reduceBNe, e0, e1, h1, h3]
    refine sq ?_
    refine rg fun KF hKF => ?_
    refine Fo.mov (by simp only [↓nrmL, nrmK, Nat.reduceEqDiff, ↓reduceIte]; rfl) ?_
    refine Fo.mov (by simp only [↓nrmL, nrmK, Nat.reduceEqDiff, ↓reduceIte]; rfl) ?_
    refine WpO.nil (hKF _ _ ?_)
    refine sq ?_
    refine sq ?_
    refine rg fun KF hKF => ?_
    refine Fo.mov (rfl : _ = strV _) ?_
    refine Fo.eqStr rfl rfl (by simp only [↓nrmL, nrmZ, Nat.reduceEqDiff, ↓reduceIte, Nat.reduceAdd, Int.reduceBEq, Int.reduceBNe, e0, e1, h1, h3]; rfl) ?_
    refine Fo.mov (by simp only [↓nrmL, nrmK, Nat.reduceEqDiff, ↓reduceIte]; rfl) ?_
    refine Fo.yes rfl rfl ?_
    refine Fo.mov (rfl : _ = strV _) ?_
    refine Fo.yes rfl rfl ?_
    refine Fo.lenStr (rfl : _ = strV _) rfl ?_
    refine Fo.yes rfl rfl ?_
    refine Fo.bin rfl rfl rfl (by simp only [↓nrmL, nrmZ, Nat.reduceEqDiff, ↓reduceIte, Nat.reduceAdd, Int.reduceBEq, Int.reduceBNe, e0, e1, h1, h3]; rfl) ?_
    refine fB rfl rfl ?_
    refine Fo.mov (by simp only [↓nrmL, nrmK, Nat.reduceEqDiff, ↓reduceIte]; rfl) ?_
    refine Fo.yes rfl rfl ?_
    refine Fo.mov (rfl : _ = strV _) ?_
    refine Fo.yes rfl rfl ?_
    refine Fo.idxStr (rfl : _ = strV _) rfl ?_ (by simp only [↓nrmL, nrmZ, Nat.reduceEqDiff, ↓reduceIte, Nat.reduceAdd, Int.reduceBEq, Int.reduceBNe, e0, e1, h1, h3]; rfl) ?_; (focus omega)
    refine Fo.yes rfl rfl ?_
    refine Fo.bin rfl rfl rfl (by simp only [↓nrmL, nrmZ, Nat.reduceEqDiff, ↓reduceIte, Nat.reduceAdd, Int.reduceBEq, Int.reduceBNe, e0, e1, h1, h3]; rfl) ?_
    refine Fo.yes rfl rfl ?_
    refine Fo.mov (by simp only [↓nrmL, nrmK, Nat.reduceEqDiff, ↓reduceIte]; rfl) ?_
    refine Fo.no rfl rfl ?_
    refine Fo.no rfl rfl ?_
    refine Fo.no rfl rfl ?_
    refine Fo.yes rfl rfl ?_
    refine fB rfl rfl ?_
    refine fB rfl rfl ?_
    refine WpO.nil (hKF _ _ ?_)
    refine Wp.cond (b := false) rfl ?_
    refine Wp.skip ?_
    refine sq ?_
    refine rg fun KF hKF => ?_
    refine Fo.mov (by simp only [↓nrmL, nrmK, Nat.reduceEqDiff, ↓reduceIte]; rfl) ?_
    refine WpO.nil (hKF _ _ ?_)
    refine sq ?_
    refine sq ?_
    refine rg fun KF hKF => ?_
    refine Fo.mov (rfl : _ = strV _) ?_
    refine Fo.lenStr (rfl : _ = strV _) rfl ?_
    refine Fo.mov (by simp only [↓nrmL, nrmK, Nat.reduceEqDiff, ↓reduceIte]; rfl) ?_
    refine WpO.nil (hKF _ _ ?_)
    refine Wp.block ?_
    dsimp only [cond_true, cond_false]
    refine Wp.loopS [2, 3, 4, 5, 25, 26, 27, 28, 29, 30, 31, 32, 33, 34, 35, 36, 37, 38, 39, 40, 41, 42, 43, 44, 45, 46] (fun i : Nat => [(25, .int .i64 i), (4, .int .i64 (valD (s.take i) : Nat))]) (fun H3 i H2 => i ≤ s.length ∧ (s.take i).all isDig = true ∧ H2 = H3) (fun i => s.length - i) 0 rfl (fun _ => rfl) ⟨rfl, rfl, trivial⟩ ⟨Nat.zero_le _, rfl, rfl⟩ (by unfold fuel0 at hn; omega) ?_
    rintro i g H2 ⟨hi, hd, rfl⟩
    simp only [↓nrmL, nrmZ, Nat.reduceEqDiff, ↓reduceIte, Nat.reduceAdd, Int.reduceBEq, Int.reduceBNe]
    cases hc : decide ((i : Int) < (s.length : Int))
    ·have hil : i = s.length := by have := of_decide_eq_false hc; omega
     rw [hil, List.take_length] at hd
     rw [numR_ok (by rw [hok, hd])]
     have ht : s.take i = s := by rw [hil, List.take_length]
     try simp only [↓nrmL, nrmZ, Nat.reduceEqDiff, ↓reduceIte, Nat.reduceAdd, Int.reduceBEq, Int.reduceBNe, hc, ht]
     refine sq ?_
     refine rg fun KF hKF => ?_
     refine Fo.bin rfl rfl rfl (by simp only [↓nrmL, nrmZ, Nat.reduceEqDiff, ↓reduceIte, Nat.reduceAdd, Int.reduceBEq, Int.reduceBNe, hc, ht]; rfl) ?_
     refine WpO.nil (hKF _ _ ?_)
     refine sq ?_
     refine Wp.cond (b := false) rfl ?_
     refine Wp.exit ?_
     refine sq ?_
     refine rg fun KF hKF => ?_
     refine Fo.mov (by simp only [↓nrmL, nrmK, Nat.reduceEqDiff, ↓reduceIte]; rfl) ?_
     refine Fo.mov (by simp only [↓nrmL, nrmK, Nat.reduceEqDiff, ↓reduceIte]; rfl) ?_
     refine Fo.mov (by simp only [↓nrmL, nrmK, Nat.reduceEqDiff, ↓reduceIte]; rfl) ?_
     refine WpO.nil (hKF _ _ ?_)
     refine Wp.ret ?_
     dsimp only [cond_true, cond_false]
     refine ⟨trivial, _, (by first | rfl | exact getAllC rfl rfl rfl rfl | exact getAllT rfl (getAllC rfl rfl rfl rfl) | exact getAllC rfl rfl rfl (getAllC rfl rfl rfl rfl) | exact getAllC1 rfl rfl rfl), ?_⟩
     exact ⟨rfl, Ext0.ext⟩
    ·have hil : i < s.length := by have := of_decide_eq_true hc; omega
     have hw1 := wa1 (a := i) (by omega)
     have hlen : (s.take i).length ≤ 9 := by rw [List.length_take]; omega
     have hb := valD_bound hlen hd
     cases g1 : decide ((s[i].toNat : Int) < 48)
     ·skip
      cases g2 : decide ((s[i].toNat : Int) > 57)
      ·skip
       have hdi : isDig s[i] = true := by unfold isDig; rw [g1, g2]; rfl
       have hr := isDig_iff.1 hdi
       have w1 : IntKind.i64.wrap (10 * ((valD (s.take i) : Nat) : Int)) = ((10 * valD (s.take i) : Nat) : Int) := by rw [w64 (by omega)]; omega
       have w2 := wsub8 hr
       have w3 : IntKind.i64.wrap ((s[i].toNat - 48 : Nat) : Int) = ((s[i].toNat - 48 : Nat) : Int) := w64 (by omega)
       have w4 : IntKind.i64.wrap (((10 * valD (s.take i) : Nat) : Int) + ((s[i].toNat - 48 : Nat) : Int)) = ((valD (s.take (i + 1)) : Nat) : Int) := by rw [valD_take_succ hil, w64 (by omega)]; omega
       try simp only [↓nrmL, nrmZ, Nat.reduceEqDiff, ↓reduceIte, Nat.reduceAdd, Int.reduceBEq, Int.reduceBNe, hc, g1, g2, w1, w2, w3, w4]
       refine sq ?_
       refine rg fun KF hKF => ?_
       refine Fo.bin rfl rfl rfl (by simp only [↓nrmL, nrmZ, Nat.reduceEqDiff, ↓reduceIte, Nat.reduceAdd, Int.reduceBEq, Int.reduceBNe, hc, g1, g2, w1, w2, w3, w4]; rfl) ?_
       refine WpO.nil (hKF _ _ ?_)
       refine sq ?_
       refine Wp.cond (b := true) rfl ?_
       refine Wp.skip ?_
       refine sq ?_
       refine Wp.block ?_
       refine sq ?_
       refine rg fun KF hKF => ?_
       refine Fo.mov (by simp only [↓nrmL, nrmK, Nat.reduceEqDiff, ↓reduceIte]; rfl) ?_
       refine Fo.mov (by simp only [↓nrmL, nrmK, Nat.reduceEqDiff, ↓reduceIte]; rfl) ?_
       refine WpO.nil (hKF _ _ ?_)
       refine sq ?_
       refine sq ?_
       refine rg fun KF hKF => ?_
       refine Fo.mov (rfl : _ = strV _) ?_
       refine Fo.mov (by simp only [↓nrmL, nrmK, Nat.reduceEqDiff, ↓reduceIte]; rfl) ?_
       refine Fo.idxStr (rfl : _ = strV _) rfl ?_ rfl ?_; (focus omega)
       refine Fo.bin rfl rfl rfl (by simp only [↓nrmL, nrmZ, Nat.reduceEqDiff, ↓reduceIte, Nat.reduceAdd, Int.reduceBEq, Int.reduceBNe, hc, g1, g2, w1, w2, w3, w4]; rfl) ?_
       refine Fo.mov (by simp only [↓nrmL, nrmK, Nat.reduceEqDiff, ↓reduceIte]; rfl) ?_
       refine Fo.yes rfl rfl ?_
       refine Fo.mov (rfl : _ = strV _) ?_
       refine Fo.yes rfl rfl ?_
       refine Fo.mov (by simp only [↓nrmL, nrmK, Nat.reduceEqDiff, ↓reduceIte]; rfl) ?_
       refine Fo.yes rfl rfl ?_
       refine Fo.idxStr (rfl : _ = strV _) rfl ?_ rfl ?_; (focus omega)
       refine Fo.yes rfl rfl ?_
       refine Fo.bin rfl rfl rfl (by simp only [↓nrmL, nrmZ, Nat.reduceEqDiff, ↓reduceIte, Nat.reduceAdd, Int.reduceBEq, Int.reduceBNe, hc, g1, g2, w1, w2, w3, w4]; rfl) ?_
       refine fB rfl rfl ?_
       refine WpO.nil (hKF _ _ ?_)
       refine Wp.cond (b := false) rfl ?_
       refine Wp.skip ?_
       refine rg fun KF hKF => ?_
       refine Fo.mov (by simp only [↓nrmL, nrmK, Nat.reduceEqDiff, ↓reduceIte]; rfl) ?_
       refine Fo.bin rfl rfl rfl (by simp only [↓nrmL, nrmZ, Nat.reduceEqDiff, ↓reduceIte, Nat.reduceAdd, Int.reduceBEq, Int.reduceBNe, hc, g1, g2, w1, w2, w3, w4]; rfl) ?_
       refine Fo.mov (rfl : _ = strV _) ?_
       refine Fo.mov (by simp only [↓nrmL, nrmK, Nat.reduceEqDiff, ↓reduceIte]; rfl) ?_
       refine Fo.idxStr (rfl : _ = strV _) rfl ?_ rfl ?_; (focus omega)
       refine Fo.bin rfl rfl rfl (by simp only [↓nrmL, nrmZ, Nat.reduceEqDiff, ↓reduceIte, Nat.reduceAdd, Int.reduceBEq, Int.reduceBNe, hc, g1, g2, w1, w2, w3, w4]; rfl) ?_
       refine Fo.now rfl rfl (by simp only [↓nrmL, nrmZ, Nat.reduceEqDiff, ↓reduceIte, Nat.reduceAdd, Int.reduceBEq, Int.reduceBNe, hc, g1, g2, w1, w2, w3, w4]; rfl) ?_
       refine Fo.bin rfl rfl rfl (by simp only [↓nrmL, nrmZ, Nat.reduceEqDiff, ↓reduceIte, Nat.reduceAdd, Int.reduceBEq, Int.reduceBNe, hc, g1, g2, w1, w2, w3, w4]; rfl) ?_
       refine Fo.mov (by simp only [↓nrmL, nrmK, Nat.reduceEqDiff, ↓reduceIte]; rfl) ?_
       refine WpO.nil (hKF _ _ ?_)
       refine rg fun KF hKF => ?_
       refine Fo.bin rfl rfl rfl rfl ?_
       refine Fo.mov (by simp only [↓nrmL, nrmK, Nat.reduceEqDiff, ↓reduceIte]; rfl) ?_
       refine WpO.nil (hKF _ _ ?_)
       dsimp only [cond_true, cond_false]
       refine ⟨i + 1, by omega, ⟨by simp only [↓nrmL, nrmZ, Nat.reduceEqDiff, ↓reduceIte, Nat.reduceAdd, Int.reduceBEq, Int.reduceBNe]; rw [hw1], by simp only [↓nrmL, nrmZ, Nat.reduceEqDiff, ↓reduceIte, Nat.reduceAdd, Int.reduceBEq, Int.reduceBNe], trivial⟩, hil, by rw [all_take_succ hil, hd, hdi]; rfl, rfl⟩
      ·have hdi : s.all isDig = false := by
        cases ha : s.all isDig
        ·rfl
        ·have := List.all_eq_true.1 ha s[i] (List.getElem_mem hil)
         unfold isDig at this
         rw [g2] at this
         simp at this
       rw [numR_no (by rw [hok, hdi])]
       try simp only [↓nrmL, nrmZ, Nat.reduceEqDiff, ↓reduceIte, Nat.reduceAdd, Int.reduceBEq, Int.reduceBNe, hc, g1, g2]
       refine sq ?_
       refine rg fun KF hKF => ?_
       refine Fo.bin rfl rfl rfl (by simp only [↓nrmL, nrmZ, Nat.reduceEqDiff, ↓reduceIte, Nat.reduceAdd, Int.reduceBEq, Int.reduceBNe, hc, g1, g2]; rfl) ?_
       refine WpO.nil (hKF _ _ ?_)
       refine sq ?_
       refine Wp.cond (b := true) rfl ?_
       refine Wp.skip ?_
       refine sq ?_
       refine Wp.block ?_
       refine sq ?_
       refine rg fun KF hKF => ?_
       refine Fo.mov (by simp only [↓nrmL, nrmK, Nat.reduceEqDiff, ↓reduceIte]; rfl) ?_
       refine Fo.mov (by simp only [↓nrmL, nrmK, Nat.reduceEqDiff, ↓reduceIte]; rfl) ?_
       refine WpO.nil (hKF _ _ ?_)
       refine sq ?_
       refine sq ?_
       refine rg fun KF hKF => ?_
       refine Fo.mov (rfl : _ = strV _) ?_
       refine Fo.mov (by simp only [↓nrmL, nrmK, Nat.reduceEqDiff, ↓reduceIte]; rfl) ?_
       refine Fo.idxStr (rfl : _ = strV _) rfl ?_ rfl ?_; (focus omega)
       refine Fo.bin rfl rfl rfl (by simp only [↓nrmL, nrmZ, Nat.reduceEqDiff, ↓reduceIte, Nat.reduceAdd, Int.reduceBEq, Int.reduceBNe, hc, g1, g2]; rfl) ?_
       refine Fo.mov (by simp only [↓nrmL, nrmK, Nat.reduceEqDiff, ↓reduceIte]; rfl) ?_
       refine Fo.yes rfl rfl ?_
       refine Fo.mov (rfl : _ = strV _) ?_
       refine Fo.yes rfl rfl ?_
       refine Fo.mov (by simp only [↓nrmL, nrmK, Nat.reduceEqDiff, ↓reduceIte]; rfl) ?_
       refine Fo.yes rfl rfl ?_
       refine Fo.idxStr (rfl : _ = strV _) rfl ?_ rfl ?_; (focus omega)
       refine Fo.yes rfl rfl ?_
       refine Fo.bin rfl rfl rfl (by simp only [↓nrmL, nrmZ, Nat.reduceEqDiff, ↓reduceIte, Nat.reduceAdd, Int.reduceBEq, Int.reduceBNe, hc, g1, g2]; rfl) ?_
       refine fB rfl rfl ?_
       refine WpO.nil (hKF _ _ ?_)
       refine Wp.cond (b := true) rfl ?_
       refine sq ?_
       refine rg fun KF hKF => ?_
       refine Fo.mov (by simp only [↓nrmL, nrmK, Nat.reduceEqDiff, ↓reduceIte]; rfl) ?_
       refine Fo.mov (by simp only [↓nrmL, nrmK, Nat.reduceEqDiff, ↓reduceIte]; rfl) ?_
       refine WpO.nil (hKF _ _ ?_)
       refine Wp.ret ?_
       dsimp only [cond_true, cond_false]
       refine ⟨trivial, _, (by first | rfl | exact getAllC rfl rfl rfl rfl | exact getAllT rfl (getAllC rfl rfl rfl rfl) | exact getAllC rfl rfl rfl (getAllC rfl rfl rfl rfl) | exact getAllC1 rfl rfl rfl), ?_⟩
       exact ⟨rfl, Ext0.ext⟩
     ·have hdi : s.all isDig = false := by
       cases ha : s.all isDig
       ·rfl
       ·have := List.all_eq_true.1 ha s[i] (List.getElem_mem hil)
        unfold isDig at this
        rw [g1] at this
        simp at this
      rw [numR_no (by rw [hok, hdi])]
      try simp only [↓nrmL, nrmZ, Nat.reduceEqDiff, ↓reduceIte, Nat.reduceAdd, Int.reduceBEq, Int.reduceBNe, hc, g1]
      refine sq ?_
      refine rg fun KF hKF => ?_
      refine Fo.bin rfl rfl rfl (by simp only [↓nrmL, nrmZ, Nat.reduceEqDiff, ↓reduceIte, Nat.reduceAdd, Int.reduceBEq, Int.reduceBNe, hc, g1]; rfl) ?_
      refine WpO.nil (hKF _ _ ?_)
      refine sq ?_
      refine Wp.cond (b := true) rfl ?_
      refine Wp.skip ?_
      refine sq ?_
      refine Wp.block ?_
      refine sq ?_
      refine rg fun KF hKF => ?_
      refine Fo.mov (by simp only [↓nrmL, nrmK, Nat.reduceEqDiff, ↓reduceIte]; rfl) ?_
      refine Fo.mov (by simp only [↓nrmL, nrmK, Nat.reduceEqDiff, ↓reduceIte]; rfl) ?_
      refine WpO.nil (hKF _ _ ?_)
      refine sq ?_
      refine sq ?_
      refine rg fun KF hKF => ?_
      refine Fo.mov (rfl : _ = strV _) ?_
      refine Fo.mov (by simp only [↓nrmL, nrmK, Nat.reduceEqDiff, ↓reduceIte]; rfl) ?_
      refine Fo.idxStr (rfl : _ = strV _) rfl ?_ rfl ?_; (focus omega)
      refine Fo.bin rfl rfl rfl (by simp only [↓nrmL, nrmZ, Nat.reduceEqDiff, ↓reduceIte, Nat.reduceAdd, Int.reduceBEq, Int.reduceBNe, hc, g1]; rfl) ?_
      refine Fo.mov (by simp only [↓nrmL, nrmK, Nat.reduceEqDiff, ↓reduceIte]; rfl) ?_
      refine Fo.no rfl rfl ?_
      refine Fo.no rfl rfl ?_
      refine Fo.no rfl rfl ?_
      refine Fo.no rfl rfl ?_
      refine tB rfl rfl ?_
      refine WpO.nil (hKF _ _ ?_)
      refine Wp.cond (b := true) rfl ?_
      refine sq ?_
      refine rg fun KF hKF => ?_
      refine Fo.mov (by simp only [↓nrmL, nrmK, Nat.reduceEqDiff, ↓reduceIte]; rfl) ?_
      refine Fo.mov (by simp only [↓nrmL, nrmK, Nat.reduceEqDiff, ↓reduceIte]; rfl) ?_
      refine WpO.nil (hKF _ _ ?_)
      refine Wp.ret ?_
      dsimp only [cond_true, cond_false]
      refine ⟨trivial, _, (by first | rfl | exact getAllC rfl rfl rfl rfl | exact getAllT rfl (getAllC rfl rfl rfl rfl) | exact getAllC rfl rfl rfl (getAllC rfl rfl rfl rfl) | exact getAllC1 rfl rfl rfl), ?_⟩
      exact ⟨rfl, Ext0.ext⟩
   ·have h4 : decide (((s.length : Nat) : Int) > 1) = false := by rw [h3] at h2; simpa using h2
    try simp only [↓nrmL, nrmZ, Nat.reduceEqDiff, ↓reduceIte, Nat.reduceAdd, Int.reduceBEq, Int.reduceBNe, e0, e1, h1, h3, h4]
    refine sq ?_
    refine rg fun KF hKF => ?_
    refine Fo.mov (by simp only [↓nrmL, nrmK, Nat.reduceEqDiff, ↓reduceIte]; rfl) ?_
    refine Fo.mov (by simp only [↓nrmL, nrmK, Nat.reduceEqDiff, ↓reduceIte]; rfl) ?_
    refine WpO.nil (hKF _ _ ?_)
    refine sq ?_
    refine sq ?_
    refine rg fun KF hKF => ?_
    refine Fo.mov (rfl : _ = strV _) ?_
    refine Fo.eqStr rfl rfl (by simp only [↓nrmL, nrmZ, Nat.reduceEqDiff, ↓reduceIte, Nat.reduceAdd, Int.reduceBEq, Int.reduceBNe, e0, e1, h1, h3, h4]; rfl) ?_
    refine Fo.mov (by simp only [↓nrmL, nrmK, Nat.reduceEqDiff, ↓reduceIte]; rfl) ?_
    refine Fo.yes rfl rfl ?_
    refine Fo.mov (rfl : _ = strV _) ?_
    refine Fo.yes rfl rfl ?_
    refine Fo.lenStr (rfl : _ = strV _) rfl ?_
    refine Fo.yes rfl rfl ?_
    refine Fo.bin rfl rfl rfl (by simp only [↓nrmL, nrmZ, Nat.reduceEqDiff, ↓reduceIte, Nat.reduceAdd, Int.reduceBEq, Int.reduceBNe, e0, e1, h1, h3, h4]; rfl) ?_
    refine fB rfl rfl ?_
    refine Fo.mov (by simp only [↓nrmL, nrmK, Nat.reduceEqDiff, ↓reduceIte]; rfl) ?_
    refine Fo.yes rfl rfl ?_
    refine Fo.mov (rfl : _ = strV _) ?_
    refine Fo.yes rfl rfl ?_
    refine Fo.idxStr (rfl : _ = strV _) rfl ?_ (by simp only [↓nrmL, nrmZ, Nat.reduceEqDiff, ↓reduceIte, Nat.reduceAdd, Int.reduceBEq, Int.reduceBNe, e0, e1, h1, h3, h4]; rfl) ?_; (focus omega)
    refine Fo.yes rfl rfl ?_
    refine Fo.bin rfl rfl rfl (by simp only [↓nrmL, nrmZ, Nat.reduceEqDiff, ↓reduceIte, Nat.reduceAdd, Int.reduceBEq, Int.reduceBNe, e0, e1, h1, h3, h4]; rfl) ?_
    refine Fo.yes rfl rfl ?_
    refine Fo.mov (by simp only [↓nrmL, nrmK, Nat.reduceEqDiff, ↓reduceIte]; rfl) ?_
    refine Fo.yes rfl rfl ?_
    refine Fo.mov (rfl : _ = strV _) ?_
    refine Fo.yes rfl rfl ?_
    refine Fo.lenStr (rfl : _ = strV _) rfl ?_
    refine Fo.yes rfl rfl ?_
    refine Fo.bin rfl rfl rfl (by simp only [↓nrmL, nrmZ, Nat.reduceEqDiff, ↓reduceIte, Nat.reduceAdd, Int.reduceBEq, Int.reduceBNe, e0, e1, h1, h3, h4]; rfl) ?_
    refine Fo.yes rfl rfl ?_
    refine tB rfl rfl ?_
    refine fB rfl rfl ?_
    refine WpO.nil (hKF _ _ ?_)
    refine Wp.cond (b := false) rfl ?_
    refine Wp.skip ?_
    refine sq ?_
    refine rg fun KF hKF => ?_
    refine Fo.mov (by simp only [↓nrmL, nrmK, Nat.reduceEqDiff, ↓reduceIte]; rfl) ?_
    refine WpO.nil (hKF _ _ ?_)
    refine sq ?_
    refine sq ?_
    refine rg fun KF hKF => ?_
    refine Fo.mov (rfl : _ = strV _) ?_
    refine Fo.lenStr (rfl : _ = strV _) rfl ?_
    refine Fo.mov (by simp only [↓nrmL, nrmK, Nat.reduceEqDiff, ↓reduceIte]; rfl) ?_
    refine WpO.nil (hKF _ _ ?_)
    refine Wp.block ?_
    dsimp only [cond_true, cond_false]
    refine Wp.loopS [2, 3, 4, 5, 25, 26, 27, 28, 29, 30, 31, 32, 33, 34, 35, 36, 37, 38, 39, 40, 41, 42, 43, 44, 45, 46] (fun i : Nat => [(25, .int .i64 i), (4, .int .i64 (valD (s.take i) : Nat))]) (fun H3 i H2 => i ≤ s.length ∧ (s.take i).all isDig = true ∧ H2 = H3) (fun i => s.length - i) 0 rfl (fun _ => rfl) ⟨rfl, rfl, trivial⟩ ⟨Nat.zero_le _, rfl, rfl⟩ (by unfold fuel0 at hn; omega) ?_
    rintro i g H2 ⟨hi, hd, rfl⟩
    simp only [↓nrmL, nrmZ, Nat.reduceEqDiff, ↓reduceIte, Nat.reduceAdd, Int.reduceBEq, Int.reduceBNe]
    cases hc : decide ((i : Int) < (s.length : Int))
    ·have hil : i = s.length := by have := of_decide_eq_false hc; omega
     rw [hil, List.take_length] at hd
     rw [numR_ok (by rw [hok, hd])]
     have ht : s.take i = s := by rw [hil, List.take_length]
     try simp only [↓nrmL, nrmZ, Nat.reduceEqDiff, ↓reduceIte, Nat.reduceAdd, Int.reduceBEq, Int.reduceBNe, hc, ht]
     refine sq ?_
     refine rg fun KF hKF => ?_
     refine Fo.bin rfl rfl rfl (by simp only [↓nrmL, nrmZ, Nat.reduceEqDiff, ↓reduceIte, Nat.reduceAdd, Int.reduceBEq, Int.reduceBNe, hc, ht]; rfl) ?_
     refine WpO.nil (hKF _ _ ?_)
     refine sq ?_
     refine Wp.cond (b := false) rfl ?_
     refine Wp.exit ?_
     refine sq ?_
     refine rg fun KF hKF => ?_
     refine Fo.mov (by simp only [↓nrmL, nrmK, Nat.reduceEqDiff, ↓reduceIte]; rfl) ?_
     refine Fo.mov (by simp only [↓nrmL, nrmK, Nat.reduceEqDiff, ↓reduceIte]; rfl) ?_
     refine Fo.mov (by simp only [↓nrmL, nrmK, Nat.reduceEqDiff, ↓reduceIte]; rfl) ?_
     refine WpO.nil (hKF _ _ ?_)
     refine Wp.ret ?_
     dsimp only [cond_true, cond_false]
     refine ⟨trivial, _, (by first | rfl | exact getAllC rfl rfl rfl rfl | exact getAllT rfl (getAllC rfl rfl rfl rfl) | exact getAllC rfl rfl rfl (getAllC rfl rfl rfl rfl) | exact getAllC1 rfl rfl rfl), ?_⟩
     exact ⟨rfl, Ext0.ext⟩
    ·have hil : i < s.length := by have := of_decide_eq_true hc; omega
     have hw1 := wa1 (a := i) (by omega)
     have hlen : (s.take i).length ≤ 9 := by rw [List.length_take]; omega
     have hb := valD_bound hlen hd
     cases g1 : decide ((s[i].toNat : Int) < 48)
     ·skip
      cases g2 : decide ((s[i].toNat : Int) > 57)
      ·skip
       have hdi : isDig s[i] = true := by unfold isDig; rw [g1, g2]; rfl
       have hr := isDig_iff.1 hdi
       have w1 : IntKind.i64.wrap (10 * ((valD (s.take i) : Nat) : Int)) = ((10 * valD (s.take i) : Nat) : Int) := by rw [w64 (by omega)]; omega
       have w2 := wsub8 hr
       have w3 : IntKind.i64.wrap ((s[i].toNat - 48 : Nat) : Int) = ((s[i].toNat - 48 : Nat) : Int) := w64 (by omega)
       have w4 : IntKind.i64.wrap (((10 * valD (s.take i) : Nat) : Int) + ((s[i].toNat - 48 : Nat) : Int)) = ((valD (s.take (i + 1)) : Nat) : Int) := by rw [valD_take_succ hil, w64 (by omega)]; omega
       try simp only [↓nrmL, nrmZ, Nat.reduceEqDiff, ↓reduceIte, Nat.reduceAdd, Int.reduceBEq, Int.reduceBNe, hc, g1, g2, w1, w2, w3, w4]
       refine sq ?_
       refine rg fun KF hKF => ?_
       refine Fo.bin rfl rfl rfl (by simp only [↓nrmL, nrmZ, Nat.reduceEqDiff, ↓reduceIte, Nat.reduceAdd, Int.reduceBEq, Int.reduceBNe, hc, g1, g2, w1, w2, w3, w4]; rfl) ?_
       refine WpO.nil (hKF _ _ ?_)
       refine sq ?_
       refine Wp.cond (b := true) rfl ?_
       refine Wp.skip ?_
       refine sq ?_
       refine Wp.block ?_
       refine sq ?_
       refine rg fun KF hKF => ?_
       refine Fo.mov (by simp only [↓nrmL, nrmK, Nat.reduceEqDiff, ↓reduceIte]; rfl) ?_
       refine Fo.mov (by simp only [↓nrmL, nrmK, Nat.reduceEqDiff, ↓reduceIte]; rfl) ?_
       refine WpO.nil (hKF _ _ ?_)
       refine sq ?_
       refine sq ?_
       refine rg fun KF hKF => ?_
       refine Fo.mov (rfl : _ = strV _) ?_
       refine Fo.mov (by simp only [↓nrmL, nrmK, Nat.reduceEqDiff, ↓reduceIte]; rfl) ?_
       refine Fo.idxStr (rfl : _ = strV _) rfl ?_ rfl ?_; (focus omega)
       refine Fo.bin rfl rfl rfl (by simp only [↓nrmL, nrmZ, Nat.reduceEqDiff, ↓reduceIte, Nat.reduceAdd, Int.reduceBEq, Int.reduceBNe, hc, g1, g2, w1, w2, w3, w4]; rfl) ?_
       refine Fo.mov (by simp only [↓nrmL, nrmK, Nat.reduceEqDiff, ↓reduceIte]; rfl) ?_
       refine Fo.yes rfl rfl ?_
       refine Fo.mov (rfl : _ = strV _) ?_
       refine Fo.yes rfl rfl ?_
       refine Fo.mov (by simp only [↓nrmL, nrmK, Nat.reduceEqDiff, ↓reduceIte]; rfl) ?_
       refine Fo.yes rfl rfl ?_
       refine Fo.idxStr (rfl : _ = strV _) rfl ?_ rfl ?_; (focus omega)
       refine Fo.yes rfl rfl ?_
       refine Fo.bin rfl rfl rfl (by simp only [↓nrmL, nrmZ, Nat.reduceEqDiff, ↓reduceIte, Nat.reduceAdd, Int.reduceBEq, Int.reduceBNe, hc, g1, g2, w1, w2, w3, w4]; rfl) ?_
       refine fB rfl rfl ?_
       refine WpO.nil (hKF _ _ ?_)
       refine Wp.cond (b := false) rfl ?_
       refine Wp.skip ?_
       refine rg fun KF hKF => ?_
       refine Fo.mov (by simp only [↓nrmL, nrmK, Nat.reduceEqDiff, ↓reduceIte]; rfl) ?_
       refine Fo.bin rfl rfl rfl (by simp only [↓nrmL, nrmZ, Nat.reduceEqDiff, ↓reduceIte, Nat.reduceAdd, Int.reduceBEq, Int.reduceBNe, hc, g1, g2, w1, w2, w3, w4]; rfl) ?_
       refine Fo.mov (rfl : _ = strV _) ?_
       refine Fo.mov (by simp only [↓nrmL, nrmK, Nat.reduceEqDiff, ↓reduceIte]; rfl) ?_
       refine Fo.idxStr (rfl : _ = strV _) rfl ?_ rfl ?_; (focus omega)
       refine Fo.bin rfl rfl rfl (by simp only [↓nrmL, nrmZ, Nat.reduceEqDiff, ↓reduceIte, Nat.reduceAdd, Int.reduceBEq, Int.reduceBNe, hc, g1, g2, w1, w2, w3, w4]; rfl) ?_
       refine Fo.now rfl rfl (by simp only [↓nrmL, nrmZ, Nat.reduceEqDiff, ↓reduceIte, Nat.reduceAdd, Int.reduceBEq, Int.reduceBNe, hc, g1, g2, w1, w2, w3, w4]; rfl) ?_
       refine Fo.bin rfl rfl rfl (by simp only [↓nrmL, nrmZ, Nat.reduceEqDiff, ↓reduceIte, Nat.reduceAdd, Int.reduceBEq, Int.reduceBNe, hc, g1, g2, w1, w2, w3, w4]; rfl) ?_
       refine Fo.mov (by simp only [↓nrmL, nrmK, Nat.reduceEqDiff, ↓reduceIte]; rfl) ?_
       refine WpO.nil (hKF _ _ ?_)
       refine rg fun KF hKF => ?_
       refine Fo.bin rfl rfl rfl rfl ?_
       refine Fo.mov (by simp only [↓nrmL, nrmK, Nat.reduceEqDiff, ↓reduceIte]; rfl) ?_
       refine WpO.nil (hKF _ _ ?_)
       dsimp only [cond_true, cond_false]
       refine ⟨i + 1, by omega, ⟨by simp only [↓nrmL, nrmZ, Nat.reduceEqDiff, ↓reduceIte, Nat.reduceAdd, Int.reduceBEq, Int.reduceBNe]; rw [hw1], by simp only [↓nrmL, nrmZ, Nat.reduceEqDiff, ↓reduceIte, Nat.reduceAdd, Int.reduceBEq, Int.reduceBNe], trivial⟩, hil, by rw [all_take_succ hil, hd, hdi]; rfl, rfl⟩
      ·have hdi : s.all isDig = false := by
        cases ha : s.all isDig
        ·rfl
        ·have := List.all_eq_true.1 ha s[i] (List.getElem_mem hil)
         unfold isDig at this
         rw [g2] at this
         simp at this
       rw [numR_no (by rw [hok, hdi])]
       try simp only [↓nrmL, nrmZ, Nat.reduceEqDiff, ↓reduceIte, Nat.reduceAdd, Int.reduceBEq, Int.reduceBNe, hc, g1, g2]
       refine sq ?_
       refine rg fun KF hKF => ?_
       refine Fo.bin rfl rfl rfl (by simp only [↓nrmL, nrmZ, Nat.reduceEqDiff, ↓reduceIte, Nat.reduceAdd, Int.reduceBEq, Int.reduceBNe, hc, g1, g2]; rfl) ?_
       refine WpO.nil (hKF _ _ ?_)
       refine sq ?_
       refine Wp.cond (b := true) rfl ?_
       refine Wp.skip ?_
       refine sq ?_
       refine Wp.block ?_
       refine sq ?_
       refine rg fun KF hKF => ?_
       refine Fo.mov (by simp only [↓nrmL, nrmK, Nat.reduceEqDiff, ↓reduceIte]; rfl) ?_
       refine Fo.mov (by simp only [↓nrmL, nrmK, Nat.reduceEqDiff, ↓reduceIte]; rfl) ?_
       refine WpO.nil (hKF _ _ ?_)
       refine sq ?_
       refine sq ?_
       refine rg fun KF hKF => ?_
       refine Fo.mov (rfl : _ = strV _) ?_
       refine Fo.mov (by simp only [↓nrmL, nrmK, Nat.reduceEqDiff, ↓reduceIte]; rfl) ?_
       refine Fo.idxStr (rfl : _ = strV _) rfl ?_ rfl ?_; (focus omega)
       refine Fo.bin rfl rfl rfl (by simp only [↓nrmL, nrmZ, Nat.reduceEqDiff, ↓reduceIte, Nat.reduceAdd, Int.reduceBEq, Int.reduceBNe, hc, g1, g2]; rfl) ?_
       refine Fo.mov (by simp only [↓nrmL, nrmK, Nat.reduceEqDiff, ↓reduceIte]; rfl) ?_
       refine Fo.yes rfl rfl ?_
       refine Fo.mov (rfl : _ = strV _) ?_
       refine Fo.yes rfl rfl ?_
       refine Fo.mov (by simp only [↓nrmL, nrmK, Nat.reduceEqDiff, ↓reduceIte]; rfl) ?_
       refine Fo.yes rfl rfl ?_
       refine Fo.idxStr (rfl : _ = strV _) rfl ?_ rfl ?_; (focus omega)
       refine Fo.yes rfl rfl ?_
       refine Fo.bin rfl rfl rfl (by simp only [↓nrmL, nrmZ, Nat.reduceEqDiff, ↓reduceIte, Nat.reduceAdd, Int.reduceBEq, Int.reduceBNe, hc, g1, g2]; rfl) ?_
       refine fB rfl rfl ?_
       refine WpO.nil (hKF _ _ ?_)
       refine Wp.cond (b := true) rfl ?_
       refine sq ?_
       refine rg fun KF hKF => ?_
       refine Fo.mov (by simp only [↓nrmL, nrmK, Nat.reduceEqDiff, ↓reduceIte]; rfl) ?_
       refine Fo.mov (by simp only [↓nrmL, nrmK, Nat.reduceEqDiff, ↓reduceIte]; rfl) ?_
       refine WpO.nil (hKF _ _ ?_)
       refine Wp.ret ?_
       dsimp only [cond_true, cond_false]
       refine ⟨trivial, _, (by first | rfl | exact getAllC rfl rfl rfl rfl | exact getAllT rfl (getAllC rfl rfl rfl rfl) | exact getAllC rfl rfl rfl (getAllC rfl rfl rfl rfl) | exact getAllC1 rfl rfl rfl), ?_⟩
       exact ⟨rfl, Ext0.ext⟩
     ·have hdi : s.all isDig = false := by
       cases ha : s.all isDig
       ·rfl
       ·have := List.all_eq_true.1 ha s[i] (List.getElem_mem hil)
        unfold isDig at this
        rw [g1] at this
        simp at this
      rw [numR_no (by rw [hok, hdi])]
      try simp only [↓nrmL, nrmZ, Nat.reduceEqDiff, ↓reduceIte, Nat.reduceAdd, Int.reduceBEq, Int.reduceBNe, hc, g1]
      refine sq ?_
      refine rg fun KF hKF => ?_
      refine Fo.bin rfl rfl rfl (by simp only [↓nrmL, nrmZ, Nat.reduceEqDiff, ↓reduceIte, Nat.reduceAdd, Int.reduceBEq, Int.reduceBNe, hc, g1]; rfl) ?_
      refine WpO.nil (hKF _ _ ?_)
      refine sq ?_
      refine Wp.cond (b := true) rfl ?_
      refine Wp.skip ?_
      refine sq ?_
      refine Wp.block ?_
      refine sq ?_
      refine rg fun KF hKF => ?_
      refine Fo.mov (by simp only [↓nrmL, nrmK, Nat.reduceEqDiff, ↓reduceIte]; rfl) ?_
      refine Fo.mov (by simp only [↓nrmL, nrmK, Nat.reduceEqDiff, ↓reduceIte]; rfl) ?_
      refine WpO.nil (hKF _ _ ?_)
      refine sq ?_
      refine sq ?_
      refine rg fun KF hKF => ?_
      refine Fo.mov (rfl : _ = strV _) ?_
      refine Fo.mov (by simp only [↓nrmL, nrmK, Nat.reduceEqDiff, ↓reduceIte]; rfl) ?_
      refine Fo.idxStr (rfl : _ = strV _) rfl ?_ rfl ?_; (focus omega)
      refine Fo.bin rfl rfl rfl (by simp only [↓nrmL, nrmZ, Nat.reduceEqDiff, ↓reduceIte, Nat.reduceAdd, Int.reduceBEq, Int.reduceBNe, hc, g1]; rfl) ?_
      refine Fo.mov (by simp only [↓nrmL, nrmK, Nat.reduceEqDiff, ↓reduceIte]; rfl) ?_
      refine Fo.no rfl rfl ?_
      refine Fo.no rfl rfl ?_
      refine Fo.no rfl rfl ?_
      refine Fo.no rfl rfl ?_
      refine tB rfl rfl ?_
      refine WpO.nil (hKF _ _ ?_)
      refine Wp.cond (b := true) rfl ?_
      refine sq ?_
      refine rg fun KF hKF => ?_
      refine Fo.mov (by simp only [↓nrmL, nrmK, Nat.reduceEqDiff, ↓reduceIte]; rfl) ?_
      refine Fo.mov (by simp only [↓nrmL, nrmK, Nat.reduceEqDiff, ↓reduceIte]; rfl) ?_
      refine WpO.nil (hKF _ _ ?_)
      refine Wp.ret ?_
      dsimp only [cond_true, cond_false]
      refine ⟨trivial, _, (by first | rfl | exact getAllC rfl rfl rfl rfl | exact getAllT rfl (getAllC rfl rfl rfl rfl) | exact getAllC rfl rfl rfl (getAllC rfl rfl rfl rfl) | exact getAllC1 rfl rfl rfl), ?_⟩
      exact ⟨rfl, Ext0.ext⟩
  ·rw [Bool.and_eq_true] at h2
   have h3 := h2.1
   have h4 := h2.2
   rw [numR_no (by have h1' := h1; have h4' := h4; rw [hs] at h1' h4' ⊢; rw [numOk_cons, h1', h3, h4']; rfl)]
   try simp only [↓nrmL, nrmZ, Nat.reduceEqDiff, ↓reduceIte, Nat.reduceAdd, Int.reduceBEq, Int.reduceBNe, e0, e1, h1, h3, h4]
   refine sq ?_
   refine rg fun KF hKF => ?_
   refine Fo.mov (by simp only [↓nrmL, nrmK, Nat.reduceEqDiff, ↓reduceIte]; rfl) ?_
   refine Fo.mov (by simp only [↓nrmL, nrmK, Nat.reduceEqDiff, ↓reduceIte]; rfl) ?_
   refine WpO.nil (hKF _ _ ?_)
   refine sq ?_
   refine sq ?_
   refine rg fun KF hKF => ?_
   refine Fo.mov (rfl : _ = strV _) ?_
   refine Fo.eqStr rfl rfl (by simp only [↓nrmL, nrmZ, Nat.reduceEqDiff, ↓reduceIte, Nat.reduceAdd, Int.reduceBEq, Int.reduceBNe, e0, e1, h1, h3, h4]; rfl) ?_
   refine Fo.mov (by simp only [↓nrmL, nrmK, Nat.reduceEqDiff, ↓reduceIte]; rfl) ?_
   refine Fo.yes rfl rfl ?_
   refine Fo.mov (rfl : _ = strV _) ?_
   refine Fo.yes rfl rfl ?_
   refine Fo.lenStr (rfl : _ = strV _) rfl ?_
   refine Fo.yes rfl rfl ?_
   refine Fo.bin rfl rfl rfl (by simp only [↓nrmL, nrmZ, Nat.reduceEqDiff, ↓reduceIte, Nat.reduceAdd, Int.reduceBEq, Int.reduceBNe, e0, e1, h1, h3, h4]; rfl) ?_
   refine fB rfl rfl ?_
   refine Fo.mov (by simp only [↓nrmL, nrmK, Nat.reduceEqDiff, ↓reduceIte]; rfl) ?_
   refine Fo.yes rfl rfl ?_
   refine Fo.mov (rfl : _ = strV _) ?_
   refine Fo.yes rfl rfl ?_
   refine Fo.idxStr (rfl : _ = strV _) rfl ?_ (by simp only [↓nrmL, nrmZ, Nat.reduceEqDiff, ↓reduceIte, Nat.reduceAdd, Int.reduceBEq, Int.reduceBNe, e0, e1, h1, h3, h4]; rfl) ?_; (focus omega)
   refine Fo.yes rfl rfl ?_
   refine Fo.bin rfl rfl rfl (by simp only [↓nrmL, nrmZ, Nat.reduceEqDiff, ↓reduceIte, Nat.reduceAdd, Int.reduceBEq, Int.reduceBNe, e0, e1, h1, h3, h4]; rfl) ?_
   refine Fo.yes rfl rfl ?_
   refine Fo.mov (by simp only [↓nrmL, nrmK, Nat.reduceEqDiff, ↓reduceIte]; rfl) ?_
   refine Fo.yes rfl rfl ?_
   refine Fo.mov (rfl : _ = strV _) ?_
   refine Fo.yes rfl rfl ?_
   refine Fo.lenStr (rfl : _ = strV _) rfl ?_
   refine Fo.yes rfl rfl ?_
   refine Fo.bin rfl rfl rfl (by simp only [↓nrmL, nrmZ, Nat.reduceEqDiff, ↓reduceIte, Nat.reduceAdd, Int.reduceBEq, Int.reduceBNe, e0, e1, h1, h3, h4]; rfl) ?_
   refine Fo.yes rfl rfl ?_
   refine tB rfl rfl ?_
   refine fB rfl rfl ?_
   refine WpO.nil (hKF _ _ ?_)
   refine Wp.cond (b := true) rfl ?_
   refine sq ?_
   refine rg fun KF hKF => ?_
   refine Fo.mov (by simp only [↓nrmL, nrmK, Nat.reduceEqDiff, ↓reduceIte]; rfl) ?_
   refine Fo.mov (by simp only [↓nrmL, nrmK, Nat.reduceEqDiff, ↓reduceIte]; rfl) ?_
   refine WpO.nil (hKF _ _ ?_)
   refine Wp.ret ?_
   dsimp only [cond_true, cond_false]
   refine ⟨trivial, _, (by first | rfl | exact getAllC rfl rfl rfl rfl | exact getAllT rfl (getAllC rfl rfl rfl rfl) | exact getAllC rfl rfl rfl (getAllC rfl rfl rfl rfl) | exact getAllC1 rfl rfl rfl), ?_⟩
   exact ⟨rfl, Ext0.ext⟩
 ·rw [numR_no (by have h1' := h1; rw [hs] at h1' ⊢; rw [numOk_cons, h1']; rfl)]
  try simp only [↓nrmL, nrmZ, Nat.reduceEqDiff, ↓reduceIte, Nat.reduceAdd, Int.reduceBEq, Int.reduceBNe, e0, e1, h1]
  refine sq ?_
  refine rg fun KF hKF => ?_
  refine Fo.mov (by simp only [↓nrmL, nrmK, Nat.reduceEqDiff, ↓reduceIte]; rfl) ?_
  refine Fo.mov (by simp only [↓nrmL, nrmK, Nat.reduceEqDiff, ↓reduceIte]; rfl) ?_
  refine WpO.nil (hKF _ _ ?_)
  refine sq ?_
  refine sq ?_
  refine rg fun KF hKF => ?_
  refine Fo.mov (rfl : _ = strV _) ?_
  refine Fo.eqStr rfl rfl (by simp only [↓nrmL, nrmZ, Nat.reduceEqDiff, ↓reduceIte, Nat.reduceAdd, Int.reduceBEq, Int.reduceBNe, e0, e1, h1]; rfl) ?_
  refine Fo.mov (by simp only [↓nrmL, nrmK, Nat.reduceEqDiff, ↓reduceIte]; rfl) ?_
  refine Fo.yes rfl rfl ?_
  refine Fo.mov (rfl : _ = strV _) ?_
  refine Fo.yes rfl rfl ?_
  refine Fo.lenStr (rfl : _ = strV _) rfl ?_
  refine Fo.yes rfl rfl ?_
  refine Fo.bin rfl rfl rfl (by simp only [↓nrmL, nrmZ, Nat.reduceEqDiff, ↓reduceIte, Nat.reduceAdd, Int.reduceBEq, Int.reduceBNe, e0, e1, h1]; rfl) ?_
  refine fB rfl rfl ?_
  refine Fo.mov (by simp only [↓nrmL, nrmK, Nat.reduceEqDiff, ↓reduceIte]; rfl) ?_
  refine Fo.no rfl rfl ?_
  refine Fo.no rfl rfl ?_
  refine Fo.no rfl rfl ?_
  refine Fo.no rfl rfl ?_
  refine Fo.noU rfl ?_
  refine Fo.noU rfl ?_
  refine Fo.noU rfl ?_
  refine Fo.no rfl rfl ?_
  refine tB rfl rfl ?_
  refine WpO.nil (hKF _ _ ?_)
  refine Wp.cond (b := true) rfl ?_
  refine sq ?_
  refine rg fun KF hKF => ?_
  refine Fo.mov (by simp only [↓nrmL, nrmK, Nat.reduceEqDiff, ↓reduceIte]; rfl) ?_
  refine Fo.mov (by simp only [↓nrmL, nrmK, Nat.reduceEqDiff, ↓reduceIte]; rfl) ?_
  refine WpO.nil (hKF _ _ ?_)
  refine Wp.ret ?_
  dsimp only [cond_true, cond_false]
  refine ⟨trivial, _, (by first | rfl | exact getAllC rfl rfl rfl rfl | exact getAllT rfl (getAllC rfl rfl rfl rfl) | exact getAllC rfl rfl rfl (getAllC rfl rfl rfl rfl) | exact getAllC1 rfl rfl rfl), ?_⟩
  exact ⟨rfl, Ext0.ext⟩⟩
end Go.Am
