import Derived.Test.YtlbgcpmiedjmoaaDoorAmBC
import Derived.Test.YtlbgcpmiedjmoaaDoorProg
import Derived.Test.YtlbgcpmiedjmoaaDoorCards
import Derived.Test.YtlbgcpmiedjmoaaDoorTie
import Derived.WalkKit
import Derived.ProofKit
import Derived.OpenShut
import Derived.Deep.DeepHandedRow
import Derived.Lib.LaidTab
set_option linter.unusedSimpArgs false
set_option linter.unusedVariables false
/- The table of functions is right. -/
set_option maxRecDepth 100000
set_option maxHeartbeats 4000000
namespace Go.Am
open Go Go.Proofs
theorem ext_of {P : Program} {e e' : Exts} {f : FuncId} {k : Nat} (h : ExtSim P e f k) (hk : e' k = e k) : ExtSim P e' f k := fun S args H v H' m w vargs hG hx => h S args H v H' m w vargs hG (by rw [← hk]; exact hx)
theorem k4 : cFunc Tryd.prog Tryd.f4 = some c4 := by kernel_rfl
theorem k18 : cFunc Tryd.prog Tryd.f18 = some c18 := by kernel_rfl
theorem k19 : cFunc Tryd.prog Tryd.f19 = some c19 := by kernel_rfl
theorem k20 : cFunc Tryd.prog Tryd.f20 = some c20 := by kernel_rfl
theorem k21 : cFunc Tryd.prog Tryd.f21 = some c21 := by kernel_rfl
theorem k26 : cFunc Tryd.prog Tryd.f26 = some c26 := by kernel_rfl
theorem k27 : cFunc Tryd.prog Tryd.f27 = some c27 := by kernel_rfl
theorem k32 : cFunc Tryd.prog Tryd.f32 = some c32 := by kernel_rfl
theorem k35 : cFunc Tryd.prog Tryd.f35 = some c35 := by kernel_rfl
theorem k37 : cFunc Tryd.prog Tryd.f37 = some c37 := by kernel_rfl
theorem k44 : cFunc Tryd.prog Tryd.f44 = some c44 := by kernel_rfl
theorem k60 : cFunc Tryd.prog Tryd.f60 = some c60 := by kernel_rfl
theorem k70 : cFunc Tryd.prog Tryd.f70 = some c70 := by kernel_rfl
theorem k72 : cFunc Tryd.prog Tryd.f72 = some c72 := by kernel_rfl
theorem k77 : cFunc Tryd.prog Tryd.f77 = some c77 := by kernel_rfl
theorem k82 : cFunc Tryd.prog Tryd.f82 = some c82 := by kernel_rfl
theorem k83 : cFunc Tryd.prog Tryd.f83 = some c83 := by kernel_rfl
theorem k85 : cFunc Tryd.prog Tryd.f85 = some c85 := by kernel_rfl
theorem k86 : cFunc Tryd.prog Tryd.f86 = some c86 := by kernel_rfl
theorem k87 : cFunc Tryd.prog Tryd.f87 = some c87 := by kernel_rfl
theorem k92 : cFunc Tryd.prog Tryd.f92 = some c92 := by kernel_rfl
theorem k93 : cFunc Tryd.prog Tryd.f93 = some c93 := by kernel_rfl
theorem k94 : cFunc Tryd.prog Tryd.f94 = some c94 := by kernel_rfl
theorem k95 : cFunc Tryd.prog Tryd.f95 = some c95 := by kernel_rfl
theorem k96 : cFunc Tryd.prog Tryd.f96 = some c96 := by kernel_rfl
theorem k97 : cFunc Tryd.prog Tryd.f97 = some c97 := by kernel_rfl
theorem k98 : cFunc Tryd.prog Tryd.f98 = some c98 := by kernel_rfl
theorem k100 : cFunc Tryd.prog Tryd.f100 = some c100 := by kernel_rfl
theorem k101 : cFunc Tryd.prog Tryd.f101 = some c101 := by kernel_rfl
theorem k102 : cFunc Tryd.prog Tryd.f102 = some c102 := by kernel_rfl
theorem k103 : cFunc Tryd.prog Tryd.f103 = some c103 := by kernel_rfl
theorem k104 : cFunc Tryd.prog Tryd.f104 = some c104 := by kernel_rfl
theorem k105 : cFunc Tryd.prog Tryd.f105 = some c105 := by kernel_rfl
theorem k106 : cFunc Tryd.prog Tryd.f106 = some c106 := by kernel_rfl
theorem k107 : cFunc Tryd.prog Tryd.f107 = some c107 := by kernel_rfl
theorem k108 : cFunc Tryd.prog Tryd.f108 = some c108 := by kernel_rfl
theorem k109 : cFunc Tryd.prog Tryd.f109 = some c109 := by kernel_rfl
theorem k111 : cFunc Tryd.prog Tryd.f111 = some c111 := by kernel_rfl
theorem k112 : cFunc Tryd.prog Tryd.f112 = some c112 := by kernel_rfl
theorem k113 : cFunc Tryd.prog Tryd.f113 = some c113 := by kernel_rfl
theorem k118 : cFunc Tryd.prog Tryd.f118 = some c118 := by kernel_rfl
theorem k121 : cFunc Tryd.prog Tryd.f121 = some c121 := by kernel_rfl
theorem k122 : cFunc Tryd.prog Tryd.f122 = some c122 := by kernel_rfl
theorem k126 : cFunc Tryd.prog Tryd.f126 = some c126 := by kernel_rfl
theorem k127 : cFunc Tryd.prog Tryd.f127 = some c127 := by kernel_rfl
theorem k128 : cFunc Tryd.prog Tryd.f128 = some c128 := by kernel_rfl
theorem k129 : cFunc Tryd.prog Tryd.f129 = some c129 := by kernel_rfl
theorem k130 : cFunc Tryd.prog Tryd.f130 = some c130 := by kernel_rfl
theorem k132 : cFunc Tryd.prog Tryd.f132 = some c132 := by kernel_rfl
theorem k133 : cFunc Tryd.prog Tryd.f133 = some c133 := by kernel_rfl
theorem k134 : cFunc Tryd.prog Tryd.f134 = some c134 := by kernel_rfl
theorem k135 : cFunc Tryd.prog Tryd.f135 = some c135 := by kernel_rfl
theorem k142 : cFunc Tryd.prog Tryd.f142 = some c142 := by kernel_rfl
theorem k143 : cFunc Tryd.prog Tryd.f143 = some c143 := by kernel_rfl
theorem k146 : cFunc Tryd.prog Tryd.f146 = some c146 := by kernel_rfl
theorem k147 : cFunc Tryd.prog Tryd.f147 = some c147 := by kernel_rfl
theorem k148 : cFunc Tryd.prog Tryd.f148 = some c148 := by kernel_rfl
theorem k149 : cFunc Tryd.prog Tryd.f149 = some c149 := by kernel_rfl
theorem k152 : cFunc Tryd.prog Tryd.f152 = some c152 := by kernel_rfl
theorem k153 : cFunc Tryd.prog Tryd.f153 = some c153 := by kernel_rfl
theorem k154 : ExtSim Tryd.prog ext 154 0 := ext_count rfl Tryd.func154 (by kernel_rfl) (by kernel_rfl) (by kernel_rfl) (by kernel_rfl)
theorem k155 : cFunc Tryd.prog Tryd.f155 = some c155 := by kernel_rfl
theorem k156 : cFunc Tryd.prog Tryd.f156 = some c156 := by kernel_rfl
theorem k157 : cFunc Tryd.prog Tryd.f157 = some c157 := by kernel_rfl
theorem k160 : cFunc Tryd.prog Tryd.f160 = some c160 := by kernel_rfl
theorem k162 : ExtSim Tryd.prog ext 162 1 := ext_indexByte rfl Tryd.func162 (by kernel_rfl) (by kernel_rfl) (by kernel_rfl) (by kernel_rfl)
theorem k163 : cFunc Tryd.prog Tryd.f163 = some c163 := by kernel_rfl
theorem k164 : cFunc Tryd.prog Tryd.f164 = some c164 := by kernel_rfl
theorem k165 : cFunc Tryd.prog Tryd.f165 = some c165 := by kernel_rfl
theorem k169 : cFunc Tryd.prog Tryd.f169 = some c169 := by kernel_rfl
theorem k170 : cFunc Tryd.prog Tryd.f170 = some c170 := by kernel_rfl
theorem k171 : cFunc Tryd.prog Tryd.f171 = some c171 := by kernel_rfl
theorem k173 : cFunc Tryd.prog Tryd.f173 = some c173 := by kernel_rfl
theorem k174 : cFunc Tryd.prog Tryd.f174 = some c174 := by kernel_rfl
theorem k175 : ExtSim Tryd.prog ext 175 2 := ext_self rfl Tryd.func175 (by kernel_rfl) (by kernel_rfl) (by kernel_rfl) (by kernel_rfl)
theorem k176 : cFunc Tryd.prog Tryd.f176 = some c176 := by kernel_rfl
theorem k179 : cFunc Tryd.prog Tryd.f179 = some c179 := by kernel_rfl
theorem k180 : cFunc Tryd.prog Tryd.f180 = some c180 := by kernel_rfl
theorem k181 : cFunc Tryd.prog Tryd.f181 = some c181 := by kernel_rfl
theorem k182 : cFunc Tryd.prog Tryd.f182 = some c182 := by kernel_rfl
theorem k183 : cFunc Tryd.prog Tryd.f183 = some c183 := by kernel_rfl
theorem k187 : cFunc Tryd.prog Tryd.f187 = some c187 := by kernel_rfl
theorem k188 : cFunc Tryd.prog Tryd.f188 = some c188 := by kernel_rfl
theorem k189 : cFunc Tryd.prog Tryd.f189 = some c189 := by kernel_rfl
theorem k190 : cFunc Tryd.prog Tryd.f190 = some c190 := by kernel_rfl
theorem k191 : cFunc Tryd.prog Tryd.f191 = some c191 := by kernel_rfl
theorem k193 : cFunc Tryd.prog Tryd.f193 = some c193 := by kernel_rfl
theorem k194 : cFunc Tryd.prog Tryd.f194 = some c194 := by kernel_rfl
theorem cond_some {α : Type} {b : Bool} {x y : Option α} {v : α} (h : cond b x y = some v) : (b = true ∧ x = some v) ∨ (b = false ∧ y = some v) := by cases b <;> simp_all
theorem progOk0 : ProgOk Tryd.prog ext prog0 := by
  refine ⟨rfl, by decide +kernel, ?_⟩
  intro f rf h
  unfold prog0 at h
  rcases cond_some h with ⟨_, h⟩ | ⟨_, h⟩
  · skip
    rcases cond_some h with ⟨_, h⟩ | ⟨_, h⟩
    · skip
      rcases cond_some h with ⟨_, h⟩ | ⟨_, h⟩
      · skip
        rcases cond_some h with ⟨_, h⟩ | ⟨_, h⟩
        · skip
          rcases cond_some h with ⟨_, h⟩ | ⟨_, h⟩
          · skip
            rcases cond_some h with ⟨hb, h⟩ | ⟨_, h⟩
            · obtain rfl := Nat.eq_of_beq_eq_true hb; cases h; exact Or.inl ⟨Tryd.f19, _, Tryd.func19, rfl, k19⟩
            · cases h
          · skip
            rcases cond_some h with ⟨_, h⟩ | ⟨_, h⟩
            · skip
              rcases cond_some h with ⟨hb, h⟩ | ⟨_, h⟩
              · obtain rfl := Nat.eq_of_beq_eq_true hb; cases h; exact Or.inl ⟨Tryd.f27, _, Tryd.func27, rfl, k27⟩
              · cases h
            · skip
              rcases cond_some h with ⟨hb, h⟩ | ⟨_, h⟩
              · obtain rfl := Nat.eq_of_beq_eq_true hb; cases h; exact Or.inl ⟨Tryd.f32, _, Tryd.func32, rfl, k32⟩
              · cases h
        · skip
          rcases cond_some h with ⟨_, h⟩ | ⟨_, h⟩
          · skip
            rcases cond_some h with ⟨_, h⟩ | ⟨_, h⟩
            · skip
              rcases cond_some h with ⟨hb, h⟩ | ⟨_, h⟩
              · obtain rfl := Nat.eq_of_beq_eq_true hb; cases h; exact Or.inl ⟨Tryd.f60, _, Tryd.func60, rfl, k60⟩
              · cases h
            · skip
              rcases cond_some h with ⟨hb, h⟩ | ⟨_, h⟩
              · obtain rfl := Nat.eq_of_beq_eq_true hb; cases h; exact Or.inl ⟨Tryd.f70, _, Tryd.func70, rfl, k70⟩
              · cases h
          · skip
            rcases cond_some h with ⟨_, h⟩ | ⟨_, h⟩
            · skip
              rcases cond_some h with ⟨hb, h⟩ | ⟨_, h⟩
              · obtain rfl := Nat.eq_of_beq_eq_true hb; cases h; exact Or.inl ⟨Tryd.f72, _, Tryd.func72, rfl, k72⟩
              · cases h
            · skip
              rcases cond_some h with ⟨hb, h⟩ | ⟨_, h⟩
              · obtain rfl := Nat.eq_of_beq_eq_true hb; cases h; exact Or.inl ⟨Tryd.f77, _, Tryd.func77, rfl, k77⟩
              · cases h
      · skip
        rcases cond_some h with ⟨_, h⟩ | ⟨_, h⟩
        · skip
          rcases cond_some h with ⟨_, h⟩ | ⟨_, h⟩
          · skip
            rcases cond_some h with ⟨hb, h⟩ | ⟨_, h⟩
            · obtain rfl := Nat.eq_of_beq_eq_true hb; cases h; exact Or.inl ⟨Tryd.f94, _, Tryd.func94, rfl, k94⟩
            · cases h
          · skip
            rcases cond_some h with ⟨_, h⟩ | ⟨_, h⟩
            · skip
              rcases cond_some h with ⟨hb, h⟩ | ⟨_, h⟩
              · obtain rfl := Nat.eq_of_beq_eq_true hb; cases h; exact Or.inl ⟨Tryd.f97, _, Tryd.func97, rfl, k97⟩
              · cases h
            · skip
              rcases cond_some h with ⟨hb, h⟩ | ⟨_, h⟩
              · obtain rfl := Nat.eq_of_beq_eq_true hb; cases h; exact Or.inl ⟨Tryd.f98, _, Tryd.func98, rfl, k98⟩
              · cases h
        · skip
          rcases cond_some h with ⟨_, h⟩ | ⟨_, h⟩
          · skip
            rcases cond_some h with ⟨_, h⟩ | ⟨_, h⟩
            · skip
              rcases cond_some h with ⟨hb, h⟩ | ⟨_, h⟩
              · obtain rfl := Nat.eq_of_beq_eq_true hb; cases h; exact Or.inl ⟨Tryd.f102, _, Tryd.func102, rfl, k102⟩
              · cases h
            · skip
              rcases cond_some h with ⟨hb, h⟩ | ⟨_, h⟩
              · obtain rfl := Nat.eq_of_beq_eq_true hb; cases h; exact Or.inl ⟨Tryd.f103, _, Tryd.func103, rfl, k103⟩
              · cases h
          · skip
            rcases cond_some h with ⟨_, h⟩ | ⟨_, h⟩
            · skip
              rcases cond_some h with ⟨hb, h⟩ | ⟨_, h⟩
              · obtain rfl := Nat.eq_of_beq_eq_true hb; cases h; exact Or.inl ⟨Tryd.f106, _, Tryd.func106, rfl, k106⟩
              · cases h
            · skip
              rcases cond_some h with ⟨hb, h⟩ | ⟨_, h⟩
              · obtain rfl := Nat.eq_of_beq_eq_true hb; cases h; exact Or.inl ⟨Tryd.f107, _, Tryd.func107, rfl, k107⟩
              · cases h
    · skip
      rcases cond_some h with ⟨_, h⟩ | ⟨_, h⟩
      · skip
        rcases cond_some h with ⟨_, h⟩ | ⟨_, h⟩
        · skip
          rcases cond_some h with ⟨_, h⟩ | ⟨_, h⟩
          · skip
            rcases cond_some h with ⟨hb, h⟩ | ⟨_, h⟩
            · obtain rfl := Nat.eq_of_beq_eq_true hb; cases h; exact Or.inl ⟨Tryd.f108, _, Tryd.func108, rfl, k108⟩
            · cases h
          · skip
            rcases cond_some h with ⟨_, h⟩ | ⟨_, h⟩
            · skip
              rcases cond_some h with ⟨hb, h⟩ | ⟨_, h⟩
              · obtain rfl := Nat.eq_of_beq_eq_true hb; cases h; exact Or.inl ⟨Tryd.f109, _, Tryd.func109, rfl, k109⟩
              · cases h
            · skip
              rcases cond_some h with ⟨hb, h⟩ | ⟨_, h⟩
              · obtain rfl := Nat.eq_of_beq_eq_true hb; cases h; exact Or.inl ⟨Tryd.f118, _, Tryd.func118, rfl, k118⟩
              · cases h
        · skip
          rcases cond_some h with ⟨_, h⟩ | ⟨_, h⟩
          · skip
            rcases cond_some h with ⟨_, h⟩ | ⟨_, h⟩
            · skip
              rcases cond_some h with ⟨hb, h⟩ | ⟨_, h⟩
              · obtain rfl := Nat.eq_of_beq_eq_true hb; cases h; exact Or.inl ⟨Tryd.f121, _, Tryd.func121, rfl, k121⟩
              · cases h
            · skip
              rcases cond_some h with ⟨hb, h⟩ | ⟨_, h⟩
              · obtain rfl := Nat.eq_of_beq_eq_true hb; cases h; exact Or.inl ⟨Tryd.f122, _, Tryd.func122, rfl, k122⟩
              · cases h
          · skip
            rcases cond_some h with ⟨_, h⟩ | ⟨_, h⟩
            · skip
              rcases cond_some h with ⟨hb, h⟩ | ⟨_, h⟩
              · obtain rfl := Nat.eq_of_beq_eq_true hb; cases h; exact Or.inl ⟨Tryd.f126, _, Tryd.func126, rfl, k126⟩
              · cases h
            · skip
              rcases cond_some h with ⟨hb, h⟩ | ⟨_, h⟩
              · obtain rfl := Nat.eq_of_beq_eq_true hb; cases h; exact Or.inl ⟨Tryd.f127, _, Tryd.func127, rfl, k127⟩
              · cases h
      · skip
        rcases cond_some h with ⟨_, h⟩ | ⟨_, h⟩
        · skip
          rcases cond_some h with ⟨_, h⟩ | ⟨_, h⟩
          · skip
            rcases cond_some h with ⟨hb, h⟩ | ⟨_, h⟩
            · obtain rfl := Nat.eq_of_beq_eq_true hb; cases h; exact Or.inl ⟨Tryd.f128, _, Tryd.func128, rfl, k128⟩
            · cases h
          · skip
            rcases cond_some h with ⟨_, h⟩ | ⟨_, h⟩
            · skip
              rcases cond_some h with ⟨hb, h⟩ | ⟨_, h⟩
              · obtain rfl := Nat.eq_of_beq_eq_true hb; cases h; exact Or.inl ⟨Tryd.f129, _, Tryd.func129, rfl, k129⟩
              · cases h
            · skip
              rcases cond_some h with ⟨hb, h⟩ | ⟨_, h⟩
              · obtain rfl := Nat.eq_of_beq_eq_true hb; cases h; exact Or.inl ⟨Tryd.f130, _, Tryd.func130, rfl, k130⟩
              · cases h
        · skip
          rcases cond_some h with ⟨_, h⟩ | ⟨_, h⟩
          · skip
            rcases cond_some h with ⟨_, h⟩ | ⟨_, h⟩
            · skip
              rcases cond_some h with ⟨hb, h⟩ | ⟨_, h⟩
              · obtain rfl := Nat.eq_of_beq_eq_true hb; cases h; exact Or.inl ⟨Tryd.f132, _, Tryd.func132, rfl, k132⟩
              · cases h
            · skip
              rcases cond_some h with ⟨hb, h⟩ | ⟨_, h⟩
              · obtain rfl := Nat.eq_of_beq_eq_true hb; cases h; exact Or.inl ⟨Tryd.f133, _, Tryd.func133, rfl, k133⟩
              · cases h
          · skip
            rcases cond_some h with ⟨_, h⟩ | ⟨_, h⟩
            · skip
              rcases cond_some h with ⟨hb, h⟩ | ⟨_, h⟩
              · obtain rfl := Nat.eq_of_beq_eq_true hb; cases h; exact Or.inl ⟨Tryd.f134, _, Tryd.func134, rfl, k134⟩
              · cases h
            · skip
              rcases cond_some h with ⟨hb, h⟩ | ⟨_, h⟩
              · obtain rfl := Nat.eq_of_beq_eq_true hb; cases h; exact Or.inl ⟨Tryd.f135, _, Tryd.func135, rfl, k135⟩
              · cases h
  · skip
    rcases cond_some h with ⟨_, h⟩ | ⟨_, h⟩
    · skip
      rcases cond_some h with ⟨_, h⟩ | ⟨_, h⟩
      · skip
        rcases cond_some h with ⟨_, h⟩ | ⟨_, h⟩
        · skip
          rcases cond_some h with ⟨_, h⟩ | ⟨_, h⟩
          · skip
            rcases cond_some h with ⟨hb, h⟩ | ⟨_, h⟩
            · obtain rfl := Nat.eq_of_beq_eq_true hb; cases h; exact Or.inl ⟨Tryd.f142, _, Tryd.func142, rfl, k142⟩
            · cases h
          · skip
            rcases cond_some h with ⟨_, h⟩ | ⟨_, h⟩
            · skip
              rcases cond_some h with ⟨hb, h⟩ | ⟨_, h⟩
              · obtain rfl := Nat.eq_of_beq_eq_true hb; cases h; exact Or.inl ⟨Tryd.f143, _, Tryd.func143, rfl, k143⟩
              · cases h
            · skip
              rcases cond_some h with ⟨hb, h⟩ | ⟨_, h⟩
              · obtain rfl := Nat.eq_of_beq_eq_true hb; cases h; exact Or.inl ⟨Tryd.f153, _, Tryd.func153, rfl, k153⟩
              · cases h
        · skip
          rcases cond_some h with ⟨_, h⟩ | ⟨_, h⟩
          · skip
            rcases cond_some h with ⟨_, h⟩ | ⟨_, h⟩
            · skip
              rcases cond_some h with ⟨hb, h⟩ | ⟨_, h⟩
              · obtain rfl := Nat.eq_of_beq_eq_true hb; cases h; exact Or.inr ⟨0, rfl, k154⟩
              · cases h
            · skip
              rcases cond_some h with ⟨hb, h⟩ | ⟨_, h⟩
              · obtain rfl := Nat.eq_of_beq_eq_true hb; cases h; exact Or.inl ⟨Tryd.f155, _, Tryd.func155, rfl, k155⟩
              · cases h
          · skip
            rcases cond_some h with ⟨_, h⟩ | ⟨_, h⟩
            · skip
              rcases cond_some h with ⟨hb, h⟩ | ⟨_, h⟩
              · obtain rfl := Nat.eq_of_beq_eq_true hb; cases h; exact Or.inl ⟨Tryd.f160, _, Tryd.func160, rfl, k160⟩
              · cases h
            · skip
              rcases cond_some h with ⟨hb, h⟩ | ⟨_, h⟩
              · obtain rfl := Nat.eq_of_beq_eq_true hb; cases h; exact Or.inr ⟨1, rfl, k162⟩
              · cases h
      · skip
        rcases cond_some h with ⟨_, h⟩ | ⟨_, h⟩
        · skip
          rcases cond_some h with ⟨_, h⟩ | ⟨_, h⟩
          · skip
            rcases cond_some h with ⟨hb, h⟩ | ⟨_, h⟩
            · obtain rfl := Nat.eq_of_beq_eq_true hb; cases h; exact Or.inl ⟨Tryd.f163, _, Tryd.func163, rfl, k163⟩
            · cases h
          · skip
            rcases cond_some h with ⟨_, h⟩ | ⟨_, h⟩
            · skip
              rcases cond_some h with ⟨hb, h⟩ | ⟨_, h⟩
              · obtain rfl := Nat.eq_of_beq_eq_true hb; cases h; exact Or.inl ⟨Tryd.f164, _, Tryd.func164, rfl, k164⟩
              · cases h
            · skip
              rcases cond_some h with ⟨hb, h⟩ | ⟨_, h⟩
              · obtain rfl := Nat.eq_of_beq_eq_true hb; cases h; exact Or.inl ⟨Tryd.f165, _, Tryd.func165, rfl, k165⟩
              · cases h
        · skip
          rcases cond_some h with ⟨_, h⟩ | ⟨_, h⟩
          · skip
            rcases cond_some h with ⟨_, h⟩ | ⟨_, h⟩
            · skip
              rcases cond_some h with ⟨hb, h⟩ | ⟨_, h⟩
              · obtain rfl := Nat.eq_of_beq_eq_true hb; cases h; exact Or.inl ⟨Tryd.f170, _, Tryd.func170, rfl, k170⟩
              · cases h
            · skip
              rcases cond_some h with ⟨hb, h⟩ | ⟨_, h⟩
              · obtain rfl := Nat.eq_of_beq_eq_true hb; cases h; exact Or.inl ⟨Tryd.f171, _, Tryd.func171, rfl, k171⟩
              · cases h
          · skip
            rcases cond_some h with ⟨_, h⟩ | ⟨_, h⟩
            · skip
              rcases cond_some h with ⟨hb, h⟩ | ⟨_, h⟩
              · obtain rfl := Nat.eq_of_beq_eq_true hb; cases h; exact Or.inl ⟨Tryd.f173, _, Tryd.func173, rfl, k173⟩
              · cases h
            · skip
              rcases cond_some h with ⟨hb, h⟩ | ⟨_, h⟩
              · obtain rfl := Nat.eq_of_beq_eq_true hb; cases h; exact Or.inl ⟨Tryd.f174, _, Tryd.func174, rfl, k174⟩
              · cases h
    · skip
      rcases cond_some h with ⟨_, h⟩ | ⟨_, h⟩
      · skip
        rcases cond_some h with ⟨_, h⟩ | ⟨_, h⟩
        · skip
          rcases cond_some h with ⟨_, h⟩ | ⟨_, h⟩
          · skip
            rcases cond_some h with ⟨hb, h⟩ | ⟨_, h⟩
            · obtain rfl := Nat.eq_of_beq_eq_true hb; cases h; exact Or.inr ⟨2, rfl, k175⟩
            · cases h
          · skip
            rcases cond_some h with ⟨_, h⟩ | ⟨_, h⟩
            · skip
              rcases cond_some h with ⟨hb, h⟩ | ⟨_, h⟩
              · obtain rfl := Nat.eq_of_beq_eq_true hb; cases h; exact Or.inl ⟨Tryd.f176, _, Tryd.func176, rfl, k176⟩
              · cases h
            · skip
              rcases cond_some h with ⟨hb, h⟩ | ⟨_, h⟩
              · obtain rfl := Nat.eq_of_beq_eq_true hb; cases h; exact Or.inl ⟨Tryd.f179, _, Tryd.func179, rfl, k179⟩
              · cases h
        · skip
          rcases cond_some h with ⟨_, h⟩ | ⟨_, h⟩
          · skip
            rcases cond_some h with ⟨_, h⟩ | ⟨_, h⟩
            · skip
              rcases cond_some h with ⟨hb, h⟩ | ⟨_, h⟩
              · obtain rfl := Nat.eq_of_beq_eq_true hb; cases h; exact Or.inl ⟨Tryd.f180, _, Tryd.func180, rfl, k180⟩
              · cases h
            · skip
              rcases cond_some h with ⟨hb, h⟩ | ⟨_, h⟩
              · obtain rfl := Nat.eq_of_beq_eq_true hb; cases h; exact Or.inl ⟨Tryd.f181, _, Tryd.func181, rfl, k181⟩
              · cases h
          · skip
            rcases cond_some h with ⟨_, h⟩ | ⟨_, h⟩
            · skip
              rcases cond_some h with ⟨hb, h⟩ | ⟨_, h⟩
              · obtain rfl := Nat.eq_of_beq_eq_true hb; cases h; exact Or.inl ⟨Tryd.f182, _, Tryd.func182, rfl, k182⟩
              · cases h
            · skip
              rcases cond_some h with ⟨hb, h⟩ | ⟨_, h⟩
              · obtain rfl := Nat.eq_of_beq_eq_true hb; cases h; exact Or.inl ⟨Tryd.f183, _, Tryd.func183, rfl, k183⟩
              · cases h
      · skip
        rcases cond_some h with ⟨_, h⟩ | ⟨_, h⟩
        · skip
          rcases cond_some h with ⟨_, h⟩ | ⟨_, h⟩
          · skip
            rcases cond_some h with ⟨hb, h⟩ | ⟨_, h⟩
            · obtain rfl := Nat.eq_of_beq_eq_true hb; cases h; exact Or.inl ⟨Tryd.f187, _, Tryd.func187, rfl, k187⟩
            · cases h
          · skip
            rcases cond_some h with ⟨_, h⟩ | ⟨_, h⟩
            · skip
              rcases cond_some h with ⟨hb, h⟩ | ⟨_, h⟩
              · obtain rfl := Nat.eq_of_beq_eq_true hb; cases h; exact Or.inl ⟨Tryd.f188, _, Tryd.func188, rfl, k188⟩
              · cases h
            · skip
              rcases cond_some h with ⟨hb, h⟩ | ⟨_, h⟩
              · obtain rfl := Nat.eq_of_beq_eq_true hb; cases h; exact Or.inl ⟨Tryd.f189, _, Tryd.func189, rfl, k189⟩
              · cases h
        · skip
          rcases cond_some h with ⟨_, h⟩ | ⟨_, h⟩
          · skip
            rcases cond_some h with ⟨_, h⟩ | ⟨_, h⟩
            · skip
              rcases cond_some h with ⟨hb, h⟩ | ⟨_, h⟩
              · obtain rfl := Nat.eq_of_beq_eq_true hb; cases h; exact Or.inl ⟨Tryd.f190, _, Tryd.func190, rfl, k190⟩
              · cases h
            · skip
              rcases cond_some h with ⟨hb, h⟩ | ⟨_, h⟩
              · obtain rfl := Nat.eq_of_beq_eq_true hb; cases h; exact Or.inl ⟨Tryd.f191, _, Tryd.func191, rfl, k191⟩
              · cases h
          · skip
            rcases cond_some h with ⟨_, h⟩ | ⟨_, h⟩
            · skip
              rcases cond_some h with ⟨hb, h⟩ | ⟨_, h⟩
              · obtain rfl := Nat.eq_of_beq_eq_true hb; cases h; exact Or.inl ⟨Tryd.f193, _, Tryd.func193, rfl, k193⟩
              · cases h
            · skip
              rcases cond_some h with ⟨hb, h⟩ | ⟨_, h⟩
              · obtain rfl := Nat.eq_of_beq_eq_true hb; cases h; exact Or.inl ⟨Tryd.f194, _, Tryd.func194, rfl, k194⟩
              · cases h
def isTrue : Option (AVal × AHeap) → Bool | some (.bool true, _) => true | _ => false
theorem isTrue_some {r : Option (AVal × AHeap)} (h : isTrue r = true) : ∃ H', r = some (.bool true, H') := by
  cases r with
  | none => cases h
  | some p =>
    obtain ⟨v, H'⟩ := p
    cases v with
    | bool b => cases b with
      | true => exact ⟨H', rfl⟩
      | false => cases h
    | _ => cases h
/-- The examples of the chapter hold. -/
theorem awake_true : isTrue (callN ext prog0 300 19 [] (tableHeap Tryd.prog.globals.size aroundT)) = true := by kernel_rfl
theorem mixed : Tryd.prog.follows .mixedOrders = true := by kernel_rfl
theorem k19e : ExtSim Tryd.prog ext 19 3 := ext_closed mixed progOk0 (T := aroundT) Tryd.func19 rfl (by decide +kernel) (v := .bool true) rfl (by kernel_rfl) (isTrue_some awake_true) rfl
theorem progOk : ProgOk Tryd.prog ext prog := by
  refine ⟨rfl, by decide +kernel, ?_⟩
  intro f rf h
  unfold prog at h
  rcases cond_some h with ⟨_, h⟩ | ⟨_, h⟩
  · skip
    rcases cond_some h with ⟨_, h⟩ | ⟨_, h⟩
    · skip
      rcases cond_some h with ⟨_, h⟩ | ⟨_, h⟩
      · skip
        rcases cond_some h with ⟨_, h⟩ | ⟨_, h⟩
        · skip
          rcases cond_some h with ⟨_, h⟩ | ⟨_, h⟩
          · skip
            rcases cond_some h with ⟨hb, h⟩ | ⟨_, h⟩
            · obtain rfl := Nat.eq_of_beq_eq_true hb; cases h; exact Or.inl ⟨Tryd.f4, _, Tryd.func4, rfl, k4⟩
            · cases h
          · skip
            rcases cond_some h with ⟨_, h⟩ | ⟨_, h⟩
            · skip
              rcases cond_some h with ⟨hb, h⟩ | ⟨_, h⟩
              · obtain rfl := Nat.eq_of_beq_eq_true hb; cases h; exact Or.inl ⟨Tryd.f18, _, Tryd.func18, rfl, k18⟩
              · cases h
            · skip
              rcases cond_some h with ⟨hb, h⟩ | ⟨_, h⟩
              · obtain rfl := Nat.eq_of_beq_eq_true hb; cases h; exact Or.inr ⟨3, rfl, k19e⟩
              · cases h
        · skip
          rcases cond_some h with ⟨_, h⟩ | ⟨_, h⟩
          · skip
            rcases cond_some h with ⟨_, h⟩ | ⟨_, h⟩
            · skip
              rcases cond_some h with ⟨hb, h⟩ | ⟨_, h⟩
              · obtain rfl := Nat.eq_of_beq_eq_true hb; cases h; exact Or.inl ⟨Tryd.f20, _, Tryd.func20, rfl, k20⟩
              · cases h
            · skip
              rcases cond_some h with ⟨hb, h⟩ | ⟨_, h⟩
              · obtain rfl := Nat.eq_of_beq_eq_true hb; cases h; exact Or.inl ⟨Tryd.f21, _, Tryd.func21, rfl, k21⟩
              · cases h
          · skip
            rcases cond_some h with ⟨_, h⟩ | ⟨_, h⟩
            · skip
              rcases cond_some h with ⟨hb, h⟩ | ⟨_, h⟩
              · obtain rfl := Nat.eq_of_beq_eq_true hb; cases h; exact Or.inl ⟨Tryd.f26, _, Tryd.func26, rfl, k26⟩
              · cases h
            · skip
              rcases cond_some h with ⟨hb, h⟩ | ⟨_, h⟩
              · obtain rfl := Nat.eq_of_beq_eq_true hb; cases h; exact Or.inl ⟨Tryd.f27, _, Tryd.func27, rfl, k27⟩
              · cases h
      · skip
        rcases cond_some h with ⟨_, h⟩ | ⟨_, h⟩
        · skip
          rcases cond_some h with ⟨_, h⟩ | ⟨_, h⟩
          · skip
            rcases cond_some h with ⟨hb, h⟩ | ⟨_, h⟩
            · obtain rfl := Nat.eq_of_beq_eq_true hb; cases h; exact Or.inl ⟨Tryd.f32, _, Tryd.func32, rfl, k32⟩
            · cases h
          · skip
            rcases cond_some h with ⟨_, h⟩ | ⟨_, h⟩
            · skip
              rcases cond_some h with ⟨hb, h⟩ | ⟨_, h⟩
              · obtain rfl := Nat.eq_of_beq_eq_true hb; cases h; exact Or.inl ⟨Tryd.f35, _, Tryd.func35, rfl, k35⟩
              · cases h
            · skip
              rcases cond_some h with ⟨hb, h⟩ | ⟨_, h⟩
              · obtain rfl := Nat.eq_of_beq_eq_true hb; cases h; exact Or.inl ⟨Tryd.f37, _, Tryd.func37, rfl, k37⟩
              · cases h
        · skip
          rcases cond_some h with ⟨_, h⟩ | ⟨_, h⟩
          · skip
            rcases cond_some h with ⟨_, h⟩ | ⟨_, h⟩
            · skip
              rcases cond_some h with ⟨hb, h⟩ | ⟨_, h⟩
              · obtain rfl := Nat.eq_of_beq_eq_true hb; cases h; exact Or.inl ⟨Tryd.f44, _, Tryd.func44, rfl, k44⟩
              · cases h
            · skip
              rcases cond_some h with ⟨hb, h⟩ | ⟨_, h⟩
              · obtain rfl := Nat.eq_of_beq_eq_true hb; cases h; exact Or.inl ⟨Tryd.f77, _, Tryd.func77, rfl, k77⟩
              · cases h
          · skip
            rcases cond_some h with ⟨_, h⟩ | ⟨_, h⟩
            · skip
              rcases cond_some h with ⟨hb, h⟩ | ⟨_, h⟩
              · obtain rfl := Nat.eq_of_beq_eq_true hb; cases h; exact Or.inl ⟨Tryd.f82, _, Tryd.func82, rfl, k82⟩
              · cases h
            · skip
              rcases cond_some h with ⟨hb, h⟩ | ⟨_, h⟩
              · obtain rfl := Nat.eq_of_beq_eq_true hb; cases h; exact Or.inl ⟨Tryd.f83, _, Tryd.func83, rfl, k83⟩
              · cases h
    · skip
      rcases cond_some h with ⟨_, h⟩ | ⟨_, h⟩
      · skip
        rcases cond_some h with ⟨_, h⟩ | ⟨_, h⟩
        · skip
          rcases cond_some h with ⟨_, h⟩ | ⟨_, h⟩
          · skip
            rcases cond_some h with ⟨hb, h⟩ | ⟨_, h⟩
            · obtain rfl := Nat.eq_of_beq_eq_true hb; cases h; exact Or.inl ⟨Tryd.f85, _, Tryd.func85, rfl, k85⟩
            · cases h
          · skip
            rcases cond_some h with ⟨_, h⟩ | ⟨_, h⟩
            · skip
              rcases cond_some h with ⟨hb, h⟩ | ⟨_, h⟩
              · obtain rfl := Nat.eq_of_beq_eq_true hb; cases h; exact Or.inl ⟨Tryd.f86, _, Tryd.func86, rfl, k86⟩
              · cases h
            · skip
              rcases cond_some h with ⟨hb, h⟩ | ⟨_, h⟩
              · obtain rfl := Nat.eq_of_beq_eq_true hb; cases h; exact Or.inl ⟨Tryd.f87, _, Tryd.func87, rfl, k87⟩
              · cases h
        · skip
          rcases cond_some h with ⟨_, h⟩ | ⟨_, h⟩
          · skip
            rcases cond_some h with ⟨_, h⟩ | ⟨_, h⟩
            · skip
              rcases cond_some h with ⟨hb, h⟩ | ⟨_, h⟩
              · obtain rfl := Nat.eq_of_beq_eq_true hb; cases h; exact Or.inl ⟨Tryd.f92, _, Tryd.func92, rfl, k92⟩
              · cases h
            · skip
              rcases cond_some h with ⟨hb, h⟩ | ⟨_, h⟩
              · obtain rfl := Nat.eq_of_beq_eq_true hb; cases h; exact Or.inl ⟨Tryd.f93, _, Tryd.func93, rfl, k93⟩
              · cases h
          · skip
            rcases cond_some h with ⟨_, h⟩ | ⟨_, h⟩
            · skip
              rcases cond_some h with ⟨hb, h⟩ | ⟨_, h⟩
              · obtain rfl := Nat.eq_of_beq_eq_true hb; cases h; exact Or.inl ⟨Tryd.f95, _, Tryd.func95, rfl, k95⟩
              · cases h
            · skip
              rcases cond_some h with ⟨hb, h⟩ | ⟨_, h⟩
              · obtain rfl := Nat.eq_of_beq_eq_true hb; cases h; exact Or.inl ⟨Tryd.f96, _, Tryd.func96, rfl, k96⟩
              · cases h
      · skip
        rcases cond_some h with ⟨_, h⟩ | ⟨_, h⟩
        · skip
          rcases cond_some h with ⟨_, h⟩ | ⟨_, h⟩
          · skip
            rcases cond_some h with ⟨_, h⟩ | ⟨_, h⟩
            · skip
              rcases cond_some h with ⟨hb, h⟩ | ⟨_, h⟩
              · obtain rfl := Nat.eq_of_beq_eq_true hb; cases h; exact Or.inl ⟨Tryd.f97, _, Tryd.func97, rfl, k97⟩
              · cases h
            · skip
              rcases cond_some h with ⟨hb, h⟩ | ⟨_, h⟩
              · obtain rfl := Nat.eq_of_beq_eq_true hb; cases h; exact Or.inl ⟨Tryd.f98, _, Tryd.func98, rfl, k98⟩
              · cases h
          · skip
            rcases cond_some h with ⟨_, h⟩ | ⟨_, h⟩
            · skip
              rcases cond_some h with ⟨hb, h⟩ | ⟨_, h⟩
              · obtain rfl := Nat.eq_of_beq_eq_true hb; cases h; exact Or.inl ⟨Tryd.f100, _, Tryd.func100, rfl, k100⟩
              · cases h
            · skip
              rcases cond_some h with ⟨hb, h⟩ | ⟨_, h⟩
              · obtain rfl := Nat.eq_of_beq_eq_true hb; cases h; exact Or.inl ⟨Tryd.f101, _, Tryd.func101, rfl, k101⟩
              · cases h
        · skip
          rcases cond_some h with ⟨_, h⟩ | ⟨_, h⟩
          · skip
            rcases cond_some h with ⟨_, h⟩ | ⟨_, h⟩
            · skip
              rcases cond_some h with ⟨hb, h⟩ | ⟨_, h⟩
              · obtain rfl := Nat.eq_of_beq_eq_true hb; cases h; exact Or.inl ⟨Tryd.f102, _, Tryd.func102, rfl, k102⟩
              · cases h
            · skip
              rcases cond_some h with ⟨hb, h⟩ | ⟨_, h⟩
              · obtain rfl := Nat.eq_of_beq_eq_true hb; cases h; exact Or.inl ⟨Tryd.f103, _, Tryd.func103, rfl, k103⟩
              · cases h
          · skip
            rcases cond_some h with ⟨_, h⟩ | ⟨_, h⟩
            · skip
              rcases cond_some h with ⟨hb, h⟩ | ⟨_, h⟩
              · obtain rfl := Nat.eq_of_beq_eq_true hb; cases h; exact Or.inl ⟨Tryd.f104, _, Tryd.func104, rfl, k104⟩
              · cases h
            · skip
              rcases cond_some h with ⟨hb, h⟩ | ⟨_, h⟩
              · obtain rfl := Nat.eq_of_beq_eq_true hb; cases h; exact Or.inl ⟨Tryd.f105, _, Tryd.func105, rfl, k105⟩
              · cases h
  · skip
    rcases cond_some h with ⟨_, h⟩ | ⟨_, h⟩
    · skip
      rcases cond_some h with ⟨_, h⟩ | ⟨_, h⟩
      · skip
        rcases cond_some h with ⟨_, h⟩ | ⟨_, h⟩
        · skip
          rcases cond_some h with ⟨_, h⟩ | ⟨_, h⟩
          · skip
            rcases cond_some h with ⟨hb, h⟩ | ⟨_, h⟩
            · obtain rfl := Nat.eq_of_beq_eq_true hb; cases h; exact Or.inl ⟨Tryd.f106, _, Tryd.func106, rfl, k106⟩
            · cases h
          · skip
            rcases cond_some h with ⟨_, h⟩ | ⟨_, h⟩
            · skip
              rcases cond_some h with ⟨hb, h⟩ | ⟨_, h⟩
              · obtain rfl := Nat.eq_of_beq_eq_true hb; cases h; exact Or.inl ⟨Tryd.f107, _, Tryd.func107, rfl, k107⟩
              · cases h
            · skip
              rcases cond_some h with ⟨hb, h⟩ | ⟨_, h⟩
              · obtain rfl := Nat.eq_of_beq_eq_true hb; cases h; exact Or.inl ⟨Tryd.f108, _, Tryd.func108, rfl, k108⟩
              · cases h
        · skip
          rcases cond_some h with ⟨_, h⟩ | ⟨_, h⟩
          · skip
            rcases cond_some h with ⟨_, h⟩ | ⟨_, h⟩
            · skip
              rcases cond_some h with ⟨hb, h⟩ | ⟨_, h⟩
              · obtain rfl := Nat.eq_of_beq_eq_true hb; cases h; exact Or.inl ⟨Tryd.f111, _, Tryd.func111, rfl, k111⟩
              · cases h
            · skip
              rcases cond_some h with ⟨hb, h⟩ | ⟨_, h⟩
              · obtain rfl := Nat.eq_of_beq_eq_true hb; cases h; exact Or.inl ⟨Tryd.f112, _, Tryd.func112, rfl, k112⟩
              · cases h
          · skip
            rcases cond_some h with ⟨_, h⟩ | ⟨_, h⟩
            · skip
              rcases cond_some h with ⟨hb, h⟩ | ⟨_, h⟩
              · obtain rfl := Nat.eq_of_beq_eq_true hb; cases h; exact Or.inl ⟨Tryd.f113, _, Tryd.func113, rfl, k113⟩
              · cases h
            · skip
              rcases cond_some h with ⟨hb, h⟩ | ⟨_, h⟩
              · obtain rfl := Nat.eq_of_beq_eq_true hb; cases h; exact Or.inl ⟨Tryd.f118, _, Tryd.func118, rfl, k118⟩
              · cases h
      · skip
        rcases cond_some h with ⟨_, h⟩ | ⟨_, h⟩
        · skip
          rcases cond_some h with ⟨_, h⟩ | ⟨_, h⟩
          · skip
            rcases cond_some h with ⟨hb, h⟩ | ⟨_, h⟩
            · obtain rfl := Nat.eq_of_beq_eq_true hb; cases h; exact Or.inl ⟨Tryd.f126, _, Tryd.func126, rfl, k126⟩
            · cases h
          · skip
            rcases cond_some h with ⟨_, h⟩ | ⟨_, h⟩
            · skip
              rcases cond_some h with ⟨hb, h⟩ | ⟨_, h⟩
              · obtain rfl := Nat.eq_of_beq_eq_true hb; cases h; exact Or.inl ⟨Tryd.f127, _, Tryd.func127, rfl, k127⟩
              · cases h
            · skip
              rcases cond_some h with ⟨hb, h⟩ | ⟨_, h⟩
              · obtain rfl := Nat.eq_of_beq_eq_true hb; cases h; exact Or.inl ⟨Tryd.f128, _, Tryd.func128, rfl, k128⟩
              · cases h
        · skip
          rcases cond_some h with ⟨_, h⟩ | ⟨_, h⟩
          · skip
            rcases cond_some h with ⟨_, h⟩ | ⟨_, h⟩
            · skip
              rcases cond_some h with ⟨hb, h⟩ | ⟨_, h⟩
              · obtain rfl := Nat.eq_of_beq_eq_true hb; cases h; exact Or.inl ⟨Tryd.f142, _, Tryd.func142, rfl, k142⟩
              · cases h
            · skip
              rcases cond_some h with ⟨hb, h⟩ | ⟨_, h⟩
              · obtain rfl := Nat.eq_of_beq_eq_true hb; cases h; exact Or.inl ⟨Tryd.f143, _, Tryd.func143, rfl, k143⟩
              · cases h
          · skip
            rcases cond_some h with ⟨_, h⟩ | ⟨_, h⟩
            · skip
              rcases cond_some h with ⟨hb, h⟩ | ⟨_, h⟩
              · obtain rfl := Nat.eq_of_beq_eq_true hb; cases h; exact Or.inl ⟨Tryd.f146, _, Tryd.func146, rfl, k146⟩
              · cases h
            · skip
              rcases cond_some h with ⟨hb, h⟩ | ⟨_, h⟩
              · obtain rfl := Nat.eq_of_beq_eq_true hb; cases h; exact Or.inl ⟨Tryd.f147, _, Tryd.func147, rfl, k147⟩
              · cases h
    · skip
      rcases cond_some h with ⟨_, h⟩ | ⟨_, h⟩
      · skip
        rcases cond_some h with ⟨_, h⟩ | ⟨_, h⟩
        · skip
          rcases cond_some h with ⟨_, h⟩ | ⟨_, h⟩
          · skip
            rcases cond_some h with ⟨hb, h⟩ | ⟨_, h⟩
            · obtain rfl := Nat.eq_of_beq_eq_true hb; cases h; exact Or.inl ⟨Tryd.f148, _, Tryd.func148, rfl, k148⟩
            · cases h
          · skip
            rcases cond_some h with ⟨_, h⟩ | ⟨_, h⟩
            · skip
              rcases cond_some h with ⟨hb, h⟩ | ⟨_, h⟩
              · obtain rfl := Nat.eq_of_beq_eq_true hb; cases h; exact Or.inl ⟨Tryd.f149, _, Tryd.func149, rfl, k149⟩
              · cases h
            · skip
              rcases cond_some h with ⟨hb, h⟩ | ⟨_, h⟩
              · obtain rfl := Nat.eq_of_beq_eq_true hb; cases h; exact Or.inl ⟨Tryd.f152, _, Tryd.func152, rfl, k152⟩
              · cases h
        · skip
          rcases cond_some h with ⟨_, h⟩ | ⟨_, h⟩
          · skip
            rcases cond_some h with ⟨_, h⟩ | ⟨_, h⟩
            · skip
              rcases cond_some h with ⟨hb, h⟩ | ⟨_, h⟩
              · obtain rfl := Nat.eq_of_beq_eq_true hb; cases h; exact Or.inl ⟨Tryd.f153, _, Tryd.func153, rfl, k153⟩
              · cases h
            · skip
              rcases cond_some h with ⟨hb, h⟩ | ⟨_, h⟩
              · obtain rfl := Nat.eq_of_beq_eq_true hb; cases h; exact Or.inr ⟨0, rfl, k154⟩
              · cases h
          · skip
            rcases cond_some h with ⟨_, h⟩ | ⟨_, h⟩
            · skip
              rcases cond_some h with ⟨hb, h⟩ | ⟨_, h⟩
              · obtain rfl := Nat.eq_of_beq_eq_true hb; cases h; exact Or.inl ⟨Tryd.f155, _, Tryd.func155, rfl, k155⟩
              · cases h
            · skip
              rcases cond_some h with ⟨hb, h⟩ | ⟨_, h⟩
              · obtain rfl := Nat.eq_of_beq_eq_true hb; cases h; exact Or.inl ⟨Tryd.f156, _, Tryd.func156, rfl, k156⟩
              · cases h
      · skip
        rcases cond_some h with ⟨_, h⟩ | ⟨_, h⟩
        · skip
          rcases cond_some h with ⟨_, h⟩ | ⟨_, h⟩
          · skip
            rcases cond_some h with ⟨_, h⟩ | ⟨_, h⟩
            · skip
              rcases cond_some h with ⟨hb, h⟩ | ⟨_, h⟩
              · obtain rfl := Nat.eq_of_beq_eq_true hb; cases h; exact Or.inl ⟨Tryd.f157, _, Tryd.func157, rfl, k157⟩
              · cases h
            · skip
              rcases cond_some h with ⟨hb, h⟩ | ⟨_, h⟩
              · obtain rfl := Nat.eq_of_beq_eq_true hb; cases h; exact Or.inr ⟨1, rfl, k162⟩
              · cases h
          · skip
            rcases cond_some h with ⟨_, h⟩ | ⟨_, h⟩
            · skip
              rcases cond_some h with ⟨hb, h⟩ | ⟨_, h⟩
              · obtain rfl := Nat.eq_of_beq_eq_true hb; cases h; exact Or.inl ⟨Tryd.f169, _, Tryd.func169, rfl, k169⟩
              · cases h
            · skip
              rcases cond_some h with ⟨hb, h⟩ | ⟨_, h⟩
              · obtain rfl := Nat.eq_of_beq_eq_true hb; cases h; exact Or.inl ⟨Tryd.f170, _, Tryd.func170, rfl, k170⟩
              · cases h
        · skip
          rcases cond_some h with ⟨_, h⟩ | ⟨_, h⟩
          · skip
            rcases cond_some h with ⟨_, h⟩ | ⟨_, h⟩
            · skip
              rcases cond_some h with ⟨hb, h⟩ | ⟨_, h⟩
              · obtain rfl := Nat.eq_of_beq_eq_true hb; cases h; exact Or.inl ⟨Tryd.f171, _, Tryd.func171, rfl, k171⟩
              · cases h
            · skip
              rcases cond_some h with ⟨hb, h⟩ | ⟨_, h⟩
              · obtain rfl := Nat.eq_of_beq_eq_true hb; cases h; exact Or.inl ⟨Tryd.f173, _, Tryd.func173, rfl, k173⟩
              · cases h
          · skip
            rcases cond_some h with ⟨_, h⟩ | ⟨_, h⟩
            · skip
              rcases cond_some h with ⟨hb, h⟩ | ⟨_, h⟩
              · obtain rfl := Nat.eq_of_beq_eq_true hb; cases h; exact Or.inl ⟨Tryd.f174, _, Tryd.func174, rfl, k174⟩
              · cases h
            · skip
              rcases cond_some h with ⟨hb, h⟩ | ⟨_, h⟩
              · obtain rfl := Nat.eq_of_beq_eq_true hb; cases h; exact Or.inl ⟨Tryd.f179, _, Tryd.func179, rfl, k179⟩
              · cases h
end Go.Am

/-
  What all laws of the seat share: a world that holds the listed tables, and the cells of the table around.
-/
set_option maxRecDepth 100000
set_option maxHeartbeats 4000000
namespace Go.Proofs.YtlbgcpmiedjmoaaDoor.Laid
open Go.ChangeShapes Go.WideShapes Go.ChangeAt Go.RowKit Go.Am

theorem own : ownKnob Tryd.prog.godebug = none := by kernel_rfl
theorem laidOut : laidOutB Tryd.prog = true := by kernel_rfl
theorem rowed : mapsRowed Tryd.prog = true := by kernel_rfl
theorem full : ∀ t e, t < Tryd.prog.types.size → Tryd.prog.underlying t = some (.slice e) → 0 < Tryd.prog.cellsOf e := slices_full_of Tryd.prog (by kernel_rfl)
theorem gAround : Tryd.prog.globalNamed "custos/image.around" = some 0 := by kernel_rfl

theorem around_cells {W : World} (h : laidMetH Tryd.prog Rows.imageGreysRow.laid W) : ∀ t ∈ aroundT, ∀ (i : Nat) (v : AVal), t.2[i]? = some v → ∃ x, emb (fun _ => none) v = some x ∧ W.cell? ⟨t.1, i, none⟩ = some x := by
  have h1 : laidMet Tryd.prog Rows.imageGreysRow.laid W := h
  intro t ht i v hv
  simp only [aroundT, List.mem_singleton] at ht
  subst ht
  have key : ∀ (l : List Value), flatD 3 Rows.laid_custos_image_around (Hd := Unit) = l → embL (fun _ => none) [.int .i64 0, .int .i64 (-1), .int .i64 1, .int .i64 (-1), .int .i64 1, .int .i64 0, .int .i64 1, .int .i64 1, .int .i64 0, .int .i64 1, .int .i64 (-1), .int .i64 1, .int .i64 (-1), .int .i64 0, .int .i64 (-1), .int .i64 (-1)] = some l → ∃ x, emb (fun _ => none) v = some x ∧ W.cell? ⟨0, i, none⟩ = some x := by
    intro l h2 h3
    obtain ⟨x, h4, h5⟩ := embL_get h3 hv
    exact ⟨x, h4, laid_cells laidOut rowed h1 (by simp [Rows.imageGreysRow]) (n := 3) gAround (by kernel_rfl : (Tryd.prog.globals[0]?).map (·.type) = some 182) (by decide +kernel) (by kernel_rfl) h2 h5⟩
  exact key _ rfl (by kernel_rfl)

noncomputable def laidWorld (os : Os) : World :=
  let h := (World.holding Tryd.prog os ⟨#[], #[], []⟩).heap
  let h := h.modify 0 fun
    | .cells _ t frozen => .cells #[.int .i64 0, .int .i64 (-1), .int .i64 1, .int .i64 (-1), .int .i64 1, .int .i64 0, .int .i64 1, .int .i64 1, .int .i64 0, .int .i64 1, .int .i64 (-1), .int .i64 1, .int .i64 (-1), .int .i64 0, .int .i64 (-1), .int .i64 (-1)] t frozen
    | o => o
  let h := h.modify 2 fun
    | .cells _ t frozen => .cells #[.int .u64 1, .int .u64 10, .int .u64 100, .int .u64 1000, .int .u64 10000, .int .u64 100000, .int .u64 1000000, .int .u64 10000000, .int .u64 100000000, .int .u64 1000000000, .int .u64 10000000000, .int .u64 100000000000, .int .u64 1000000000000, .int .u64 10000000000000, .int .u64 100000000000000, .int .u64 1000000000000000, .int .u64 10000000000000000, .int .u64 100000000000000000, .int .u64 1000000000000000000, .int .u64 10000000000000000000] t frozen
    | o => o
  let h := h.modify 3 fun
    | .cells _ t frozen => .cells #[.int .u8 0, .int .u8 1, .int .u8 28, .int .u8 2, .int .u8 29, .int .u8 14, .int .u8 24, .int .u8 3, .int .u8 30, .int .u8 22, .int .u8 20, .int .u8 15, .int .u8 25, .int .u8 17, .int .u8 4, .int .u8 8, .int .u8 31, .int .u8 27, .int .u8 13, .int .u8 23, .int .u8 21, .int .u8 19, .int .u8 16, .int .u8 7, .int .u8 26, .int .u8 12, .int .u8 18, .int .u8 6, .int .u8 11, .int .u8 5, .int .u8 10, .int .u8 9] t frozen
    | o => o
  let h := h.modify 4 fun
    | .cells _ t frozen => .cells #[.int .u8 0, .int .u8 1, .int .u8 56, .int .u8 2, .int .u8 57, .int .u8 49, .int .u8 28, .int .u8 3, .int .u8 61, .int .u8 58, .int .u8 42, .int .u8 50, .int .u8 38, .int .u8 29, .int .u8 17, .int .u8 4, .int .u8 62, .int .u8 47, .int .u8 59, .int .u8 36, .int .u8 45, .int .u8 43, .int .u8 51, .int .u8 22, .int .u8 53, .int .u8 39, .int .u8 33, .int .u8 30, .int .u8 24, .int .u8 18, .int .u8 12, .int .u8 5, .int .u8 63, .int .u8 55, .int .u8 48, .int .u8 27, .int .u8 60, .int .u8 41, .int .u8 37, .int .u8 16, .int .u8 46, .int .u8 35, .int .u8 44, .int .u8 21, .int .u8 52, .int .u8 32, .int .u8 23, .int .u8 11, .int .u8 54, .int .u8 26, .int .u8 40, .int .u8 15, .int .u8 34, .int .u8 20, .int .u8 31, .int .u8 10, .int .u8 25, .int .u8 14, .int .u8 19, .int .u8 9, .int .u8 13, .int .u8 8, .int .u8 7, .int .u8 6] t frozen
    | o => o
  { World.holding Tryd.prog os ⟨#[], #[], []⟩ with heap := h }
end Go.Proofs.YtlbgcpmiedjmoaaDoor.Laid

/- Regions without order in contracts, with rows made and guards. -/
namespace Go.Am
open Go

def madeOk (op : ROp) (fr : AFrame) (ref : Nat) (H : AHeap) : Bool := match op.made fr with
  | some (cs, e, _) => ghostIs H ref cs e
  | none => false

/-- The rest of a region: n are done; the next row made is ref; E: the effects so far, with the heaps before them; Rd: what was read or made so far. -/
def WpE (call : ACall) (n ref : Nat) (its : List DItem) (H0 : AHeap) (E : List (Nat × AHeap)) (Rd : List (Nat × (AHeap → Bool))) (fr : AFrame) (H : AHeap) (K : AFrame → AHeap → Prop) : Prop :=
  ∀ R0 E0 Rd0, R0.length = n → (∀ p ∈ E0, p ∈ E) → (∀ p ∈ Rd0, (p.1, DRec.okAt p.2) ∈ Rd) → DInv R0 H0 H E0 Rd0 → ∃ R1 fr' H', dtext call its ref fr H = some (R1, fr', H') ∧ dcheck (R0 ++ R1) H0 (R0 ++ R1) 0 = true ∧ K fr' H'

/-- Every effect so far comes before, or did not matter. -/
def AllE (b : Nat) (ok : AHeap → Prop) : List (Nat × AHeap) → Prop
  | [] => True
  | p :: l => (b.testBit p.1 = true ∨ ok p.2) ∧ AllE b ok l
/-- Everything read so far comes before, or still holds. -/
def AllR (b : Nat) (H : AHeap) : List (Nat × (AHeap → Bool)) → Prop
  | [] => True
  | p :: l => (b.testBit p.1 = true ∨ p.2 H = true) ∧ AllR b H l
theorem AllE.imp {b : Nat} {ok ok' : AHeap → Prop} (f : ∀ H, ok H → ok' H) : ∀ {l : List (Nat × AHeap)}, AllE b ok l → AllE b ok' l
  | [], _ => trivial
  | _ :: _, h => ⟨h.1.imp id (f _), AllE.imp f h.2⟩
theorem AllE.get {b : Nat} {ok : AHeap → Prop} {l : List (Nat × AHeap)} (h : AllE b ok l) : ∀ p ∈ l, b.testBit p.1 = true ∨ ok p.2 := by
  induction l with
  | nil => simp
  | cons q l ih => intro p hp; rcases List.mem_cons.1 hp with rfl | hp; exact h.1; exact ih h.2 p hp
theorem AllR.get {b : Nat} {H : AHeap} {l : List (Nat × (AHeap → Bool))} (h : AllR b H l) : ∀ p ∈ l, b.testBit p.1 = true ∨ p.2 H = true := by
  induction l with
  | nil => simp
  | cons q l ih => intro p hp; rcases List.mem_cons.1 hp with rfl | hp; exact h.1; exact ih h.2 p hp

theorem madeOk_eq {r : DRec} (hc : Nat.beq r.cls 3 = true) : r.okAt = madeOk r.o.op r.fr r.ref := by
  funext H
  unfold DRec.okAt madeOk
  rw [hc]
  rfl

section
variable {call : ACall} {lf n ref : Nat} {its : List DItem} {H0 H H1 : AHeap} {E : List (Nat × AHeap)} {Rd : List (Nat × (AHeap → Bool))} {fr : AFrame} {K : AFrame → AHeap → Prop} {Q : RExit → AFrame → AHeap → Prop} {op : ROp} {v : AVal} {b : Nat} {pre : Bool} {g : Option (Nat × Bool)}

theorem WpE.nil (h : K fr H) : WpE call n ref [] H0 E Rd fr H K := fun R0 E0 Rd0 _ _ _ hI => ⟨[], fr, H, rfl, by rw [List.append_nil]; exact hI.done, h⟩

theorem WpE.next {it : DItem} {R0 : List DRec} {r : DRec} {E' : List (Nat × AHeap)} {Rd' : List (Nat × (AHeap → Bool))} {E0' : List (Nat × AHeap)} {Rd0' : List (Nat × DRec)} {fr1 : AFrame} (hn : R0.length = n) (he : ∀ p ∈ E0', p ∈ E') (hrd : ∀ p ∈ Rd0', (p.1, DRec.okAt p.2) ∈ Rd')
    (hI : DInv (R0 ++ [r]) H0 H1 E0' Rd0') (hd : ∀ R1 fr' H', dtext call its (nextRef it.cls ref) fr1 H1 = some (R1, fr', H') → dtext call (it :: its) ref fr H = some (r :: R1, fr', H')) (h : WpE call (n + 1) (nextRef it.cls ref) its H0 E' Rd' fr1 H1 K) :
    ∃ R1 fr' H', dtext call (it :: its) ref fr H = some (R1, fr', H') ∧ dcheck (R0 ++ R1) H0 (R0 ++ R1) 0 = true ∧ K fr' H' := by
  obtain ⟨R1, fr', H', h1, h2, h3⟩ := h (R0 ++ [r]) E0' Rd0' (by simp [hn]) he hrd hI
  exact ⟨r :: R1, fr', H', hd _ _ _ h1, by rw [List.append_assoc] at h2; exact h2, h3⟩

theorem WpE.skip {d : Option Nat} {cls : Nat} (hw : ROper.wanted fr ⟨d, op, g⟩ = false) (h : WpE call (n + 1) (nextRef cls ref) its H0 E Rd (put fr d aundef) H K) : WpE call n ref (⟨⟨d, op, g⟩, b, cls, pre⟩ :: its) H0 E Rd fr H K := fun R0 E0 Rd0 hn he hrd hI =>
  WpE.next (r := ⟨⟨d, op, g⟩, b, cls, fr, aundef, false, false, H, ref⟩) hn he hrd (hI.plain rfl rfl) (fun R1 fr' H' hd => by
    simp only [dtext, hw, hd]) h
theorem WpE.pure {d : Option Nat} (hw : ROper.wanted fr ⟨d, op, g⟩ = true) (hx : op.exec noCall fr H = some (v, H)) (h : WpE call (n + 1) ref its H0 E Rd (put fr d v) H K) : WpE call n ref (⟨⟨d, op, g⟩, b, 0, pre⟩ :: its) H0 E Rd fr H K := fun R0 E0 Rd0 hn he hrd hI =>
  WpE.next (r := ⟨⟨d, op, g⟩, b, 0, fr, v, true, false, H, ref⟩) hn he hrd (hI.plain rfl rfl) (fun R1 fr' H' hd => by
    simp only [dtext, hw, dstep, look_of hx rfl]
    simp only [Nat.beq, nextRef] at hd ⊢
    simp [hd]) h
theorem WpE.look {d : Option Nat} (hw : ROper.wanted fr ⟨d, op, g⟩ = true) (hx : op.look fr H = some v) (hE : AllE b (fun H2 => op.look fr H2 = some v) E) (h : WpE call (n + 1) ref its H0 E ((n, readOk op fr v) :: Rd) (put fr d v) H K) : WpE call n ref (⟨⟨d, op, g⟩, b, 1, pre⟩ :: its) H0 E Rd fr H K := fun R0 E0 Rd0 hn he hrd hI =>
  WpE.next (r := ⟨⟨d, op, g⟩, b, 1, fr, v, true, false, H, ref⟩) (Rd0' := Rd0 ++ [(R0.length, ⟨⟨d, op, g⟩, b, 1, fr, v, true, false, H, ref⟩)]) hn he (by
      intro p hp
      rcases List.mem_append.1 hp with hp | hp
      · exact List.mem_cons_of_mem _ (hrd p hp)
      · simp only [List.mem_singleton] at hp
        subst hp
        rw [hn, readOk_eq rfl]
        exact List.mem_cons_self)
    (hI.read rfl (okAt_look rfl hx) (fun p hp => (hE.get p (he p hp)).imp id fun q => okAt_look rfl q)) (fun R1 fr' H' hd => by
    simp only [dtext, hw, dstep, hx]
    simp only [Nat.beq, nextRef] at hd ⊢
    simp [hd]) h
theorem WpE.read {d : Option Nat} (hw : ROper.wanted fr ⟨d, op, g⟩ = true) (hx : op.exec noCall fr H = some (v, H)) (hE : AllE b (fun H2 => op.exec noCall fr H2 = some (v, H2)) E) (h : WpE call (n + 1) ref its H0 E ((n, readOk op fr v) :: Rd) (put fr d v) H K) : WpE call n ref (⟨⟨d, op, g⟩, b, 1, pre⟩ :: its) H0 E Rd fr H K :=
  WpE.look hw (look_of hx rfl) (AllE.imp (fun H2 q => look_of q rfl) hE) h
theorem WpE.effect {d : Option Nat} (hw : ROper.wanted fr ⟨d, op, g⟩ = true) (hx : op.exec call fr H = some (v, H1)) (hR : AllR b H1 Rd) (h : WpE call (n + 1) ref its H0 ((n, H) :: E) Rd (put fr d v) H1 K) : WpE call n ref (⟨⟨d, op, g⟩, b, 2, pre⟩ :: its) H0 E Rd fr H K := fun R0 E0 Rd0 hn he hrd hI =>
  WpE.next (r := ⟨⟨d, op, g⟩, b, 2, fr, v, true, true, H1, ref⟩) (E0' := E0 ++ [(n, H)]) hn (by
      intro p hp
      rcases List.mem_append.1 hp with hp | hp
      · exact List.mem_cons_of_mem _ (he p hp)
      · simp only [List.mem_singleton] at hp
        subst hp
        exact List.mem_cons_self) hrd (by
      have := hI.effect (e := ⟨⟨d, op, g⟩, b, 2, fr, v, true, true, H1, ref⟩) rfl rfl fun p hp => hR.get (p.1, p.2.okAt) (hrd p hp)
      rw [hn] at this; exact this) (fun R1 fr' H' hd => by
    simp only [dtext, hw, dstep, hx]
    simp only [Nat.beq, nextRef] at hd ⊢
    simp [hd]) h
theorem WpE.made {d : Option Nat} {cs : List AVal} {e : TypeId} {k : Nat → AVal} (hw : ROper.wanted fr ⟨d, op, g⟩ = true) (hm : op.made fr = some (cs, e, k)) (hg : ghostIs H ref cs e = true) (hE : AllE b (fun H2 => ghostIs H2 ref cs e = true) E) (h : WpE call (n + 1) (ref + 1) its H0 E ((n, madeOk op fr ref) :: Rd) (put fr d (k ref)) H K) : WpE call n ref (⟨⟨d, op, g⟩, b, 3, pre⟩ :: its) H0 E Rd fr H K := fun R0 E0 Rd0 hn he hrd hI =>
  WpE.next (r := ⟨⟨d, op, g⟩, b, 3, fr, k ref, true, false, H, ref⟩) (Rd0' := Rd0 ++ [(R0.length, ⟨⟨d, op, g⟩, b, 3, fr, k ref, true, false, H, ref⟩)]) hn he (by
      intro p hp
      rcases List.mem_append.1 hp with hp | hp
      · exact List.mem_cons_of_mem _ (hrd p hp)
      · simp only [List.mem_singleton] at hp
        subst hp
        rw [hn, madeOk_eq rfl]
        exact List.mem_cons_self)
    (hI.read rfl (by simp only [DRec.okAt, Nat.beq, hm, hg]) (fun p hp => (hE.get p (he p hp)).imp id fun q => by simp only [DRec.okAt, Nat.beq, hm, q])) (fun R1 fr' H' hd => by
    simp only [dtext, hw, dstep]
    simp only [Nat.beq, nextRef, hm, hg] at hd ⊢
    simp [hd]) h

theorem ghost_of {r : Nat} {cs : List AVal} {e : TypeId} [h : HasRow H r cs true (2 * e)] : ghostIs H r cs e = true := by
  unfold ghostIs
  have hlt := h.lt
  simp only [h.get, abeqL_refl, Nat.beq_refl, Bool.and_true, Bool.and_self]
  simpa using hlt
theorem made_of {r : Nat} {cs : List AVal} {e : TypeId} {k : Nat → AVal} (hm : op.made fr = some (cs, e, k)) [h : HasRow H r cs true (2 * e)] : madeOk op fr r H = true := by
  unfold madeOk
  rw [hm]
  exact ghost_of

theorem Wp.dregionE (os : List AObj) (ho : oracle its H.n fr H = os) (h : WpE call 0 H.n its (pushAll H os) [] [] fr (pushAll H os) fun fr' H' => Q .normal fr' H') : Wp call lf (.dregion its) fr H Q := by
  obtain ⟨R1, fr', H', h1, h2, h3⟩ := h [] [] [] rfl (by simp) (by simp) (DInv.nil _)
  refine ⟨.normal, fr', H', ?_, h3⟩
  simp only [RCode.exec, ho, h1]
  simp only [List.nil_append] at h2
  rw [h2]
/-- No rows are made. -/
theorem Wp.dregion0 (hno : (its.all fun it => !(Nat.beq it.cls 3)) = true) (h : WpE call 0 H.n its H [] [] fr H fun fr' H' => Q .normal fr' H') : Wp call lf (.dregion its) fr H Q :=
  Wp.dregionE [] (oracle_none its H.n fr H hno) h

theorem oracle_pre {it : DItem} {os : List AObj} {v : AVal} {H2 : AHeap} (hc : Nat.beq it.cls 3 = false) (hp : it.pre = true) (hw : it.o.wanted fr = true) (hx : it.o.op.exec noCall fr H = some (v, H2)) (h : oracle its ref (put fr it.o.dst v) H = os) : oracle (it :: its) ref fr H = os := by
  simp only [oracle, hc, hp, hw, hx, h]
theorem oracle_not {it : DItem} {os : List AObj} (hc : Nat.beq it.cls 3 = false) (hp : it.pre = false) (h : oracle its ref fr H = os) : oracle (it :: its) ref fr H = os := by
  simp only [oracle, hc, hp, h]
theorem oracle_made {it : DItem} {os : List AObj} {cs : List AVal} {e : TypeId} {k : Nat → AVal} (hc : Nat.beq it.cls 3 = true) (hw : it.o.wanted fr = true) (hm : it.o.op.made fr = some (cs, e, k)) (h : oracle its (ref + 1) (put fr it.o.dst (k ref)) H = os) : oracle (it :: its) ref fr H = .row cs true (2 * e) :: os := by
  simp only [oracle, hc, hw, hm, h]
end

theorem WpE.pcall {ext : Exts} {prog : FuncId → Option RFunc} {m dd D : Nat} {f : FuncId} {o : ROpd} {l : List ROpd} {args : List AVal} {v : AVal} {d : Option Nat} {n ref : Nat} {its : List DItem} {H0 H : AHeap} {E : List (Nat × AHeap)} {Rd : List (Nat × (AHeap → Bool))} {fr : AFrame} {K : AFrame → AHeap → Prop} {b : Nat} {pre : Bool} {g : Option (Nat × Bool)}
    (hw : ROper.wanted fr ⟨d, .call o l, g⟩ = true) (hn : fuel0 + D ≤ m) (hf : o.ev fr = .func (.func f) [] []) (hl : l.map (·.ev fr) = args) [hc : PureCon ext prog f args H dd v] (hd : Nat.ble dd D = true)
    (h : ∀ H1, ExtI H H1 → AllR b H1 Rd ∧ WpE (callN ext prog m) (n + 1) ref its H0 ((n, H) :: E) Rd (put fr d v) H1 K) : WpE (callN ext prog m) n ref (⟨⟨d, .call o l, g⟩, b, 2, pre⟩ :: its) H0 E Rd fr H K := by
  obtain ⟨v', H1, hx, hv, hext⟩ := exec_con hc.con (Nat.le_trans (Nat.add_le_add_left (Nat.le_of_ble_eq_true hd) _) hn) hf hl
  subst hv
  obtain ⟨h1, h2⟩ := h H1 ⟨hext⟩
  exact WpE.effect hw hx h1 h2
theorem WpE.con {ext : Exts} {prog : FuncId → Option RFunc} {m dd D : Nat} {f : FuncId} {o : ROpd} {l : List ROpd} {args : List AVal} {R : AVal → AHeap → Prop} {d : Option Nat} {n ref : Nat} {its : List DItem} {H0 H : AHeap} {E : List (Nat × AHeap)} {Rd : List (Nat × (AHeap → Bool))} {fr : AFrame} {K : AFrame → AHeap → Prop} {b : Nat} {pre : Bool} {g : Option (Nat × Bool)}
    (hw : ROper.wanted fr ⟨d, .call o l, g⟩ = true) (hn : fuel0 + D ≤ m) (hd : Nat.ble dd D = true) (hf : o.ev fr = .func (.func f) [] []) (hl : l.map (·.ev fr) = args) (hc : Con ext prog dd f args H R)
    (h : ∀ v H1, R v H1 → AllR b H1 Rd ∧ WpE (callN ext prog m) (n + 1) ref its H0 ((n, H) :: E) Rd (put fr d v) H1 K) : WpE (callN ext prog m) n ref (⟨⟨d, .call o l, g⟩, b, 2, pre⟩ :: its) H0 E Rd fr H K := by
  obtain ⟨v', H1, hx, hv⟩ := exec_con hc (Nat.le_trans (Nat.add_le_add_left (Nat.le_of_ble_eq_true hd) _) hn) hf hl
  obtain ⟨h1, h2⟩ := h v' H1 hv
  exact WpE.effect hw hx h1 h2
section
variable {call : ACall} {fr : AFrame} {H : AHeap}
theorem exec_ldN {a : ROpd} {n r off : Nat} {cs : List AVal} {rw : Bool} {e : TypeId} {l : List AVal} (ha : a.ev fr = .ptr r off) [hg : HasRow H r cs rw e] (hv : Nat.ble (off + n) cs.length = true) (hl : (cs.drop off).take n = l) : (ROp.load (some n) a).exec call fr H = some (.agg l, H) := by
  subst hl
  simp only [ROp.exec, ha, aLoad, M.bind, aRow, if_pos hg.lt, hg.get, if_pos (Nat.le_of_ble_eq_true hv), M.pure]
theorem exec_lenP {x : ROpd} {p : AVal} {sz n : Nat} {cs : List AVal} (hx : x.ev fr = p) [s : SliceAt H p sz n cs] : (ROp.lenS x).exec call fr H = some (.int .i64 n, H) := by
  simp only [ROp.exec, hx, s.lenS, M.ofOption, M.pure]
theorem exec_ldB {a : ROpd} {p : AVal} {j : Nat} {l : List UInt8} (ha : a.ev fr = .ptr (rowOf p) (offOf p + j)) [s : BytesI H p l] (hj : j < l.length) : (ROp.load none a).exec call fr H = some (.int .u8 (l[j].toNat : Int), H) := exec_ldP ha (get_bytes hj)
theorem exec_ldI {a : ROpd} {p : AVal} {j : Nat} {l : List Int} (ha : a.ev fr = .ptr (rowOf p) (offOf p + j)) [s : IntsI H p l] (hj : j < l.length) : (ROp.load none a).exec call fr H = some (.int .i64 l[j], H) := exec_ldP ha (get_ints hj)
theorem exec_build {z : List AVal} {ps : List (Nat × Nat × ROpd)} {cs : List AVal} (hf : aFill fr z ps = some cs) : (ROp.build z ps).exec call fr H = some (.agg cs, H) := by simp only [ROp.exec, hf, M.pure]
end

/- ===== append to nothing: copies ===== -/
theorem exec_appendNil {H : AHeap} {p : AVal} {l : List UInt8} [h : BytesI H p l] (hl : l.length < 2 ^ 40) (e : TypeId) : ∃ v H', aAppend e 1 1 .nslice p H = some (v, H') ∧ BytesI H' v l ∧ FreshS H v ∧ WrS H' v ∧ Ext H H' := by
  rcases h.it with ⟨rfl, h0, _⟩ | ⟨r, off, cap, row, rw, e0, rfl, hr, hg, hle, hc, _⟩
  · have : l = [] := List.eq_nil_of_length_eq_zero h0
    subst this
    exact ⟨.nslice, H, rfl, ⟨Or.inl ⟨rfl, rfl, rfl⟩⟩, ⟨fun _ _ _ _ _ e => by cases e⟩, ⟨fun _ _ _ _ _ e => by cases e⟩, Ext.refl H⟩
  · have hf : aFirst 1 l.length (.slice r off l.length cap 1) H = some (cellsB l, H) := by
      simp only [aFirst, ne_eq, not_true, if_false, M.bind, aRow, if_pos hr, hg, if_pos hle, hc, M.pure]
    by_cases h0 : l = []
    · subst h0
      refine ⟨.nslice, H, ?_, ⟨Or.inl ⟨rfl, rfl, rfl⟩⟩, ⟨fun _ _ _ _ _ e => by cases e⟩, ⟨fun _ _ _ _ _ e => by cases e⟩, Ext.refl H⟩
      simp only [aAppend, aLenOf, M.bind, hf]
      rfl
    · have hn0 : ¬ l.length = 0 := by simpa using h0
      refine ⟨.slice H.n 0 l.length none 1, H.push (.row (cellsB l) true (2 * e)), ?_, ⟨Or.inr ⟨H.n, 0, none, cellsB l, true, 2 * e, rfl, Nat.lt_succ_self _, push_get_eq, by simp [cellsB_length], by rw [List.drop_zero, List.take_of_length_le (by rw [cellsB_length]; omega)], Nat.le_refl _⟩⟩, ⟨fun _ _ _ _ _ e => by cases e; exact Nat.le_refl _⟩, ⟨fun _ _ _ _ _ e => by cases e; exact ⟨_, _, push_get_eq⟩⟩, (Ext.refl H).push _⟩
      simp only [aAppend, aLenOf, M.bind, hf, cellsB_one, cellsB_length]
      have hroom : 2 * l.length * 1 ≤ 2 ^ 48 := by omega
      simp only [Bool.not_true, Nat.mul_one, ne_eq, not_true, decide_false, Nat.reduceEqDiff, Bool.or_false, Bool.false_eq_true, if_false, hn0]
      rw [Nat.mul_one] at hroom
      simp only [if_pos hroom, M.bind, aNew, M.pure]
theorem WpX.appendNil {call : ACall} {fr : AFrame} {H : AHeap} {K : AVal → AHeap → Prop} {e : TypeId} {x y : ROpd} {p : AVal} {l : List UInt8} (hx : x.ev fr = .nslice) (hy : y.ev fr = p) [h : BytesI H p l] (hl : l.length < 2 ^ 40)
    (hk : ∀ v H', BytesI H' v l → FreshS H v → WrS H' v → ExtI H H' → K v H') : WpX (.append e 1 1 x y) call fr H K := by
  obtain ⟨v, H', h1, h2, h3, h4, h5⟩ := exec_appendNil (H := H) (p := p) hl e
  exact ⟨v, H', by simp only [ROp.exec, hx, hy]; exact h1, hk v H' h2 h3 h4 ⟨h5⟩⟩
end Go.Am

/- Bytes: bits, counts, one-byte slices. -/
namespace Go.Am
open Go

theorem ofInt_u8 (a : UInt8) : BitVec.ofInt 8 (a.toNat : Int) = a.toBitVec := by
  apply BitVec.eq_of_toNat_eq
  rw [BitVec.ofInt_natCast, BitVec.toNat_ofNat]
  have := a.toNat_lt
  exact Nat.mod_eq_of_lt (by omega)
theorem wrap_u8 {n : Nat} (h : n < 256) : IntKind.u8.wrap (n : Int) = (n : Int) := by
  have h1 : IntKind.u8.wrap (n : Int) = if (false && decide ((n : Int) % 2 ^ 8 ≥ 2 ^ 7)) = true then (n : Int) % 2 ^ 8 - 2 ^ 8 else (n : Int) % 2 ^ 8 := rfl
  rw [h1]
  simp only [Bool.false_and, Bool.false_eq_true, if_false]
  omega
theorem bits_xor (a b : UInt8) : Go.bits .xor .u8 (a.toNat : Int) (b.toNat : Int) = ((a ^^^ b).toNat : Int) := by
  show IntKind.u8.wrap ((BitVec.ofInt 8 (a.toNat : Int) ^^^ BitVec.ofInt 8 (b.toNat : Int)).toNat : Int) = _
  rw [ofInt_u8, ofInt_u8]
  exact wrap_u8 (by have := (a ^^^ b).toNat_lt; exact this)
theorem bits_and (a b : UInt8) : Go.bits .and .u8 (a.toNat : Int) (b.toNat : Int) = ((a &&& b).toNat : Int) := by
  show IntKind.u8.wrap ((BitVec.ofInt 8 (a.toNat : Int) &&& BitVec.ofInt 8 (b.toNat : Int)).toNat : Int) = _
  rw [ofInt_u8, ofInt_u8]
  exact wrap_u8 (by have := (a &&& b).toNat_lt; exact this)
theorem bits_or (a b : UInt8) : Go.bits .or .u8 (a.toNat : Int) (b.toNat : Int) = ((a ||| b).toNat : Int) := by
  show IntKind.u8.wrap ((BitVec.ofInt 8 (a.toNat : Int) ||| BitVec.ofInt 8 (b.toNat : Int)).toNat : Int) = _
  rw [ofInt_u8, ofInt_u8]
  exact wrap_u8 (by have := (a ||| b).toNat_lt; exact this)
theorem bits_andNot (a b : UInt8) : Go.bits .andNot .u8 (a.toNat : Int) (b.toNat : Int) = ((a &&& ~~~b).toNat : Int) := by
  show IntKind.u8.wrap ((BitVec.ofInt 8 (a.toNat : Int) &&& ~~~(BitVec.ofInt 8 (b.toNat : Int))).toNat : Int) = _
  rw [ofInt_u8, ofInt_u8]
  exact wrap_u8 (by have := (a &&& ~~~b).toNat_lt; exact this)

class IsU8 (k : Int) (b : outParam UInt8) : Prop where
  eq : k = (b.toNat : Int)
instance : IsU8 0 0 := ⟨rfl⟩
instance : IsU8 1 1 := ⟨rfl⟩
instance {b : UInt8} : IsU8 (b.toNat : Int) b := ⟨rfl⟩
instance {H : AHeap} {r : Nat} {k : Int} {b : UInt8} {rw : Bool} {e : TypeId} [h : HasRow H r [.int .u8 k] rw e] [x : IsU8 k b] : BytesI H (.slice r 0 1 (some 1) 1) [b] :=
  ⟨Or.inr ⟨r, 0, some 1, _, rw, e, rfl, h.lt, h.get, by simp, by rw [x.eq]; rfl, Nat.le_refl _⟩⟩

theorem bytesOf_cellsB (l : List UInt8) : bytesOf (cellsB l) = some l := by
  induction l with
  | nil => rfl
  | cons b l ih =>
    show (match bytesOf (cellsB l) with | some l => some (UInt8.ofNat ((b.toNat : Int)).toNat :: l) | none => none) = _
    rw [ih]
    simp
theorem aBytesFn_at {H : AHeap} {p : AVal} {l : List UInt8} [h : BytesI H p l] (f : List UInt8 → AVal) : aBytesFn f p H = some (f l, H) := by
  rcases h.it with ⟨rfl, h0, _⟩ | ⟨r, off, cap, row, rw, e, rfl, hr, hg, hl, hc, _⟩
  · have : l = [] := List.eq_nil_of_length_eq_zero h0
    subst this; rfl
  · have hl' : off + l.length ≤ row.length := by omega
    have hc' : (row.drop off).take l.length = cellsB l := by rw [← hc, Nat.mul_one]
    simp only [aBytesFn, ne_eq, not_true, if_false, M.bind, aRow, if_pos hr, hg, if_pos hl', hc', bytesOf_cellsB, M.pure]

/-- Ink and paper alone. -/
def pxOk (l : List UInt8) : Bool := l.all fun b => b == 0 || b == 1
theorem count01 (l : List UInt8) : (l.count 0 + l.count 1 = l.length) ↔ pxOk l = true := by
  induction l with
  | nil => simp [pxOk]
  | cons b l ih =>
    have hle : l.count 0 + l.count 1 ≤ l.length := by
      clear ih
      induction l with
      | nil => simp
      | cons c l ihl =>
        simp only [List.count_cons, List.length_cons]
        by_cases h0 : c = 0
        · subst h0; simp; omega
        · by_cases h1 : c = 1
          · subst h1; simp; omega
          · simp [h0, h1]; omega
    simp only [pxOk, List.all_cons, Bool.and_eq_true, Bool.or_eq_true, beq_iff_eq, List.count_cons, List.length_cons] at ih ⊢
    by_cases h0 : b = 0
    · subst h0; simp at ih ⊢; rw [← ih]; omega
    · by_cases h1 : b = 1
      · subst h1; simp at ih ⊢; rw [← ih]; omega
      · simp [h0, h1]; omega
theorem count_le (l : List UInt8) (b : UInt8) : l.count b ≤ l.length := List.count_le_length
end Go.Am
namespace Go.Am
open Go
theorem bind_of {α β : Type} {x : M α} {f : α → M β} {H H' : AHeap} {a : α} (h : x H = some (a, H')) : M.bind x f H = f a H' := by simp [M.bind, h]
/-- append to an empty slice that the call has made -/
theorem exec_appendE {H : AHeap} {p : AVal} {l : List UInt8} {r : Nat} {e0 : TypeId} [h : BytesI H p l] [g : HasRow H r [] true e0] (hl : l.length < 2 ^ 40) (e : TypeId) :
    ∃ v H', aAppend e 1 1 (.slice r 0 0 (some 0) 1) p H = some (v, H') ∧ BytesI H' v l ∧ (∀ r' off len cap sz, v = .slice r' off len cap sz → r' = r ∨ H.n ≤ r') ∧ WrS H' v ∧ Ext H H' := by
  have hf : aLenOf p = some l.length ∧ aFirst 1 l.length p H = some (cellsB l, H) := by
    rcases h.it with ⟨rfl, h0, _⟩ | ⟨r, off, cap, row, rw, e0, rfl, hr, hg, hle, hc, _⟩
    · have : l = [] := List.eq_nil_of_length_eq_zero h0
      subst this; exact ⟨rfl, rfl⟩
    · exact ⟨rfl, by simp only [aFirst, ne_eq, not_true, if_false, M.bind, aRow, if_pos hr, hg, if_pos hle, hc, M.pure]⟩
  have hg1 := g.get
  have hg0 := g.lt
  by_cases h0 : l = []
  · subst h0
    refine ⟨.slice r 0 0 (some 0) 1, H, ?_, ⟨Or.inr ⟨r, 0, some 0, [], true, e0, rfl, hg0, hg1, by simp, by simp [cellsB], Nat.le_refl _⟩⟩, fun r' _ _ _ _ e => by cases e; exact Or.inl rfl, ⟨fun _ _ _ _ _ e => by cases e; exact ⟨_, _, hg1⟩⟩, Ext.refl H⟩
    simp only [aAppend, hf.1, M.bind, List.length_nil] at hf ⊢
    simp only [hf.2]
    simp [cellsB, M.bind, aRow, hg0, hg1, M.pure]
  · have hn0 : ¬ l.length = 0 := by simpa using h0
    refine ⟨.slice H.n 0 (0 + l.length) none 1, H.push (.row (cellsB l) true (2 * e)), ?_, ?_, fun r' _ _ _ _ e => by cases e; exact Or.inr (Nat.le_refl _), ⟨fun _ _ _ _ _ e => by cases e; exact ⟨_, _, push_get_eq⟩⟩, (Ext.refl H).push _⟩
    · simp only [aAppend, hf.1, M.bind, hf.2, cellsB_one, cellsB_length]
      have hroom : 2 * (0 + l.length) * 1 ≤ 2 ^ 48 := by omega
      have hcap : ¬ (0 + l.length ≤ 0) := by omega
      have ha : aRow r H = some (([], true), H) := by simp only [aRow, if_pos hg0, hg1]
      rw [Nat.mul_one] at hroom
      simp only [Bool.not_true, Nat.mul_one, ne_eq, not_true, decide_false, Nat.reduceEqDiff, Bool.or_false, Bool.false_eq_true, if_false, hn0, if_neg hcap]
      rw [bind_of ha]
      have hcond : 0 + 0 ≤ ([] : List AVal).length ∧ 2 * (0 + l.length) ≤ 2 ^ 48 := ⟨by simp, hroom⟩
      simp only [if_pos hcond]
      rfl
    · rw [Nat.zero_add]
      exact ⟨Or.inr ⟨H.n, 0, none, cellsB l, true, 2 * e, rfl, Nat.lt_succ_self _, push_get_eq, by simp [cellsB_length], by rw [List.drop_zero, List.take_of_length_le (by rw [cellsB_length]; omega)], Nat.le_refl _⟩⟩
theorem WpX.appendE {call : ACall} {fr : AFrame} {H : AHeap} {K : AVal → AHeap → Prop} {e e0 : TypeId} {x y : ROpd} {p : AVal} {l : List UInt8} {r : Nat} (hx : x.ev fr = .slice r 0 0 (some 0) 1) (hy : y.ev fr = p) [h : BytesI H p l] [g : HasRow H r [] true e0] (hl : l.length < 2 ^ 40)
    (hk : ∀ v H', BytesI H' v l → (∀ r' off len cap sz, v = .slice r' off len cap sz → r' = r ∨ H.n ≤ r') → WrS H' v → ExtI H H' → K v H') : WpX (.append e 1 1 x y) call fr H K := by
  obtain ⟨v, H', h1, h2, h3, h4, h5⟩ := exec_appendE (H := H) (p := p) (r := r) hl e
  exact ⟨v, H', by simp only [ROp.exec, hx, hy]; exact h1, hk v H' h2 h3 h4 ⟨h5⟩⟩
end Go.Am
namespace Go.Am
open Go
section
variable {call : ACall} {n ref : Nat} {its : List DItem} {H0 H : AHeap} {E : List (Nat × AHeap)} {Rd : List (Nat × (AHeap → Bool))} {fr : AFrame} {K : AFrame → AHeap → Prop} {b : Nat} {pre : Bool} {g : Option (Nat × Bool)}
theorem WpE.stB {d : Option Nat} {a x : ROpd} {p : AVal} {j : Nat} {l : List UInt8} {k : Int} (c : UInt8) (hw : ROper.wanted fr ⟨d, .store 1 a x, g⟩ = true) (ha : a.ev fr = .ptr (rowOf p) (offOf p + j)) (hx : x.ev fr = .int .u8 k) (hk : k = (c.toNat : Int)) [s : BytesI H p l] [w : WrS H p] (hj : j < l.length)
    (h : ∀ H1, BytesI H1 p (l.set j c) → WrS H1 p → ExtP H H1 p → AllR b H1 Rd ∧ WpE call (n + 1) ref its H0 ((n, H) :: E) Rd (put fr d aundef) H1 K) : WpE call n ref (⟨⟨d, .store 1 a x, g⟩, b, 2, pre⟩ :: its) H0 E Rd fr H K := by
  obtain ⟨v, H1, h1, rfl, h2, h3, h4⟩ := WpX.stB (call := call) (K := fun v H1 => v = aundef ∧ BytesI H1 p (l.set j c) ∧ WrS H1 p ∧ ExtP H H1 p) c ha hx hk hj fun H1 q1 q2 q3 => ⟨rfl, q1, q2, q3⟩
  obtain ⟨h5, h6⟩ := h H1 h2 h3 h4
  exact WpE.effect hw h1 h5 h6
end
theorem zip_range {op : UInt8 → UInt8 → UInt8} {l m : List UInt8} (h : l.length = m.length) : (List.range l.length).map (fun i => op (l.getD i 0) (m.getD i 0)) = List.zipWith op l m := by
  apply List.ext_getElem
  · simp [h]
  · intro i h1 h2
    simp at h1 h2
    have h3 : i < m.length := by omega
    simp [h1, h3]
end Go.Am

/- Steps that put in order only what is new. -/
namespace Go.Am
open Go

theorem ag0 (v : AVal) (vs : List AVal) : argFrame (v :: vs) 0 = v := rfl
theorem ag1 (v w : AVal) (vs : List AVal) : argFrame (v :: w :: vs) 1 = w := rfl
theorem ag2 (v w x : AVal) (vs : List AVal) : argFrame (v :: w :: x :: vs) 2 = x := rfl
theorem ag3 (v w x y : AVal) (vs : List AVal) : argFrame (v :: w :: x :: y :: vs) 3 = y := rfl
theorem ag4 (v w x y z : AVal) (vs : List AVal) : argFrame (v :: w :: x :: y :: z :: vs) 4 = z := rfl
theorem fx1 (fr : AFrame) : updL [] fr = fr := rfl
theorem fx2 (p : Nat × AVal) (l : List (Nat × AVal)) (fr : AFrame) : updL (p :: l) fr = upd (updL l fr) p.1 p.2 := rfl
theorem fx3 (g fr : AFrame) : mix [] g fr = fr := rfl
theorem fx4 (d : Nat) (D : List Nat) (g fr : AFrame) : mix (d :: D) g fr = upd (mix D g fr) d (g d) := rfl
theorem nrmS : (∀ (a b : AVal) l, (a :: l).set 4 b = a :: l.set 3 b) ∧ (∀ (a b : AVal) l, (a :: l).set 5 b = a :: l.set 4 b) ∧ (∀ (a b : AVal) l, (a :: l).set 6 b = a :: l.set 5 b) ∧ (∀ (a b : AVal) l, (a :: l).set 7 b = a :: l.set 6 b) ∧ (∀ (a b : AVal) l, (a :: l).set 8 b = a :: l.set 7 b) ∧ (∀ (a b : AVal) l, (a :: l).set 9 b = a :: l.set 8 b) ∧ (∀ (a b : AVal) l, (a :: l).set 10 b = a :: l.set 9 b) ∧ (∀ (a b : AVal) l, (a :: l).set 11 b = a :: l.set 10 b) ∧ (∀ (a b : AVal) l, (a :: l).set 12 b = a :: l.set 11 b) ∧ (∀ (a b : AVal) l, (a :: l).set 13 b = a :: l.set 12 b) ∧ (∀ (a b : AVal) l, (a :: l).set 14 b = a :: l.set 13 b) ∧ (∀ (a b : AVal) l, (a :: l).set 15 b = a :: l.set 14 b) := ⟨fun _ _ _ => rfl, fun _ _ _ => rfl, fun _ _ _ => rfl, fun _ _ _ => rfl, fun _ _ _ => rfl, fun _ _ _ => rfl, fun _ _ _ => rfl, fun _ _ _ => rfl, fun _ _ _ => rfl, fun _ _ _ => rfl, fun _ _ _ => rfl, fun _ _ _ => rfl⟩
theorem nrmK : (∀ v vs, argFrame (v :: vs) 0 = v) ∧ (∀ v w vs, argFrame (v :: w :: vs) 1 = w) ∧ (∀ v w x vs, argFrame (v :: w :: x :: vs) 2 = x) ∧ (∀ v w x y vs, argFrame (v :: w :: x :: y :: vs) 3 = y) ∧ (∀ v w x y z vs, argFrame (v :: w :: x :: y :: z :: vs) 4 = z) ∧ (∀ v w x y z u vs, argFrame (v :: w :: x :: y :: z :: u :: vs) 5 = u) ∧ (∀ fr, updL [] fr = fr) ∧ (∀ p l fr, updL (p :: l) fr = upd (updL l fr) p.1 p.2) ∧ (∀ g fr, mix [] g fr = fr) ∧ (∀ d D g fr, mix (d :: D) g fr = upd (mix D g fr) d (g d)) := ⟨ag0, ag1, ag2, ag3, ag4, fun _ _ _ _ _ _ _ => rfl, fx1, fx2, fx3, fx4⟩
theorem nrmL : (∀ fr t, ROpd.ev fr (.tmp t) = fr t) ∧ (∀ fr v, ROpd.ev fr (.val v) = v) ∧ (∀ fr d v i, upd fr d v i = if i = d then v else fr i) := ⟨fun _ _ => rfl, fun _ _ => rfl, upd_at⟩

section
variable {call : ACall} {lf : Nat} {fr : AFrame} {H : AHeap} {Q : RExit → AFrame → AHeap → Prop} {KF : AFrame → AHeap → Prop} {os : List ROper} {d : Nat}
/-- A region, what comes behind it out of sight. -/
theorem Fr.region {ops : List ROper} (h : ∀ KF : AFrame → AHeap → Prop, (∀ fr' H', Q .normal fr' H' → KF fr' H') → WpO call ops fr H KF) : Wp call lf (.region ops) fr H Q := Wp.region (h _ fun _ _ q => q)
theorem Fr.quiet {its : List DItem} {ops : List ROper} (hq : quiet its = true) (ho : opsOf its = ops) (h : ∀ KF : AFrame → AHeap → Prop, (∀ fr' H', Q .normal fr' H' → KF fr' H') → WpO call ops fr H KF) : Wp call lf (.dregion its) fr H Q := Wp.dquiet hq ho (h _ fun _ _ q => q)
theorem Fr.dregion0 {its : List DItem} (hno : (its.all fun it => !(Nat.beq it.cls 3)) = true) (h : ∀ KF : AFrame → AHeap → Prop, (∀ fr' H', Q .normal fr' H' → KF fr' H') → WpE call 0 H.n its H [] [] fr H KF) : Wp call lf (.dregion its) fr H Q := Wp.dregion0 hno (h _ fun _ _ q => q)
theorem Fr.dregionE {its : List DItem} (os : List AObj) (ho : oracle its H.n fr H = os) (h : ∀ KF : AFrame → AHeap → Prop, (∀ fr' H', Q .normal fr' H' → KF fr' H') → WpE call 0 H.n its (pushAll H os) [] [] fr (pushAll H os) KF) : Wp call lf (.dregion its) fr H Q := Wp.dregionE os ho (h _ fun _ _ q => q)

theorem Fo.ld {a : ROpd} {r off : Nat} {cs : List AVal} {rw : Bool} {e : TypeId} {v : AVal} (ha : a.ev fr = .ptr r off) [hg : HasRow H r cs rw e] (hv : cs[off]? = some v) (h : WpO call os (upd fr d v) H KF) : WpO call (⟨some d, .load none a, none⟩ :: os) fr H KF := WpO.do (WpX.ld ha hv h)
theorem Fo.ldN {a : ROpd} {n r off : Nat} {cs : List AVal} {rw : Bool} {e : TypeId} {l : List AVal} (ha : a.ev fr = .ptr r off) [hg : HasRow H r cs rw e] (hv : Nat.ble (off + n) cs.length = true) (hl : (cs.drop off).take n = l) (h : WpO call os (upd fr d (.agg l)) H KF) : WpO call (⟨some d, .load (some n) a, none⟩ :: os) fr H KF := WpO.do (WpX.ldN ha hv hl h)
theorem Fo.len {x : ROpd} {p v : AVal} {sz n : Nat} {cs : List AVal} (hx : x.ev fr = p) [s : SliceAt H p sz n cs] (hv : AVal.int .i64 n = v) (h : WpO call os (upd fr d v) H KF) : WpO call (⟨some d, .lenS x, none⟩ :: os) fr H KF := by subst hv; exact WpO.do (WpX.lenP hx h)
theorem Fo.now {op : ROp} {v v' : AVal} {H1 : AHeap} (_ : nowOk op = true) (hx : op.exec call fr H = some (v, H1)) (hv : v = v') (h : WpO call os (upd fr d v') H1 KF) : WpO call (⟨some d, op, none⟩ :: os) fr H KF := by subst hv; exact WpO.step rfl ⟨v, H1, hx, h⟩
theorem Fo.box {e : TypeId} {x : ROpd} {v : AVal} {cs : List AVal} (hx : x.ev fr = v) (hc : v.cells = cs) (h : WpO call os (upd fr d (.ptr H.n 0)) (H.push (.row cs true (2 * e))) KF) : WpO call (⟨some d, .box e x, none⟩ :: os) fr H KF := by subst hx hc; exact WpO.do (WpX.box h)
theorem Fo.new {e : TypeId} {cs : List AVal} (h : WpO call os (upd fr d (.ptr H.n 0)) (H.push (.row cs true (2 * e))) KF) : WpO call (⟨some d, .new e cs, none⟩ :: os) fr H KF := WpO.do (WpX.new h)
theorem Fo.bslice {e : TypeId} {sz len : Nat} {zero : List AVal} {parts : List (Nat × Nat × ROpd)} {cs cs' : List AVal} (hf : aFill fr zero parts = some cs) (hc : cs = cs') (h : WpO call os (upd fr d (.slice H.n 0 len (some len) sz)) (H.push (.row cs' true (2 * e))) KF) : WpO call (⟨some d, .buildSlice e sz len zero parts, none⟩ :: os) fr H KF := by
  subst hc
  exact WpO.step rfl ⟨_, _, by simp only [ROp.exec, hf, M.bind, aNew, M.pure], h⟩
theorem Fo.st {a x : ROpd} {n r off : Nat} {cs : List AVal} {e : TypeId} {v : AVal} {vs l : List AVal} (ha : a.ev fr = .ptr r off) (hx : x.ev fr = v) (hvs : v.cells = vs) (hn : Nat.beq vs.length n = true) [hg : HasRow H r cs true e] (hl : Nat.ble (off + vs.length) cs.length = true) (ho : vs.all AVal.one = true)
    (hs : setAt cs off vs = l) (h : WpO call os fr (H.set r (.row l true e)) KF) : WpO call (⟨none, .store n a x, none⟩ :: os) fr H KF := WpO.do' (WpX.st ha hx hvs hn hl ho hs h)
theorem Fo.idx {x i : ROpd} {p : AVal} {sz n o : Nat} {cs : List AVal} {k : IntKind} {a : Int} (hx : x.ev fr = p) (hi : i.ev fr = .int k a) [s : SliceAt H p sz n cs] (h0 : 0 ≤ a ∧ a < n) (ho : offOf p + a.toNat * sz = o) (h : WpO call os (upd fr d (.ptr (rowOf p) o)) H KF) : WpO call (⟨some d, .idxS sz x i, none⟩ :: os) fr H KF := by
  subst ho; exact WpO.do (WpX.idxP hx hi h0 h)
theorem Fo.ldB {a : ROpd} {p v : AVal} {j : Nat} {l : List UInt8} (ha : a.ev fr = .ptr (rowOf p) (offOf p + j)) [s : BytesI H p l] (hj : j < l.length) (hv : AVal.int .u8 (l[j].toNat : Int) = v) (h : WpO call os (upd fr d v) H KF) : WpO call (⟨some d, .load none a, none⟩ :: os) fr H KF := by
  subst hv; exact WpO.do (WpX.ldB ha hj h)
theorem Fo.build {z : List AVal} {ps : List (Nat × Nat × ROpd)} {cs cs' : List AVal} (hf : aFill fr z ps = some cs) (hc : cs = cs') (h : WpO call os (upd fr d (.agg cs')) H KF) : WpO call (⟨some d, .build z ps, none⟩ :: os) fr H KF := by
  subst hc; exact WpO.do (WpX.build hf h)
/-- A guard that lets by. -/
theorem Fo.yes {d : Option Nat} {op : ROp} {t : Nat} {want b : Bool} (hb : fr t = .bool b) (hw : b = want) (h : WpO call (⟨d, op, none⟩ :: os) fr H KF) : WpO call (⟨d, op, some (t, want)⟩ :: os) fr H KF := WpO.guard hb (fun _ => h) fun q => absurd hw q
theorem Fo.no {d : Nat} {op : ROp} {t : Nat} {want b : Bool} (hb : fr t = .bool b) (hw : (!b) = want) (h : WpO call os (upd fr d aundef) H KF) : WpO call (⟨some d, op, some (t, want)⟩ :: os) fr H KF := WpO.guard hb (fun q => absurd q (by subst hw; cases b <;> decide)) fun _ => h
/-- A guard that has not been decided, since it was not asked. -/
theorem Fo.noU {d : Nat} {op : ROp} {t : Nat} {want : Bool} (hb : fr t = aundef) (h : WpO call os (upd fr d aundef) H KF) : WpO call (⟨some d, op, some (t, want)⟩ :: os) fr H KF := WpO.skip (by simp only [ROper.wanted, hb, aundef]) h
end
section
variable {ext : Exts} {prog : FuncId → Option RFunc} {fr : AFrame} {H : AHeap} {KF : AFrame → AHeap → Prop} {os : List ROper} {d : Nat}
theorem Fo.pcall {n dd D : Nat} {f : FuncId} {o : ROpd} {l : List ROpd} {args : List AVal} {v v' : AVal} (hn : fuel0 + D ≤ n) (hf : o.ev fr = .func (.func f) [] []) (hl : l.map (·.ev fr) = args) [hc : PureCon ext prog f args H dd v] (hd : Nat.ble dd D = true) (hv : v = v')
    (h : ∀ H1, ExtI H H1 → WpO (callN ext prog n) os (upd fr d v') H1 KF) : WpO (callN ext prog n) (⟨some d, .call o l, none⟩ :: os) fr H KF := by
  subst hv; exact WpO.do (WpX.pcall hn hf hl hd h)
end
section
variable {call : ACall} {n ref : Nat} {its : List DItem} {H0 H H1 : AHeap} {E : List (Nat × AHeap)} {Rd : List (Nat × (AHeap → Bool))} {fr : AFrame} {K : AFrame → AHeap → Prop} {b : Nat} {pre : Bool} {g : Option (Nat × Bool)} {d : Nat}
theorem Fe.pure {op : ROp} {v v' : AVal} (hw : ROper.wanted fr ⟨some d, op, g⟩ = true) (hx : op.exec noCall fr H = some (v, H)) (hv : v = v') (h : WpE call (n + 1) ref its H0 E Rd (upd fr d v') H K) : WpE call n ref (⟨⟨some d, op, g⟩, b, 0, pre⟩ :: its) H0 E Rd fr H K := by
  subst hv; exact WpE.pure hw hx h
theorem Fe.read {op : ROp} {v v' : AVal} (hw : ROper.wanted fr ⟨some d, op, g⟩ = true) (hx : op.exec noCall fr H = some (v, H)) (hv : v = v') (hE : AllE b (fun H2 => op.exec noCall fr H2 = some (v, H2)) E) (h : WpE call (n + 1) ref its H0 E ((n, readOk op fr v) :: Rd) (upd fr d v') H K) : WpE call n ref (⟨⟨some d, op, g⟩, b, 1, pre⟩ :: its) H0 E Rd fr H K := by
  subst hv; exact WpE.read hw hx hE h
theorem Fe.skip {cls : Nat} {op : ROp} (hw : ROper.wanted fr ⟨some d, op, g⟩ = false) (h : WpE call (n + 1) (nextRef cls ref) its H0 E Rd (upd fr d aundef) H K) : WpE call n ref (⟨⟨some d, op, g⟩, b, cls, pre⟩ :: its) H0 E Rd fr H K := WpE.skip hw h
theorem Fe.made {op : ROp} {cs : List AVal} {e : TypeId} {k : Nat → AVal} {v : AVal} (hw : ROper.wanted fr ⟨some d, op, g⟩ = true) (hm : op.made fr = some (cs, e, k)) (hg : ghostIs H ref cs e = true) (hE : AllE b (fun H2 => ghostIs H2 ref cs e = true) E) (hv : k ref = v) (h : WpE call (n + 1) (ref + 1) its H0 E ((n, madeOk op fr ref) :: Rd) (upd fr d v) H K) : WpE call n ref (⟨⟨some d, op, g⟩, b, 3, pre⟩ :: its) H0 E Rd fr H K := by
  subst hv; exact WpE.made hw hm hg hE h
theorem Fe.effect0 {op : ROp} {v : AVal} (hw : ROper.wanted fr ⟨none, op, g⟩ = true) (hx : op.exec call fr H = some (v, H1)) (hR : AllR b H1 Rd) (h : WpE call (n + 1) ref its H0 ((n, H) :: E) Rd fr H1 K) : WpE call n ref (⟨⟨none, op, g⟩, b, 2, pre⟩ :: its) H0 E Rd fr H K := WpE.effect hw hx hR h
end
section
variable {ext : Exts} {prog : FuncId → Option RFunc} {n ref : Nat} {its : List DItem} {H0 H H1 : AHeap} {E : List (Nat × AHeap)} {Rd : List (Nat × (AHeap → Bool))} {fr : AFrame} {K : AFrame → AHeap → Prop} {b : Nat} {pre : Bool} {g : Option (Nat × Bool)} {d : Nat}
theorem Fe.pcall {m dd D : Nat} {f : FuncId} {o : ROpd} {l : List ROpd} {args : List AVal} {v v' : AVal} (hw : ROper.wanted fr ⟨some d, .call o l, g⟩ = true) (hn : fuel0 + D ≤ m) (hf : o.ev fr = .func (.func f) [] []) (hl : l.map (·.ev fr) = args) [hc : PureCon ext prog f args H dd v] (hd : Nat.ble dd D = true) (hv : v = v')
    (h : ∀ H1, ExtI H H1 → AllR b H1 Rd ∧ WpE (callN ext prog m) (n + 1) ref its H0 ((n, H) :: E) Rd (upd fr d v') H1 K) : WpE (callN ext prog m) n ref (⟨⟨some d, .call o l, g⟩, b, 2, pre⟩ :: its) H0 E Rd fr H K := by
  subst hv; exact WpE.pcall hw hn hf hl hd h
theorem Fe.con {m dd D : Nat} {f : FuncId} {o : ROpd} {l : List ROpd} {args : List AVal} {R : AVal → AHeap → Prop} (hw : ROper.wanted fr ⟨some d, .call o l, g⟩ = true) (hn : fuel0 + D ≤ m) (hd : Nat.ble dd D = true) (hf : o.ev fr = .func (.func f) [] []) (hl : l.map (·.ev fr) = args) (hc : Con ext prog dd f args H R)
    (h : ∀ v H1, R v H1 → AllR b H1 Rd ∧ WpE (callN ext prog m) (n + 1) ref its H0 ((n, H) :: E) Rd (upd fr d v) H1 K) : WpE (callN ext prog m) n ref (⟨⟨some d, .call o l, g⟩, b, 2, pre⟩ :: its) H0 E Rd fr H K := WpE.con hw hn hd hf hl hc h
end
end Go.Am
namespace Go.Am
open Go
section
variable {call : ACall} {fr : AFrame} {H : AHeap} {KF : AFrame → AHeap → Prop} {os : List ROper} {d : Nat}
theorem Fo.mov {x : ROpd} {v : AVal} (hx : x.ev fr = v) (h : WpO call os (upd fr d v) H KF) : WpO call (⟨some d, .mov x, none⟩ :: os) fr H KF := by subst hx; exact WpO.do (WpX.mov h)
theorem Fo.fa {x : ROpd} {r o off : Nat} (hx : x.ev fr = .ptr r o) (h : WpO call os (upd fr d (.ptr r (o + off))) H KF) : WpO call (⟨some d, .fieldAddr off x, none⟩ :: os) fr H KF := WpO.do (WpX.fieldAddr hx h)
theorem Fo.pickT {c a b : ROpd} {v : AVal} (hc : c.ev fr = .bool true) (hx : a.ev fr = v) (h : WpO call os (upd fr d v) H KF) : WpO call (⟨some d, .pick c a b, none⟩ :: os) fr H KF := by subst hx; exact WpO.do (WpX.pick hc h)
theorem Fo.pickF {c a b : ROpd} {v : AVal} (hc : c.ev fr = .bool false) (hx : b.ev fr = v) (h : WpO call os (upd fr d v) H KF) : WpO call (⟨some d, .pick c a b, none⟩ :: os) fr H KF := by subst hx; exact WpO.do (WpX.pick hc h)
theorem Fo.extr {x : ROpd} {i : Nat} {vs : List AVal} {v : AVal} (hx : x.ev fr = .tuple vs) (hv : vs[i]? = some v) (h : WpO call os (upd fr d v) H KF) : WpO call (⟨some d, .extract x i, none⟩ :: os) fr H KF := WpO.do (WpX.extract hx hv h)
theorem Fo.bin {op : BinOp} {x y : ROpd} {a b v v' : AVal} (hx : x.ev fr = a) (hy : y.ev fr = b) (hv : aBin op a b = some v) (he : v = v') (h : WpO call os (upd fr d v') H KF) : WpO call (⟨some d, .bin op x y, none⟩ :: os) fr H KF := by
  subst hx hy he
  exact WpO.step rfl ⟨v, H, by simp only [ROp.exec, hv, M.ofOption, M.pure], h⟩
end
end Go.Am
namespace Go.Am
open Go
section
variable {call : ACall} {fr : AFrame} {H : AHeap} {KF : AFrame → AHeap → Prop} {os : List ROper} {d : Nat}
theorem Fo.boxA {e : TypeId} {x : ROpd} {cs : List AVal} (hx : x.ev fr = .agg cs) (h : WpO call os (upd fr d (.ptr H.n 0)) (H.push (.row cs true (2 * e))) KF) : WpO call (⟨some d, .box e x, none⟩ :: os) fr H KF := Fo.box hx rfl h
end
end Go.Am

/- Short names of steps. -/
namespace Go.Am
open Go
section
variable {call : ACall} {lf : Nat} {fr : AFrame} {H : AHeap} {Q : RExit → AFrame → AHeap → Prop} {KF : AFrame → AHeap → Prop} {os : List ROper} {d : Nat}
theorem mI {x : ROpd} {k : IntKind} {n : Int} (hx : x.ev fr = .int k n) (h : WpO call os (upd fr d (.int k n)) H KF) : WpO call (⟨some d, .mov x, none⟩ :: os) fr H KF := Fo.mov hx h
theorem mB {x : ROpd} {b : Bool} (hx : x.ev fr = .bool b) (h : WpO call os (upd fr d (.bool b)) H KF) : WpO call (⟨some d, .mov x, none⟩ :: os) fr H KF := Fo.mov hx h
theorem mT {x : ROpd} {l : List AVal} (hx : x.ev fr = .tuple l) (h : WpO call os (upd fr d (.tuple l)) H KF) : WpO call (⟨some d, .mov x, none⟩ :: os) fr H KF := Fo.mov hx h
theorem mF {x : ROpd} {f : Fn} {a b : List AVal} (hx : x.ev fr = .func f a b) (h : WpO call os (upd fr d (.func f a b)) H KF) : WpO call (⟨some d, .mov x, none⟩ :: os) fr H KF := Fo.mov hx h
theorem mN {x : ROpd} (hx : x.ev fr = .nslice) (h : WpO call os (upd fr d .nslice) H KF) : WpO call (⟨some d, .mov x, none⟩ :: os) fr H KF := Fo.mov hx h
theorem tB {c a b : ROpd} {n : Bool} (hc : c.ev fr = .bool true) (hx : a.ev fr = .bool n) (h : WpO call os (upd fr d (.bool n)) H KF) : WpO call (⟨some d, .pick c a b, none⟩ :: os) fr H KF := Fo.pickT hc hx h
theorem fB {c a b : ROpd} {n : Bool} (hc : c.ev fr = .bool false) (hx : b.ev fr = .bool n) (h : WpO call os (upd fr d (.bool n)) H KF) : WpO call (⟨some d, .pick c a b, none⟩ :: os) fr H KF := Fo.pickF hc hx h
theorem sq {a b : RCode} (h : Wp call lf a fr H fun x fr' H' => match x with | .normal => Wp call lf b fr' H' Q | e => Q e fr' H') : Wp call lf (.seq a b) fr H Q := Wp.seq h
theorem rg {ops : List ROper} (h : ∀ KF : AFrame → AHeap → Prop, (∀ fr' H', Q .normal fr' H' → KF fr' H') → WpO call ops fr H KF) : Wp call lf (.region ops) fr H Q := Fr.region h
end
theorem nrmZ : type_of% nrm ∧ type_of% nrmS := ⟨nrm, nrmS⟩
end Go.Am

set_option maxHeartbeats 4000000
set_option maxRecDepth 100000
namespace Go.Am
open Go
attribute [local irreducible] Wp WpO WpX WpE
/-- sides -/
def sideB (a : Int) : Bool := decide (a ≥ 0) && decide (a ≤ 640)
instance K_side (a : Int) (H : AHeap) : PureCon ext prog 102 [.int .i64 a] H 1 (.bool (sideB a)) := ⟨by
 refine con_of (show prog 102 = some c102 from rfl) rfl rfl fun n hn => ?_
 unfold sideB
 cases h1 : decide (a ≥ 0) <;> cases h2 : decide (a ≤ 640)
 ·skip
  try simp only [↓nrmL, nrmZ, Nat.reduceEqDiff, ↓reduceIte, Nat.reduceAdd, Int.reduceBEq, Int.reduceBNe, h1, h2]
  refine sq ?_
  refine rg fun KF hKF => ?_
  refine mB rfl ?_
  refine WpO.nil (hKF _ _ ?_)
  refine sq ?_
  refine rg fun KF hKF => ?_
  refine mI rfl ?_
  refine Fo.bin rfl rfl rfl (by simp only [↓nrmL, nrmZ, Nat.reduceEqDiff, ↓reduceIte, Nat.reduceAdd, Int.reduceBEq, Int.reduceBNe, h1, h2]; rfl) ?_
  refine mB rfl ?_
  refine Fo.no rfl rfl ?_
  refine Fo.no rfl rfl ?_
  refine fB rfl rfl ?_
  refine mB rfl ?_
  refine WpO.nil (hKF _ _ ?_)
  refine Wp.ret ?_
  dsimp only [cond_true, cond_false]
  exact ⟨trivial, _, rfl, rfl, Ext0.ext⟩
 ·skip
  try simp only [↓nrmL, nrmZ, Nat.reduceEqDiff, ↓reduceIte, Nat.reduceAdd, Int.reduceBEq, Int.reduceBNe, h1, h2]
  refine sq ?_
  refine rg fun KF hKF => ?_
  refine mB rfl ?_
  refine WpO.nil (hKF _ _ ?_)
  refine sq ?_
  refine rg fun KF hKF => ?_
  refine mI rfl ?_
  refine Fo.bin rfl rfl rfl (by simp only [↓nrmL, nrmZ, Nat.reduceEqDiff, ↓reduceIte, Nat.reduceAdd, Int.reduceBEq, Int.reduceBNe, h1, h2]; rfl) ?_
  refine mB rfl ?_
  refine Fo.no rfl rfl ?_
  refine Fo.no rfl rfl ?_
  refine fB rfl rfl ?_
  refine mB rfl ?_
  refine WpO.nil (hKF _ _ ?_)
  refine Wp.ret ?_
  dsimp only [cond_true, cond_false]
  exact ⟨trivial, _, rfl, rfl, Ext0.ext⟩
 ·skip
  try simp only [↓nrmL, nrmZ, Nat.reduceEqDiff, ↓reduceIte, Nat.reduceAdd, Int.reduceBEq, Int.reduceBNe, h1, h2]
  refine sq ?_
  refine rg fun KF hKF => ?_
  refine mB rfl ?_
  refine WpO.nil (hKF _ _ ?_)
  refine sq ?_
  refine rg fun KF hKF => ?_
  refine mI rfl ?_
  refine Fo.bin rfl rfl rfl (by simp only [↓nrmL, nrmZ, Nat.reduceEqDiff, ↓reduceIte, Nat.reduceAdd, Int.reduceBEq, Int.reduceBNe, h1, h2]; rfl) ?_
  refine mB rfl ?_
  refine Fo.yes rfl rfl ?_
  refine mI rfl ?_
  refine Fo.yes rfl rfl ?_
  refine Fo.bin rfl rfl rfl (by simp only [↓nrmL, nrmZ, Nat.reduceEqDiff, ↓reduceIte, Nat.reduceAdd, Int.reduceBEq, Int.reduceBNe, h1, h2]; rfl) ?_
  refine tB rfl rfl ?_
  refine mB rfl ?_
  refine WpO.nil (hKF _ _ ?_)
  refine Wp.ret ?_
  dsimp only [cond_true, cond_false]
  exact ⟨trivial, _, rfl, rfl, Ext0.ext⟩
 ·skip
  try simp only [↓nrmL, nrmZ, Nat.reduceEqDiff, ↓reduceIte, Nat.reduceAdd, Int.reduceBEq, Int.reduceBNe, h1, h2]
  refine sq ?_
  refine rg fun KF hKF => ?_
  refine mB rfl ?_
  refine WpO.nil (hKF _ _ ?_)
  refine sq ?_
  refine rg fun KF hKF => ?_
  refine mI rfl ?_
  refine Fo.bin rfl rfl rfl (by simp only [↓nrmL, nrmZ, Nat.reduceEqDiff, ↓reduceIte, Nat.reduceAdd, Int.reduceBEq, Int.reduceBNe, h1, h2]; rfl) ?_
  refine mB rfl ?_
  refine Fo.yes rfl rfl ?_
  refine mI rfl ?_
  refine Fo.yes rfl rfl ?_
  refine Fo.bin rfl rfl rfl (by simp only [↓nrmL, nrmZ, Nat.reduceEqDiff, ↓reduceIte, Nat.reduceAdd, Int.reduceBEq, Int.reduceBNe, h1, h2]; rfl) ?_
  refine tB rfl rfl ?_
  refine mB rfl ?_
  refine WpO.nil (hKF _ _ ?_)
  refine Wp.ret ?_
  dsimp only [cond_true, cond_false]
  exact ⟨trivial, _, rfl, rfl, Ext0.ext⟩⟩
instance K_sized (a b k : Int) (H : AHeap) : PureCon ext prog 106 [.int .i64 a, .int .i64 b, .int .i64 k] H 2 (.bool (sideB a && sideB b && (k == IntKind.i64.wrap (a * b)))) := ⟨by
 refine con_of (show prog 106 = some c106 from rfl) rfl rfl fun n hn => ?_
 cases h1 : sideB a
 ·skip
  try simp only [↓nrmL, nrmZ, Nat.reduceEqDiff, ↓reduceIte, Nat.reduceAdd, Int.reduceBEq, Int.reduceBNe, h1]
  refine sq ?_
  refine rg fun KF hKF => ?_
  refine mB rfl ?_
  refine WpO.nil (hKF _ _ ?_)
  refine sq ?_
  refine rg fun KF hKF => ?_
  refine mI rfl ?_
  refine Fo.pcall (v' := ?_) hn rfl (by simp only [↓nrmL, nrmZ, Nat.reduceEqDiff, ↓reduceIte, Nat.reduceAdd, Int.reduceBEq, Int.reduceBNe, h1, List.map]; rfl) rfl ?hv fun _ _ => ?_; case hv => (simp only [↓nrmL, nrmZ, Nat.reduceEqDiff, ↓reduceIte, Nat.reduceAdd, Int.reduceBEq, Int.reduceBNe, h1]; rfl)
  refine mB rfl ?_
  refine Fo.no rfl rfl ?_
  refine Fo.no rfl rfl ?_
  refine fB rfl rfl ?_
  refine mB rfl ?_
  refine Fo.no rfl rfl ?_
  refine Fo.no rfl rfl ?_
  refine Fo.no rfl rfl ?_
  refine Fo.no rfl rfl ?_
  refine Fo.no rfl rfl ?_
  refine fB rfl rfl ?_
  refine mB rfl ?_
  refine WpO.nil (hKF _ _ ?_)
  refine Wp.ret ?_
  dsimp only [cond_true, cond_false]
  exact ⟨trivial, _, rfl, rfl, Ext0.ext⟩
 cases h2 : sideB b
 ·skip
  try simp only [↓nrmL, nrmZ, Nat.reduceEqDiff, ↓reduceIte, Nat.reduceAdd, Int.reduceBEq, Int.reduceBNe, h1, h2]
  refine sq ?_
  refine rg fun KF hKF => ?_
  refine mB rfl ?_
  refine WpO.nil (hKF _ _ ?_)
  refine sq ?_
  refine rg fun KF hKF => ?_
  refine mI rfl ?_
  refine Fo.pcall (v' := ?_) hn rfl (by simp only [↓nrmL, nrmZ, Nat.reduceEqDiff, ↓reduceIte, Nat.reduceAdd, Int.reduceBEq, Int.reduceBNe, h1, h2, List.map]; rfl) rfl ?hv fun _ _ => ?_; case hv => (simp only [↓nrmL, nrmZ, Nat.reduceEqDiff, ↓reduceIte, Nat.reduceAdd, Int.reduceBEq, Int.reduceBNe, h1, h2]; rfl)
  refine mB rfl ?_
  refine Fo.yes rfl rfl ?_
  refine mI rfl ?_
  refine Fo.yes rfl rfl ?_
  refine Fo.pcall (v' := ?_) hn rfl (by simp only [↓nrmL, nrmZ, Nat.reduceEqDiff, ↓reduceIte, Nat.reduceAdd, Int.reduceBEq, Int.reduceBNe, h1, h2, List.map]; rfl) rfl ?hv fun _ _ => ?_; case hv => (simp only [↓nrmL, nrmZ, Nat.reduceEqDiff, ↓reduceIte, Nat.reduceAdd, Int.reduceBEq, Int.reduceBNe, h1, h2]; rfl)
  refine tB rfl rfl ?_
  refine mB rfl ?_
  refine Fo.no rfl rfl ?_
  refine Fo.no rfl rfl ?_
  refine Fo.no rfl rfl ?_
  refine Fo.no rfl rfl ?_
  refine Fo.no rfl rfl ?_
  refine fB rfl rfl ?_
  refine mB rfl ?_
  refine WpO.nil (hKF _ _ ?_)
  refine Wp.ret ?_
  dsimp only [cond_true, cond_false]
  exact ⟨trivial, _, rfl, rfl, Ext0.ext⟩
 ·skip
  try simp only [↓nrmL, nrmZ, Nat.reduceEqDiff, ↓reduceIte, Nat.reduceAdd, Int.reduceBEq, Int.reduceBNe, h1, h2]
  refine sq ?_
  refine rg fun KF hKF => ?_
  refine mB rfl ?_
  refine WpO.nil (hKF _ _ ?_)
  refine sq ?_
  refine rg fun KF hKF => ?_
  refine mI rfl ?_
  refine Fo.pcall (v' := ?_) hn rfl (by simp only [↓nrmL, nrmZ, Nat.reduceEqDiff, ↓reduceIte, Nat.reduceAdd, Int.reduceBEq, Int.reduceBNe, h1, h2, List.map]; rfl) rfl ?hv fun _ _ => ?_; case hv => (simp only [↓nrmL, nrmZ, Nat.reduceEqDiff, ↓reduceIte, Nat.reduceAdd, Int.reduceBEq, Int.reduceBNe, h1, h2]; rfl)
  refine mB rfl ?_
  refine Fo.yes rfl rfl ?_
  refine mI rfl ?_
  refine Fo.yes rfl rfl ?_
  refine Fo.pcall (v' := ?_) hn rfl (by simp only [↓nrmL, nrmZ, Nat.reduceEqDiff, ↓reduceIte, Nat.reduceAdd, Int.reduceBEq, Int.reduceBNe, h1, h2, List.map]; rfl) rfl ?hv fun _ _ => ?_; case hv => (simp only [↓nrmL, nrmZ, Nat.reduceEqDiff, ↓reduceIte, Nat.reduceAdd, Int.reduceBEq, Int.reduceBNe, h1, h2]; rfl)
  refine tB rfl rfl ?_
  refine mB rfl ?_
  refine Fo.yes rfl rfl ?_
  refine mI rfl ?_
  refine Fo.yes rfl rfl ?_
  refine mI rfl ?_
  refine Fo.yes rfl rfl ?_
  refine mI rfl ?_
  refine Fo.yes rfl rfl ?_
  refine Fo.bin rfl rfl rfl rfl ?_
  refine Fo.yes rfl rfl ?_
  refine Fo.bin rfl rfl rfl rfl ?_
  refine tB rfl rfl ?_
  refine mB rfl ?_
  refine WpO.nil (hKF _ _ ?_)
  refine Wp.ret ?_
  dsimp only [cond_true, cond_false]
  exact ⟨trivial, _, rfl, rfl, Ext0.ext⟩⟩
end Go.Am

set_option maxHeartbeats 4000000
set_option maxRecDepth 100000
namespace Go.Am
open Go
attribute [local irreducible] Wp WpO WpX WpE

structure Img where
 w : Int
 h : Int
 px : List UInt8
 deriving DecidableEq
def Img.zero : Img := ⟨0, 0, []⟩
def sizedB (a b k : Int) : Bool := sideB a && sideB b && (k == IntKind.i64.wrap (a * b))
def Img.sized (g : Img) : Bool := sizedB g.w g.h g.px.length
/-- A new image as a result. -/
def NewInk (H H' : AHeap) (v : AVal) (g : Img) : Prop := ∃ p, v = .agg [.int .i64 g.w, .int .i64 g.h, p] ∧ BytesI H' p g.px ∧ FreshS H p ∧ WrS H' p ∧ Ext H H'

theorem K_blank {w h : Nat} {H : AHeap} (hw : w ≤ 640) (hh : h ≤ 640) : Con ext prog 1 103 [.int .i64 w, .int .i64 h] H fun v H' => NewInk H H' v ⟨w, h, List.replicate (w * h) 0⟩ := by
 refine con_of (show prog 103 = some c103 from rfl) rfl rfl fun n hn => ?_
 have hm : w * h ≤ 640 * 640 := Nat.mul_le_mul hw hh
 have hc : IntKind.i64.wrap ((w : Int) * (h : Int)) = ((w * h : Nat) : Int) := by rw [← Int.natCast_mul]; exact w64 (by omega)
 try simp only [↓nrmL, nrmZ, Nat.reduceEqDiff, ↓reduceIte, Nat.reduceAdd, Int.reduceBEq, Int.reduceBNe, hc]
 refine sq ?_
 refine rg fun KF hKF => ?_
 refine Fo.new ?_
 refine WpO.nil (hKF _ _ ?_)
 refine sq ?_
 refine rg fun KF hKF => ?_
 refine mI rfl ?_
 refine mI rfl ?_
 refine mI rfl ?_
 refine mI rfl ?_
 refine Fo.bin rfl rfl rfl (by simp only [↓nrmL, nrmZ, Nat.reduceEqDiff, ↓reduceIte, Nat.reduceAdd, Int.reduceBEq, Int.reduceBNe, hc]; rfl) ?_
 refine WpO.do (WpX.mkB rfl rfl rfl (by omega) fun p H1 e1 hb hf hw' hx => ?_); try simp only [↓nrmL, nrmZ, Nat.reduceEqDiff, ↓reduceIte, Nat.reduceAdd, Int.reduceBEq, Int.reduceBNe, hc]
 haveI := hb.one
 refine Fo.build (by repeat (first | refine aFill1 (by first | exact (rfl : _ = AVal.int _ _) | exact (rfl : _ = AVal.ptr _ _) | exact (rfl : _ = AVal.bool _) | exact (rfl : _ = AVal.agg _) | exact (rfl : _ = AVal.tuple _) | exact (rfl : _ = AVal.func _ _ _) | exact (rfl : _ = AVal.nslice) | ((try simp only [↓nrmL, nrmK, Nat.reduceEqDiff, ↓reduceIte]); rfl)) rfl ?_ | rfl)) (by simp only [↓nrmL, nrmZ, Nat.reduceEqDiff, ↓reduceIte, Nat.reduceAdd, Int.reduceBEq, Int.reduceBNe]; rfl) ?_
 refine Fo.st rfl (rfl : _ = AVal.agg _) rfl rfl rfl (by repeat (first | rfl | refine allOne_cons ?_)) (by simp only [↓nrmL, nrmZ, Nat.reduceEqDiff, ↓reduceIte, Nat.reduceAdd, Int.reduceBEq, Int.reduceBNe]; rfl) ?_
 refine WpO.nil (hKF _ _ ?_)
 refine Wp.ret ?_
 dsimp only [cond_true, cond_false]
 refine ⟨trivial, _, (by first | rfl | exact getAllC rfl rfl rfl rfl | exact getAllT rfl (getAllC rfl rfl rfl rfl) | exact getAllC rfl rfl rfl (getAllC rfl rfl rfl rfl) | exact getAllC1 rfl rfl rfl), ?_⟩
 exact ⟨p, rfl, inferInstance, hf.weak, inferInstance, Ext0.ext⟩
end Go.Am

set_option maxHeartbeats 4000000
set_option maxRecDepth 100000
namespace Go.Am
open Go
attribute [local irreducible] Wp WpO WpX WpE

theorem sized_nat {w h : Int} {n : Nat} (hs : sizedB w h n = true) : ∃ a b : Nat, w = a ∧ h = b ∧ a ≤ 640 ∧ b ≤ 640 ∧ n = a * b := by
 simp only [sizedB, sideB, Bool.and_eq_true, decide_eq_true_eq, beq_iff_eq] at hs
 obtain ⟨⟨⟨h1, h2⟩, h3, h4⟩, h5⟩ := hs
 refine ⟨w.toNat, h.toNat, by omega, by omega, by omega, by omega, ?_⟩
 obtain ⟨a, rfl⟩ : ∃ a : Nat, w = a := ⟨w.toNat, by omega⟩
 obtain ⟨b, rfl⟩ : ∃ b : Nat, h = b := ⟨h.toNat, by omega⟩
 have hm : a * b ≤ 640 * 640 := Nat.mul_le_mul (by omega) (by omega)
 rw [← Int.natCast_mul, w64 (by omega)] at h5
 simp only [Int.toNat_natCast]
 omega

/-- A new image and an error as a result. -/
def InkRes (H H' : AHeap) (v : AVal) (r : Img × Int) : Prop := ∃ q, v = .tuple [q, .int .i64 r.2] ∧ NewInk H H' q r.1
theorem newZero {H H' : AHeap} [x : Ext0 H H'] : NewInk H H' (.agg [.int .i64 0, .int .i64 0, .nslice]) Img.zero := ⟨.nslice, rfl, ⟨Or.inl ⟨rfl, rfl, rfl⟩⟩, ⟨fun _ _ _ _ _ e => by cases e⟩, ⟨fun _ _ _ _ _ e => by cases e⟩, x.ext⟩

end Go.Am

set_option maxHeartbeats 4000000
set_option maxRecDepth 100000
namespace Go.Am
open Go
attribute [local irreducible] Wp WpO WpX WpE

/-- A copy as a result. -/
def NewBytes (H H' : AHeap) (v : AVal) (l : List UInt8) : Prop := BytesI H' v l ∧ FreshS H v ∧ WrS H' v ∧ Ext H H'
theorem K_CopyBytes {H : AHeap} {p : AVal} {l : List UInt8} [hp : BytesI H p l] (hl : l.length < 2 ^ 40) : Con ext prog 1 95 [p] H fun v H' => NewBytes H H' v l := by
 refine con_of (show prog 95 = some c95 from rfl) rfl rfl fun n hn => ?_
 refine sq ?_
 refine rg fun KF hKF => ?_
 refine mN rfl ?_
 refine WpO.nil (hKF _ _ ?_)
 refine sq ?_
 refine rg fun KF hKF => ?_
 refine mN rfl ?_
 refine WpO.nil (hKF _ _ ?_)
 refine sq ?_
 refine rg fun KF hKF => ?_
 refine mN rfl ?_
 refine Fo.mov (by simp only [↓nrmL, nrmK, Nat.reduceEqDiff, ↓reduceIte]; rfl) ?_
 refine WpO.do (WpX.appendNil rfl (by simp only [↓nrmL, nrmZ, Nat.reduceEqDiff, ↓reduceIte, Nat.reduceAdd, Int.reduceBEq, Int.reduceBNe, List.map] <;> rfl) hl fun v H1 h1 h2 h3 h4 => ?_)
 refine Fo.mov (by simp only [↓nrmL, nrmK, Nat.reduceEqDiff, ↓reduceIte]; rfl) ?_
 refine WpO.nil (hKF _ _ ?_)
 refine Wp.ret ?_
 dsimp only [cond_true, cond_false]
 refine ⟨trivial, _, (by first | rfl | exact getAllC rfl rfl rfl rfl | exact getAllT rfl (getAllC rfl rfl rfl rfl) | exact getAllC rfl rfl rfl (getAllC rfl rfl rfl rfl) | exact getAllC1 rfl rfl rfl), ?_⟩
 exact ⟨h1, h2, h3, Ext0.ext⟩
end Go.Am

set_option maxHeartbeats 4000000
set_option maxRecDepth 100000
namespace Go.Am
open Go
attribute [local irreducible] Wp WpO WpX WpE

theorem wm {a b : Nat} (h : a * b < 9223372036854775808) : IntKind.i64.wrap ((a : Int) * (b : Int)) = ((a * b : Nat) : Int) := by rw [← Int.natCast_mul]; exact w64 (by omega)
theorem wa {a b : Nat} (h : a + b < 9223372036854775808) : IntKind.i64.wrap ((a : Int) + (b : Int)) = ((a + b : Nat) : Int) := by rw [← Int.natCast_add]; exact w64 (by omega)
theorem wa1 {a : Nat} (h : a < 9223372036854775807) : IntKind.i64.wrap ((a : Int) + 1) = ((a + 1 : Nat) : Int) := by rw [w64 (by omega)]; omega
theorem idx_lt {x y w h : Nat} (hx : x < w) (hy : y < h) : y * w + x < w * h := by
 have : (y + 1) * w ≤ h * w := Nat.mul_le_mul_right _ hy
 rw [Nat.mul_comm w h]
 rw [Nat.add_mul] at this
 omega

/-- What has been filled in of n zeros. -/
def filled (f : Nat → UInt8) (k n : Nat) : List UInt8 := (List.range n).map fun i => if i < k then f i else 0
theorem filled_length (f : Nat → UInt8) (k n : Nat) : (filled f k n).length = n := by simp [filled]
theorem filled_zero (f : Nat → UInt8) (n : Nat) : filled f 0 n = List.replicate n 0 := by
 apply List.ext_getElem <;> simp [filled]
theorem filled_all (f : Nat → UInt8) (n : Nat) : filled f n n = (List.range n).map f := by
 apply List.ext_getElem
 ·simp [filled]
 ·intro i h1 h2
  simp [filled] at h1 ⊢
  intro h; omega
theorem filled_succ (f : Nat → UInt8) {k n : Nat} : (filled f k n).set k (f k) = filled f (k + 1) n := by
 apply List.ext_getElem
 ·simp [filled]
 ·intro i h1 h2
  simp only [filled, List.getElem_set, List.getElem_map, List.getElem_range]
  by_cases hik : k = i
  ·subst hik; simp
  ·have : i < k + 1 ↔ i < k := by omega
   simp [hik, this]
theorem filled_skip {f : Nat → UInt8} {k n : Nat} (h0 : f k = 0) : filled f (k + 1) n = filled f k n := by
 rw [← filled_succ f, h0]
 apply List.ext_getElem
 ·simp
 ·intro i h1 h2
  rw [List.getElem_set]
  split
  ·rename_i e; subst e; simp [filled]
  ·rfl

instance K_refFits {w h : Int} {H : AHeap} : PureCon ext prog 96 [.int .i64 w, .int .i64 h] H 1 (.bool (sideB w && sideB h)) := ⟨by
 refine con_of (show prog 96 = some c96 from rfl) rfl rfl fun n hn => ?_
 unfold sideB
 cases h1 : decide (w ≥ 0)
 ·skip
  try simp only [↓nrmL, nrmZ, Nat.reduceEqDiff, ↓reduceIte, Nat.reduceAdd, Int.reduceBEq, Int.reduceBNe, h1]
  refine sq ?_
  refine rg fun KF hKF => ?_
  refine mB rfl ?_
  refine WpO.nil (hKF _ _ ?_)
  refine sq ?_
  refine rg fun KF hKF => ?_
  refine mI rfl ?_
  refine Fo.bin rfl rfl rfl (by simp only [↓nrmL, nrmZ, Nat.reduceEqDiff, ↓reduceIte, Nat.reduceAdd, Int.reduceBEq, Int.reduceBNe, h1]; rfl) ?_
  refine mB rfl ?_
  refine Fo.no rfl rfl ?_
  refine Fo.no rfl rfl ?_
  refine fB rfl rfl ?_
  refine mB rfl ?_
  refine Fo.no rfl rfl ?_
  refine Fo.no rfl rfl ?_
  refine fB rfl rfl ?_
  refine mB rfl ?_
  refine Fo.no rfl rfl ?_
  refine Fo.no rfl rfl ?_
  refine fB rfl rfl ?_
  refine mB rfl ?_
  refine WpO.nil (hKF _ _ ?_)
  refine Wp.ret ?_
  dsimp only [cond_true, cond_false]
  exact ⟨trivial, _, rfl, rfl, Ext0.ext⟩
 cases h2 : decide (w ≤ 640)
 ·skip
  try simp only [↓nrmL, nrmZ, Nat.reduceEqDiff, ↓reduceIte, Nat.reduceAdd, Int.reduceBEq, Int.reduceBNe, h1, h2]
  refine sq ?_
  refine rg fun KF hKF => ?_
  refine mB rfl ?_
  refine WpO.nil (hKF _ _ ?_)
  refine sq ?_
  refine rg fun KF hKF => ?_
  refine mI rfl ?_
  refine Fo.bin rfl rfl rfl (by simp only [↓nrmL, nrmZ, Nat.reduceEqDiff, ↓reduceIte, Nat.reduceAdd, Int.reduceBEq, Int.reduceBNe, h1, h2]; rfl) ?_
  refine mB rfl ?_
  refine Fo.yes rfl rfl ?_
  refine mI rfl ?_
  refine Fo.yes rfl rfl ?_
  refine Fo.bin rfl rfl rfl (by simp only [↓nrmL, nrmZ, Nat.reduceEqDiff, ↓reduceIte, Nat.reduceAdd, Int.reduceBEq, Int.reduceBNe, h1, h2]; rfl) ?_
  refine tB rfl rfl ?_
  refine mB rfl ?_
  refine Fo.no rfl rfl ?_
  refine Fo.no rfl rfl ?_
  refine fB rfl rfl ?_
  refine mB rfl ?_
  refine Fo.no rfl rfl ?_
  refine Fo.no rfl rfl ?_
  refine fB rfl rfl ?_
  refine mB rfl ?_
  refine WpO.nil (hKF _ _ ?_)
  refine Wp.ret ?_
  dsimp only [cond_true, cond_false]
  exact ⟨trivial, _, rfl, rfl, Ext0.ext⟩
 cases h3 : decide (h ≥ 0)
 ·skip
  try simp only [↓nrmL, nrmZ, Nat.reduceEqDiff, ↓reduceIte, Nat.reduceAdd, Int.reduceBEq, Int.reduceBNe, h1, h2, h3]
  refine sq ?_
  refine rg fun KF hKF => ?_
  refine mB rfl ?_
  refine WpO.nil (hKF _ _ ?_)
  refine sq ?_
  refine rg fun KF hKF => ?_
  refine mI rfl ?_
  refine Fo.bin rfl rfl rfl (by simp only [↓nrmL, nrmZ, Nat.reduceEqDiff, ↓reduceIte, Nat.reduceAdd, Int.reduceBEq, Int.reduceBNe, h1, h2, h3]; rfl) ?_
  refine mB rfl ?_
  refine Fo.yes rfl rfl ?_
  refine mI rfl ?_
  refine Fo.yes rfl rfl ?_
  refine Fo.bin rfl rfl rfl (by simp only [↓nrmL, nrmZ, Nat.reduceEqDiff, ↓reduceIte, Nat.reduceAdd, Int.reduceBEq, Int.reduceBNe, h1, h2, h3]; rfl) ?_
  refine tB rfl rfl ?_
  refine mB rfl ?_
  refine Fo.yes rfl rfl ?_
  refine mI rfl ?_
  refine Fo.yes rfl rfl ?_
  refine Fo.bin rfl rfl rfl (by simp only [↓nrmL, nrmZ, Nat.reduceEqDiff, ↓reduceIte, Nat.reduceAdd, Int.reduceBEq, Int.reduceBNe, h1, h2, h3]; rfl) ?_
  refine tB rfl rfl ?_
  refine mB rfl ?_
  refine Fo.no rfl rfl ?_
  refine Fo.no rfl rfl ?_
  refine fB rfl rfl ?_
  refine mB rfl ?_
  refine WpO.nil (hKF _ _ ?_)
  refine Wp.ret ?_
  dsimp only [cond_true, cond_false]
  exact ⟨trivial, _, rfl, rfl, Ext0.ext⟩
 cases h4 : decide (h ≤ 640)
 ·skip
  try simp only [↓nrmL, nrmZ, Nat.reduceEqDiff, ↓reduceIte, Nat.reduceAdd, Int.reduceBEq, Int.reduceBNe, h1, h2, h3, h4]
  refine sq ?_
  refine rg fun KF hKF => ?_
  refine mB rfl ?_
  refine WpO.nil (hKF _ _ ?_)
  refine sq ?_
  refine rg fun KF hKF => ?_
  refine mI rfl ?_
  refine Fo.bin rfl rfl rfl (by simp only [↓nrmL, nrmZ, Nat.reduceEqDiff, ↓reduceIte, Nat.reduceAdd, Int.reduceBEq, Int.reduceBNe, h1, h2, h3, h4]; rfl) ?_
  refine mB rfl ?_
  refine Fo.yes rfl rfl ?_
  refine mI rfl ?_
  refine Fo.yes rfl rfl ?_
  refine Fo.bin rfl rfl rfl (by simp only [↓nrmL, nrmZ, Nat.reduceEqDiff, ↓reduceIte, Nat.reduceAdd, Int.reduceBEq, Int.reduceBNe, h1, h2, h3, h4]; rfl) ?_
  refine tB rfl rfl ?_
  refine mB rfl ?_
  refine Fo.yes rfl rfl ?_
  refine mI rfl ?_
  refine Fo.yes rfl rfl ?_
  refine Fo.bin rfl rfl rfl (by simp only [↓nrmL, nrmZ, Nat.reduceEqDiff, ↓reduceIte, Nat.reduceAdd, Int.reduceBEq, Int.reduceBNe, h1, h2, h3, h4]; rfl) ?_
  refine tB rfl rfl ?_
  refine mB rfl ?_
  refine Fo.yes rfl rfl ?_
  refine mI rfl ?_
  refine Fo.yes rfl rfl ?_
  refine Fo.bin rfl rfl rfl (by simp only [↓nrmL, nrmZ, Nat.reduceEqDiff, ↓reduceIte, Nat.reduceAdd, Int.reduceBEq, Int.reduceBNe, h1, h2, h3, h4]; rfl) ?_
  refine tB rfl rfl ?_
  refine mB rfl ?_
  refine WpO.nil (hKF _ _ ?_)
  refine Wp.ret ?_
  dsimp only [cond_true, cond_false]
  exact ⟨trivial, _, rfl, rfl, Ext0.ext⟩
 ·skip
  try simp only [↓nrmL, nrmZ, Nat.reduceEqDiff, ↓reduceIte, Nat.reduceAdd, Int.reduceBEq, Int.reduceBNe, h1, h2, h3, h4]
  refine sq ?_
  refine rg fun KF hKF => ?_
  refine mB rfl ?_
  refine WpO.nil (hKF _ _ ?_)
  refine sq ?_
  refine rg fun KF hKF => ?_
  refine mI rfl ?_
  refine Fo.bin rfl rfl rfl (by simp only [↓nrmL, nrmZ, Nat.reduceEqDiff, ↓reduceIte, Nat.reduceAdd, Int.reduceBEq, Int.reduceBNe, h1, h2, h3, h4]; rfl) ?_
  refine mB rfl ?_
  refine Fo.yes rfl rfl ?_
  refine mI rfl ?_
  refine Fo.yes rfl rfl ?_
  refine Fo.bin rfl rfl rfl (by simp only [↓nrmL, nrmZ, Nat.reduceEqDiff, ↓reduceIte, Nat.reduceAdd, Int.reduceBEq, Int.reduceBNe, h1, h2, h3, h4]; rfl) ?_
  refine tB rfl rfl ?_
  refine mB rfl ?_
  refine Fo.yes rfl rfl ?_
  refine mI rfl ?_
  refine Fo.yes rfl rfl ?_
  refine Fo.bin rfl rfl rfl (by simp only [↓nrmL, nrmZ, Nat.reduceEqDiff, ↓reduceIte, Nat.reduceAdd, Int.reduceBEq, Int.reduceBNe, h1, h2, h3, h4]; rfl) ?_
  refine tB rfl rfl ?_
  refine mB rfl ?_
  refine Fo.yes rfl rfl ?_
  refine mI rfl ?_
  refine Fo.yes rfl rfl ?_
  refine Fo.bin rfl rfl rfl (by simp only [↓nrmL, nrmZ, Nat.reduceEqDiff, ↓reduceIte, Nat.reduceAdd, Int.reduceBEq, Int.reduceBNe, h1, h2, h3, h4]; rfl) ?_
  refine tB rfl rfl ?_
  refine mB rfl ?_
  refine WpO.nil (hKF _ _ ?_)
  refine Wp.ret ?_
  dsimp only [cond_true, cond_false]
  exact ⟨trivial, _, rfl, rfl, Ext0.ext⟩⟩

theorem K_refNew {w h : Nat} {H : AHeap} (hw : w ≤ 640) (hh : h ≤ 640) : Con ext prog 1 104 [.int .i64 w, .int .i64 h] H fun v H' => NewInk H H' v ⟨w, h, List.replicate (w * h) 0⟩ := by
 refine con_of (show prog 104 = some c104 from rfl) rfl rfl fun n hn => ?_
 have hm : w * h ≤ 640 * 640 := Nat.mul_le_mul hw hh
 have hc : IntKind.i64.wrap ((w : Int) * (h : Int)) = ((w * h : Nat) : Int) := wm (by omega)
 try simp only [↓nrmL, nrmZ, Nat.reduceEqDiff, ↓reduceIte, Nat.reduceAdd, Int.reduceBEq, Int.reduceBNe, hc]
 refine sq ?_
 refine rg fun KF hKF => ?_
 refine Fo.new ?_
 refine WpO.nil (hKF _ _ ?_)
 refine sq ?_
 refine rg fun KF hKF => ?_
 refine mI rfl ?_
 refine mI rfl ?_
 refine mI rfl ?_
 refine mI rfl ?_
 refine Fo.bin rfl rfl rfl (by simp only [↓nrmL, nrmZ, Nat.reduceEqDiff, ↓reduceIte, Nat.reduceAdd, Int.reduceBEq, Int.reduceBNe, hc]; rfl) ?_
 refine WpO.do (WpX.mkB rfl rfl rfl (by omega) fun p H1 e1 hb hf hw' hx => ?_); try simp only [↓nrmL, nrmZ, Nat.reduceEqDiff, ↓reduceIte, Nat.reduceAdd, Int.reduceBEq, Int.reduceBNe, hc]
 haveI := hb.one
 refine Fo.build (by repeat (first | refine aFill1 (by first | exact (rfl : _ = AVal.int _ _) | exact (rfl : _ = AVal.ptr _ _) | exact (rfl : _ = AVal.bool _) | exact (rfl : _ = AVal.agg _) | exact (rfl : _ = AVal.tuple _) | exact (rfl : _ = AVal.func _ _ _) | exact (rfl : _ = AVal.nslice) | ((try simp only [↓nrmL, nrmK, Nat.reduceEqDiff, ↓reduceIte]); rfl)) rfl ?_ | rfl)) (by simp only [↓nrmL, nrmZ, Nat.reduceEqDiff, ↓reduceIte, Nat.reduceAdd, Int.reduceBEq, Int.reduceBNe]; rfl) ?_
 refine Fo.st rfl (rfl : _ = AVal.agg _) rfl rfl rfl (by repeat (first | rfl | refine allOne_cons ?_)) (by simp only [↓nrmL, nrmZ, Nat.reduceEqDiff, ↓reduceIte, Nat.reduceAdd, Int.reduceBEq, Int.reduceBNe]; rfl) ?_
 refine WpO.nil (hKF _ _ ?_)
 refine Wp.ret ?_
 dsimp only [cond_true, cond_false]
 refine ⟨trivial, _, (by first | rfl | exact getAllC rfl rfl rfl rfl | exact getAllT rfl (getAllC rfl rfl rfl rfl) | exact getAllC rfl rfl rfl (getAllC rfl rfl rfl rfl) | exact getAllC1 rfl rfl rfl), ?_⟩
 exact ⟨p, rfl, inferInstance, hf.weak, inferInstance, Ext0.ext⟩

/-- A pixel is set. -/
theorem K_refSet {x y w : Nat} {h : Int} {p : AVal} {H : AHeap} {l : List UInt8} [hp : BytesI H p l] [hw : WrS H p] (hi : y * w + x < l.length) (hl : l.length < 2 ^ 40) : Con ext prog 1 105 [.agg [.int .i64 w, .int .i64 h, p], .int .i64 x, .int .i64 y] H fun v H' => BytesI H' p (l.set (y * w + x) 1) ∧ WrS H' p ∧ ExtP H H' p := by
 refine con_of (show prog 105 = some c105 from rfl) rfl rfl fun n hn => ?_
 haveI := hp.one
 have h1 : IntKind.i64.wrap ((y : Int) * (w : Int)) = ((y * w : Nat) : Int) := wm (by omega)
 have h2 : IntKind.i64.wrap (((y * w : Nat) : Int) + (x : Int)) = ((y * w + x : Nat) : Int) := wa (by omega)
 try simp only [↓nrmL, nrmZ, Nat.reduceEqDiff, ↓reduceIte, Nat.reduceAdd, Int.reduceBEq, Int.reduceBNe, h1, h2]
 refine sq ?_
 refine rg fun KF hKF => ?_
 refine Fo.boxA rfl ?_
 refine WpO.nil (hKF _ _ ?_)
 refine rg fun KF hKF => ?_
 refine Fo.fa rfl ?_
 refine Fo.ld rfl rfl ?_
 refine mI rfl ?_
 refine Fo.fa rfl ?_
 refine Fo.ld rfl rfl ?_
 refine Fo.bin rfl rfl rfl (by simp only [↓nrmL, nrmZ, Nat.reduceEqDiff, ↓reduceIte, Nat.reduceAdd, Int.reduceBEq, Int.reduceBNe, h1, h2]; rfl) ?_
 refine mI rfl ?_
 refine Fo.bin rfl rfl rfl (by simp only [↓nrmL, nrmZ, Nat.reduceEqDiff, ↓reduceIte, Nat.reduceAdd, Int.reduceBEq, Int.reduceBNe, h1, h2]; rfl) ?_
 refine Fo.idx (by simp only [↓nrmL, nrmK, Nat.reduceEqDiff, ↓reduceIte]; rfl) rfl ?_ (by simp only [↓nrmL, nrmZ, Nat.reduceEqDiff, ↓reduceIte, Nat.reduceAdd, Int.reduceBEq, Int.reduceBNe, h1, h2]; rfl) ?_; (focus omega)
 refine WpO.do' (WpX.stB 1 rfl rfl rfl hi fun H4 hb4 hw4 hx4 => ?_)
 refine WpO.nil (hKF _ _ ?_)
 dsimp only [cond_true, cond_false]
 exact ⟨trivial, _, rfl, hb4, hw4, (inferInstance : ExtP0 H H4 p).ext⟩
end Go.Am

set_option maxHeartbeats 4000000
set_option maxRecDepth 100000
namespace Go.Am
open Go
attribute [local irreducible] Wp WpO WpX WpE

end Go.Am

set_option maxHeartbeats 4000000
set_option maxRecDepth 100000
namespace Go.Am
open Go
attribute [local irreducible] Wp WpO WpX WpE

def lvStep (acc : List Int) (b : UInt8) : List Int := acc.set b.toNat (acc.getD b.toNat 0 + 1)
def lv (l : List UInt8) : List Int := l.foldl lvStep (List.replicate 256 0)
instance intsNil {H : AHeap} : IntsI H .nslice [] := ⟨Or.inl ⟨rfl, rfl, rfl⟩⟩
instance bytesNil {H : AHeap} : BytesI H .nslice [] := ⟨Or.inl ⟨rfl, rfl, rfl⟩⟩

end Go.Am

set_option maxHeartbeats 4000000
set_option maxRecDepth 100000
namespace Go.Am
open Go
attribute [local irreducible] Wp WpO WpX WpE

theorem eq_of_gets {α : Type} {l m : List α} (hl : l.length = m.length) (h : ∀ j, j < l.length → l[j]? = m[j]?) : l = m := by
 apply List.ext_getElem?
 intro i
 by_cases hi : i < l.length
 ·exact h i hi
 ·rw [List.getElem?_eq_none (by omega), List.getElem?_eq_none (by omega)]

/-- Short enough for the loops. -/
class Short {α : Type} (l : List α) : Prop where
 le : l.length ≤ 999999

instance K_SameBytes {p q : AVal} {H : AHeap} {l m : List UInt8} [hp : BytesI H p l] [hq : BytesI H q m] [hs : Short l] : PureCon ext prog 108 [p, q] H 1 (.bool (decide (l = m))) := ⟨by
 refine con_of (show prog 108 = some c108 from rfl) rfl rfl fun n hn => ?_
 have hsl := hs.le
 by_cases hlm : l.length = m.length
 ·have h1 : (((l.length : Nat) : Int) != ((m.length : Nat) : Int)) = false := by simp [hlm]
  try simp only [↓nrmL, nrmZ, Nat.reduceEqDiff, ↓reduceIte, h1]
  refine sq ?_
  refine rg fun KF hKF => ?_
  refine mB rfl ?_
  refine WpO.nil (hKF _ _ ?_)
  refine sq ?_
  refine sq ?_
  refine rg fun KF hKF => ?_
  refine Fo.mov (by simp only [↓nrmL, nrmK, Nat.reduceEqDiff, ↓reduceIte]; rfl) ?_
  refine Fo.len (v := ?_) (by simp only [↓nrmL, nrmK, Nat.reduceEqDiff, ↓reduceIte]; rfl) ?hv ?_; case hv => rfl
  refine Fo.mov (by simp only [↓nrmL, nrmK, Nat.reduceEqDiff, ↓reduceIte]; rfl) ?_
  refine Fo.len (v := ?_) (by simp only [↓nrmL, nrmK, Nat.reduceEqDiff, ↓reduceIte]; rfl) ?hv ?_; case hv => rfl
  refine Fo.bin rfl rfl rfl (by simp only [↓nrmL, nrmZ, Nat.reduceEqDiff, ↓reduceIte, h1]; rfl) ?_
  refine WpO.nil (hKF _ _ ?_)
  refine Wp.cond (b := false) rfl ?_
  refine Wp.skip ?_
  refine sq ?_
  refine sq ?_
  refine rg fun KF hKF => ?_
  refine mI rfl ?_
  refine WpO.nil (hKF _ _ ?_)
  refine Wp.block ?_
  dsimp only [cond_true, cond_false]
  refine Wp.loopS [4, 5, 11, 12, 13, 14, 15, 16, 17, 18, 19, 20, 21, 22, 23, 24, 25] (fun i : Nat => [(5, .int .i64 i)]) (fun H3 i H2 => i ≤ l.length ∧ (∀ j, j < i → l[j]? = m[j]?) ∧ H2 = H3) (fun i => l.length - i) 0 rfl (fun _ => rfl) ⟨rfl, trivial⟩ ⟨Nat.zero_le _, fun j hj => by omega, rfl⟩ (by unfold fuel0 at hn; omega) ?_
  rintro i g H2 ⟨hi, heq, rfl⟩
  simp only [↓nrmL, nrmZ, Nat.reduceEqDiff, ↓reduceIte]
  cases hc : decide ((i : Int) < (l.length : Int))
  ·have hil : i = l.length := by have := of_decide_eq_false hc; omega
   subst hil
   have hd : decide (l = m) = true := decide_eq_true (eq_of_gets hlm heq)
   rw [hd]
   try simp only [↓nrmL, nrmZ, Nat.reduceEqDiff, ↓reduceIte, hc]
   refine sq ?_
   refine sq ?_
   refine rg fun KF hKF => ?_
   refine mI rfl ?_
   refine Fo.mov (by simp only [↓nrmL, nrmK, Nat.reduceEqDiff, ↓reduceIte]; rfl) ?_
   refine Fo.len (v := ?_) (by simp only [↓nrmL, nrmK, Nat.reduceEqDiff, ↓reduceIte]; rfl) ?hv ?_; case hv => rfl
   refine Fo.bin rfl rfl rfl (by simp only [↓nrmL, nrmZ, Nat.reduceEqDiff, ↓reduceIte, hc]; rfl) ?_
   refine WpO.nil (hKF _ _ ?_)
   refine Wp.cond (b := false) rfl ?_
   refine Wp.exit ?_
   refine sq ?_
   refine rg fun KF hKF => ?_
   refine mB rfl ?_
   refine WpO.nil (hKF _ _ ?_)
   refine Wp.ret ?_
   dsimp only [cond_true, cond_false]
   refine ⟨trivial, _, rfl, ?_⟩
   exact ⟨rfl, Ext0.ext⟩
  ·have hil : i < l.length := by have := of_decide_eq_true hc; omega
   have him : i < m.length := by omega
   have hw1 := wa1 (a := i) (by omega)
   cases hne : (((l[i].toNat : Nat) : Int) != ((m[i].toNat : Nat) : Int))
   ·skip
    try simp only [↓nrmL, nrmZ, Nat.reduceEqDiff, ↓reduceIte, hc, hne]
    refine sq ?_
    refine sq ?_
    refine rg fun KF hKF => ?_
    refine mI rfl ?_
    refine Fo.mov (by simp only [↓nrmL, nrmK, Nat.reduceEqDiff, ↓reduceIte]; rfl) ?_
    refine Fo.len (v := ?_) (by simp only [↓nrmL, nrmK, Nat.reduceEqDiff, ↓reduceIte]; rfl) ?hv ?_; case hv => rfl
    refine Fo.bin rfl rfl rfl (by simp only [↓nrmL, nrmZ, Nat.reduceEqDiff, ↓reduceIte, hc, hne]; rfl) ?_
    refine WpO.nil (hKF _ _ ?_)
    refine Wp.cond (b := true) rfl ?_
    refine Wp.skip ?_
    refine sq ?_
    refine Wp.block ?_
    refine sq ?_
    refine Fr.quiet rfl rfl fun KF hKF => ?_
    refine Fo.mov (by simp only [↓nrmL, nrmK, Nat.reduceEqDiff, ↓reduceIte]; rfl) ?_
    refine mI rfl ?_
    refine Fo.idx (by simp only [↓nrmL, nrmK, Nat.reduceEqDiff, ↓reduceIte]; rfl) rfl ?_ (by simp only [↓nrmL, nrmZ, Nat.reduceEqDiff, ↓reduceIte, hc, hne]; rfl) ?_; (focus omega)
    refine Fo.ldB rfl ?_ rfl ?_; (focus omega)
    refine Fo.mov (by simp only [↓nrmL, nrmK, Nat.reduceEqDiff, ↓reduceIte]; rfl) ?_
    refine mI rfl ?_
    refine Fo.idx (by simp only [↓nrmL, nrmK, Nat.reduceEqDiff, ↓reduceIte]; rfl) rfl ?_ (by simp only [↓nrmL, nrmZ, Nat.reduceEqDiff, ↓reduceIte, hc, hne]; rfl) ?_; (focus omega)
    refine Fo.ldB rfl ?_ rfl ?_; (focus omega)
    refine Fo.bin rfl rfl rfl (by simp only [↓nrmL, nrmZ, Nat.reduceEqDiff, ↓reduceIte, hc, hne]; rfl) ?_
    refine WpO.nil (hKF _ _ ?_)
    refine Wp.cond (b := false) rfl ?_
    refine Wp.skip ?_
    refine rg fun KF hKF => ?_
    refine mI rfl ?_
    refine Fo.bin rfl rfl rfl rfl ?_
    refine mI rfl ?_
    refine WpO.nil (hKF _ _ ?_)
    dsimp only [cond_true, cond_false]
    refine ⟨i + 1, by omega, ⟨by simp only [↓nrmL, nrmZ, Nat.reduceEqDiff, ↓reduceIte]; rw [hw1], trivial⟩, hil, fun j hj => ?_, rfl⟩
    by_cases hj2 : j < i
    ·exact heq j hj2
    ·have : j = i := by omega
     subst this
     have h2 : l[j].toNat = m[j].toNat := by simp at hne; omega
     have : l[j] = m[j] := UInt8.toNat_inj.1 h2
     simp [hil, him, this]
   ·have hd : decide (l = m) = false := decide_eq_false (fun e => by subst e; simp at hne)
    rw [hd]
    try simp only [↓nrmL, nrmZ, Nat.reduceEqDiff, ↓reduceIte, hc, hne]
    refine sq ?_
    refine sq ?_
    refine rg fun KF hKF => ?_
    refine mI rfl ?_
    refine Fo.mov (by simp only [↓nrmL, nrmK, Nat.reduceEqDiff, ↓reduceIte]; rfl) ?_
    refine Fo.len (v := ?_) (by simp only [↓nrmL, nrmK, Nat.reduceEqDiff, ↓reduceIte]; rfl) ?hv ?_; case hv => rfl
    refine Fo.bin rfl rfl rfl (by simp only [↓nrmL, nrmZ, Nat.reduceEqDiff, ↓reduceIte, hc, hne]; rfl) ?_
    refine WpO.nil (hKF _ _ ?_)
    refine Wp.cond (b := true) rfl ?_
    refine Wp.skip ?_
    refine sq ?_
    refine Wp.block ?_
    refine sq ?_
    refine Fr.quiet rfl rfl fun KF hKF => ?_
    refine Fo.mov (by simp only [↓nrmL, nrmK, Nat.reduceEqDiff, ↓reduceIte]; rfl) ?_
    refine mI rfl ?_
    refine Fo.idx (by simp only [↓nrmL, nrmK, Nat.reduceEqDiff, ↓reduceIte]; rfl) rfl ?_ (by simp only [↓nrmL, nrmZ, Nat.reduceEqDiff, ↓reduceIte, hc, hne]; rfl) ?_; (focus omega)
    refine Fo.ldB rfl ?_ rfl ?_; (focus omega)
    refine Fo.mov (by simp only [↓nrmL, nrmK, Nat.reduceEqDiff, ↓reduceIte]; rfl) ?_
    refine mI rfl ?_
    refine Fo.idx (by simp only [↓nrmL, nrmK, Nat.reduceEqDiff, ↓reduceIte]; rfl) rfl ?_ (by simp only [↓nrmL, nrmZ, Nat.reduceEqDiff, ↓reduceIte, hc, hne]; rfl) ?_; (focus omega)
    refine Fo.ldB rfl ?_ rfl ?_; (focus omega)
    refine Fo.bin rfl rfl rfl (by simp only [↓nrmL, nrmZ, Nat.reduceEqDiff, ↓reduceIte, hc, hne]; rfl) ?_
    refine WpO.nil (hKF _ _ ?_)
    refine Wp.cond (b := true) rfl ?_
    refine sq ?_
    refine rg fun KF hKF => ?_
    refine mB rfl ?_
    refine WpO.nil (hKF _ _ ?_)
    refine Wp.ret ?_
    dsimp only [cond_true, cond_false]
    refine ⟨trivial, _, rfl, ?_⟩
    exact ⟨rfl, Ext0.ext⟩
 ·have h1 : (((l.length : Nat) : Int) != ((m.length : Nat) : Int)) = true := by simp; omega
  have hd : decide (l = m) = false := decide_eq_false (fun e => by subst e; exact hlm rfl)
  rw [hd]
  try simp only [↓nrmL, nrmZ, Nat.reduceEqDiff, ↓reduceIte, h1]
  refine sq ?_
  refine rg fun KF hKF => ?_
  refine mB rfl ?_
  refine WpO.nil (hKF _ _ ?_)
  refine sq ?_
  refine sq ?_
  refine rg fun KF hKF => ?_
  refine Fo.mov (by simp only [↓nrmL, nrmK, Nat.reduceEqDiff, ↓reduceIte]; rfl) ?_
  refine Fo.len (v := ?_) (by simp only [↓nrmL, nrmK, Nat.reduceEqDiff, ↓reduceIte]; rfl) ?hv ?_; case hv => rfl
  refine Fo.mov (by simp only [↓nrmL, nrmK, Nat.reduceEqDiff, ↓reduceIte]; rfl) ?_
  refine Fo.len (v := ?_) (by simp only [↓nrmL, nrmK, Nat.reduceEqDiff, ↓reduceIte]; rfl) ?hv ?_; case hv => rfl
  refine Fo.bin rfl rfl rfl (by simp only [↓nrmL, nrmZ, Nat.reduceEqDiff, ↓reduceIte, h1]; rfl) ?_
  refine WpO.nil (hKF _ _ ?_)
  refine Wp.cond (b := true) rfl ?_
  refine sq ?_
  refine rg fun KF hKF => ?_
  refine mB rfl ?_
  refine WpO.nil (hKF _ _ ?_)
  refine Wp.ret ?_
  dsimp only [cond_true, cond_false]
  refine ⟨trivial, _, rfl, ?_⟩
  exact ⟨rfl, Ext0.ext⟩⟩

/-- Two images are the same. -/
instance K_SameInk {p q : AVal} {H : AHeap} {w h w' h' : Int} {l m : List UInt8} [hp : BytesI H p l] [hq : BytesI H q m] [hs : Short l] : PureCon ext prog 32 [.agg [.int .i64 w, .int .i64 h, p], .agg [.int .i64 w', .int .i64 h', q]] H 2 (.bool (decide ((⟨w, h, l⟩ : Img) = ⟨w', h', m⟩))) := ⟨by
 refine con_of (show prog 32 = some c32 from rfl) rfl rfl fun n hn => ?_
 haveI := hp.one
 haveI := hq.one
 have e : decide ((⟨w, h, l⟩ : Img) = ⟨w', h', m⟩) = ((w == w') && (h == h') && decide (l = m)) := by
  by_cases h1 : w = w' <;> by_cases h2 : h = h' <;> by_cases h3 : l = m <;> simp [h1, h2, h3]
 rw [e]
 cases h1 : (w == w')
 ·skip
  try simp only [↓nrmL, nrmZ, Nat.reduceEqDiff, ↓reduceIte, h1]
  refine sq ?_
  refine rg fun KF hKF => ?_
  refine Fo.boxA rfl ?_
  refine Fo.boxA rfl ?_
  refine mB rfl ?_
  refine WpO.nil (hKF _ _ ?_)
  refine sq ?_
  refine rg fun KF hKF => ?_
  refine Fo.fa rfl ?_
  refine Fo.ld rfl rfl ?_
  refine Fo.fa rfl ?_
  refine Fo.ld rfl rfl ?_
  refine Fo.bin rfl rfl rfl (by simp only [↓nrmL, nrmZ, Nat.reduceEqDiff, ↓reduceIte, h1]; rfl) ?_
  refine mB rfl ?_
  refine Fo.no rfl rfl ?_
  refine Fo.no rfl rfl ?_
  refine Fo.no rfl rfl ?_
  refine Fo.no rfl rfl ?_
  refine Fo.no rfl rfl ?_
  refine fB rfl rfl ?_
  refine mB rfl ?_
  refine Fo.no rfl rfl ?_
  refine Fo.no rfl rfl ?_
  refine Fo.no rfl rfl ?_
  refine Fo.no rfl rfl ?_
  refine Fo.no rfl rfl ?_
  refine fB rfl rfl ?_
  refine mB rfl ?_
  refine WpO.nil (hKF _ _ ?_)
  refine Wp.ret ?_
  dsimp only [cond_true, cond_false]
  refine ⟨trivial, _, rfl, ?_⟩
  exact ⟨rfl, Ext0.ext⟩
 cases h2 : (h == h')
 ·skip
  try simp only [↓nrmL, nrmZ, Nat.reduceEqDiff, ↓reduceIte, h1, h2]
  refine sq ?_
  refine rg fun KF hKF => ?_
  refine Fo.boxA rfl ?_
  refine Fo.boxA rfl ?_
  refine mB rfl ?_
  refine WpO.nil (hKF _ _ ?_)
  refine sq ?_
  refine rg fun KF hKF => ?_
  refine Fo.fa rfl ?_
  refine Fo.ld rfl rfl ?_
  refine Fo.fa rfl ?_
  refine Fo.ld rfl rfl ?_
  refine Fo.bin rfl rfl rfl (by simp only [↓nrmL, nrmZ, Nat.reduceEqDiff, ↓reduceIte, h1, h2]; rfl) ?_
  refine mB rfl ?_
  refine Fo.yes rfl rfl ?_
  refine Fo.fa rfl ?_
  refine Fo.yes rfl rfl ?_
  refine Fo.ld rfl rfl ?_
  refine Fo.yes rfl rfl ?_
  refine Fo.fa rfl ?_
  refine Fo.yes rfl rfl ?_
  refine Fo.ld rfl rfl ?_
  refine Fo.yes rfl rfl ?_
  refine Fo.bin rfl rfl rfl (by simp only [↓nrmL, nrmZ, Nat.reduceEqDiff, ↓reduceIte, h1, h2]; rfl) ?_
  refine tB rfl rfl ?_
  refine mB rfl ?_
  refine Fo.no rfl rfl ?_
  refine Fo.no rfl rfl ?_
  refine Fo.no rfl rfl ?_
  refine Fo.no rfl rfl ?_
  refine Fo.no rfl rfl ?_
  refine fB rfl rfl ?_
  refine mB rfl ?_
  refine WpO.nil (hKF _ _ ?_)
  refine Wp.ret ?_
  dsimp only [cond_true, cond_false]
  refine ⟨trivial, _, rfl, ?_⟩
  exact ⟨rfl, Ext0.ext⟩
 ·skip
  try simp only [↓nrmL, nrmZ, Nat.reduceEqDiff, ↓reduceIte, h1, h2]
  refine sq ?_
  refine rg fun KF hKF => ?_
  refine Fo.boxA rfl ?_
  refine Fo.boxA rfl ?_
  refine mB rfl ?_
  refine WpO.nil (hKF _ _ ?_)
  refine sq ?_
  refine rg fun KF hKF => ?_
  refine Fo.fa rfl ?_
  refine Fo.ld rfl rfl ?_
  refine Fo.fa rfl ?_
  refine Fo.ld rfl rfl ?_
  refine Fo.bin rfl rfl rfl (by simp only [↓nrmL, nrmZ, Nat.reduceEqDiff, ↓reduceIte, h1, h2]; rfl) ?_
  refine mB rfl ?_
  refine Fo.yes rfl rfl ?_
  refine Fo.fa rfl ?_
  refine Fo.yes rfl rfl ?_
  refine Fo.ld rfl rfl ?_
  refine Fo.yes rfl rfl ?_
  refine Fo.fa rfl ?_
  refine Fo.yes rfl rfl ?_
  refine Fo.ld rfl rfl ?_
  refine Fo.yes rfl rfl ?_
  refine Fo.bin rfl rfl rfl (by simp only [↓nrmL, nrmZ, Nat.reduceEqDiff, ↓reduceIte, h1, h2]; rfl) ?_
  refine tB rfl rfl ?_
  refine mB rfl ?_
  refine Fo.yes rfl rfl ?_
  refine Fo.fa rfl ?_
  refine Fo.yes rfl rfl ?_
  refine Fo.ld rfl rfl ?_
  refine Fo.yes rfl rfl ?_
  refine Fo.fa rfl ?_
  refine Fo.yes rfl rfl ?_
  refine Fo.ld rfl rfl ?_
  refine Fo.yes rfl rfl ?_
  refine Fo.pcall (v' := ?_) hn rfl (by simp only [↓nrmL, nrmZ, Nat.reduceEqDiff, ↓reduceIte, h1, h2, List.map]; rfl) rfl ?hv fun _ _ => ?_; case hv => rfl
  refine tB rfl rfl ?_
  refine mB rfl ?_
  refine WpO.nil (hKF _ _ ?_)
  refine Wp.ret ?_
  dsimp only [cond_true, cond_false]
  refine ⟨trivial, _, rfl, ?_⟩
  exact ⟨rfl, Ext0.ext⟩⟩
/-- The same image, and the same error. -/
instance K_same {p q : AVal} {H : AHeap} {w h w' h' e e' : Int} {l m : List UInt8} [hp : BytesI H p l] [hq : BytesI H q m] [hs : Short l] : PureCon ext prog 44 [.agg [.int .i64 w, .int .i64 h, p], .int .i64 e, .agg [.int .i64 w', .int .i64 h', q], .int .i64 e'] H 3 (.bool (decide ((⟨w, h, l⟩ : Img) = ⟨w', h', m⟩) && (e == e'))) := ⟨by
 refine con_of (show prog 44 = some c44 from rfl) rfl rfl fun n hn => ?_
 haveI := hp.one
 haveI := hq.one
 cases h1 : decide ((⟨w, h, l⟩ : Img) = ⟨w', h', m⟩)
 ·skip
  try simp only [↓nrmL, nrmZ, Nat.reduceEqDiff, ↓reduceIte, h1]
  refine sq ?_
  refine rg fun KF hKF => ?_
  refine Fo.boxA rfl ?_
  refine Fo.boxA rfl ?_
  refine mB rfl ?_
  refine WpO.nil (hKF _ _ ?_)
  refine sq ?_
  refine rg fun KF hKF => ?_
  refine Fo.ldN rfl rfl (by simp only [↓nrmL, nrmZ, Nat.reduceEqDiff, ↓reduceIte, h1]; rfl) ?_
  refine Fo.ldN rfl rfl (by simp only [↓nrmL, nrmZ, Nat.reduceEqDiff, ↓reduceIte, h1]; rfl) ?_
  refine Fo.pcall (v' := ?_) hn rfl (by simp only [↓nrmL, nrmZ, Nat.reduceEqDiff, ↓reduceIte, h1, List.map]; rfl) rfl ?hv fun _ _ => ?_; case hv => (simp only [↓nrmL, nrmZ, Nat.reduceEqDiff, ↓reduceIte, h1]; rfl)
  refine mB rfl ?_
  refine Fo.no rfl rfl ?_
  refine Fo.no rfl rfl ?_
  refine Fo.no rfl rfl ?_
  refine fB rfl rfl ?_
  refine mB rfl ?_
  refine WpO.nil (hKF _ _ ?_)
  refine Wp.ret ?_
  dsimp only [cond_true, cond_false]
  refine ⟨trivial, _, rfl, ?_⟩
  exact ⟨rfl, Ext0.ext⟩
 ·skip
  try simp only [↓nrmL, nrmZ, Nat.reduceEqDiff, ↓reduceIte, h1]
  refine sq ?_
  refine rg fun KF hKF => ?_
  refine Fo.boxA rfl ?_
  refine Fo.boxA rfl ?_
  refine mB rfl ?_
  refine WpO.nil (hKF _ _ ?_)
  refine sq ?_
  refine rg fun KF hKF => ?_
  refine Fo.ldN rfl rfl (by simp only [↓nrmL, nrmZ, Nat.reduceEqDiff, ↓reduceIte, h1]; rfl) ?_
  refine Fo.ldN rfl rfl (by simp only [↓nrmL, nrmZ, Nat.reduceEqDiff, ↓reduceIte, h1]; rfl) ?_
  refine Fo.pcall (v' := ?_) hn rfl (by simp only [↓nrmL, nrmZ, Nat.reduceEqDiff, ↓reduceIte, h1, List.map]; rfl) rfl ?hv fun _ _ => ?_; case hv => (simp only [↓nrmL, nrmZ, Nat.reduceEqDiff, ↓reduceIte, h1]; rfl)
  refine mB rfl ?_
  refine Fo.yes rfl rfl ?_
  refine mI rfl ?_
  refine Fo.yes rfl rfl ?_
  refine mI rfl ?_
  refine Fo.yes rfl rfl ?_
  refine Fo.bin rfl rfl rfl rfl ?_
  refine tB rfl rfl ?_
  refine mB rfl ?_
  refine WpO.nil (hKF _ _ ?_)
  refine Wp.ret ?_
  dsimp only [cond_true, cond_false]
  refine ⟨trivial, _, rfl, ?_⟩
  exact ⟨rfl, Ext0.ext⟩⟩
end Go.Am

set_option maxHeartbeats 4000000
set_option maxRecDepth 100000
namespace Go.Am
open Go
attribute [local irreducible] Wp WpO WpX WpE

/-- bytealg.Count -/
instance K_bCount {p : AVal} {H : AHeap} {l : List UInt8} {k : Int} {b : UInt8} [hp : BytesI H p l] [hb : IsU8 k b] : PureCon ext prog 154 [p, .int .u8 k] H 0 (.int .i64 (l.count b : Nat)) := ⟨fun n hn => by
 obtain ⟨m, rfl⟩ : ∃ m, n = m + 1 := ⟨n - 1, by unfold fuel0 at hn; omega⟩
 have e1 : prog 154 = some ⟨0, .ext 0, []⟩ := rfl
 refine ⟨_, H, ?_, rfl, Ext.refl H⟩
 rw [call_ext e1]
 have hb' := hb.eq
 subst hb'
 show aBytesFn (fun l => .int .i64 (Lib.countByte l (UInt8.ofNat ((b.toNat : Int)).toNat))) p H = _
 rw [aBytesFn_at]
 simp [Lib.countByte]⟩
/-- bytes.Count of one byte -/
instance K_bytesCount {p q : AVal} {H : AHeap} {l : List UInt8} {b : UInt8} [hp : BytesI H p l] [hq : BytesI H q [b]] : PureCon ext prog 107 [p, q] H 1 (.int .i64 (l.count b : Nat)) := ⟨by
 refine con_of (show prog 107 = some c107 from rfl) rfl rfl fun n hn => ?_
 have e0 : [b].length = 1 := rfl
 try simp only [↓nrmL, nrmZ, Nat.reduceEqDiff, ↓reduceIte, Nat.reduceAdd, Int.reduceBEq, Int.reduceBNe, e0]
 refine sq ?_
 refine rg fun KF hKF => ?_
 refine mI rfl ?_
 refine WpO.nil (hKF _ _ ?_)
 refine sq ?_
 refine sq ?_
 refine rg fun KF hKF => ?_
 refine Fo.mov (by simp only [↓nrmL, nrmK, Nat.reduceEqDiff, ↓reduceIte]; rfl) ?_
 refine Fo.len (v := ?_) (by simp only [↓nrmL, nrmK, Nat.reduceEqDiff, ↓reduceIte]; rfl) ?hv ?_; case hv => (simp only [↓nrmL, nrmZ, Nat.reduceEqDiff, ↓reduceIte, Nat.reduceAdd, Int.reduceBEq, Int.reduceBNe, e0]; rfl)
 refine Fo.bin rfl rfl rfl rfl ?_
 refine WpO.nil (hKF _ _ ?_)
 refine Wp.cond (b := false) rfl ?_
 refine Wp.skip ?_
 refine sq ?_
 refine sq ?_
 refine rg fun KF hKF => ?_
 refine Fo.mov (by simp only [↓nrmL, nrmK, Nat.reduceEqDiff, ↓reduceIte]; rfl) ?_
 refine Fo.len (v := ?_) (by simp only [↓nrmL, nrmK, Nat.reduceEqDiff, ↓reduceIte]; rfl) ?hv ?_; case hv => (simp only [↓nrmL, nrmZ, Nat.reduceEqDiff, ↓reduceIte, Nat.reduceAdd, Int.reduceBEq, Int.reduceBNe, e0]; rfl)
 refine Fo.bin rfl rfl rfl rfl ?_
 refine WpO.nil (hKF _ _ ?_)
 refine Wp.cond (b := true) rfl ?_
 refine sq ?_
 refine rg fun KF hKF => ?_
 refine Fo.mov (by simp only [↓nrmL, nrmK, Nat.reduceEqDiff, ↓reduceIte]; rfl) ?_
 refine Fo.mov (by simp only [↓nrmL, nrmK, Nat.reduceEqDiff, ↓reduceIte]; rfl) ?_
 refine Fo.idx (by simp only [↓nrmL, nrmK, Nat.reduceEqDiff, ↓reduceIte]; rfl) rfl ?_ (by simp only [↓nrmL, nrmZ, Nat.reduceEqDiff, ↓reduceIte, Nat.reduceAdd, Int.reduceBEq, Int.reduceBNe, e0]; rfl) ?_; (focus omega)
 refine Fo.ldB rfl ?_ rfl ?_; (focus omega)
 refine Fo.pcall (v' := ?_) hn rfl (by simp only [↓nrmL, nrmZ, Nat.reduceEqDiff, ↓reduceIte, Nat.reduceAdd, Int.reduceBEq, Int.reduceBNe, e0, List.map]; rfl) rfl ?hv fun _ _ => ?_; case hv => rfl
 refine mI rfl ?_
 refine WpO.nil (hKF _ _ ?_)
 refine Wp.ret ?_
 dsimp only [cond_true, cond_false]
 refine ⟨trivial, _, (by first | rfl | exact getAllC rfl rfl rfl rfl | exact getAllT rfl (getAllC rfl rfl rfl rfl) | exact getAllC rfl rfl rfl (getAllC rfl rfl rfl rfl) | exact getAllC1 rfl rfl rfl), ?_⟩
 exact ⟨rfl, Ext0.ext⟩⟩
end Go.Am

set_option maxHeartbeats 4000000
set_option maxRecDepth 100000
namespace Go.Am
open Go
attribute [local irreducible] Wp WpO WpX WpE

instance K_count {p : AVal} {H : AHeap} {w h : Int} {l : List UInt8} [hp : BytesI H p l] : PureCon ext prog 97 [.agg [.int .i64 w, .int .i64 h, p]] H 2 (.int .i64 (l.count 1 : Nat)) := ⟨by
 refine con_of (show prog 97 = some c97 from rfl) rfl rfl fun n hn => ?_
 haveI := hp.one
 refine sq ?_
 refine rg fun KF hKF => ?_
 refine Fo.boxA rfl ?_
 refine mI rfl ?_
 refine WpO.nil (hKF _ _ ?_)
 refine sq ?_
 refine rg fun KF hKF => ?_
 refine Fo.fa rfl ?_
 refine Fo.ld rfl rfl ?_
 refine Fo.bslice rfl (by simp only [↓nrmL, nrmZ, Nat.reduceEqDiff, ↓reduceIte, Nat.reduceAdd, Int.reduceBEq, Int.reduceBNe]; rfl) ?_
 refine Fo.pcall (v' := ?_) hn rfl (by simp only [↓nrmL, nrmZ, Nat.reduceEqDiff, ↓reduceIte, Nat.reduceAdd, Int.reduceBEq, Int.reduceBNe, List.map]; rfl) rfl ?hv fun _ _ => ?_; case hv => rfl
 refine mI rfl ?_
 refine WpO.nil (hKF _ _ ?_)
 refine Wp.ret ?_
 dsimp only [cond_true, cond_false]
 refine ⟨trivial, _, (by first | rfl | exact getAllC rfl rfl rfl rfl | exact getAllT rfl (getAllC rfl rfl rfl rfl) | exact getAllC rfl rfl rfl (getAllC rfl rfl rfl rfl) | exact getAllC1 rfl rfl rfl), ?_⟩
 exact ⟨rfl, Ext0.ext⟩⟩

/-- The error of an image. -/
def Img.err (g : Img) : Int := bif g.sized then bif pxOk g.px then 0 else 3 else 2
instance K_Check {p : AVal} {H : AHeap} {w h : Int} {l : List UInt8} [hp : BytesI H p l] : PureCon ext prog 27 [.agg [.int .i64 w, .int .i64 h, p]] H 3 (.int .i64 (Img.err ⟨w, h, l⟩)) := ⟨by
 refine con_of (show prog 27 = some c27 from rfl) rfl rfl fun n hn => ?_
 haveI := hp.one
 unfold Img.err Img.sized sizedB
 cases h1 : (sideB w && sideB h && ((l.length : Nat) == IntKind.i64.wrap (w * h)))
 ·skip
  try simp only [↓nrmL, nrmZ, Nat.reduceEqDiff, ↓reduceIte, Nat.reduceAdd, Int.reduceBEq, Int.reduceBNe, h1]
  refine sq ?_
  refine rg fun KF hKF => ?_
  refine Fo.boxA rfl ?_
  refine mI rfl ?_
  refine WpO.nil (hKF _ _ ?_)
  refine sq ?_
  refine sq ?_
  refine rg fun KF hKF => ?_
  refine Fo.fa rfl ?_
  refine Fo.ld rfl rfl ?_
  refine Fo.fa rfl ?_
  refine Fo.ld rfl rfl ?_
  refine Fo.fa rfl ?_
  refine Fo.ld rfl rfl ?_
  refine Fo.len (v := ?_) (by simp only [↓nrmL, nrmK, Nat.reduceEqDiff, ↓reduceIte]; rfl) ?hv ?_; case hv => rfl
  refine Fo.pcall (v' := ?_) hn rfl (by simp only [↓nrmL, nrmZ, Nat.reduceEqDiff, ↓reduceIte, Nat.reduceAdd, Int.reduceBEq, Int.reduceBNe, h1, List.map]; rfl) rfl ?hv fun _ _ => ?_; case hv => (simp only [↓nrmL, nrmZ, Nat.reduceEqDiff, ↓reduceIte, Nat.reduceAdd, Int.reduceBEq, Int.reduceBNe, h1]; rfl)
  refine Fo.now rfl rfl (by simp only [↓nrmL, nrmZ, Nat.reduceEqDiff, ↓reduceIte, Nat.reduceAdd, Int.reduceBEq, Int.reduceBNe, h1]; rfl) ?_
  refine WpO.nil (hKF _ _ ?_)
  refine Wp.cond (b := true) rfl ?_
  refine sq ?_
  refine rg fun KF hKF => ?_
  refine mI rfl ?_
  refine WpO.nil (hKF _ _ ?_)
  refine Wp.ret ?_
  dsimp only [cond_true, cond_false]
  refine ⟨trivial, _, (by first | rfl | exact getAllC rfl rfl rfl rfl | exact getAllT rfl (getAllC rfl rfl rfl rfl) | exact getAllC rfl rfl rfl (getAllC rfl rfl rfl rfl) | exact getAllC1 rfl rfl rfl), ?_⟩
  exact ⟨rfl, Ext0.ext⟩
 ·obtain ⟨a, b, rfl, rfl, ha, hb, hl⟩ := sized_nat (n := l.length) h1
  have hm : a * b ≤ 640 * 640 := Nat.mul_le_mul ha hb
  have hc0 := count_le l 0
  have hc1 := count_le l 1
  have hw := wa (a := l.count 0) (b := l.count 1) (by omega)
  have h2 : (((l.count 0 + l.count 1 : Nat) : Int) != ((l.length : Nat) : Int)) = !(pxOk l) := by
   have := count01 l
   cases hp : pxOk l
   ·have : l.count 0 + l.count 1 ≠ l.length := fun e => by rw [this] at e; rw [hp] at e; cases e
    simp; omega
   ·have := this.2 hp
    simp [this]
  try simp only [↓nrmL, nrmZ, Nat.reduceEqDiff, ↓reduceIte, Nat.reduceAdd, Int.reduceBEq, Int.reduceBNe, h1]
  refine sq ?_
  refine rg fun KF hKF => ?_
  refine Fo.boxA rfl ?_
  refine mI rfl ?_
  refine WpO.nil (hKF _ _ ?_)
  refine sq ?_
  refine sq ?_
  refine rg fun KF hKF => ?_
  refine Fo.fa rfl ?_
  refine Fo.ld rfl rfl ?_
  refine Fo.fa rfl ?_
  refine Fo.ld rfl rfl ?_
  refine Fo.fa rfl ?_
  refine Fo.ld rfl rfl ?_
  refine Fo.len (v := ?_) (by simp only [↓nrmL, nrmK, Nat.reduceEqDiff, ↓reduceIte]; rfl) ?hv ?_; case hv => rfl
  refine Fo.pcall (v' := ?_) hn rfl (by simp only [↓nrmL, nrmZ, Nat.reduceEqDiff, ↓reduceIte, Nat.reduceAdd, Int.reduceBEq, Int.reduceBNe, h1, List.map]; rfl) rfl ?hv fun _ _ => ?_; case hv => (simp only [↓nrmL, nrmZ, Nat.reduceEqDiff, ↓reduceIte, Nat.reduceAdd, Int.reduceBEq, Int.reduceBNe, h1]; rfl)
  refine Fo.now rfl rfl (by simp only [↓nrmL, nrmZ, Nat.reduceEqDiff, ↓reduceIte, Nat.reduceAdd, Int.reduceBEq, Int.reduceBNe, h1]; rfl) ?_
  refine WpO.nil (hKF _ _ ?_)
  refine Wp.cond (b := false) rfl ?_
  refine Wp.skip ?_
  refine sq ?_
  refine sq ?_
  dsimp only [cond_true, cond_false]
  refine Fr.dregionE [.row [.int .u8 0] true (2 * 5)] ?_ fun KF hKF => ?_
  ·skip
   refine oracle_pre rfl rfl rfl rfl ?_; (try simp only [↓nrmL, nrmZ, Nat.reduceEqDiff, ↓reduceIte, Nat.reduceAdd, Int.reduceBEq, Int.reduceBNe])
   refine oracle_pre rfl rfl rfl (exec_ld rfl rfl) ?_; (try simp only [↓nrmL, nrmZ, Nat.reduceEqDiff, ↓reduceIte, Nat.reduceAdd, Int.reduceBEq, Int.reduceBNe])
   refine oracle_made rfl rfl rfl ?_; (try simp only [↓nrmL, nrmZ, Nat.reduceEqDiff, ↓reduceIte, Nat.reduceAdd, Int.reduceBEq, Int.reduceBNe])
   exact oracle_none _ _ _ _ rfl
  simp only [pushAll]
  try simp only [↓nrmL, nrmZ, Nat.reduceEqDiff, ↓reduceIte, Nat.reduceAdd, Int.reduceBEq, Int.reduceBNe, hw]
  refine Fe.pure rfl rfl (by simp only [↓nrmL, nrmZ, Nat.reduceEqDiff, ↓reduceIte, Nat.reduceAdd, Int.reduceBEq, Int.reduceBNe, hw]; rfl) ?_
  refine Fe.read rfl (exec_ld rfl rfl) rfl (by repeat (first | exact trivial | refine ⟨(by first | exact Or.inl (by dsimp only; decide) | exact Or.inr (exec_ld rfl rfl) | exact Or.inr (exec_ldN rfl rfl rfl) | exact Or.inr (exec_ldB rfl (by omega)) | exact Or.inr (exec_ldI rfl (by omega)) | exact Or.inr ghost_of), ?_⟩)) ?_
  refine Fe.made rfl rfl ghost_of (by repeat (first | exact trivial | refine ⟨(by first | exact Or.inl (by dsimp only; decide) | exact Or.inr (exec_ld rfl rfl) | exact Or.inr (exec_ldN rfl rfl rfl) | exact Or.inr (exec_ldB rfl (by omega)) | exact Or.inr (exec_ldI rfl (by omega)) | exact Or.inr ghost_of), ?_⟩)) rfl ?_
  refine Fe.pcall (v' := ?_) rfl hn rfl (by simp only [↓nrmL, nrmZ, Nat.reduceEqDiff, ↓reduceIte, Nat.reduceAdd, Int.reduceBEq, Int.reduceBNe, hw, List.map]; rfl) rfl ?hv fun _ _ => ⟨(by repeat (first | exact trivial | refine ⟨(by first | exact Or.inl (by dsimp only; decide) | exact Or.inr (readOk_of (exec_ld rfl rfl)) | exact Or.inr (readOk_of (exec_ldN rfl rfl rfl)) | exact Or.inr (readOk_of (exec_ldB rfl (by omega))) | exact Or.inr (readOk_of (exec_ldI rfl (by omega))) | exact Or.inr (made_of rfl)), ?_⟩)), ?_⟩; case hv => rfl
  refine Fe.read rfl (exec_ldN rfl rfl (by simp only [↓nrmL, nrmZ, Nat.reduceEqDiff, ↓reduceIte, Nat.reduceAdd, Int.reduceBEq, Int.reduceBNe, hw]; rfl)) rfl (by repeat (first | exact trivial | refine ⟨(by first | exact Or.inl (by dsimp only; decide) | exact Or.inr (exec_ld rfl rfl) | exact Or.inr (exec_ldN rfl rfl rfl) | exact Or.inr (exec_ldB rfl (by omega)) | exact Or.inr (exec_ldI rfl (by omega)) | exact Or.inr ghost_of), ?_⟩)) ?_
  refine Fe.pcall (v' := ?_) rfl hn rfl (by simp only [↓nrmL, nrmZ, Nat.reduceEqDiff, ↓reduceIte, Nat.reduceAdd, Int.reduceBEq, Int.reduceBNe, hw, List.map]; rfl) rfl ?hv fun _ _ => ⟨(by repeat (first | exact trivial | refine ⟨(by first | exact Or.inl (by dsimp only; decide) | exact Or.inr (readOk_of (exec_ld rfl rfl)) | exact Or.inr (readOk_of (exec_ldN rfl rfl rfl)) | exact Or.inr (readOk_of (exec_ldB rfl (by omega))) | exact Or.inr (readOk_of (exec_ldI rfl (by omega))) | exact Or.inr (made_of rfl)), ?_⟩)), ?_⟩; case hv => rfl
  refine Fe.pure rfl rfl (by simp only [↓nrmL, nrmZ, Nat.reduceEqDiff, ↓reduceIte, Nat.reduceAdd, Int.reduceBEq, Int.reduceBNe, hw]; rfl) ?_
  refine Fe.pure rfl rfl (by simp only [↓nrmL, nrmZ, Nat.reduceEqDiff, ↓reduceIte, Nat.reduceAdd, Int.reduceBEq, Int.reduceBNe, hw]; rfl) ?_
  refine Fe.read rfl (exec_ld rfl rfl) rfl (by repeat (first | exact trivial | refine ⟨(by first | exact Or.inl (by dsimp only; decide) | exact Or.inr (exec_ld rfl rfl) | exact Or.inr (exec_ldN rfl rfl rfl) | exact Or.inr (exec_ldB rfl (by omega)) | exact Or.inr (exec_ldI rfl (by omega)) | exact Or.inr ghost_of), ?_⟩)) ?_
  refine Fe.pure rfl (exec_lenP (by (try simp only [↓nrmL, nrmZ, Nat.reduceEqDiff, ↓reduceIte, Nat.reduceAdd, Int.reduceBEq, Int.reduceBNe, hw]); rfl)) rfl ?_
  refine Fe.pure rfl rfl rfl ?_
  refine WpE.nil (hKF _ _ ?_)
  cases hp2 : pxOk l
  ·rw [hp2] at h2
   try simp only [↓nrmL, nrmZ, Nat.reduceEqDiff, ↓reduceIte, Nat.reduceAdd, Int.reduceBEq, Int.reduceBNe, hw, h2]
   refine Wp.cond (b := true) rfl ?_
   refine sq ?_
   refine rg fun KF hKF => ?_
   refine mI rfl ?_
   refine WpO.nil (hKF _ _ ?_)
   refine Wp.ret ?_
   dsimp only [cond_true, cond_false]
   refine ⟨trivial, _, (by first | rfl | exact getAllC rfl rfl rfl rfl | exact getAllT rfl (getAllC rfl rfl rfl rfl) | exact getAllC rfl rfl rfl (getAllC rfl rfl rfl rfl) | exact getAllC1 rfl rfl rfl), ?_⟩
   exact ⟨rfl, Ext0.ext⟩
  ·rw [hp2] at h2
   try simp only [↓nrmL, nrmZ, Nat.reduceEqDiff, ↓reduceIte, Nat.reduceAdd, Int.reduceBEq, Int.reduceBNe, hw, h2]
   refine Wp.cond (b := false) rfl ?_
   refine Wp.skip ?_
   refine sq ?_
   refine rg fun KF hKF => ?_
   refine mI rfl ?_
   refine WpO.nil (hKF _ _ ?_)
   refine Wp.ret ?_
   dsimp only [cond_true, cond_false]
   refine ⟨trivial, _, (by first | rfl | exact getAllC rfl rfl rfl rfl | exact getAllT rfl (getAllC rfl rfl rfl rfl) | exact getAllC rfl rfl rfl (getAllC rfl rfl rfl rfl) | exact getAllC1 rfl rfl rfl), ?_⟩
   exact ⟨rfl, Ext0.ext⟩⟩
end Go.Am

set_option maxHeartbeats 4000000
set_option maxRecDepth 100000
namespace Go.Am
open Go
attribute [local irreducible] Wp WpO WpX WpE

theorem K_Clone {H : AHeap} {p : AVal} {l : List UInt8} [hp : BytesI H p l] (hl : l.length < 2 ^ 40) : Con ext prog 1 127 [p] H fun v H' => NewBytes H H' v l := by
 refine con_of (show prog 127 = some c127 from rfl) rfl rfl fun n hn => ?_
 rcases hp.it with ⟨rfl, h0, _⟩ | ⟨r, off, cap, row, rw, e, rfl, hr, hg, hle, hc, _⟩
 ·have : l = [] := List.eq_nil_of_length_eq_zero h0
  subst this
  refine sq ?_
  refine rg fun KF hKF => ?_
  refine mN rfl ?_
  refine WpO.nil (hKF _ _ ?_)
  refine sq ?_
  refine sq ?_
  refine rg fun KF hKF => ?_
  refine mN rfl ?_
  refine Fo.now rfl rfl (by simp only [↓nrmL, nrmZ, Nat.reduceEqDiff, ↓reduceIte]; rfl) ?_
  refine WpO.nil (hKF _ _ ?_)
  refine Wp.cond (b := true) rfl ?_
  refine sq ?_
  refine rg fun KF hKF => ?_
  refine mN rfl ?_
  refine WpO.nil (hKF _ _ ?_)
  refine Wp.ret ?_
  dsimp only [cond_true, cond_false]
  refine ⟨trivial, _, rfl, ?_⟩
  exact (show NewBytes H H .nslice [] from ⟨inferInstance, ⟨fun _ _ _ _ _ e => by cases e⟩, ⟨fun _ _ _ _ _ e => by cases e⟩, Ext0.ext⟩)
 ·skip
  refine sq ?_
  refine rg fun KF hKF => ?_
  refine mN rfl ?_
  refine WpO.nil (hKF _ _ ?_)
  refine sq ?_
  refine sq ?_
  refine rg fun KF hKF => ?_
  refine Fo.mov (by simp only [↓nrmL, nrmK, Nat.reduceEqDiff, ↓reduceIte]; rfl) ?_
  refine Fo.now rfl rfl (by simp only [↓nrmL, nrmZ, Nat.reduceEqDiff, ↓reduceIte]; rfl) ?_
  refine WpO.nil (hKF _ _ ?_)
  refine Wp.cond (b := false) rfl ?_
  refine Wp.skip ?_
  refine sq ?_
  refine rg fun KF hKF => ?_
  refine Fo.bslice rfl rfl ?_
  refine Fo.mov (by simp only [↓nrmL, nrmK, Nat.reduceEqDiff, ↓reduceIte]; rfl) ?_
  refine WpO.do (WpX.appendE rfl (by simp only [↓nrmL, nrmZ, Nat.reduceEqDiff, ↓reduceIte, List.map] <;> rfl) hl fun v H1 h1 h2 h3 h4 => ?_)
  refine Fo.mov (by simp only [↓nrmL, nrmK, Nat.reduceEqDiff, ↓reduceIte]; rfl) ?_
  refine WpO.nil (hKF _ _ ?_)
  refine Wp.ret ?_
  dsimp only [cond_true, cond_false]
  refine ⟨trivial, _, rfl, ?_⟩
  refine (show NewBytes H H1 v l from ⟨h1, ⟨fun r' _ _ _ _ e => ?_⟩, h3, Ext0.ext⟩)
  rcases h2 _ _ _ _ _ e with rfl | h5
  ·exact Nat.le_refl _
  ·exact Nat.le_trans (Nat.le_succ _) h5

theorem K_twin {H : AHeap} {a b : Int} {p : AVal} {l : List UInt8} [hp : BytesI H p l] (hl : l.length < 2 ^ 40) : Con ext prog 2 98 [.agg [.int .i64 a, .int .i64 b, p]] H fun v H' => NewInk H H' v ⟨a, b, l⟩ := by
 refine con_of (show prog 98 = some c98 from rfl) rfl rfl fun n hn => ?_
 haveI := hp.one
 refine sq ?_
 refine rg fun KF hKF => ?_
 refine Fo.boxA rfl ?_
 refine Fo.new ?_
 refine WpO.nil (hKF _ _ ?_)
 refine sq ?_
 refine Fr.dregion0 rfl fun KF hKF => ?_
 refine Fe.pure rfl rfl (by simp only [↓nrmL, nrmZ, Nat.reduceEqDiff, ↓reduceIte]; rfl) ?_
 refine Fe.read rfl (exec_ld rfl rfl) rfl (by repeat (first | exact trivial | refine ⟨(by first | exact Or.inl (by dsimp only; decide) | exact Or.inr (exec_ld rfl rfl) | exact Or.inr (exec_ldN rfl rfl rfl) | exact Or.inr (exec_ldB rfl (by omega)) | exact Or.inr (exec_ldI rfl (by omega)) | exact Or.inr ghost_of), ?_⟩)) ?_
 refine Fe.pure rfl rfl (by simp only [↓nrmL, nrmZ, Nat.reduceEqDiff, ↓reduceIte]; rfl) ?_
 refine Fe.read rfl (exec_ld rfl rfl) rfl (by repeat (first | exact trivial | refine ⟨(by first | exact Or.inl (by dsimp only; decide) | exact Or.inr (exec_ld rfl rfl) | exact Or.inr (exec_ldN rfl rfl rfl) | exact Or.inr (exec_ldB rfl (by omega)) | exact Or.inr (exec_ldI rfl (by omega)) | exact Or.inr ghost_of), ?_⟩)) ?_
 refine Fe.pure rfl rfl (by simp only [↓nrmL, nrmZ, Nat.reduceEqDiff, ↓reduceIte]; rfl) ?_
 refine Fe.read rfl (exec_ld rfl rfl) rfl (by repeat (first | exact trivial | refine ⟨(by first | exact Or.inl (by dsimp only; decide) | exact Or.inr (exec_ld rfl rfl) | exact Or.inr (exec_ldN rfl rfl rfl) | exact Or.inr (exec_ldB rfl (by omega)) | exact Or.inr (exec_ldI rfl (by omega)) | exact Or.inr ghost_of), ?_⟩)) ?_
 refine Fe.con rfl hn rfl rfl (by simp only [↓nrmL, nrmZ, Nat.reduceEqDiff, ↓reduceIte, List.map] <;> rfl) (K_Clone hl) fun v H1 ⟨h1, h2, h3, h4⟩ => ?_
 haveI : ExtI _ H1 := ⟨h4⟩
 haveI := h1.one
 refine ⟨(by repeat (first | exact trivial | refine ⟨(by first | exact Or.inl (by dsimp only; decide) | exact Or.inr (readOk_of (exec_ld rfl rfl)) | exact Or.inr (readOk_of (exec_ldN rfl rfl rfl)) | exact Or.inr (readOk_of (exec_ldB rfl (by omega))) | exact Or.inr (readOk_of (exec_ldI rfl (by omega))) | exact Or.inr (made_of rfl)), ?_⟩)), ?_⟩
 refine Fe.pure rfl (exec_build (by repeat (first | refine aFill1 (by (try simp only [↓nrmL, nrmZ, Nat.reduceEqDiff, ↓reduceIte]); rfl) rfl ?_ | rfl))) (by simp only [↓nrmL, nrmZ, Nat.reduceEqDiff, ↓reduceIte]; rfl) ?_
 refine Fe.effect0 rfl (exec_st rfl (by (try simp only [↓nrmL, nrmZ, Nat.reduceEqDiff, ↓reduceIte]); rfl) rfl rfl rfl (by repeat (first | rfl | refine allOne_cons ?_)) (by (try simp only [↓nrmL, nrmZ, Nat.reduceEqDiff, ↓reduceIte]); rfl)) (by repeat (first | exact trivial | refine ⟨(by first | exact Or.inl (by dsimp only; decide) | exact Or.inr (readOk_of (exec_ld rfl rfl)) | exact Or.inr (readOk_of (exec_ldN rfl rfl rfl)) | exact Or.inr (readOk_of (exec_ldB rfl (by omega))) | exact Or.inr (readOk_of (exec_ldI rfl (by omega))) | exact Or.inr (made_of rfl)), ?_⟩)) ?_
 refine WpE.nil (hKF _ _ ?_)
 refine Wp.ret ?_
 dsimp only [cond_true, cond_false]
 refine ⟨trivial, _, (getAllC rfl rfl rfl rfl), ?_⟩
 exact ⟨v, rfl, inferInstance, h2.weak, inferInstance, Ext0.ext⟩
theorem K_CopyInk {H : AHeap} {a b : Int} {p : AVal} {l : List UInt8} [hp : BytesI H p l] (hl : l.length < 2 ^ 40) : Con ext prog 2 20 [.agg [.int .i64 a, .int .i64 b, p]] H fun v H' => NewInk H H' v ⟨a, b, l⟩ := by
 refine con_of (show prog 20 = some c20 from rfl) rfl rfl fun n hn => ?_
 haveI := hp.one
 refine sq ?_
 refine rg fun KF hKF => ?_
 refine Fo.boxA rfl ?_
 refine Fo.new ?_
 refine WpO.nil (hKF _ _ ?_)
 refine sq ?_
 refine Fr.dregion0 rfl fun KF hKF => ?_
 refine Fe.pure rfl rfl (by simp only [↓nrmL, nrmZ, Nat.reduceEqDiff, ↓reduceIte]; rfl) ?_
 refine Fe.read rfl (exec_ld rfl rfl) rfl (by repeat (first | exact trivial | refine ⟨(by first | exact Or.inl (by dsimp only; decide) | exact Or.inr (exec_ld rfl rfl) | exact Or.inr (exec_ldN rfl rfl rfl) | exact Or.inr (exec_ldB rfl (by omega)) | exact Or.inr (exec_ldI rfl (by omega)) | exact Or.inr ghost_of), ?_⟩)) ?_
 refine Fe.pure rfl rfl (by simp only [↓nrmL, nrmZ, Nat.reduceEqDiff, ↓reduceIte]; rfl) ?_
 refine Fe.read rfl (exec_ld rfl rfl) rfl (by repeat (first | exact trivial | refine ⟨(by first | exact Or.inl (by dsimp only; decide) | exact Or.inr (exec_ld rfl rfl) | exact Or.inr (exec_ldN rfl rfl rfl) | exact Or.inr (exec_ldB rfl (by omega)) | exact Or.inr (exec_ldI rfl (by omega)) | exact Or.inr ghost_of), ?_⟩)) ?_
 refine Fe.pure rfl rfl (by simp only [↓nrmL, nrmZ, Nat.reduceEqDiff, ↓reduceIte]; rfl) ?_
 refine Fe.read rfl (exec_ld rfl rfl) rfl (by repeat (first | exact trivial | refine ⟨(by first | exact Or.inl (by dsimp only; decide) | exact Or.inr (exec_ld rfl rfl) | exact Or.inr (exec_ldN rfl rfl rfl) | exact Or.inr (exec_ldB rfl (by omega)) | exact Or.inr (exec_ldI rfl (by omega)) | exact Or.inr ghost_of), ?_⟩)) ?_
 refine Fe.con rfl hn rfl rfl (by simp only [↓nrmL, nrmZ, Nat.reduceEqDiff, ↓reduceIte, List.map] <;> rfl) (K_CopyBytes hl) fun v H1 ⟨h1, h2, h3, h4⟩ => ?_
 haveI : ExtI _ H1 := ⟨h4⟩
 haveI := h1.one
 refine ⟨(by repeat (first | exact trivial | refine ⟨(by first | exact Or.inl (by dsimp only; decide) | exact Or.inr (readOk_of (exec_ld rfl rfl)) | exact Or.inr (readOk_of (exec_ldN rfl rfl rfl)) | exact Or.inr (readOk_of (exec_ldB rfl (by omega))) | exact Or.inr (readOk_of (exec_ldI rfl (by omega))) | exact Or.inr (made_of rfl)), ?_⟩)), ?_⟩
 refine Fe.pure rfl (exec_build (by repeat (first | refine aFill1 (by (try simp only [↓nrmL, nrmZ, Nat.reduceEqDiff, ↓reduceIte]); rfl) rfl ?_ | rfl))) (by simp only [↓nrmL, nrmZ, Nat.reduceEqDiff, ↓reduceIte]; rfl) ?_
 refine Fe.effect0 rfl (exec_st rfl (by (try simp only [↓nrmL, nrmZ, Nat.reduceEqDiff, ↓reduceIte]); rfl) rfl rfl rfl (by repeat (first | rfl | refine allOne_cons ?_)) (by (try simp only [↓nrmL, nrmZ, Nat.reduceEqDiff, ↓reduceIte]); rfl)) (by repeat (first | exact trivial | refine ⟨(by first | exact Or.inl (by dsimp only; decide) | exact Or.inr (readOk_of (exec_ld rfl rfl)) | exact Or.inr (readOk_of (exec_ldN rfl rfl rfl)) | exact Or.inr (readOk_of (exec_ldB rfl (by omega))) | exact Or.inr (readOk_of (exec_ldI rfl (by omega))) | exact Or.inr (made_of rfl)), ?_⟩)) ?_
 refine WpE.nil (hKF _ _ ?_)
 refine Wp.ret ?_
 dsimp only [cond_true, cond_false]
 refine ⟨trivial, _, (getAllC rfl rfl rfl rfl), ?_⟩
 exact ⟨v, rfl, inferInstance, h2.weak, inferInstance, Ext0.ext⟩

end Go.Am

set_option maxHeartbeats 4000000
set_option maxRecDepth 100000
namespace Go.Am
open Go
attribute [local irreducible] Wp WpO WpX WpE

theorem Img.ok {g : Img} (h : (g.err == 0) = true) : g.sized = true ∧ pxOk g.px = true := by
 unfold Img.err at h
 cases h1 : g.sized
 ·rw [h1] at h; cases h
 ·cases h2 : pxOk g.px
  ·rw [h1, h2] at h; cases h
  ·exact ⟨rfl, rfl⟩

end Go.Am

set_option maxHeartbeats 4000000
set_option maxRecDepth 100000
namespace Go.Am
open Go
attribute [local irreducible] Wp WpO WpX WpE

/-- What two images are combined to. -/
def combSpec (op : UInt8 → UInt8 → UInt8) (g h : Img) : Img × Int :=
 bif g.err == 0 then bif h.err == 0 then bif g.w == h.w && g.h == h.h then (⟨g.w, g.h, List.zipWith op g.px h.px⟩, 0) else (.zero, 2) else (.zero, h.err) else (.zero, g.err)
/-- A function of two pixels. -/
class PixFn (F : FuncId) (op : outParam (UInt8 → UInt8 → UInt8)) : Prop where
 con : ∀ (a b : UInt8) (H : AHeap), PureCon ext prog F [.int .u8 (a.toNat : Int), .int .u8 (b.toNat : Int)] H 1 (.int .u8 ((op a b).toNat : Int))
instance {F : FuncId} {op : UInt8 → UInt8 → UInt8} {a b : UInt8} {H : AHeap} [h : PixFn F op] : PureCon ext prog F [.int .u8 (a.toNat : Int), .int .u8 (b.toNat : Int)] H 1 (.int .u8 ((op a b).toNat : Int)) := h.con a b H

instance pixDistance : PixFn 101 (· ^^^ ·) := ⟨fun a b H => ⟨by
 refine con_of (show prog 101 = some c101 from rfl) rfl rfl fun n hn => ?_
 have h1 := bits_xor a b
 try simp only [↓nrmL, nrmZ, Nat.reduceEqDiff, ↓reduceIte, h1]
 refine sq ?_
 refine rg fun KF hKF => ?_
 refine mI rfl ?_
 refine WpO.nil (hKF _ _ ?_)
 refine sq ?_
 refine rg fun KF hKF => ?_
 refine mI rfl ?_
 refine mI rfl ?_
 refine Fo.bin rfl rfl rfl (by simp only [↓nrmL, nrmZ, Nat.reduceEqDiff, ↓reduceIte, h1]; rfl) ?_
 refine mI rfl ?_
 refine WpO.nil (hKF _ _ ?_)
 refine Wp.ret ?_
 dsimp only [cond_true, cond_false]
 refine ⟨trivial, _, rfl, ?_⟩
 exact ⟨rfl, Ext0.ext⟩⟩⟩
instance pixOr : PixFn 147 (· ||| ·) := ⟨fun a b H => ⟨by
 refine con_of (show prog 147 = some c147 from rfl) rfl rfl fun n hn => ?_
 have h1 := bits_or a b
 try simp only [↓nrmL, nrmZ, Nat.reduceEqDiff, ↓reduceIte, h1]
 refine sq ?_
 refine rg fun KF hKF => ?_
 refine mI rfl ?_
 refine WpO.nil (hKF _ _ ?_)
 refine sq ?_
 refine rg fun KF hKF => ?_
 refine mI rfl ?_
 refine mI rfl ?_
 refine Fo.bin rfl rfl rfl (by simp only [↓nrmL, nrmZ, Nat.reduceEqDiff, ↓reduceIte, h1]; rfl) ?_
 refine mI rfl ?_
 refine WpO.nil (hKF _ _ ?_)
 refine Wp.ret ?_
 dsimp only [cond_true, cond_false]
 refine ⟨trivial, _, rfl, ?_⟩
 exact ⟨rfl, Ext0.ext⟩⟩⟩
instance pixAnd : PixFn 148 (· &&& ·) := ⟨fun a b H => ⟨by
 refine con_of (show prog 148 = some c148 from rfl) rfl rfl fun n hn => ?_
 have h1 := bits_and a b
 try simp only [↓nrmL, nrmZ, Nat.reduceEqDiff, ↓reduceIte, h1]
 refine sq ?_
 refine rg fun KF hKF => ?_
 refine mI rfl ?_
 refine WpO.nil (hKF _ _ ?_)
 refine sq ?_
 refine rg fun KF hKF => ?_
 refine mI rfl ?_
 refine mI rfl ?_
 refine Fo.bin rfl rfl rfl (by simp only [↓nrmL, nrmZ, Nat.reduceEqDiff, ↓reduceIte, h1]; rfl) ?_
 refine mI rfl ?_
 refine WpO.nil (hKF _ _ ?_)
 refine Wp.ret ?_
 dsimp only [cond_true, cond_false]
 refine ⟨trivial, _, rfl, ?_⟩
 exact ⟨rfl, Ext0.ext⟩⟩⟩
instance pixLess : PixFn 149 (fun a b => a &&& ~~~b) := ⟨fun a b H => ⟨by
 refine con_of (show prog 149 = some c149 from rfl) rfl rfl fun n hn => ?_
 have h1 := bits_andNot a b
 try simp only [↓nrmL, nrmZ, Nat.reduceEqDiff, ↓reduceIte, h1]
 refine sq ?_
 refine rg fun KF hKF => ?_
 refine mI rfl ?_
 refine WpO.nil (hKF _ _ ?_)
 refine sq ?_
 refine rg fun KF hKF => ?_
 refine mI rfl ?_
 refine mI rfl ?_
 refine Fo.bin rfl rfl rfl (by simp only [↓nrmL, nrmZ, Nat.reduceEqDiff, ↓reduceIte, h1]; rfl) ?_
 refine mI rfl ?_
 refine WpO.nil (hKF _ _ ?_)
 refine Wp.ret ?_
 dsimp only [cond_true, cond_false]
 refine ⟨trivial, _, rfl, ?_⟩
 exact ⟨rfl, Ext0.ext⟩⟩⟩

theorem K_combine {p q : AVal} {H : AHeap} {w h w' h' : Int} {l m : List UInt8} {F : FuncId} {op : UInt8 → UInt8 → UInt8} [hp : BytesI H p l] [hq : BytesI H q m] [hF : PixFn F op] : Con ext prog 4 100 [.agg [.int .i64 w, .int .i64 h, p], .agg [.int .i64 w', .int .i64 h', q], .func (.func F) [] []] H fun v H' => InkRes H H' v (combSpec op ⟨w, h, l⟩ ⟨w', h', m⟩) := by
 refine con_of (show prog 100 = some c100 from rfl) rfl rfl fun n hn => ?_
 haveI := hp.one
 haveI := hq.one
 unfold combSpec
 cases h0 : (Img.err ⟨w, h, l⟩ == 0)
 ·skip
  try simp only [↓nrmL, nrmZ, Nat.reduceEqDiff, ↓reduceIte, h0, bne]
  refine sq ?_
  refine rg fun KF hKF => ?_
  refine Fo.boxA rfl ?_
  refine Fo.boxA rfl ?_
  refine Fo.new ?_
  refine mI rfl ?_
  refine WpO.nil (hKF _ _ ?_)
  refine sq ?_
  refine sq ?_
  refine rg fun KF hKF => ?_
  refine Fo.ldN rfl rfl (by simp only [↓nrmL, nrmZ, Nat.reduceEqDiff, ↓reduceIte, h0, bne]; rfl) ?_
  refine Fo.pcall (v' := ?_) hn rfl (by simp only [↓nrmL, nrmZ, Nat.reduceEqDiff, ↓reduceIte, h0, bne, List.map]; rfl) rfl ?hv fun _ _ => ?_; case hv => rfl
  refine mI rfl ?_
  refine WpO.nil (hKF _ _ ?_)
  refine sq ?_
  refine rg fun KF hKF => ?_
  refine mI rfl ?_
  refine Fo.bin rfl rfl rfl (by simp only [↓nrmL, nrmZ, Nat.reduceEqDiff, ↓reduceIte, h0, bne]; rfl) ?_
  refine WpO.nil (hKF _ _ ?_)
  refine Wp.cond (b := true) rfl ?_
  refine sq ?_
  refine rg fun KF hKF => ?_
  refine Fo.build (by repeat (first | refine aFill1 (by first | exact (rfl : _ = AVal.int _ _) | exact (rfl : _ = AVal.ptr _ _) | exact (rfl : _ = AVal.bool _) | exact (rfl : _ = AVal.agg _) | exact (rfl : _ = AVal.tuple _) | exact (rfl : _ = AVal.func _ _ _) | exact (rfl : _ = AVal.nslice) | ((try simp only [↓nrmL, nrmK, Nat.reduceEqDiff, ↓reduceIte]); rfl)) rfl ?_ | rfl)) rfl ?_
  refine mI rfl ?_
  refine Fo.st rfl (rfl : _ = AVal.agg _) rfl rfl rfl (by repeat (first | rfl | refine allOne_cons ?_)) (by simp only [↓nrmL, nrmZ, Nat.reduceEqDiff, ↓reduceIte, h0, bne]; rfl) ?_
  refine mI rfl ?_
  refine WpO.nil (hKF _ _ ?_)
  refine Wp.ret ?_
  dsimp only [cond_true, cond_false]
  refine ⟨trivial, _, (getAllC rfl rfl rfl rfl), ?_⟩
  exact ⟨_, rfl, newZero⟩
 cases h1 : (Img.err ⟨w', h', m⟩ == 0)
 ·skip
  try simp only [↓nrmL, nrmZ, Nat.reduceEqDiff, ↓reduceIte, h0, h1, bne]
  refine sq ?_
  refine rg fun KF hKF => ?_
  refine Fo.boxA rfl ?_
  refine Fo.boxA rfl ?_
  refine Fo.new ?_
  refine mI rfl ?_
  refine WpO.nil (hKF _ _ ?_)
  refine sq ?_
  refine sq ?_
  refine rg fun KF hKF => ?_
  refine Fo.ldN rfl rfl (by simp only [↓nrmL, nrmZ, Nat.reduceEqDiff, ↓reduceIte, h0, h1, bne]; rfl) ?_
  refine Fo.pcall (v' := ?_) hn rfl (by simp only [↓nrmL, nrmZ, Nat.reduceEqDiff, ↓reduceIte, h0, h1, bne, List.map]; rfl) rfl ?hv fun _ _ => ?_; case hv => rfl
  refine mI rfl ?_
  refine WpO.nil (hKF _ _ ?_)
  refine sq ?_
  refine rg fun KF hKF => ?_
  refine mI rfl ?_
  refine Fo.bin rfl rfl rfl (by simp only [↓nrmL, nrmZ, Nat.reduceEqDiff, ↓reduceIte, h0, h1, bne]; rfl) ?_
  refine WpO.nil (hKF _ _ ?_)
  refine Wp.cond (b := false) rfl ?_
  refine Wp.skip ?_
  refine sq ?_
  refine sq ?_
  refine rg fun KF hKF => ?_
  refine Fo.ldN rfl rfl (by simp only [↓nrmL, nrmZ, Nat.reduceEqDiff, ↓reduceIte, h0, h1, bne]; rfl) ?_
  refine Fo.pcall (v' := ?_) hn rfl (by simp only [↓nrmL, nrmZ, Nat.reduceEqDiff, ↓reduceIte, h0, h1, bne, List.map]; rfl) rfl ?hv fun _ _ => ?_; case hv => rfl
  refine mI rfl ?_
  refine WpO.nil (hKF _ _ ?_)
  refine sq ?_
  refine rg fun KF hKF => ?_
  refine mI rfl ?_
  refine Fo.bin rfl rfl rfl (by simp only [↓nrmL, nrmZ, Nat.reduceEqDiff, ↓reduceIte, h0, h1, bne]; rfl) ?_
  refine WpO.nil (hKF _ _ ?_)
  refine Wp.cond (b := true) rfl ?_
  refine sq ?_
  refine rg fun KF hKF => ?_
  refine Fo.build (by repeat (first | refine aFill1 (by first | exact (rfl : _ = AVal.int _ _) | exact (rfl : _ = AVal.ptr _ _) | exact (rfl : _ = AVal.bool _) | exact (rfl : _ = AVal.agg _) | exact (rfl : _ = AVal.tuple _) | exact (rfl : _ = AVal.func _ _ _) | exact (rfl : _ = AVal.nslice) | ((try simp only [↓nrmL, nrmK, Nat.reduceEqDiff, ↓reduceIte]); rfl)) rfl ?_ | rfl)) rfl ?_
  refine mI rfl ?_
  refine Fo.st rfl (rfl : _ = AVal.agg _) rfl rfl rfl (by repeat (first | rfl | refine allOne_cons ?_)) (by simp only [↓nrmL, nrmZ, Nat.reduceEqDiff, ↓reduceIte, h0, h1, bne]; rfl) ?_
  refine mI rfl ?_
  refine WpO.nil (hKF _ _ ?_)
  refine Wp.ret ?_
  dsimp only [cond_true, cond_false]
  refine ⟨trivial, _, (getAllC rfl rfl rfl rfl), ?_⟩
  exact ⟨_, rfl, newZero⟩
 cases h2 : (w == w')
 ·simp only [cond_true, Bool.false_and, cond_false]
  try simp only [↓nrmL, nrmZ, Nat.reduceEqDiff, ↓reduceIte, h0, h1, h2, bne]
  refine sq ?_
  refine rg fun KF hKF => ?_
  refine Fo.boxA rfl ?_
  refine Fo.boxA rfl ?_
  refine Fo.new ?_
  refine mI rfl ?_
  refine WpO.nil (hKF _ _ ?_)
  refine sq ?_
  refine sq ?_
  refine rg fun KF hKF => ?_
  refine Fo.ldN rfl rfl (by simp only [↓nrmL, nrmZ, Nat.reduceEqDiff, ↓reduceIte, h0, h1, h2, bne]; rfl) ?_
  refine Fo.pcall (v' := ?_) hn rfl (by simp only [↓nrmL, nrmZ, Nat.reduceEqDiff, ↓reduceIte, h0, h1, h2, bne, List.map]; rfl) rfl ?hv fun _ _ => ?_; case hv => rfl
  refine mI rfl ?_
  refine WpO.nil (hKF _ _ ?_)
  refine sq ?_
  refine rg fun KF hKF => ?_
  refine mI rfl ?_
  refine Fo.bin rfl rfl rfl (by simp only [↓nrmL, nrmZ, Nat.reduceEqDiff, ↓reduceIte, h0, h1, h2, bne]; rfl) ?_
  refine WpO.nil (hKF _ _ ?_)
  refine Wp.cond (b := false) rfl ?_
  refine Wp.skip ?_
  refine sq ?_
  refine sq ?_
  refine rg fun KF hKF => ?_
  refine Fo.ldN rfl rfl (by simp only [↓nrmL, nrmZ, Nat.reduceEqDiff, ↓reduceIte, h0, h1, h2, bne]; rfl) ?_
  refine Fo.pcall (v' := ?_) hn rfl (by simp only [↓nrmL, nrmZ, Nat.reduceEqDiff, ↓reduceIte, h0, h1, h2, bne, List.map]; rfl) rfl ?hv fun _ _ => ?_; case hv => rfl
  refine mI rfl ?_
  refine WpO.nil (hKF _ _ ?_)
  refine sq ?_
  refine rg fun KF hKF => ?_
  refine mI rfl ?_
  refine Fo.bin rfl rfl rfl (by simp only [↓nrmL, nrmZ, Nat.reduceEqDiff, ↓reduceIte, h0, h1, h2, bne]; rfl) ?_
  refine WpO.nil (hKF _ _ ?_)
  refine Wp.cond (b := false) rfl ?_
  refine Wp.skip ?_
  refine sq ?_
  refine sq ?_
  refine rg fun KF hKF => ?_
  refine Fo.fa rfl ?_
  refine Fo.ld rfl rfl ?_
  refine Fo.fa rfl ?_
  refine Fo.ld rfl rfl ?_
  refine Fo.bin rfl rfl rfl (by simp only [↓nrmL, nrmZ, Nat.reduceEqDiff, ↓reduceIte, h0, h1, h2, bne]; rfl) ?_
  refine mB rfl ?_
  refine Fo.no rfl rfl ?_
  refine Fo.no rfl rfl ?_
  refine Fo.no rfl rfl ?_
  refine Fo.no rfl rfl ?_
  refine Fo.no rfl rfl ?_
  refine tB rfl rfl ?_
  refine WpO.nil (hKF _ _ ?_)
  refine Wp.cond (b := true) rfl ?_
  refine sq ?_
  refine rg fun KF hKF => ?_
  refine Fo.build (by repeat (first | refine aFill1 (by first | exact (rfl : _ = AVal.int _ _) | exact (rfl : _ = AVal.ptr _ _) | exact (rfl : _ = AVal.bool _) | exact (rfl : _ = AVal.agg _) | exact (rfl : _ = AVal.tuple _) | exact (rfl : _ = AVal.func _ _ _) | exact (rfl : _ = AVal.nslice) | ((try simp only [↓nrmL, nrmK, Nat.reduceEqDiff, ↓reduceIte]); rfl)) rfl ?_ | rfl)) rfl ?_
  refine Fo.st rfl (rfl : _ = AVal.agg _) rfl rfl rfl (by repeat (first | rfl | refine allOne_cons ?_)) (by simp only [↓nrmL, nrmZ, Nat.reduceEqDiff, ↓reduceIte, h0, h1, h2, bne]; rfl) ?_
  refine mI rfl ?_
  refine WpO.nil (hKF _ _ ?_)
  refine Wp.ret ?_
  dsimp only [cond_true, cond_false]
  refine ⟨trivial, _, (getAllC rfl rfl rfl rfl), ?_⟩
  exact ⟨_, rfl, newZero⟩
 cases h3 : (h == h')
 ·simp only [cond_true, Bool.and_false, cond_false]
  try simp only [↓nrmL, nrmZ, Nat.reduceEqDiff, ↓reduceIte, h0, h1, h2, h3, bne]
  refine sq ?_
  refine rg fun KF hKF => ?_
  refine Fo.boxA rfl ?_
  refine Fo.boxA rfl ?_
  refine Fo.new ?_
  refine mI rfl ?_
  refine WpO.nil (hKF _ _ ?_)
  refine sq ?_
  refine sq ?_
  refine rg fun KF hKF => ?_
  refine Fo.ldN rfl rfl (by simp only [↓nrmL, nrmZ, Nat.reduceEqDiff, ↓reduceIte, h0, h1, h2, h3, bne]; rfl) ?_
  refine Fo.pcall (v' := ?_) hn rfl (by simp only [↓nrmL, nrmZ, Nat.reduceEqDiff, ↓reduceIte, h0, h1, h2, h3, bne, List.map]; rfl) rfl ?hv fun _ _ => ?_; case hv => rfl
  refine mI rfl ?_
  refine WpO.nil (hKF _ _ ?_)
  refine sq ?_
  refine rg fun KF hKF => ?_
  refine mI rfl ?_
  refine Fo.bin rfl rfl rfl (by simp only [↓nrmL, nrmZ, Nat.reduceEqDiff, ↓reduceIte, h0, h1, h2, h3, bne]; rfl) ?_
  refine WpO.nil (hKF _ _ ?_)
  refine Wp.cond (b := false) rfl ?_
  refine Wp.skip ?_
  refine sq ?_
  refine sq ?_
  refine rg fun KF hKF => ?_
  refine Fo.ldN rfl rfl (by simp only [↓nrmL, nrmZ, Nat.reduceEqDiff, ↓reduceIte, h0, h1, h2, h3, bne]; rfl) ?_
  refine Fo.pcall (v' := ?_) hn rfl (by simp only [↓nrmL, nrmZ, Nat.reduceEqDiff, ↓reduceIte, h0, h1, h2, h3, bne, List.map]; rfl) rfl ?hv fun _ _ => ?_; case hv => rfl
  refine mI rfl ?_
  refine WpO.nil (hKF _ _ ?_)
  refine sq ?_
  refine rg fun KF hKF => ?_
  refine mI rfl ?_
  refine Fo.bin rfl rfl rfl (by simp only [↓nrmL, nrmZ, Nat.reduceEqDiff, ↓reduceIte, h0, h1, h2, h3, bne]; rfl) ?_
  refine WpO.nil (hKF _ _ ?_)
  refine Wp.cond (b := false) rfl ?_
  refine Wp.skip ?_
  refine sq ?_
  refine sq ?_
  refine rg fun KF hKF => ?_
  refine Fo.fa rfl ?_
  refine Fo.ld rfl rfl ?_
  refine Fo.fa rfl ?_
  refine Fo.ld rfl rfl ?_
  refine Fo.bin rfl rfl rfl (by simp only [↓nrmL, nrmZ, Nat.reduceEqDiff, ↓reduceIte, h0, h1, h2, h3, bne]; rfl) ?_
  refine mB rfl ?_
  refine Fo.yes rfl rfl ?_
  refine Fo.fa rfl ?_
  refine Fo.yes rfl rfl ?_
  refine Fo.ld rfl rfl ?_
  refine Fo.yes rfl rfl ?_
  refine Fo.fa rfl ?_
  refine Fo.yes rfl rfl ?_
  refine Fo.ld rfl rfl ?_
  refine Fo.yes rfl rfl ?_
  refine Fo.bin rfl rfl rfl (by simp only [↓nrmL, nrmZ, Nat.reduceEqDiff, ↓reduceIte, h0, h1, h2, h3, bne]; rfl) ?_
  refine fB rfl rfl ?_
  refine WpO.nil (hKF _ _ ?_)
  refine Wp.cond (b := true) rfl ?_
  refine sq ?_
  refine rg fun KF hKF => ?_
  refine Fo.build (by repeat (first | refine aFill1 (by first | exact (rfl : _ = AVal.int _ _) | exact (rfl : _ = AVal.ptr _ _) | exact (rfl : _ = AVal.bool _) | exact (rfl : _ = AVal.agg _) | exact (rfl : _ = AVal.tuple _) | exact (rfl : _ = AVal.func _ _ _) | exact (rfl : _ = AVal.nslice) | ((try simp only [↓nrmL, nrmK, Nat.reduceEqDiff, ↓reduceIte]); rfl)) rfl ?_ | rfl)) rfl ?_
  refine Fo.st rfl (rfl : _ = AVal.agg _) rfl rfl rfl (by repeat (first | rfl | refine allOne_cons ?_)) (by simp only [↓nrmL, nrmZ, Nat.reduceEqDiff, ↓reduceIte, h0, h1, h2, h3, bne]; rfl) ?_
  refine mI rfl ?_
  refine WpO.nil (hKF _ _ ?_)
  refine Wp.ret ?_
  dsimp only [cond_true, cond_false]
  refine ⟨trivial, _, (getAllC rfl rfl rfl rfl), ?_⟩
  exact ⟨_, rfl, newZero⟩
 simp only [cond_true, Bool.and_self]
 obtain rfl : w = w' := by simpa using h2
 obtain rfl : h = h' := by simpa using h3
 obtain ⟨a, b, hwa, hhb, ha, hb, hl⟩ := sized_nat (Img.ok h0).1
 obtain ⟨a', b', hwa', hhb', _, _, hl'⟩ := sized_nat (Img.ok h1).1
 simp only at hwa hhb hwa' hhb' hl hl'
 subst hwa hhb
 obtain rfl : a = a' := by omega
 obtain rfl : b = b' := by omega
 have hm : a * b ≤ 640 * 640 := Nat.mul_le_mul ha hb
 try simp only [↓nrmL, nrmZ, Nat.reduceEqDiff, ↓reduceIte, h0, h1, h2, h3, bne]
 refine sq ?_
 refine rg fun KF hKF => ?_
 refine Fo.boxA rfl ?_
 refine Fo.boxA rfl ?_
 refine Fo.new ?_
 refine mI rfl ?_
 refine WpO.nil (hKF _ _ ?_)
 refine sq ?_
 refine sq ?_
 refine rg fun KF hKF => ?_
 refine Fo.ldN rfl rfl (by simp only [↓nrmL, nrmZ, Nat.reduceEqDiff, ↓reduceIte, h0, h1, h2, h3, bne]; rfl) ?_
 refine Fo.pcall (v' := ?_) hn rfl (by simp only [↓nrmL, nrmZ, Nat.reduceEqDiff, ↓reduceIte, h0, h1, h2, h3, bne, List.map]; rfl) rfl ?hv fun _ _ => ?_; case hv => rfl
 refine mI rfl ?_
 refine WpO.nil (hKF _ _ ?_)
 refine sq ?_
 refine rg fun KF hKF => ?_
 refine mI rfl ?_
 refine Fo.bin rfl rfl rfl (by simp only [↓nrmL, nrmZ, Nat.reduceEqDiff, ↓reduceIte, h0, h1, h2, h3, bne]; rfl) ?_
 refine WpO.nil (hKF _ _ ?_)
 refine Wp.cond (b := false) rfl ?_
 refine Wp.skip ?_
 refine sq ?_
 refine sq ?_
 refine rg fun KF hKF => ?_
 refine Fo.ldN rfl rfl (by simp only [↓nrmL, nrmZ, Nat.reduceEqDiff, ↓reduceIte, h0, h1, h2, h3, bne]; rfl) ?_
 refine Fo.pcall (v' := ?_) hn rfl (by simp only [↓nrmL, nrmZ, Nat.reduceEqDiff, ↓reduceIte, h0, h1, h2, h3, bne, List.map]; rfl) rfl ?hv fun _ _ => ?_; case hv => rfl
 refine mI rfl ?_
 refine WpO.nil (hKF _ _ ?_)
 refine sq ?_
 refine rg fun KF hKF => ?_
 refine mI rfl ?_
 refine Fo.bin rfl rfl rfl (by simp only [↓nrmL, nrmZ, Nat.reduceEqDiff, ↓reduceIte, h0, h1, h2, h3, bne]; rfl) ?_
 refine WpO.nil (hKF _ _ ?_)
 refine Wp.cond (b := false) rfl ?_
 refine Wp.skip ?_
 refine sq ?_
 refine sq ?_
 refine rg fun KF hKF => ?_
 refine Fo.fa rfl ?_
 refine Fo.ld rfl rfl ?_
 refine Fo.fa rfl ?_
 refine Fo.ld rfl rfl ?_
 refine Fo.bin rfl rfl rfl (by simp only [↓nrmL, nrmZ, Nat.reduceEqDiff, ↓reduceIte, h0, h1, h2, h3, bne]; rfl) ?_
 refine mB rfl ?_
 refine Fo.yes rfl rfl ?_
 refine Fo.fa rfl ?_
 refine Fo.yes rfl rfl ?_
 refine Fo.ld rfl rfl ?_
 refine Fo.yes rfl rfl ?_
 refine Fo.fa rfl ?_
 refine Fo.yes rfl rfl ?_
 refine Fo.ld rfl rfl ?_
 refine Fo.yes rfl rfl ?_
 refine Fo.bin rfl rfl rfl (by simp only [↓nrmL, nrmZ, Nat.reduceEqDiff, ↓reduceIte, h0, h1, h2, h3, bne]; rfl) ?_
 refine fB rfl rfl ?_
 refine WpO.nil (hKF _ _ ?_)
 refine Wp.cond (b := false) rfl ?_
 refine Wp.skip ?_
 refine sq ?_
 refine rg fun KF hKF => ?_
 refine Fo.fa rfl ?_
 refine Fo.ld rfl rfl ?_
 refine Fo.fa rfl ?_
 refine Fo.ld rfl rfl ?_
 refine WpO.do (WpX.conD hn rfl rfl (by simp only [↓nrmL, nrmZ, Nat.reduceEqDiff, ↓reduceIte, List.map] <;> rfl) (K_blank (w := a) (h := b) (by omega) (by omega)) fun v H1 h5 => ?_)
 obtain ⟨o, e2, ho, hf, hw3, hx⟩ := h5
 subst e2
 haveI : ExtI _ H1 := ⟨hx⟩
 haveI := ho.one
 have ho : BytesI H1 o (List.replicate (a * b) 0) := ho
 refine Fo.new ?_
 refine Fo.st rfl (rfl : _ = AVal.agg _) rfl rfl rfl (by repeat (first | rfl | refine allOne_cons ?_)) (by simp only [↓nrmL, nrmZ, Nat.reduceEqDiff, ↓reduceIte]; rfl) ?_
 refine WpO.nil (hKF _ _ ?_)
 refine sq ?_
 refine sq ?_
 refine rg fun KF hKF => ?_
 refine Fo.fa rfl ?_
 refine Fo.ld rfl rfl ?_
 refine Fo.len (v := ?_) (by simp only [↓nrmL, nrmK, Nat.reduceEqDiff, ↓reduceIte]; rfl) ?hv ?_; case hv => rfl
 refine mI rfl ?_
 refine WpO.nil (hKF _ _ ?_)
 refine Wp.block ?_
 dsimp only [cond_true, cond_false]
 refine Wp.loopS [11, 12, 46, 47, 48, 49, 50, 51, 52, 53, 54, 55, 56, 57, 58, 59, 60, 61, 62, 63] (fun i : Nat => [(46, .int .i64 i)]) (fun H3 i H2 => i ≤ l.length ∧ BytesI H2 o (filled (fun i => op (l.getD i 0) (m.getD i 0)) i l.length) ∧ WrS H2 o ∧ ExtP0 H3 H2 o) (fun i => l.length - i) 0 rfl (fun _ => rfl) ⟨rfl, trivial⟩ ⟨Nat.zero_le _, by rw [filled_zero, hl]; infer_instance, inferInstance, inferInstance⟩ (by unfold fuel0 at hn; omega) ?_
 rintro i g H2 ⟨hi, hb2, hw2, ⟨hx2⟩⟩
 simp only [↓nrmL, nrmZ, Nat.reduceEqDiff, ↓reduceIte]
 cases hc : decide ((i : Int) < (l.length : Int))
 ·have hil : i = l.length := by have := of_decide_eq_false hc; omega
  subst hil
  rw [filled_all, zip_range (by omega)] at hb2
  try simp only [↓nrmL, nrmZ, Nat.reduceEqDiff, ↓reduceIte, hc]
  refine sq ?_
  refine rg fun KF hKF => ?_
  refine Fo.bin rfl rfl rfl (by simp only [↓nrmL, nrmZ, Nat.reduceEqDiff, ↓reduceIte, hc]; rfl) ?_
  refine WpO.nil (hKF _ _ ?_)
  refine sq ?_
  refine Wp.cond (b := false) rfl ?_
  refine Wp.exit ?_
  refine sq ?_
  refine rg fun KF hKF => ?_
  refine Fo.ldN rfl rfl (by simp only [↓nrmL, nrmZ, Nat.reduceEqDiff, ↓reduceIte, hc]; rfl) ?_
  refine Fo.st rfl (rfl : _ = AVal.agg _) rfl rfl rfl (by repeat (first | rfl | refine allOne_cons ?_)) (by simp only [↓nrmL, nrmZ, Nat.reduceEqDiff, ↓reduceIte, hc]; rfl) ?_
  refine mI rfl ?_
  refine WpO.nil (hKF _ _ ?_)
  refine Wp.ret ?_
  dsimp only [cond_true, cond_false]
  refine ⟨trivial, _, (getAllC rfl rfl rfl rfl), ?_⟩
  exact ⟨_, rfl, o, rfl, inferInstance, hf.weak, inferInstance, Ext0.ext⟩
 ·have hil : i < l.length := by have := of_decide_eq_true hc; omega
  have him : i < m.length := by omega
  have hfl := filled_length (fun i => op (l.getD i 0) (m.getD i 0)) i l.length
  have hw1 := wa1 (a := i) (by omega)
  have hgl : l.getD i 0 = l[i] := by simp [hil]
  have hgm : m.getD i 0 = m[i] := by simp [him]
  try simp only [↓nrmL, nrmZ, Nat.reduceEqDiff, ↓reduceIte, hc]
  refine sq ?_
  refine rg fun KF hKF => ?_
  refine Fo.bin rfl rfl rfl (by simp only [↓nrmL, nrmZ, Nat.reduceEqDiff, ↓reduceIte, hc]; rfl) ?_
  refine WpO.nil (hKF _ _ ?_)
  refine sq ?_
  refine Wp.cond (b := true) rfl ?_
  refine Wp.skip ?_
  refine sq ?_
  refine Wp.block ?_
  refine sq ?_
  refine rg fun KF hKF => ?_
  refine mI rfl ?_
  refine Fo.idx (by simp only [↓nrmL, nrmK, Nat.reduceEqDiff, ↓reduceIte]; rfl) rfl ?_ (by simp only [↓nrmL, nrmZ, Nat.reduceEqDiff, ↓reduceIte, hc]; rfl) ?_; (focus omega)
  refine Fo.ldB rfl ?_ rfl ?_; (focus omega)
  refine mI rfl ?_
  refine mI rfl ?_
  refine WpO.nil (hKF _ _ ?_)
  dsimp only [cond_true, cond_false]
  refine Fr.dregion0 rfl fun KF hKF => ?_
  refine Fe.pure rfl rfl (by simp only [↓nrmL, nrmZ, Nat.reduceEqDiff, ↓reduceIte]; rfl) ?_
  refine Fe.read rfl (exec_ld rfl rfl) rfl (by repeat (first | exact trivial | refine ⟨(by first | exact Or.inl (by dsimp only; decide) | exact Or.inr (exec_ld rfl rfl) | exact Or.inr (exec_ldN rfl rfl rfl) | exact Or.inr (exec_ldB rfl (by omega)) | exact Or.inr (exec_ldI rfl (by omega)) | exact Or.inr ghost_of), ?_⟩)) ?_
  refine Fe.pure rfl rfl (by simp only [↓nrmL, nrmZ, Nat.reduceEqDiff, ↓reduceIte]; rfl) ?_
  refine Fe.pure rfl rfl (by simp only [↓nrmL, nrmZ, Nat.reduceEqDiff, ↓reduceIte]; rfl) ?_
  refine Fe.pure rfl rfl (by simp only [↓nrmL, nrmZ, Nat.reduceEqDiff, ↓reduceIte]; rfl) ?_
  refine Fe.pure rfl rfl (by simp only [↓nrmL, nrmZ, Nat.reduceEqDiff, ↓reduceIte]; rfl) ?_
  refine Fe.read rfl (exec_ld rfl rfl) rfl (by repeat (first | exact trivial | refine ⟨(by first | exact Or.inl (by dsimp only; decide) | exact Or.inr (exec_ld rfl rfl) | exact Or.inr (exec_ldN rfl rfl rfl) | exact Or.inr (exec_ldB rfl (by omega)) | exact Or.inr (exec_ldI rfl (by omega)) | exact Or.inr ghost_of), ?_⟩)) ?_
  refine Fe.pure rfl rfl (by simp only [↓nrmL, nrmZ, Nat.reduceEqDiff, ↓reduceIte]; rfl) ?_
  refine Fe.pure rfl (exec_idxP (by (try simp only [↓nrmL, nrmZ, Nat.reduceEqDiff, ↓reduceIte]); rfl) rfl ?_) (by simp only [↓nrmL, nrmZ, Nat.reduceEqDiff, ↓reduceIte]; rfl) ?_; (focus omega)
  refine Fe.read rfl (exec_ldB rfl (by omega)) rfl (by repeat (first | exact trivial | refine ⟨(by first | exact Or.inl (by dsimp only; decide) | exact Or.inr (exec_ld rfl rfl) | exact Or.inr (exec_ldN rfl rfl rfl) | exact Or.inr (exec_ldB rfl (by omega)) | exact Or.inr (exec_ldI rfl (by omega)) | exact Or.inr ghost_of), ?_⟩)) ?_
  refine Fe.pcall (v' := ?_) rfl hn rfl (by simp only [↓nrmL, nrmZ, Nat.reduceEqDiff, ↓reduceIte, List.map]; rfl) rfl ?hv fun _ _ => ⟨(by repeat (first | exact trivial | refine ⟨(by first | exact Or.inl (by dsimp only; decide) | exact Or.inr (readOk_of (exec_ld rfl rfl)) | exact Or.inr (readOk_of (exec_ldN rfl rfl rfl)) | exact Or.inr (readOk_of (exec_ldB rfl (by omega))) | exact Or.inr (readOk_of (exec_ldI rfl (by omega))) | exact Or.inr (made_of rfl)), ?_⟩)), ?_⟩; case hv => rfl
  refine Fe.pure rfl (exec_idxP (by (try simp only [↓nrmL, nrmZ, Nat.reduceEqDiff, ↓reduceIte]); rfl) rfl ?_) (by simp only [↓nrmL, nrmZ, Nat.reduceEqDiff, ↓reduceIte]; rfl) ?_; (focus omega)
  refine WpE.stB (op l[i] m[i]) rfl rfl rfl rfl (by rw [hfl]; exact hil) fun H4 hb4 hw4 hx4 => ⟨(by repeat (first | exact trivial | refine ⟨(by first | exact Or.inl (by dsimp only; decide) | exact Or.inr (readOk_of (exec_ld rfl rfl)) | exact Or.inr (readOk_of (exec_ldN rfl rfl rfl)) | exact Or.inr (readOk_of (exec_ldB rfl (by omega))) | exact Or.inr (readOk_of (exec_ldI rfl (by omega))) | exact Or.inr (made_of rfl)), ?_⟩)), ?_⟩
  refine WpE.nil (hKF _ _ ?_)
  refine rg fun KF hKF => ?_
  refine Fo.bin rfl rfl rfl rfl ?_
  refine mI rfl ?_
  refine WpO.nil (hKF _ _ ?_)
  dsimp only [cond_true, cond_false]
  refine ⟨i + 1, by omega, ⟨by simp only [↓nrmL, nrmZ, Nat.reduceEqDiff, ↓reduceIte]; rw [hw1], trivial⟩, hil, by rw [← filled_succ, hgl, hgm]; infer_instance, inferInstance, inferInstance⟩
end Go.Am

set_option maxHeartbeats 4000000
set_option maxRecDepth 100000
namespace Go.Am
open Go
attribute [local irreducible] Wp WpO WpX WpE

/-- Is a pixel ink? -/
def inkB (w h : Int) (l : List UInt8) (x y : Int) : Bool := decide (x ≥ 0) && (decide (x < w) && (decide (y ≥ 0) && (decide (y < h) && (l.getD (y * w + x).toNat 0 == 1))))
theorem inkB_nat {a b x y : Nat} {l : List UInt8} (hx : x < a) (hy : y < b) : inkB a b l x y = (l.getD (y * a + x) 0 == 1) := by
 have e : ((y : Int) * (a : Int) + (x : Int)).toNat = y * a + x := by rw [← Int.natCast_mul, ← Int.natCast_add]; rfl
 have h1 : decide ((x : Int) ≥ 0) = true := decide_eq_true (by omega)
 have h2 : decide ((x : Int) < (a : Int)) = true := decide_eq_true (by omega)
 have h3 : decide ((y : Int) ≥ 0) = true := decide_eq_true (by omega)
 have h4 : decide ((y : Int) < (b : Int)) = true := decide_eq_true (by omega)
 simp only [inkB, h1, h2, h3, h4, e, Bool.true_and]
/-- The sides and the number of pixels fit. -/
class Fits (w h : Int) (l : List UInt8) : Prop where
 it : sizedB w h l.length = true
theorem u8_one (c : UInt8) : (((c.toNat : Nat) : Int) == 1) = (c == 1) := by
 by_cases h : c = 1
 ·subst h; rfl
 ·have h2 : c.toNat ≠ 1 := fun e => h (UInt8.toNat_inj.1 e)
  have h1 : (c == 1) = false := by simpa using h
  rw [h1]
  simp only [beq_eq_false_iff_ne, ne_eq]
  omega
theorem u8_zero (c : UInt8) : (((c.toNat : Nat) : Int) == 0) = (c == 0) := by
 by_cases h : c = 0
 ·subst h; rfl
 ·have h2 : c.toNat ≠ 0 := fun e => h (UInt8.toNat_inj.1 e)
  have h1 : (c == 0) = false := by simpa using h
  rw [h1]
  simp only [beq_eq_false_iff_ne, ne_eq]
  omega

instance K_refInk {p : AVal} {H : AHeap} {w h x y : Int} {l : List UInt8} [hp : BytesI H p l] [hs : Fits w h l] : PureCon ext prog 35 [.agg [.int .i64 w, .int .i64 h, p], .int .i64 x, .int .i64 y] H 1 (.bool (inkB w h l x y)) := ⟨by
 refine con_of (show prog 35 = some c35 from rfl) rfl rfl fun n hn => ?_
 haveI := hp.one
 obtain ⟨a, b, rfl, rfl, ha, hb, hl⟩ := sized_nat hs.it
 have hm : a * b ≤ 640 * 640 := Nat.mul_le_mul ha hb
 cases h1 : decide (x ≥ 0)
 ·have e : inkB a b l x y = false := by simp only [inkB, h1, Bool.false_and]
  rw [e]
  try simp only [↓nrmL, nrmZ, Nat.reduceEqDiff, ↓reduceIte, h1]
  refine sq ?_
  refine rg fun KF hKF => ?_
  refine Fo.boxA rfl ?_
  refine mB rfl ?_
  refine WpO.nil (hKF _ _ ?_)
  refine sq ?_
  refine rg fun KF hKF => ?_
  refine mI rfl ?_
  refine Fo.bin rfl rfl rfl (by simp only [↓nrmL, nrmZ, Nat.reduceEqDiff, ↓reduceIte, h1]; rfl) ?_
  refine mB rfl ?_
  refine Fo.no rfl rfl ?_
  refine Fo.no rfl rfl ?_
  refine Fo.no rfl rfl ?_
  refine Fo.no rfl rfl ?_
  refine fB rfl rfl ?_
  refine mB rfl ?_
  refine Fo.no rfl rfl ?_
  refine Fo.no rfl rfl ?_
  refine fB rfl rfl ?_
  refine mB rfl ?_
  refine Fo.no rfl rfl ?_
  refine Fo.no rfl rfl ?_
  refine Fo.no rfl rfl ?_
  refine Fo.no rfl rfl ?_
  refine fB rfl rfl ?_
  refine mB rfl ?_
  refine Fo.no rfl rfl ?_
  refine Fo.no rfl rfl ?_
  refine Fo.no rfl rfl ?_
  refine Fo.no rfl rfl ?_
  refine Fo.no rfl rfl ?_
  refine Fo.no rfl rfl ?_
  refine Fo.no rfl rfl ?_
  refine Fo.no rfl rfl ?_
  refine Fo.no rfl rfl ?_
  refine Fo.no rfl rfl ?_
  refine Fo.no rfl rfl ?_
  refine fB rfl rfl ?_
  refine mB rfl ?_
  refine WpO.nil (hKF _ _ ?_)
  refine Wp.ret ?_
  dsimp only [cond_true, cond_false]
  refine ⟨trivial, _, rfl, ?_⟩
  exact ⟨rfl, Ext0.ext⟩
 cases h2 : decide (x < (a : Int))
 ·have e : inkB a b l x y = false := by simp only [inkB, h1, h2, Bool.false_and, Bool.and_false]
  rw [e]
  try simp only [↓nrmL, nrmZ, Nat.reduceEqDiff, ↓reduceIte, h1, h2]
  refine sq ?_
  refine rg fun KF hKF => ?_
  refine Fo.boxA rfl ?_
  refine mB rfl ?_
  refine WpO.nil (hKF _ _ ?_)
  refine sq ?_
  refine rg fun KF hKF => ?_
  refine mI rfl ?_
  refine Fo.bin rfl rfl rfl (by simp only [↓nrmL, nrmZ, Nat.reduceEqDiff, ↓reduceIte, h1, h2]; rfl) ?_
  refine mB rfl ?_
  refine Fo.yes rfl rfl ?_
  refine mI rfl ?_
  refine Fo.yes rfl rfl ?_
  refine Fo.fa rfl ?_
  refine Fo.yes rfl rfl ?_
  refine Fo.ld rfl rfl ?_
  refine Fo.yes rfl rfl ?_
  refine Fo.bin rfl rfl rfl (by simp only [↓nrmL, nrmZ, Nat.reduceEqDiff, ↓reduceIte, h1, h2]; rfl) ?_
  refine tB rfl rfl ?_
  refine mB rfl ?_
  refine Fo.no rfl rfl ?_
  refine Fo.no rfl rfl ?_
  refine fB rfl rfl ?_
  refine mB rfl ?_
  refine Fo.no rfl rfl ?_
  refine Fo.no rfl rfl ?_
  refine Fo.no rfl rfl ?_
  refine Fo.no rfl rfl ?_
  refine fB rfl rfl ?_
  refine mB rfl ?_
  refine Fo.no rfl rfl ?_
  refine Fo.no rfl rfl ?_
  refine Fo.no rfl rfl ?_
  refine Fo.no rfl rfl ?_
  refine Fo.no rfl rfl ?_
  refine Fo.no rfl rfl ?_
  refine Fo.no rfl rfl ?_
  refine Fo.no rfl rfl ?_
  refine Fo.no rfl rfl ?_
  refine Fo.no rfl rfl ?_
  refine Fo.no rfl rfl ?_
  refine fB rfl rfl ?_
  refine mB rfl ?_
  refine WpO.nil (hKF _ _ ?_)
  refine Wp.ret ?_
  dsimp only [cond_true, cond_false]
  refine ⟨trivial, _, rfl, ?_⟩
  exact ⟨rfl, Ext0.ext⟩
 cases h3 : decide (y ≥ 0)
 ·have e : inkB a b l x y = false := by simp only [inkB, h1, h2, h3, Bool.false_and, Bool.and_false]
  rw [e]
  try simp only [↓nrmL, nrmZ, Nat.reduceEqDiff, ↓reduceIte, h1, h2, h3]
  refine sq ?_
  refine rg fun KF hKF => ?_
  refine Fo.boxA rfl ?_
  refine mB rfl ?_
  refine WpO.nil (hKF _ _ ?_)
  refine sq ?_
  refine rg fun KF hKF => ?_
  refine mI rfl ?_
  refine Fo.bin rfl rfl rfl (by simp only [↓nrmL, nrmZ, Nat.reduceEqDiff, ↓reduceIte, h1, h2, h3]; rfl) ?_
  refine mB rfl ?_
  refine Fo.yes rfl rfl ?_
  refine mI rfl ?_
  refine Fo.yes rfl rfl ?_
  refine Fo.fa rfl ?_
  refine Fo.yes rfl rfl ?_
  refine Fo.ld rfl rfl ?_
  refine Fo.yes rfl rfl ?_
  refine Fo.bin rfl rfl rfl (by simp only [↓nrmL, nrmZ, Nat.reduceEqDiff, ↓reduceIte, h1, h2, h3]; rfl) ?_
  refine tB rfl rfl ?_
  refine mB rfl ?_
  refine Fo.yes rfl rfl ?_
  refine mI rfl ?_
  refine Fo.yes rfl rfl ?_
  refine Fo.bin rfl rfl rfl (by simp only [↓nrmL, nrmZ, Nat.reduceEqDiff, ↓reduceIte, h1, h2, h3]; rfl) ?_
  refine tB rfl rfl ?_
  refine mB rfl ?_
  refine Fo.no rfl rfl ?_
  refine Fo.no rfl rfl ?_
  refine Fo.no rfl rfl ?_
  refine Fo.no rfl rfl ?_
  refine fB rfl rfl ?_
  refine mB rfl ?_
  refine Fo.no rfl rfl ?_
  refine Fo.no rfl rfl ?_
  refine Fo.no rfl rfl ?_
  refine Fo.no rfl rfl ?_
  refine Fo.no rfl rfl ?_
  refine Fo.no rfl rfl ?_
  refine Fo.no rfl rfl ?_
  refine Fo.no rfl rfl ?_
  refine Fo.no rfl rfl ?_
  refine Fo.no rfl rfl ?_
  refine Fo.no rfl rfl ?_
  refine fB rfl rfl ?_
  refine mB rfl ?_
  refine WpO.nil (hKF _ _ ?_)
  refine Wp.ret ?_
  dsimp only [cond_true, cond_false]
  refine ⟨trivial, _, rfl, ?_⟩
  exact ⟨rfl, Ext0.ext⟩
 cases h4 : decide (y < (b : Int))
 ·have e : inkB a b l x y = false := by simp only [inkB, h1, h2, h3, h4, Bool.false_and, Bool.and_false]
  rw [e]
  try simp only [↓nrmL, nrmZ, Nat.reduceEqDiff, ↓reduceIte, h1, h2, h3, h4]
  refine sq ?_
  refine rg fun KF hKF => ?_
  refine Fo.boxA rfl ?_
  refine mB rfl ?_
  refine WpO.nil (hKF _ _ ?_)
  refine sq ?_
  refine rg fun KF hKF => ?_
  refine mI rfl ?_
  refine Fo.bin rfl rfl rfl (by simp only [↓nrmL, nrmZ, Nat.reduceEqDiff, ↓reduceIte, h1, h2, h3, h4]; rfl) ?_
  refine mB rfl ?_
  refine Fo.yes rfl rfl ?_
  refine mI rfl ?_
  refine Fo.yes rfl rfl ?_
  refine Fo.fa rfl ?_
  refine Fo.yes rfl rfl ?_
  refine Fo.ld rfl rfl ?_
  refine Fo.yes rfl rfl ?_
  refine Fo.bin rfl rfl rfl (by simp only [↓nrmL, nrmZ, Nat.reduceEqDiff, ↓reduceIte, h1, h2, h3, h4]; rfl) ?_
  refine tB rfl rfl ?_
  refine mB rfl ?_
  refine Fo.yes rfl rfl ?_
  refine mI rfl ?_
  refine Fo.yes rfl rfl ?_
  refine Fo.bin rfl rfl rfl (by simp only [↓nrmL, nrmZ, Nat.reduceEqDiff, ↓reduceIte, h1, h2, h3, h4]; rfl) ?_
  refine tB rfl rfl ?_
  refine mB rfl ?_
  refine Fo.yes rfl rfl ?_
  refine mI rfl ?_
  refine Fo.yes rfl rfl ?_
  refine Fo.fa rfl ?_
  refine Fo.yes rfl rfl ?_
  refine Fo.ld rfl rfl ?_
  refine Fo.yes rfl rfl ?_
  refine Fo.bin rfl rfl rfl (by simp only [↓nrmL, nrmZ, Nat.reduceEqDiff, ↓reduceIte, h1, h2, h3, h4]; rfl) ?_
  refine tB rfl rfl ?_
  refine mB rfl ?_
  refine Fo.no rfl rfl ?_
  refine Fo.no rfl rfl ?_
  refine Fo.no rfl rfl ?_
  refine Fo.no rfl rfl ?_
  refine Fo.no rfl rfl ?_
  refine Fo.no rfl rfl ?_
  refine Fo.no rfl rfl ?_
  refine Fo.no rfl rfl ?_
  refine Fo.no rfl rfl ?_
  refine Fo.no rfl rfl ?_
  refine Fo.no rfl rfl ?_
  refine fB rfl rfl ?_
  refine mB rfl ?_
  refine WpO.nil (hKF _ _ ?_)
  refine Wp.ret ?_
  dsimp only [cond_true, cond_false]
  refine ⟨trivial, _, rfl, ?_⟩
  exact ⟨rfl, Ext0.ext⟩
 obtain ⟨x, rfl⟩ : ∃ k : Nat, x = k := ⟨x.toNat, by have := of_decide_eq_true h1; omega⟩
 obtain ⟨y, rfl⟩ : ∃ k : Nat, y = k := ⟨y.toNat, by have := of_decide_eq_true h3; omega⟩
 have hx : x < a := by have := of_decide_eq_true h2; omega
 have hy : y < b := by have := of_decide_eq_true h4; omega
 have hlt := idx_lt hx hy
 have hil : y * a + x < l.length := by omega
 have h5 : IntKind.i64.wrap ((y : Int) * (a : Int)) = ((y * a : Nat) : Int) := wm (by omega)
 have h6 : IntKind.i64.wrap (((y * a : Nat) : Int) + (x : Int)) = ((y * a + x : Nat) : Int) := wa (by omega)
 have e : inkB a b l x y = (l[y * a + x] == 1) := by rw [inkB_nat hx hy]; simp [hil]
 rw [e]
 try simp only [↓nrmL, nrmZ, Nat.reduceEqDiff, ↓reduceIte, h1, h2, h3, h4, h5, h6, u8_one]
 refine sq ?_
 refine rg fun KF hKF => ?_
 refine Fo.boxA rfl ?_
 refine mB rfl ?_
 refine WpO.nil (hKF _ _ ?_)
 refine sq ?_
 refine rg fun KF hKF => ?_
 refine mI rfl ?_
 refine Fo.bin rfl rfl rfl (by simp only [↓nrmL, nrmZ, Nat.reduceEqDiff, ↓reduceIte, h1, h2, h3, h4, h5, h6, u8_one]; rfl) ?_
 refine mB rfl ?_
 refine Fo.yes rfl rfl ?_
 refine mI rfl ?_
 refine Fo.yes rfl rfl ?_
 refine Fo.fa rfl ?_
 refine Fo.yes rfl rfl ?_
 refine Fo.ld rfl rfl ?_
 refine Fo.yes rfl rfl ?_
 refine Fo.bin rfl rfl rfl (by simp only [↓nrmL, nrmZ, Nat.reduceEqDiff, ↓reduceIte, h1, h2, h3, h4, h5, h6, u8_one]; rfl) ?_
 refine tB rfl rfl ?_
 refine mB rfl ?_
 refine Fo.yes rfl rfl ?_
 refine mI rfl ?_
 refine Fo.yes rfl rfl ?_
 refine Fo.bin rfl rfl rfl (by simp only [↓nrmL, nrmZ, Nat.reduceEqDiff, ↓reduceIte, h1, h2, h3, h4, h5, h6, u8_one]; rfl) ?_
 refine tB rfl rfl ?_
 refine mB rfl ?_
 refine Fo.yes rfl rfl ?_
 refine mI rfl ?_
 refine Fo.yes rfl rfl ?_
 refine Fo.fa rfl ?_
 refine Fo.yes rfl rfl ?_
 refine Fo.ld rfl rfl ?_
 refine Fo.yes rfl rfl ?_
 refine Fo.bin rfl rfl rfl (by simp only [↓nrmL, nrmZ, Nat.reduceEqDiff, ↓reduceIte, h1, h2, h3, h4, h5, h6, u8_one]; rfl) ?_
 refine tB rfl rfl ?_
 refine mB rfl ?_
 refine Fo.yes rfl rfl ?_
 refine Fo.fa rfl ?_
 refine Fo.yes rfl rfl ?_
 refine Fo.ld rfl rfl ?_
 refine Fo.yes rfl rfl ?_
 refine mI rfl ?_
 refine Fo.yes rfl rfl ?_
 refine Fo.fa rfl ?_
 refine Fo.yes rfl rfl ?_
 refine Fo.ld rfl rfl ?_
 refine Fo.yes rfl rfl ?_
 refine Fo.bin rfl rfl rfl (by simp only [↓nrmL, nrmZ, Nat.reduceEqDiff, ↓reduceIte, h1, h2, h3, h4, h5, h6, u8_one]; rfl) ?_
 refine Fo.yes rfl rfl ?_
 refine mI rfl ?_
 refine Fo.yes rfl rfl ?_
 refine Fo.bin rfl rfl rfl (by simp only [↓nrmL, nrmZ, Nat.reduceEqDiff, ↓reduceIte, h1, h2, h3, h4, h5, h6, u8_one]; rfl) ?_
 refine Fo.yes rfl rfl ?_
 refine Fo.idx (by simp only [↓nrmL, nrmK, Nat.reduceEqDiff, ↓reduceIte]; rfl) rfl ?_ (by simp only [↓nrmL, nrmZ, Nat.reduceEqDiff, ↓reduceIte, h1, h2, h3, h4, h5, h6, u8_one]; rfl) ?_; (focus omega)
 refine Fo.yes rfl rfl ?_
 refine Fo.ldB rfl ?_ rfl ?_; (focus omega)
 refine Fo.yes rfl rfl ?_
 refine Fo.bin rfl rfl rfl (by simp only [↓nrmL, nrmZ, Nat.reduceEqDiff, ↓reduceIte, h1, h2, h3, h4, h5, h6, u8_one]; rfl) ?_
 refine tB rfl rfl ?_
 refine mB rfl ?_
 refine WpO.nil (hKF _ _ ?_)
 refine Wp.ret ?_
 dsimp only [cond_true, cond_false]
 refine ⟨trivial, _, rfl, ?_⟩
 exact ⟨rfl, Ext0.ext⟩⟩
theorem pxOk_take {l : List UInt8} {i : Nat} (h : i < l.length) : pxOk (l.take (i + 1)) = (pxOk (l.take i) && (l[i] == 0 || l[i] == 1)) := by
 rw [List.take_succ_eq_append_getElem h]
 simp only [pxOk, List.all_append, List.all_cons, List.all_nil, Bool.and_true]
theorem pxOk_bad {l : List UInt8} {i : Nat} (h : i < l.length) (hb : (l[i] == 0 || l[i] == 1) = false) : pxOk l = false := by
 cases hp : pxOk l
 ·rfl
 ·have := List.all_eq_true.1 hp l[i] (List.getElem_mem h)
  rw [hb] at this; cases this

instance K_refCheck {p : AVal} {H : AHeap} {w h : Int} {l : List UInt8} [hp : BytesI H p l] : PureCon ext prog 21 [.agg [.int .i64 w, .int .i64 h, p]] H 2 (.int .i64 (Img.err ⟨w, h, l⟩)) := ⟨by
 refine con_of (show prog 21 = some c21 from rfl) rfl rfl fun n hn => ?_
 haveI := hp.one
 unfold Img.err Img.sized sizedB
 cases h1 : (sideB w && sideB h)
 ·skip
  try simp only [↓nrmL, nrmZ, Nat.reduceEqDiff, ↓reduceIte, h1]
  refine sq ?_
  refine rg fun KF hKF => ?_
  refine Fo.boxA rfl ?_
  refine mI rfl ?_
  refine WpO.nil (hKF _ _ ?_)
  refine sq ?_
  refine sq ?_
  refine rg fun KF hKF => ?_
  refine Fo.fa rfl ?_
  refine Fo.ld rfl rfl ?_
  refine Fo.fa rfl ?_
  refine Fo.ld rfl rfl ?_
  refine Fo.pcall (v' := ?_) hn rfl (by simp only [↓nrmL, nrmZ, Nat.reduceEqDiff, ↓reduceIte, h1, List.map]; rfl) rfl ?hv fun _ _ => ?_; case hv => (simp only [↓nrmL, nrmZ, Nat.reduceEqDiff, ↓reduceIte, h1]; rfl)
  refine Fo.now rfl rfl (by simp only [↓nrmL, nrmZ, Nat.reduceEqDiff, ↓reduceIte, h1]; rfl) ?_
  refine mB rfl ?_
  refine Fo.no rfl rfl ?_
  refine Fo.no rfl rfl ?_
  refine Fo.no rfl rfl ?_
  refine Fo.no rfl rfl ?_
  refine Fo.no rfl rfl ?_
  refine Fo.no rfl rfl ?_
  refine Fo.no rfl rfl ?_
  refine Fo.no rfl rfl ?_
  refine Fo.no rfl rfl ?_
  refine tB rfl rfl ?_
  refine WpO.nil (hKF _ _ ?_)
  refine Wp.cond (b := true) rfl ?_
  refine sq ?_
  refine rg fun KF hKF => ?_
  refine mI rfl ?_
  refine WpO.nil (hKF _ _ ?_)
  refine Wp.ret ?_
  dsimp only [cond_true, cond_false]
  refine ⟨trivial, _, rfl, ?_⟩
  exact ⟨rfl, Ext0.ext⟩
 cases h2 : (((l.length : Nat) : Int) == IntKind.i64.wrap (w * h))
 ·skip
  try simp only [↓nrmL, nrmZ, Nat.reduceEqDiff, ↓reduceIte, h1, h2, bne]
  refine sq ?_
  refine rg fun KF hKF => ?_
  refine Fo.boxA rfl ?_
  refine mI rfl ?_
  refine WpO.nil (hKF _ _ ?_)
  refine sq ?_
  refine sq ?_
  refine rg fun KF hKF => ?_
  refine Fo.fa rfl ?_
  refine Fo.ld rfl rfl ?_
  refine Fo.fa rfl ?_
  refine Fo.ld rfl rfl ?_
  refine Fo.pcall (v' := ?_) hn rfl (by simp only [↓nrmL, nrmZ, Nat.reduceEqDiff, ↓reduceIte, h1, h2, bne, List.map]; rfl) rfl ?hv fun _ _ => ?_; case hv => (simp only [↓nrmL, nrmZ, Nat.reduceEqDiff, ↓reduceIte, h1, h2, bne]; rfl)
  refine Fo.now rfl rfl (by simp only [↓nrmL, nrmZ, Nat.reduceEqDiff, ↓reduceIte, h1, h2, bne]; rfl) ?_
  refine mB rfl ?_
  refine Fo.yes rfl rfl ?_
  refine Fo.fa rfl ?_
  refine Fo.yes rfl rfl ?_
  refine Fo.ld rfl rfl ?_
  refine Fo.yes rfl rfl ?_
  refine Fo.len (v := ?_) (by simp only [↓nrmL, nrmK, Nat.reduceEqDiff, ↓reduceIte]; rfl) ?hv ?_; case hv => rfl
  refine Fo.yes rfl rfl ?_
  refine Fo.fa rfl ?_
  refine Fo.yes rfl rfl ?_
  refine Fo.ld rfl rfl ?_
  refine Fo.yes rfl rfl ?_
  refine Fo.fa rfl ?_
  refine Fo.yes rfl rfl ?_
  refine Fo.ld rfl rfl ?_
  refine Fo.yes rfl rfl ?_
  refine Fo.bin rfl rfl rfl rfl ?_
  refine Fo.yes rfl rfl ?_
  refine Fo.bin rfl rfl rfl (by simp only [↓nrmL, nrmZ, Nat.reduceEqDiff, ↓reduceIte, h1, h2, bne]; rfl) ?_
  refine fB rfl rfl ?_
  refine WpO.nil (hKF _ _ ?_)
  refine Wp.cond (b := true) rfl ?_
  refine sq ?_
  refine rg fun KF hKF => ?_
  refine mI rfl ?_
  refine WpO.nil (hKF _ _ ?_)
  refine Wp.ret ?_
  dsimp only [cond_true, cond_false]
  refine ⟨trivial, _, rfl, ?_⟩
  exact ⟨rfl, Ext0.ext⟩
 have hs : sizedB w h l.length = true := by unfold sizedB; rw [h1, h2]; rfl
 obtain ⟨a, b, _, _, ha, hb, hl⟩ := sized_nat hs
 have hm : a * b ≤ 640 * 640 := Nat.mul_le_mul ha hb
 try simp only [↓nrmL, nrmZ, Nat.reduceEqDiff, ↓reduceIte, h1, h2, bne]
 refine sq ?_
 refine rg fun KF hKF => ?_
 refine Fo.boxA rfl ?_
 refine mI rfl ?_
 refine WpO.nil (hKF _ _ ?_)
 refine sq ?_
 refine sq ?_
 refine rg fun KF hKF => ?_
 refine Fo.fa rfl ?_
 refine Fo.ld rfl rfl ?_
 refine Fo.fa rfl ?_
 refine Fo.ld rfl rfl ?_
 refine Fo.pcall (v' := ?_) hn rfl (by simp only [↓nrmL, nrmZ, Nat.reduceEqDiff, ↓reduceIte, h1, h2, bne, List.map]; rfl) rfl ?hv fun _ _ => ?_; case hv => (simp only [↓nrmL, nrmZ, Nat.reduceEqDiff, ↓reduceIte, h1, h2, bne]; rfl)
 refine Fo.now rfl rfl (by simp only [↓nrmL, nrmZ, Nat.reduceEqDiff, ↓reduceIte, h1, h2, bne]; rfl) ?_
 refine mB rfl ?_
 refine Fo.yes rfl rfl ?_
 refine Fo.fa rfl ?_
 refine Fo.yes rfl rfl ?_
 refine Fo.ld rfl rfl ?_
 refine Fo.yes rfl rfl ?_
 refine Fo.len (v := ?_) (by simp only [↓nrmL, nrmK, Nat.reduceEqDiff, ↓reduceIte]; rfl) ?hv ?_; case hv => rfl
 refine Fo.yes rfl rfl ?_
 refine Fo.fa rfl ?_
 refine Fo.yes rfl rfl ?_
 refine Fo.ld rfl rfl ?_
 refine Fo.yes rfl rfl ?_
 refine Fo.fa rfl ?_
 refine Fo.yes rfl rfl ?_
 refine Fo.ld rfl rfl ?_
 refine Fo.yes rfl rfl ?_
 refine Fo.bin rfl rfl rfl rfl ?_
 refine Fo.yes rfl rfl ?_
 refine Fo.bin rfl rfl rfl (by simp only [↓nrmL, nrmZ, Nat.reduceEqDiff, ↓reduceIte, h1, h2, bne]; rfl) ?_
 refine fB rfl rfl ?_
 refine WpO.nil (hKF _ _ ?_)
 refine Wp.cond (b := false) rfl ?_
 refine Wp.skip ?_
 refine sq ?_
 refine sq ?_
 refine rg fun KF hKF => ?_
 refine mI rfl ?_
 refine WpO.nil (hKF _ _ ?_)
 refine Wp.block ?_
 dsimp only [cond_true, cond_false]
 refine Wp.loopS [2, 3, 21, 22, 23, 24, 25, 26, 27, 28, 29, 30, 31, 32, 33, 34, 35, 36, 37, 38, 39, 40, 41] (fun i : Nat => [(3, .int .i64 i)]) (fun H3 i H2 => i ≤ l.length ∧ pxOk (l.take i) = true ∧ H2 = H3) (fun i => l.length - i) 0 rfl (fun _ => rfl) ⟨rfl, trivial⟩ ⟨Nat.zero_le _, rfl, rfl⟩ (by unfold fuel0 at hn; omega) ?_
 rintro i g H2 ⟨hi, hok, rfl⟩
 simp only [↓nrmL, nrmZ, Nat.reduceEqDiff, ↓reduceIte]
 cases hc : decide ((i : Int) < (l.length : Int))
 ·have hil : i = l.length := by have := of_decide_eq_false hc; omega
  subst hil
  rw [List.take_length] at hok
  try simp only [↓nrmL, nrmZ, Nat.reduceEqDiff, ↓reduceIte, hc]
  refine sq ?_
  refine sq ?_
  refine rg fun KF hKF => ?_
  refine mI rfl ?_
  refine Fo.fa rfl ?_
  refine Fo.ld rfl rfl ?_
  refine Fo.len (v := ?_) (by simp only [↓nrmL, nrmK, Nat.reduceEqDiff, ↓reduceIte]; rfl) ?hv ?_; case hv => rfl
  refine Fo.bin rfl rfl rfl (by simp only [↓nrmL, nrmZ, Nat.reduceEqDiff, ↓reduceIte, hc]; rfl) ?_
  refine WpO.nil (hKF _ _ ?_)
  refine Wp.cond (b := false) rfl ?_
  refine Wp.exit ?_
  refine sq ?_
  refine rg fun KF hKF => ?_
  refine mI rfl ?_
  refine WpO.nil (hKF _ _ ?_)
  refine Wp.ret ?_
  dsimp only [cond_true, cond_false]
  refine ⟨trivial, _, rfl, ?_⟩
  exact ⟨by rw [hok]; rfl, Ext0.ext⟩
 ·have hil : i < l.length := by have := of_decide_eq_true hc; omega
  have hw1 := wa1 (a := i) (by omega)
  cases h0 : (l[i] == 0)
  ·cases h4 : (l[i] == 1)
   ·skip
    try simp only [↓nrmL, nrmZ, Nat.reduceEqDiff, ↓reduceIte, hc, bne, u8_zero, u8_one, h0, h4]
    refine sq ?_
    refine sq ?_
    refine rg fun KF hKF => ?_
    refine mI rfl ?_
    refine Fo.fa rfl ?_
    refine Fo.ld rfl rfl ?_
    refine Fo.len (v := ?_) (by simp only [↓nrmL, nrmK, Nat.reduceEqDiff, ↓reduceIte]; rfl) ?hv ?_; case hv => rfl
    refine Fo.bin rfl rfl rfl (by simp only [↓nrmL, nrmZ, Nat.reduceEqDiff, ↓reduceIte, hc, bne, u8_zero, u8_one, h0, h4]; rfl) ?_
    refine WpO.nil (hKF _ _ ?_)
    refine Wp.cond (b := true) rfl ?_
    refine Wp.skip ?_
    refine sq ?_
    refine Wp.block ?_
    refine sq ?_
    refine rg fun KF hKF => ?_
    refine Fo.fa rfl ?_
    refine Fo.ld rfl rfl ?_
    refine mI rfl ?_
    refine Fo.idx (by simp only [↓nrmL, nrmK, Nat.reduceEqDiff, ↓reduceIte]; rfl) rfl ?_ (by simp only [↓nrmL, nrmZ, Nat.reduceEqDiff, ↓reduceIte, hc, bne, u8_zero, u8_one, h0, h4]; rfl) ?_; (focus omega)
    refine Fo.ldB rfl ?_ rfl ?_; (focus omega)
    refine Fo.bin rfl rfl rfl (by simp only [↓nrmL, nrmZ, Nat.reduceEqDiff, ↓reduceIte, hc, bne, u8_zero, u8_one, h0, h4]; rfl) ?_
    refine mB rfl ?_
    refine Fo.yes rfl rfl ?_
    refine Fo.fa rfl ?_
    refine Fo.yes rfl rfl ?_
    refine Fo.ld rfl rfl ?_
    refine Fo.yes rfl rfl ?_
    refine mI rfl ?_
    refine Fo.yes rfl rfl ?_
    refine Fo.idx (by simp only [↓nrmL, nrmK, Nat.reduceEqDiff, ↓reduceIte]; rfl) rfl ?_ (by simp only [↓nrmL, nrmZ, Nat.reduceEqDiff, ↓reduceIte, hc, bne, u8_zero, u8_one, h0, h4]; rfl) ?_; (focus omega)
    refine Fo.yes rfl rfl ?_
    refine Fo.ldB rfl ?_ rfl ?_; (focus omega)
    refine Fo.yes rfl rfl ?_
    refine Fo.bin rfl rfl rfl (by simp only [↓nrmL, nrmZ, Nat.reduceEqDiff, ↓reduceIte, hc, bne, u8_zero, u8_one, h0, h4]; rfl) ?_
    refine tB rfl rfl ?_
    refine WpO.nil (hKF _ _ ?_)
    refine Wp.cond (b := true) rfl ?_
    refine sq ?_
    refine rg fun KF hKF => ?_
    refine mI rfl ?_
    refine WpO.nil (hKF _ _ ?_)
    refine Wp.ret ?_
    dsimp only [cond_true, cond_false]
    refine ⟨trivial, _, rfl, ?_⟩
    exact ⟨by rw [pxOk_bad hil (by rw [h0, h4]; rfl)]; rfl, Ext0.ext⟩
   ·skip
    try simp only [↓nrmL, nrmZ, Nat.reduceEqDiff, ↓reduceIte, hc, bne, u8_zero, u8_one, h0, h4]
    refine sq ?_
    refine sq ?_
    refine rg fun KF hKF => ?_
    refine mI rfl ?_
    refine Fo.fa rfl ?_
    refine Fo.ld rfl rfl ?_
    refine Fo.len (v := ?_) (by simp only [↓nrmL, nrmK, Nat.reduceEqDiff, ↓reduceIte]; rfl) ?hv ?_; case hv => rfl
    refine Fo.bin rfl rfl rfl (by simp only [↓nrmL, nrmZ, Nat.reduceEqDiff, ↓reduceIte, hc, bne, u8_zero, u8_one, h0, h4]; rfl) ?_
    refine WpO.nil (hKF _ _ ?_)
    refine Wp.cond (b := true) rfl ?_
    refine Wp.skip ?_
    refine sq ?_
    refine Wp.block ?_
    refine sq ?_
    refine rg fun KF hKF => ?_
    refine Fo.fa rfl ?_
    refine Fo.ld rfl rfl ?_
    refine mI rfl ?_
    refine Fo.idx (by simp only [↓nrmL, nrmK, Nat.reduceEqDiff, ↓reduceIte]; rfl) rfl ?_ (by simp only [↓nrmL, nrmZ, Nat.reduceEqDiff, ↓reduceIte, hc, bne, u8_zero, u8_one, h0, h4]; rfl) ?_; (focus omega)
    refine Fo.ldB rfl ?_ rfl ?_; (focus omega)
    refine Fo.bin rfl rfl rfl (by simp only [↓nrmL, nrmZ, Nat.reduceEqDiff, ↓reduceIte, hc, bne, u8_zero, u8_one, h0, h4]; rfl) ?_
    refine mB rfl ?_
    refine Fo.yes rfl rfl ?_
    refine Fo.fa rfl ?_
    refine Fo.yes rfl rfl ?_
    refine Fo.ld rfl rfl ?_
    refine Fo.yes rfl rfl ?_
    refine mI rfl ?_
    refine Fo.yes rfl rfl ?_
    refine Fo.idx (by simp only [↓nrmL, nrmK, Nat.reduceEqDiff, ↓reduceIte]; rfl) rfl ?_ (by simp only [↓nrmL, nrmZ, Nat.reduceEqDiff, ↓reduceIte, hc, bne, u8_zero, u8_one, h0, h4]; rfl) ?_; (focus omega)
    refine Fo.yes rfl rfl ?_
    refine Fo.ldB rfl ?_ rfl ?_; (focus omega)
    refine Fo.yes rfl rfl ?_
    refine Fo.bin rfl rfl rfl (by simp only [↓nrmL, nrmZ, Nat.reduceEqDiff, ↓reduceIte, hc, bne, u8_zero, u8_one, h0, h4]; rfl) ?_
    refine tB rfl rfl ?_
    refine WpO.nil (hKF _ _ ?_)
    refine Wp.cond (b := false) rfl ?_
    refine Wp.skip ?_
    refine rg fun KF hKF => ?_
    refine mI rfl ?_
    refine Fo.bin rfl rfl rfl rfl ?_
    refine mI rfl ?_
    refine WpO.nil (hKF _ _ ?_)
    dsimp only [cond_true, cond_false]
    exact ⟨i + 1, by omega, ⟨by simp only [↓nrmL, nrmZ, Nat.reduceEqDiff, ↓reduceIte]; rw [hw1], trivial⟩, hil, by rw [pxOk_take hil, hok, h0, h4]; rfl, rfl⟩
  ·skip
   try simp only [↓nrmL, nrmZ, Nat.reduceEqDiff, ↓reduceIte, hc, bne, u8_zero, u8_one, h0]
   refine sq ?_
   refine sq ?_
   refine rg fun KF hKF => ?_
   refine mI rfl ?_
   refine Fo.fa rfl ?_
   refine Fo.ld rfl rfl ?_
   refine Fo.len (v := ?_) (by simp only [↓nrmL, nrmK, Nat.reduceEqDiff, ↓reduceIte]; rfl) ?hv ?_; case hv => rfl
   refine Fo.bin rfl rfl rfl (by simp only [↓nrmL, nrmZ, Nat.reduceEqDiff, ↓reduceIte, hc, bne, u8_zero, u8_one, h0]; rfl) ?_
   refine WpO.nil (hKF _ _ ?_)
   refine Wp.cond (b := true) rfl ?_
   refine Wp.skip ?_
   refine sq ?_
   refine Wp.block ?_
   refine sq ?_
   refine rg fun KF hKF => ?_
   refine Fo.fa rfl ?_
   refine Fo.ld rfl rfl ?_
   refine mI rfl ?_
   refine Fo.idx (by simp only [↓nrmL, nrmK, Nat.reduceEqDiff, ↓reduceIte]; rfl) rfl ?_ (by simp only [↓nrmL, nrmZ, Nat.reduceEqDiff, ↓reduceIte, hc, bne, u8_zero, u8_one, h0]; rfl) ?_; (focus omega)
   refine Fo.ldB rfl ?_ rfl ?_; (focus omega)
   refine Fo.bin rfl rfl rfl (by simp only [↓nrmL, nrmZ, Nat.reduceEqDiff, ↓reduceIte, hc, bne, u8_zero, u8_one, h0]; rfl) ?_
   refine mB rfl ?_
   refine Fo.no rfl rfl ?_
   refine Fo.no rfl rfl ?_
   refine Fo.no rfl rfl ?_
   refine Fo.no rfl rfl ?_
   refine Fo.no rfl rfl ?_
   refine Fo.no rfl rfl ?_
   refine fB rfl rfl ?_
   refine WpO.nil (hKF _ _ ?_)
   refine Wp.cond (b := false) rfl ?_
   refine Wp.skip ?_
   refine rg fun KF hKF => ?_
   refine mI rfl ?_
   refine Fo.bin rfl rfl rfl rfl ?_
   refine mI rfl ?_
   refine WpO.nil (hKF _ _ ?_)
   dsimp only [cond_true, cond_false]
   exact ⟨i + 1, by omega, ⟨by simp only [↓nrmL, nrmZ, Nat.reduceEqDiff, ↓reduceIte]; rw [hw1], trivial⟩, hil, by rw [pxOk_take hil, hok, h0]; rfl, rfl⟩⟩
end Go.Am

set_option maxHeartbeats 4000000
set_option maxRecDepth 100000
namespace Go.Am
open Go
attribute [local irreducible] Wp WpO WpX WpE

theorem px_get {l : List UInt8} (h : pxOk l = true) {i : Nat} (hi : i < l.length) : l.getD i 0 = 0 ∨ l.getD i 0 = 1 := by
 have := List.all_eq_true.1 h l[i] (List.getElem_mem hi)
 simp only [Bool.or_eq_true, beq_iff_eq] at this
 simpa [hi] using this

end Go.Am

set_option maxHeartbeats 4000000
set_option maxRecDepth 100000
namespace Go.Am
open Go
attribute [local irreducible] Wp WpO WpX WpE

theorem K_Or {p q : AVal} {H : AHeap} {w h w' h' : Int} {l m : List UInt8} [hp : BytesI H p l] [hq : BytesI H q m] : Con ext prog 5 85 [.agg [.int .i64 w, .int .i64 h, p], .agg [.int .i64 w', .int .i64 h', q]] H fun v H' => InkRes H H' v (combSpec (fun a b => a ||| b) ⟨w, h, l⟩ ⟨w', h', m⟩) := by
 refine con_of (show prog 85 = some c85 from rfl) rfl rfl fun n hn => ?_
 haveI := hp.one
 haveI := hq.one
 refine sq ?_
 refine rg fun KF hKF => ?_
 refine Fo.boxA rfl ?_
 refine Fo.boxA rfl ?_
 refine Fo.new ?_
 refine mI rfl ?_
 refine WpO.nil (hKF _ _ ?_)
 refine sq ?_
 refine rg fun KF hKF => ?_
 refine Fo.ldN rfl rfl (by simp only [↓nrmL, nrmZ, Nat.reduceEqDiff, ↓reduceIte]; rfl) ?_
 refine Fo.ldN rfl rfl (by simp only [↓nrmL, nrmZ, Nat.reduceEqDiff, ↓reduceIte]; rfl) ?_
 refine WpO.do (WpX.conD hn rfl rfl (by simp only [↓nrmL, nrmZ, Nat.reduceEqDiff, ↓reduceIte, List.map] <;> rfl) (K_combine (F := 147) (l := l) (m := m)) fun v H1 h5 => ?_)
 obtain ⟨u, e1, o, e2, ho, hf, hw3, hx⟩ := h5
 subst e1 e2
 haveI : ExtI _ H1 := ⟨hx⟩
 haveI := ho.one
 refine Fo.extr rfl rfl ?_
 refine Fo.extr rfl rfl ?_
 refine Fo.st rfl (rfl : _ = AVal.agg _) rfl rfl rfl (by repeat (first | rfl | refine allOne_cons ?_)) (by simp only [↓nrmL, nrmZ, Nat.reduceEqDiff, ↓reduceIte]; rfl) ?_
 refine mI rfl ?_
 refine WpO.nil (hKF _ _ ?_)
 refine Wp.ret ?_
 dsimp only [cond_true, cond_false]
 refine ⟨trivial, _, (getAllC rfl rfl rfl rfl), ?_⟩
 exact ⟨_, rfl, o, rfl, inferInstance, hf.weak, inferInstance, Ext0.ext⟩
theorem K_And {p q : AVal} {H : AHeap} {w h w' h' : Int} {l m : List UInt8} [hp : BytesI H p l] [hq : BytesI H q m] : Con ext prog 5 86 [.agg [.int .i64 w, .int .i64 h, p], .agg [.int .i64 w', .int .i64 h', q]] H fun v H' => InkRes H H' v (combSpec (fun a b => a &&& b) ⟨w, h, l⟩ ⟨w', h', m⟩) := by
 refine con_of (show prog 86 = some c86 from rfl) rfl rfl fun n hn => ?_
 haveI := hp.one
 haveI := hq.one
 refine sq ?_
 refine rg fun KF hKF => ?_
 refine Fo.boxA rfl ?_
 refine Fo.boxA rfl ?_
 refine Fo.new ?_
 refine mI rfl ?_
 refine WpO.nil (hKF _ _ ?_)
 refine sq ?_
 refine rg fun KF hKF => ?_
 refine Fo.ldN rfl rfl (by simp only [↓nrmL, nrmZ, Nat.reduceEqDiff, ↓reduceIte]; rfl) ?_
 refine Fo.ldN rfl rfl (by simp only [↓nrmL, nrmZ, Nat.reduceEqDiff, ↓reduceIte]; rfl) ?_
 refine WpO.do (WpX.conD hn rfl rfl (by simp only [↓nrmL, nrmZ, Nat.reduceEqDiff, ↓reduceIte, List.map] <;> rfl) (K_combine (F := 148) (l := l) (m := m)) fun v H1 h5 => ?_)
 obtain ⟨u, e1, o, e2, ho, hf, hw3, hx⟩ := h5
 subst e1 e2
 haveI : ExtI _ H1 := ⟨hx⟩
 haveI := ho.one
 refine Fo.extr rfl rfl ?_
 refine Fo.extr rfl rfl ?_
 refine Fo.st rfl (rfl : _ = AVal.agg _) rfl rfl rfl (by repeat (first | rfl | refine allOne_cons ?_)) (by simp only [↓nrmL, nrmZ, Nat.reduceEqDiff, ↓reduceIte]; rfl) ?_
 refine mI rfl ?_
 refine WpO.nil (hKF _ _ ?_)
 refine Wp.ret ?_
 dsimp only [cond_true, cond_false]
 refine ⟨trivial, _, (getAllC rfl rfl rfl rfl), ?_⟩
 exact ⟨_, rfl, o, rfl, inferInstance, hf.weak, inferInstance, Ext0.ext⟩
theorem K_Less {p q : AVal} {H : AHeap} {w h w' h' : Int} {l m : List UInt8} [hp : BytesI H p l] [hq : BytesI H q m] : Con ext prog 5 87 [.agg [.int .i64 w, .int .i64 h, p], .agg [.int .i64 w', .int .i64 h', q]] H fun v H' => InkRes H H' v (combSpec (fun a b => a &&& ~~~b) ⟨w, h, l⟩ ⟨w', h', m⟩) := by
 refine con_of (show prog 87 = some c87 from rfl) rfl rfl fun n hn => ?_
 haveI := hp.one
 haveI := hq.one
 refine sq ?_
 refine rg fun KF hKF => ?_
 refine Fo.boxA rfl ?_
 refine Fo.boxA rfl ?_
 refine Fo.new ?_
 refine mI rfl ?_
 refine WpO.nil (hKF _ _ ?_)
 refine sq ?_
 refine rg fun KF hKF => ?_
 refine Fo.ldN rfl rfl (by simp only [↓nrmL, nrmZ, Nat.reduceEqDiff, ↓reduceIte]; rfl) ?_
 refine Fo.ldN rfl rfl (by simp only [↓nrmL, nrmZ, Nat.reduceEqDiff, ↓reduceIte]; rfl) ?_
 refine WpO.do (WpX.conD hn rfl rfl (by simp only [↓nrmL, nrmZ, Nat.reduceEqDiff, ↓reduceIte, List.map] <;> rfl) (K_combine (F := 149) (l := l) (m := m)) fun v H1 h5 => ?_)
 obtain ⟨u, e1, o, e2, ho, hf, hw3, hx⟩ := h5
 subst e1 e2
 haveI : ExtI _ H1 := ⟨hx⟩
 haveI := ho.one
 refine Fo.extr rfl rfl ?_
 refine Fo.extr rfl rfl ?_
 refine Fo.st rfl (rfl : _ = AVal.agg _) rfl rfl rfl (by repeat (first | rfl | refine allOne_cons ?_)) (by simp only [↓nrmL, nrmZ, Nat.reduceEqDiff, ↓reduceIte]; rfl) ?_
 refine mI rfl ?_
 refine WpO.nil (hKF _ _ ?_)
 refine Wp.ret ?_
 dsimp only [cond_true, cond_false]
 refine ⟨trivial, _, (getAllC rfl rfl rfl rfl), ?_⟩
 exact ⟨_, rfl, o, rfl, inferInstance, hf.weak, inferInstance, Ext0.ext⟩

end Go.Am

set_option maxHeartbeats 4000000
set_option maxRecDepth 100000
namespace Go.Am
open Go
attribute [local irreducible] Wp WpO WpX WpE

/-- A valid image. -/
structure Ok (a b : Nat) (l : List UInt8) : Prop where
 wa : a ≤ 640
 hb : b ≤ 640
 len : l.length = a * b
 px : pxOk l = true
theorem Ok.sized {a b : Nat} {l : List UInt8} (h : Ok a b l) : sizedB a b l.length = true := by
 have hm : a * b ≤ 640 * 640 := Nat.mul_le_mul h.wa h.hb
 have h1 : sideB a = true := by simp only [sideB, Bool.and_eq_true, decide_eq_true_eq]; have := h.wa; omega
 have h2 : sideB b = true := by simp only [sideB, Bool.and_eq_true, decide_eq_true_eq]; have := h.hb; omega
 unfold sizedB
 rw [h1, h2, wm (by omega), h.len]
 simp
theorem Ok.err {a b : Nat} {l : List UInt8} (h : Ok a b l) : Img.err ⟨a, b, l⟩ = 0 := by
 have h1 : (⟨a, b, l⟩ : Img).sized = true := h.sized
 have h2 := h.px
 unfold Img.err
 rw [h1]
 simp only [h2, cond_true]
theorem Ok.short {a b : Nat} {l : List UInt8} (h : Ok a b l) : l.length ≤ 409600 := by
 have hm : a * b ≤ 640 * 640 := Nat.mul_le_mul h.wa h.hb
 rw [h.len]; omega
end Go.Am

/- Parts of slices of bytes. -/
namespace Go.Am
open Go

/-- v is a part of the slice p: n bytes from a on. -/
class Part (p : outParam AVal) (v : AVal) (a n : outParam Nat) : Prop where
  it : (n = 0 ∧ aLenS v = some (.int .i64 0) ∧ v.cells = [v] ∧ v.one = true) ∨ ∃ r off len cap cap', p = .slice r off len cap 1 ∧ v = .slice r (off + a) n cap' 1 ∧ a + n ≤ len
theorem Part.one {p v : AVal} {a n : Nat} (h : Part p v a n) : OneV v := by
  rcases h.it with ⟨_, _, h1, h2⟩ | ⟨r, off, len, cap, cap', _, rfl, _⟩
  · exact ⟨h1, h2⟩
  · infer_instance
theorem Part.lenS {p v : AVal} {a n : Nat} (h : Part p v a n) : aLenS v = some (.int .i64 n) := by
  rcases h.it with ⟨rfl, h1, _⟩ | ⟨r, off, len, cap, cap', _, rfl, _⟩
  · exact h1
  · rfl
section
variable {call : ACall} {fr : AFrame} {H : AHeap} {KF : AFrame → AHeap → Prop} {os : List ROper} {d : Nat}
theorem exec_idxV {x i : ROpd} {p v : AVal} {a n : Nat} {k : IntKind} {j : Int} (hx : x.ev fr = v) (hi : i.ev fr = .int k j) [s : Part p v a n] (h0 : 0 ≤ j ∧ j < n) : (ROp.idxS 1 x i).exec call fr H = some (.ptr (rowOf p) (offOf p + (a + j.toNat)), H) := by
  rcases s.it with ⟨rfl, _⟩ | ⟨r, off, len, cap, cap', rfl, rfl, _⟩
  · have := h0.1; have := h0.2; omega
  · simp only [ROp.exec, hx, hi, aIdxS, true_and, if_pos h0, M.ofOption, M.pure, rowOf, offOf, Nat.mul_one, Nat.add_assoc]
theorem exec_lenV {x : ROpd} {p v : AVal} {a n : Nat} (hx : x.ev fr = v) [s : Part p v a n] : (ROp.lenS x).exec call fr H = some (.int .i64 n, H) := by
  simp only [ROp.exec, hx, s.lenS, M.ofOption, M.pure]
theorem Fo.idxV {x i : ROpd} {p v : AVal} {a n o : Nat} {k : IntKind} {j : Int} (hx : x.ev fr = v) (hi : i.ev fr = .int k j) [s : Part p v a n] (h0 : 0 ≤ j ∧ j < n) (ho : offOf p + (a + j.toNat) = o) (h : WpO call os (upd fr d (.ptr (rowOf p) o)) H KF) : WpO call (⟨some d, .idxS 1 x i, none⟩ :: os) fr H KF := by
  subst ho; exact WpO.step rfl ⟨_, _, exec_idxV hx hi h0, h⟩
theorem Fo.lenV {x : ROpd} {p v u : AVal} {a n : Nat} (hx : x.ev fr = v) [s : Part p v a n] (hv : AVal.int .i64 n = u) (h : WpO call os (upd fr d u) H KF) : WpO call (⟨some d, .lenS x, none⟩ :: os) fr H KF := by
  subst hv; exact WpO.step rfl ⟨_, _, exec_lenV hx, h⟩

theorem cells_sub {row : List AVal} {l : List UInt8} {off a b : Nat} (hc : (row.drop off).take l.length = cellsB l) (hb : b ≤ l.length) : (row.drop (off + a)).take (b - a) = cellsB ((l.drop a).take (b - a)) := by
  have h1 : (cellsB l).drop a = cellsB (l.drop a) := by simp [cellsB, List.map_drop]
  have h2 : ∀ (k : Nat) (m : List UInt8), (cellsB m).take k = cellsB (m.take k) := fun k m => by simp [cellsB, List.map_take]
  rw [← h2, ← h1, ← hc, List.drop_take, List.drop_drop, List.take_take]
  congr 1
  omega
/-- What a slice expression's bound says. -/
def bnd (o : Option AVal) (dflt n : Nat) : Prop := (o = none ∧ n = dflt) ∨ ∃ k, o = some (.int k n)
theorem exec_slc {x : ROpd} {lo hi : Option ROpd} {p : AVal} {l : List UInt8} {a b : Nat} (hx : x.ev fr = p) (hlo : bnd (lo.map (·.ev fr)) 0 a) (hhi : bnd (hi.map (·.ev fr)) l.length b) (hab : a ≤ b) (hbl : b ≤ l.length) [s : BytesI H p l] :
    ∃ v H', (ROp.sliceS 1 x lo hi none).exec call fr H = some (v, H') ∧ Part p v a (b - a) ∧ BytesI H' v ((l.drop a).take (b - a)) ∧ Ext H H' := by
  have hlen : ((l.drop a).take (b - a)).length = b - a := by rw [List.length_take, List.length_drop]; omega
  have hl1 : ∀ h, a ≤ h → aLow h (lo.map (·.ev fr)) = some a := by
    intro h hh
    rcases hlo with ⟨h1, rfl⟩ | ⟨k, h1⟩
    · rw [h1]; rfl
    · rw [h1]
      have : (0 : Int) ≤ (a : Int) ∧ (a : Int) ≤ (h : Int) := by omega
      simp only [aLow, aBound, if_pos this, Int.toNat_natCast]
  have hh1 : ∀ y, b ≤ y → aHigh l.length y (hi.map (·.ev fr)) = some b := by
    intro y hy
    rcases hhi with ⟨h1, rfl⟩ | ⟨k, h1⟩
    · rw [h1]; rfl
    · rw [h1]
      have : (0 : Int) ≤ (b : Int) ∧ (b : Int) ≤ (y : Int) := by omega
      simp only [aHigh, aBound, if_pos this, Int.toNat_natCast]
  rcases s.it with ⟨rfl, h0, _⟩ | ⟨r, off, cap, row, rw, e, rfl, hr, hg, hl, hc, hcap⟩
  · have e1 : b = 0 := by omega
    have e2 : a = 0 := by omega
    subst e1 e2
    have hb0 : aBounds 0 (some 0) (lo.map (·.ev fr)) (hi.map (·.ev fr)) none = some (0, 0, some 0) := by
      have h1 := hh1 (capD 0 (some 0)) (Nat.zero_le _)
      rw [h0] at h1
      simp only [aBounds, h1, hl1 0 (Nat.zero_le _)]
    refine ⟨.nslice, H, by simp only [ROp.exec, hx, Option.map_none, aSliceS, hb0, M.pure], ⟨Or.inl ⟨rfl, rfl, rfl, rfl⟩⟩, ?_, Ext.refl H⟩
    have e3 : (l.drop 0).take (0 - 0) = [] := by simp
    rw [e3]
    exact ⟨Or.inl ⟨rfl, rfl, rfl⟩⟩
  · rw [Nat.mul_one] at hl hc
    have hb0 : aBounds l.length cap (lo.map (·.ev fr)) (hi.map (·.ev fr)) none = some (a, b, cap) := by
      simp only [aBounds, hh1 _ (Nat.le_trans hbl hcap), hl1 b hab]
    have hsub := cells_sub (a := a) hc hbl
    have full : ∀ cap', (b - a ≤ capD (b - a) cap') → BytesI H (.slice r (off + a) (b - a) cap' 1) ((l.drop a).take (b - a)) := by
      intro cap' hc'
      unfold BytesI
      rw [hlen]
      exact ⟨Or.inr ⟨r, off + a, cap', row, rw, e, rfl, hr, hg, by omega, by rw [Nat.mul_one]; exact hsub, hc'⟩⟩
    have none0 : a = b → ∀ cap', BytesI H (.slice r off (b - a) cap' 1) ((l.drop a).take (b - a)) := by
      intro hE cap'
      subst hE
      have e3 : (l.drop a).take (a - a) = [] := by simp
      rw [e3, Nat.sub_self]
      exact ⟨Or.inr ⟨r, off, cap', row, rw, e, rfl, hr, hg, by simp; omega, by simp [cellsB], Nat.zero_le _⟩⟩
    cases cap with
    | some c =>
      simp only [capD] at hcap
      by_cases hca : c = a
      · have hE : a = b := by omega
        refine ⟨.slice r off (b - a) (some 0) 1, H, by simp only [ROp.exec, hx, Option.map_none, aSliceS, ne_eq, not_true, if_false, hb0, M.pure, if_pos hca], ⟨Or.inl ⟨by omega, by rw [hE, Nat.sub_self]; rfl, rfl, rfl⟩⟩, none0 hE _, Ext.refl H⟩
      · refine ⟨.slice r (off + a) (b - a) (some (c - a)) 1, H, by simp only [ROp.exec, hx, Option.map_none, aSliceS, ne_eq, not_true, if_false, hb0, M.pure, if_neg hca, Nat.mul_one], ⟨Or.inr ⟨r, off, l.length, some c, some (c - a), rfl, rfl, by omega⟩⟩, full _ (by simp only [capD]; omega), Ext.refl H⟩
    | none =>
      have h2 : ¬ row.length < off + l.length := by omega
      have hrow : aRow r H = some ((row, rw), H) := by simp only [aRow, if_pos hr, hg]
      by_cases hcd : a < b ∨ a = 0
      · refine ⟨.slice r (off + a) (b - a) none 1, H, ?_, ⟨Or.inr ⟨r, off, l.length, none, none, rfl, rfl, by omega⟩⟩, full _ (Nat.le_refl _), Ext.refl H⟩
        simp only [ROp.exec, hx, Option.map_none, aSliceS, ne_eq, not_true, if_false, hb0, Nat.mul_one, Nat.one_ne_zero, M.bind, hrow, if_neg h2, if_pos hcd, M.pure]
      · have hE : a = b := by omega
        refine ⟨.slice H.n 0 0 none 1, H.push (.row [] false 0), ?_, ⟨Or.inl ⟨by omega, rfl, rfl, rfl⟩⟩, ?_, (Ext.refl H).push _⟩
        · simp only [ROp.exec, hx, Option.map_none, aSliceS, ne_eq, not_true, if_false, hb0, Nat.mul_one, Nat.one_ne_zero, M.bind, hrow, if_neg h2, if_neg hcd, M.pure, aNew]
        · have e3 : (l.drop a).take (b - a) = [] := by rw [hE, Nat.sub_self]; simp
          rw [e3]
          exact ⟨Or.inr ⟨H.n, 0, none, [], false, 0, rfl, Nat.lt_succ_self _, push_get_eq, by simp, by simp [cellsB], Nat.zero_le _⟩⟩
/-- What a part of a slice is where it may be read only. -/
def slcV (p : AVal) (a b : Nat) : AVal := match p with
  | .slice r off _ (some c) _ => if c = a then .slice r off (b - a) (some 0) 1 else .slice r (off + a) (b - a) (some (c - a)) 1
  | .slice r off _ none _ => if a < b ∨ a = 0 then .slice r (off + a) (b - a) none 1 else .eslice r off a 1
  | _ => .nslice
theorem look_slc {x : ROpd} {lo hi : Option ROpd} {p : AVal} {l : List UInt8} {a b : Nat} (hx : x.ev fr = p) (hlo : bnd (lo.map (·.ev fr)) 0 a) (hhi : bnd (hi.map (·.ev fr)) l.length b) (hab : a ≤ b) (hbl : b ≤ l.length) [s : BytesI H p l] :
    (ROp.sliceS 1 x lo hi none).look fr H = some (slcV p a b) := by
  have hl1 : ∀ h, a ≤ h → aLow h (lo.map (·.ev fr)) = some a := by
    intro h hh
    rcases hlo with ⟨h1, rfl⟩ | ⟨k, h1⟩
    · rw [h1]; rfl
    · rw [h1]
      have : (0 : Int) ≤ (a : Int) ∧ (a : Int) ≤ (h : Int) := by omega
      simp only [aLow, aBound, if_pos this, Int.toNat_natCast]
  have hh1 : ∀ y, b ≤ y → aHigh l.length y (hi.map (·.ev fr)) = some b := by
    intro y hy
    rcases hhi with ⟨h1, rfl⟩ | ⟨k, h1⟩
    · rw [h1]; rfl
    · rw [h1]
      have : (0 : Int) ≤ (b : Int) ∧ (b : Int) ≤ (y : Int) := by omega
      simp only [aHigh, aBound, if_pos this, Int.toNat_natCast]
  rcases s.it with ⟨rfl, h0, _⟩ | ⟨r, off, cap, row, rw, e, rfl, hr, hg, hl, hc, hcap⟩
  · have e1 : b = 0 := by omega
    have e2 : a = 0 := by omega
    subst e1 e2
    have hb0 : aBounds 0 (some 0) (lo.map (·.ev fr)) (hi.map (·.ev fr)) none = some (0, 0, some 0) := by
      have h1 := hh1 (capD 0 (some 0)) (Nat.zero_le _)
      rw [h0] at h1
      simp only [aBounds, h1, hl1 0 (Nat.zero_le _)]
    exact look_of (H1 := H) (by simp only [ROp.exec, hx, Option.map_none, aSliceS, hb0, M.pure, slcV]) rfl
  · rw [Nat.mul_one] at hl hc
    have hb0 : aBounds l.length cap (lo.map (·.ev fr)) (hi.map (·.ev fr)) none = some (a, b, cap) := by
      simp only [aBounds, hh1 _ (Nat.le_trans hbl hcap), hl1 b hab]
    cases cap with
    | some c =>
      simp only [capD] at hcap
      by_cases hca : c = a
      · exact look_of (H1 := H) (by simp only [ROp.exec, hx, Option.map_none, aSliceS, ne_eq, not_true, if_false, hb0, M.pure, if_pos hca, slcV]) rfl
      · exact look_of (H1 := H) (by simp only [ROp.exec, hx, Option.map_none, aSliceS, ne_eq, not_true, if_false, hb0, M.pure, if_neg hca, Nat.mul_one, slcV]) rfl
    | none =>
      have h2 : ¬ row.length < off + l.length := by omega
      have hrow : aRow r H = some ((row, rw), H) := by simp only [aRow, if_pos hr, hg]
      by_cases hcd : a < b ∨ a = 0
      · refine look_of (H1 := H) ?_ rfl
        simp only [ROp.exec, hx, Option.map_none, aSliceS, ne_eq, not_true, if_false, hb0, Nat.mul_one, Nat.one_ne_zero, M.bind, hrow, if_neg h2, if_pos hcd, M.pure, slcV]
      · have hex : (ROp.sliceS 1 x lo hi none).exec noCall fr H = some (.slice H.n 0 0 none 1, H.push (.row [] false 0)) := by
          simp only [ROp.exec, hx, Option.map_none, aSliceS, ne_eq, not_true, if_false, hb0, Nat.mul_one, Nat.one_ne_zero, M.bind, hrow, if_neg h2, if_neg hcd, M.pure, aNew]
        have hne : Nat.beq (H.push (.row [] false 0)).n H.n = false := by
          cases hh : Nat.beq (H.push (.row [] false 0)).n H.n with
          | false => rfl
          | true => exact absurd (Nat.eq_of_beq_eq_true hh) (Nat.succ_ne_self H.n)
        simp only [ROp.look, hex, hne, hx, aSliceE, Option.map_none, hb0, slcV, if_neg hcd]
theorem slcV_part {p : AVal} {l : List UInt8} {a b : Nat} (hab : a ≤ b) (hbl : b ≤ l.length) (s : BytesI H p l) :
    (Part p (slcV p a b) a (b - a) ∧ BytesI H (slcV p a b) ((l.drop a).take (b - a))) ∨ (a = b ∧ ∃ r off, slcV p a b = .eslice r off a 1) := by
  have hlen : ((l.drop a).take (b - a)).length = b - a := by rw [List.length_take, List.length_drop]; omega
  rcases s.it with ⟨rfl, h0, _⟩ | ⟨r, off, cap, row, rw, e, rfl, hr, hg, hl, hc, hcap⟩
  · have e1 : b = 0 := by omega
    have e2 : a = 0 := by omega
    subst e1 e2
    refine Or.inl ⟨⟨Or.inl ⟨rfl, rfl, rfl, rfl⟩⟩, ?_⟩
    have e3 : (l.drop 0).take (0 - 0) = [] := by simp
    rw [e3]
    exact ⟨Or.inl ⟨rfl, rfl, rfl⟩⟩
  · rw [Nat.mul_one] at hl hc
    have hsub := cells_sub (a := a) hc hbl
    have full : ∀ cap', (b - a ≤ capD (b - a) cap') → BytesI H (.slice r (off + a) (b - a) cap' 1) ((l.drop a).take (b - a)) := by
      intro cap' hc'
      unfold BytesI
      rw [hlen]
      exact ⟨Or.inr ⟨r, off + a, cap', row, rw, e, rfl, hr, hg, by omega, by rw [Nat.mul_one]; exact hsub, hc'⟩⟩
    have none0 : a = b → ∀ cap', BytesI H (.slice r off (b - a) cap' 1) ((l.drop a).take (b - a)) := by
      intro hE cap'
      subst hE
      have e3 : (l.drop a).take (a - a) = [] := by simp
      rw [e3, Nat.sub_self]
      exact ⟨Or.inr ⟨r, off, cap', row, rw, e, rfl, hr, hg, by simp; omega, by simp [cellsB], Nat.zero_le _⟩⟩
    cases cap with
    | some c =>
      simp only [capD] at hcap
      by_cases hca : c = a
      · have hE : a = b := by omega
        refine Or.inl ?_
        simp only [slcV, if_pos hca]
        exact ⟨⟨Or.inl ⟨by omega, by rw [hE, Nat.sub_self]; rfl, rfl, rfl⟩⟩, none0 hE _⟩
      · refine Or.inl ?_
        simp only [slcV, if_neg hca]
        exact ⟨⟨Or.inr ⟨r, off, l.length, some c, some (c - a), rfl, rfl, by omega⟩⟩, full _ (by simp only [capD]; omega)⟩
    | none =>
      by_cases hcd : a < b ∨ a = 0
      · refine Or.inl ?_
        simp only [slcV, if_pos hcd]
        exact ⟨⟨Or.inr ⟨r, off, l.length, none, none, rfl, rfl, by omega⟩⟩, full _ (Nat.le_refl _)⟩
      · exact Or.inr ⟨by omega, r, off, by simp only [slcV, if_neg hcd]⟩
theorem Fo.slc {x : ROpd} {lo hi : Option ROpd} {p : AVal} {l : List UInt8} {a b : Nat} (hx : x.ev fr = p) (hlo : bnd (lo.map (·.ev fr)) 0 a) (hhi : bnd (hi.map (·.ev fr)) l.length b) (hab : a ≤ b) (hbl : b ≤ l.length) [s : BytesI H p l]
    (h : ∀ v H1, Part p v a (b - a) → BytesI H1 v ((l.drop a).take (b - a)) → ExtI H H1 → WpO call os (upd fr d v) H1 KF) : WpO call (⟨some d, .sliceS 1 x lo hi none, none⟩ :: os) fr H KF := by
  obtain ⟨v, H1, h1, h2, h3, h4⟩ := exec_slc (call := call) hx hlo hhi hab hbl (s := s)
  exact WpO.step rfl ⟨v, H1, h1, h v H1 h2 h3 ⟨h4⟩⟩
end
/-- A row of an image. -/
def rowL (l : List UInt8) (a y : Nat) : List UInt8 := (l.drop (y * a)).take a
theorem row_le {a b y : Nat} (hy : y < b) : y * a + a ≤ a * b := by
  have : (y + 1) * a ≤ b * a := Nat.mul_le_mul_right _ hy
  rw [Nat.add_mul, Nat.one_mul] at this
  rw [Nat.mul_comm a b]; exact this
theorem rowL_length {l : List UInt8} {a b y : Nat} (hl : l.length = a * b) (hy : y < b) : (rowL l a y).length = a := by
  have := row_le (a := a) hy
  rw [rowL, List.length_take, List.length_drop]; omega
end Go.Am

set_option maxHeartbeats 4000000
set_option maxRecDepth 100000
namespace Go.Am
open Go
attribute [local irreducible] Wp WpO WpX WpE

theorem K_line {a b y : Nat} {p : AVal} {H : AHeap} {l : List UInt8} [hp : BytesI H p l] (hl : l.length = a * b) (hy : y < b) (hm : a * b ≤ 640 * 640) (hb : b ≤ 640) : Con ext prog 1 118 [.agg [.int .i64 a, .int .i64 b, p], .int .i64 y] H fun v H' => Part p v (y * a) a ∧ BytesI H' v (rowL l a y) ∧ Ext H H' := by
 refine con_of (show prog 118 = some c118 from rfl) rfl rfl fun n hn => ?_
 haveI := hp.one
 have hr := row_le (a := a) hy
 have e1 : (y + 1) * a = y * a + a := by rw [Nat.add_mul, Nat.one_mul]
 have h3 : IntKind.i64.wrap ((y : Int) * (a : Int)) = ((y * a : Nat) : Int) := wm (by omega)
 have h4 := wa1 (a := y) (by omega)
 have h5 : IntKind.i64.wrap (((y + 1 : Nat) : Int) * (a : Int)) = ((y * a + a : Nat) : Int) := by rw [← e1]; exact wm (by omega)
 try simp only [↓nrmL, nrmZ, Nat.reduceEqDiff, ↓reduceIte, Nat.reduceAdd, Int.reduceBEq, Int.reduceBNe, h3, h4, h5]
 refine sq ?_
 refine rg fun KF hKF => ?_
 refine Fo.boxA rfl ?_
 refine mN rfl ?_
 refine WpO.nil (hKF _ _ ?_)
 refine sq ?_
 refine rg fun KF hKF => ?_
 refine Fo.fa rfl ?_
 refine Fo.ld rfl rfl ?_
 refine mI rfl ?_
 refine Fo.fa rfl ?_
 refine Fo.ld rfl rfl ?_
 refine Fo.bin rfl rfl rfl (by simp only [↓nrmL, nrmZ, Nat.reduceEqDiff, ↓reduceIte, Nat.reduceAdd, Int.reduceBEq, Int.reduceBNe, h3, h4, h5]; rfl) ?_
 refine mI rfl ?_
 refine Fo.bin rfl rfl rfl (by simp only [↓nrmL, nrmZ, Nat.reduceEqDiff, ↓reduceIte, Nat.reduceAdd, Int.reduceBEq, Int.reduceBNe, h3, h4, h5]; rfl) ?_
 refine Fo.fa rfl ?_
 refine Fo.ld rfl rfl ?_
 refine Fo.bin rfl rfl rfl (by simp only [↓nrmL, nrmZ, Nat.reduceEqDiff, ↓reduceIte, Nat.reduceAdd, Int.reduceBEq, Int.reduceBNe, h3, h4, h5]; rfl) ?_
 refine Fo.slc (p := p) (l := l) (a := y * a) (b := y * a + a) rfl (Or.inr ⟨_, rfl⟩) (Or.inr ⟨_, rfl⟩) (by omega) (by omega) fun v H1 h6 h7 hx => ?_
 rw [Nat.add_sub_cancel_left] at h6 h7
 haveI := h6.one
 refine Fo.mov (by simp only [↓nrmL, nrmK, Nat.reduceEqDiff, ↓reduceIte]; rfl) ?_
 refine WpO.nil (hKF _ _ ?_)
 refine Wp.ret ?_
 dsimp only [cond_true, cond_false]
 refine ⟨trivial, _, (by first | rfl | exact getAllC rfl rfl rfl rfl | exact getAllT rfl (getAllC rfl rfl rfl rfl) | exact getAllC rfl rfl rfl (getAllC rfl rfl rfl rfl) | exact getAllC1 rfl rfl rfl), ?_⟩
 exact ⟨h6, h7, Ext0.ext⟩

/-- A part of a list turned round. -/
def revAt (l : List UInt8) (s n : Nat) : List UInt8 := (List.range l.length).map fun t => if s ≤ t ∧ t < s + n then l.getD (s + (n - 1 - (t - s))) 0 else l.getD t 0
def revP (l : List UInt8) (s n i : Nat) : List UInt8 := (List.range l.length).map fun t => if s ≤ t ∧ t < s + n ∧ (t - s < i ∨ n - 1 - (t - s) < i) then l.getD (s + (n - 1 - (t - s))) 0 else l.getD t 0
theorem revAt_length (l : List UInt8) (s n : Nat) : (revAt l s n).length = l.length := by simp [revAt]
theorem revP_length (l : List UInt8) (s n i : Nat) : (revP l s n i).length = l.length := by simp [revP]
theorem getD_map {f : Nat → UInt8} {n i : Nat} (h : i < n) : ((List.range n).map f).getD i 0 = f i := by simp [h]
theorem get_map {f : Nat → UInt8} {n i : Nat} (h : i < ((List.range n).map f).length) : ((List.range n).map f)[i] = f i := by simp
theorem list_eq {l m : List UInt8} (hl : l.length = m.length) (h : ∀ t, t < l.length → l.getD t 0 = m.getD t 0) : l = m := by
 apply List.ext_getElem hl
 intro i h1 h2
 have := h i h1
 simpa [h1, h2] using this
theorem revP_zero (l : List UInt8) (s n : Nat) : revP l s n 0 = l := by
 refine list_eq (revP_length _ _ _ _) fun t ht => ?_
 rw [revP_length] at ht
 rw [revP, getD_map ht, if_neg (by omega)]
theorem revP_get {l : List UInt8} {s n i t : Nat} (ht : t < l.length) (h : ¬ (s ≤ t ∧ t < s + n ∧ (t - s < i ∨ n - 1 - (t - s) < i))) : (revP l s n i)[t]'(by rw [revP_length]; exact ht) = l[t] := by
 simp only [revP]
 rw [get_map, if_neg h]
 simp [ht]
theorem revP_succ {l : List UInt8} {s n i : Nat} (hs : s + n ≤ l.length) (hi : i < n - 1 - i) : ((revP l s n i).set (s + i) (l[s + (n - 1 - i)]'(by omega))).set (s + (n - 1 - i)) (l[s + i]'(by omega)) = revP l s n (i + 1) := by
 have g1 : l.getD (s + (n - 1 - i)) 0 = l[s + (n - 1 - i)]'(by omega) := by simp [show s + (n - 1 - i) < l.length by omega]
 have g2 : l.getD (s + i) 0 = l[s + i]'(by omega) := by simp [show s + i < l.length by omega]
 rw [← g1, ← g2]
 refine list_eq (by simp [revP_length]) fun t ht => ?_
 simp only [List.length_set, revP_length] at ht
 rw [List.getD_eq_getElem?_getD, List.getElem?_set, List.getElem?_set]
 simp only [List.length_set, revP_length]
 rw [revP, revP, getD_map ht]
 by_cases h1 : s + (n - 1 - i) = t
 ·subst h1
  rw [if_pos rfl, if_pos ht, Option.getD_some, if_pos (by omega)]
  congr 1; omega
 ·rw [if_neg h1]
  by_cases h2 : s + i = t
  ·subst h2
   rw [if_pos rfl, if_pos ht, Option.getD_some, if_pos (by omega)]
   congr 1; omega
  ·rw [if_neg h2, ← List.getD_eq_getElem?_getD, getD_map ht]
   by_cases h3 : s ≤ t ∧ t < s + n ∧ (t - s < i ∨ n - 1 - (t - s) < i)
   ·rw [if_pos h3, if_pos (by omega)]
   ·rw [if_neg h3, if_neg (by omega)]
theorem revP_end {l : List UInt8} {s n i : Nat} (hi : n ≤ 2 * i + 1) : revP l s n i = revAt l s n := by
 refine list_eq (by rw [revP_length, revAt_length]) fun t ht => ?_
 rw [revP_length] at ht
 rw [revP, revAt, getD_map ht, getD_map ht]
 by_cases h3 : s ≤ t ∧ t < s + n ∧ (t - s < i ∨ n - 1 - (t - s) < i)
 ·rw [if_pos h3, if_pos (by omega)]
 ·rw [if_neg h3]
  by_cases h4 : s ≤ t ∧ t < s + n
  ·rw [if_pos h4]
   congr 1; omega
  ·rw [if_neg h4]

theorem K_Reverse {v p : AVal} {H : AHeap} {l : List UInt8} {s n : Nat} [hp : BytesI H p l] [hw : WrS H p] [hv : Part p v s n] (hs : s + n ≤ l.length) (hl : l.length ≤ 999999) : Con ext prog 1 126 [v] H fun _ H' => BytesI H' p (revAt l s n) ∧ WrS H' p ∧ ExtP H H' p := by
 refine con_of (show prog 126 = some c126 from rfl) rfl rfl fun nn hn => ?_
 haveI := hv.one
 have hsub : IntKind.i64.wrap ((n : Int) - 1) = (n : Int) - 1 := w64 (by omega)
 by_cases hn0 : n = 0
 ·subst hn0
  try simp only [↓nrmL, nrmZ, Nat.reduceEqDiff, ↓reduceIte, Nat.reduceAdd, Int.reduceBEq, Int.reduceBNe, hsub]
  refine sq ?_
  refine rg fun KF hKF => ?_
  refine Fo.mov (by simp only [↓nrmL, nrmK, Nat.reduceEqDiff, ↓reduceIte]; rfl) ?_
  refine Fo.lenV (u := ?_) (by simp only [↓nrmL, nrmK, Nat.reduceEqDiff, ↓reduceIte]; rfl) ?hv ?_; case hv => rfl
  refine Fo.bin rfl rfl rfl (by simp only [↓nrmL, nrmZ, Nat.reduceEqDiff, ↓reduceIte, Nat.reduceAdd, Int.reduceBEq, Int.reduceBNe, hsub]; rfl) ?_
  refine mI rfl ?_
  refine mI rfl ?_
  refine WpO.nil (hKF _ _ ?_)
  refine Wp.block ?_
  dsimp only [cond_true, cond_false]
  refine Wp.loopS [2, 3, 7, 8, 9, 10, 11, 12, 13, 14, 15, 16, 17, 18, 19, 20, 21, 22, 23, 24, 25, 26, 27] (fun _ : Unit => [(2, .int .i64 0), (3, .int .i64 (((0 : Nat) : Int) - 1))]) (fun H3 _ H2 => H2 = H3) (fun _ => 0) () rfl (fun _ => rfl) ⟨rfl, rfl, trivial⟩ rfl (by unfold fuel0 at hn; omega) ?_
  rintro _ g H2 rfl
  simp only [↓nrmL, nrmZ, Nat.reduceEqDiff, ↓reduceIte, Nat.reduceAdd, Int.reduceBEq, Int.reduceBNe]
  have hc : decide ((0 : Int) < ((0 : Nat) : Int) - 1) = false := rfl
  try simp only [↓nrmL, nrmZ, Nat.reduceEqDiff, ↓reduceIte, Nat.reduceAdd, Int.reduceBEq, Int.reduceBNe, hc]
  refine sq ?_
  refine sq ?_
  refine rg fun KF hKF => ?_
  refine mI rfl ?_
  refine mI rfl ?_
  refine Fo.bin rfl rfl rfl (by simp only [↓nrmL, nrmZ, Nat.reduceEqDiff, ↓reduceIte, Nat.reduceAdd, Int.reduceBEq, Int.reduceBNe, hc]; rfl) ?_
  refine WpO.nil (hKF _ _ ?_)
  refine Wp.cond (b := false) rfl ?_
  refine Wp.exit ?_
  dsimp only [cond_true, cond_false]
  have e : revAt l s 0 = l := by rw [← revP_end (i := 0) (by omega), revP_zero]
  rw [e]
  exact ⟨trivial, _, rfl, hp, hw, ExtP.refl _ _⟩
 have hj0 : (n : Int) - 1 = ((n - 1 - 0 : Nat) : Int) := by omega
 try simp only [↓nrmL, nrmZ, Nat.reduceEqDiff, ↓reduceIte, Nat.reduceAdd, Int.reduceBEq, Int.reduceBNe, hsub]
 refine sq ?_
 refine rg fun KF hKF => ?_
 refine Fo.mov (by simp only [↓nrmL, nrmK, Nat.reduceEqDiff, ↓reduceIte]; rfl) ?_
 refine Fo.lenV (u := ?_) (by simp only [↓nrmL, nrmK, Nat.reduceEqDiff, ↓reduceIte]; rfl) ?hv ?_; case hv => rfl
 refine Fo.bin rfl rfl rfl (by simp only [↓nrmL, nrmZ, Nat.reduceEqDiff, ↓reduceIte, Nat.reduceAdd, Int.reduceBEq, Int.reduceBNe, hsub]; rfl) ?_
 refine mI rfl ?_
 refine mI rfl ?_
 refine WpO.nil (hKF _ _ ?_)
 refine Wp.block ?_
 dsimp only [cond_true, cond_false]
 refine Wp.loopS [2, 3, 7, 8, 9, 10, 11, 12, 13, 14, 15, 16, 17, 18, 19, 20, 21, 22, 23, 24, 25, 26, 27] (fun i : Nat => [(2, .int .i64 i), (3, .int .i64 ((n - 1 - i : Nat) : Int))]) (fun H3 i H2 => 2 * i ≤ n ∧ BytesI H2 p (revP l s n i) ∧ WrS H2 p ∧ ExtP0 H3 H2 p) (fun i => n - i) 0 rfl (fun _ => rfl) ⟨rfl, by rw [← hj0]; rfl, trivial⟩ ⟨by omega, by rw [revP_zero]; infer_instance, inferInstance, inferInstance⟩ (by unfold fuel0 at hn; omega) ?_
 rintro i g H2 ⟨hi, hb2, hw2, ⟨hx2⟩⟩
 simp only [↓nrmL, nrmZ, Nat.reduceEqDiff, ↓reduceIte, Nat.reduceAdd, Int.reduceBEq, Int.reduceBNe]
 cases hc : decide ((i : Int) < ((n - 1 - i : Nat) : Int))
 ·have hij : ¬ (i < n - 1 - i) := by have := of_decide_eq_false hc; omega
  try simp only [↓nrmL, nrmZ, Nat.reduceEqDiff, ↓reduceIte, Nat.reduceAdd, Int.reduceBEq, Int.reduceBNe, hc]
  refine sq ?_
  refine sq ?_
  refine rg fun KF hKF => ?_
  refine mI rfl ?_
  refine mI rfl ?_
  refine Fo.bin rfl rfl rfl (by simp only [↓nrmL, nrmZ, Nat.reduceEqDiff, ↓reduceIte, Nat.reduceAdd, Int.reduceBEq, Int.reduceBNe, hc]; rfl) ?_
  refine WpO.nil (hKF _ _ ?_)
  refine Wp.cond (b := false) rfl ?_
  refine Wp.exit ?_
  dsimp only [cond_true, cond_false]
  rw [revP_end (by omega)] at hb2
  exact ⟨trivial, _, rfl, hb2, hw2, (inferInstance : ExtP0 H H2 p).ext⟩
 ·have hij : i < n - 1 - i := by have := of_decide_eq_true hc; omega
  have hw1 := wa1 (a := i) (by omega)
  have hw2' : IntKind.i64.wrap (((n - 1 - i : Nat) : Int) - 1) = ((n - 1 - (i + 1) : Nat) : Int) := by rw [w64 (by omega)]; omega
  have hfl := revP_length l s n i
  have hr1 := revP_get (l := l) (s := s) (n := n) (i := i) (t := s + (n - 1 - i)) (by omega) (by omega)
  have hr2 := revP_get (l := l) (s := s) (n := n) (i := i) (t := s + i) (by omega) (by omega)
  try simp only [↓nrmL, nrmZ, Nat.reduceEqDiff, ↓reduceIte, Nat.reduceAdd, Int.reduceBEq, Int.reduceBNe, hc]
  refine sq ?_
  refine sq ?_
  refine rg fun KF hKF => ?_
  refine mI rfl ?_
  refine mI rfl ?_
  refine Fo.bin rfl rfl rfl (by simp only [↓nrmL, nrmZ, Nat.reduceEqDiff, ↓reduceIte, Nat.reduceAdd, Int.reduceBEq, Int.reduceBNe, hc]; rfl) ?_
  refine WpO.nil (hKF _ _ ?_)
  refine Wp.cond (b := true) rfl ?_
  refine Wp.skip ?_
  refine sq ?_
  refine Wp.block ?_
  dsimp only [cond_true, cond_false]
  refine Fr.dregion0 rfl fun KF hKF => ?_
  try simp only [↓nrmL, nrmZ, Nat.reduceEqDiff, ↓reduceIte, Nat.reduceAdd, Int.reduceBEq, Int.reduceBNe, hr1, hr2]
  refine Fe.pure rfl rfl (by simp only [↓nrmL, nrmZ, Nat.reduceEqDiff, ↓reduceIte, Nat.reduceAdd, Int.reduceBEq, Int.reduceBNe, hr1, hr2]; rfl) ?_
  refine Fe.pure rfl rfl (by simp only [↓nrmL, nrmZ, Nat.reduceEqDiff, ↓reduceIte, Nat.reduceAdd, Int.reduceBEq, Int.reduceBNe, hr1, hr2]; rfl) ?_
  refine Fe.pure rfl rfl (by simp only [↓nrmL, nrmZ, Nat.reduceEqDiff, ↓reduceIte, Nat.reduceAdd, Int.reduceBEq, Int.reduceBNe, hr1, hr2]; rfl) ?_
  refine Fe.pure rfl rfl (by simp only [↓nrmL, nrmZ, Nat.reduceEqDiff, ↓reduceIte, Nat.reduceAdd, Int.reduceBEq, Int.reduceBNe, hr1, hr2]; rfl) ?_
  refine Fe.pure rfl rfl (by simp only [↓nrmL, nrmZ, Nat.reduceEqDiff, ↓reduceIte, Nat.reduceAdd, Int.reduceBEq, Int.reduceBNe, hr1, hr2]; rfl) ?_
  refine Fe.pure rfl rfl (by simp only [↓nrmL, nrmZ, Nat.reduceEqDiff, ↓reduceIte, Nat.reduceAdd, Int.reduceBEq, Int.reduceBNe, hr1, hr2]; rfl) ?_
  refine Fe.pure rfl (exec_idxV (by (try simp only [↓nrmL, nrmZ, Nat.reduceEqDiff, ↓reduceIte, Nat.reduceAdd, Int.reduceBEq, Int.reduceBNe, hr1, hr2]); rfl) rfl ?_) (by simp only [↓nrmL, nrmZ, Nat.reduceEqDiff, ↓reduceIte, Nat.reduceAdd, Int.reduceBEq, Int.reduceBNe, hr1, hr2]; rfl) ?_; (focus omega)
  refine Fe.read rfl (exec_ldB rfl (by omega)) (by simp only [↓nrmL, nrmZ, Nat.reduceEqDiff, ↓reduceIte, Nat.reduceAdd, Int.reduceBEq, Int.reduceBNe, hr1, hr2]; rfl) (by repeat (first | exact trivial | refine ⟨(by first | exact Or.inl (by dsimp only; decide) | exact Or.inr (exec_ld rfl rfl) | exact Or.inr (exec_ldN rfl rfl rfl) | exact Or.inr (exec_ldB rfl (by omega)) | exact Or.inr (exec_ldI rfl (by omega)) | exact Or.inr ghost_of), ?_⟩)) ?_
  refine Fe.pure rfl rfl (by simp only [↓nrmL, nrmZ, Nat.reduceEqDiff, ↓reduceIte, Nat.reduceAdd, Int.reduceBEq, Int.reduceBNe, hr1, hr2]; rfl) ?_
  refine Fe.pure rfl rfl (by simp only [↓nrmL, nrmZ, Nat.reduceEqDiff, ↓reduceIte, Nat.reduceAdd, Int.reduceBEq, Int.reduceBNe, hr1, hr2]; rfl) ?_
  refine Fe.pure rfl (exec_idxV (by (try simp only [↓nrmL, nrmZ, Nat.reduceEqDiff, ↓reduceIte, Nat.reduceAdd, Int.reduceBEq, Int.reduceBNe, hr1, hr2]); rfl) rfl ?_) (by simp only [↓nrmL, nrmZ, Nat.reduceEqDiff, ↓reduceIte, Nat.reduceAdd, Int.reduceBEq, Int.reduceBNe, hr1, hr2]; rfl) ?_; (focus omega)
  refine Fe.read rfl (exec_ldB rfl (by omega)) (by simp only [↓nrmL, nrmZ, Nat.reduceEqDiff, ↓reduceIte, Nat.reduceAdd, Int.reduceBEq, Int.reduceBNe, hr1, hr2]; rfl) (by repeat (first | exact trivial | refine ⟨(by first | exact Or.inl (by dsimp only; decide) | exact Or.inr (exec_ld rfl rfl) | exact Or.inr (exec_ldN rfl rfl rfl) | exact Or.inr (exec_ldB rfl (by omega)) | exact Or.inr (exec_ldI rfl (by omega)) | exact Or.inr ghost_of), ?_⟩)) ?_
  refine Fe.pure rfl (exec_idxV (by (try simp only [↓nrmL, nrmZ, Nat.reduceEqDiff, ↓reduceIte, Nat.reduceAdd, Int.reduceBEq, Int.reduceBNe, hr1, hr2]); rfl) rfl ?_) (by simp only [↓nrmL, nrmZ, Nat.reduceEqDiff, ↓reduceIte, Nat.reduceAdd, Int.reduceBEq, Int.reduceBNe, hr1, hr2]; rfl) ?_; (focus omega)
  refine WpE.stB (l[s + (n - 1 - i)]'(by omega)) rfl rfl rfl rfl (by rw [hfl]; omega) fun H4 hb4 hw4 hx4 => ⟨(by repeat (first | exact trivial | refine ⟨(by first | exact Or.inl (by dsimp only; decide) | exact Or.inr (readOk_of (exec_ld rfl rfl)) | exact Or.inr (readOk_of (exec_ldN rfl rfl rfl)) | exact Or.inr (readOk_of (exec_ldB rfl (by omega))) | exact Or.inr (readOk_of (exec_ldI rfl (by omega))) | exact Or.inr (made_of rfl)), ?_⟩)), ?_⟩
  refine Fe.pure rfl (exec_idxV (by (try simp only [↓nrmL, nrmZ, Nat.reduceEqDiff, ↓reduceIte, Nat.reduceAdd, Int.reduceBEq, Int.reduceBNe]); rfl) rfl ?_) (by simp only [↓nrmL, nrmZ, Nat.reduceEqDiff, ↓reduceIte, Nat.reduceAdd, Int.reduceBEq, Int.reduceBNe]; rfl) ?_; (focus omega)
  refine WpE.stB (l[s + i]'(by omega)) rfl rfl rfl rfl (by rw [List.length_set, hfl]; omega) fun H5 hb5 hw5 hx5 => ⟨(by repeat (first | exact trivial | refine ⟨(by first | exact Or.inl (by dsimp only; decide) | exact Or.inr (readOk_of (exec_ld rfl rfl)) | exact Or.inr (readOk_of (exec_ldN rfl rfl rfl)) | exact Or.inr (readOk_of (exec_ldB rfl (by omega))) | exact Or.inr (readOk_of (exec_ldI rfl (by omega))) | exact Or.inr (made_of rfl)), ?_⟩)), ?_⟩
  refine WpE.nil (hKF _ _ ?_)
  refine rg fun KF hKF => ?_
  refine mI rfl ?_
  refine Fo.bin rfl rfl rfl rfl ?_
  refine mI rfl ?_
  refine Fo.bin rfl rfl rfl rfl ?_
  refine mI rfl ?_
  refine mI rfl ?_
  refine WpO.nil (hKF _ _ ?_)
  dsimp only [cond_true, cond_false]
  refine ⟨i + 1, by omega, ⟨by simp only [↓nrmL, nrmZ, Nat.reduceEqDiff, ↓reduceIte, Nat.reduceAdd, Int.reduceBEq, Int.reduceBNe]; rw [hw1], by simp only [↓nrmL, nrmZ, Nat.reduceEqDiff, ↓reduceIte, Nat.reduceAdd, Int.reduceBEq, Int.reduceBNe]; rw [hw2'], trivial⟩, by omega, by rw [← revP_succ hs hij]; exact hb5, hw5, inferInstance⟩
end Go.Am

set_option maxHeartbeats 4000000
set_option maxRecDepth 100000
namespace Go.Am
open Go
attribute [local irreducible] Wp WpO WpX WpE

theorem row_iff {a t y : Nat} (ha : 0 < a) : t / a = y ↔ y * a ≤ t ∧ t < y * a + a := by
 have h1 := Nat.div_add_mod t a
 have h2 := Nat.mod_lt t ha
 constructor
 ·rintro rfl
  rw [Nat.mul_comm] at h1
  omega
 ·rintro ⟨h3, h4⟩
  have h5 : t / a < y + 1 := by
   apply Nat.lt_of_mul_lt_mul_right (a := a)
   rw [Nat.add_mul, Nat.one_mul]
   rw [Nat.mul_comm] at h1
   omega
  have h6 : y < t / a + 1 := by
   apply Nat.lt_of_mul_lt_mul_right (a := a)
   rw [Nat.add_mul, Nat.one_mul]
   rw [Nat.mul_comm] at h1
   omega
  omega
theorem row_mod {a t : Nat} : t = t / a * a + t % a := by
 have h1 := Nat.div_add_mod t a
 rw [Nat.mul_comm] at h1
 omega
theorem row_at {a x y : Nat} (hx : x < a) : (y * a + x) / a = y ∧ (y * a + x) % a = x := by
 have h1 : (y * a + x) / a = y := (row_iff (by omega)).2 ⟨by omega, by omega⟩
 have h2 := row_mod (a := a) (t := y * a + x)
 rw [h1] at h2
 exact ⟨h1, by omega⟩
theorem div_lt' {a b t : Nat} (h : t < a * b) : t / a < b := Nat.div_lt_of_lt_mul h

def mirP (l : List UInt8) (a y : Nat) : List UInt8 := (List.range l.length).map fun t => if t / a < y then l.getD (t / a * a + (a - 1 - t % a)) 0 else l.getD t 0
/-- Left and right exchanged. -/
def mirrorL (l : List UInt8) (a : Nat) : List UInt8 := (List.range l.length).map fun t => l.getD (t / a * a + (a - 1 - t % a)) 0
theorem mirP_length (l : List UInt8) (a y : Nat) : (mirP l a y).length = l.length := by simp [mirP]
theorem mirrorL_length (l : List UInt8) (a : Nat) : (mirrorL l a).length = l.length := by simp [mirrorL]
theorem mirP_zero (l : List UInt8) (a : Nat) : mirP l a 0 = l := by
 refine list_eq (mirP_length _ _ _) fun t ht => ?_
 rw [mirP_length] at ht
 have hz := Nat.zero_le (t / a)
 rw [mirP, getD_map ht, if_neg (by omega)]
theorem mirP_all {l : List UInt8} {a b : Nat} (hl : l.length = a * b) : mirP l a b = mirrorL l a := by
 refine list_eq (by rw [mirP_length, mirrorL_length]) fun t ht => ?_
 rw [mirP_length] at ht
 rw [mirP, mirrorL, getD_map ht, getD_map ht, if_pos (div_lt' (by omega))]
theorem mirP_succ {l : List UInt8} {a b y : Nat} (hl : l.length = a * b) (hy : y < b) : revAt (mirP l a y) (y * a) a = mirP l a (y + 1) := by
 refine list_eq (by rw [revAt_length, mirP_length, mirP_length]) fun t ht => ?_
 rw [revAt_length, mirP_length] at ht
 have ha : 0 < a := by
  rcases Nat.eq_zero_or_pos a with h | h
  ·subst h; rw [hl, Nat.zero_mul] at ht; omega
  ·exact h
 have hr := row_le (a := a) hy
 rw [revAt, getD_map (by rw [mirP_length]; exact ht)]
 have hri := row_iff (t := t) (y := y) ha
 by_cases h1 : y * a ≤ t ∧ t < y * a + a
 ·rw [if_pos h1]
  have h2 := hri.2 h1
  have h3 := row_mod (a := a) (t := t)
  rw [h2] at h3
  have h4 : y * a + (a - 1 - (t - y * a)) < l.length := by omega
  have h5 : (y * a + (a - 1 - (t - y * a))) / a = y := (row_iff ha).2 (by omega)
  rw [mirP, mirP, getD_map h4, getD_map ht, h5, if_neg (by omega), h2, if_pos (by omega)]
  congr 1; omega
 ·rw [if_neg h1, mirP, mirP, getD_map ht, getD_map ht]
  have h2 : t / a ≠ y := fun e => h1 (hri.1 e)
  by_cases h3 : t / a < y
  ·rw [if_pos h3, if_pos (by omega)]
  ·rw [if_neg h3, if_neg (by omega)]

/-- Some of the places of a list of zeros have been filled. -/
def fillP (P : Nat → Bool) (f : Nat → UInt8) (n : Nat) : List UInt8 := (List.range n).map fun k => if P k = true then f k else 0
theorem fillP_length (P : Nat → Bool) (f : Nat → UInt8) (n : Nat) : (fillP P f n).length = n := by simp [fillP]
theorem fillP_congr {P Q : Nat → Bool} {f : Nat → UInt8} {n : Nat} (h : ∀ k, k < n → (Q k = true ↔ P k = true)) : fillP P f n = fillP Q f n := by
 refine list_eq (by rw [fillP_length, fillP_length]) fun t ht => ?_
 rw [fillP_length] at ht
 rw [fillP, fillP, getD_map ht, getD_map ht]
 have := h t ht
 by_cases h1 : P t = true
 ·rw [if_pos h1, if_pos (this.2 h1)]
 ·rw [if_neg h1, if_neg (fun q => h1 (this.1 q))]
theorem fillP_none {P : Nat → Bool} {f : Nat → UInt8} {n : Nat} (h : ∀ k, k < n → P k = false) : fillP P f n = List.replicate n 0 := by
 refine list_eq (by rw [fillP_length, List.length_replicate]) fun t ht => ?_
 rw [fillP_length] at ht
 rw [fillP, getD_map ht, h t ht]
 simp [ht]
theorem fillP_all {P : Nat → Bool} {f : Nat → UInt8} {n : Nat} (h : ∀ k, k < n → P k = true) : fillP P f n = (List.range n).map f := by
 refine list_eq (by simp [fillP_length]) fun t ht => ?_
 rw [fillP_length] at ht
 rw [fillP, getD_map ht, getD_map ht, h t ht]
 rfl
theorem fillP_set {P Q : Nat → Bool} {f : Nat → UInt8} {n j : Nat} (h : ∀ k, k < n → (Q k = true ↔ P k = true ∨ k = j)) : (fillP P f n).set j (f j) = fillP Q f n := by
 refine list_eq (by rw [List.length_set, fillP_length, fillP_length]) fun t ht => ?_
 rw [List.length_set, fillP_length] at ht
 rw [List.getD_eq_getElem?_getD, List.getElem?_set, fillP_length, fillP, fillP, getD_map ht]
 have := h t ht
 by_cases h1 : j = t
 ·subst h1
  rw [if_pos rfl, if_pos ht, if_pos (this.2 (Or.inr rfl))]; rfl
 ·rw [if_neg h1, ← List.getD_eq_getElem?_getD, getD_map ht]
  by_cases h2 : P t = true
  ·rw [if_pos h2, if_pos (this.2 (Or.inl h2))]
  ·rw [if_neg h2, if_neg (fun q => by rcases this.1 q with q | q; exact h2 q; exact h1 q.symm)]
theorem fillP_skip {P Q : Nat → Bool} {f : Nat → UInt8} {n j : Nat} (h0 : f j = 0) (h : ∀ k, k < n → (Q k = true ↔ P k = true ∨ k = j)) : fillP P f n = fillP Q f n := by
 rw [← fillP_set h, h0]
 refine list_eq (by rw [List.length_set]) fun t ht => ?_
 rw [List.getD_eq_getElem?_getD (l := List.set _ _ _), List.getElem?_set]
 by_cases h1 : j = t
 ·subst h1
  rw [if_pos rfl, if_pos ht, Option.getD_some]
  rw [fillP_length] at ht
  rw [fillP, getD_map ht, h0]
  split <;> rfl
 ·rw [if_neg h1, ← List.getD_eq_getElem?_getD]

/-- An image turned by a right angle. -/
def clockL (l : List UInt8) (a b : Nat) : List UInt8 := (List.range (b * a)).map fun k => l.getD ((b - 1 - k % b) * a + k / b) 0
theorem clockL_length (l : List UInt8) (a b : Nat) : (clockL l a b).length = b * a := by simp [clockL]
def clkP (b y x k : Nat) : Bool := decide (b - 1 - k % b < y ∨ (b - 1 - k % b = y ∧ k / b < x))
theorem clk_iff {b x y k : Nat} (hy : y < b) : k = x * b + b - 1 - y ↔ k / b = x ∧ b - 1 - k % b = y := by
 have h1 := row_mod (a := b) (t := k)
 have h2 := Nat.mod_lt k (show 0 < b by omega)
 constructor
 ·intro h
  have h3 := row_at (a := b) (x := b - 1 - y) (y := x) (by omega)
  have h4 : k = x * b + (b - 1 - y) := by omega
  rw [h4, h3.1, h3.2]
  exact ⟨rfl, by omega⟩
 ·rintro ⟨rfl, h3⟩
  omega
theorem clkP_zero (b k : Nat) : clkP b 0 0 k = false := by
 unfold clkP
 have hz := Nat.zero_le (k / b)
 exact decide_eq_false (by omega)
theorem clkP_next {b x y k : Nat} (hy : y < b) : clkP b y (x + 1) k = true ↔ clkP b y x k = true ∨ k = x * b + b - 1 - y := by
 rw [clk_iff hy]
 unfold clkP
 simp only [decide_eq_true_eq]
 omega
theorem clkP_row {a b y k : Nat} (hk : k < b * a) : clkP b (y + 1) 0 k = true ↔ clkP b y a k = true := by
 have h1 := div_lt' hk
 have hz := Nat.zero_le (k / b)
 unfold clkP
 simp only [decide_eq_true_eq]
 omega
theorem clkP_all {a b k : Nat} (hk : k < b * a) : clkP b b 0 k = true := by
 have hb : 0 < b := by
  rcases Nat.eq_zero_or_pos b with h | h
  ·subst h; rw [Nat.zero_mul] at hk; omega
  ·exact h
 unfold clkP
 exact decide_eq_true (by omega)

theorem getD01 {l : List UInt8} (h : pxOk l = true) (i : Nat) : l.getD i 0 = 0 ∨ l.getD i 0 = 1 := by
 by_cases hi : i < l.length
 ·exact px_get h hi
 ·left; rw [List.getD_eq_getElem?_getD, List.getElem?_eq_none (by omega)]; rfl
theorem ok_map_range {f : Nat → UInt8} {n : Nat} (h : ∀ k, f k = 0 ∨ f k = 1) : pxOk ((List.range n).map f) = true := by
 unfold pxOk
 rw [List.all_eq_true]
 intro x hx
 obtain ⟨k, _, rfl⟩ := List.mem_map.1 hx
 rcases h k with h1 | h1 <;> rw [h1] <;> rfl
theorem ok_mirror {a b : Nat} {l : List UInt8} (h : Ok a b l) : Ok a b (mirrorL l a) := ⟨h.wa, h.hb, by rw [mirrorL_length, h.len], ok_map_range fun _ => getD01 h.px _⟩
theorem ok_clock {a b : Nat} {l : List UInt8} (h : Ok a b l) : Ok b a (clockL l a b) := ⟨h.hb, h.wa, clockL_length _ _ _, ok_map_range fun _ => getD01 h.px _⟩
abbrev Tri := Nat × Nat × List UInt8
def rotI : Nat → Tri → Tri
 | 0, g => g
 | k + 1, g => ((rotI k g).2.1, (rotI k g).1, clockL (rotI k g).2.2 (rotI k g).1 (rotI k g).2.1)
def turnI (way a b : Nat) (l : List UInt8) : Tri := rotI (way % 4) (a, b, if way < 4 then l else mirrorL l a)
def OkT (g : Tri) : Prop := Ok g.1 g.2.1 g.2.2
theorem ok_rot {g : Tri} (h : OkT g) (k : Nat) : OkT (rotI k g) := by
 induction k with
 | zero => exact h
 | succ k ih => exact ok_clock ih
theorem ok_turn {way a b : Nat} {l : List UInt8} (h : Ok a b l) : OkT (turnI way a b l) := by
 apply ok_rot
 show Ok a b _
 split
 ·exact h
 ·exact ok_mirror h
def toImg (g : Tri) : Img := ⟨g.1, g.2.1, g.2.2⟩
def turnSpec (g : Img) (way : Int) : Img × Int := bif g.err == 0 then (if way < 0 ∨ way > 7 then (.zero, 1) else (toImg (turnI way.toNat g.w.toNat g.h.toNat g.px), 0)) else (.zero, g.err)
theorem ok_of {w h : Int} {l : List UInt8} (h0 : (Img.err ⟨w, h, l⟩ == 0) = true) : ∃ a b : Nat, w = a ∧ h = b ∧ Ok a b l := by
 obtain ⟨h1, h2⟩ := Img.ok h0
 obtain ⟨a, b, e1, e2, e3, e4, e5⟩ := sized_nat h1
 exact ⟨a, b, e1, e2, e3, e4, e5, h2⟩
end Go.Am
