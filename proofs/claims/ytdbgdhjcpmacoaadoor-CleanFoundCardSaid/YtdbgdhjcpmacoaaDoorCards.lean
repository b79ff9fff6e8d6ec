/-
  DERIVED. GIVEN WITH THE SEED: THE CARDS: each row of YtdbgdhjcpmacoaaDoorRows.lean that lists a variable, with what it lists TIED to the program's text (the seventh form; the later family's looks); each row that meets fmt, with fmt's text TOLD by the authors' own Lean function (tested against real Go, not proved from fmt's source: count such statements apart). THE CARD IS WHAT COUNTS. Prove the row's statement (the work); the ties are given (YtdbgdhjcpmacoaaDoorTie.lean); close each card by the builder's one call (the guide's Derived/Test/ToyasCard.lean, 'card_holds'). Laid BY PROGRAM, IN A SANDBOX (cutbox-door.mjs). By AI agents, Wed Nov 11 2026. No macro, syntax, notation, axiom, sorry.
-/
import Derived.Test.YtdbgdhjcpmacoaaDoorRows
import GoSem.ClaimSeven
namespace Go.Proofs.YtdbgdhjcpmacoaaDoor
namespace Rows

/-- THE TIED CARD OF 'custoslaw02.CleanRecipes'. -/
def cleanRecipesCard : Claim7 := { stood := { row := cleanRecipesRow, standIns := [], harness := (true, "ab33dcef463cc34982304174e18e1af273fb81b4c7417e1c27fdcfb39bd28158"), looks := false }, kinds := [], alts := [], laidByText := true, laidKinds := [.data], laidTests := true, laidLooks := .later }
def CleanRecipesCardSaid : Prop := Claim7.holds Tryd.pinned (.plain (OpenSpec.ofChange cleanRecipesSpec)) cleanRecipesCard

/-- THE TIED CARD OF 'custoslaw02.CleanFound'. -/
def cleanFoundCard : Claim7 := { stood := { row := cleanFoundRow, standIns := [], harness := (true, "ab33dcef463cc34982304174e18e1af273fb81b4c7417e1c27fdcfb39bd28158"), looks := false }, kinds := [], alts := [], laidByText := true, laidKinds := [.data], laidTests := true, laidLooks := .later }
def CleanFoundCardSaid : Prop := Claim7.holds Tryd.pinned (.plain (OpenSpec.ofChange cleanFoundSpec)) cleanFoundCard

/-- THE SECOND FORM's CARD OF 'custoslaw02.CleanRecipes'. -/
def cleanRecipesUptoCard : Claim7 := { stood := { row := cleanRecipesUptoRow, standIns := [], harness := (true, "ab33dcef463cc34982304174e18e1af273fb81b4c7417e1c27fdcfb39bd28158"), looks := false }, kinds := [], alts := [], laidByText := true, laidKinds := [.data], laidTests := true, laidLooks := .later }
def CleanRecipesUptoCardSaid : Prop := Claim7.holds Tryd.pinned (.plain (OpenSpec.upto cleanRecipesSpec)) cleanRecipesUptoCard

/-- THE SECOND FORM's CARD OF 'custoslaw02.CleanFound'. -/
def cleanFoundUptoCard : Claim7 := { stood := { row := cleanFoundUptoRow, standIns := [], harness := (true, "ab33dcef463cc34982304174e18e1af273fb81b4c7417e1c27fdcfb39bd28158"), looks := false }, kinds := [], alts := [], laidByText := true, laidKinds := [.data], laidTests := true, laidLooks := .later }
def CleanFoundUptoCardSaid : Prop := Claim7.holds Tryd.pinned (.plain (OpenSpec.upto cleanFoundSpec)) cleanFoundUptoCard
end Rows
end Go.Proofs.YtdbgdhjcpmacoaaDoor
