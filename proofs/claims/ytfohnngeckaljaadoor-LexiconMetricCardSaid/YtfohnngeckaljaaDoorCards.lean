/-
  DERIVED. GIVEN WITH THE SEED: THE CARDS: each row of YtfohnngeckaljaaDoorRows.lean that lists a variable, with what it lists TIED to the program's text (the seventh form; the later family's looks); each row that meets fmt, with fmt's text TOLD by the authors' own Lean function (tested against real Go, not proved from fmt's source: count such statements apart). THE CARD IS WHAT COUNTS. Prove the row's statement (the work); the ties are given (YtfohnngeckaljaaDoorTie.lean); close each card by the builder's one call (the guide's Derived/Test/ToyasCard.lean, 'card_holds'). Laid BY PROGRAM, IN A SANDBOX (cutbox-door.mjs). By AI agents, Wed Nov 11 2026. No macro, syntax, notation, axiom, sorry.
-/
import Derived.Test.YtfohnngeckaljaaDoorRows
import GoSem.ClaimSeven
namespace Go.Proofs.YtfohnngeckaljaaDoor
namespace Rows

/-- THE TIED CARD OF 'custoslaw11.LexiconMetric'. -/
def lexiconMetricCard : Claim7 := { stood := { row := lexiconMetricRow, standIns := [], harness := (true, "a4b2a94379a2a0093180ad25bb625abb8ebde7439eb029b97a8b6c2366220e69"), looks := false }, kinds := [], alts := [], laidByText := true, laidKinds := [.data, .data, .data], laidTests := true, laidLooks := .later }
def LexiconMetricCardSaid : Prop := Claim7.holds Tryd.pinned (.plain (OpenSpec.ofChange lexiconMetricSpec)) lexiconMetricCard

/-- THE SECOND FORM's CARD OF 'custoslaw11.LexiconMetric'. -/
def lexiconMetricUptoCard : Claim7 := { stood := { row := lexiconMetricUptoRow, standIns := [], harness := (true, "a4b2a94379a2a0093180ad25bb625abb8ebde7439eb029b97a8b6c2366220e69"), looks := false }, kinds := [], alts := [], laidByText := true, laidKinds := [.data, .data, .data], laidTests := true, laidLooks := .later }
def LexiconMetricUptoCardSaid : Prop := Claim7.holds Tryd.pinned (.plain (OpenSpec.upto lexiconMetricSpec)) lexiconMetricUptoCard
end Rows
end Go.Proofs.YtfohnngeckaljaaDoor
