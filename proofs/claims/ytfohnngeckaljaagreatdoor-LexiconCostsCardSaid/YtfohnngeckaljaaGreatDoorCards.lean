/-
  DERIVED. GIVEN WITH THE SEED: THE CARDS: each row of YtfohnngeckaljaaGreatDoorRows.lean that lists a variable, with what it lists TIED to the program's text (the seventh form; the later family's looks); each row that meets fmt, with fmt's text TOLD by the authors' own Lean function (tested against real Go, not proved from fmt's source: count such statements apart). THE CARD IS WHAT COUNTS. Prove the row's statement (the work); the ties are given (YtfohnngeckaljaaGreatDoorTie.lean); close each card by the builder's one call (the guide's Derived/Test/ToyasCard.lean, 'card_holds'). Laid BY PROGRAM, IN A SANDBOX (cutbox-door.mjs). By AI agents, Wed Nov 11 2026. No macro, syntax, notation, axiom, sorry.
-/
import Derived.Test.YtfohnngeckaljaaGreatDoorRows
import GoSem.ClaimSeven
namespace Go.Proofs.YtfohnngeckaljaaGreatDoor
namespace Rows

/-- THE TIED CARD OF 'custoslaw11.LexiconWords'. -/
def lexiconWordsCard : Claim7 := { stood := { row := lexiconWordsRow, standIns := [], harness := (true, "f73b61fbb4a9a8c0c5c06c5fe0e880bb8aa00c0e117618e724013686f681c046"), looks := false }, kinds := [], alts := [], laidByText := true, laidKinds := [.data, .data, .data], laidTests := true, laidLooks := .later }
def LexiconWordsCardSaid : Prop := Claim7.holds Tryz.pinned (.plain (OpenSpec.ofChange lexiconWordsSpec)) lexiconWordsCard

/-- THE TIED CARD OF 'custoslaw11.LexiconCosts'. -/
def lexiconCostsCard : Claim7 := { stood := { row := lexiconCostsRow, standIns := [], harness := (true, "f73b61fbb4a9a8c0c5c06c5fe0e880bb8aa00c0e117618e724013686f681c046"), looks := false }, kinds := [], alts := [], laidByText := true, laidKinds := [.data, .data, .data], laidTests := true, laidLooks := .later }
def LexiconCostsCardSaid : Prop := Claim7.holds Tryz.pinned (.plain (OpenSpec.ofChange lexiconCostsSpec)) lexiconCostsCard

/-- THE TIED CARD OF 'custoslaw11.LexiconNears'. -/
def lexiconNearsCard : Claim7 := { stood := { row := lexiconNearsRow, standIns := [], harness := (true, "f73b61fbb4a9a8c0c5c06c5fe0e880bb8aa00c0e117618e724013686f681c046"), looks := false }, kinds := [], alts := [], laidByText := true, laidKinds := [.data, .data, .data], laidTests := true, laidLooks := .later }
def LexiconNearsCardSaid : Prop := Claim7.holds Tryz.pinned (.plain (OpenSpec.ofChange lexiconNearsSpec)) lexiconNearsCard

/-- THE TIED CARD OF 'custoslaw11.LexiconSpells'. -/
def lexiconSpellsCard : Claim7 := { stood := { row := lexiconSpellsRow, standIns := [], harness := (true, "f73b61fbb4a9a8c0c5c06c5fe0e880bb8aa00c0e117618e724013686f681c046"), looks := false }, kinds := [], alts := [], laidByText := true, laidKinds := [.data, .data, .data], laidTests := true, laidLooks := .later }
def LexiconSpellsCardSaid : Prop := Claim7.holds Tryz.pinned (.plain (OpenSpec.ofChange lexiconSpellsSpec)) lexiconSpellsCard

/-- THE TIED CARD OF 'custoslaw11.LexiconFigures'. -/
def lexiconFiguresCard : Claim7 := { stood := { row := lexiconFiguresRow, standIns := [], harness := (true, "f73b61fbb4a9a8c0c5c06c5fe0e880bb8aa00c0e117618e724013686f681c046"), looks := false }, kinds := [], alts := [], laidByText := true, laidKinds := [.data, .data, .data, .data, .pinned], laidTests := true, laidLooks := .later }
def LexiconFiguresCardSaid : Prop := Claim7.holds Tryz.pinned (.plain (OpenSpec.ofChange lexiconFiguresSpec)) lexiconFiguresCard

/-- THE TIED CARD OF 'custoslaw11.LexiconBest'. -/
def lexiconBestCard : Claim7 := { stood := { row := lexiconBestRow, standIns := [], harness := (true, "f73b61fbb4a9a8c0c5c06c5fe0e880bb8aa00c0e117618e724013686f681c046"), looks := false }, kinds := [], alts := [], laidByText := true, laidKinds := [.data, .data, .data], laidTests := true, laidLooks := .later }
def LexiconBestCardSaid : Prop := Claim7.holds Tryz.pinned (.plain (OpenSpec.ofChange lexiconBestSpec)) lexiconBestCard

/-- THE TIED CARD OF 'custoslaw11.LexiconFirst'. -/
def lexiconFirstCard : Claim7 := { stood := { row := lexiconFirstRow, standIns := [], harness := (true, "f73b61fbb4a9a8c0c5c06c5fe0e880bb8aa00c0e117618e724013686f681c046"), looks := false }, kinds := [], alts := [], laidByText := true, laidKinds := [.data, .data, .data], laidTests := true, laidLooks := .later }
def LexiconFirstCardSaid : Prop := Claim7.holds Tryz.pinned (.plain (OpenSpec.ofChange lexiconFirstSpec)) lexiconFirstCard

/-- THE TIED CARD OF 'custoslaw11.LexiconFull'. -/
def lexiconFullCard : Claim7 := { stood := { row := lexiconFullRow, standIns := [], harness := (true, "f73b61fbb4a9a8c0c5c06c5fe0e880bb8aa00c0e117618e724013686f681c046"), looks := false }, kinds := [], alts := [], laidByText := true, laidKinds := [.data, .data, .data, .data, .pinned], laidTests := true, laidLooks := .later }
def LexiconFullCardSaid : Prop := Claim7.holds Tryz.pinned (.plain (OpenSpec.ofChange lexiconFullSpec)) lexiconFullCard

/-- THE SECOND FORM's CARD OF 'custoslaw11.LexiconWords'. -/
def lexiconWordsUptoCard : Claim7 := { stood := { row := lexiconWordsUptoRow, standIns := [], harness := (true, "f73b61fbb4a9a8c0c5c06c5fe0e880bb8aa00c0e117618e724013686f681c046"), looks := false }, kinds := [], alts := [], laidByText := true, laidKinds := [.data, .data, .data], laidTests := true, laidLooks := .later }
def LexiconWordsUptoCardSaid : Prop := Claim7.holds Tryz.pinned (.plain (OpenSpec.upto lexiconWordsSpec)) lexiconWordsUptoCard

/-- THE SECOND FORM's CARD OF 'custoslaw11.LexiconCosts'. -/
def lexiconCostsUptoCard : Claim7 := { stood := { row := lexiconCostsUptoRow, standIns := [], harness := (true, "f73b61fbb4a9a8c0c5c06c5fe0e880bb8aa00c0e117618e724013686f681c046"), looks := false }, kinds := [], alts := [], laidByText := true, laidKinds := [.data, .data, .data], laidTests := true, laidLooks := .later }
def LexiconCostsUptoCardSaid : Prop := Claim7.holds Tryz.pinned (.plain (OpenSpec.upto lexiconCostsSpec)) lexiconCostsUptoCard

/-- THE SECOND FORM's CARD OF 'custoslaw11.LexiconNears'. -/
def lexiconNearsUptoCard : Claim7 := { stood := { row := lexiconNearsUptoRow, standIns := [], harness := (true, "f73b61fbb4a9a8c0c5c06c5fe0e880bb8aa00c0e117618e724013686f681c046"), looks := false }, kinds := [], alts := [], laidByText := true, laidKinds := [.data, .data, .data], laidTests := true, laidLooks := .later }
def LexiconNearsUptoCardSaid : Prop := Claim7.holds Tryz.pinned (.plain (OpenSpec.upto lexiconNearsSpec)) lexiconNearsUptoCard

/-- THE SECOND FORM's CARD OF 'custoslaw11.LexiconSpells'. -/
def lexiconSpellsUptoCard : Claim7 := { stood := { row := lexiconSpellsUptoRow, standIns := [], harness := (true, "f73b61fbb4a9a8c0c5c06c5fe0e880bb8aa00c0e117618e724013686f681c046"), looks := false }, kinds := [], alts := [], laidByText := true, laidKinds := [.data, .data, .data], laidTests := true, laidLooks := .later }
def LexiconSpellsUptoCardSaid : Prop := Claim7.holds Tryz.pinned (.plain (OpenSpec.upto lexiconSpellsSpec)) lexiconSpellsUptoCard

/-- THE SECOND FORM's CARD OF 'custoslaw11.LexiconFigures'. -/
def lexiconFiguresUptoCard : Claim7 := { stood := { row := lexiconFiguresUptoRow, standIns := [], harness := (true, "f73b61fbb4a9a8c0c5c06c5fe0e880bb8aa00c0e117618e724013686f681c046"), looks := false }, kinds := [], alts := [], laidByText := true, laidKinds := [.data, .data, .data, .data, .pinned], laidTests := true, laidLooks := .later }
def LexiconFiguresUptoCardSaid : Prop := Claim7.holds Tryz.pinned (.plain (OpenSpec.upto lexiconFiguresSpec)) lexiconFiguresUptoCard

/-- THE SECOND FORM's CARD OF 'custoslaw11.LexiconBest'. -/
def lexiconBestUptoCard : Claim7 := { stood := { row := lexiconBestUptoRow, standIns := [], harness := (true, "f73b61fbb4a9a8c0c5c06c5fe0e880bb8aa00c0e117618e724013686f681c046"), looks := false }, kinds := [], alts := [], laidByText := true, laidKinds := [.data, .data, .data], laidTests := true, laidLooks := .later }
def LexiconBestUptoCardSaid : Prop := Claim7.holds Tryz.pinned (.plain (OpenSpec.upto lexiconBestSpec)) lexiconBestUptoCard

/-- THE SECOND FORM's CARD OF 'custoslaw11.LexiconFirst'. -/
def lexiconFirstUptoCard : Claim7 := { stood := { row := lexiconFirstUptoRow, standIns := [], harness := (true, "f73b61fbb4a9a8c0c5c06c5fe0e880bb8aa00c0e117618e724013686f681c046"), looks := false }, kinds := [], alts := [], laidByText := true, laidKinds := [.data, .data, .data], laidTests := true, laidLooks := .later }
def LexiconFirstUptoCardSaid : Prop := Claim7.holds Tryz.pinned (.plain (OpenSpec.upto lexiconFirstSpec)) lexiconFirstUptoCard

/-- THE SECOND FORM's CARD OF 'custoslaw11.LexiconFull'. -/
def lexiconFullUptoCard : Claim7 := { stood := { row := lexiconFullUptoRow, standIns := [], harness := (true, "f73b61fbb4a9a8c0c5c06c5fe0e880bb8aa00c0e117618e724013686f681c046"), looks := false }, kinds := [], alts := [], laidByText := true, laidKinds := [.data, .data, .data, .data, .pinned], laidTests := true, laidLooks := .later }
def LexiconFullUptoCardSaid : Prop := Claim7.holds Tryz.pinned (.plain (OpenSpec.upto lexiconFullSpec)) lexiconFullUptoCard
end Rows
end Go.Proofs.YtfohnngeckaljaaGreatDoor
