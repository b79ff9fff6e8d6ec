/-
  NARROWER THAN 'FOR EVERY INPUT', by the rows' own cells (each row's printed sentence says how): CleanRecipes: laid · CleanFound: laid.
  DERIVED. THE GIVEN ROWS OF THIS SEAT. 2 by the template 'for every input the law returns true; each argument reads behind the call as it read before'; 0 by the template 'total and deterministic' (their statements: YtdbgdhjcpmacoaaDoorTotals.lean).
  GIVEN WITH THE SEED: the statements are not yours to turn. If you find one false, say at which input.
  Laid BY PROGRAM, IN A SANDBOX (cutbox-rows.mjs): the forced cells as the released guide's own fill.sh prints them over the translation 51726d998bf749e5… (all of the seat's roots in one cut). By AI agents, Wed Nov 11 2026. No macro, syntax, notation, axiom, sorry.
-/
import Derived.Test.YtdbgdhjcpmacoaaDoorChecked
import GoSem.Claim
import GoSem.ClaimJoined
import GoSem.ClaimMapViews
import Derived.JoinedTies
import Derived.KernelRfl
namespace Go.Proofs.YtdbgdhjcpmacoaaDoor
/- THE CELL 'sum', in the pinned program and in every row, IS THE sha256 OF THE DUMP (.gsa) THAT YtdbgdhjcpmacoaaDoorProg.lean LOADS. Nothing in Lean hashes anything: it is a label: what it is worth is what the hold of that sum in a sandbox is worth. -/
noncomputable def Tryd.pinned : Pinned := { name := "ytdbgdhjcpmacoaadoor", sum := "51726d998bf749e545d5cd224f1625c779bb303f8f9eb93f1ed0ce95bd4ffcde", checked := Tryd.checked }
namespace Rows
def none {H : Type} : Left H := { results := [], args := [] }

/- WHAT THE LISTED PACKAGE-LEVEL VARIABLES READ AS WHEN THE CALL BEGINS. Each datum BY PROGRAM (the guide's laid-datum.mjs) off the statement by which the dump's own 'gosem.cut.vars' lays the variable. In a bare row this is a premise. The card (YtdbgdhjcpmacoaaDoorCards.lean) ties it to the program's text. -/
def laid_custos_image_around {H : Type} : DataW H := .agg [.agg [.lit (.int .i64 0), .lit (.int .i64 (-1))], .agg [.lit (.int .i64 1), .lit (.int .i64 (-1))], .agg [.lit (.int .i64 1), .lit (.int .i64 0)], .agg [.lit (.int .i64 1), .lit (.int .i64 1)], .agg [.lit (.int .i64 0), .lit (.int .i64 1)], .agg [.lit (.int .i64 (-1)), .lit (.int .i64 1)], .agg [.lit (.int .i64 (-1)), .lit (.int .i64 0)], .agg [.lit (.int .i64 (-1)), .lit (.int .i64 (-1))]]

/-- 'custoslaw02.CleanRecipes': WHATEVER THE INPUT: true; the input reads as it did. -/
def cleanRecipesSpec : ChangeSpec := { name := "cleanRecipes", fn := fun _ => fun
  | [d1, d2] => { results := [.lit (.bool true)], args := [d1, d2] }
  | _ => none }
def cleanRecipesRow : OpenClaim := { program := "ytdbgdhjcpmacoaadoor", sum := "51726d998bf749e545d5cd224f1625c779bb303f8f9eb93f1ed0ce95bd4ffcde", func := "custos/custoslaw02.CleanRecipes", spec := "cleanRecipes", inPlace := ["internal/bytealg.Count", "internal/bytealg.IndexByte", "internal/bytealg.Index"], unfollowed := true, recurses := true, named := ["internal/bytealg.MaxLen", "custos/image.around"], apart := false, laid := [("custos/image.around", laid_custos_image_around)] }
def CleanRecipesSaid : Prop := cleanRecipesRow.holds Tryd.pinned (OpenSpec.ofChange cleanRecipesSpec)

/-- ITS FALSE NEIGHBOUR: 'it returns false'. Refute it at one input. -/
def cleanRecipesWrong : ChangeSpec := { name := "cleanRecipes", fn := fun _ => fun
  | [d1, d2] => { results := [.lit (.bool false)], args := [d1, d2] }
  | _ => none }
def CleanRecipesWrongFalsely : Prop := cleanRecipesRow.holds Tryd.pinned (OpenSpec.ofChange cleanRecipesWrong)

/-- 'custoslaw02.CleanFound': WHATEVER THE INPUT: true; the input reads as it did. -/
def cleanFoundSpec : ChangeSpec := { name := "cleanFound", fn := fun _ => fun
  | [d1, d2, d3, d4, d5] => { results := [.lit (.bool true)], args := [d1, d2, d3, d4, d5] }
  | _ => none }
def cleanFoundRow : OpenClaim := { program := "ytdbgdhjcpmacoaadoor", sum := "51726d998bf749e545d5cd224f1625c779bb303f8f9eb93f1ed0ce95bd4ffcde", func := "custos/custoslaw02.CleanFound", spec := "cleanFound", inPlace := ["internal/bytealg.Count", "internal/bytealg.IndexByte", "internal/bytealg.Index"], unfollowed := true, recurses := true, named := ["internal/bytealg.MaxLen", "custos/image.around"], apart := false, laid := [("custos/image.around", laid_custos_image_around)] }
def CleanFoundSaid : Prop := cleanFoundRow.holds Tryd.pinned (OpenSpec.ofChange cleanFoundSpec)

/-- ITS FALSE NEIGHBOUR: 'it returns false'. Refute it at one input. -/
def cleanFoundWrong : ChangeSpec := { name := "cleanFound", fn := fun _ => fun
  | [d1, d2, d3, d4, d5] => { results := [.lit (.bool false)], args := [d1, d2, d3, d4, d5] }
  | _ => none }
def CleanFoundWrongFalsely : Prop := cleanFoundRow.holds Tryd.pinned (OpenSpec.ofChange cleanFoundWrong)

/- THE SECOND FORM. 'bulk': how many values and letters a reading holds, each counted each time it is reached (what is shared counts as often as it is met; a slice's spare places count too). A statement '..UptoSaid' is the law's where the arguments, and the package variables that the reading takes, are together of bulk at most 1048576: NARROWER than '..Said'. Prove '..Said' where nothing that the law and all that it calls make is longer than what came in: it says more and counts as full. Else prove '..UptoSaid'. A law counts once. -/
mutual
def uptoBulk {H : Type} : DataW H → Nat
  | .lit (.string bytes) => bytes.length + 1
  | .lit _ => 1
  | .nil => 1
  | .ptr d => uptoBulk d + 1
  | .slice elems spare => uptoBulkAll elems + uptoBulkAll spare + 1
  | .agg parts => uptoBulkAll parts + 1
  | .iface _ d => uptoBulk d + 1
  | .map entries => uptoBulkEntries entries + 1
  | .held _ => 1
def uptoBulkAll {H : Type} : List (DataW H) → Nat
  | [] => 0
  | d :: r => uptoBulk d + uptoBulkAll r
def uptoBulkEntries {H : Type} : List (Lit × DataW H) → Nat
  | [] => 0
  | x :: r => uptoBulkEntry x + uptoBulkEntries r
def uptoBulkEntry {H : Type} : Lit × DataW H → Nat
  | (.string bytes, d) => bytes.length + uptoBulk d + 1
  | (_, d) => uptoBulk d + 1
 end
def uptoSmall : (H : Type) → List (DataW H) → Bool := fun _ ds => decide (uptoBulkAll ds ≤ 1048576)
def OpenSpec.upto (s : _root_.Go.ChangeSpec) : _root_.Go.OpenSpec := { _root_.Go.OpenSpec.ofChange s with cond := some uptoSmall }

/-- 'custoslaw02.CleanRecipes', WHERE WHAT IT READS IS OF BULK AT MOST 1048576: true; the input reads as it did. -/
def cleanRecipesUptoRow : OpenClaim := { program := "ytdbgdhjcpmacoaadoor", sum := "51726d998bf749e545d5cd224f1625c779bb303f8f9eb93f1ed0ce95bd4ffcde", func := "custos/custoslaw02.CleanRecipes", spec := "cleanRecipes", inPlace := ["internal/bytealg.Count", "internal/bytealg.IndexByte", "internal/bytealg.Index"], unfollowed := true, recurses := true, named := ["internal/bytealg.MaxLen", "custos/image.around"], apart := false, laid := [("custos/image.around", laid_custos_image_around)], narrowed := true }
def CleanRecipesUptoSaid : Prop := cleanRecipesUptoRow.holds Tryd.pinned (OpenSpec.upto cleanRecipesSpec)

/-- 'custoslaw02.CleanFound', WHERE WHAT IT READS IS OF BULK AT MOST 1048576: true; the input reads as it did. -/
def cleanFoundUptoRow : OpenClaim := { program := "ytdbgdhjcpmacoaadoor", sum := "51726d998bf749e545d5cd224f1625c779bb303f8f9eb93f1ed0ce95bd4ffcde", func := "custos/custoslaw02.CleanFound", spec := "cleanFound", inPlace := ["internal/bytealg.Count", "internal/bytealg.IndexByte", "internal/bytealg.Index"], unfollowed := true, recurses := true, named := ["internal/bytealg.MaxLen", "custos/image.around"], apart := false, laid := [("custos/image.around", laid_custos_image_around)], narrowed := true }
def CleanFoundUptoSaid : Prop := cleanFoundUptoRow.holds Tryd.pinned (OpenSpec.upto cleanFoundSpec)

end Rows
end Go.Proofs.YtdbgdhjcpmacoaaDoor
