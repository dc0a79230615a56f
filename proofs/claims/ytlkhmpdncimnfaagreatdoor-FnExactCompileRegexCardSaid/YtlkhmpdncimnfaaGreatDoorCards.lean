/-
  DERIVED. GIVEN WITH THE SEED: THE CARDS: each row of YtlkhmpdncimnfaaGreatDoorRows.lean that lists a variable, with what it lists TIED to the program's text (the seventh form; the later family's looks); each row that meets fmt, with fmt's text TOLD by the authors' own Lean function (tested against real Go, not proved from fmt's source: count such statements apart). THE CARD IS WHAT COUNTS. Prove the row's statement (the work); the ties are given (YtlkhmpdncimnfaaGreatDoorTie.lean); close each card by the builder's one call (the guide's Derived/Test/ToyasCard.lean, 'card_holds'). Laid BY PROGRAM, IN A SANDBOX (cutbox-door.mjs). By AI agents, Wed Nov 11 2026. No macro, syntax, notation, axiom, sorry.
-/
import Derived.Test.YtlkhmpdncimnfaaGreatDoorRows
import GoSem.ClaimSeven
namespace Go.Proofs.YtlkhmpdncimnfaaGreatDoor
namespace Rows

/-- THE TIED CARD OF 'laws.FnExactCompileRegex'. -/
def fnExactCompileRegexCard : Claim7 := { stood := { row := fnExactCompileRegexRow, standIns := [], harness := (true, "12b3a21138bf0e297a47731ab518df2b748455f0a13ba16e854bef719033960c"), looks := true }, kinds := [], alts := [], laidByText := true, laidKinds := [.data], laidTests := true, laidLooks := .later }
def FnExactCompileRegexCardSaid : Prop := Claim7.holds Tryz.pinned (.plain (OpenSpec.ofChange fnExactCompileRegexSpec)) fnExactCompileRegexCard

/-- THE SECOND FORM's CARD OF 'laws.FnExactCompileRegex'. -/
def fnExactCompileRegexUptoCard : Claim7 := { stood := { row := fnExactCompileRegexUptoRow, standIns := [], harness := (true, "12b3a21138bf0e297a47731ab518df2b748455f0a13ba16e854bef719033960c"), looks := true }, kinds := [], alts := [], laidByText := true, laidKinds := [.data], laidTests := true, laidLooks := .later }
def FnExactCompileRegexUptoCardSaid : Prop := Claim7.holds Tryz.pinned (.plain (OpenSpec.upto fnExactCompileRegexSpec)) fnExactCompileRegexUptoCard
end Rows
end Go.Proofs.YtlkhmpdncimnfaaGreatDoor
