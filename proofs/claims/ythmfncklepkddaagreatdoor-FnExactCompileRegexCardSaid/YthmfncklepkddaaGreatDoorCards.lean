/-
  DERIVED. GIVEN WITH THE SEED: THE CARDS: each row of YthmfncklepkddaaGreatDoorRows.lean that lists a variable, with what it lists TIED to the program's text (the seventh form; the later family's looks); each row that meets fmt, with fmt's text TOLD by the authors' own Lean function (tested against real Go, not proved from fmt's source: count such statements apart). THE CARD IS WHAT COUNTS. Prove the row's statement (the work); the ties are given (YthmfncklepkddaaGreatDoorTie.lean); close each card by the builder's one call (the guide's Derived/Test/ToyasCard.lean, 'card_holds'). Laid BY PROGRAM, IN A SANDBOX (cutbox-door.mjs). By AI agents, Wed Nov 11 2026. No macro, syntax, notation, axiom, sorry.
-/
import Derived.Test.YthmfncklepkddaaGreatDoorRows
import GoSem.ClaimSeven
namespace Go.Proofs.YthmfncklepkddaaGreatDoor
namespace Rows

/-- THE TIED CARD OF 'laws.FnCompiled'. -/
def fnCompiledCard : Claim7 := { stood := { row := fnCompiledRow, standIns := [], harness := (true, "2bd1fe3480d286e97d2e44950dbff59f1703ce8ee3fc2b79250547b490a2fc56"), looks := true }, kinds := [], alts := [], laidByText := true, laidKinds := [.data], laidTests := true, laidLooks := .later }
def FnCompiledCardSaid : Prop := Claim7.holds Tryz.pinned (.plain (OpenSpec.ofChange fnCompiledSpec)) fnCompiledCard

/-- THE TIED CARD OF 'laws.FnExactCompileRegex'. -/
def fnExactCompileRegexCard : Claim7 := { stood := { row := fnExactCompileRegexRow, standIns := [], harness := (true, "2bd1fe3480d286e97d2e44950dbff59f1703ce8ee3fc2b79250547b490a2fc56"), looks := true }, kinds := [], alts := [], laidByText := true, laidKinds := [.data], laidTests := true, laidLooks := .later }
def FnExactCompileRegexCardSaid : Prop := Claim7.holds Tryz.pinned (.plain (OpenSpec.ofChange fnExactCompileRegexSpec)) fnExactCompileRegexCard

/-- THE SECOND FORM's CARD OF 'laws.FnCompiled'. -/
def fnCompiledUptoCard : Claim7 := { stood := { row := fnCompiledUptoRow, standIns := [], harness := (true, "2bd1fe3480d286e97d2e44950dbff59f1703ce8ee3fc2b79250547b490a2fc56"), looks := true }, kinds := [], alts := [], laidByText := true, laidKinds := [.data], laidTests := true, laidLooks := .later }
def FnCompiledUptoCardSaid : Prop := Claim7.holds Tryz.pinned (.plain (OpenSpec.upto fnCompiledSpec)) fnCompiledUptoCard

/-- THE SECOND FORM's CARD OF 'laws.FnExactCompileRegex'. -/
def fnExactCompileRegexUptoCard : Claim7 := { stood := { row := fnExactCompileRegexUptoRow, standIns := [], harness := (true, "2bd1fe3480d286e97d2e44950dbff59f1703ce8ee3fc2b79250547b490a2fc56"), looks := true }, kinds := [], alts := [], laidByText := true, laidKinds := [.data], laidTests := true, laidLooks := .later }
def FnExactCompileRegexUptoCardSaid : Prop := Claim7.holds Tryz.pinned (.plain (OpenSpec.upto fnExactCompileRegexSpec)) fnExactCompileRegexUptoCard
end Rows
end Go.Proofs.YthmfncklepkddaaGreatDoor
