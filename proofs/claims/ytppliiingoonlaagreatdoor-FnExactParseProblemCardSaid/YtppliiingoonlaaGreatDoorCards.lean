/-
  DERIVED. GIVEN WITH THE SEED: THE CARDS: each row of YtppliiingoonlaaGreatDoorRows.lean that lists a variable, with what it lists TIED to the program's text (the seventh form; the later family's looks); each row that meets fmt, with fmt's text TOLD by the authors' own Lean function (tested against real Go, not proved from fmt's source: count such statements apart). THE CARD IS WHAT COUNTS. Prove the row's statement (the work); the ties are given (YtppliiingoonlaaGreatDoorTie.lean); close each card by the builder's one call (the guide's Derived/Test/ToyasCard.lean, 'card_holds'). Laid BY PROGRAM, IN A SANDBOX (cutbox-door.mjs). By AI agents, Wed Nov 11 2026. No macro, syntax, notation, axiom, sorry.
-/
import Derived.Test.YtppliiingoonlaaGreatDoorRows
import GoSem.ClaimSeven
namespace Go.Proofs.YtppliiingoonlaaGreatDoor
namespace Rows

/-- THE TIED CARD OF 'laws.FnConstraintText'. -/
def fnConstraintTextCard : Claim7 := { stood := { row := fnConstraintTextRow, standIns := [], harness := (true, "77c39259db25b1a0e46da1bdc7b0f50b622f02ee16d1906e25c800d6da78da39"), looks := true }, kinds := [], alts := [], laidByText := true, laidKinds := [.data, .data, .data, .sentinel, .sentinel], laidTests := true, laidLooks := .later }
def FnConstraintTextCardSaid : Prop := Claim7.holds Tryz.pinned (.plain (OpenSpec.ofChange fnConstraintTextSpec)) fnConstraintTextCard

/-- THE TIED CARD OF 'laws.FnProblemText'. -/
def fnProblemTextCard : Claim7 := { stood := { row := fnProblemTextRow, standIns := [], harness := (true, "77c39259db25b1a0e46da1bdc7b0f50b622f02ee16d1906e25c800d6da78da39"), looks := true }, kinds := [], alts := [], laidByText := true, laidKinds := [.data, .data, .data, .handle, .sentinel, .sentinel], laidTests := true, laidLooks := .later }
def FnProblemTextCardSaid : Prop := Claim7.holds Tryz.pinned (.plain (OpenSpec.ofChange fnProblemTextSpec)) fnProblemTextCard

/-- THE TIED CARD OF 'laws.FnExactIsValidProblem'. -/
def fnExactIsValidProblemCard : Claim7 := { stood := { row := fnExactIsValidProblemRow, standIns := [], harness := (true, "77c39259db25b1a0e46da1bdc7b0f50b622f02ee16d1906e25c800d6da78da39"), looks := true }, kinds := [], alts := [], laidByText := true, laidKinds := [.data, .data, .data, .sentinel, .sentinel], laidTests := true, laidLooks := .later }
def FnExactIsValidProblemCardSaid : Prop := Claim7.holds Tryz.pinned (.plain (OpenSpec.ofChange fnExactIsValidProblemSpec)) fnExactIsValidProblemCard

/-- THE TIED CARD OF 'laws.FnExactVarsOfProblem'. -/
def fnExactVarsOfProblemCard : Claim7 := { stood := { row := fnExactVarsOfProblemRow, standIns := [], harness := (true, "77c39259db25b1a0e46da1bdc7b0f50b622f02ee16d1906e25c800d6da78da39"), looks := true }, kinds := [], alts := [], laidByText := true, laidKinds := [.data, .data, .data, .sentinel, .sentinel], laidTests := true, laidLooks := .later }
def FnExactVarsOfProblemCardSaid : Prop := Claim7.holds Tryz.pinned (.plain (OpenSpec.ofChange fnExactVarsOfProblemSpec)) fnExactVarsOfProblemCard

/-- THE TIED CARD OF 'laws.FnExactIsModel'. -/
def fnExactIsModelCard : Claim7 := { stood := { row := fnExactIsModelRow, standIns := [], harness := (true, "77c39259db25b1a0e46da1bdc7b0f50b622f02ee16d1906e25c800d6da78da39"), looks := true }, kinds := [], alts := [], laidByText := true, laidKinds := [.data, .data, .data, .sentinel, .sentinel], laidTests := true, laidLooks := .later }
def FnExactIsModelCardSaid : Prop := Claim7.holds Tryz.pinned (.plain (OpenSpec.ofChange fnExactIsModelSpec)) fnExactIsModelCard

/-- THE TIED CARD OF 'laws.FnExactFormatProblem'. -/
def fnExactFormatProblemCard : Claim7 := { stood := { row := fnExactFormatProblemRow, standIns := [], harness := (true, "77c39259db25b1a0e46da1bdc7b0f50b622f02ee16d1906e25c800d6da78da39"), looks := true }, kinds := [], alts := [], laidByText := true, laidKinds := [.data, .data, .data, .sentinel, .sentinel], laidTests := true, laidLooks := .later }
def FnExactFormatProblemCardSaid : Prop := Claim7.holds Tryz.pinned (.plain (OpenSpec.ofChange fnExactFormatProblemSpec)) fnExactFormatProblemCard

/-- THE TIED CARD OF 'laws.FnExactParseProblem'. -/
def fnExactParseProblemCard : Claim7 := { stood := { row := fnExactParseProblemRow, standIns := [], harness := (true, "77c39259db25b1a0e46da1bdc7b0f50b622f02ee16d1906e25c800d6da78da39"), looks := true }, kinds := [], alts := [], laidByText := true, laidKinds := [.data, .data, .data, .handle, .sentinel, .sentinel], laidTests := true, laidLooks := .later }
def FnExactParseProblemCardSaid : Prop := Claim7.holds Tryz.pinned (.plain (OpenSpec.ofChange fnExactParseProblemSpec)) fnExactParseProblemCard

/-- THE TIED CARD OF 'laws.FnExactWithoutConstraint'. -/
def fnExactWithoutConstraintCard : Claim7 := { stood := { row := fnExactWithoutConstraintRow, standIns := [], harness := (true, "77c39259db25b1a0e46da1bdc7b0f50b622f02ee16d1906e25c800d6da78da39"), looks := true }, kinds := [], alts := [], laidByText := true, laidKinds := [.data, .data, .data, .sentinel, .sentinel], laidTests := true, laidLooks := .later }
def FnExactWithoutConstraintCardSaid : Prop := Claim7.holds Tryz.pinned (.plain (OpenSpec.ofChange fnExactWithoutConstraintSpec)) fnExactWithoutConstraintCard

/-- THE SECOND FORM's CARD OF 'laws.FnConstraintText'. -/
def fnConstraintTextUptoCard : Claim7 := { stood := { row := fnConstraintTextUptoRow, standIns := [], harness := (true, "77c39259db25b1a0e46da1bdc7b0f50b622f02ee16d1906e25c800d6da78da39"), looks := true }, kinds := [], alts := [], laidByText := true, laidKinds := [.data, .data, .data, .sentinel, .sentinel], laidTests := true, laidLooks := .later }
def FnConstraintTextUptoCardSaid : Prop := Claim7.holds Tryz.pinned (.plain (OpenSpec.upto fnConstraintTextSpec)) fnConstraintTextUptoCard

/-- THE SECOND FORM's CARD OF 'laws.FnProblemText'. -/
def fnProblemTextUptoCard : Claim7 := { stood := { row := fnProblemTextUptoRow, standIns := [], harness := (true, "77c39259db25b1a0e46da1bdc7b0f50b622f02ee16d1906e25c800d6da78da39"), looks := true }, kinds := [], alts := [], laidByText := true, laidKinds := [.data, .data, .data, .handle, .sentinel, .sentinel], laidTests := true, laidLooks := .later }
def FnProblemTextUptoCardSaid : Prop := Claim7.holds Tryz.pinned (.plain (OpenSpec.upto fnProblemTextSpec)) fnProblemTextUptoCard

/-- THE SECOND FORM's CARD OF 'laws.FnExactIsValidProblem'. -/
def fnExactIsValidProblemUptoCard : Claim7 := { stood := { row := fnExactIsValidProblemUptoRow, standIns := [], harness := (true, "77c39259db25b1a0e46da1bdc7b0f50b622f02ee16d1906e25c800d6da78da39"), looks := true }, kinds := [], alts := [], laidByText := true, laidKinds := [.data, .data, .data, .sentinel, .sentinel], laidTests := true, laidLooks := .later }
def FnExactIsValidProblemUptoCardSaid : Prop := Claim7.holds Tryz.pinned (.plain (OpenSpec.upto fnExactIsValidProblemSpec)) fnExactIsValidProblemUptoCard

/-- THE SECOND FORM's CARD OF 'laws.FnExactVarsOfProblem'. -/
def fnExactVarsOfProblemUptoCard : Claim7 := { stood := { row := fnExactVarsOfProblemUptoRow, standIns := [], harness := (true, "77c39259db25b1a0e46da1bdc7b0f50b622f02ee16d1906e25c800d6da78da39"), looks := true }, kinds := [], alts := [], laidByText := true, laidKinds := [.data, .data, .data, .sentinel, .sentinel], laidTests := true, laidLooks := .later }
def FnExactVarsOfProblemUptoCardSaid : Prop := Claim7.holds Tryz.pinned (.plain (OpenSpec.upto fnExactVarsOfProblemSpec)) fnExactVarsOfProblemUptoCard

/-- THE SECOND FORM's CARD OF 'laws.FnExactIsModel'. -/
def fnExactIsModelUptoCard : Claim7 := { stood := { row := fnExactIsModelUptoRow, standIns := [], harness := (true, "77c39259db25b1a0e46da1bdc7b0f50b622f02ee16d1906e25c800d6da78da39"), looks := true }, kinds := [], alts := [], laidByText := true, laidKinds := [.data, .data, .data, .sentinel, .sentinel], laidTests := true, laidLooks := .later }
def FnExactIsModelUptoCardSaid : Prop := Claim7.holds Tryz.pinned (.plain (OpenSpec.upto fnExactIsModelSpec)) fnExactIsModelUptoCard

/-- THE SECOND FORM's CARD OF 'laws.FnExactFormatProblem'. -/
def fnExactFormatProblemUptoCard : Claim7 := { stood := { row := fnExactFormatProblemUptoRow, standIns := [], harness := (true, "77c39259db25b1a0e46da1bdc7b0f50b622f02ee16d1906e25c800d6da78da39"), looks := true }, kinds := [], alts := [], laidByText := true, laidKinds := [.data, .data, .data, .sentinel, .sentinel], laidTests := true, laidLooks := .later }
def FnExactFormatProblemUptoCardSaid : Prop := Claim7.holds Tryz.pinned (.plain (OpenSpec.upto fnExactFormatProblemSpec)) fnExactFormatProblemUptoCard

/-- THE SECOND FORM's CARD OF 'laws.FnExactParseProblem'. -/
def fnExactParseProblemUptoCard : Claim7 := { stood := { row := fnExactParseProblemUptoRow, standIns := [], harness := (true, "77c39259db25b1a0e46da1bdc7b0f50b622f02ee16d1906e25c800d6da78da39"), looks := true }, kinds := [], alts := [], laidByText := true, laidKinds := [.data, .data, .data, .handle, .sentinel, .sentinel], laidTests := true, laidLooks := .later }
def FnExactParseProblemUptoCardSaid : Prop := Claim7.holds Tryz.pinned (.plain (OpenSpec.upto fnExactParseProblemSpec)) fnExactParseProblemUptoCard

/-- THE SECOND FORM's CARD OF 'laws.FnExactWithoutConstraint'. -/
def fnExactWithoutConstraintUptoCard : Claim7 := { stood := { row := fnExactWithoutConstraintUptoRow, standIns := [], harness := (true, "77c39259db25b1a0e46da1bdc7b0f50b622f02ee16d1906e25c800d6da78da39"), looks := true }, kinds := [], alts := [], laidByText := true, laidKinds := [.data, .data, .data, .sentinel, .sentinel], laidTests := true, laidLooks := .later }
def FnExactWithoutConstraintUptoCardSaid : Prop := Claim7.holds Tryz.pinned (.plain (OpenSpec.upto fnExactWithoutConstraintSpec)) fnExactWithoutConstraintUptoCard
end Rows
end Go.Proofs.YtppliiingoonlaaGreatDoor
