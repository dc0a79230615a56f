/-
  DERIVED. GIVEN WITH THE SEED: THE CARDS: each row of YtjjjdieljljcoaaGreatDoorRows.lean that lists a variable, with what it lists TIED to the program's text (the seventh form; the later family's looks); each row that meets fmt, with fmt's text TOLD by the authors' own Lean function (tested against real Go, not proved from fmt's source: count such statements apart). THE CARD IS WHAT COUNTS. Prove the row's statement (the work); the ties are given (YtjjjdieljljcoaaGreatDoorTie.lean); close each card by the builder's one call (the guide's Derived/Test/ToyasCard.lean, 'card_holds'). Laid BY PROGRAM, IN A SANDBOX (cutbox-door.mjs). By AI agents, Wed Nov 11 2026. No macro, syntax, notation, axiom, sorry.
-/
import Derived.Test.YtjjjdieljljcoaaGreatDoorRows
import GoSem.ClaimSeven
namespace Go.Proofs.YtjjjdieljljcoaaGreatDoor
namespace Rows

/-- THE TIED CARD OF 'laws.FnConstraintText'. -/
def fnConstraintTextCard : Claim7 := { stood := { row := fnConstraintTextRow, standIns := [], harness := (true, "ed3db1d8ba5f9231be210c7d8656f850d2300a32b6a11d3f1589c288fad055f3"), looks := true }, kinds := [], alts := [], laidByText := true, laidKinds := [.data, .data, .data, .sentinel, .sentinel], laidTests := true, laidLooks := .later }
def FnConstraintTextCardSaid : Prop := Claim7.holds Tryz.pinned (.plain (OpenSpec.ofChange fnConstraintTextSpec)) fnConstraintTextCard

/-- THE TIED CARD OF 'laws.FnExactIsValidConstraint'. -/
def fnExactIsValidConstraintCard : Claim7 := { stood := { row := fnExactIsValidConstraintRow, standIns := [], harness := (true, "ed3db1d8ba5f9231be210c7d8656f850d2300a32b6a11d3f1589c288fad055f3"), looks := true }, kinds := [], alts := [], laidByText := true, laidKinds := [.data, .data, .data, .sentinel, .sentinel], laidTests := true, laidLooks := .later }
def FnExactIsValidConstraintCardSaid : Prop := Claim7.holds Tryz.pinned (.plain (OpenSpec.ofChange fnExactIsValidConstraintSpec)) fnExactIsValidConstraintCard

/-- THE TIED CARD OF 'laws.FnExactHoldsFor'. -/
def fnExactHoldsForCard : Claim7 := { stood := { row := fnExactHoldsForRow, standIns := [], harness := (true, "ed3db1d8ba5f9231be210c7d8656f850d2300a32b6a11d3f1589c288fad055f3"), looks := true }, kinds := [], alts := [], laidByText := true, laidKinds := [.data, .data, .data, .sentinel, .sentinel], laidTests := true, laidLooks := .later }
def FnExactHoldsForCardSaid : Prop := Claim7.holds Tryz.pinned (.plain (OpenSpec.ofChange fnExactHoldsForSpec)) fnExactHoldsForCard

/-- THE TIED CARD OF 'laws.FnExactVarsOfConstraint'. -/
def fnExactVarsOfConstraintCard : Claim7 := { stood := { row := fnExactVarsOfConstraintRow, standIns := [], harness := (true, "ed3db1d8ba5f9231be210c7d8656f850d2300a32b6a11d3f1589c288fad055f3"), looks := true }, kinds := [], alts := [], laidByText := true, laidKinds := [.data, .data, .data, .sentinel, .sentinel], laidTests := true, laidLooks := .later }
def FnExactVarsOfConstraintCardSaid : Prop := Claim7.holds Tryz.pinned (.plain (OpenSpec.ofChange fnExactVarsOfConstraintSpec)) fnExactVarsOfConstraintCard

/-- THE TIED CARD OF 'laws.FnExactFormatConstraint'. -/
def fnExactFormatConstraintCard : Claim7 := { stood := { row := fnExactFormatConstraintRow, standIns := [], harness := (true, "ed3db1d8ba5f9231be210c7d8656f850d2300a32b6a11d3f1589c288fad055f3"), looks := true }, kinds := [], alts := [], laidByText := true, laidKinds := [.data, .data, .data, .sentinel, .sentinel], laidTests := true, laidLooks := .later }
def FnExactFormatConstraintCardSaid : Prop := Claim7.holds Tryz.pinned (.plain (OpenSpec.ofChange fnExactFormatConstraintSpec)) fnExactFormatConstraintCard

/-- THE TIED CARD OF 'laws.FnExactParseConstraint'. -/
def fnExactParseConstraintCard : Claim7 := { stood := { row := fnExactParseConstraintRow, standIns := [], harness := (true, "ed3db1d8ba5f9231be210c7d8656f850d2300a32b6a11d3f1589c288fad055f3"), looks := true }, kinds := [], alts := [], laidByText := true, laidKinds := [.data, .data, .data, .sentinel, .sentinel], laidTests := true, laidLooks := .later }
def FnExactParseConstraintCardSaid : Prop := Claim7.holds Tryz.pinned (.plain (OpenSpec.ofChange fnExactParseConstraintSpec)) fnExactParseConstraintCard

/-- THE SECOND FORM's CARD OF 'laws.FnConstraintText'. -/
def fnConstraintTextUptoCard : Claim7 := { stood := { row := fnConstraintTextUptoRow, standIns := [], harness := (true, "ed3db1d8ba5f9231be210c7d8656f850d2300a32b6a11d3f1589c288fad055f3"), looks := true }, kinds := [], alts := [], laidByText := true, laidKinds := [.data, .data, .data, .sentinel, .sentinel], laidTests := true, laidLooks := .later }
def FnConstraintTextUptoCardSaid : Prop := Claim7.holds Tryz.pinned (.plain (OpenSpec.upto fnConstraintTextSpec)) fnConstraintTextUptoCard

/-- THE SECOND FORM's CARD OF 'laws.FnExactIsValidConstraint'. -/
def fnExactIsValidConstraintUptoCard : Claim7 := { stood := { row := fnExactIsValidConstraintUptoRow, standIns := [], harness := (true, "ed3db1d8ba5f9231be210c7d8656f850d2300a32b6a11d3f1589c288fad055f3"), looks := true }, kinds := [], alts := [], laidByText := true, laidKinds := [.data, .data, .data, .sentinel, .sentinel], laidTests := true, laidLooks := .later }
def FnExactIsValidConstraintUptoCardSaid : Prop := Claim7.holds Tryz.pinned (.plain (OpenSpec.upto fnExactIsValidConstraintSpec)) fnExactIsValidConstraintUptoCard

/-- THE SECOND FORM's CARD OF 'laws.FnExactHoldsFor'. -/
def fnExactHoldsForUptoCard : Claim7 := { stood := { row := fnExactHoldsForUptoRow, standIns := [], harness := (true, "ed3db1d8ba5f9231be210c7d8656f850d2300a32b6a11d3f1589c288fad055f3"), looks := true }, kinds := [], alts := [], laidByText := true, laidKinds := [.data, .data, .data, .sentinel, .sentinel], laidTests := true, laidLooks := .later }
def FnExactHoldsForUptoCardSaid : Prop := Claim7.holds Tryz.pinned (.plain (OpenSpec.upto fnExactHoldsForSpec)) fnExactHoldsForUptoCard

/-- THE SECOND FORM's CARD OF 'laws.FnExactVarsOfConstraint'. -/
def fnExactVarsOfConstraintUptoCard : Claim7 := { stood := { row := fnExactVarsOfConstraintUptoRow, standIns := [], harness := (true, "ed3db1d8ba5f9231be210c7d8656f850d2300a32b6a11d3f1589c288fad055f3"), looks := true }, kinds := [], alts := [], laidByText := true, laidKinds := [.data, .data, .data, .sentinel, .sentinel], laidTests := true, laidLooks := .later }
def FnExactVarsOfConstraintUptoCardSaid : Prop := Claim7.holds Tryz.pinned (.plain (OpenSpec.upto fnExactVarsOfConstraintSpec)) fnExactVarsOfConstraintUptoCard

/-- THE SECOND FORM's CARD OF 'laws.FnExactFormatConstraint'. -/
def fnExactFormatConstraintUptoCard : Claim7 := { stood := { row := fnExactFormatConstraintUptoRow, standIns := [], harness := (true, "ed3db1d8ba5f9231be210c7d8656f850d2300a32b6a11d3f1589c288fad055f3"), looks := true }, kinds := [], alts := [], laidByText := true, laidKinds := [.data, .data, .data, .sentinel, .sentinel], laidTests := true, laidLooks := .later }
def FnExactFormatConstraintUptoCardSaid : Prop := Claim7.holds Tryz.pinned (.plain (OpenSpec.upto fnExactFormatConstraintSpec)) fnExactFormatConstraintUptoCard

/-- THE SECOND FORM's CARD OF 'laws.FnExactParseConstraint'. -/
def fnExactParseConstraintUptoCard : Claim7 := { stood := { row := fnExactParseConstraintUptoRow, standIns := [], harness := (true, "ed3db1d8ba5f9231be210c7d8656f850d2300a32b6a11d3f1589c288fad055f3"), looks := true }, kinds := [], alts := [], laidByText := true, laidKinds := [.data, .data, .data, .sentinel, .sentinel], laidTests := true, laidLooks := .later }
def FnExactParseConstraintUptoCardSaid : Prop := Claim7.holds Tryz.pinned (.plain (OpenSpec.upto fnExactParseConstraintSpec)) fnExactParseConstraintUptoCard
end Rows
end Go.Proofs.YtjjjdieljljcoaaGreatDoor
