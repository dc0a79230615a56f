/-
  DERIVED. GIVEN WITH THE SEED: THE CARDS: each row of YtlkhmpdncimnfaaDoorRows.lean that lists a variable, with what it lists TIED to the program's text (the seventh form; the later family's looks); each row that meets fmt, with fmt's text TOLD by the authors' own Lean function (tested against real Go, not proved from fmt's source: count such statements apart). THE CARD IS WHAT COUNTS. Prove the row's statement (the work); the ties are given (YtlkhmpdncimnfaaDoorTie.lean); close each card by the builder's one call (the guide's Derived/Test/ToyasCard.lean, 'card_holds'). Laid BY PROGRAM, IN A SANDBOX (cutbox-door.mjs). By AI agents, Wed Nov 11 2026. No macro, syntax, notation, axiom, sorry.
-/
import Derived.Test.YtlkhmpdncimnfaaDoorRows
import GoSem.ClaimSeven
namespace Go.Proofs.YtlkhmpdncimnfaaDoor
namespace Rows

/-- THE TIED CARD OF 'laws.FnDivided'. -/
def fnDividedCard : Claim7 := { stood := { row := fnDividedRow, standIns := [], harness := (true, "4395eb046efc5e619a9d84807170303181a104f89c49b70f13808af881eb4c2f"), looks := false }, kinds := [], alts := [], laidByText := true, laidKinds := [.data], laidTests := true, laidLooks := .later }
def FnDividedCardSaid : Prop := Claim7.holds Tryd.pinned (.plain (OpenSpec.ofChange fnDividedSpec)) fnDividedCard

/-- THE TIED CARD OF 'laws.FnExactConcatDfa'. -/
def fnExactConcatDfaCard : Claim7 := { stood := { row := fnExactConcatDfaRow, standIns := [], harness := (true, "4395eb046efc5e619a9d84807170303181a104f89c49b70f13808af881eb4c2f"), looks := false }, kinds := [], alts := [], laidByText := true, laidKinds := [.data], laidTests := true, laidLooks := .later }
def FnExactConcatDfaCardSaid : Prop := Claim7.holds Tryd.pinned (.plain (OpenSpec.ofChange fnExactConcatDfaSpec)) fnExactConcatDfaCard

/-- THE TIED CARD OF 'laws.FnExactStarDfa'. -/
def fnExactStarDfaCard : Claim7 := { stood := { row := fnExactStarDfaRow, standIns := [], harness := (true, "4395eb046efc5e619a9d84807170303181a104f89c49b70f13808af881eb4c2f"), looks := false }, kinds := [], alts := [], laidByText := true, laidKinds := [.data], laidTests := true, laidLooks := .later }
def FnExactStarDfaCardSaid : Prop := Claim7.holds Tryd.pinned (.plain (OpenSpec.ofChange fnExactStarDfaSpec)) fnExactStarDfaCard

/-- THE SECOND FORM's CARD OF 'laws.FnDivided'. -/
def fnDividedUptoCard : Claim7 := { stood := { row := fnDividedUptoRow, standIns := [], harness := (true, "4395eb046efc5e619a9d84807170303181a104f89c49b70f13808af881eb4c2f"), looks := false }, kinds := [], alts := [], laidByText := true, laidKinds := [.data], laidTests := true, laidLooks := .later }
def FnDividedUptoCardSaid : Prop := Claim7.holds Tryd.pinned (.plain (OpenSpec.upto fnDividedSpec)) fnDividedUptoCard

/-- THE SECOND FORM's CARD OF 'laws.FnExactConcatDfa'. -/
def fnExactConcatDfaUptoCard : Claim7 := { stood := { row := fnExactConcatDfaUptoRow, standIns := [], harness := (true, "4395eb046efc5e619a9d84807170303181a104f89c49b70f13808af881eb4c2f"), looks := false }, kinds := [], alts := [], laidByText := true, laidKinds := [.data], laidTests := true, laidLooks := .later }
def FnExactConcatDfaUptoCardSaid : Prop := Claim7.holds Tryd.pinned (.plain (OpenSpec.upto fnExactConcatDfaSpec)) fnExactConcatDfaUptoCard

/-- THE SECOND FORM's CARD OF 'laws.FnExactStarDfa'. -/
def fnExactStarDfaUptoCard : Claim7 := { stood := { row := fnExactStarDfaUptoRow, standIns := [], harness := (true, "4395eb046efc5e619a9d84807170303181a104f89c49b70f13808af881eb4c2f"), looks := false }, kinds := [], alts := [], laidByText := true, laidKinds := [.data], laidTests := true, laidLooks := .later }
def FnExactStarDfaUptoCardSaid : Prop := Claim7.holds Tryd.pinned (.plain (OpenSpec.upto fnExactStarDfaSpec)) fnExactStarDfaUptoCard
end Rows
end Go.Proofs.YtlkhmpdncimnfaaDoor
