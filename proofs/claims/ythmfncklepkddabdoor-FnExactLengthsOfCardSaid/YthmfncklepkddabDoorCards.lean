/-
  DERIVED. GIVEN WITH THE SEED: THE CARDS: each row of YthmfncklepkddabDoorRows.lean that lists a variable, with what it lists TIED to the program's text (the seventh form; the later family's looks); each row that meets fmt, with fmt's text TOLD by the authors' own Lean function (tested against real Go, not proved from fmt's source: count such statements apart). THE CARD IS WHAT COUNTS. Prove the row's statement (the work); the ties are given (YthmfncklepkddabDoorTie.lean); close each card by the builder's one call (the guide's Derived/Test/ToyasCard.lean, 'card_holds'). Laid BY PROGRAM, IN A SANDBOX (cutbox-door.mjs). By AI agents, Wed Nov 11 2026. No macro, syntax, notation, axiom, sorry.
-/
import Derived.Test.YthmfncklepkddabDoorRows
import GoSem.ClaimSeven
namespace Go.Proofs.YthmfncklepkddabDoor
namespace Rows

/-- THE TIED CARD OF 'laws.FnExactIsFinite'. -/
def fnExactIsFiniteCard : Claim7 := { stood := { row := fnExactIsFiniteRow, standIns := [], harness := (true, "aa779d628656e1f995ec72043854de231088370aa3b2c79ee3e6b80fd7be9720"), looks := false }, kinds := [], alts := [], laidByText := true, laidKinds := [.data], laidTests := true, laidLooks := .later }
def FnExactIsFiniteCardSaid : Prop := Claim7.holds Tryd.pinned (.plain (OpenSpec.ofChange fnExactIsFiniteSpec)) fnExactIsFiniteCard

/-- THE TIED CARD OF 'laws.FnExactLengthsOf'. -/
def fnExactLengthsOfCard : Claim7 := { stood := { row := fnExactLengthsOfRow, standIns := [], harness := (true, "aa779d628656e1f995ec72043854de231088370aa3b2c79ee3e6b80fd7be9720"), looks := false }, kinds := [], alts := [], laidByText := true, laidKinds := [.data], laidTests := true, laidLooks := .later }
def FnExactLengthsOfCardSaid : Prop := Claim7.holds Tryd.pinned (.plain (OpenSpec.ofChange fnExactLengthsOfSpec)) fnExactLengthsOfCard

/-- THE SECOND FORM's CARD OF 'laws.FnExactIsFinite'. -/
def fnExactIsFiniteUptoCard : Claim7 := { stood := { row := fnExactIsFiniteUptoRow, standIns := [], harness := (true, "aa779d628656e1f995ec72043854de231088370aa3b2c79ee3e6b80fd7be9720"), looks := false }, kinds := [], alts := [], laidByText := true, laidKinds := [.data], laidTests := true, laidLooks := .later }
def FnExactIsFiniteUptoCardSaid : Prop := Claim7.holds Tryd.pinned (.plain (OpenSpec.upto fnExactIsFiniteSpec)) fnExactIsFiniteUptoCard

/-- THE SECOND FORM's CARD OF 'laws.FnExactLengthsOf'. -/
def fnExactLengthsOfUptoCard : Claim7 := { stood := { row := fnExactLengthsOfUptoRow, standIns := [], harness := (true, "aa779d628656e1f995ec72043854de231088370aa3b2c79ee3e6b80fd7be9720"), looks := false }, kinds := [], alts := [], laidByText := true, laidKinds := [.data], laidTests := true, laidLooks := .later }
def FnExactLengthsOfUptoCardSaid : Prop := Claim7.holds Tryd.pinned (.plain (OpenSpec.upto fnExactLengthsOfSpec)) fnExactLengthsOfUptoCard
end Rows
end Go.Proofs.YthmfncklepkddabDoor
