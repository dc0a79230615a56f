/-
  NARROWER THAN 'FOR EVERY INPUT', by the rows' own cells (each row's printed sentence says how): FnExactIsValidRegex: loops · FnExactEqualRegex: loops · FnExactFormatRegex: loops.
  DERIVED. THE GIVEN ROWS OF THIS SEAT. 5 by the template 'for every input the law returns true; each argument reads behind the call as it read before'; 0 by the template 'total and deterministic' (their statements: YtfhghgbiemjddaaTotals.lean).
  GIVEN WITH THE SEED: the statements are not yours to turn. If you find one false, say at which input.
  Laid BY PROGRAM, IN A SANDBOX (cutbox-rows.mjs): the forced cells as the released guide's own fill.sh prints them over the translation 1880ec5db1a0cf46… (all of the seat's roots in one cut). By AI agents, Wed Nov 11 2026. No macro, syntax, notation, axiom, sorry.
-/
import Derived.Test.YtfhghgbiemjddaaChecked
import GoSem.Claim
import GoSem.ClaimJoined
import GoSem.ClaimMapViews
import Derived.JoinedTies
import Derived.KernelRfl
namespace Go.Proofs.Ytfhghgbiemjddaa
/- THE CELL 'sum', in the pinned program and in every row, IS THE sha256 OF THE DUMP (.gsa) THAT YtfhghgbiemjddaaProg.lean LOADS. Nothing in Lean hashes anything: it is a label: what it is worth is what the hold of that sum in a sandbox is worth. -/
noncomputable def Try.pinned : Pinned := { name := "ytfhghgbiemjddaa", sum := "1880ec5db1a0cf46af0e0999c07d416c717874cb92898f1f7a10a47c6ac45f15", checked := Try.checked }
namespace Rows
def none {H : Type} : Left H := { results := [], args := [] }

/-- 'laws.FnRegexText': WHATEVER THE INPUT: true; the input reads as it did. -/
def fnRegexTextSpec : ChangeSpec := { name := "fnRegexText", fn := fun _ => fun
  | [d] => { results := [.lit (.bool true)], args := [d] }
  | _ => none }
def fnRegexTextRow : OpenClaim := { program := "ytfhghgbiemjddaa", sum := "1880ec5db1a0cf46af0e0999c07d416c717874cb92898f1f7a10a47c6ac45f15", func := "loop.example/g00582/laws.FnRegexText", spec := "fnRegexText", inPlace := ["internal/bytealg.IndexByteString"], unfollowed := true, recurses := true, apart := false }
def FnRegexTextSaid : Prop := fnRegexTextRow.holds Try.pinned (OpenSpec.ofChange fnRegexTextSpec)

/-- ITS FALSE NEIGHBOUR: 'it returns false'. Refute it at one input. -/
def fnRegexTextWrong : ChangeSpec := { name := "fnRegexText", fn := fun _ => fun
  | [d] => { results := [.lit (.bool false)], args := [d] }
  | _ => none }
def FnRegexTextWrongFalsely : Prop := fnRegexTextRow.holds Try.pinned (OpenSpec.ofChange fnRegexTextWrong)

/-- 'laws.FnExactIsValidRegex': WHATEVER THE INPUT: true; the input reads as it did. -/
def fnExactIsValidRegexSpec : ChangeSpec := { name := "fnExactIsValidRegex", fn := fun _ => fun
  | [d] => { results := [.lit (.bool true)], args := [d] }
  | _ => none }
def fnExactIsValidRegexRow : OpenClaim := { program := "ytfhghgbiemjddaa", sum := "1880ec5db1a0cf46af0e0999c07d416c717874cb92898f1f7a10a47c6ac45f15", func := "loop.example/g00582/laws.FnExactIsValidRegex", spec := "fnExactIsValidRegex", inPlace := ["internal/bytealg.IndexByteString"], unfollowed := true, recurses := true, loops := true, apart := false }
def FnExactIsValidRegexSaid : Prop := fnExactIsValidRegexRow.holds Try.pinned (OpenSpec.ofChange fnExactIsValidRegexSpec)

/-- ITS FALSE NEIGHBOUR: 'it returns false'. Refute it at one input. -/
def fnExactIsValidRegexWrong : ChangeSpec := { name := "fnExactIsValidRegex", fn := fun _ => fun
  | [d] => { results := [.lit (.bool false)], args := [d] }
  | _ => none }
def FnExactIsValidRegexWrongFalsely : Prop := fnExactIsValidRegexRow.holds Try.pinned (OpenSpec.ofChange fnExactIsValidRegexWrong)

/-- 'laws.FnExactEqualRegex': WHATEVER THE INPUT: true; the input reads as it did. -/
def fnExactEqualRegexSpec : ChangeSpec := { name := "fnExactEqualRegex", fn := fun _ => fun
  | [d1, d2] => { results := [.lit (.bool true)], args := [d1, d2] }
  | _ => none }
def fnExactEqualRegexRow : OpenClaim := { program := "ytfhghgbiemjddaa", sum := "1880ec5db1a0cf46af0e0999c07d416c717874cb92898f1f7a10a47c6ac45f15", func := "loop.example/g00582/laws.FnExactEqualRegex", spec := "fnExactEqualRegex", recurses := true, loops := true, apart := false }
def FnExactEqualRegexSaid : Prop := fnExactEqualRegexRow.holds Try.pinned (OpenSpec.ofChange fnExactEqualRegexSpec)

/-- ITS FALSE NEIGHBOUR: 'it returns false'. Refute it at one input. -/
def fnExactEqualRegexWrong : ChangeSpec := { name := "fnExactEqualRegex", fn := fun _ => fun
  | [d1, d2] => { results := [.lit (.bool false)], args := [d1, d2] }
  | _ => none }
def FnExactEqualRegexWrongFalsely : Prop := fnExactEqualRegexRow.holds Try.pinned (OpenSpec.ofChange fnExactEqualRegexWrong)

/-- 'laws.FnExactFormatRegex': WHATEVER THE INPUT: true; the input reads as it did. -/
def fnExactFormatRegexSpec : ChangeSpec := { name := "fnExactFormatRegex", fn := fun _ => fun
  | [d] => { results := [.lit (.bool true)], args := [d] }
  | _ => none }
def fnExactFormatRegexRow : OpenClaim := { program := "ytfhghgbiemjddaa", sum := "1880ec5db1a0cf46af0e0999c07d416c717874cb92898f1f7a10a47c6ac45f15", func := "loop.example/g00582/laws.FnExactFormatRegex", spec := "fnExactFormatRegex", inPlace := ["internal/bytealg.IndexByteString"], unfollowed := true, recurses := true, loops := true, apart := false }
def FnExactFormatRegexSaid : Prop := fnExactFormatRegexRow.holds Try.pinned (OpenSpec.ofChange fnExactFormatRegexSpec)

/-- ITS FALSE NEIGHBOUR: 'it returns false'. Refute it at one input. -/
def fnExactFormatRegexWrong : ChangeSpec := { name := "fnExactFormatRegex", fn := fun _ => fun
  | [d] => { results := [.lit (.bool false)], args := [d] }
  | _ => none }
def FnExactFormatRegexWrongFalsely : Prop := fnExactFormatRegexRow.holds Try.pinned (OpenSpec.ofChange fnExactFormatRegexWrong)

/-- 'laws.FnExactParseRegex': WHATEVER THE INPUT: true; the input reads as it did. -/
def fnExactParseRegexSpec : ChangeSpec := { name := "fnExactParseRegex", fn := fun _ => fun
  | [d] => { results := [.lit (.bool true)], args := [d] }
  | _ => none }
def fnExactParseRegexRow : OpenClaim := { program := "ytfhghgbiemjddaa", sum := "1880ec5db1a0cf46af0e0999c07d416c717874cb92898f1f7a10a47c6ac45f15", func := "loop.example/g00582/laws.FnExactParseRegex", spec := "fnExactParseRegex", inPlace := ["internal/bytealg.IndexByteString"], unfollowed := true, recurses := true, apart := false }
def FnExactParseRegexSaid : Prop := fnExactParseRegexRow.holds Try.pinned (OpenSpec.ofChange fnExactParseRegexSpec)

/-- ITS FALSE NEIGHBOUR: 'it returns false'. Refute it at one input. -/
def fnExactParseRegexWrong : ChangeSpec := { name := "fnExactParseRegex", fn := fun _ => fun
  | [d] => { results := [.lit (.bool false)], args := [d] }
  | _ => none }
def FnExactParseRegexWrongFalsely : Prop := fnExactParseRegexRow.holds Try.pinned (OpenSpec.ofChange fnExactParseRegexWrong)

/- THE SECOND FORM. 'bulk': how many values and letters a reading holds, each counted each time it is reached (what is shared counts as often as it is met; a slice's spare places count too). A statement '..UptoSaid' is the law's where the arguments, and the package variables that the reading takes, are together of bulk at most 1048576: NARROWER than '..Said'. Prove '..Said' where nothing that the law and all that it calls make is longer than what came in: it says more and counts as full. Else prove '..UptoSaid'. A law counts once. -/
mutual
def uptoBulk {H : Type} : DataW H → Nat
  | .lit (.string bytes) => bytes.length + 1
  | .lit _ => 1
  | .nil => 1
  | .ptr d => uptoBulk d + 1
  | .slice elems spare => uptoBulkAll elems + uptoBulkAll spare + 1
  | .agg parts => uptoBulkAll parts + 1
  | .iface _ d => uptoBulk d + 1
  | .map entries => uptoBulkEntries entries + 1
  | .held _ => 1
def uptoBulkAll {H : Type} : List (DataW H) → Nat
  | [] => 0
  | d :: r => uptoBulk d + uptoBulkAll r
def uptoBulkEntries {H : Type} : List (Lit × DataW H) → Nat
  | [] => 0
  | x :: r => uptoBulkEntry x + uptoBulkEntries r
def uptoBulkEntry {H : Type} : Lit × DataW H → Nat
  | (.string bytes, d) => bytes.length + uptoBulk d + 1
  | (_, d) => uptoBulk d + 1
 end
def uptoSmall : (H : Type) → List (DataW H) → Bool := fun _ ds => decide (uptoBulkAll ds ≤ 1048576)
def OpenSpec.upto (s : _root_.Go.ChangeSpec) : _root_.Go.OpenSpec := { _root_.Go.OpenSpec.ofChange s with cond := some uptoSmall }

/-- 'laws.FnRegexText', WHERE WHAT IT READS IS OF BULK AT MOST 1048576: true; the input reads as it did. -/
def fnRegexTextUptoRow : OpenClaim := { program := "ytfhghgbiemjddaa", sum := "1880ec5db1a0cf46af0e0999c07d416c717874cb92898f1f7a10a47c6ac45f15", func := "loop.example/g00582/laws.FnRegexText", spec := "fnRegexText", inPlace := ["internal/bytealg.IndexByteString"], unfollowed := true, recurses := true, apart := false, narrowed := true }
def FnRegexTextUptoSaid : Prop := fnRegexTextUptoRow.holds Try.pinned (OpenSpec.upto fnRegexTextSpec)

/-- 'laws.FnExactIsValidRegex', WHERE WHAT IT READS IS OF BULK AT MOST 1048576: true; the input reads as it did. -/
def fnExactIsValidRegexUptoRow : OpenClaim := { program := "ytfhghgbiemjddaa", sum := "1880ec5db1a0cf46af0e0999c07d416c717874cb92898f1f7a10a47c6ac45f15", func := "loop.example/g00582/laws.FnExactIsValidRegex", spec := "fnExactIsValidRegex", inPlace := ["internal/bytealg.IndexByteString"], unfollowed := true, recurses := true, loops := true, apart := false, narrowed := true }
def FnExactIsValidRegexUptoSaid : Prop := fnExactIsValidRegexUptoRow.holds Try.pinned (OpenSpec.upto fnExactIsValidRegexSpec)

/-- 'laws.FnExactEqualRegex', WHERE WHAT IT READS IS OF BULK AT MOST 1048576: true; the input reads as it did. -/
def fnExactEqualRegexUptoRow : OpenClaim := { program := "ytfhghgbiemjddaa", sum := "1880ec5db1a0cf46af0e0999c07d416c717874cb92898f1f7a10a47c6ac45f15", func := "loop.example/g00582/laws.FnExactEqualRegex", spec := "fnExactEqualRegex", recurses := true, loops := true, apart := false, narrowed := true }
def FnExactEqualRegexUptoSaid : Prop := fnExactEqualRegexUptoRow.holds Try.pinned (OpenSpec.upto fnExactEqualRegexSpec)

/-- 'laws.FnExactFormatRegex', WHERE WHAT IT READS IS OF BULK AT MOST 1048576: true; the input reads as it did. -/
def fnExactFormatRegexUptoRow : OpenClaim := { program := "ytfhghgbiemjddaa", sum := "1880ec5db1a0cf46af0e0999c07d416c717874cb92898f1f7a10a47c6ac45f15", func := "loop.example/g00582/laws.FnExactFormatRegex", spec := "fnExactFormatRegex", inPlace := ["internal/bytealg.IndexByteString"], unfollowed := true, recurses := true, loops := true, apart := false, narrowed := true }
def FnExactFormatRegexUptoSaid : Prop := fnExactFormatRegexUptoRow.holds Try.pinned (OpenSpec.upto fnExactFormatRegexSpec)

/-- 'laws.FnExactParseRegex', WHERE WHAT IT READS IS OF BULK AT MOST 1048576: true; the input reads as it did. -/
def fnExactParseRegexUptoRow : OpenClaim := { program := "ytfhghgbiemjddaa", sum := "1880ec5db1a0cf46af0e0999c07d416c717874cb92898f1f7a10a47c6ac45f15", func := "loop.example/g00582/laws.FnExactParseRegex", spec := "fnExactParseRegex", inPlace := ["internal/bytealg.IndexByteString"], unfollowed := true, recurses := true, apart := false, narrowed := true }
def FnExactParseRegexUptoSaid : Prop := fnExactParseRegexUptoRow.holds Try.pinned (OpenSpec.upto fnExactParseRegexSpec)

end Rows
end Go.Proofs.Ytfhghgbiemjddaa
