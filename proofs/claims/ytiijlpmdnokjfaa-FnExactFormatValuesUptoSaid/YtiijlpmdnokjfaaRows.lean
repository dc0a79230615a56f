/-
  No cell of these rows narrows 'for every input' (looked for: loops, veiled, ifaces, maps, wideKeys, modest, calm, conditions, laid).
  DERIVED. THE GIVEN ROWS OF THIS SEAT. 11 by the template 'for every input the law returns true; each argument reads behind the call as it read before'; 0 by the template 'total and deterministic' (their statements: YtiijlpmdnokjfaaTotals.lean).
  GIVEN WITH THE SEED: the statements are not yours to turn. If you find one false, say at which input.
  Laid BY PROGRAM, IN A SANDBOX (cutbox-rows.mjs): the forced cells as the released guide's own fill.sh prints them over the translation eb1dfce63f63d9a5… (all of the seat's roots in one cut). By AI agents, Wed Nov 11 2026. No macro, syntax, notation, axiom, sorry.
-/
import Derived.Test.YtiijlpmdnokjfaaChecked
import GoSem.Claim
import GoSem.ClaimJoined
import GoSem.ClaimMapViews
import Derived.JoinedTies
import Derived.KernelRfl
namespace Go.Proofs.Ytiijlpmdnokjfaa
/- THE CELL 'sum', in the pinned program and in every row, IS THE sha256 OF THE DUMP (.gsa) THAT YtiijlpmdnokjfaaProg.lean LOADS. Nothing in Lean hashes anything: it is a label: what it is worth is what the hold of that sum in a sandbox is worth. -/
noncomputable def Try.pinned : Pinned := { name := "ytiijlpmdnokjfaa", sum := "eb1dfce63f63d9a50b2d30aa6e7afbab75702e99a5141d6e7e7b0aaf4464e6ce", checked := Try.checked }
namespace Rows
def none {H : Type} : Left H := { results := [], args := [] }

/-- 'laws.FnTerms': WHATEVER THE INPUT: true; the input reads as it did. -/
def fnTermsSpec : ChangeSpec := { name := "fnTerms", fn := fun _ => fun
  | [d] => { results := [.lit (.bool true)], args := [d] }
  | _ => none }
def fnTermsRow : OpenClaim := { program := "ytiijlpmdnokjfaa", sum := "eb1dfce63f63d9a50b2d30aa6e7afbab75702e99a5141d6e7e7b0aaf4464e6ce", func := "loop.example/g00582/laws.FnTerms", spec := "fnTerms", inPlace := ["internal/bytealg.IndexByteString", "internal/abi.NoEscape", "internal/bytealg.IndexString", "internal/bytealg.CountString", "internal/bytealg.MakeNoZero"], unfollowed := true, recurses := true, named := ["internal/bytealg.MaxLen"], apart := false }
def FnTermsSaid : Prop := fnTermsRow.holds Try.pinned (OpenSpec.ofChange fnTermsSpec)

/-- ITS FALSE NEIGHBOUR: 'it returns false'. Refute it at one input. -/
def fnTermsWrong : ChangeSpec := { name := "fnTerms", fn := fun _ => fun
  | [d] => { results := [.lit (.bool false)], args := [d] }
  | _ => none }
def FnTermsWrongFalsely : Prop := fnTermsRow.holds Try.pinned (OpenSpec.ofChange fnTermsWrong)

/-- 'laws.FnExactIsTerm': WHATEVER THE INPUT: true; the input reads as it did. -/
def fnExactIsTermSpec : ChangeSpec := { name := "fnExactIsTerm", fn := fun _ => fun
  | [d] => { results := [.lit (.bool true)], args := [d] }
  | _ => none }
def fnExactIsTermRow : OpenClaim := { program := "ytiijlpmdnokjfaa", sum := "eb1dfce63f63d9a50b2d30aa6e7afbab75702e99a5141d6e7e7b0aaf4464e6ce", func := "loop.example/g00582/laws.FnExactIsTerm", spec := "fnExactIsTerm", inPlace := ["internal/bytealg.IndexByteString", "internal/bytealg.IndexString"], named := ["internal/bytealg.MaxLen"], apart := false }
def FnExactIsTermSaid : Prop := fnExactIsTermRow.holds Try.pinned (OpenSpec.ofChange fnExactIsTermSpec)

/-- ITS FALSE NEIGHBOUR: 'it returns false'. Refute it at one input. -/
def fnExactIsTermWrong : ChangeSpec := { name := "fnExactIsTerm", fn := fun _ => fun
  | [d] => { results := [.lit (.bool false)], args := [d] }
  | _ => none }
def FnExactIsTermWrongFalsely : Prop := fnExactIsTermRow.holds Try.pinned (OpenSpec.ofChange fnExactIsTermWrong)

/-- 'laws.FnExactCountByte': WHATEVER THE INPUT: true; the input reads as it did. -/
def fnExactCountByteSpec : ChangeSpec := { name := "fnExactCountByte", fn := fun _ => fun
  | [d1, d2] => { results := [.lit (.bool true)], args := [d1, d2] }
  | _ => none }
def fnExactCountByteRow : OpenClaim := { program := "ytiijlpmdnokjfaa", sum := "eb1dfce63f63d9a50b2d30aa6e7afbab75702e99a5141d6e7e7b0aaf4464e6ce", func := "loop.example/g00582/laws.FnExactCountByte", spec := "fnExactCountByte", inPlace := ["internal/bytealg.CountString", "internal/bytealg.IndexByteString", "internal/bytealg.IndexString"], named := ["internal/bytealg.MaxLen"], apart := false }
def FnExactCountByteSaid : Prop := fnExactCountByteRow.holds Try.pinned (OpenSpec.ofChange fnExactCountByteSpec)

/-- ITS FALSE NEIGHBOUR: 'it returns false'. Refute it at one input. -/
def fnExactCountByteWrong : ChangeSpec := { name := "fnExactCountByte", fn := fun _ => fun
  | [d1, d2] => { results := [.lit (.bool false)], args := [d1, d2] }
  | _ => none }
def FnExactCountByteWrongFalsely : Prop := fnExactCountByteRow.holds Try.pinned (OpenSpec.ofChange fnExactCountByteWrong)

/-- 'laws.FnExactVarsOf': WHATEVER THE INPUT: true; the input reads as it did. -/
def fnExactVarsOfSpec : ChangeSpec := { name := "fnExactVarsOf", fn := fun _ => fun
  | [d] => { results := [.lit (.bool true)], args := [d] }
  | _ => none }
def fnExactVarsOfRow : OpenClaim := { program := "ytiijlpmdnokjfaa", sum := "eb1dfce63f63d9a50b2d30aa6e7afbab75702e99a5141d6e7e7b0aaf4464e6ce", func := "loop.example/g00582/laws.FnExactVarsOf", spec := "fnExactVarsOf", inPlace := ["internal/bytealg.IndexByteString", "internal/bytealg.IndexString"], named := ["internal/bytealg.MaxLen"], apart := false }
def FnExactVarsOfSaid : Prop := fnExactVarsOfRow.holds Try.pinned (OpenSpec.ofChange fnExactVarsOfSpec)

/-- ITS FALSE NEIGHBOUR: 'it returns false'. Refute it at one input. -/
def fnExactVarsOfWrong : ChangeSpec := { name := "fnExactVarsOf", fn := fun _ => fun
  | [d] => { results := [.lit (.bool false)], args := [d] }
  | _ => none }
def FnExactVarsOfWrongFalsely : Prop := fnExactVarsOfRow.holds Try.pinned (OpenSpec.ofChange fnExactVarsOfWrong)

/-- 'laws.FnExactReplaceVar': WHATEVER THE INPUT: true; the input reads as it did. -/
def fnExactReplaceVarSpec : ChangeSpec := { name := "fnExactReplaceVar", fn := fun _ => fun
  | [d1, d2, d3] => { results := [.lit (.bool true)], args := [d1, d2, d3] }
  | _ => none }
def fnExactReplaceVarRow : OpenClaim := { program := "ytiijlpmdnokjfaa", sum := "eb1dfce63f63d9a50b2d30aa6e7afbab75702e99a5141d6e7e7b0aaf4464e6ce", func := "loop.example/g00582/laws.FnExactReplaceVar", spec := "fnExactReplaceVar", inPlace := ["internal/abi.NoEscape"], unfollowed := true, recurses := true, apart := false }
def FnExactReplaceVarSaid : Prop := fnExactReplaceVarRow.holds Try.pinned (OpenSpec.ofChange fnExactReplaceVarSpec)

/-- ITS FALSE NEIGHBOUR: 'it returns false'. Refute it at one input. -/
def fnExactReplaceVarWrong : ChangeSpec := { name := "fnExactReplaceVar", fn := fun _ => fun
  | [d1, d2, d3] => { results := [.lit (.bool false)], args := [d1, d2, d3] }
  | _ => none }
def FnExactReplaceVarWrongFalsely : Prop := fnExactReplaceVarRow.holds Try.pinned (OpenSpec.ofChange fnExactReplaceVarWrong)

/-- 'laws.FnExactIsValues': WHATEVER THE INPUT: true; the input reads as it did. -/
def fnExactIsValuesSpec : ChangeSpec := { name := "fnExactIsValues", fn := fun _ => fun
  | [d] => { results := [.lit (.bool true)], args := [d] }
  | _ => none }
def fnExactIsValuesRow : OpenClaim := { program := "ytiijlpmdnokjfaa", sum := "eb1dfce63f63d9a50b2d30aa6e7afbab75702e99a5141d6e7e7b0aaf4464e6ce", func := "loop.example/g00582/laws.FnExactIsValues", spec := "fnExactIsValues", inPlace := ["internal/bytealg.IndexByteString"], apart := false }
def FnExactIsValuesSaid : Prop := fnExactIsValuesRow.holds Try.pinned (OpenSpec.ofChange fnExactIsValuesSpec)

/-- ITS FALSE NEIGHBOUR: 'it returns false'. Refute it at one input. -/
def fnExactIsValuesWrong : ChangeSpec := { name := "fnExactIsValues", fn := fun _ => fun
  | [d] => { results := [.lit (.bool false)], args := [d] }
  | _ => none }
def FnExactIsValuesWrongFalsely : Prop := fnExactIsValuesRow.holds Try.pinned (OpenSpec.ofChange fnExactIsValuesWrong)

/-- 'laws.FnExactValueOf': WHATEVER THE INPUT: true; the input reads as it did. -/
def fnExactValueOfSpec : ChangeSpec := { name := "fnExactValueOf", fn := fun _ => fun
  | [d1, d2] => { results := [.lit (.bool true)], args := [d1, d2] }
  | _ => none }
def fnExactValueOfRow : OpenClaim := { program := "ytiijlpmdnokjfaa", sum := "eb1dfce63f63d9a50b2d30aa6e7afbab75702e99a5141d6e7e7b0aaf4464e6ce", func := "loop.example/g00582/laws.FnExactValueOf", spec := "fnExactValueOf", apart := false }
def FnExactValueOfSaid : Prop := fnExactValueOfRow.holds Try.pinned (OpenSpec.ofChange fnExactValueOfSpec)

/-- ITS FALSE NEIGHBOUR: 'it returns false'. Refute it at one input. -/
def fnExactValueOfWrong : ChangeSpec := { name := "fnExactValueOf", fn := fun _ => fun
  | [d1, d2] => { results := [.lit (.bool false)], args := [d1, d2] }
  | _ => none }
def FnExactValueOfWrongFalsely : Prop := fnExactValueOfRow.holds Try.pinned (OpenSpec.ofChange fnExactValueOfWrong)

/-- 'laws.FnExactWithValue': WHATEVER THE INPUT: true; the input reads as it did. -/
def fnExactWithValueSpec : ChangeSpec := { name := "fnExactWithValue", fn := fun _ => fun
  | [d1, d2, d3] => { results := [.lit (.bool true)], args := [d1, d2, d3] }
  | _ => none }
def fnExactWithValueRow : OpenClaim := { program := "ytiijlpmdnokjfaa", sum := "eb1dfce63f63d9a50b2d30aa6e7afbab75702e99a5141d6e7e7b0aaf4464e6ce", func := "loop.example/g00582/laws.FnExactWithValue", spec := "fnExactWithValue", apart := false }
def FnExactWithValueSaid : Prop := fnExactWithValueRow.holds Try.pinned (OpenSpec.ofChange fnExactWithValueSpec)

/-- ITS FALSE NEIGHBOUR: 'it returns false'. Refute it at one input. -/
def fnExactWithValueWrong : ChangeSpec := { name := "fnExactWithValue", fn := fun _ => fun
  | [d1, d2, d3] => { results := [.lit (.bool false)], args := [d1, d2, d3] }
  | _ => none }
def FnExactWithValueWrongFalsely : Prop := fnExactWithValueRow.holds Try.pinned (OpenSpec.ofChange fnExactWithValueWrong)

/-- 'laws.FnExactApplyValues': WHATEVER THE INPUT: true; the input reads as it did. -/
def fnExactApplyValuesSpec : ChangeSpec := { name := "fnExactApplyValues", fn := fun _ => fun
  | [d1, d2] => { results := [.lit (.bool true)], args := [d1, d2] }
  | _ => none }
def fnExactApplyValuesRow : OpenClaim := { program := "ytiijlpmdnokjfaa", sum := "eb1dfce63f63d9a50b2d30aa6e7afbab75702e99a5141d6e7e7b0aaf4464e6ce", func := "loop.example/g00582/laws.FnExactApplyValues", spec := "fnExactApplyValues", inPlace := ["internal/bytealg.IndexByteString", "internal/abi.NoEscape"], unfollowed := true, recurses := true, apart := false }
def FnExactApplyValuesSaid : Prop := fnExactApplyValuesRow.holds Try.pinned (OpenSpec.ofChange fnExactApplyValuesSpec)

/-- ITS FALSE NEIGHBOUR: 'it returns false'. Refute it at one input. -/
def fnExactApplyValuesWrong : ChangeSpec := { name := "fnExactApplyValues", fn := fun _ => fun
  | [d1, d2] => { results := [.lit (.bool false)], args := [d1, d2] }
  | _ => none }
def FnExactApplyValuesWrongFalsely : Prop := fnExactApplyValuesRow.holds Try.pinned (OpenSpec.ofChange fnExactApplyValuesWrong)

/-- 'laws.FnExactFormatValues': WHATEVER THE INPUT: true; the input reads as it did. -/
def fnExactFormatValuesSpec : ChangeSpec := { name := "fnExactFormatValues", fn := fun _ => fun
  | [d1, d2] => { results := [.lit (.bool true)], args := [d1, d2] }
  | _ => none }
def fnExactFormatValuesRow : OpenClaim := { program := "ytiijlpmdnokjfaa", sum := "eb1dfce63f63d9a50b2d30aa6e7afbab75702e99a5141d6e7e7b0aaf4464e6ce", func := "loop.example/g00582/laws.FnExactFormatValues", spec := "fnExactFormatValues", inPlace := ["internal/bytealg.IndexByteString", "internal/bytealg.IndexString", "internal/abi.NoEscape", "internal/bytealg.MakeNoZero"], named := ["internal/bytealg.MaxLen"], apart := false }
def FnExactFormatValuesSaid : Prop := fnExactFormatValuesRow.holds Try.pinned (OpenSpec.ofChange fnExactFormatValuesSpec)

/-- ITS FALSE NEIGHBOUR: 'it returns false'. Refute it at one input. -/
def fnExactFormatValuesWrong : ChangeSpec := { name := "fnExactFormatValues", fn := fun _ => fun
  | [d1, d2] => { results := [.lit (.bool false)], args := [d1, d2] }
  | _ => none }
def FnExactFormatValuesWrongFalsely : Prop := fnExactFormatValuesRow.holds Try.pinned (OpenSpec.ofChange fnExactFormatValuesWrong)

/-- 'laws.FnExactCountWords': WHATEVER THE INPUT: true; the input reads as it did. -/
def fnExactCountWordsSpec : ChangeSpec := { name := "fnExactCountWords", fn := fun _ => fun
  | [d1, d2] => { results := [.lit (.bool true)], args := [d1, d2] }
  | _ => none }
def fnExactCountWordsRow : OpenClaim := { program := "ytiijlpmdnokjfaa", sum := "eb1dfce63f63d9a50b2d30aa6e7afbab75702e99a5141d6e7e7b0aaf4464e6ce", func := "loop.example/g00582/laws.FnExactCountWords", spec := "fnExactCountWords", apart := false }
def FnExactCountWordsSaid : Prop := fnExactCountWordsRow.holds Try.pinned (OpenSpec.ofChange fnExactCountWordsSpec)

/-- ITS FALSE NEIGHBOUR: 'it returns false'. Refute it at one input. -/
def fnExactCountWordsWrong : ChangeSpec := { name := "fnExactCountWords", fn := fun _ => fun
  | [d1, d2] => { results := [.lit (.bool false)], args := [d1, d2] }
  | _ => none }
def FnExactCountWordsWrongFalsely : Prop := fnExactCountWordsRow.holds Try.pinned (OpenSpec.ofChange fnExactCountWordsWrong)

/- THE SECOND FORM. 'bulk': how many values and letters a reading holds, each counted each time it is reached (what is shared counts as often as it is met; a slice's spare places count too). A statement '..UptoSaid' is the law's where the arguments, and the package variables that the reading takes, are together of bulk at most 1048576: NARROWER than '..Said'. Prove '..Said' where nothing that the law and all that it calls make is longer than what came in: it says more and counts as full. Else prove '..UptoSaid'. A law counts once. -/
mutual
def uptoBulk {H : Type} : DataW H → Nat
  | .lit (.string bytes) => bytes.length + 1
  | .lit _ => 1
  | .nil => 1
  | .ptr d => uptoBulk d + 1
  | .slice elems spare => uptoBulkAll elems + uptoBulkAll spare + 1
  | .agg parts => uptoBulkAll parts + 1
  | .iface _ d => uptoBulk d + 1
  | .map entries => uptoBulkEntries entries + 1
  | .held _ => 1
def uptoBulkAll {H : Type} : List (DataW H) → Nat
  | [] => 0
  | d :: r => uptoBulk d + uptoBulkAll r
def uptoBulkEntries {H : Type} : List (Lit × DataW H) → Nat
  | [] => 0
  | x :: r => uptoBulkEntry x + uptoBulkEntries r
def uptoBulkEntry {H : Type} : Lit × DataW H → Nat
  | (.string bytes, d) => bytes.length + uptoBulk d + 1
  | (_, d) => uptoBulk d + 1
 end
def uptoSmall : (H : Type) → List (DataW H) → Bool := fun _ ds => decide (uptoBulkAll ds ≤ 1048576)
def OpenSpec.upto (s : _root_.Go.ChangeSpec) : _root_.Go.OpenSpec := { _root_.Go.OpenSpec.ofChange s with cond := some uptoSmall }

/-- 'laws.FnTerms', WHERE WHAT IT READS IS OF BULK AT MOST 1048576: true; the input reads as it did. -/
def fnTermsUptoRow : OpenClaim := { program := "ytiijlpmdnokjfaa", sum := "eb1dfce63f63d9a50b2d30aa6e7afbab75702e99a5141d6e7e7b0aaf4464e6ce", func := "loop.example/g00582/laws.FnTerms", spec := "fnTerms", inPlace := ["internal/bytealg.IndexByteString", "internal/abi.NoEscape", "internal/bytealg.IndexString", "internal/bytealg.CountString", "internal/bytealg.MakeNoZero"], unfollowed := true, recurses := true, named := ["internal/bytealg.MaxLen"], apart := false, narrowed := true }
def FnTermsUptoSaid : Prop := fnTermsUptoRow.holds Try.pinned (OpenSpec.upto fnTermsSpec)

/-- 'laws.FnExactIsTerm', WHERE WHAT IT READS IS OF BULK AT MOST 1048576: true; the input reads as it did. -/
def fnExactIsTermUptoRow : OpenClaim := { program := "ytiijlpmdnokjfaa", sum := "eb1dfce63f63d9a50b2d30aa6e7afbab75702e99a5141d6e7e7b0aaf4464e6ce", func := "loop.example/g00582/laws.FnExactIsTerm", spec := "fnExactIsTerm", inPlace := ["internal/bytealg.IndexByteString", "internal/bytealg.IndexString"], named := ["internal/bytealg.MaxLen"], apart := false, narrowed := true }
def FnExactIsTermUptoSaid : Prop := fnExactIsTermUptoRow.holds Try.pinned (OpenSpec.upto fnExactIsTermSpec)

/-- 'laws.FnExactCountByte', WHERE WHAT IT READS IS OF BULK AT MOST 1048576: true; the input reads as it did. -/
def fnExactCountByteUptoRow : OpenClaim := { program := "ytiijlpmdnokjfaa", sum := "eb1dfce63f63d9a50b2d30aa6e7afbab75702e99a5141d6e7e7b0aaf4464e6ce", func := "loop.example/g00582/laws.FnExactCountByte", spec := "fnExactCountByte", inPlace := ["internal/bytealg.CountString", "internal/bytealg.IndexByteString", "internal/bytealg.IndexString"], named := ["internal/bytealg.MaxLen"], apart := false, narrowed := true }
def FnExactCountByteUptoSaid : Prop := fnExactCountByteUptoRow.holds Try.pinned (OpenSpec.upto fnExactCountByteSpec)

/-- 'laws.FnExactVarsOf', WHERE WHAT IT READS IS OF BULK AT MOST 1048576: true; the input reads as it did. -/
def fnExactVarsOfUptoRow : OpenClaim := { program := "ytiijlpmdnokjfaa", sum := "eb1dfce63f63d9a50b2d30aa6e7afbab75702e99a5141d6e7e7b0aaf4464e6ce", func := "loop.example/g00582/laws.FnExactVarsOf", spec := "fnExactVarsOf", inPlace := ["internal/bytealg.IndexByteString", "internal/bytealg.IndexString"], named := ["internal/bytealg.MaxLen"], apart := false, narrowed := true }
def FnExactVarsOfUptoSaid : Prop := fnExactVarsOfUptoRow.holds Try.pinned (OpenSpec.upto fnExactVarsOfSpec)

/-- 'laws.FnExactReplaceVar', WHERE WHAT IT READS IS OF BULK AT MOST 1048576: true; the input reads as it did. -/
def fnExactReplaceVarUptoRow : OpenClaim := { program := "ytiijlpmdnokjfaa", sum := "eb1dfce63f63d9a50b2d30aa6e7afbab75702e99a5141d6e7e7b0aaf4464e6ce", func := "loop.example/g00582/laws.FnExactReplaceVar", spec := "fnExactReplaceVar", inPlace := ["internal/abi.NoEscape"], unfollowed := true, recurses := true, apart := false, narrowed := true }
def FnExactReplaceVarUptoSaid : Prop := fnExactReplaceVarUptoRow.holds Try.pinned (OpenSpec.upto fnExactReplaceVarSpec)

/-- 'laws.FnExactIsValues', WHERE WHAT IT READS IS OF BULK AT MOST 1048576: true; the input reads as it did. -/
def fnExactIsValuesUptoRow : OpenClaim := { program := "ytiijlpmdnokjfaa", sum := "eb1dfce63f63d9a50b2d30aa6e7afbab75702e99a5141d6e7e7b0aaf4464e6ce", func := "loop.example/g00582/laws.FnExactIsValues", spec := "fnExactIsValues", inPlace := ["internal/bytealg.IndexByteString"], apart := false, narrowed := true }
def FnExactIsValuesUptoSaid : Prop := fnExactIsValuesUptoRow.holds Try.pinned (OpenSpec.upto fnExactIsValuesSpec)

/-- 'laws.FnExactValueOf', WHERE WHAT IT READS IS OF BULK AT MOST 1048576: true; the input reads as it did. -/
def fnExactValueOfUptoRow : OpenClaim := { program := "ytiijlpmdnokjfaa", sum := "eb1dfce63f63d9a50b2d30aa6e7afbab75702e99a5141d6e7e7b0aaf4464e6ce", func := "loop.example/g00582/laws.FnExactValueOf", spec := "fnExactValueOf", apart := false, narrowed := true }
def FnExactValueOfUptoSaid : Prop := fnExactValueOfUptoRow.holds Try.pinned (OpenSpec.upto fnExactValueOfSpec)

/-- 'laws.FnExactWithValue', WHERE WHAT IT READS IS OF BULK AT MOST 1048576: true; the input reads as it did. -/
def fnExactWithValueUptoRow : OpenClaim := { program := "ytiijlpmdnokjfaa", sum := "eb1dfce63f63d9a50b2d30aa6e7afbab75702e99a5141d6e7e7b0aaf4464e6ce", func := "loop.example/g00582/laws.FnExactWithValue", spec := "fnExactWithValue", apart := false, narrowed := true }
def FnExactWithValueUptoSaid : Prop := fnExactWithValueUptoRow.holds Try.pinned (OpenSpec.upto fnExactWithValueSpec)

/-- 'laws.FnExactApplyValues', WHERE WHAT IT READS IS OF BULK AT MOST 1048576: true; the input reads as it did. -/
def fnExactApplyValuesUptoRow : OpenClaim := { program := "ytiijlpmdnokjfaa", sum := "eb1dfce63f63d9a50b2d30aa6e7afbab75702e99a5141d6e7e7b0aaf4464e6ce", func := "loop.example/g00582/laws.FnExactApplyValues", spec := "fnExactApplyValues", inPlace := ["internal/bytealg.IndexByteString", "internal/abi.NoEscape"], unfollowed := true, recurses := true, apart := false, narrowed := true }
def FnExactApplyValuesUptoSaid : Prop := fnExactApplyValuesUptoRow.holds Try.pinned (OpenSpec.upto fnExactApplyValuesSpec)

/-- 'laws.FnExactFormatValues', WHERE WHAT IT READS IS OF BULK AT MOST 1048576: true; the input reads as it did. -/
def fnExactFormatValuesUptoRow : OpenClaim := { program := "ytiijlpmdnokjfaa", sum := "eb1dfce63f63d9a50b2d30aa6e7afbab75702e99a5141d6e7e7b0aaf4464e6ce", func := "loop.example/g00582/laws.FnExactFormatValues", spec := "fnExactFormatValues", inPlace := ["internal/bytealg.IndexByteString", "internal/bytealg.IndexString", "internal/abi.NoEscape", "internal/bytealg.MakeNoZero"], named := ["internal/bytealg.MaxLen"], apart := false, narrowed := true }
def FnExactFormatValuesUptoSaid : Prop := fnExactFormatValuesUptoRow.holds Try.pinned (OpenSpec.upto fnExactFormatValuesSpec)

/-- 'laws.FnExactCountWords', WHERE WHAT IT READS IS OF BULK AT MOST 1048576: true; the input reads as it did. -/
def fnExactCountWordsUptoRow : OpenClaim := { program := "ytiijlpmdnokjfaa", sum := "eb1dfce63f63d9a50b2d30aa6e7afbab75702e99a5141d6e7e7b0aaf4464e6ce", func := "loop.example/g00582/laws.FnExactCountWords", spec := "fnExactCountWords", apart := false, narrowed := true }
def FnExactCountWordsUptoSaid : Prop := fnExactCountWordsUptoRow.holds Try.pinned (OpenSpec.upto fnExactCountWordsSpec)

end Rows
end Go.Proofs.Ytiijlpmdnokjfaa
