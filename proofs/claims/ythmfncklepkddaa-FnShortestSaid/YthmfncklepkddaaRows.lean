/-
  No cell of these rows narrows 'for every input' (looked for: loops, veiled, ifaces, maps, wideKeys, modest, calm, conditions, laid).
  DERIVED. THE GIVEN ROWS OF THIS SEAT. 9 by the template 'for every input the law returns true; each argument reads behind the call as it read before'; 0 by the template 'total and deterministic' (their statements: YthmfncklepkddaaTotals.lean).
  GIVEN WITH THE SEED: the statements are not yours to turn. If you find one false, say at which input.
  Laid BY PROGRAM, IN A SANDBOX (cutbox-rows.mjs): the forced cells as the released guide's own fill.sh prints them over the translation a6c7c3c0f8a47bd3… (all of the seat's roots in one cut). By AI agents, Wed Nov 11 2026. No macro, syntax, notation, axiom, sorry.
-/
import Derived.Test.YthmfncklepkddaaChecked
import GoSem.Claim
import GoSem.ClaimJoined
import GoSem.ClaimMapViews
import Derived.JoinedTies
import Derived.KernelRfl
namespace Go.Proofs.Ythmfncklepkddaa
/- THE CELL 'sum', in the pinned program and in every row, IS THE sha256 OF THE DUMP (.gsa) THAT YthmfncklepkddaaProg.lean LOADS. Nothing in Lean hashes anything: it is a label: what it is worth is what the hold of that sum in a sandbox is worth. -/
noncomputable def Try.pinned : Pinned := { name := "ythmfncklepkddaa", sum := "a6c7c3c0f8a47bd321d8347a8056279840f5a7b1918a350fd644cf5c0b121ac9", checked := Try.checked }
namespace Rows
def none {H : Type} : Left H := { results := [], args := [] }

/-- 'laws.FnMinimal': WHATEVER THE INPUT: true; the input reads as it did. -/
def fnMinimalSpec : ChangeSpec := { name := "fnMinimal", fn := fun _ => fun
  | [d] => { results := [.lit (.bool true)], args := [d] }
  | _ => none }
def fnMinimalRow : OpenClaim := { program := "ythmfncklepkddaa", sum := "a6c7c3c0f8a47bd321d8347a8056279840f5a7b1918a350fd644cf5c0b121ac9", func := "loop.example/g00582/laws.FnMinimal", spec := "fnMinimal", inPlace := ["internal/bytealg.IndexByteString"], unfollowed := true, recurses := true, plainKeys := false, apart := false }
def FnMinimalSaid : Prop := fnMinimalRow.holds Try.pinned (OpenSpec.ofChange fnMinimalSpec)

/-- ITS FALSE NEIGHBOUR: 'it returns false'. Refute it at one input. -/
def fnMinimalWrong : ChangeSpec := { name := "fnMinimal", fn := fun _ => fun
  | [d] => { results := [.lit (.bool false)], args := [d] }
  | _ => none }
def FnMinimalWrongFalsely : Prop := fnMinimalRow.holds Try.pinned (OpenSpec.ofChange fnMinimalWrong)

/-- 'laws.FnBoolean': WHATEVER THE INPUT: true; the input reads as it did. -/
def fnBooleanSpec : ChangeSpec := { name := "fnBoolean", fn := fun _ => fun
  | [d] => { results := [.lit (.bool true)], args := [d] }
  | _ => none }
def fnBooleanRow : OpenClaim := { program := "ythmfncklepkddaa", sum := "a6c7c3c0f8a47bd321d8347a8056279840f5a7b1918a350fd644cf5c0b121ac9", func := "loop.example/g00582/laws.FnBoolean", spec := "fnBoolean", inPlace := ["internal/bytealg.IndexByteString"], unfollowed := true, recurses := true, plainKeys := false, apart := false }
def FnBooleanSaid : Prop := fnBooleanRow.holds Try.pinned (OpenSpec.ofChange fnBooleanSpec)

/-- ITS FALSE NEIGHBOUR: 'it returns false'. Refute it at one input. -/
def fnBooleanWrong : ChangeSpec := { name := "fnBoolean", fn := fun _ => fun
  | [d] => { results := [.lit (.bool false)], args := [d] }
  | _ => none }
def FnBooleanWrongFalsely : Prop := fnBooleanRow.holds Try.pinned (OpenSpec.ofChange fnBooleanWrong)

/-- 'laws.FnShortest': WHATEVER THE INPUT: true; the input reads as it did. -/
def fnShortestSpec : ChangeSpec := { name := "fnShortest", fn := fun _ => fun
  | [d] => { results := [.lit (.bool true)], args := [d] }
  | _ => none }
def fnShortestRow : OpenClaim := { program := "ythmfncklepkddaa", sum := "a6c7c3c0f8a47bd321d8347a8056279840f5a7b1918a350fd644cf5c0b121ac9", func := "loop.example/g00582/laws.FnShortest", spec := "fnShortest", inPlace := ["internal/bytealg.IndexByteString", "internal/bytealg.abigen_runtime_cmpstring"], unfollowed := true, recurses := true, plainKeys := false, apart := false }
def FnShortestSaid : Prop := fnShortestRow.holds Try.pinned (OpenSpec.ofChange fnShortestSpec)

/-- ITS FALSE NEIGHBOUR: 'it returns false'. Refute it at one input. -/
def fnShortestWrong : ChangeSpec := { name := "fnShortest", fn := fun _ => fun
  | [d] => { results := [.lit (.bool false)], args := [d] }
  | _ => none }
def FnShortestWrongFalsely : Prop := fnShortestRow.holds Try.pinned (OpenSpec.ofChange fnShortestWrong)

/-- 'laws.FnExactMinimizeDfa': WHATEVER THE INPUT: true; the input reads as it did. -/
def fnExactMinimizeDfaSpec : ChangeSpec := { name := "fnExactMinimizeDfa", fn := fun _ => fun
  | [d] => { results := [.lit (.bool true)], args := [d] }
  | _ => none }
def fnExactMinimizeDfaRow : OpenClaim := { program := "ythmfncklepkddaa", sum := "a6c7c3c0f8a47bd321d8347a8056279840f5a7b1918a350fd644cf5c0b121ac9", func := "loop.example/g00582/laws.FnExactMinimizeDfa", spec := "fnExactMinimizeDfa", unfollowed := true, recurses := true, plainKeys := false, apart := false }
def FnExactMinimizeDfaSaid : Prop := fnExactMinimizeDfaRow.holds Try.pinned (OpenSpec.ofChange fnExactMinimizeDfaSpec)

/-- ITS FALSE NEIGHBOUR: 'it returns false'. Refute it at one input. -/
def fnExactMinimizeDfaWrong : ChangeSpec := { name := "fnExactMinimizeDfa", fn := fun _ => fun
  | [d] => { results := [.lit (.bool false)], args := [d] }
  | _ => none }
def FnExactMinimizeDfaWrongFalsely : Prop := fnExactMinimizeDfaRow.holds Try.pinned (OpenSpec.ofChange fnExactMinimizeDfaWrong)

/-- 'laws.FnExactProductDfa': WHATEVER THE INPUT: true; the input reads as it did. -/
def fnExactProductDfaSpec : ChangeSpec := { name := "fnExactProductDfa", fn := fun _ => fun
  | [d1, d2, d3] => { results := [.lit (.bool true)], args := [d1, d2, d3] }
  | _ => none }
def fnExactProductDfaRow : OpenClaim := { program := "ythmfncklepkddaa", sum := "a6c7c3c0f8a47bd321d8347a8056279840f5a7b1918a350fd644cf5c0b121ac9", func := "loop.example/g00582/laws.FnExactProductDfa", spec := "fnExactProductDfa", unfollowed := true, recurses := true, plainKeys := false, apart := false }
def FnExactProductDfaSaid : Prop := fnExactProductDfaRow.holds Try.pinned (OpenSpec.ofChange fnExactProductDfaSpec)

/-- ITS FALSE NEIGHBOUR: 'it returns false'. Refute it at one input. -/
def fnExactProductDfaWrong : ChangeSpec := { name := "fnExactProductDfa", fn := fun _ => fun
  | [d1, d2, d3] => { results := [.lit (.bool false)], args := [d1, d2, d3] }
  | _ => none }
def FnExactProductDfaWrongFalsely : Prop := fnExactProductDfaRow.holds Try.pinned (OpenSpec.ofChange fnExactProductDfaWrong)

/-- 'laws.FnExactComplementDfa': WHATEVER THE INPUT: true; the input reads as it did. -/
def fnExactComplementDfaSpec : ChangeSpec := { name := "fnExactComplementDfa", fn := fun _ => fun
  | [d] => { results := [.lit (.bool true)], args := [d] }
  | _ => none }
def fnExactComplementDfaRow : OpenClaim := { program := "ythmfncklepkddaa", sum := "a6c7c3c0f8a47bd321d8347a8056279840f5a7b1918a350fd644cf5c0b121ac9", func := "loop.example/g00582/laws.FnExactComplementDfa", spec := "fnExactComplementDfa", unfollowed := true, recurses := true, plainKeys := false, apart := false }
def FnExactComplementDfaSaid : Prop := fnExactComplementDfaRow.holds Try.pinned (OpenSpec.ofChange fnExactComplementDfaSpec)

/-- ITS FALSE NEIGHBOUR: 'it returns false'. Refute it at one input. -/
def fnExactComplementDfaWrong : ChangeSpec := { name := "fnExactComplementDfa", fn := fun _ => fun
  | [d] => { results := [.lit (.bool false)], args := [d] }
  | _ => none }
def FnExactComplementDfaWrongFalsely : Prop := fnExactComplementDfaRow.holds Try.pinned (OpenSpec.ofChange fnExactComplementDfaWrong)

/-- 'laws.FnExactShortestWord': WHATEVER THE INPUT: true; the input reads as it did. -/
def fnExactShortestWordSpec : ChangeSpec := { name := "fnExactShortestWord", fn := fun _ => fun
  | [d] => { results := [.lit (.bool true)], args := [d] }
  | _ => none }
def fnExactShortestWordRow : OpenClaim := { program := "ythmfncklepkddaa", sum := "a6c7c3c0f8a47bd321d8347a8056279840f5a7b1918a350fd644cf5c0b121ac9", func := "loop.example/g00582/laws.FnExactShortestWord", spec := "fnExactShortestWord", unfollowed := true, recurses := true, plainKeys := false, apart := false }
def FnExactShortestWordSaid : Prop := fnExactShortestWordRow.holds Try.pinned (OpenSpec.ofChange fnExactShortestWordSpec)

/-- ITS FALSE NEIGHBOUR: 'it returns false'. Refute it at one input. -/
def fnExactShortestWordWrong : ChangeSpec := { name := "fnExactShortestWord", fn := fun _ => fun
  | [d] => { results := [.lit (.bool false)], args := [d] }
  | _ => none }
def FnExactShortestWordWrongFalsely : Prop := fnExactShortestWordRow.holds Try.pinned (OpenSpec.ofChange fnExactShortestWordWrong)

/-- 'laws.FnExactDifferWord': WHATEVER THE INPUT: true; the input reads as it did. -/
def fnExactDifferWordSpec : ChangeSpec := { name := "fnExactDifferWord", fn := fun _ => fun
  | [d1, d2] => { results := [.lit (.bool true)], args := [d1, d2] }
  | _ => none }
def fnExactDifferWordRow : OpenClaim := { program := "ythmfncklepkddaa", sum := "a6c7c3c0f8a47bd321d8347a8056279840f5a7b1918a350fd644cf5c0b121ac9", func := "loop.example/g00582/laws.FnExactDifferWord", spec := "fnExactDifferWord", unfollowed := true, recurses := true, plainKeys := false, apart := false }
def FnExactDifferWordSaid : Prop := fnExactDifferWordRow.holds Try.pinned (OpenSpec.ofChange fnExactDifferWordSpec)

/-- ITS FALSE NEIGHBOUR: 'it returns false'. Refute it at one input. -/
def fnExactDifferWordWrong : ChangeSpec := { name := "fnExactDifferWord", fn := fun _ => fun
  | [d1, d2] => { results := [.lit (.bool false)], args := [d1, d2] }
  | _ => none }
def FnExactDifferWordWrongFalsely : Prop := fnExactDifferWordRow.holds Try.pinned (OpenSpec.ofChange fnExactDifferWordWrong)

/-- 'laws.FnExactIsIncluded': WHATEVER THE INPUT: true; the input reads as it did. -/
def fnExactIsIncludedSpec : ChangeSpec := { name := "fnExactIsIncluded", fn := fun _ => fun
  | [d1, d2] => { results := [.lit (.bool true)], args := [d1, d2] }
  | _ => none }
def fnExactIsIncludedRow : OpenClaim := { program := "ythmfncklepkddaa", sum := "a6c7c3c0f8a47bd321d8347a8056279840f5a7b1918a350fd644cf5c0b121ac9", func := "loop.example/g00582/laws.FnExactIsIncluded", spec := "fnExactIsIncluded", unfollowed := true, recurses := true, plainKeys := false, apart := false }
def FnExactIsIncludedSaid : Prop := fnExactIsIncludedRow.holds Try.pinned (OpenSpec.ofChange fnExactIsIncludedSpec)

/-- ITS FALSE NEIGHBOUR: 'it returns false'. Refute it at one input. -/
def fnExactIsIncludedWrong : ChangeSpec := { name := "fnExactIsIncluded", fn := fun _ => fun
  | [d1, d2] => { results := [.lit (.bool false)], args := [d1, d2] }
  | _ => none }
def FnExactIsIncludedWrongFalsely : Prop := fnExactIsIncludedRow.holds Try.pinned (OpenSpec.ofChange fnExactIsIncludedWrong)

/- THE SECOND FORM. 'bulk': how many values and letters a reading holds, each counted each time it is reached (what is shared counts as often as it is met; a slice's spare places count too). A statement '..UptoSaid' is the law's where the arguments, and the package variables that the reading takes, are together of bulk at most 1048576: NARROWER than '..Said'. Prove '..Said' where nothing that the law and all that it calls make is longer than what came in: it says more and counts as full. Else prove '..UptoSaid'. A law counts once. -/
mutual
def uptoBulk {H : Type} : DataW H → Nat
  | .lit (.string bytes) => bytes.length + 1
  | .lit _ => 1
  | .nil => 1
  | .ptr d => uptoBulk d + 1
  | .slice elems spare => uptoBulkAll elems + uptoBulkAll spare + 1
  | .agg parts => uptoBulkAll parts + 1
  | .iface _ d => uptoBulk d + 1
  | .map entries => uptoBulkEntries entries + 1
  | .held _ => 1
def uptoBulkAll {H : Type} : List (DataW H) → Nat
  | [] => 0
  | d :: r => uptoBulk d + uptoBulkAll r
def uptoBulkEntries {H : Type} : List (Lit × DataW H) → Nat
  | [] => 0
  | x :: r => uptoBulkEntry x + uptoBulkEntries r
def uptoBulkEntry {H : Type} : Lit × DataW H → Nat
  | (.string bytes, d) => bytes.length + uptoBulk d + 1
  | (_, d) => uptoBulk d + 1
 end
def uptoSmall : (H : Type) → List (DataW H) → Bool := fun _ ds => decide (uptoBulkAll ds ≤ 1048576)
def OpenSpec.upto (s : _root_.Go.ChangeSpec) : _root_.Go.OpenSpec := { _root_.Go.OpenSpec.ofChange s with cond := some uptoSmall }

/-- 'laws.FnMinimal', WHERE WHAT IT READS IS OF BULK AT MOST 1048576: true; the input reads as it did. -/
def fnMinimalUptoRow : OpenClaim := { program := "ythmfncklepkddaa", sum := "a6c7c3c0f8a47bd321d8347a8056279840f5a7b1918a350fd644cf5c0b121ac9", func := "loop.example/g00582/laws.FnMinimal", spec := "fnMinimal", inPlace := ["internal/bytealg.IndexByteString"], unfollowed := true, recurses := true, plainKeys := false, apart := false, narrowed := true }
def FnMinimalUptoSaid : Prop := fnMinimalUptoRow.holds Try.pinned (OpenSpec.upto fnMinimalSpec)

/-- 'laws.FnBoolean', WHERE WHAT IT READS IS OF BULK AT MOST 1048576: true; the input reads as it did. -/
def fnBooleanUptoRow : OpenClaim := { program := "ythmfncklepkddaa", sum := "a6c7c3c0f8a47bd321d8347a8056279840f5a7b1918a350fd644cf5c0b121ac9", func := "loop.example/g00582/laws.FnBoolean", spec := "fnBoolean", inPlace := ["internal/bytealg.IndexByteString"], unfollowed := true, recurses := true, plainKeys := false, apart := false, narrowed := true }
def FnBooleanUptoSaid : Prop := fnBooleanUptoRow.holds Try.pinned (OpenSpec.upto fnBooleanSpec)

/-- 'laws.FnShortest', WHERE WHAT IT READS IS OF BULK AT MOST 1048576: true; the input reads as it did. -/
def fnShortestUptoRow : OpenClaim := { program := "ythmfncklepkddaa", sum := "a6c7c3c0f8a47bd321d8347a8056279840f5a7b1918a350fd644cf5c0b121ac9", func := "loop.example/g00582/laws.FnShortest", spec := "fnShortest", inPlace := ["internal/bytealg.IndexByteString", "internal/bytealg.abigen_runtime_cmpstring"], unfollowed := true, recurses := true, plainKeys := false, apart := false, narrowed := true }
def FnShortestUptoSaid : Prop := fnShortestUptoRow.holds Try.pinned (OpenSpec.upto fnShortestSpec)

/-- 'laws.FnExactMinimizeDfa', WHERE WHAT IT READS IS OF BULK AT MOST 1048576: true; the input reads as it did. -/
def fnExactMinimizeDfaUptoRow : OpenClaim := { program := "ythmfncklepkddaa", sum := "a6c7c3c0f8a47bd321d8347a8056279840f5a7b1918a350fd644cf5c0b121ac9", func := "loop.example/g00582/laws.FnExactMinimizeDfa", spec := "fnExactMinimizeDfa", unfollowed := true, recurses := true, plainKeys := false, apart := false, narrowed := true }
def FnExactMinimizeDfaUptoSaid : Prop := fnExactMinimizeDfaUptoRow.holds Try.pinned (OpenSpec.upto fnExactMinimizeDfaSpec)

/-- 'laws.FnExactProductDfa', WHERE WHAT IT READS IS OF BULK AT MOST 1048576: true; the input reads as it did. -/
def fnExactProductDfaUptoRow : OpenClaim := { program := "ythmfncklepkddaa", sum := "a6c7c3c0f8a47bd321d8347a8056279840f5a7b1918a350fd644cf5c0b121ac9", func := "loop.example/g00582/laws.FnExactProductDfa", spec := "fnExactProductDfa", unfollowed := true, recurses := true, plainKeys := false, apart := false, narrowed := true }
def FnExactProductDfaUptoSaid : Prop := fnExactProductDfaUptoRow.holds Try.pinned (OpenSpec.upto fnExactProductDfaSpec)

/-- 'laws.FnExactComplementDfa', WHERE WHAT IT READS IS OF BULK AT MOST 1048576: true; the input reads as it did. -/
def fnExactComplementDfaUptoRow : OpenClaim := { program := "ythmfncklepkddaa", sum := "a6c7c3c0f8a47bd321d8347a8056279840f5a7b1918a350fd644cf5c0b121ac9", func := "loop.example/g00582/laws.FnExactComplementDfa", spec := "fnExactComplementDfa", unfollowed := true, recurses := true, plainKeys := false, apart := false, narrowed := true }
def FnExactComplementDfaUptoSaid : Prop := fnExactComplementDfaUptoRow.holds Try.pinned (OpenSpec.upto fnExactComplementDfaSpec)

/-- 'laws.FnExactShortestWord', WHERE WHAT IT READS IS OF BULK AT MOST 1048576: true; the input reads as it did. -/
def fnExactShortestWordUptoRow : OpenClaim := { program := "ythmfncklepkddaa", sum := "a6c7c3c0f8a47bd321d8347a8056279840f5a7b1918a350fd644cf5c0b121ac9", func := "loop.example/g00582/laws.FnExactShortestWord", spec := "fnExactShortestWord", unfollowed := true, recurses := true, plainKeys := false, apart := false, narrowed := true }
def FnExactShortestWordUptoSaid : Prop := fnExactShortestWordUptoRow.holds Try.pinned (OpenSpec.upto fnExactShortestWordSpec)

/-- 'laws.FnExactDifferWord', WHERE WHAT IT READS IS OF BULK AT MOST 1048576: true; the input reads as it did. -/
def fnExactDifferWordUptoRow : OpenClaim := { program := "ythmfncklepkddaa", sum := "a6c7c3c0f8a47bd321d8347a8056279840f5a7b1918a350fd644cf5c0b121ac9", func := "loop.example/g00582/laws.FnExactDifferWord", spec := "fnExactDifferWord", unfollowed := true, recurses := true, plainKeys := false, apart := false, narrowed := true }
def FnExactDifferWordUptoSaid : Prop := fnExactDifferWordUptoRow.holds Try.pinned (OpenSpec.upto fnExactDifferWordSpec)

/-- 'laws.FnExactIsIncluded', WHERE WHAT IT READS IS OF BULK AT MOST 1048576: true; the input reads as it did. -/
def fnExactIsIncludedUptoRow : OpenClaim := { program := "ythmfncklepkddaa", sum := "a6c7c3c0f8a47bd321d8347a8056279840f5a7b1918a350fd644cf5c0b121ac9", func := "loop.example/g00582/laws.FnExactIsIncluded", spec := "fnExactIsIncluded", unfollowed := true, recurses := true, plainKeys := false, apart := false, narrowed := true }
def FnExactIsIncludedUptoSaid : Prop := fnExactIsIncludedUptoRow.holds Try.pinned (OpenSpec.upto fnExactIsIncludedSpec)

end Rows
end Go.Proofs.Ythmfncklepkddaa
