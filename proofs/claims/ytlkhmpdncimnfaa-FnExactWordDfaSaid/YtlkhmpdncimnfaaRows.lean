/-
  No cell of these rows narrows 'for every input' (looked for: loops, veiled, ifaces, maps, wideKeys, modest, calm, conditions, laid).
  DERIVED. THE GIVEN ROWS OF THIS SEAT. 5 by the template 'for every input the law returns true; each argument reads behind the call as it read before'; 0 by the template 'total and deterministic' (their statements: YtlkhmpdncimnfaaTotals.lean).
  GIVEN WITH THE SEED: the statements are not yours to turn. If you find one false, say at which input.
  Laid BY PROGRAM, IN A SANDBOX (cutbox-rows.mjs): the forced cells as the released guide's own fill.sh prints them over the translation 0e9f991d788276a3… (all of the seat's roots in one cut). By AI agents, Wed Nov 11 2026. No macro, syntax, notation, axiom, sorry.
-/
import Derived.Test.YtlkhmpdncimnfaaChecked
import GoSem.Claim
import GoSem.ClaimJoined
import GoSem.ClaimMapViews
import Derived.JoinedTies
import Derived.KernelRfl
namespace Go.Proofs.Ytlkhmpdncimnfaa
/- THE CELL 'sum', in the pinned program and in every row, IS THE sha256 OF THE DUMP (.gsa) THAT YtlkhmpdncimnfaaProg.lean LOADS. Nothing in Lean hashes anything: it is a label: what it is worth is what the hold of that sum in a sandbox is worth. -/
noncomputable def Try.pinned : Pinned := { name := "ytlkhmpdncimnfaa", sum := "0e9f991d788276a389ada96ac24fc9b8ae69e773ce32aba52163632ae99aae58", checked := Try.checked }
namespace Rows
def none {H : Type} : Left H := { results := [], args := [] }

/-- 'laws.FnBoolean': WHATEVER THE INPUT: true; the input reads as it did. -/
def fnBooleanSpec : ChangeSpec := { name := "fnBoolean", fn := fun _ => fun
  | [d] => { results := [.lit (.bool true)], args := [d] }
  | _ => none }
def fnBooleanRow : OpenClaim := { program := "ytlkhmpdncimnfaa", sum := "0e9f991d788276a389ada96ac24fc9b8ae69e773ce32aba52163632ae99aae58", func := "loop.example/g00582/laws.FnBoolean", spec := "fnBoolean", inPlace := ["internal/bytealg.IndexByteString"], unfollowed := true, recurses := true, plainKeys := false, apart := false }
def FnBooleanSaid : Prop := fnBooleanRow.holds Try.pinned (OpenSpec.ofChange fnBooleanSpec)

/-- ITS FALSE NEIGHBOUR: 'it returns false'. Refute it at one input. -/
def fnBooleanWrong : ChangeSpec := { name := "fnBoolean", fn := fun _ => fun
  | [d] => { results := [.lit (.bool false)], args := [d] }
  | _ => none }
def FnBooleanWrongFalsely : Prop := fnBooleanRow.holds Try.pinned (OpenSpec.ofChange fnBooleanWrong)

/-- 'laws.FnExactMinimizeDfa': WHATEVER THE INPUT: true; the input reads as it did. -/
def fnExactMinimizeDfaSpec : ChangeSpec := { name := "fnExactMinimizeDfa", fn := fun _ => fun
  | [d] => { results := [.lit (.bool true)], args := [d] }
  | _ => none }
def fnExactMinimizeDfaRow : OpenClaim := { program := "ytlkhmpdncimnfaa", sum := "0e9f991d788276a389ada96ac24fc9b8ae69e773ce32aba52163632ae99aae58", func := "loop.example/g00582/laws.FnExactMinimizeDfa", spec := "fnExactMinimizeDfa", unfollowed := true, recurses := true, plainKeys := false, apart := false }
def FnExactMinimizeDfaSaid : Prop := fnExactMinimizeDfaRow.holds Try.pinned (OpenSpec.ofChange fnExactMinimizeDfaSpec)

/-- ITS FALSE NEIGHBOUR: 'it returns false'. Refute it at one input. -/
def fnExactMinimizeDfaWrong : ChangeSpec := { name := "fnExactMinimizeDfa", fn := fun _ => fun
  | [d] => { results := [.lit (.bool false)], args := [d] }
  | _ => none }
def FnExactMinimizeDfaWrongFalsely : Prop := fnExactMinimizeDfaRow.holds Try.pinned (OpenSpec.ofChange fnExactMinimizeDfaWrong)

/-- 'laws.FnExactProductDfa': WHATEVER THE INPUT: true; the input reads as it did. -/
def fnExactProductDfaSpec : ChangeSpec := { name := "fnExactProductDfa", fn := fun _ => fun
  | [d1, d2, d3] => { results := [.lit (.bool true)], args := [d1, d2, d3] }
  | _ => none }
def fnExactProductDfaRow : OpenClaim := { program := "ytlkhmpdncimnfaa", sum := "0e9f991d788276a389ada96ac24fc9b8ae69e773ce32aba52163632ae99aae58", func := "loop.example/g00582/laws.FnExactProductDfa", spec := "fnExactProductDfa", unfollowed := true, recurses := true, plainKeys := false, apart := false }
def FnExactProductDfaSaid : Prop := fnExactProductDfaRow.holds Try.pinned (OpenSpec.ofChange fnExactProductDfaSpec)

/-- ITS FALSE NEIGHBOUR: 'it returns false'. Refute it at one input. -/
def fnExactProductDfaWrong : ChangeSpec := { name := "fnExactProductDfa", fn := fun _ => fun
  | [d1, d2, d3] => { results := [.lit (.bool false)], args := [d1, d2, d3] }
  | _ => none }
def FnExactProductDfaWrongFalsely : Prop := fnExactProductDfaRow.holds Try.pinned (OpenSpec.ofChange fnExactProductDfaWrong)

/-- 'laws.FnExactComplementDfa': WHATEVER THE INPUT: true; the input reads as it did. -/
def fnExactComplementDfaSpec : ChangeSpec := { name := "fnExactComplementDfa", fn := fun _ => fun
  | [d] => { results := [.lit (.bool true)], args := [d] }
  | _ => none }
def fnExactComplementDfaRow : OpenClaim := { program := "ytlkhmpdncimnfaa", sum := "0e9f991d788276a389ada96ac24fc9b8ae69e773ce32aba52163632ae99aae58", func := "loop.example/g00582/laws.FnExactComplementDfa", spec := "fnExactComplementDfa", unfollowed := true, recurses := true, plainKeys := false, apart := false }
def FnExactComplementDfaSaid : Prop := fnExactComplementDfaRow.holds Try.pinned (OpenSpec.ofChange fnExactComplementDfaSpec)

/-- ITS FALSE NEIGHBOUR: 'it returns false'. Refute it at one input. -/
def fnExactComplementDfaWrong : ChangeSpec := { name := "fnExactComplementDfa", fn := fun _ => fun
  | [d] => { results := [.lit (.bool false)], args := [d] }
  | _ => none }
def FnExactComplementDfaWrongFalsely : Prop := fnExactComplementDfaRow.holds Try.pinned (OpenSpec.ofChange fnExactComplementDfaWrong)

/-- 'laws.FnExactWordDfa': WHATEVER THE INPUT: true; the input reads as it did. -/
def fnExactWordDfaSpec : ChangeSpec := { name := "fnExactWordDfa", fn := fun _ => fun
  | [d] => { results := [.lit (.bool true)], args := [d] }
  | _ => none }
def fnExactWordDfaRow : OpenClaim := { program := "ytlkhmpdncimnfaa", sum := "0e9f991d788276a389ada96ac24fc9b8ae69e773ce32aba52163632ae99aae58", func := "loop.example/g00582/laws.FnExactWordDfa", spec := "fnExactWordDfa", inPlace := ["internal/bytealg.IndexByteString"], unfollowed := true, recurses := true, plainKeys := false, apart := false }
def FnExactWordDfaSaid : Prop := fnExactWordDfaRow.holds Try.pinned (OpenSpec.ofChange fnExactWordDfaSpec)

/-- ITS FALSE NEIGHBOUR: 'it returns false'. Refute it at one input. -/
def fnExactWordDfaWrong : ChangeSpec := { name := "fnExactWordDfa", fn := fun _ => fun
  | [d] => { results := [.lit (.bool false)], args := [d] }
  | _ => none }
def FnExactWordDfaWrongFalsely : Prop := fnExactWordDfaRow.holds Try.pinned (OpenSpec.ofChange fnExactWordDfaWrong)

/- THE SECOND FORM. 'bulk': how many values and letters a reading holds, each counted each time it is reached (what is shared counts as often as it is met; a slice's spare places count too). A statement '..UptoSaid' is the law's where the arguments, and the package variables that the reading takes, are together of bulk at most 1048576: NARROWER than '..Said'. Prove '..Said' where nothing that the law and all that it calls make is longer than what came in: it says more and counts as full. Else prove '..UptoSaid'. A law counts once. -/
mutual
def uptoBulk {H : Type} : DataW H → Nat
  | .lit (.string bytes) => bytes.length + 1
  | .lit _ => 1
  | .nil => 1
  | .ptr d => uptoBulk d + 1
  | .slice elems spare => uptoBulkAll elems + uptoBulkAll spare + 1
  | .agg parts => uptoBulkAll parts + 1
  | .iface _ d => uptoBulk d + 1
  | .map entries => uptoBulkEntries entries + 1
  | .held _ => 1
def uptoBulkAll {H : Type} : List (DataW H) → Nat
  | [] => 0
  | d :: r => uptoBulk d + uptoBulkAll r
def uptoBulkEntries {H : Type} : List (Lit × DataW H) → Nat
  | [] => 0
  | x :: r => uptoBulkEntry x + uptoBulkEntries r
def uptoBulkEntry {H : Type} : Lit × DataW H → Nat
  | (.string bytes, d) => bytes.length + uptoBulk d + 1
  | (_, d) => uptoBulk d + 1
 end
def uptoSmall : (H : Type) → List (DataW H) → Bool := fun _ ds => decide (uptoBulkAll ds ≤ 1048576)
def OpenSpec.upto (s : _root_.Go.ChangeSpec) : _root_.Go.OpenSpec := { _root_.Go.OpenSpec.ofChange s with cond := some uptoSmall }

/-- 'laws.FnBoolean', WHERE WHAT IT READS IS OF BULK AT MOST 1048576: true; the input reads as it did. -/
def fnBooleanUptoRow : OpenClaim := { program := "ytlkhmpdncimnfaa", sum := "0e9f991d788276a389ada96ac24fc9b8ae69e773ce32aba52163632ae99aae58", func := "loop.example/g00582/laws.FnBoolean", spec := "fnBoolean", inPlace := ["internal/bytealg.IndexByteString"], unfollowed := true, recurses := true, plainKeys := false, apart := false, narrowed := true }
def FnBooleanUptoSaid : Prop := fnBooleanUptoRow.holds Try.pinned (OpenSpec.upto fnBooleanSpec)

/-- 'laws.FnExactMinimizeDfa', WHERE WHAT IT READS IS OF BULK AT MOST 1048576: true; the input reads as it did. -/
def fnExactMinimizeDfaUptoRow : OpenClaim := { program := "ytlkhmpdncimnfaa", sum := "0e9f991d788276a389ada96ac24fc9b8ae69e773ce32aba52163632ae99aae58", func := "loop.example/g00582/laws.FnExactMinimizeDfa", spec := "fnExactMinimizeDfa", unfollowed := true, recurses := true, plainKeys := false, apart := false, narrowed := true }
def FnExactMinimizeDfaUptoSaid : Prop := fnExactMinimizeDfaUptoRow.holds Try.pinned (OpenSpec.upto fnExactMinimizeDfaSpec)

/-- 'laws.FnExactProductDfa', WHERE WHAT IT READS IS OF BULK AT MOST 1048576: true; the input reads as it did. -/
def fnExactProductDfaUptoRow : OpenClaim := { program := "ytlkhmpdncimnfaa", sum := "0e9f991d788276a389ada96ac24fc9b8ae69e773ce32aba52163632ae99aae58", func := "loop.example/g00582/laws.FnExactProductDfa", spec := "fnExactProductDfa", unfollowed := true, recurses := true, plainKeys := false, apart := false, narrowed := true }
def FnExactProductDfaUptoSaid : Prop := fnExactProductDfaUptoRow.holds Try.pinned (OpenSpec.upto fnExactProductDfaSpec)

/-- 'laws.FnExactComplementDfa', WHERE WHAT IT READS IS OF BULK AT MOST 1048576: true; the input reads as it did. -/
def fnExactComplementDfaUptoRow : OpenClaim := { program := "ytlkhmpdncimnfaa", sum := "0e9f991d788276a389ada96ac24fc9b8ae69e773ce32aba52163632ae99aae58", func := "loop.example/g00582/laws.FnExactComplementDfa", spec := "fnExactComplementDfa", unfollowed := true, recurses := true, plainKeys := false, apart := false, narrowed := true }
def FnExactComplementDfaUptoSaid : Prop := fnExactComplementDfaUptoRow.holds Try.pinned (OpenSpec.upto fnExactComplementDfaSpec)

/-- 'laws.FnExactWordDfa', WHERE WHAT IT READS IS OF BULK AT MOST 1048576: true; the input reads as it did. -/
def fnExactWordDfaUptoRow : OpenClaim := { program := "ytlkhmpdncimnfaa", sum := "0e9f991d788276a389ada96ac24fc9b8ae69e773ce32aba52163632ae99aae58", func := "loop.example/g00582/laws.FnExactWordDfa", spec := "fnExactWordDfa", inPlace := ["internal/bytealg.IndexByteString"], unfollowed := true, recurses := true, plainKeys := false, apart := false, narrowed := true }
def FnExactWordDfaUptoSaid : Prop := fnExactWordDfaUptoRow.holds Try.pinned (OpenSpec.upto fnExactWordDfaSpec)

end Rows
end Go.Proofs.Ytlkhmpdncimnfaa
