/-
  A slice of bytes that came in, as the walks want it.
-/
import Derived.Test.YtiijlpmdnokjfaaDraw
import Derived.ProofKit
import Derived.ChangeSlices
namespace Go.Proofs.Ytiijlpmdnokjfaa
open Go.ChangeShapes Go.WideShapes Go.ChangeAt Go.RowKit

theorem BL.of_arg {H : Type} {enc : TypeId × Value → H} {W : World} {a0 : Option Addr} {len cap fuel : Nat} {x : DataW H × List MemPlace}
    (hf : DataW.trod enc Try.prog W 0 (fun _ => true) true fuel 22 [.slice a0 len cap] = some x) : BL W W.heap.size a0 len ∧ len ≤ 9223372036854775807 := by
  rcases open_ints Try.underlying22 Try.underlying5 (by kernel_rfl) hf with ⟨hcs, hx⟩ | ⟨a, len', cap', zs, hcs, _, hl, hm, hz, hx, hcell, hwf⟩
  · simp at hcs
    obtain ⟨rfl, rfl, rfl⟩ := hcs
    exact ⟨fun k hk => absurd hk (by omega), by omega⟩
  · simp at hcs
    obtain ⟨rfl, rfl, rfl⟩ := hcs
    simp only [if_true] at hz
    refine ⟨fun k hk => ?_, by unfold maxLen at hm; omega⟩
    have hc := hcell k (by omega)
    have hb := World.block_lt_of_cell? W _ hc
    rw [dr_block] at hb
    have hw := hwf (zs.getD k 0) (by rw [List.getD, List.getElem?_eq_getElem (by omega : k < zs.length)]; exact List.getElem_mem _)
    simp [Lit.wf, IntKind.min, IntKind.max, IntKind.signed, IntKind.bits] at hw
    exact ⟨a, zs.getD k 0, rfl, hb, hc, by simp; omega, by simp; omega⟩
end Go.Proofs.Ytiijlpmdnokjfaa
