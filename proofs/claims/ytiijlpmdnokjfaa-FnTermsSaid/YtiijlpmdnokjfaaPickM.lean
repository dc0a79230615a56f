/-
  A cell of a literal, behind a draw. Of no function of the program but the draws'.
-/
import Derived.Test.YtiijlpmdnokjfaaDraw
namespace Go.Proofs.Ytiijlpmdnokjfaa
open Go.RowKit

/-- A cell of a literal, behind a draw. -/
theorem pick_cell {w w1 : World} {g gl x : Nat} {l : List Value} {T : TypeId} {v : Value} (hg : w.grownBy w1 (some g)) (hne : gl ≠ g) (hl : w.heap[gl]? = some (.cells l.toArray T (0, 0))) (hx : l[x]? = some v) : w1.cell? ⟨gl, x, none⟩ = some v := by
  have hlt := (Array.getElem?_eq_some_iff.1 hl).1
  have h1 : w1.heap[gl]? = some (.cells l.toArray T (0, 0)) := (hg.block gl hlt (by simpa using hne)).trans hl
  rw [cell_of_row w1 gl x _ _ (0, 0) h1]
  simpa using hx
end Go.Proofs.Ytiijlpmdnokjfaa
