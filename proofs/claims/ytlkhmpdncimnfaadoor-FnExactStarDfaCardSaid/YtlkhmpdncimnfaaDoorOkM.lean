/-
  The kinds of elements that the subset constructions meet. Of no function of the program.
-/
import Derived.Test.YtlkhmpdncimnfaaDoorSrchR
namespace Go.Proofs.YtlkhmpdncimnfaaDoor
open Go.RowKit

def okC (na nb : Nat) (x : Nat × List Nat) : Prop := x.1 < na ∧ x.2.Pairwise (· < ·) ∧ ∀ q ∈ x.2, q < nb
def okR (nb : Nat) (x : Bool × List Nat) : Prop := x.2.Pairwise (· < ·) ∧ ∀ q ∈ x.2, q < nb
theorem catG_ok {a b : Au} {na n k : Nat} (hn0 : 0 < n) (ha : ∀ q, q < na → a.T q k < na) (hw : ∀ q, q < n → b.T q k < n) {x : Nat × List Nat} (hx : okC na n x) : okC na n (catG a b x k) := by
  obtain ⟨h1, -, h2⟩ := hx
  have hmv : ∀ q ∈ moveS b x.2 k, q < n := fun q hq => by
    obtain ⟨p', h1, rfl⟩ := mem_move.1 hq
    exact hw p' (h2 p' h1)
  unfold catG okC
  dsimp only
  refine ⟨ha _ h1, ?_⟩
  split
  · refine ⟨putS_asc (move_asc _ _ _), fun q hq => ?_⟩
    rcases mem_putS.1 hq with rfl | hq
    · exact hn0
    · exact hmv q hq
  · exact ⟨move_asc _ _ _, hmv⟩
theorem catS_ok {a : Au} {na n : Nat} (ha : 0 < na) (hn : 0 < n) : okC na n (catS a) := by
  unfold catS okC
  dsimp only
  refine ⟨ha, ?_⟩
  split
  · exact ⟨by simp, fun q hq => by simp at hq; omega⟩
  · exact ⟨by simp, fun q hq => by simp at hq⟩

theorem starG_ok {b : Au} {n k : Nat} (hn0 : 0 < n) (hw : ∀ q, q < n → b.T q k < n) {x : Bool × List Nat} (hx : okR n x) : okR n (starG b x k) := by
  obtain ⟨-, h2⟩ := hx
  have hmv : ∀ q ∈ moveS b x.2 k, q < n := fun q hq => by
    obtain ⟨p', h1, rfl⟩ := mem_move.1 hq
    exact hw p' (h2 p' h1)
  unfold starG okR
  dsimp only
  split
  · refine ⟨putS_asc (move_asc _ _ _), fun q hq => ?_⟩
    rcases mem_putS.1 hq with rfl | hq
    · exact hn0
    · exact hmv q hq
  · exact ⟨move_asc _ _ _, hmv⟩

end Go.Proofs.YtlkhmpdncimnfaaDoor
