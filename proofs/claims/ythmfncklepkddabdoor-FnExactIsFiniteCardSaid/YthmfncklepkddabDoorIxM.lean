/-
  The first place where a truth holds. Of no function of the program.
-/
import Derived.Test.YthmfncklepkddabDoorM5
namespace Go.Proofs.YthmfncklepkddabDoor

/-- The first place below n where p holds, or -1. -/
def ixI (p : Nat → Bool) (n : Nat) : Int := if lst p n < n then (lst p n : Int) else -1
theorem ixI_at {p : Nat → Bool} {n j : Nat} (hj : j < n) (hp : p j = true) (hn : ∀ i, i < j → p i = false) : ixI p n = (j : Int) := by
  obtain ⟨h1, h2, h3⟩ := lst_spec p n
  have e : lst p n = j := by
    rcases Nat.lt_trichotomy (lst p n) j with h | h | h
    · have := h2 (by omega)
      rw [hn _ h] at this
      cases this
    · exact h
    · have := h3 j h
      rw [hp] at this
      cases this
  unfold ixI
  rw [e, if_pos hj]
theorem ixI_none {p : Nat → Bool} {n : Nat} (hn : ∀ i, i < n → p i = false) : ixI p n = -1 := by
  obtain ⟨h1, h2, h3⟩ := lst_spec p n
  unfold ixI
  rw [if_neg]
  intro h
  have := h2 h
  rw [hn _ h] at this
  cases this
theorem ixI_bd (p : Nat → Bool) (n : Nat) : -1 ≤ ixI p n ∧ ixI p n < n ∨ ixI p n = -1 := by
  unfold ixI
  split
  · exact .inl (by omega)
  · exact .inr rfl
end Go.Proofs.YthmfncklepkddabDoor
