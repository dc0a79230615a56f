/-
  What IsIncluded answers. Of no function of the program.
-/
import Derived.Test.YthmfncklepkddaaLangR
namespace Go.Proofs.Ythmfncklepkddaa
open Go.RowKit

/-- What IsIncluded answers. -/
def incR (d d' : Dx) (b : Bool) : Prop := if validD d = true ∧ validD d' = true then ∃ s ok, tellR false d d' s ok ∧ b = !ok else b = false
theorem incR_yes {d d' : Dx} {b : Bool} (h : incR d d' b) (hv : validD d = true) (hv' : validD d' = true) {r : Option (List Nat)} (hr : FirstR (fun u => pairF false ((auD d).A ((auD d).run 0 u)) ((auD d').A ((auD d').run 0 u)) = true) r) : b = !r.isSome := by
  unfold incR at h
  rw [if_pos ⟨hv, hv'⟩] at h
  obtain ⟨s, ok, h1, h2⟩ := h
  rw [h2, (tellR_yes h1 hv hv' hr).2]
theorem incR_no {d d' : Dx} {b : Bool} (h : incR d d' b) (hv : ¬ (validD d = true ∧ validD d' = true)) : b = false := by
  unfold incR at h
  rwa [if_neg hv] at h
theorem incR_some (d d' : Dx) : ∃ b, incR d d' b := by
  unfold incR
  by_cases h : validD d = true ∧ validD d' = true
  · simp only [if_pos h]
    obtain ⟨s, ok, h1⟩ := tellR_some false d d'
    exact ⟨_, s, ok, h1, rfl⟩
  · simp only [if_neg h]
    exact ⟨_, rfl⟩
end Go.Proofs.Ythmfncklepkddaa
