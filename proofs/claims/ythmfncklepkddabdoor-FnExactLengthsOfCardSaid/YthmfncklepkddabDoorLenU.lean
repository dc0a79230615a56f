/-
  What LengthsOf answers is one. Of no function of the program.
-/
import Derived.Test.YthmfncklepkddabDoorLangR
namespace Go.Proofs.YthmfncklepkddabDoor

theorem lenR_uniq {d : Dx} {o o' : List Bool} {p p' : Int} (h : lenR d o p) (h' : lenR d o' p') : o = o' ∧ p = p' := by
  unfold lenR at h h'
  by_cases hv : validD d = true
  · rw [if_pos hv] at h h'
    obtain ⟨q, h1, rfl⟩ := h
    obtain ⟨q', h2, rfl⟩ := h'
    obtain ⟨h3, h4⟩ := lenR_one h1 h2
    exact ⟨h3, by rw [h4]⟩
  · rw [if_neg hv] at h h'
    exact ⟨h.1.trans h'.1.symm, h.2.trans h'.2.symm⟩
end Go.Proofs.YthmfncklepkddabDoor
