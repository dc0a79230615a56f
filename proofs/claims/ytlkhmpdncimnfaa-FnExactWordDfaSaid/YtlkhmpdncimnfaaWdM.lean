/-
  The automaton of one word; its minimal automaton as an answer. Of no function of the program.
-/
import Derived.Test.YtlkhmpdncimnfaaProR
namespace Go.Proofs.Ytlkhmpdncimnfaa
open Go.RowKit

/-- Where letter k leads: along the word, or away. -/
def wdT (s : List UInt8) (i k : Nat) : Nat := if i < s.length ∧ letIdx (s.getD i 0) = (k : Int) then i + 1 else s.length + 1
def wdA (s : List UInt8) : Au := ⟨s.length + 2, fun i => decide (i = s.length), wdT s⟩
theorem wdT_lt (s : List UInt8) (i k : Nat) : wdT s i k < s.length + 2 := by
  unfold wdT
  split <;> omega
theorem wdA_wf (s : List UInt8) : (wdA s).wf := ⟨by show 0 < s.length + 2; omega, fun i k _ _ => wdT_lt s i k⟩
theorem wdT_yes {s : List UInt8} {i k : Nat} (hi : i < s.length) (h : letIdx (s.getD i 0) = (k : Int)) : wdT s i k = i + 1 := by
  unfold wdT
  rw [if_pos ⟨hi, h⟩]
theorem wdT_no {s : List UInt8} {i k : Nat} (h : ¬ (i < s.length ∧ letIdx (s.getD i 0) = (k : Int))) : wdT s i k = s.length + 1 := by
  unfold wdT
  rw [if_neg h]
/-- What WordDfa answers. -/
def wordR (s : List UInt8) (y : Dx) (ok : Bool) : Prop := if isW s = true then (∃ m, Canon m ∧ Eqv m 0 (wdA s) 0 ∧ y = fieldsOf m) ∧ ok = true else y = ⟨[], []⟩ ∧ ok = false
theorem wordR_some (s : List UInt8) : ∃ y ok, wordR s y ok := by
  unfold wordR
  by_cases h : isW s = true
  · obtain ⟨m, h1, h2, _⟩ := exists_min (wdA_wf s)
    exact ⟨_, _, by rw [if_pos h]; exact ⟨⟨m, h1, h2, rfl⟩, rfl⟩⟩
  · exact ⟨_, _, by rw [if_neg h]; exact ⟨rfl, rfl⟩⟩
theorem isW_len {s : List UInt8} (h : isW s = true) : s.length ≤ 30 := by
  unfold isW at h
  simp only [Bool.and_eq_true, decide_eq_true_eq] at h
  exact h.2
theorem wd_small {s : List UInt8} (hs : isW s = true) {m : Au} (h1 : Canon m) (h2 : Eqv m 0 (wdA s) 0) : m.n ≤ 40 := by
  obtain ⟨m', n1, n2, n3⟩ := exists_min (wdA_wf s)
  have h3 := (canon_unique h1 n1 (h2.swap n2)).1
  have h4 : m'.n ≤ s.length + 2 := n3
  have := isW_len hs
  omega
theorem wordR_wt {s : List UInt8} {y : Dx} {ok : Bool} (h : wordR s y ok) : wtD y ≤ 1048576 := by
  unfold wordR at h
  by_cases hs : isW s = true
  · rw [if_pos hs] at h
    obtain ⟨⟨m, h1, h2, rfl⟩, _⟩ := h
    exact fieldsOf_wt (wd_small hs h1 h2)
  · rw [if_neg hs] at h
    rw [h.1]
    decide
theorem wordR_yes {s : List UInt8} {y : Dx} {ok : Bool} (h : wordR s y ok) (hs : isW s = true) {m : Au} (h1 : Canon m) (h2 : Eqv m 0 (wdA s) 0) : y = fieldsOf m ∧ ok = true := by
  unfold wordR at h
  rw [if_pos hs] at h
  obtain ⟨⟨m', n1, n2, rfl⟩, rfl⟩ := h
  exact ⟨fields_one n1 h1 (n2.swap h2), rfl⟩
theorem wordR_no {s : List UInt8} {y : Dx} {ok : Bool} (h : wordR s y ok) (hs : isW s = false) : y = ⟨[], []⟩ ∧ ok = false := by
  unfold wordR at h
  rwa [if_neg (by rw [hs]; decide)] at h
end Go.Proofs.Ytlkhmpdncimnfaa
