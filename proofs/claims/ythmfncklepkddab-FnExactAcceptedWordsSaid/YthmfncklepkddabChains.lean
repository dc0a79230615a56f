/-
  The words of one length, and those up to a length, each with the first longer word behind them: each is followed by its next one. Of no program.
-/
import Derived.Test.YthmfncklepkddabWordSeq
namespace Go.Proofs.Ythmfncklepkddab

/-- A chain, and its bound: the last word alone is too long. -/
def chainB (L : List (List UInt8)) (m n : Nat) : Bool :=
  (List.range m).all (fun k => (nextW (L.getD k []) == L.getD (k + 1) []) && !(L.getD (k + 1) []).isEmpty && decide ((L.getD k []).length ≤ n)) &&
    (List.range (m + 1)).all (fun k => decide ((L.getD k []).length ≤ 30) && (L.idxOf (L.getD k []) == k)) && decide (n < (L.getD m []).length) && (L.length == m + 1) && decide (m ≤ 400)
theorem chain_of {L : List (List UInt8)} {m n : Nat} (h : chainB L m n = true) :
    Chain L m ∧ L.length = m + 1 ∧ m ≤ 100000 ∧ (∀ k, k < m → ((L.getD k []).length : Int) ≤ n) ∧ (n : Int) < ((L.getD m []).length : Int) := by
  simp only [chainB, Bool.and_eq_true, List.all_eq_true, List.mem_range, beq_iff_eq, decide_eq_true_eq] at h
  obtain ⟨⟨⟨⟨h1, h2⟩, h3⟩, h4⟩, h5⟩ := h
  refine ⟨⟨fun k hk => ⟨(h1 k hk).1.1, fun e => ?_⟩, fun k hk => (h2 k (by omega)).1, fun k hk => (h2 k (by omega)).2⟩, h4, by omega, fun k hk => by have := (h1 k hk).2; omega, by omega⟩
  have := (h1 k hk).1.2
  rw [e] at this
  simp at this
/-- The words of n letters, and the first longer one. -/
def chainOf (n : Nat) : List (List UInt8) := wordsOf n ++ [List.replicate (n + 1) 97]
def chainTo (n : Nat) : List (List UInt8) := wordsTo n ++ [List.replicate (n + 1) 97]
set_option maxRecDepth 100000 in
theorem chains_of : ((List.range 6).all fun n => chainB (chainOf n) (wordsOf n).length n) = true := by decide +kernel
set_option maxRecDepth 100000 in
theorem chains_to : ((List.range 6).all fun n => chainB (chainTo n) (wordsTo n).length n) = true := by decide +kernel
theorem chainOf_ok (n : Nat) (h : n ≤ 5) : chainB (chainOf n) (wordsOf n).length n = true := List.all_eq_true.1 chains_of n (List.mem_range.2 (by omega))
theorem chainTo_ok (n : Nat) (h : n ≤ 5) : chainB (chainTo n) (wordsTo n).length n = true := List.all_eq_true.1 chains_to n (List.mem_range.2 (by omega))
theorem chainOf_take (n : Nat) : (chainOf n).take (wordsOf n).length = wordsOf n := by simp [chainOf]
theorem chainTo_take (n : Nat) : (chainTo n).take (wordsTo n).length = wordsTo n := by simp [chainTo]
theorem firsts : ((List.range 6).all fun n => ((chainOf n).getD 0 [] == List.replicate n 97) && ((chainTo n).getD 0 [] == [])) = true := by decide +kernel
theorem first_of (n : Nat) (h : n ≤ 5) : wd (chainOf n) 0 = ⟨(List.replicate n 97).toArray⟩ := by
  have := List.all_eq_true.1 firsts n (List.mem_range.2 (by omega))
  simp only [Bool.and_eq_true, beq_iff_eq] at this
  unfold wd
  rw [this.1]
theorem first_to (n : Nat) (h : n ≤ 5) : wd (chainTo n) 0 = ⟨#[]⟩ := by
  have := List.all_eq_true.1 firsts n (List.mem_range.2 (by omega))
  simp only [Bool.and_eq_true, beq_iff_eq] at this
  unfold wd
  rw [this.2]
end Go.Proofs.Ythmfncklepkddab
