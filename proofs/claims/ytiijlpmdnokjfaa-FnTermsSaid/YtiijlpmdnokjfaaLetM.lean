/-
  Letters and words: places, and what makes a word. Of no function of the program.
-/
import Derived.Test.YtiijlpmdnokjfaaStrBase
import Derived.Test.YtiijlpmdnokjfaaWords
import Derived.Lib.Bytealg
namespace Go.Proofs.Ytiijlpmdnokjfaa
open Go.RowKit

/-- The place of a letter, or -1. -/
def letIdx (b : UInt8) : Int := if b = 97 then 0 else if b = 98 then 1 else if b = 99 then 2 else -1

theorem letIdx_lib (b : UInt8) : Lib.indexByte [97, 98, 99] b = letIdx b := by
  unfold letIdx
  by_cases h0 : b = 97
  · subst h0; rfl
  · by_cases h1 : b = 98
    · subst h1; rfl
    · by_cases h2 : b = 99
      · subst h2; rfl
      · rw [if_neg h0, if_neg h1, if_neg h2]
        have e0 : ¬ (97 = b) := fun e => h0 e.symm
        have e1 : ¬ (98 = b) := fun e => h1 e.symm
        have e2 : ¬ (99 = b) := fun e => h2 e.symm
        simp [Lib.indexByte, e0, e1, e2]


theorem letIdx_yes {b : UInt8} (h : isLetter b = true) : letIdx b = (b.toNat : Int) - 97 ∧ 97 ≤ b.toNat ∧ b.toNat ≤ 99 := by
  simp only [isLetter, Bool.and_eq_true, decide_eq_true_eq] at h
  refine ⟨?_, h.1, h.2⟩
  unfold letIdx
  by_cases h0 : b = 97
  · rw [if_pos h0, h0]; rfl
  · by_cases h1 : b = 98
    · rw [if_neg h0, if_pos h1, h1]; rfl
    · have h2 : b = 99 := by
        have n0 : b.toNat ≠ 97 := fun e => h0 (UInt8.toNat_inj.1 e)
        have n1 : b.toNat ≠ 98 := fun e => h1 (UInt8.toNat_inj.1 e)
        exact UInt8.toNat_inj.1 (show b.toNat = 99 by omega)
      rw [if_neg h0, if_neg h1, if_pos h2, h2]; rfl
theorem letIdx_no {b : UInt8} (h : isLetter b = false) : letIdx b = -1 := by
  have n : b.toNat ≠ 97 ∧ b.toNat ≠ 98 ∧ b.toNat ≠ 99 := by
    refine ⟨fun e => ?_, fun e => ?_, fun e => ?_⟩ <;> simp [isLetter, e] at h
  unfold letIdx
  rw [if_neg (fun e => n.1 (by rw [e]; rfl)), if_neg (fun e => n.2.1 (by rw [e]; rfl)), if_neg (fun e => n.2.2 (by rw [e]; rfl))]

theorem all_take_succ (s : ByteArray) (k : Nat) (h : k < s.size) : (s.data.toList.take (k + 1)).all isLetter = ((s.data.toList.take k).all isLetter && isLetter s[k]) := by
  rw [List.take_succ_eq_append_getElem (by simpa using h), List.all_append]
  simp
  rfl
theorem isW_bad {s : ByteArray} {k : Nat} (h : k < s.size) (hb : isLetter s[k] = false) : isW s.data.toList = false := by
  have : s.data.toList.all isLetter = false := by
    rw [List.all_eq_false]
    exact ⟨s[k], List.mem_iff_getElem.2 ⟨k, by simpa using h, rfl⟩, by simp [hb]⟩
  simp [isW, this]
theorem isW_all {s : ByteArray} (h : (s.data.toList.take s.size).all isLetter = true) : isW s.data.toList = decide ((s.size : Int) ≤ 30) := by
  have e : s.data.toList.take s.size = s.data.toList := List.take_of_length_le (by simp)
  rw [e] at h
  unfold isW
  rw [h, Bool.true_and]
  simp
  omega
theorem isW_long {s : ByteArray} (h : 30 < s.size) : isW s.data.toList = false := by
  unfold isW
  rw [Bool.and_eq_false_iff]
  right
  simp
  omega

end Go.Proofs.Ytiijlpmdnokjfaa
