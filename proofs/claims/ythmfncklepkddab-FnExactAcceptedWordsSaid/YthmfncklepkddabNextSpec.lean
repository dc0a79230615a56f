/-
  What spec.NextWord answers at every string: the next word, or the empty string; the world is as it was but for what was drawn.
-/
import Derived.Test.YthmfncklepkddabIsWordS
import Derived.Test.YthmfncklepkddabNextMath
import Derived.Deep.QuietTactic
import Derived.BigQuiet
import Derived.RegionTactic
namespace Go.Proofs.Ythmfncklepkddab
open Go.RowKit

theorem bytes_ext {a b : ByteArray} (h : a.data.toList = b.data.toList) : a = b := ByteArray.ext (Array.toList_inj.1 h)
theorem str_ret {a b : ByteArray} (h : a.data.toList = b.data.toList) : Ending.returned (.string a) = Ending.returned (.string b) := by rw [bytes_ext h]
theorem extract_head (s : ByteArray) (k : Nat) : (s.extract 0 k).data.toList = s.data.toList.take k := by simp

/-- What a call of IsWord says, the two answers apart. -/
theorem specIsWord_yes (s : ByteArray) (w : World) (hs : s.size ≤ maxLen) (h : isW s.data.toList = true) : Calls Try.prog 43 #[.string s] w fun e w' => e = .returned (.bool true) ∧ w = w' :=
  (specIsWord_any s w hs).mono fun _ _ ⟨he, hw⟩ => ⟨by rw [he, h], hw⟩
theorem specIsWord_no (s : ByteArray) (w : World) (hs : s.size ≤ maxLen) (h : isW s.data.toList = false) : Calls Try.prog 43 #[.string s] w fun e w' => e = .returned (.bool false) ∧ w = w' :=
  (specIsWord_any s w hs).mono fun _ _ ⟨he, hw⟩ => ⟨by rw [he, h], hw⟩
theorem specLet_at (b : UInt8) (d : Int) (w : World) (h : letIdx b = d) : Calls Try.prog 44 #[.int .u8 b.toNat] w fun e w' => e = .returned (.int .i64 d) ∧ w = w' :=
  (specLet_any b w).mono fun _ _ ⟨he, hw⟩ => ⟨by rw [he, h], hw⟩

theorem letter_cases {b : UInt8} (h : isLetter b = true) : b = 97 ∨ b = 98 ∨ b = 99 := by
  obtain ⟨_, h1, h2⟩ := letIdx_yes h
  have e : b.toNat = 97 ∨ b.toNat = 98 ∨ b.toNat = 99 := by omega
  rcases e with e | e | e
  · exact .inl (UInt8.toNat_inj.1 e)
  · exact .inr (.inl (UInt8.toNat_inj.1 e))
  · exact .inr (.inr (UInt8.toNat_inj.1 e))

/-- The string of n letters a. -/
def allA (n : Nat) : ByteArray := ⟨(List.replicate n 97).toArray⟩
theorem allA_list (n : Nat) : (allA n).data.toList = List.replicate n 97 := by simp [allA]
theorem allA_size (n : Nat) : (allA n).size = n := by simp [allA, ByteArray.size]
theorem allA_le (n : Nat) (h : n ≤ 100) : (allA n).size ≤ 100 := by rw [allA_size]; exact h
theorem allA_push (n : Nat) : allA n ++ ⟨#[97]⟩ = allA (n + 1) := by
  apply bytes_ext
  rw [allA_list]
  simp [allA, List.replicate_succ']
theorem isW_allA (n : Nat) : isW (allA n).data.toList = decide (n ≤ 30) := by
  rw [allA_list]
  unfold isW
  have : (List.replicate n (97 : UInt8)).all isLetter = true := by
    rw [List.all_eq_true]
    intro x hx
    rw [(List.mem_replicate.1 hx).2]
    decide
  rw [this]
  simp

def StrPost (l : List UInt8) (w : World) (e : Ending) (w' : World) : Prop := e = .returned (.string ⟨l.toArray⟩) ∧ ∃ m, w' = w.drewN m

end Go.Proofs.Ythmfncklepkddab
