/-
  What spec.NextWord answers at every string: the next word, or the empty string; the world is as it was but for what was drawn.
-/
import Derived.Test.YtfbhggohnepadaaIsWord
import Derived.Test.YtfbhggohnepadaaNextMath
import Derived.Deep.QuietTactic
import Derived.BigQuiet
import Derived.RegionTactic
namespace Go.Proofs.Ytfbhggohnepadaa
open Go.RowKit

theorem bytes_ext {a b : ByteArray} (h : a.data.toList = b.data.toList) : a = b := ByteArray.ext (Array.toList_inj.1 h)
theorem str_ret {a b : ByteArray} (h : a.data.toList = b.data.toList) : Ending.returned (.string a) = Ending.returned (.string b) := by rw [bytes_ext h]
theorem extract_head (s : ByteArray) (k : Nat) : (s.extract 0 k).data.toList = s.data.toList.take k := by simp

/-- What a call of IsWord says, the two answers apart. -/
theorem specIsWord_yes (s : ByteArray) (w : World) (hs : s.size ≤ maxLen) (h : isW s.data.toList = true) : Calls Try.prog 25 #[.string s] w fun e w' => e = .returned (.bool true) ∧ w = w' :=
  (specIsWord_any s w hs).mono fun _ _ ⟨he, hw⟩ => ⟨by rw [he, h], hw⟩
theorem specIsWord_no (s : ByteArray) (w : World) (hs : s.size ≤ maxLen) (h : isW s.data.toList = false) : Calls Try.prog 25 #[.string s] w fun e w' => e = .returned (.bool false) ∧ w = w' :=
  (specIsWord_any s w hs).mono fun _ _ ⟨he, hw⟩ => ⟨by rw [he, h], hw⟩
theorem specLet_at (b : UInt8) (d : Int) (w : World) (h : letIdx b = d) : Calls Try.prog 26 #[.int .u8 b.toNat] w fun e w' => e = .returned (.int .i64 d) ∧ w = w' :=
  (specLet_any b w).mono fun _ _ ⟨he, hw⟩ => ⟨by rw [he, h], hw⟩

theorem letter_cases {b : UInt8} (h : isLetter b = true) : b = 97 ∨ b = 98 ∨ b = 99 := by
  obtain ⟨_, h1, h2⟩ := letIdx_yes h
  have e : b.toNat = 97 ∨ b.toNat = 98 ∨ b.toNat = 99 := by omega
  rcases e with e | e | e
  · exact .inl (UInt8.toNat_inj.1 e)
  · exact .inr (.inl (UInt8.toNat_inj.1 e))
  · exact .inr (.inr (UInt8.toNat_inj.1 e))

/-- The string of n letters a. -/
def allA (n : Nat) : ByteArray := ⟨(List.replicate n 97).toArray⟩
theorem allA_list (n : Nat) : (allA n).data.toList = List.replicate n 97 := by simp [allA]
theorem allA_size (n : Nat) : (allA n).size = n := by simp [allA, ByteArray.size]
theorem allA_le (n : Nat) (h : n ≤ 100) : (allA n).size ≤ 100 := by rw [allA_size]; exact h
theorem allA_push (n : Nat) : allA n ++ ⟨#[97]⟩ = allA (n + 1) := by
  apply bytes_ext
  rw [allA_list]
  simp [allA, List.replicate_succ']
theorem isW_allA (n : Nat) : isW (allA n).data.toList = decide (n ≤ 30) := by
  rw [allA_list]
  unfold isW
  have : (List.replicate n (97 : UInt8)).all isLetter = true := by
    rw [List.all_eq_true]
    intro x hx
    rw [(List.mem_replicate.1 hx).2]
    decide
  rw [this]
  simp

def StrPost (l : List UInt8) (w : World) (e : Ending) (w' : World) : Prop := e = .returned (.string ⟨l.toArray⟩) ∧ ∃ m, w' = w.drewN m

set_option maxHeartbeats 800000 in
theorem specNext_any (s : ByteArray) (w : World) (hs : s.size ≤ maxLen) :
    Calls Try.prog 23 #[.string s] w (StrPost (nextW s.data.toList) w) := by
  cases hw : isW s.data.toList with
  | false =>
    have HN := Lib.hid (nextW_no hw)
    have HC := Lib.hid (fun w => specIsWord_no s w hs hw)
    clear hs hw
    go_enter Try.func23, Try.ntmps23
    go_wp2_with (go_at_call 25; refine (HC.out _).mono ?_; rintro e w' ⟨rfl, rfl⟩)
    go_ret
    exact ⟨str_ret (by rw [HN.out]), 0, rfl⟩
  | true =>
    have HC := Lib.hid (fun w => specIsWord_yes s w hs hw)
    have hlen := isW_len hw
    have hsz : s.data.toList.length = s.size := by simp
    rw [hsz] at hlen
    have HSZ := Lib.hid hsz
    have HW := Lib.hid hw
    clear hsz hw
    go_enter Try.func23, Try.ntmps23
    go_wp2_with (go_at_call 25; refine (HC.out _).mono ?_; rintro e w' ⟨rfl, rfl⟩)
    go_loop [3, 4] (fun t i => ∃ m : Nat, i = .int .i64 ((m : Int) - 1) ∧ t = .string (allA (s.size - m)) ∧ m ≤ s.size ∧ Carry s.data.toList m) (fun _ i => (intOf i + 1).toNat)
    case atStart => exact ⟨s.size, rfl, by rw [Nat.sub_self]; rfl, Nat.le_refl _, by rw [← HSZ.out]; exact Carry.start _⟩
    case round =>
      obtain ⟨m, hi, rfl, hm, hcar⟩ := hrel
      have HR := Lib.hid hcar
      clear hcar
      cases m with
      | zero =>
        have hi' : _ = Value.int .i64 (-1) := hi
        clear hi
        subst hi'
        have HX := Lib.hid (HR.out.wrap HW.out)
        have hza := allA_le s.size (by omega)
        have HP := Lib.hid (allA_push s.size)
        have HA := Lib.hid (isW_allA (s.size + 1))
        by_cases h29 : s.size + 1 ≤ 30
        · have HC2 := Lib.hid (fun w => specIsWord_yes (allA (s.size + 1)) w (by rw [allA_size]; unfold maxLen; omega) (by rw [HA.out]; simpa using h29))
          rw [← HP.out] at HC2
          go_wp2_with (go_at_call 25; refine (HC2.out _).mono ?_; rintro e w' ⟨rfl, rfl⟩)
          go_ret
          exact ⟨by rw [HX.out, if_pos (by rw [HSZ.out]; exact h29), HSZ.out]; exact str_ret (by simp [allA, List.replicate_succ']), 0, rfl⟩
        · have HC2 := Lib.hid (fun w => specIsWord_no (allA (s.size + 1)) w (by rw [allA_size]; unfold maxLen; omega) (by rw [HA.out]; simpa using h29))
          rw [← HP.out] at HC2
          go_wp2_with (go_at_call 25; refine (HC2.out _).mono ?_; rintro e w' ⟨rfl, rfl⟩)
          go_ret
          exact ⟨by rw [HX.out, if_neg (by rw [HSZ.out]; exact h29)]; rfl, 0, rfl⟩
      | succ k =>
        have hi' : _ = Value.int .i64 (k : Int) := hi.trans (congrArg (Value.int .i64) (by omega))
        clear hi
        subst hi'
        have hk : k < s.size := by omega
        have hk2 : k ≤ s.size := by omega
        have hza := allA_le (s.size - (k + 1)) (by omega)
        have hb := isW_at HW.out (by rw [HSZ.out]; exact hk : k < s.data.toList.length)
        obtain ⟨b, hbe⟩ : ∃ b, b = s[k] := ⟨_, rfl⟩
        have hbe' : b = s.data.toList[k]'(by rw [HSZ.out]; exact hk) := hbe
        rw [← hbe'] at hb
        by_cases hc : b = 99
        · have HN := Lib.hid (HR.out.step (by rw [HSZ.out]; exact hk) (by rw [← hbe']; exact hc))
          have HL := Lib.hid (fun w => specLet_at s[k] 2 w (by rw [← hbe, hc]; rfl))
          have HP := Lib.hid (allA_push (s.size - (k + 1)))
          have HE : Hid (s.size - (k + 1) + 1 = s.size - k) := Lib.hid (by omega)
          clear hb hbe hbe' hc
          go_wp2_with (go_at_call 26; refine (HL.out _).mono ?_; rintro e w' ⟨rfl, rfl⟩)
          go_round
          case rel => exact ⟨k, rfl, by rw [HP.out, HE.out], by omega, HN.out⟩
          case measure => simp [intOf]
        · have HX := Lib.hid (HR.out.next (by rw [HSZ.out]; exact hk) HW.out (by rw [← hbe']; obtain ⟨_, _, h2⟩ := letIdx_yes hb; have hne : b.toNat ≠ 99 := fun e => hc (UInt8.toNat_inj.1 e); omega))
          rcases letter_cases hb with h | h | h
          · have HL := Lib.hid (fun w => specLet_at s[k] 0 w (by rw [← hbe, h]; rfl))
            have HB : Hid (s.data.toList[k]'(by rw [HSZ.out]; exact hk) = 97) := Lib.hid (by rw [← hbe', h])
            clear hb hbe hbe' hc h
            go_wp2_with (go_at_call 26; refine (HL.out _).mono ?_; rintro e w' ⟨rfl, rfl⟩)
            go_quiet (fail)
            go_wp2
            go_ret
            refine ⟨str_ret ?_, _, rfl⟩
            rw [HX.out, HB.out, HSZ.out]
            simp [allA]
            try rfl
          · have HL := Lib.hid (fun w => specLet_at s[k] 1 w (by rw [← hbe, h]; rfl))
            have HB : Hid (s.data.toList[k]'(by rw [HSZ.out]; exact hk) = 98) := Lib.hid (by rw [← hbe', h])
            clear hb hbe hbe' hc h
            go_wp2_with (go_at_call 26; refine (HL.out _).mono ?_; rintro e w' ⟨rfl, rfl⟩)
            go_quiet (fail)
            go_wp2
            go_ret
            refine ⟨str_ret ?_, _, rfl⟩
            rw [HX.out, HB.out, HSZ.out]
            simp [allA]
            try rfl
          · exact absurd h hc
end Go.Proofs.Ytfbhggohnepadaa
