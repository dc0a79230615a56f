/-
  What spec.l1Read answers: the number of at most so many digits whose numeral the string is, and true; 0 and false if there is none. Behind the call nothing that was there has turned.
-/
import Derived.Test.YtbedmckgjhhkaaaDoorNum
import Derived.Test.YtbedmckgjhhkaaaDoorFmt
namespace Go.Proofs.YtbedmckgjhhkaaaDoor
open Go.RowKit

/-- A number and a bool come back as 'Reading' says. -/
def ReadPost (most : Nat) (l : List UInt8) (w : World) (e : Ending) (w' : World) : Prop := ∃ (v : Int) (ok : Bool), e = .returned (.tuple #[.int .i64 v, .bool ok]) ∧ Reading most l v ok ∧ Below w.heap.size w w'

set_option maxHeartbeats 400000 in
theorem read_neg (s t : ByteArray) (most : Nat) (w : World) (hs : s.size ≤ maxLen) (hm : 1 ≤ most) (hm2 : most ≤ 12) (h0 : 0 < s.size) (hb : s[0] = 45)
    (ht : s.extract 1 s.size = t) (htz : s.size - 1 = t.size) (hl : s.data.toList = 45 :: t.data.toList) :
    Calls Tryd.prog 24 #[.string s, .int .i64 most] w (ReadPost most s.data.toList w) := by
  unfold maxLen at hs
  have HL := Lib.hid hl
  clear hl
  have htl : t.data.toList.length = t.size := by simp
  have HTL := Lib.hid htl
  clear htl
  have hts : t.size ≤ 9223372036854775807 := by omega
  by_cases hz1 : t.size < 1
  · have e1 : decide ((t.size : Int) < 1) = true := by simp; omega
    go_enter Tryd.func24, Tryd.ntmps24
    go_wp2
    go_ret2
    exact ⟨0, false, rfl, by rw [HL.out]; exact Reading.size_neg hm (.inl (by rw [HTL.out]; exact hz1)), Below.refl _ _⟩
  · have e1 : decide ((t.size : Int) < 1) = false := by simp; omega
    by_cases hz2 : most < t.size
    · have e2 : decide (most < t.size) = true := by simp; omega
      go_enter Tryd.func24, Tryd.ntmps24
      go_wp2
      go_ret2
      exact ⟨0, false, rfl, by rw [HL.out]; exact Reading.size_neg hm (.inr (by rw [HTL.out]; exact hz2)), Below.refl _ _⟩
    · have e2 : decide (most < t.size) = false := by simp; omega
      go_enter Tryd.func24, Tryd.ntmps24
      go_wp2
      go_loop [8, 9] (fun n i => ∃ k m : Nat, k ≤ t.size ∧ i = .int .i64 k ∧ n = .int .i64 m ∧ Lib.decFrom 0 (t.data.toList.take k) = some m) (fun _ i => t.size - (intOf i).toNat)
      case atStart => exact ⟨0, 0, Nat.zero_le _, rfl, rfl, rfl⟩
      case round =>
        obtain ⟨k, m, hk, rfl, rfl, hd⟩ := hrel
        have hmb : m < 100000000000000000 := Lib.decFrom_take_lt hd (by omega)
        have HD := Lib.hid hd
        clear hd
        by_cases hlt : k < t.size
        · have hbt : t.data.toList[k]? = some t[k] := by simp [hlt]; rfl
          have HB := Lib.hid hbt
          clear hbt
          by_cases hdig : 48 ≤ (t[k].toNat : Int) ∧ (t[k].toNat : Int) ≤ 57
          · obtain ⟨hd1, hd2⟩ := hdig
            go_wp2
            all_goals
              go_round
              case rel => exact ⟨k + 1, m * 10 + (t[k].toNat - 48), by omega, by go_num, by go_num, Lib.decFrom_take _ _ _ _ _ _ HD.out HB.out (by unfold Lib.digitVal; rw [if_pos (by omega)])⟩
              case measure => simp [intOf]; omega
          · have fin : Reading most (45 :: t.data.toList) 0 false := Reading.byte_neg (b := t[k]) (List.mem_of_getElem? HB.out) (by omega)
            have FIN := Lib.hid fin
            clear fin
            by_cases hlo : (t[k].toNat : Int) < 48
            · have e3 : decide ((t[k].toNat : Int) < 48) = true := by simpa using hlo
              go_wp2
              go_ret2
              exact ⟨0, false, rfl, by rw [HL.out]; exact FIN.out, Below.refl _ _⟩
            · have hhi : 57 < (t[k].toNat : Int) := by omega
              go_wp2
              go_ret2
              exact ⟨0, false, rfl, by rw [HL.out]; exact FIN.out, Below.refl _ _⟩
        · obtain rfl : k = t.size := by omega
          have hnum := Reading.num_neg (most := most) (t := t.data.toList) (m := m) (by rw [HTL.out]; omega) (by have := HD.out; rwa [List.take_of_length_le (by rw [HTL.out]; exact Nat.le_refl _)] at this)
          have NUM := Lib.hid hnum
          clear hnum
          cases hq : (Lib.itoa (-(m : Int)) == s.toList) with
          | true =>
            have HQ := Lib.hid (show true = decide (Lib.itoa (-(m : Int)) = 45 :: t.data.toList) by rw [← HL.out, ← ByteArray.toList_eq]; exact (decide_eq_true (by simpa using hq)).symm)
            go_wp2_with (go_at_call 11; refine (specFormat_any _ _ (by omega) (by omega)).mono ?_; rintro e w1 ⟨rfl, hb1⟩)
            go_ret2
            exact ⟨-(m : Int), true, rfl, by rw [HL.out]; exact NUM.out true HQ.out, hb1⟩
          | false =>
            have HQ := Lib.hid (show false = decide (Lib.itoa (-(m : Int)) = 45 :: t.data.toList) by rw [← HL.out, ← ByteArray.toList_eq]; exact (decide_eq_false (by simpa using hq)).symm)
            go_wp2_with (go_at_call 11; refine (specFormat_any _ _ (by omega) (by omega)).mono ?_; rintro e w1 ⟨rfl, hb1⟩)
            go_ret2
            exact ⟨0, false, rfl, by rw [HL.out]; exact NUM.out false HQ.out, hb1⟩

set_option maxHeartbeats 400000 in
theorem read_pos (t : ByteArray) (most : Nat) (w : World) (hs : t.size ≤ maxLen) (hm : 1 ≤ most) (hm2 : most ≤ 12) (h0 : 0 < t.size) (hb : (((t[0].toNat : Int)) == 45) = false)
    (hl : t.data.toList.head? ≠ some 45) :
    Calls Tryd.prog 24 #[.string t, .int .i64 most] w (ReadPost most t.data.toList w) := by
  unfold maxLen at hs
  have HL := Lib.hid hl
  clear hl
  have htl : t.data.toList.length = t.size := by simp
  have HTL := Lib.hid htl
  clear htl
  have hts : t.size ≤ 9223372036854775807 := by omega
  by_cases hz1 : t.size < 1
  · have e1 : decide ((t.size : Int) < 1) = true := by simp; omega
    go_enter Tryd.func24, Tryd.ntmps24
    go_wp2
    go_ret2
    exact ⟨0, false, rfl, Reading.size_pos hm HL.out (.inl (by rw [HTL.out]; exact hz1)), Below.refl _ _⟩
  · have e1 : decide ((t.size : Int) < 1) = false := by simp; omega
    by_cases hz2 : most < t.size
    · have e2 : decide (most < t.size) = true := by simp; omega
      go_enter Tryd.func24, Tryd.ntmps24
      go_wp2
      go_ret2
      exact ⟨0, false, rfl, Reading.size_pos hm HL.out (.inr (by rw [HTL.out]; exact hz2)), Below.refl _ _⟩
    · have e2 : decide (most < t.size) = false := by simp; omega
      go_enter Tryd.func24, Tryd.ntmps24
      go_wp2
      go_loop [8, 9] (fun n i => ∃ k m : Nat, k ≤ t.size ∧ i = .int .i64 k ∧ n = .int .i64 m ∧ Lib.decFrom 0 (t.data.toList.take k) = some m) (fun _ i => t.size - (intOf i).toNat)
      case atStart => exact ⟨0, 0, Nat.zero_le _, rfl, rfl, rfl⟩
      case round =>
        obtain ⟨k, m, hk, rfl, rfl, hd⟩ := hrel
        have hmb : m < 100000000000000000 := Lib.decFrom_take_lt hd (by omega)
        have HD := Lib.hid hd
        clear hd
        by_cases hlt : k < t.size
        · have hbt : t.data.toList[k]? = some t[k] := by simp [hlt]; rfl
          have HB := Lib.hid hbt
          clear hbt
          by_cases hdig : 48 ≤ (t[k].toNat : Int) ∧ (t[k].toNat : Int) ≤ 57
          · obtain ⟨hd1, hd2⟩ := hdig
            go_wp2
            all_goals
              go_round
              case rel => exact ⟨k + 1, m * 10 + (t[k].toNat - 48), by omega, by go_num, by go_num, Lib.decFrom_take _ _ _ _ _ _ HD.out HB.out (by unfold Lib.digitVal; rw [if_pos (by omega)])⟩
              case measure => simp [intOf]; omega
          · have fin : Reading most (t.data.toList) 0 false := Reading.byte_pos HL.out (b := t[k]) (List.mem_of_getElem? HB.out) (by omega)
            have FIN := Lib.hid fin
            clear fin
            by_cases hlo : (t[k].toNat : Int) < 48
            · have e3 : decide ((t[k].toNat : Int) < 48) = true := by simpa using hlo
              go_wp2
              go_ret2
              exact ⟨0, false, rfl, FIN.out, Below.refl _ _⟩
            · have hhi : 57 < (t[k].toNat : Int) := by omega
              go_wp2
              go_ret2
              exact ⟨0, false, rfl, FIN.out, Below.refl _ _⟩
        · obtain rfl : k = t.size := by omega
          have hnum := Reading.num_pos (most := most) (t := t.data.toList) (m := m) HL.out (by rw [HTL.out]; omega) (by have := HD.out; rwa [List.take_of_length_le (by rw [HTL.out]; exact Nat.le_refl _)] at this)
          have NUM := Lib.hid hnum
          clear hnum
          cases hq : (Lib.itoa ((m : Int)) == t.toList) with
          | true =>
            have HQ := Lib.hid (show true = decide (Lib.itoa ((m : Int)) = t.data.toList) by rw [← ByteArray.toList_eq]; exact (decide_eq_true (by simpa using hq)).symm)
            go_wp2_with (go_at_call 11; refine (specFormat_any _ _ (by omega) (by omega)).mono ?_; rintro e w1 ⟨rfl, hb1⟩)
            go_ret2
            exact ⟨(m : Int), true, rfl, NUM.out true HQ.out, hb1⟩
          | false =>
            have HQ := Lib.hid (show false = decide (Lib.itoa ((m : Int)) = t.data.toList) by rw [← ByteArray.toList_eq]; exact (decide_eq_false (by simpa using hq)).symm)
            go_wp2_with (go_at_call 11; refine (specFormat_any _ _ (by omega) (by omega)).mono ?_; rintro e w1 ⟨rfl, hb1⟩)
            go_ret2
            exact ⟨0, false, rfl, NUM.out false HQ.out, hb1⟩

end Go.Proofs.YtbedmckgjhhkaaaDoor
