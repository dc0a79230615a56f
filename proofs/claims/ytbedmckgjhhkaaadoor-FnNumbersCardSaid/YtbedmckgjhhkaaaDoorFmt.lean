/-
  What spec.FormatInt answers, for every int: its decimal numeral; the world behind the call is the world before it and new blocks.
-/
import Derived.Test.YtbedmckgjhhkaaaDoorDec
namespace Go.Proofs.YtbedmckgjhhkaaaDoor
open Go.RowKit

set_option maxHeartbeats 400000 in
theorem specFormat_pos (n : Nat) (w : World) (h0 : 0 < n) (h1 : n ≤ 9223372036854775807) :
    Calls Tryd.prog 11 #[.int .i64 n] w fun e w' => e = .returned (.string ⟨(Lib.decDigits n).toArray⟩) ∧ Below w.heap.size w w' := by
  have e1 : ((n : Int) == 0) = false := by simp; omega
  have e2 : decide ((n : Int) < 0) = false := by simp
  go_enter Tryd.func11, Tryd.ntmps11
  go_wp2
  go_loopw [0, 4] (fun m o wr => ∃ (k : Nat) (L : List UInt8), m = .int .i64 k ∧ o = .string ⟨L.toArray⟩ ∧ k ≤ n ∧ FmtRel n k L ∧ Below w.heap.size w wr) (fun m _ _ => (intOf m).toNat)
  case atStart => exact ⟨n, [], rfl, rfl, Nat.le_refl _, FmtRel.start h0, Below.refl _ _⟩
  case round =>
    obtain ⟨k, L, rfl, rfl, hkn, hrel, hb⟩ := hrel
    have hlen := hrel.len h1
    by_cases hk : 0 < k
    · have e3 : ((k : Int) != 0) = true := by simp; omega
      have e4 : decide ((k : Int) % 10 < 0) = false := by simp; omega
      have hcv := conv_one wr (48 + (k : Int) % 10) (dgt k) (digit_cell k)
      go_wp2
      all_goals
        go_roundw
        case rel => exact ⟨k / 10, dgt k :: L, by go_num, congrArg Value.string (str_cons _ _), by omega, hrel.step hk, hb.alloc hb.size _⟩
        case measure => simp [intOf]; omega
    · obtain rfl : k = 0 := by omega
      go_wp2
      go_ret
      exact ⟨by rw [← hrel.1 rfl]; rfl, hb⟩

theorem tmod_neg (k : Nat) : (-(k : Int)).tmod 10 = -((k % 10 : Nat) : Int) := by
  rw [Int.neg_tmod, Int.tmod_eq_emod_of_nonneg (by omega)]; omega
theorem tdiv_neg (k : Nat) : (-(k : Int)).tdiv 10 = -((k / 10 : Nat) : Int) := by
  rw [Int.neg_tdiv, Int.tdiv_eq_ediv_of_nonneg (by omega)]; omega

set_option maxHeartbeats 400000 in
theorem specFormat_neg (n : Nat) (w : World) (h0 : 0 < n) (h1 : n ≤ 9223372036854775808) :
    Calls Tryd.prog 11 #[.int .i64 (-(n : Int))] w fun e w' => e = .returned (.string ⟨(45 :: Lib.decDigits n).toArray⟩) ∧ Below w.heap.size w w' := by
  have e1 : (-(n : Int) == 0) = false := by simp; omega
  have e2 : decide (-(n : Int) < 0) = true := by simp; omega
  go_enter Tryd.func11, Tryd.ntmps11
  go_wp2
  go_loopw [0, 4, 5] (fun m o _ wr => ∃ (k : Nat) (L : List UInt8), m = .int .i64 (-(k : Int)) ∧ o = .string ⟨L.toArray⟩ ∧ k ≤ n ∧ FmtRel n k L ∧ Below w.heap.size w wr) (fun m _ _ _ => (-(intOf m)).toNat)
  case atStart => exact ⟨n, [], rfl, rfl, Nat.le_refl _, FmtRel.start h0, Below.refl _ _⟩
  case round =>
    obtain ⟨k, L, rfl, rfl, hkn, hrel, hb⟩ := hrel
    have hlen : L.length ≤ 21 := by
      by_cases hb : n ≤ 9223372036854775807
      · exact hrel.len hb
      · obtain rfl : n = 9223372036854775808 := by omega
        have hd : (Lib.decDigits 9223372036854775808).length ≤ 21 := by
          have := Lib.itoa_length_le (-9223372036854775808) (by omega) (by omega)
          have e : Lib.itoa (-9223372036854775808) = 45 :: Lib.decDigits 9223372036854775808 := Lib.itoa_neg 9223372036854775808 (by omega)
          rw [e] at this
          simp at this
          omega
        by_cases hk : k = 0
        · rw [hrel.1 hk]; exact hd
        · have := congrArg List.length (hrel.2 hk)
          simp at this
          omega
    by_cases hk : 0 < k
    · have e3 : (-(k : Int) != 0) = true := by simp; omega
      have hcv := conv_one wr (48 + (k : Int) % 10) (dgt k) (digit_cell k)
      have e5 := tmod_neg k
      have e6 := tdiv_neg k
      by_cases hd : 0 < k % 10
      · have e7 : decide (-((k % 10 : Nat) : Int) < 0) = true := by simp; omega
        go_wp2
        all_goals
          go_roundw
          case rel => exact ⟨k / 10, dgt k :: L, by go_num, congrArg Value.string (str_cons _ _), by omega, hrel.step hk, hb.alloc hb.size _⟩
          case measure => simp [intOf]; omega
      · have e8 := conv_one wr 48 (dgt k) (by rw [← digit_cell]; omega)
        have e9 : (-(k : Int)).tmod 10 = 0 := by rw [tmod_neg]; omega
        clear hcv e5
        go_wp2
        all_goals
          go_roundw
          case rel => exact ⟨k / 10, dgt k :: L, by go_num, congrArg Value.string (str_cons _ _), by omega, hrel.step hk, hb.alloc hb.size _⟩
          case measure => simp [intOf]; omega
    · obtain rfl : k = 0 := by omega
      go_wp2
      go_ret
      exact ⟨by rw [← hrel.1 rfl]; exact congrArg (fun s => Ending.returned (Value.string s)) (str_cons _ _), hb⟩

theorem specFormat_any (n : Int) (w : World) (h0 : -9223372036854775808 ≤ n) (h1 : n ≤ 9223372036854775807) :
    Calls Tryd.prog 11 #[.int .i64 n] w fun e w' => e = .returned (.string ⟨(Lib.itoa n).toArray⟩) ∧ Below w.heap.size w w' := by
  by_cases hz : n = 0
  · subst hz
    go_enter Tryd.func11, Tryd.ntmps11
    go_wp2
    go_ret
    have e : Lib.itoa 0 = [48] := (Lib.itoa_nonneg 0).trans (Lib.decDigits_one (by omega))
    exact ⟨by rw [e]; rfl, Below.refl _ _⟩
  · by_cases hp : 0 < n
    · obtain ⟨k, rfl⟩ : ∃ k : Nat, n = k := ⟨n.toNat, by omega⟩
      have := specFormat_pos k w (by omega) (by omega)
      rw [← Lib.itoa_nonneg] at this
      exact this
    · obtain ⟨k, rfl⟩ : ∃ k : Nat, n = -(k : Int) := ⟨n.natAbs, by omega⟩
      have := specFormat_neg k w (by omega) (by omega)
      rw [← Lib.itoa_neg k (by omega)] at this
      exact this
#print axioms specFormat_any
end Go.Proofs.YtbedmckgjhhkaaaDoor
