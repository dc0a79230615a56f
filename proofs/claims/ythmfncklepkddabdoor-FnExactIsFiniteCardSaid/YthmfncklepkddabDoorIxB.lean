/-
  What slices.Index answers over truth values.
-/
import Derived.Test.YthmfncklepkddabDoorIxM
import Derived.Test.YthmfncklepkddabDoorDfaX
namespace Go.Proofs.YthmfncklepkddabDoor
open Go.RowKit

set_option maxRecDepth 100000 in
set_option maxHeartbeats 1600000 in
theorem libIxB_any (ad : Addr) (n c : Nat) (A : Nat → Bool) (w : World) (hn : n ≤ 1099511627776) (hc : ∀ j, j < n → w.cell? (ad.add j) = some (.bool (A j))) :
    Calls Tryd.prog 39 #[.slice (some ad) n c, .bool true] w fun e w' => e = .returned (.int .i64 (ixI A n)) ∧ w = w' := by
  have HC := Lib.hid hc
  clear hc
  go_enter Tryd.func39, Tryd.ntmps39
  go_wp2_with fail
  go_loop [8] (fun i => ∃ j : Nat, i = .int .i64 j ∧ j ≤ n ∧ Hid (∀ i, i < j → A i = false)) (fun i => n - (intOf i).toNat)
  case atStart => exact ⟨0, rfl, Nat.zero_le _, Lib.hid (fun i hi => absurd hi (Nat.not_lt_zero _))⟩
  case round =>
    obtain ⟨j, rfl, hj, HA⟩ := hrel
    by_cases hlt : j < n
    · have hcj := HC.out j hlt
      obtain ⟨x, hx⟩ : ∃ x, x = A j := ⟨_, rfl⟩
      rw [← hx] at hcj
      have s0 : (j : Int) < (n : Int) := by omega
      have s1 : (0 : Int) ≤ (j : Int) := by omega
      cases x with
      | true =>
        have HE : Hid (ixI A n = (j : Int)) := Lib.hid (ixI_at hlt hx.symm HA.out)
        clear hx HA
        go_wp2_with fail
        go_ret
        exact ⟨congrArg (fun z : Int => Ending.returned (.int .i64 z)) HE.out.symm, rfl⟩
      | false =>
        have HA2 : Hid (∀ i, i < j + 1 → A i = false) := Lib.hid (fun i hi => by
          by_cases e2 : i = j
          · rw [e2]
            exact hx.symm
          · exact HA.out i (by omega))
        clear hx HA
        go_wp2_with fail
        go_round
        case rel => exact ⟨j + 1, by go_num, by omega, HA2⟩
        case measure => simp [intOf]; omega
    · have HE : Hid (ixI A n = -1) := Lib.hid (ixI_none (fun i hi => HA.out i (by omega)))
      clear HA
      go_wp2_with fail
      go_ret
      exact ⟨congrArg (fun z : Int => Ending.returned (.int .i64 z)) HE.out.symm, rfl⟩
end Go.Proofs.YthmfncklepkddabDoor
