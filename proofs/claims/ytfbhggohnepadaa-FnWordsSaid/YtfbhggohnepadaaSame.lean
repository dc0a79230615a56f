/-
  laws.sameTexts over slices of strings of the call's own that hold the same strings: true.
-/
import Derived.Test.YtfbhggohnepadaaOwn
namespace Go.Proofs.Ytfbhggohnepadaa
open Go.RowKit

set_option maxHeartbeats 400000 in
theorem sameTexts_zero (A B : Option Addr) (c d : Nat) (w : World) :
    Calls Try.prog 13 #[.slice A 0 c, .slice B 0 d] w fun e w' => e = .returned (.bool true) ∧ ∃ m, w' = w.drewN m := by
  go_enter Try.func13, Try.ntmps13
  go_wp2
  refine wp_loop_rounds 1 ?_
  rw [rounds_succ]
  go_wp2
  go_ret
  exact ⟨rfl, 0, rfl⟩
set_option maxHeartbeats 400000 in
theorem sameTexts_row (ga gb ca cb n Ba Bb : Nat) (ps : List (List UInt8)) (w : World) (hn : n ≤ 2097152) (hp : ps.length = n)
    (ha : w.ownsRow Ba 9 1 (.slice (some ⟨ga, 0, none⟩) n ca) n (strs ps)) (hb : w.ownsRow Bb 9 1 (.slice (some ⟨gb, 0, none⟩) n cb) n (strs ps)) :
    Calls Try.prog 13 #[.slice (some ⟨ga, 0, none⟩) n ca, .slice (some ⟨gb, 0, none⟩) n cb] w fun e w' => e = .returned (.bool true) ∧ ∃ m, w' = w.drewN m := by
  have HA := Lib.hid (fun j hj => ha.cellAt j hj)
  have HB := Lib.hid (fun j hj => hb.cellAt j hj)
  have HP := Lib.hid hp
  clear ha hb hp
  go_enter Try.func13, Try.ntmps13
  go_wp2
  go_loopw [5] (fun i wr => ∃ k m : Nat, i = .int .i64 k ∧ k ≤ n ∧ wr = w.drewN m) (fun i _ => n - (intOf i).toNat)
  case atStart => exact ⟨0, 0, rfl, Nat.zero_le _, rfl⟩
  case round =>
    obtain ⟨k, m, rfl, hk, rfl⟩ := hrel
    by_cases hlt : k < n
    · have hx : (strs ps)[k]? = some (.string ⟨(ps[k]'(by rw [HP.out]; exact hlt)).toArray⟩) := by simp [strs]
      obtain ⟨x, hxe⟩ : ∃ x : ByteArray, x = ⟨(ps[k]'(by rw [HP.out]; exact hlt)).toArray⟩ := ⟨_, rfl⟩
      have hA := (HA.out k (by omega)).trans hx
      have hB := (HB.out k (by omega)).trans hx
      rw [← hxe] at hA hB
      clear hx hxe
      go_wp2_with fail
      go_quiet (fail)
      all_goals go_wp2
      all_goals
        go_roundw
        case rel => exact ⟨k + 1, _, by go_num, by omega, rfl⟩
        case measure => simp [intOf]; omega
    · go_wp2
      go_ret
      exact ⟨rfl, m, rfl⟩
theorem sameTexts_own {va vb : Value} {ps : List (List UInt8)} {Ba Bb : Nat} {w : World} (hn : ps.length ≤ 2097152) (ha : w.ownsRow Ba 9 1 va ps.length (strs ps)) (hb : w.ownsRow Bb 9 1 vb ps.length (strs ps)) :
    Calls Try.prog 13 #[va, vb] w fun e w' => e = .returned (.bool true) ∧ ∃ m, w' = w.drewN m := by
  rcases own_cases ha with ⟨h0, A, c, rfl⟩ | ⟨ga, ca, rfl⟩
  · rcases own_cases hb with ⟨_, A2, c2, rfl⟩ | ⟨gb, cb, rfl⟩
    · exact sameTexts_zero A A2 c c2 w
    · rw [h0]
      exact sameTexts_zero A _ c cb w
  · rcases own_cases hb with ⟨h0, A2, c2, rfl⟩ | ⟨gb, cb, rfl⟩
    · rw [h0]
      exact sameTexts_zero _ A2 ca c2 w
    · exact sameTexts_row ga gb ca cb ps.length Ba Bb ps w hn rfl ha hb
end Go.Proofs.Ytfbhggohnepadaa
