/-
  What impl.IsWord answers at every string: whether it is a word of at most 30 letters; the world is as it was.
-/
import Derived.Test.YtiijlpmdnokjfaaLetM
import Derived.Test.YtiijlpmdnokjfaaLetI
namespace Go.Proofs.Ytiijlpmdnokjfaa
open Go.RowKit

set_option maxHeartbeats 400000 in
theorem implIsWord_any (s : ByteArray) (w : World) (hs : s.size ≤ maxLen) :
    Calls Try.prog 60 #[.string s] w fun e w' => e = .returned (.bool (isW s.data.toList)) ∧ w = w' := by
  unfold maxLen at hs
  by_cases h30 : 30 < s.size
  · have HN := Lib.hid (isW_long h30)
    go_enter Try.func60, Try.ntmps60
    go_wp2
    go_ret
    exact ⟨congrArg (fun z => Ending.returned (.bool z)) HN.out.symm, rfl⟩
  · go_enter Try.func60, Try.ntmps60
    go_wp2
    go_loop [9] (fun i => ∃ k : Nat, i = .int .i64 k ∧ k ≤ s.size ∧ (s.data.toList.take k).all isLetter = true) (fun i => s.size - (intOf i).toNat)
    case atStart => exact ⟨0, rfl, Nat.zero_le _, rfl⟩
    case round =>
      obtain ⟨k, rfl, hk, hall⟩ := hrel
      have HA := Lib.hid hall
      clear hall
      by_cases hlt : k < s.size
      · cases hb : isLetter s[k] with
        | true =>
          have HN := Lib.hid (show (s.data.toList.take (k + 1)).all isLetter = true by rw [all_take_succ s k hlt, HA.out, hb]; rfl)
          obtain ⟨hl, h97, h99⟩ := letIdx_yes hb
          have hl0 : 0 ≤ letIdx s[k] := by omega
          clear hl hb
          go_wp2_with (go_at_call 85; refine (implLet_any _ _).mono ?_; rintro e w' ⟨rfl, rfl⟩)
          go_round
          case rel => exact ⟨k + 1, by go_num, by omega, HN.out⟩
          case measure => simp [intOf]; omega
        | false =>
          have HN := Lib.hid (isW_bad hlt hb)
          have hl := letIdx_no hb
          have hl0 : letIdx s[k] < 0 := by omega
          clear hl hb
          go_wp2_with (go_at_call 85; refine (implLet_any _ _).mono ?_; rintro e w' ⟨rfl, rfl⟩)
          go_ret
          exact ⟨congrArg (fun z => Ending.returned (.bool z)) HN.out.symm, rfl⟩
      · obtain rfl : k = s.size := by omega
        have HN := Lib.hid (isW_all HA.out)
        have hd : decide ((s.size : Int) ≤ 30) = true := by simp; omega
        have HN2 := Lib.hid (HN.out.trans hd)
        clear hd
        go_wp2
        go_ret
        exact ⟨congrArg (fun z => Ending.returned (.bool z)) HN2.out.symm, rfl⟩
end Go.Proofs.Ytiijlpmdnokjfaa
