/-
  laws.FnExactIsTerm answers true at every input; of what was there nothing has turned.
-/
import Derived.Test.YtiijlpmdnokjfaaTerS
import Derived.Test.YtiijlpmdnokjfaaRuneI
namespace Go.Proofs.Ytiijlpmdnokjfaa
open Go.RowKit

set_option maxRecDepth 100000 in
set_option maxHeartbeats 1600000 in
theorem lawIsTerm_any (s0 : ByteArray) (w : World) (hs0 : s0.size ≤ maxLen) :
    Calls Try.prog 4 #[.string s0] w fun e w' => e = .returned (.bool true) ∧ Below w.heap.size w w' := by
  have HA := Lib.hid (Below.refl w.heap.size w)
  by_cases hq0 : 1048576 < s0.size
  · unfold maxLen at hs0
    go_enter Try.func4, Try.ntmps4
    go_wp2
    go_ret
    exact ⟨rfl, HA.out⟩
  have HS := Lib.hid (fun V => specIsT_any s0 V (by unfold maxLen; omega))
  have HI := Lib.hid (fun V => implIsT_any s0 V (by unfold maxLen; omega))
  go_enter Try.func4, Try.ntmps4
  go_wp2_with (first | (go_at_call 21; refine (HS.out _).mono ?_; rintro e w1 ⟨rfl, rfl⟩) | (go_at_call 20; refine (HI.out _).mono ?_; rintro e w1 ⟨rfl, hb⟩; replace HA := Lib.hid (HA.out.trans (hb.mono HA.out.size)); clear hb))
  go_ret
  exact ⟨rfl, HA.out⟩
end Go.Proofs.Ytiijlpmdnokjfaa
