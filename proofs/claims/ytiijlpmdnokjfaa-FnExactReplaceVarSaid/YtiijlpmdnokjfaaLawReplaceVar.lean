/-
  laws.FnExactReplaceVar answers true at every input; of what was there nothing has turned.
-/
import Derived.Test.YtiijlpmdnokjfaaTerS
import Derived.Test.YtiijlpmdnokjfaaSubI
namespace Go.Proofs.Ytiijlpmdnokjfaa
open Go.RowKit

set_option maxRecDepth 100000 in
set_option maxHeartbeats 1600000 in
theorem lawReplaceVar_any (s0 : ByteArray) (b1 : UInt8) (s2 : ByteArray) (w : World) (hs0 : s0.size ≤ maxLen) (hs2 : s2.size ≤ maxLen) :
    Calls Try.prog 7 #[.string s0, .int .u8 b1.toNat, .string s2] w fun e w' => e = .returned (.bool true) ∧ Below w.heap.size w w' := by
  have HA := Lib.hid (Below.refl w.heap.size w)
  by_cases hq0 : 1048576 < s0.size
  · unfold maxLen at hs0
    go_enter Try.func7, Try.ntmps7
    go_wp2
    go_ret
    exact ⟨rfl, HA.out⟩
  by_cases hq2 : 1048576 < s2.size
  · unfold maxLen at hs2
    go_enter Try.func7, Try.ntmps7
    go_wp2
    go_ret
    exact ⟨rfl, HA.out⟩
  have HS := Lib.hid (fun V => specRep_any s0 s2 b1 V (by omega) (by omega))
  have HI := Lib.hid (fun V => implRep_any s0 s2 b1 V (by omega) (by omega))
  go_enter Try.func7, Try.ntmps7
  go_wp2_with (first | (go_at_call 33; refine (HS.out _).mono ?_; rintro e w1 ⟨rfl, rfl⟩) | (go_at_call 22; refine (HI.out _).mono ?_; rintro e w1 ⟨rfl, hb⟩; replace HA := Lib.hid (HA.out.trans (hb.mono HA.out.size)); clear hb))
  go_ret
  exact ⟨rfl, HA.out⟩
end Go.Proofs.Ytiijlpmdnokjfaa
