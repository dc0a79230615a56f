/-
  What impl.LetterIndex answers at every byte: the letter's place, or -1; the world is as it was.
-/
import Derived.Test.YthmfncklepkddabLetM
import Derived.Test.YthmfncklepkddabShelf
namespace Go.Proofs.Ythmfncklepkddab
open Go.RowKit

theorem implLet_any (b : UInt8) (w : World) :
    Calls Try.prog 47 #[.int .u8 b.toNat] w fun e w' => e = .returned (.int .i64 (letIdx b)) ∧ w = w' := by
  have HL := Lib.hid (letIdx_lib b)
  go_enter Try.func47, Try.ntmps47
  go_wp2_with (go_at_call 50; refine (Try.strings_IndexByte _ _ _).mono ?_; rintro e w' ⟨rfl, rfl⟩)
  go_ret
  have hc : ((b.toNat : Int)).toNat.toUInt8 = b := by simp
  refine ⟨?_, rfl⟩
  rw [← HL.out]
  simp

end Go.Proofs.Ythmfncklepkddab
