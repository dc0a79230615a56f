/-
  What impl.LetterIndex answers at every byte: the letter's place, or -1; the world is as it was.
-/
import Derived.Test.YtiijlpmdnokjfaaLetM
import Derived.Test.YtiijlpmdnokjfaaShelf
namespace Go.Proofs.Ytiijlpmdnokjfaa
open Go.RowKit

theorem implLet_any (b : UInt8) (w : World) :
    Calls Try.prog 85 #[.int .u8 b.toNat] w fun e w' => e = .returned (.int .i64 (letIdx b)) ∧ w = w' := by
  have HL := Lib.hid (letIdx_lib b)
  go_enter Try.func85, Try.ntmps85
  go_wp2_with (go_at_call 49; refine (Try.strings_IndexByte _ _ _).mono ?_; rintro e w' ⟨rfl, rfl⟩)
  go_ret
  have hc : ((b.toNat : Int)).toNat.toUInt8 = b := by simp
  refine ⟨?_, rfl⟩
  rw [← HL.out]
  simp

end Go.Proofs.Ytiijlpmdnokjfaa
