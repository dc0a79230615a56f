/-
  What spec.LetterIndex answers at every byte: the letter's place, or -1; the world is as it was.
-/
import Derived.Test.YtiijlpmdnokjfaaLetM
namespace Go.Proofs.Ytiijlpmdnokjfaa
open Go.RowKit

set_option maxHeartbeats 400000 in
theorem specLet_any (b : UInt8) (w : World) :
    Calls Try.prog 52 #[.int .u8 b.toNat] w fun e w' => e = .returned (.int .i64 (letIdx b)) ∧ w = w' := by
  by_cases h0 : b = 97
  · subst h0
    go_enter Try.func52, Try.ntmps52
    go_wp2
    refine wp_loop_rounds 1 ?_
    rw [rounds_succ]
    go_wp2
    go_ret
    exact ⟨rfl, rfl⟩
  · by_cases h1 : b = 98
    · subst h1
      go_enter Try.func52, Try.ntmps52
      go_wp2
      refine wp_loop_rounds 2 ?_
      rw [rounds_succ]
      go_wp2
      rw [rounds_succ]
      go_wp2
      go_ret
      exact ⟨rfl, rfl⟩
    · by_cases h2 : b = 99
      · subst h2
        go_enter Try.func52, Try.ntmps52
        go_wp2
        refine wp_loop_rounds 3 ?_
        rw [rounds_succ]
        go_wp2
        rw [rounds_succ]
        go_wp2
        rw [rounds_succ]
        go_wp2
        go_ret
        exact ⟨rfl, rfl⟩
      · have e : letIdx b = -1 := by unfold letIdx; rw [if_neg h0, if_neg h1, if_neg h2]
        have HE := Lib.hid e
        have f0 : ((((ByteArray.mk #[97, 98, 99])[0]'(by decide)).toNat : Int) == (b.toNat : Int)) = false := by
          show ((97 : Int) == (b.toNat : Int)) = false
          simp only [beq_eq_false_iff_ne, ne_eq]; intro e; exact h0 (UInt8.toNat_inj.1 (by simp; omega))
        have f1 : ((((ByteArray.mk #[97, 98, 99])[1]'(by decide)).toNat : Int) == (b.toNat : Int)) = false := by
          show ((98 : Int) == (b.toNat : Int)) = false
          simp only [beq_eq_false_iff_ne, ne_eq]; intro e; exact h1 (UInt8.toNat_inj.1 (by simp; omega))
        have f2 : ((((ByteArray.mk #[97, 98, 99])[2]'(by decide)).toNat : Int) == (b.toNat : Int)) = false := by
          show ((99 : Int) == (b.toNat : Int)) = false
          simp only [beq_eq_false_iff_ne, ne_eq]; intro e; exact h2 (UInt8.toNat_inj.1 (by simp; omega))
        clear e h0 h1 h2
        go_enter Try.func52, Try.ntmps52
        go_wp2
        refine wp_loop_rounds 4 ?_
        rw [rounds_succ]
        go_wp2
        rw [rounds_succ]
        go_wp2
        rw [rounds_succ]
        go_wp2
        rw [rounds_succ]
        go_wp2
        go_ret
        exact ⟨congrArg (fun z => Ending.returned (.int .i64 z)) HE.out.symm, rfl⟩
end Go.Proofs.Ytiijlpmdnokjfaa
