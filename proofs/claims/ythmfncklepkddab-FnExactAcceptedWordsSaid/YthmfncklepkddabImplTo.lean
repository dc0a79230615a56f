/-
  What impl.WordsOfLength and impl.WordsUpTo answer at every number: the words asked for, in order, in a new row of their own. Behind the call nothing that was there has turned.
-/
import Derived.Test.YthmfncklepkddabListWords
import Derived.Test.YthmfncklepkddabChains
import Derived.Test.YthmfncklepkddabShelf
import Derived.Test.YthmfncklepkddabOwn
namespace Go.Proofs.Ythmfncklepkddab
open Go.RowKit

theorem list_to (n : Nat) (h : n ≤ 5) (w : World) : Calls Try.prog 40 #[.string ⟨#[]⟩, .int .i64 n] w (SplPost (wordsTo n) w) := by
  obtain ⟨h1, h2, h3, h4, h5⟩ := chain_of (chainTo_ok n h)
  have := callsIn_wide.1 (listWords_any 3 _ n (chainTo n) h1 h2 h3 (Nat.le_refl _) h4 h5 w)
  rw [first_to n h, chainTo_take] at this
  exact this
theorem implTo_none (n : Int) (w : World) (h : n < 0) : Calls Try.prog 28 #[.int .i64 n] w (SplPost [] w) := by
  go_enter Try.func28, Try.ntmps28
  go_wp2
  go_ret
  exact ⟨_, rfl, World.ownsRow_nil _ _ _ _, Below.refl _ _⟩
theorem implTo_any (n : Int) (k : Nat) (w : World) (h0 : 0 ≤ n) (hk : k ≤ 5) (hn : (if 5 < n then 5 else n) = (k : Int)) : Calls Try.prog 28 #[.int .i64 n] w (SplPost (wordsTo k) w) := by
  have HL := Lib.hid (fun w => list_to k hk w)
  have hmin : ∀ w, (Builtin.min_ #[3, 3] 3 #[.int .i64 n, .int .i64 5]).run Try.prog w = .ok (.int .i64 k) w := fun w => by
    have := run_min_int2 (P := Try.prog) (w := w) #[3, 3] 3 .i64 .i64 n 5
    rw [this, ← hn]
  clear hn
  go_enter Try.func28, Try.ntmps28
  go_wp2_with fail
  refine (HL.out _).mono ?_
  intro e w1 hp
  have HP := Lib.hid hp
  obtain ⟨v, rfl, _, _⟩ := hp
  go_wp2_with fail
  go_ret
  exact HP.out
end Go.Proofs.Ythmfncklepkddab
