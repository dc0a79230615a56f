/-
  What impl.WordsOfLength and impl.WordsUpTo answer at every number: the words asked for, in order, in a new row of their own. Behind the call nothing that was there has turned.
-/
import Derived.Test.YtfbhggohnepadaaListWords
import Derived.Test.YtfbhggohnepadaaChains
import Derived.Test.YtfbhggohnepadaaShelf
import Derived.Test.YtfbhggohnepadaaOwn
namespace Go.Proofs.Ytfbhggohnepadaa
open Go.RowKit

theorem list_of (n : Nat) (h : n ≤ 5) (w : World) : Calls Try.prog 33 #[.string ⟨(List.replicate n 97).toArray⟩, .int .i64 n] w (SplPost (wordsOf n) w) := by
  obtain ⟨h1, h2, h3, h4, h5⟩ := chain_of (chainOf_ok n h)
  have := callsIn_wide.1 (listWords_any 3 _ n (chainOf n) h1 h2 h3 (Nat.le_refl _) h4 h5 w)
  rw [first_of n h, chainOf_take] at this
  exact this
theorem list_to (n : Nat) (h : n ≤ 5) (w : World) : Calls Try.prog 33 #[.string ⟨#[]⟩, .int .i64 n] w (SplPost (wordsTo n) w) := by
  obtain ⟨h1, h2, h3, h4, h5⟩ := chain_of (chainTo_ok n h)
  have := callsIn_wide.1 (listWords_any 3 _ n (chainTo n) h1 h2 h3 (Nat.le_refl _) h4 h5 w)
  rw [first_to n h, chainTo_take] at this
  exact this

theorem repeat_a (n : Nat) : Lib.repeatL [97] n = List.replicate n 97 := by
  induction n with
  | zero => rfl
  | succ n ih => simp [Lib.repeatL, ih, List.replicate_succ]
theorem repeat_any (x : ByteArray) (n : Nat) (h : n ≤ 5) (hx : x = ⟨#[97]⟩) (w : World) :
    Calls Try.prog 37 #[.string x, .int .i64 n] w fun e w' => e = .returned (.string ⟨(List.replicate n 97).toArray⟩) ∧ Below w.heap.size w w' := by
  subst hx
  refine (Try.strings_Repeat ⟨#[97]⟩ n w (by omega) (by show 1 * n ≤ _; omega)).mono ?_
  rintro e w' ⟨rfl, hb⟩
  refine ⟨?_, hb⟩
  rw [← repeat_a]

theorem implWords_none (n : Int) (w : World) (h : n < 0 ∨ 5 < n) : Calls Try.prog 21 #[.int .i64 n] w (SplPost [] w) := by
  rcases h with h | h
  · go_enter Try.func21, Try.ntmps21
    go_wp2
    go_ret
    exact ⟨_, rfl, World.ownsRow_nil _ _ _ _, Below.refl _ _⟩
  · have h2 : ¬ n < 0 := by omega
    go_enter Try.func21, Try.ntmps21
    go_wp2
    go_ret
    exact ⟨_, rfl, World.ownsRow_nil _ _ _ _, Below.refl _ _⟩
theorem implWords_any (n : Nat) (w : World) (h : n ≤ 5) : Calls Try.prog 21 #[.int .i64 n] w (SplPost (wordsOf n) w) := by
  have HR := Lib.hid (fun x w hx => repeat_any x n h hx w)
  have HL := Lib.hid (fun w => list_of n h w)
  go_enter Try.func21, Try.ntmps21
  go_wp2_with fail
  refine (HR.out _ _ rfl).mono ?_
  rintro e w1 ⟨rfl, hb1⟩
  have B1 := Lib.hid hb1
  clear hb1
  go_wp2_with fail
  refine (HL.out _).mono ?_
  rintro e w2 ⟨v, rfl, hown, hb2⟩
  have HP : Hid (SplPost (wordsOf n) w (.returned v) w2) := Lib.hid ⟨v, rfl, own_lower hown B1.out.size, B1.out.trans (hb2.mono B1.out.size)⟩
  clear hown hb2
  go_wp2_with fail
  go_ret
  exact HP.out

theorem implTo_none (n : Int) (w : World) (h : n < 0) : Calls Try.prog 12 #[.int .i64 n] w (SplPost [] w) := by
  go_enter Try.func12, Try.ntmps12
  go_wp2
  go_ret
  exact ⟨_, rfl, World.ownsRow_nil _ _ _ _, Below.refl _ _⟩
theorem implTo_any (n : Int) (k : Nat) (w : World) (h0 : 0 ≤ n) (hk : k ≤ 5) (hn : (if 5 < n then 5 else n) = (k : Int)) : Calls Try.prog 12 #[.int .i64 n] w (SplPost (wordsTo k) w) := by
  have HL := Lib.hid (fun w => list_to k hk w)
  have hmin : ∀ w, (Builtin.min_ #[3, 3] 3 #[.int .i64 n, .int .i64 5]).run Try.prog w = .ok (.int .i64 k) w := fun w => by
    have := run_min_int2 (P := Try.prog) (w := w) #[3, 3] 3 .i64 .i64 n 5
    rw [this, ← hn]
  clear hn
  go_enter Try.func12, Try.ntmps12
  go_wp2_with fail
  refine (HL.out _).mono ?_
  intro e w1 hp
  have HP := Lib.hid hp
  obtain ⟨v, rfl, _, _⟩ := hp
  go_wp2_with fail
  go_ret
  exact HP.out
end Go.Proofs.Ytfbhggohnepadaa
