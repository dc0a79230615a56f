/-
  The laws' helpers over slices of strings of the call's own, nil and empty ones let in: eqStringS, markStringS, heldStringS.
-/
import Derived.Test.YthmfncklepkddabMark
namespace Go.Proofs.Ythmfncklepkddab
open Go.RowKit

set_option maxHeartbeats 400000 in
theorem eqStrings_zero (A B : Option Addr) (c d : Nat) (w : World) :
    Calls Try.prog 12 #[.slice A 0 c, .slice B 0 d] w fun e w' => e = .returned (.bool true) ∧ ∃ m, w' = w.drewN m := by
  go_enter Try.func12, Try.ntmps12
  go_wp2
  refine wp_loop_rounds 1 ?_
  rw [rounds_succ]
  go_wp2
  go_ret
  exact ⟨rfl, 0, rfl⟩
set_option maxHeartbeats 400000 in
theorem markStrings_zero (A : Option Addr) (c : Nat) (k : Int) (w : World) :
    Calls Try.prog 14 #[.slice A 0 c, .int .i64 k] w fun e w' => e = .returned (.int .i64 k) ∧ w = w' := by
  go_enter Try.func14, Try.ntmps14
  go_wp2
  refine wp_loop_rounds 1 ?_
  rw [rounds_succ]
  go_wp2
  go_ret
  exact ⟨rfl, rfl⟩
set_option maxHeartbeats 400000 in
theorem heldStrings_zero (A : Option Addr) (c : Nat) (k : Int) (w : World) :
    Calls Try.prog 15 #[.slice A 0 c, .int .i64 k] w fun e w' => e = .returned (.int .i64 k) ∧ w = w' := by
  go_enter Try.func15, Try.ntmps15
  go_wp2
  refine wp_loop_rounds 1 ?_
  rw [rounds_succ]
  go_wp2
  go_ret
  exact ⟨rfl, rfl⟩


theorem eqStrings_own {va vb : Value} {ps : List (List UInt8)} {Ba Bb : Nat} {w : World} (hn : ps.length ≤ 2097152) (ha : w.ownsRow Ba 9 1 va ps.length (strs ps)) (hb : w.ownsRow Bb 9 1 vb ps.length (strs ps)) :
    Calls Try.prog 12 #[va, vb] w fun e w' => e = .returned (.bool true) ∧ ∃ m, w' = w.drewN m := by
  rcases own_cases ha with ⟨h0, A, c, rfl⟩ | ⟨ga, ca, rfl⟩
  · rcases own_cases hb with ⟨_, A2, c2, rfl⟩ | ⟨gb, cb, rfl⟩
    · exact eqStrings_zero A A2 c c2 w
    · rw [h0]
      exact eqStrings_zero A _ c cb w
  · rcases own_cases hb with ⟨h0, A2, c2, rfl⟩ | ⟨gb, cb, rfl⟩
    · rw [h0]
      exact eqStrings_zero _ A2 ca c2 w
    · exact eqStrings_row ga gb ca cb ps.length Ba Bb ps w hn rfl ha hb

/-- What marking leaves. -/
def MarkPost (v : Value) (B n k0 : Nat) (w : World) (e : Ending) (w' : World) : Prop :=
  e = .returned (.int .i64 ((k0 + n : Nat) : Int)) ∧ w'.ownsRow B 9 1 v n (strs (marks k0 n)) ∧ w.grownBy w' v.ownBlock
theorem markStrings_own {v : Value} {n B k0 : Nat} {xs : List Value} {w : World} (hn : n ≤ 2097152) (hk0 : 0 < k0) (hk1 : k0 ≤ 2097152) (h : w.ownsRow B 9 1 v n xs) :
    Calls Try.prog 14 #[v, .int .i64 k0] w (MarkPost v B n k0 w) := by
  rcases own_cases h with ⟨h0, A, c, rfl⟩ | ⟨g, c, rfl⟩
  · subst h0
    refine (markStrings_zero A c k0 w).mono ?_
    rintro e w' ⟨rfl, rfl⟩
    refine ⟨rfl, ?_, World.grownBy.refl w _⟩
    have e : xs = strs (marks k0 0) := List.eq_nil_of_length_eq_zero (by rw [h.1])
    rw [← e]
    exact h
  · refine (markStrings_row g c n B k0 xs w hn hk0 hk1 (by rw [h.1, Nat.mul_one]) h).mono ?_
    rintro e w' ⟨he, ho, hg⟩
    exact ⟨he, ho, hg⟩
theorem heldStrings_own {v : Value} {n B k0 : Nat} {w : World} (hn : n ≤ 2097152) (hk0 : 0 < k0) (hk1 : k0 ≤ 2097152) (h : w.ownsRow B 9 1 v n (strs (marks k0 n))) :
    Calls Try.prog 15 #[v, .int .i64 k0] w fun e w' => e = .returned (.int .i64 ((k0 + n : Nat) : Int)) ∧ Below w.heap.size w w' := by
  rcases own_cases h with ⟨h0, A, c, rfl⟩ | ⟨g, c, rfl⟩
  · subst h0
    refine (heldStrings_zero A c k0 w).mono ?_
    rintro e w' ⟨rfl, rfl⟩
    exact ⟨rfl, Below.refl _ _⟩
  · exact heldStrings_row g c n B k0 w hn hk0 hk1 h

theorem owns_other {w w' : World} {B : Nat} {e : TypeId} {size n : Nat} {v : Value} {xs : List Value} {row : Option Nat} (h : w.ownsRow B e size v n xs) (hg : w.grownBy w' row) (hne : ∀ k, v.ownBlock = some k → row ≠ some k) : w'.ownsRow B e size v n xs :=
  h.kept hg (by
    cases hv : v.ownBlock with
    | none => exact .inl rfl
    | some k => exact .inr (fun e => hne k hv e.symm))
end Go.Proofs.Ythmfncklepkddab
