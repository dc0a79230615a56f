/-
  What spec.EqualDfa answers: whether two automata are the same, field by field.
  What slices.Equal answers over rows of ints and of bools, slices.EqualFunc over rows of rows of ints, and impl.EqualDfa.
-/
import Derived.Test.YthmfncklepkddabDoorVDfaS
import Derived.Deep.RegionHeld3
namespace Go.Proofs.YthmfncklepkddabDoor
open Go.RowKit

theorem list_eq_of {α : Type} (x : α) {l l' : List α} (hl : l.length = l'.length) (h : ∀ i, i < l.length → l.getD i x = l'.getD i x) : l = l' := by
  apply List.ext_getElem hl
  intro i h1 h2
  have := h i h1
  rwa [getD_at h1, getD_at h2] at this

set_option maxRecDepth 100000 in
set_option maxHeartbeats 1600000 in
theorem specInts_any (v v' : Value) (l l' : List Int) (S S' : Nat → Prop) (w : World) (h : RowV w S v (ints l)) (h' : RowV w S' v' (ints l')) :
    Calls Tryd.prog 28 #[v, v'] w fun e w' => e = .returned (.bool (decide (l = l'))) ∧ Below w.heap.size w w' := by
  obtain ⟨hl, A, c, rfl⟩ := h.ints_shape
  obtain ⟨hl', A', c', rfl⟩ := h'.ints_shape
  have HE := Lib.hid (fun j (hj : j < l.length) => h.intD hj)
  have HE' := Lib.hid (fun j (hj : j < l'.length) => h'.intD hj)
  clear h h'
  by_cases hlen : l.length = l'.length
  · have HLen := Lib.hid hlen
    have HYes : Hid ((∀ i, i < l.length → l.getD i 0 = l'.getD i 0) → decide (l = l') = true) := Lib.hid (fun h => decide_eq_true (list_eq_of 0 HLen.out h))
    have HNo : Hid (∀ i, l.getD i 0 ≠ l'.getD i 0 → decide (l = l') = false) := Lib.hid (fun i h => decide_eq_false (fun e => h (by rw [e])))
    obtain ⟨b, hb⟩ : ∃ b, b = decide (l = l') := ⟨_, rfl⟩
    rw [← hb] at HYes HNo ⊢
    obtain ⟨n, hn⟩ : ∃ n, n = l.length := ⟨_, rfl⟩
    rw [← hlen] at HE' hl' ⊢
    rw [← hn] at HE HE' hl HYes ⊢
    have HR : Hid (∀ j, j < n → ∃ ad ad', A = some ad ∧ A' = some ad' ∧ w.cell? (ad.add j) = some (.int .i64 (l.getD j 0)) ∧ w.cell? (ad'.add j) = some (.int .i64 (l'.getD j 0))) := Lib.hid (fun j hj => by
      obtain ⟨ad, e, -, hc⟩ := HE.out j hj
      obtain ⟨ad', e', -, hc'⟩ := HE'.out j hj
      exact ⟨ad, ad', e, e', hc, hc'⟩)
    clear hb hn hlen HE HE'
    have hne : ((n : Int) != (n : Int)) = false := by simp
    go_enter Tryd.func28, Tryd.ntmps28
    go_wp2_with fail
    clear hne
    go_loopw [5] (fun i wr => ∃ j m : Nat, i = .int .i64 j ∧ j ≤ n ∧ wr = w.drewN m ∧ Hid (∀ i, i < j → l.getD i 0 = l'.getD i 0)) (fun i _ => n - (intOf i).toNat)
    case atStart => exact ⟨0, 0, rfl, Nat.zero_le _, rfl, Lib.hid (fun i hi => absurd hi (Nat.not_lt_zero _))⟩
    case round =>
      obtain ⟨j, m, rfl, hj, rfl, hall⟩ := hrel
      by_cases hlt : j < n
      · obtain ⟨ad, ad', rfl, rfl, hc1, hc2⟩ := HR.out j hlt
        obtain ⟨x, hx⟩ : ∃ x, x = l.getD j 0 := ⟨_, rfl⟩
        obtain ⟨x', hx'⟩ : ∃ x', x' = l'.getD j 0 := ⟨_, rfl⟩
        rw [← hx] at hc1
        rw [← hx'] at hc2
        by_cases hxx : x = x'
        · subst hxx
          have HX : Hid (l.getD j 0 = l'.getD j 0) := Lib.hid (by rw [← hx, ← hx'])
          have hne : (x != x) = false := by simp
          clear hx hx'
          go_wp2_with fail
          go_quiet (fail)
          all_goals go_wp2
          all_goals
            go_roundw
            case rel => exact ⟨j + 1, _, by go_num, by omega, rfl, Lib.hid (fun i hi => by
              by_cases e : i = j
              · rw [e]; exact HX.out
              · exact hall.out i (by omega))⟩
            case measure => simp [intOf]; omega
        · have hne : (x != x') = true := by simpa using hxx
          have HF : Hid (b = false) := Lib.hid (HNo.out j (by rw [← hx, ← hx']; exact hxx))
          clear hx hx' hxx
          go_wp2_with fail
          go_quiet (fail)
          all_goals go_wp2
          all_goals
            go_ret
            exact ⟨congrArg (fun b : Bool => Ending.returned (.bool b)) HF.out.symm, below_draws (below_draws (Below.refl _ _) _) _⟩
      · obtain rfl : j = n := by omega
        have HF : Hid (b = true) := Lib.hid (HYes.out hall.out)
        go_wp2_with fail
        go_ret
        exact ⟨congrArg (fun b : Bool => Ending.returned (.bool b)) HF.out.symm, below_draws (Below.refl _ _) m⟩
  · have HF : Hid (decide (l = l') = false) := Lib.hid (decide_eq_false (fun e => hlen (by rw [e])))
    have hne : ((l.length : Int) != (l'.length : Int)) = true := by simp; omega
    clear hlen
    go_enter Tryd.func28, Tryd.ntmps28
    go_wp2_with fail
    go_ret
    exact ⟨congrArg (fun b : Bool => Ending.returned (.bool b)) HF.out.symm, Below.refl _ _⟩
theorem bool_ne {x y : Bool} (h : ¬ x = y) : (x = true ∧ y = false) ∨ (x = false ∧ y = true) := by cases x <;> cases y <;> simp at h ⊢
end Go.Proofs.YthmfncklepkddabDoor
