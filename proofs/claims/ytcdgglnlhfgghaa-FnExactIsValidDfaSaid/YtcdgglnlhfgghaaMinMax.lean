/-
  What slices.Min and slices.Max answer over a row of three ints: the least and the greatest of them; the world is as it was.
-/
import Derived.Test.YtcdgglnlhfgghaaRowInts
import Derived.IntWalk
import Derived.WalkLawsBesides
namespace Go.Proofs.Ytcdgglnlhfgghaa
open Go.RowKit

/-- The least. -/
def LeastOf (r : List Int) (w : World) (e : Ending) (w' : World) : Prop := ∃ y : Int, e = .returned (.int .i64 y) ∧ (∀ j, j < 3 → y ≤ r.getD j 0) ∧ (∃ j, j < 3 ∧ y = r.getD j 0) ∧ w = w'

set_option maxRecDepth 100000 in
set_option maxHeartbeats 800000 in
theorem libMin_any (ad : Addr) (c : Nat) (r : List Int) (w : World) (h : ∀ j, j < 3 → w.cell? (ad.add j) = some (.int .i64 (r.getD j 0))) :
    Calls Try.prog 48 #[.slice (some ad) 3 c] w (LeastOf r w) := by
  have HE := Lib.hid h
  have h0 : w.cell? ad = some (.int .i64 (r.getD 0 0)) := h 0 (by omega)
  clear h
  obtain ⟨x0, hx0⟩ : ∃ x, x = r.getD 0 0 := ⟨_, rfl⟩
  rw [← hx0] at h0
  have HX0 := Lib.hid hx0
  clear hx0
  go_enter Try.func48, Try.ntmps48
  go_wp2_with fail
  go_loop [3, 4] (fun m i => ∃ (k : Nat) (y : Int), i = .int .i64 k ∧ m = .int .i64 y ∧ 1 ≤ k ∧ k ≤ 3 ∧ Hid ((∀ j, j < k → y ≤ r.getD j 0) ∧ ∃ j, j < k ∧ y = r.getD j 0)) (fun _ i => 3 - (intOf i).toNat)
  case atStart => exact ⟨1, x0, rfl, rfl, by omega, by omega, Lib.hid ⟨fun j hj => by
    obtain rfl : j = 0 := by omega
    rw [HX0.out]; exact Int.le_refl _, 0, by omega, HX0.out⟩⟩
  case round =>
    obtain ⟨k, y, rfl, rfl, hk1, hk3, HR⟩ := hrel
    clear h0
    by_cases hlt : k < 3
    · have hc := HE.out k hlt
      obtain ⟨x, hx⟩ : ∃ x, x = r.getD k 0 := ⟨_, rfl⟩
      rw [← hx] at hc
      have HX := Lib.hid hx
      clear hx
      by_cases hyx : x < y
      · have hyx2 : ¬ y ≤ x := by omega
        go_wp2_with fail
        go_round
        case rel => exact ⟨k + 1, x, by go_num, rfl, by omega, by omega, Lib.hid ⟨fun j hj => by
          by_cases e : j = k
          · rw [e, HX.out]; exact Int.le_refl _
          · have := HR.out.1 j (by omega); omega, k, by omega, HX.out⟩⟩
        case measure => simp [intOf]; omega
      · have hyx2 : y ≤ x := by omega
        go_wp2_with fail
        go_round
        case rel => exact ⟨k + 1, y, by go_num, rfl, by omega, by omega, Lib.hid ⟨fun j hj => by
          by_cases e : j = k
          · rw [e, ← HX.out]; exact hyx2
          · exact HR.out.1 j (by omega), by
            obtain ⟨j, hj, e⟩ := HR.out.2
            exact ⟨j, by omega, e⟩⟩⟩
        case measure => simp [intOf]; omega
    · obtain rfl : k = 3 := by omega
      go_wp2_with fail
      go_ret
      exact ⟨y, rfl, HR.out.1, HR.out.2, rfl⟩
/-- The greatest. -/
def MostOf (r : List Int) (w : World) (e : Ending) (w' : World) : Prop := ∃ y : Int, e = .returned (.int .i64 y) ∧ (∀ j, j < 3 → r.getD j 0 ≤ y) ∧ (∃ j, j < 3 ∧ y = r.getD j 0) ∧ w = w'

set_option maxRecDepth 100000 in
set_option maxHeartbeats 800000 in
theorem libMax_any (ad : Addr) (c : Nat) (r : List Int) (w : World) (h : ∀ j, j < 3 → w.cell? (ad.add j) = some (.int .i64 (r.getD j 0))) :
    Calls Try.prog 49 #[.slice (some ad) 3 c] w (MostOf r w) := by
  have HE := Lib.hid h
  have h0 : w.cell? ad = some (.int .i64 (r.getD 0 0)) := h 0 (by omega)
  clear h
  obtain ⟨x0, hx0⟩ : ∃ x, x = r.getD 0 0 := ⟨_, rfl⟩
  rw [← hx0] at h0
  have HX0 := Lib.hid hx0
  clear hx0
  go_enter Try.func49, Try.ntmps49
  go_wp2_with fail
  go_loop [3, 4] (fun m i => ∃ (k : Nat) (y : Int), i = .int .i64 k ∧ m = .int .i64 y ∧ 1 ≤ k ∧ k ≤ 3 ∧ Hid ((∀ j, j < k → r.getD j 0 ≤ y) ∧ ∃ j, j < k ∧ y = r.getD j 0)) (fun _ i => 3 - (intOf i).toNat)
  case atStart => exact ⟨1, x0, rfl, rfl, by omega, by omega, Lib.hid ⟨fun j hj => by
    obtain rfl : j = 0 := by omega
    rw [HX0.out]; exact Int.le_refl _, 0, by omega, HX0.out⟩⟩
  case round =>
    obtain ⟨k, y, rfl, rfl, hk1, hk3, HR⟩ := hrel
    clear h0
    by_cases hlt : k < 3
    · have hc := HE.out k hlt
      obtain ⟨x, hx⟩ : ∃ x, x = r.getD k 0 := ⟨_, rfl⟩
      rw [← hx] at hc
      have HX := Lib.hid hx
      clear hx
      by_cases hyx : y < x
      · have hyx2 : ¬ x ≤ y := by omega
        go_wp2_with fail
        go_round
        case rel => exact ⟨k + 1, x, by go_num, rfl, by omega, by omega, Lib.hid ⟨fun j hj => by
          by_cases e : j = k
          · rw [e, HX.out]; exact Int.le_refl _
          · have := HR.out.1 j (by omega); omega, k, by omega, HX.out⟩⟩
        case measure => simp [intOf]; omega
      · have hyx2 : x ≤ y := by omega
        go_wp2_with fail
        go_round
        case rel => exact ⟨k + 1, y, by go_num, rfl, by omega, by omega, Lib.hid ⟨fun j hj => by
          by_cases e : j = k
          · rw [e, ← HX.out]; exact hyx2
          · exact HR.out.1 j (by omega), by
            obtain ⟨j, hj, e⟩ := HR.out.2
            exact ⟨j, by omega, e⟩⟩⟩
        case measure => simp [intOf]; omega
    · obtain rfl : k = 3 := by omega
      go_wp2_with fail
      go_ret
      exact ⟨y, rfl, HR.out.1, HR.out.2, rfl⟩
end Go.Proofs.Ytcdgglnlhfgghaa
