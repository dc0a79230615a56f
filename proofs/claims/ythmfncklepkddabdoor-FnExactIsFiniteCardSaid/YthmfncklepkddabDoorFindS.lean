/-
  What spec.l5Find answers.
-/
import Derived.Test.YthmfncklepkddabDoorCls
import Derived.Test.YthmfncklepkddabDoorGrow
namespace Go.Proofs.YthmfncklepkddabDoor
open Go.RowKit

set_option maxRecDepth 100000 in
set_option maxHeartbeats 800000 in
theorem specFind_any (v : Value) (l : List Int) (S : Nat → Prop) (x : Int) (w : World) (h : RowV w S v (ints l)) :
    Calls Tryd.prog 21 #[v, .int .i64 x] w fun e w' => e = .returned (.int .i64 (findV l x)) ∧ w = w' := by
  obtain ⟨hl, A, c, rfl⟩ := h.ints_shape
  have HE := Lib.hid (fun j (hj : j < l.length) => h.intD hj)
  clear h
  obtain ⟨z, hz⟩ : ∃ z, z = findV l x := ⟨_, rfl⟩
  have HNo : Hid ((∀ j, j < l.length → l.getD j 0 ≠ x) → z = -1) := Lib.hid (fun h => by rw [hz]; exact findV_no h)
  have HAt : Hid (∀ j : Nat, j < l.length → l.getD j 0 = x → (∀ i, i < j → l.getD i 0 ≠ x) → z = (j : Int)) := Lib.hid (fun j hj h hlt => by rw [hz]; exact findV_at hj h hlt)
  rw [← hz]
  clear hz
  go_enter Tryd.func21, Tryd.ntmps21
  go_wp2_with fail
  go_loopw [5] (fun i wr => ∃ j : Nat, i = .int .i64 j ∧ j ≤ l.length ∧ w = wr ∧ Hid (∀ i, i < j → l.getD i 0 ≠ x)) (fun i _ => l.length - (intOf i).toNat)
  case atStart => exact ⟨0, rfl, Nat.zero_le _, rfl, Lib.hid (fun i hi => absurd hi (Nat.not_lt_zero _))⟩
  case round =>
    obtain ⟨j, rfl, hj, rfl, hall⟩ := hrel
    by_cases hlt : j < l.length
    · obtain ⟨ad, rfl, -, hc⟩ := HE.out j hlt
      obtain ⟨y, hy⟩ : ∃ y, y = l.getD j 0 := ⟨_, rfl⟩
      rw [← hy] at hc
      by_cases hyx : y = x
      · have hd : (y == x) = true := by simpa using hyx
        have HF : Hid (z = (j : Int)) := Lib.hid (HAt.out j hlt (by rw [← hy]; exact hyx) hall.out)
        clear hy hyx
        go_wp2_with fail
        go_ret
        exact ⟨congrArg (fun z : Int => Ending.returned (.int .i64 z)) HF.out.symm, rfl⟩
      · have hd : (y == x) = false := by simpa using hyx
        have HX : Hid (l.getD j 0 ≠ x) := Lib.hid (by rw [← hy]; exact hyx)
        clear hy hyx
        go_wp2_with fail
        go_roundw
        case rel => exact ⟨j + 1, by go_num, by omega, by first | rfl | trivial, Lib.hid (fun i hi => by
          by_cases e : i = j
          · rw [e]; exact HX.out
          · exact hall.out i (by omega))⟩
        case measure => simp [intOf]; omega
    · obtain rfl : j = l.length := by omega
      have HF : Hid (z = -1) := Lib.hid (HNo.out hall.out)
      go_wp2_with fail
      go_ret
      exact ⟨congrArg (fun z : Int => Ending.returned (.int .i64 z)) HF.out.symm, rfl⟩
theorem Two.cell_row {B : Nat} {w : World} {v : Value} {l : List Int} (h : IR w B v l) (hl : l.length ≤ 9223372036854775807) {j : Nat} (hj : j < l.length) : ∃ ad c, v = .slice (some ad) l.length c ∧ w.cell? (ad.add j) = some (.int .i64 (l.getD j 0)) := by
  have h1 := (h.row hl).row
  obtain ⟨-, A, c, rfl⟩ := h1.ints_shape
  obtain ⟨ad, rfl, -, hc⟩ := h1.intD hj
  exact ⟨ad, c, rfl, hc⟩
theorem specFind_below {w V : World} {v : Value} {l : List Int} {B : Nat} (x : Int) (h : IR w B v l) (hl : l.length ≤ 9223372036854775807) (hV : Below w.heap.size w V) :
    Calls Tryd.prog 21 #[v, .int .i64 x] V fun e w' => e = .returned (.int .i64 (findV l x)) ∧ Below w.heap.size w w' :=
  (specFind_any v l _ x V ((h.row hl).row.kept hV)).mono (fun _ _ h => ⟨h.1, h.2 ▸ hV⟩)
theorem IR.alloc {w : World} {B : Nat} {v : Value} {l : List Int} (h : IR w B v l) (o : Obj) : IR (w.alloc o) B v l := h.below ((Below.refl _ _).alloc (Nat.le_refl _) _)
end Go.Proofs.YthmfncklepkddabDoor
