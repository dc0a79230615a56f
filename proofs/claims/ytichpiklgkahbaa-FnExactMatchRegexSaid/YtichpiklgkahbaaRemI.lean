/-
  What impl.remembered answers: a closure with two tables of its own.
-/
import Derived.Test.YtichpiklgkahbaaRemB
import Derived.Outline
namespace Go.Proofs.Ytichpiklgkahbaa
open Go.RowKit

set_option maxRecDepth 100000 in
set_option maxHeartbeats 1600000 in
theorem remembered_any (N : Nat) (M : Mt) (km : Nat) (capm : Array Value) (w : World) (hN : N ≤ 30) :
    Calls Try.prog 78 #[.func (.func km) #[] capm, .int .i64 (N : Int)] w fun e w' => ∃ B : RemB, e = .returned (.func (.func 85) #[] (remCap B)) ∧
      B.Apart ∧ (∀ g, B.All g → w.heap.size ≤ g) ∧ Rem N M (.func (.func km) #[] capm) B w' ∧ Below w.heap.size w w' := by
  have hle := place_le hN
  obtain ⟨q, hq⟩ : ∃ q, q = (N + 1) * (N + 1) := ⟨_, rfl⟩
  obtain ⟨m, hm⟩ : ∃ m, m = N + 1 := ⟨_, rfl⟩
  have hadd : wrap64 ((N : Int) + 1) = (m : Int) := by unfold wrap64; omega
  have hmul : wrap64 ((m : Int) * (m : Int)) = (q : Int) := by
    rw [hm, hq, ← Int.natCast_mul]
    unfold wrap64
    omega
  rw [← hq] at hle
  have hmk : ∀ w1 : World, (Instr.makeSlice 115 (.int .i64 (q : Int)) (.int .i64 (q : Int))).run Try.prog w1 = .ok (.slice (some ⟨w1.heap.size, 0, none⟩) q q) (w1.alloc (.cells ((List.range q).map fun _ => Value.bool false).toArray 4)) := fun w1 => by
    obtain ⟨i, hi, hi1, hi2, hi3⟩ : ∃ i : TypeInfo, Try.prog.info? 4 = some i ∧ i.zero = some (.bool false) ∧ i.size = 1 ∧ i.bytes = 1 := ⟨(Try.prog.info? 4).get!, by kernel_rfl, by kernel_rfl, by kernel_rfl, by kernel_rfl⟩
    have h := run_make (P := Try.prog) w1 115 4 i (.bool false) Try.underlying115 hi hi1 .i64 .i64 (q : Int) (q : Int) (by omega) (Int.le_refl _) (by rw [hi3]; omega) (by omega)
    rw [h, hi2, Int.toNat_natCast, made_row (.bool false) q rfl]
  have HQ := Lib.hid hq
  have HM := Lib.hid hm
  clear hq hm hN
  go_enter Try.func78, Try.ntmps78
  go_wp2_with fail
  go_ret
  refine ⟨⟨w.heap.size + 1, w.heap.size + 3, w.heap.size, w.heap.size + 5, w.heap.size + 2, w.heap.size + 4⟩, rfl, ⟨by simp, ⟨by simp, by simp, by simp, by simp⟩, ⟨by simp, by simp, by simp, by simp⟩⟩, fun g hg => ?_, ?_, ?_⟩
  · rcases hg with h | h | h | h | h | h <;> (simp only at h; omega)
  · have hL : ∀ (v : World) (o : Obj), (v.alloc o).heap[v.heap.size]? = some o := fun v o => by
      show (v.heap.push o)[v.heap.size]? = _
      simp
    have hO : ∀ (v : World) (o : Obj) (k : Nat), k < v.heap.size → (v.alloc o).heap[k]? = v.heap[k]? := fun v o k h => Below.heap_alloc v o k h
    obtain ⟨w1, hw1⟩ : ∃ w1, w1 = w.alloc (.cells #[.func (.func km) #[] capm] 49) := ⟨_, rfl⟩
    obtain ⟨w2, hw2⟩ : ∃ w2, w2 = w1.alloc (.cells #[.int .i64 (m : Int)] 3) := ⟨_, rfl⟩
    obtain ⟨w3, hw3⟩ : ∃ w3, w3 = w2.alloc (.cells ((List.range q).map fun _ => Value.bool false).toArray 4) := ⟨_, rfl⟩
    obtain ⟨w4, hw4⟩ : ∃ w4, w4 = w3.alloc (.cells #[.slice (some ⟨w.heap.size + 1 + 1, 0, none⟩) q q] 115) := ⟨_, rfl⟩
    obtain ⟨w5, hw5⟩ : ∃ w5, w5 = w4.alloc (.cells ((List.range q).map fun _ => Value.bool false).toArray 4) := ⟨_, rfl⟩
    obtain ⟨w6, hw6⟩ : ∃ w6, w6 = w5.alloc (.cells #[.slice (some ⟨w.heap.size + 1 + 1 + 1 + 1, 0, none⟩) q q] 115) := ⟨_, rfl⟩
    have z1 : w1.heap.size = w.heap.size + 1 := by rw [hw1]; simp
    have z2 : w2.heap.size = w.heap.size + 2 := by rw [hw2]; simp [z1]
    have z3 : w3.heap.size = w.heap.size + 3 := by rw [hw3]; simp [z2]
    have z4 : w4.heap.size = w.heap.size + 4 := by rw [hw4]; simp [z3]
    have z5 : w5.heap.size = w.heap.size + 5 := by rw [hw5]; simp [z4]
    rw [← hw1, ← hw2, ← hw3, ← hw4, ← hw5, ← hw6]
    have o2 : ∀ k, k < w.heap.size + 1 → w2.heap[k]? = w1.heap[k]? := fun k h => by rw [hw2]; exact hO _ _ _ (by omega)
    have o3 : ∀ k, k < w.heap.size + 2 → w3.heap[k]? = w2.heap[k]? := fun k h => by rw [hw3]; exact hO _ _ _ (by omega)
    have o4 : ∀ k, k < w.heap.size + 3 → w4.heap[k]? = w3.heap[k]? := fun k h => by rw [hw4]; exact hO _ _ _ (by omega)
    have o5 : ∀ k, k < w.heap.size + 4 → w5.heap[k]? = w4.heap[k]? := fun k h => by rw [hw5]; exact hO _ _ _ (by omega)
    have o6 : ∀ k, k < w.heap.size + 5 → w6.heap[k]? = w5.heap[k]? := fun k h => by rw [hw6]; exact hO _ _ _ (by omega)
    have n1 : w1.heap[w.heap.size]? = some (.cells #[.func (.func km) #[] capm] 49) := by rw [hw1]; exact hL _ _
    have n2 : w2.heap[w.heap.size + 1]? = some (.cells #[.int .i64 (m : Int)] 3) := by rw [hw2, ← z1]; exact hL _ _
    have n3 : w3.heap[w.heap.size + 2]? = some (.cells ((List.range q).map fun _ => Value.bool false).toArray 4) := by rw [hw3, ← z2]; exact hL _ _
    have n4 : w4.heap[w.heap.size + 3]? = some (.cells #[.slice (some ⟨w.heap.size + 1 + 1, 0, none⟩) q q] 115) := by rw [hw4, ← z3]; exact hL _ _
    have n5 : w5.heap[w.heap.size + 4]? = some (.cells ((List.range q).map fun _ => Value.bool false).toArray 4) := by rw [hw5, ← z4]; exact hL _ _
    have n6 : w6.heap[w.heap.size + 5]? = some (.cells #[.slice (some ⟨w.heap.size + 1 + 1 + 1 + 1, 0, none⟩) q q] 115) := by rw [hw6, ← z5]; exact hL _ _
    have eq := HQ.out
    have em := HM.out
    refine ⟨?_, ?_, ?_, ?_, fun _ => false, fun _ => false, ?_, ?_, fun i j _ _ h => by simp at h⟩
    · show w6.heap[w.heap.size + 1]? = _
      rw [o6 _ (by omega), o5 _ (by omega), o4 _ (by omega), o3 _ (by omega), n2, em]
    · show w6.heap[w.heap.size + 3]? = _
      rw [o6 _ (by omega), o5 _ (by omega), n4, eq]
    · show w6.heap[w.heap.size]? = _
      rw [o6 _ (by omega), o5 _ (by omega), o4 _ (by omega), o3 _ (by omega), o2 _ (by omega), n1]
    · show w6.heap[w.heap.size + 5]? = _
      rw [n6, eq]
    · show w6.heap[w.heap.size + 2]? = _
      rw [o6 _ (by omega), o5 _ (by omega), o4 _ (by omega), n3, eq]
    · show w6.heap[w.heap.size + 4]? = _
      rw [o6 _ (by omega), n5, eq]
  · exact ((((((Below.refl _ _).alloc (Nat.le_refl _) _).alloc (by simp) _).alloc (by simp; omega) _).alloc (by simp; omega) _).alloc (by simp; omega) _).alloc (by simp; omega) _
end Go.Proofs.Ytichpiklgkahbaa
