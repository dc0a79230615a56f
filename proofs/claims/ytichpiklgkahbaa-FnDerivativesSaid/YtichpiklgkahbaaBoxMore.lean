/-
  Result boxes, and blocks that turn, over calls that turn nothing old. Of no function of the program.
-/
import Derived.Test.YtichpiklgkahbaaBoxRx
namespace Go.Proofs.Ytichpiklgkahbaa
open Go.RowKit

/-- A box that was made before a call that turns nothing old. -/
theorem box_kept {w w1 : World} {a b c : Value} {t : TypeId} (hb : Below (w.heap.size + 1) (w.alloc (.cells #[a, b, c] t)) w1) :
    w1.heap[w.heap.size]? = some (.cells #[a, b, c] t (0, 0)) ∧ w1.cell? ⟨w.heap.size, 0, none⟩ = some a ∧ w1.cell? ⟨w.heap.size, 1, none⟩ = some b ∧ w1.cell? ⟨w.heap.size, 2, none⟩ = some c ∧
      w1.frozen? ⟨w.heap.size, 0, none⟩ = false ∧ w1.frozen? ⟨w.heap.size, 1, none⟩ = false ∧ w1.frozen? ⟨w.heap.size, 2, none⟩ = false := by
  have h := (hb.block w.heap.size (Nat.lt_succ_self _)).trans (heap_alloc_new w _)
  exact ⟨h, (cell_of_row w1 _ 0 _ _ (0, 0) h).trans rfl, (cell_of_row w1 _ 1 _ _ (0, 0) h).trans rfl, (cell_of_row w1 _ 2 _ _ (0, 0) h).trans rfl, frozen_of_row w1 _ 0 _ _ h, frozen_of_row w1 _ 1 _ _ h, frozen_of_row w1 _ 2 _ _ h⟩
/-- A box that was made before only block g was written. -/
theorem box_grown {w w1 : World} {a b c : Value} {t : TypeId} {g : Nat} (hg : (w.alloc (.cells #[a, b, c] t)).grownBy w1 (some g)) (hlt : g < w.heap.size) :
    w1.heap[w.heap.size]? = some (.cells #[a, b, c] t (0, 0)) ∧ w1.cell? ⟨w.heap.size, 0, none⟩ = some a ∧ w1.cell? ⟨w.heap.size, 1, none⟩ = some b ∧ w1.cell? ⟨w.heap.size, 2, none⟩ = some c ∧
      w1.frozen? ⟨w.heap.size, 0, none⟩ = false ∧ w1.frozen? ⟨w.heap.size, 1, none⟩ = false ∧ w1.frozen? ⟨w.heap.size, 2, none⟩ = false := by
  have h := (hg.block w.heap.size (by simp) (by simp; omega)).trans (heap_alloc_new w _)
  exact ⟨h, (cell_of_row w1 _ 0 _ _ (0, 0) h).trans rfl, (cell_of_row w1 _ 1 _ _ (0, 0) h).trans rfl, (cell_of_row w1 _ 2 _ _ (0, 0) h).trans rfl, frozen_of_row w1 _ 0 _ _ h, frozen_of_row w1 _ 1 _ _ h, frozen_of_row w1 _ 2 _ _ h⟩
theorem grown_tr {a b c : World} {row : Option Nat} (h : a.grownBy b row) (k : b.grownBy c row) : a.grownBy c row :=
  ⟨k.os.trans h.os, k.tape.trans h.tape, k.output.trans h.output, Nat.le_trans h.size k.size, fun i hi hne => (k.block i (Nat.lt_of_lt_of_le hi h.size) hne).trans (h.block i hi hne)⟩
/-- A block that was not there when w was may be written, too. -/
theorem grown_new {w w1 w2 : World} {row : Option Nat} (h : w.grownBy w1 row) (hs : w2.heap.size = w1.heap.size) (ho : w2.os = w1.os ∧ w2.tape = w1.tape ∧ w2.output = w1.output) {n : Nat} (hn : w.heap.size ≤ n) (hb : ∀ k, k ≠ n → w2.heap[k]? = w1.heap[k]?) : w.grownBy w2 row :=
  ⟨ho.1.trans h.os, ho.2.1.trans h.tape, ho.2.2.trans h.output, by rw [hs]; exact h.size, fun k hk hne => (hb k (by omega)).trans (h.block k hk hne)⟩
theorem put3_os {w1 : World} {g : Nat} {k l u : Value} : let W4 := ((w1.setCell ⟨g, 0, none⟩ k).setCell ⟨g, 1, none⟩ l).setCell ⟨g, 2, none⟩ u
    W4.os = w1.os ∧ W4.tape = w1.tape ∧ W4.output = w1.output := ⟨rfl, rfl, rfl⟩
theorem abc0 : (⟨#[97, 98, 99]⟩ : ByteArray).extract 0 1 = ⟨#[97]⟩ := by rfl
theorem abc1 : (⟨#[97, 98, 99]⟩ : ByteArray).extract 1 2 = ⟨#[98]⟩ := by rfl
theorem abc2 : (⟨#[97, 98, 99]⟩ : ByteArray).extract 2 3 = ⟨#[99]⟩ := by rfl
end Go.Proofs.Ytichpiklgkahbaa
