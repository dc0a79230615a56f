/-
  A block of cells given by a function of their places; what a store leaves of it. Of no function of the program.
-/
import Derived.Test.YtichpiklgkahbaaForest
import Derived.Lib.Builder
import Derived.OneCell
namespace Go.Proofs.Ytichpiklgkahbaa
open Go.RowKit

/-- Block g is a row of n cells. -/
def Rw (w : World) (g : Nat) (T : TypeId) (n : Nat) (f : Nat → Value) : Prop := w.heap[g]? = some (.cells ((List.range n).map f).toArray T (0, 0))
theorem Rw.same {w w' : World} {g : Nat} {T : TypeId} {n : Nat} {f : Nat → Value} (h : Rw w g T n f) (hs : w'.heap[g]? = w.heap[g]?) : Rw w' g T n f := hs.trans h
theorem Rw.cell {w : World} {g : Nat} {T : TypeId} {n : Nat} {f : Nat → Value} (h : Rw w g T n f) {k : Nat} (hk : k < n) : w.cell? ⟨g, k, none⟩ = some (f k) := by
  rw [Lib.cell_of_heap h]
  simp [hk]
theorem Rw.free {w : World} {g : Nat} {T : TypeId} {n : Nat} {f : Nat → Value} (h : Rw w g T n f) (k : Nat) : w.frozen? ⟨g, k, none⟩ = false := Lib.frozen_of_heap h k
theorem Rw.lt {w : World} {g : Nat} {T : TypeId} {n : Nat} {f : Nat → Value} (h : Rw w g T n f) : g < w.heap.size := lt_of_block h
theorem Rw.congr {w : World} {g : Nat} {T : TypeId} {n : Nat} {f f' : Nat → Value} (h : Rw w g T n f) (hf : ∀ k, k < n → f k = f' k) : Rw w g T n f' := by
  have e : (List.range n).map f = (List.range n).map f' := List.map_congr_left fun k hk => hf k (List.mem_range.1 hk)
  unfold Rw
  rw [← e]
  exact h
theorem Rw.set {w : World} {g : Nat} {T : TypeId} {n : Nat} {f : Nat → Value} (h : Rw w g T n f) (k : Nat) (v : Value) : Rw (w.setCell ⟨g, k, none⟩ v) g T n (fun j => if j = k then v else f j) := by
  have hlt := h.lt
  have h' : w.heap[g] = .cells ((List.range n).map f).toArray T (0, 0) := by
    have := h
    unfold Rw at this
    rwa [Array.getElem?_eq_getElem hlt, Option.some.injEq] at this
  show (w.heap.modify g _)[g]? = _
  rw [Array.getElem?_eq_getElem (by simpa using hlt), Array.getElem_modify_self, h']
  simp only [Option.some.injEq]
  show Obj.cells _ T (0, 0) = _
  congr 1
  rw [if_neg (by simp)]
  apply Array.ext_getElem?
  intro j
  rw [Array.getElem?_setIfInBounds]
  by_cases hj : j = k
  · subst hj
    by_cases hn : j < n
    · simp [hn]
    · simp [hn]
  · rw [if_neg (Ne.symm hj)]
    by_cases hn : j < n
    · simp [hn, hj]
    · simp [hn]
theorem Rw.new (w : World) (T : TypeId) (n : Nat) (f : Nat → Value) : Rw (w.alloc (.cells ((List.range n).map f).toArray T)) w.heap.size T n f := by
  show (w.heap.push _)[w.heap.size]? = _
  simp
/-- What make lays. -/
theorem made_row (v : Value) (n : Nat) (h : v.cells = #[v]) : madeCells v.cells (n * 1) = ((List.range n).map fun _ => v).toArray := by
  rw [h]
  unfold madeCells
  apply Array.ext_getElem?
  intro j
  simp
  by_cases hj : j < n
  · simp [hj, Nat.mod_one]
  · simp [hj]
end Go.Proofs.Ytichpiklgkahbaa
