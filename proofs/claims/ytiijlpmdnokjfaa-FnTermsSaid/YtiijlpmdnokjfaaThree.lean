/-
  A block that holds three strings. Of no function of the program.
-/
import Derived.WalkKit
import Derived.Below
namespace Go.Proofs.Ytiijlpmdnokjfaa
open Go.RowKit

/-- A block that holds three strings. -/
def Three (V : World) (g : Nat) (a b c : ByteArray) (T : TypeId) : Prop := V.heap[g]? = some (.cells #[.string a, .string b, .string c] T (0, 0))
theorem Three.cells {V : World} {g : Nat} {a b c : ByteArray} {T : TypeId} (h : Three V g a b c T) : V.cell? ⟨g, 0, none⟩ = some (.string a) ∧ V.cell? ⟨g, 1, none⟩ = some (.string b) ∧ V.cell? ⟨g, 2, none⟩ = some (.string c) :=
  ⟨cell_of_row V g 0 _ _ (0, 0) h, cell_of_row V g 1 _ _ (0, 0) h, cell_of_row V g 2 _ _ (0, 0) h⟩
theorem Three.lt {V : World} {g : Nat} {a b c : ByteArray} {T : TypeId} (h : Three V g a b c T) : g < V.heap.size := (Array.getElem?_eq_some_iff.1 h).1
theorem Three.below {V V' : World} {g : Nat} {a b c : ByteArray} {T : TypeId} (h : Three V g a b c T) (hb : Below V.heap.size V V') : Three V' g a b c T := (hb.block g h.lt).trans h
theorem Three.new (V : World) (a b c : ByteArray) (T : TypeId) : Three (V.alloc (.cells #[.string a, .string b, .string c] T)) V.heap.size a b c T := heap_alloc_new V _
theorem Three.alloc {V : World} {g : Nat} {a b c : ByteArray} {T : TypeId} (h : Three V g a b c T) (o : Obj) : Three (V.alloc o) g a b c T := h.below ((Below.refl _ _).alloc (Nat.le_refl _) o)
end Go.Proofs.Ytiijlpmdnokjfaa
