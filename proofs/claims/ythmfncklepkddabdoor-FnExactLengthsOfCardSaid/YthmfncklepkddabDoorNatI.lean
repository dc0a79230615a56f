/-
  Numbers of the program as rows; blocks of three cells. Of no function of the program.
-/
import Derived.Test.YthmfncklepkddabDoorDfaX
namespace Go.Proofs.YthmfncklepkddabDoor
open Go.RowKit

/-- Numbers of the program. -/
def natI (l : List Nat) : List Int := l.map fun x : Nat => (x : Int)
theorem natI_length (l : List Nat) : (natI l).length = l.length := by simp [natI]
theorem natI_at {l : List Nat} {j : Nat} (h : j < l.length) : (natI l).getD j 0 = ((l.getD j default : Nat) : Int) := by simp [natI, List.getD_eq_getElem?_getD, h]

/-! A block of three cells. -/
def Bx3 (w : World) (g : Nat) (x y z : Value) (T : TypeId) : Prop := w.heap[g]? = some (.cells #[x, y, z] T (0, 0))
theorem Bx3.facts {w : World} {g : Nat} {x y z : Value} {T : TypeId} (h : Bx3 w g x y z T) :
    (w.cell? ⟨g, 0, none⟩ = some x ∧ w.cell? ⟨g, 1, none⟩ = some y ∧ w.cell? ⟨g, 2, none⟩ = some z) ∧ w.frozen? ⟨g, 0, none⟩ = false ∧ w.frozen? ⟨g, 1, none⟩ = false ∧ w.frozen? ⟨g, 2, none⟩ = false :=
  ⟨⟨(cell_of_row w _ 0 _ _ (0, 0) h).trans rfl, (cell_of_row w _ 1 _ _ (0, 0) h).trans rfl, (cell_of_row w _ 2 _ _ (0, 0) h).trans rfl⟩, frozen_of_row w _ 0 _ _ h, frozen_of_row w _ 1 _ _ h, frozen_of_row w _ 2 _ _ h⟩
theorem Bx3.set0 {w : World} {g : Nat} {x y z : Value} {T : TypeId} (h : Bx3 w g x y z T) (u : Value) : Bx3 (w.setCell ⟨g, 0, none⟩ u) g u y z T := heap_setCell_same w g 0 _ _ u h
theorem Bx3.set1 {w : World} {g : Nat} {x y z : Value} {T : TypeId} (h : Bx3 w g x y z T) (u : Value) : Bx3 (w.setCell ⟨g, 1, none⟩ u) g x u z T := heap_setCell_same w g 1 _ _ u h
theorem Bx3.set2 {w : World} {g : Nat} {x y z : Value} {T : TypeId} (h : Bx3 w g x y z T) (u : Value) : Bx3 (w.setCell ⟨g, 2, none⟩ u) g x y u T := heap_setCell_same w g 2 _ _ u h
theorem Bx3.lt {w : World} {g : Nat} {x y z : Value} {T : TypeId} (h : Bx3 w g x y z T) : g < w.heap.size := (Array.getElem?_eq_some_iff.1 h).1
theorem Bx3.same {w w' : World} {g : Nat} {x y z : Value} {T : TypeId} (h : Bx3 w g x y z T) (hs : w'.heap[g]? = w.heap[g]?) : Bx3 w' g x y z T := hs.trans h
theorem Bx3.new (w : World) (x y z : Value) (T : TypeId) : Bx3 (w.alloc (.cells #[x, y, z] T)) w.heap.size x y z T := heap_alloc_new w _
theorem below_set {B : Nat} {w w1 : World} (h : Below B w w1) {g o : Nat} (hg : B ≤ g) (u : Value) : Below B w (w1.setCell ⟨g, o, none⟩ u) := h.setCell (p := ⟨g, o, none⟩) hg u
theorem far_cell {w : World} {g o : Nat} {u v : Value} {p : Addr} (hc : w.cell? p = some v) (hne : p.block ≠ g) : (w.setCell ⟨g, o, none⟩ u).cell? p = some v :=
  (World.cell?_of_block (a := p) (Below.heap_setCell w ⟨g, o, none⟩ u _ hne)).trans hc
/-- The three cells are written. -/
theorem put3x {w1 : World} {g : Nat} {x y z : Value} {T : TypeId} (h : Bx3 w1 g x y z T) (k l m : Value) :
    let W4 := ((w1.setCell ⟨g, 0, none⟩ k).setCell ⟨g, 1, none⟩ l).setCell ⟨g, 2, none⟩ m
    (W4.cell? ⟨g, 0, none⟩ = some k ∧ W4.cell? ⟨g, 1, none⟩ = some l ∧ W4.cell? ⟨g, 2, none⟩ = some m) ∧ W4.heap.size = w1.heap.size ∧ (∀ h, h ≠ g → W4.heap[h]? = w1.heap[h]?) ∧ ∀ B a, Below B a w1 → B ≤ g → Below B a W4 := by
  intro W4
  have h3 := ((h.set0 k).set1 l).set2 m
  exact ⟨h3.facts.1, by simp [W4, World.setCell], fun j hj => (Below.heap_setCell _ _ _ _ hj).trans ((Below.heap_setCell _ _ _ _ hj).trans (Below.heap_setCell _ _ _ _ hj)), fun B a hb hg => below_set (below_set (below_set hb hg _) hg _) hg _⟩
end Go.Proofs.YthmfncklepkddabDoor
