/-
  Boxes of two cells. Of no function of the program.
-/
import Derived.Test.YtcdgglnlhfgghaaChg
namespace Go.Proofs.Ytcdgglnlhfgghaa
open Go.RowKit

/-- Block g is a box of two cells. -/
def Bx2 (w : World) (g : Nat) (x y : Value) : Prop := w.cell? ⟨g, 0, none⟩ = some x ∧ w.cell? ⟨g, 1, none⟩ = some y
theorem Bx2.below {w w' : World} {g B : Nat} {x y : Value} (h : Bx2 w g x y) (hb : Below B w w') (hg : g < B) : Bx2 w' g x y :=
  ⟨(hb.cell (p := ⟨g, 0, none⟩) hg).trans h.1, (hb.cell (p := ⟨g, 1, none⟩) hg).trans h.2⟩
theorem Bx2.kept {w w' : World} {g : Nat} {x y : Value} (h : Bx2 w g x y) (hb : Below w.heap.size w w') : Bx2 w' g x y := h.below hb (by
  by_cases hl : g < w.heap.size
  · exact hl
  · have e : w.heap[g]? = none := Array.getElem?_eq_none (by omega)
    have := h.1
    simp [World.cell?, e] at this)
theorem Bx2.lt {w : World} {g : Nat} {x y : Value} (h : Bx2 w g x y) : g < w.heap.size := by
  by_cases hl : g < w.heap.size
  · exact hl
  · have e : w.heap[g]? = none := Array.getElem?_eq_none (by omega)
    have := h.1
    simp [World.cell?, e] at this
theorem Bx2.chg {w w' : World} {S : Nat → Prop} {g : Nat} {x y : Value} (h : Bx2 w g x y) (hc : Chg S w w') (hn : ¬ S g) : Bx2 w' g x y :=
  ⟨(hc.cell (p := ⟨g, 0, none⟩) h.lt hn).trans h.1, (hc.cell (p := ⟨g, 1, none⟩) h.lt hn).trans h.2⟩
/-- A box that was laid before a call that turns nothing old. -/
theorem box2_kept {w w1 : World} {a b : Value} {t : TypeId} (hb : Below (w.heap.size + 1) (w.alloc (.cells #[a, b] t)) w1) :
    w1.heap[w.heap.size]? = some (.cells #[a, b] t (0, 0)) ∧ w1.cell? ⟨w.heap.size, 0, none⟩ = some a ∧ w1.cell? ⟨w.heap.size, 1, none⟩ = some b ∧ w1.frozen? ⟨w.heap.size, 0, none⟩ = false ∧ w1.frozen? ⟨w.heap.size, 1, none⟩ = false := by
  have h := (hb.block w.heap.size (Nat.lt_succ_self _)).trans (heap_alloc_new w _)
  exact ⟨h, (cell_of_row w1 _ 0 _ _ (0, 0) h).trans rfl, (cell_of_row w1 _ 1 _ _ (0, 0) h).trans rfl, frozen_of_row w1 _ 0 _ _ h, frozen_of_row w1 _ 1 _ _ h⟩
theorem box2_new (w0 w1 : World) (B : Nat) (x y : Value) (t : TypeId) (h : Below B w0 w1) (hB : B ≤ w0.heap.size) :
    Below B w0 (w1.alloc (.cells #[x, y] t)) ∧ Bx2 (w1.alloc (.cells #[x, y] t)) w1.heap.size x y ∧ Below w1.heap.size w1 (w1.alloc (.cells #[x, y] t)) ∧ (w1.alloc (.cells #[x, y] t)).heap.size = w1.heap.size + 1 := by
  have k := box2_kept (w := w1) (a := x) (b := y) (t := t) (Below.refl _ _)
  exact ⟨h.alloc (Nat.le_trans hB h.size) _, ⟨k.2.1, k.2.2.1⟩, (Below.refl _ _).alloc (Nat.le_refl _) _, by simp⟩
/-- The two cells are written. -/
theorem put2 {w1 : World} {g : Nat} {x0 x1 k l : Value} (b0 : w1.cell? ⟨g, 0, none⟩ = some x0) (b1 : w1.cell? ⟨g, 1, none⟩ = some x1) :
    let W4 := (w1.setCell ⟨g, 0, none⟩ k).setCell ⟨g, 1, none⟩ l
    (W4.cell? ⟨g, 0, none⟩ = some k ∧ W4.cell? ⟨g, 1, none⟩ = some l) ∧ W4.heap.size = w1.heap.size ∧ (∀ h, h ≠ g → W4.heap[h]? = w1.heap[h]?) ∧ ∀ B a, Below B a w1 → B ≤ g → Below B a W4 := by
  intro W4
  have ne : (⟨g, 0, none⟩ : Addr) ≠ ⟨g, 1, none⟩ := fun e => by injection e with _ e2; cases e2
  have d1 : (w1.setCell ⟨g, 0, none⟩ k).cell? ⟨g, 1, none⟩ = some x1 := (World.cell?_setCell_other _ _ _ _ ne).trans b1
  refine ⟨⟨(World.cell?_setCell_other _ _ _ _ ne.symm).trans (World.cell?_setCell_same _ _ _ b0), World.cell?_setCell_same _ _ _ d1⟩, by simp [W4, World.setCell], fun h hne => (Below.heap_setCell _ _ _ h hne).trans (Below.heap_setCell _ _ _ h hne), fun B a hb hg => (hb.setCell (p := ⟨g, 0, none⟩) hg k).setCell (p := ⟨g, 1, none⟩) hg l⟩
end Go.Proofs.Ytcdgglnlhfgghaa
