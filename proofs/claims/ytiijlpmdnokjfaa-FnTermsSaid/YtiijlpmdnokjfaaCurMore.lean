/-
  The cursor of the draws over what is made beside it.
-/
import Derived.Test.YtiijlpmdnokjfaaPickM
namespace Go.Proofs.Ytiijlpmdnokjfaa
open Go.RowKit

theorem Cur.lt {w : World} {g B : Nat} {A : Option Addr} {n c : Nat} (h : Cur w g B A n c) : g < w.heap.size := by
  obtain ⟨_, _, i, x, _, hh⟩ := h
  exact (Array.getElem?_eq_some_iff.1 hh).1
theorem Cur.alloc {w : World} {g B : Nat} {A : Option Addr} {n c : Nat} (h : Cur w g B A n c) (o : Obj) : Cur (w.alloc o) g B A n c := by
  have hlt := h.lt
  obtain ⟨hB, hb, i, x, hi, hh⟩ := h
  refine ⟨hB, hb.grown (g := g) ⟨rfl, rfl, rfl, by simp, fun k hk _ => Below.heap_alloc w o k hk⟩ hB, i, x, hi, (Below.heap_alloc w o g hlt).trans hh⟩
theorem grown_made {a w : World} {row : Option Nat} (h : a.grownBy w row) (o : Obj) : a.grownBy (w.alloc o) row :=
  ⟨h.os, h.tape, h.output, Nat.le_trans h.size (by simp), fun k hk hne => (Below.heap_alloc w o k (Nat.lt_of_lt_of_le hk h.size)).trans (h.block k hk hne)⟩
theorem grown_comp {a b c : World} {row : Option Nat} (h : a.grownBy b row) (k : b.grownBy c row) : a.grownBy c row :=
  ⟨k.os.trans h.os, k.tape.trans h.tape, k.output.trans h.output, Nat.le_trans h.size k.size, fun i hi hne => (k.block i (Nat.lt_of_lt_of_le hi h.size) hne).trans (h.block i hi hne)⟩
/-- Below the heap's old size nothing has turned: the cursor's block lies above. -/
theorem below_of_grown {w w1 w2 : World} {g : Nat} (hb : Below w.heap.size w w1) (hg : w1.grownBy w2 (some g)) (h : w.heap.size ≤ g) : Below w.heap.size w w2 :=
  hb.grown hg hb.size (fun k e => by cases e; exact h)
theorem BL.more {w : World} {B B' : Nat} {A : Option Addr} {n : Nat} (h : BL w B A n) (hB : B ≤ B') : BL w B' A n := fun k hk => by
  obtain ⟨ad, z, e, hlt, hc⟩ := h k hk
  exact ⟨ad, z, e, Nat.lt_of_lt_of_le hlt hB, hc⟩
theorem below_row {w w1 w2 : World} {g : Nat} (hb : Below w.heap.size w w1) (hg : w1.grownBy w2 (some g)) (h : w.heap.size ≤ g) : Below w.heap.size w w2 :=
  hb.grown hg hb.size (fun k e => by cases e; exact h)
end Go.Proofs.Ytiijlpmdnokjfaa
