/-
  Boxes of expressions; what stays where only some blocks turn. Of no function of the program.
-/
import Derived.Test.YtichpiklgkahbaaMarkRx
import Derived.Test.YtichpiklgkahbaaValidS
namespace Go.Proofs.Ytichpiklgkahbaa
open Go.RowKit

/-- In blocks of the call's own. -/
def OwnB (w w' : World) (g : Nat) : Prop := w.heap.size ≤ g ∧ g < w'.heap.size
theorem Chg.cell {S : Nat → Prop} {w w' : World} (h : Chg S w w') {p : Addr} (hp : p.block < w.heap.size) (hn : ¬ S p.block) : w'.cell? p = w.cell? p := World.cell?_of_block (h.block p.block hp hn)
theorem Chg.old {S : Nat → Prop} {w w' : World} (h : Chg S w w') {B : Nat} (hS : ∀ g, S g → B ≤ g) (hB : B ≤ w.heap.size) : Below B w w' :=
  ⟨h.os, h.tape, h.output, h.size, fun g hg => h.block g (Nat.lt_of_lt_of_le hg hB) (fun hs => Nat.lt_irrefl _ (Nat.lt_of_lt_of_le hg (hS g hs)))⟩
/-- Block g is a box of an expression. -/
def Bx (w : World) (g : Nat) (k : Int) (b : ByteArray) (v : Value) : Prop := w.cell? ⟨g, 0, none⟩ = some (.int .i64 k) ∧ w.cell? ⟨g, 1, none⟩ = some (.string b) ∧ w.cell? ⟨g, 2, none⟩ = some v
theorem Bx.below {w w' : World} {g B : Nat} {k : Int} {b : ByteArray} {v : Value} (h : Bx w g k b v) (hb : Below B w w') (hg : g < B) : Bx w' g k b v :=
  ⟨(hb.cell (p := ⟨g, 0, none⟩) hg).trans h.1, (hb.cell (p := ⟨g, 1, none⟩) hg).trans h.2.1, (hb.cell (p := ⟨g, 2, none⟩) hg).trans h.2.2⟩
theorem Bx.chg {w w' : World} {S : Nat → Prop} {g : Nat} {k : Int} {b : ByteArray} {v : Value} (h : Bx w g k b v) (hc : Chg S w w') (hg : g < w.heap.size) (hn : ¬ S g) : Bx w' g k b v :=
  ⟨(hc.cell (p := ⟨g, 0, none⟩) hg hn).trans h.1, (hc.cell (p := ⟨g, 1, none⟩) hg hn).trans h.2.1, (hc.cell (p := ⟨g, 2, none⟩) hg hn).trans h.2.2⟩
/-- A box for an answer is new; what was there stays. -/
theorem box_new (w0 w1 : World) (B : Nat) (k : Int) (b : ByteArray) (v : Value) (t : TypeId) (h : Below B w0 w1) (hB : B ≤ w0.heap.size) :
    Below B w0 (w1.alloc (.cells #[.int .i64 k, .string b, v] t)) ∧ Bx (w1.alloc (.cells #[.int .i64 k, .string b, v] t)) w1.heap.size k b v ∧ Below w1.heap.size w1 (w1.alloc (.cells #[.int .i64 k, .string b, v] t)) ∧ (w1.alloc (.cells #[.int .i64 k, .string b, v] t)).heap.size = w1.heap.size + 1 :=
  ⟨h.alloc (Nat.le_trans hB h.size) _, box_cells (Below.refl _ _), (Below.refl _ _).alloc (Nat.le_refl _) _, by simp⟩
theorem own_slt {w w' wr : World} {n : Nat} {v : Value} {f : Fr} (h : SlT w' n (OwnB w w') v f) (hb : Below w'.heap.size w' wr) (B : Nat) (hB : w'.heap.size ≤ B) : Sl wr B n v f :=
  h.sl.mono (fun g hg => hb.block g hg.2) (fun _ hg => Nat.lt_of_lt_of_le hg.2 hB)
theorem tree_sl {w : World} {S : Nat → Prop} {n B : Nat} {v : Value} {f : Fr} (h : SlT w n S v f) (hS : ∀ g, S g → g < B) : Sl w B n v f := h.sl.mono (fun _ _ => rfl) hS

end Go.Proofs.Ytichpiklgkahbaa
