/-
  Boxes of expressions; what stays where only some blocks turn. Of no function of the program.
-/
import Derived.Test.YtichpiklgkahbaaMarkRx
import Derived.Test.YtichpiklgkahbaaValidS
namespace Go.Proofs.Ytichpiklgkahbaa
open Go.RowKit

/-- In blocks of the call's own. -/
def OwnB (w w' : World) (g : Nat) : Prop := w.heap.size ≤ g ∧ g < w'.heap.size
theorem Chg.cell {S : Nat → Prop} {w w' : World} (h : Chg S w w') {p : Addr} (hp : p.block < w.heap.size) (hn : ¬ S p.block) : w'.cell? p = w.cell? p := World.cell?_of_block (h.block p.block hp hn)
theorem Chg.old {S : Nat → Prop} {w w' : World} (h : Chg S w w') {B : Nat} (hS : ∀ g, S g → B ≤ g) (hB : B ≤ w.heap.size) : Below B w w' :=
  ⟨h.os, h.tape, h.output, h.size, fun g hg => h.block g (Nat.lt_of_lt_of_le hg hB) (fun hs => Nat.lt_irrefl _ (Nat.lt_of_lt_of_le hg (hS g hs)))⟩
/-- Block g is a box of an expression. -/
def Bx (w : World) (g : Nat) (k : Int) (b : ByteArray) (v : Value) : Prop := w.cell? ⟨g, 0, none⟩ = some (.int .i64 k) ∧ w.cell? ⟨g, 1, none⟩ = some (.string b) ∧ w.cell? ⟨g, 2, none⟩ = some v
theorem Bx.below {w w' : World} {g B : Nat} {k : Int} {b : ByteArray} {v : Value} (h : Bx w g k b v) (hb : Below B w w') (hg : g < B) : Bx w' g k b v :=
  ⟨(hb.cell (p := ⟨g, 0, none⟩) hg).trans h.1, (hb.cell (p := ⟨g, 1, none⟩) hg).trans h.2.1, (hb.cell (p := ⟨g, 2, none⟩) hg).trans h.2.2⟩
theorem Bx.chg {w w' : World} {S : Nat → Prop} {g : Nat} {k : Int} {b : ByteArray} {v : Value} (h : Bx w g k b v) (hc : Chg S w w') (hg : g < w.heap.size) (hn : ¬ S g) : Bx w' g k b v :=
  ⟨(hc.cell (p := ⟨g, 0, none⟩) hg hn).trans h.1, (hc.cell (p := ⟨g, 1, none⟩) hg hn).trans h.2.1, (hc.cell (p := ⟨g, 2, none⟩) hg hn).trans h.2.2⟩
/-- A box for an answer is new; what was there stays. -/
theorem box_new (w0 w1 : World) (B : Nat) (k : Int) (b : ByteArray) (v : Value) (t : TypeId) (h : Below B w0 w1) (hB : B ≤ w0.heap.size) :
    Below B w0 (w1.alloc (.cells #[.int .i64 k, .string b, v] t)) ∧ Bx (w1.alloc (.cells #[.int .i64 k, .string b, v] t)) w1.heap.size k b v ∧ Below w1.heap.size w1 (w1.alloc (.cells #[.int .i64 k, .string b, v] t)) ∧ (w1.alloc (.cells #[.int .i64 k, .string b, v] t)).heap.size = w1.heap.size + 1 :=
  ⟨h.alloc (Nat.le_trans hB h.size) _, box_cells (Below.refl _ _), (Below.refl _ _).alloc (Nat.le_refl _) _, by simp⟩
theorem own_slt {w w' wr : World} {n : Nat} {v : Value} {f : Fr} (h : SlT w' n (OwnB w w') v f) (hb : Below w'.heap.size w' wr) (B : Nat) (hB : w'.heap.size ≤ B) : Sl wr B n v f :=
  h.sl.mono (fun g hg => hb.block g hg.2) (fun _ hg => Nat.lt_of_lt_of_le hg.2 hB)
theorem tree_sl {w : World} {S : Nat → Prop} {n B : Nat} {v : Value} {f : Fr} (h : SlT w n S v f) (hS : ∀ g, S g → g < B) : Sl w B n v f := h.sl.mono (fun _ _ => rfl) hS

theorem put3 {w1 : World} {g : Nat} {x0 x1 x2 k l u : Value} (b0 : w1.cell? ⟨g, 0, none⟩ = some x0) (b1 : w1.cell? ⟨g, 1, none⟩ = some x1) (b2 : w1.cell? ⟨g, 2, none⟩ = some x2) :
    let W4 := ((w1.setCell ⟨g, 0, none⟩ k).setCell ⟨g, 1, none⟩ l).setCell ⟨g, 2, none⟩ u
    (W4.cell? ⟨g, 0, none⟩ = some k ∧ W4.cell? ⟨g, 1, none⟩ = some l ∧ W4.cell? ⟨g, 2, none⟩ = some u) ∧ W4.heap.size = w1.heap.size ∧ (∀ h, h ≠ g → W4.heap[h]? = w1.heap[h]?) ∧ ∀ B w, Below B w w1 → B ≤ g → Below B w W4 := by
  intro W4
  have ne : ∀ {o o' : Nat}, o ≠ o' → (⟨g, o, none⟩ : Addr) ≠ ⟨g, o', none⟩ := fun h e => by
    injection e with _ e2
    exact h e2
  have d1 : (w1.setCell ⟨g, 0, none⟩ k).cell? ⟨g, 1, none⟩ = some x1 := (World.cell?_setCell_other _ _ _ _ (ne (by omega))).trans b1
  have d2 : ((w1.setCell ⟨g, 0, none⟩ k).setCell ⟨g, 1, none⟩ l).cell? ⟨g, 2, none⟩ = some x2 := (World.cell?_setCell_other _ _ _ _ (ne (by omega))).trans ((World.cell?_setCell_other _ _ _ _ (ne (by omega))).trans b2)
  refine ⟨⟨?_, ?_, World.cell?_setCell_same _ _ _ d2⟩, by simp [W4, World.setCell], fun h hh => ?_, fun B w hb hB => ?_⟩
  · exact (World.cell?_setCell_other _ _ _ _ (ne (by omega))).trans ((World.cell?_setCell_other _ _ _ _ (ne (by omega))).trans (World.cell?_setCell_same _ _ _ b0))
  · exact (World.cell?_setCell_other _ _ _ _ (ne (by omega))).trans (World.cell?_setCell_same _ _ _ d1)
  · exact (Below.heap_setCell _ _ _ h hh).trans ((Below.heap_setCell _ _ _ h hh).trans (Below.heap_setCell _ _ _ h hh))
  · exact ((hb.setCell (p := ⟨g, 0, none⟩) hB _).setCell (p := ⟨g, 1, none⟩) hB _).setCell (p := ⟨g, 2, none⟩) hB _
theorem slt_one {w : World} {n g c : Nat} {S S' : Nat → Prop} {k : Int} {l : ByteArray} {u : Value} {a : Fr} (hg : S g) (hp : Plain w g) (he : ElAt w g 0 k l u) (hl : l.size ≤ 9223372036854775807) (h : SlT w n S' u a) (hs : ∀ h, S' h → S h ∧ h ≠ g) :
    SlT w (n + 1) S (.slice (some ⟨g, 0, none⟩) 1 c) (.cons k l a .nil) := by
  refine ⟨by simp [Fr.items], .inr ⟨g, 0, c, fun j h => j = 0 ∧ S' h, rfl, hg, hp, fun j h hj => hs h hj.2, fun i j h hi hj => hi.1.trans hj.1.symm, fun j k' l' a' hj => ?_⟩⟩
  match j, hj with
  | 0, hj =>
    simp [Fr.items] at hj
    obtain ⟨rfl, rfl, rfl⟩ := hj
    exact ⟨hl, u, by simpa using he, h.mono (fun _ _ => rfl) (fun _ hh => ⟨rfl, hh⟩)⟩
  | j + 1, hj => simp [Fr.items] at hj
theorem slt_two {w : World} {n g c : Nat} {S S1 S2 : Nat → Prop} {k1 k2 : Int} {l1 l2 : ByteArray} {u1 u2 : Value} {a1 a2 : Fr} (hg : S g) (hp : Plain w g) (he1 : ElAt w g 0 k1 l1 u1) (he2 : ElAt w g 3 k2 l2 u2) (hl1 : l1.size ≤ 9223372036854775807) (hl2 : l2.size ≤ 9223372036854775807)
    (h1 : SlT w n S1 u1 a1) (h2 : SlT w n S2 u2 a2) (hs1 : ∀ h, S1 h → S h ∧ h ≠ g) (hs2 : ∀ h, S2 h → S h ∧ h ≠ g) (hd : ∀ h, S1 h → ¬ S2 h) :
    SlT w (n + 1) S (.slice (some ⟨g, 0, none⟩) 2 c) (.cons k1 l1 a1 (.cons k2 l2 a2 .nil)) := by
  refine ⟨by simp [Fr.items], .inr ⟨g, 0, c, fun j h => (j = 0 ∧ S1 h) ∨ (j = 1 ∧ S2 h), rfl, hg, hp, fun j h hj => hj.elim (fun q => hs1 h q.2) (fun q => hs2 h q.2), fun i j h hi hj => ?_, fun j k' l' a' hj => ?_⟩⟩
  · rcases hi with hi | hi <;> rcases hj with hj | hj
    · exact hi.1.trans hj.1.symm
    · exact absurd hj.2 (hd h hi.2)
    · exact absurd hi.2 (hd h hj.2)
    · exact hi.1.trans hj.1.symm
  · match j, hj with
    | 0, hj =>
      simp [Fr.items] at hj
      obtain ⟨rfl, rfl, rfl⟩ := hj
      exact ⟨hl1, u1, by simpa using he1, h1.mono (fun _ _ => rfl) (fun _ hh => .inl ⟨rfl, hh⟩)⟩
    | 1, hj =>
      simp [Fr.items] at hj
      obtain ⟨rfl, rfl, rfl⟩ := hj
      exact ⟨hl2, u2, by simpa using he2, h2.mono (fun _ _ => rfl) (fun _ hh => .inr ⟨rfl, hh⟩)⟩
    | j + 2, hj => simp [Fr.items] at hj

theorem two_new (w : World) (o1 o2 : Obj) : ((w.alloc o1).alloc o2).heap[w.heap.size]? = some o1 ∧ ((w.alloc o1).alloc o2).heap[w.heap.size + 1]? = some o2 := by
  refine ⟨(Below.heap_alloc _ o2 _ (by simp)).trans (heap_alloc_new w o1), ?_⟩
  have := heap_alloc_new (w.alloc o1) o2
  rwa [World.size_alloc] at this
end Go.Proofs.Ytichpiklgkahbaa
