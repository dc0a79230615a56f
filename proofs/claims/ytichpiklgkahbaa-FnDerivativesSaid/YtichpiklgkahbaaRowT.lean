/-
  A row of expressions that a call appends to, one by one, each with a tree of its own beneath it. Of no function of the program.
-/
import Derived.Test.YtichpiklgkahbaaBoxRx
import Derived.Test.YtichpiklgkahbaaStepOwn
import Derived.Below
import Derived.Maps.AppendAt
namespace Go.Proofs.Ytichpiklgkahbaa
open Go.RowKit

/-- An expression: its kind, letter and parts. -/
abbrev Nx := Int × ByteArray × Fr
def noX : Nx := (0, ⟨#[]⟩, .nil)
def rowOf : List Nx → Fr
  | [] => .nil
  | x :: r => .cons x.1 x.2.1 x.2.2 (rowOf r)
theorem rowOf_items : ∀ L : List Nx, (rowOf L).items = L
  | [] => rfl
  | x :: r => by simp [rowOf, Fr.items, rowOf_items r]
theorem rowOf_of : ∀ f : Fr, rowOf f.items = f
  | .nil => rfl
  | .cons k l a r => by simp [rowOf, Fr.items, rowOf_of r]
theorem slt_le {w : World} {S : Nat → Prop} {v : Value} {f : Fr} {n : Nat} (h : SlT w n S v f) : ∀ {m : Nat}, n ≤ m → SlT w m S v f := fun {m} hm => by
  induction m with
  | zero => rw [Nat.le_zero.1 hm] at h; exact h
  | succ m ih =>
    by_cases e : n = m + 1
    · rw [← e]; exact h
    · exact (ih (by omega)).more
theorem lt_of_blk {w : World} {g : Nat} {o : Obj} (h : w.heap[g]? = some o) : g < w.heap.size := (Array.getElem?_eq_some_iff.1 h).1
theorem row_cells {w : World} {base : Nat} {T : TypeId} {size n : Nat} {v : Value} {xs : List Value} (h : w.ownsRow base T size v n xs) : (v = .slice none 0 0 ∧ n = 0) ∨ ∃ b c cur, v = .slice (some ⟨b, 0, none⟩) n c ∧ base ≤ b ∧ w.heap[b]? = some (.cells cur T (0, 0)) ∧ ∀ j u, j < n * size → xs[j]? = some u → w.cell? ⟨b, j, none⟩ = some u := by
  obtain ⟨hl, h | ⟨g, cap, cur, hv, hb, hg, hnc, hcm, hcs, hx⟩⟩ := h
  · exact .inl ⟨h.1, h.2⟩
  · refine .inr ⟨g, cap, cur, hv, hb, hg, fun j u hj hu => ?_⟩
    rw [cell_of_row w g j _ _ (0, 0) hg, ← hu, ← hx, List.getElem?_take_of_lt hj]
    simp
theorem row_same {w w' : World} {base : Nat} {T : TypeId} {size n : Nat} {v : Value} {xs : List Value} (h : w.ownsRow base T size v n xs) (hs : ∀ b, v.ownBlock = some b → w'.heap[b]? = w.heap[b]?) : w'.ownsRow base T size v n xs := by
  obtain ⟨hl, h | ⟨g, cap, cur, rfl, hb, hg, r⟩⟩ := h
  · exact ⟨hl, .inl h⟩
  · exact ⟨hl, .inr ⟨g, cap, cur, rfl, hb, (hs g rfl).trans hg, r⟩⟩

theorem row_shape {w : World} {base : Nat} {T : TypeId} {size n : Nat} {v : Value} {xs : List Value} (h : w.ownsRow base T size v n xs) : ∃ A c, v = .slice A n c := by
  rcases row_cells h with ⟨h, h0⟩ | ⟨b, c, _, h, _⟩
  · exact ⟨none, 0, by rw [h, h0]⟩
  · exact ⟨_, c, h⟩
theorem new_three (w : World) (x y z : Value) (t : TypeId) : ∀ (j : Nat) (u : Value), [x, y, z][j]? = some u → (w.alloc (.cells #[x, y, z] t)).cell? ((⟨w.heap.size, 0, none⟩ : Addr).add j) = some u := by
  intro j u h
  rw [Addr.add_lit]
  match j, h with
  | 0, h => cases h; simp
  | 1, h => cases h; simp
  | 2, h => cases h; simp
  | j + 3, h => simp at h
/-- Three cells of a block of the call's own, below B: what they hold, and that they may be written. -/
theorem three_at {W wr : World} {B g : Nat} {x y z : Value} {T : TypeId} (hb : Below B W wr) (hg : g < B) (h : W.heap[g]? = some (.cells #[x, y, z] T (0, 0))) :
    wr.cell? ⟨g, 0, none⟩ = some x ∧ wr.cell? ⟨g, 1, none⟩ = some y ∧ wr.cell? ⟨g, 2, none⟩ = some z ∧ wr.frozen? ⟨g, 0, none⟩ = false ∧ wr.frozen? ⟨g, 1, none⟩ = false ∧ wr.frozen? ⟨g, 2, none⟩ = false := by
  have h' := (hb.block g hg).trans h
  exact ⟨(cell_of_row wr g 0 _ _ (0, 0) h').trans rfl, (cell_of_row wr g 1 _ _ (0, 0) h').trans rfl, (cell_of_row wr g 2 _ _ (0, 0) h').trans rfl, frozen_of_row wr g 0 _ _ h', frozen_of_row wr g 1 _ _ h', frozen_of_row wr g 2 _ _ h'⟩

/-- The row so far, in blocks from base on; K j: the blocks of what lies beneath its j-th. -/
structure RowT (base : Nat) (w : World) (n : Nat) (v : Value) (L : List Nx) (xs : List Value) (K : Nat → Nat → Prop) : Prop where
  own : w.ownsRow base 26 3 v L.length xs
  el : ∀ (j : Nat) (x : Nx), L[j]? = some x → x.2.1.size ≤ 9223372036854775807 ∧ ∃ u, xs[j * 3]? = some (.int .i64 x.1) ∧ xs[j * 3 + 1]? = some (.string x.2.1) ∧ xs[j * 3 + 2]? = some u ∧ SlT w n (K j) u x.2.2
  kin : ∀ j h, K j h → base ≤ h ∧ h < w.heap.size ∧ v.ownBlock ≠ some h
  apart : ∀ i j h, K i h → K j h → i = j
theorem RowT.start (base : Nat) (w : World) (n : Nat) : RowT base w n (.slice none 0 0) [] [] (fun _ _ => False) :=
  ⟨World.ownsRow_nil _ _ _ _, fun j x h => by simp at h, fun _ _ h => h.elim, fun _ _ _ h => h.elim⟩
section
variable {base n : Nat} {w : World} {v : Value} {L : List Nx} {xs : List Value} {K : Nat → Nat → Prop}
theorem RowT.same {w' : World} (h : RowT base w n v L xs K) (hz : w.heap.size ≤ w'.heap.size) (hs : ∀ g, (v.ownBlock = some g ∨ ∃ j, K j g) → w'.heap[g]? = w.heap[g]?) : RowT base w' n v L xs K :=
  ⟨row_same h.own fun b hb => hs b (.inl hb), fun j x hx => by
    obtain ⟨h1, u, h2, h3, h4, h5⟩ := h.el j x hx
    exact ⟨h1, u, h2, h3, h4, h5.mono (fun g hg => hs g (.inr ⟨j, hg⟩)) (fun _ h => h)⟩, fun j g hg => by
    obtain ⟨h1, h2, h3⟩ := h.kin j g hg
    exact ⟨h1, Nat.lt_of_lt_of_le h2 hz, h3⟩, h.apart⟩
theorem RowT.lt (h : RowT base w n v L xs K) {g : Nat} (hg : v.ownBlock = some g ∨ ∃ j, K j g) : base ≤ g ∧ g < w.heap.size := by
  rcases hg with hg | ⟨j, hg⟩
  · exact h.own.lt g hg
  · exact ⟨(h.kin j g hg).1, (h.kin j g hg).2.1⟩
theorem RowT.below {w' : World} (h : RowT base w n v L xs K) (hb : Below w.heap.size w w') : RowT base w' n v L xs K := h.same hb.size fun g hg => hb.block g (h.lt hg).2
/-- A block that is none of the row's is written. -/
theorem RowT.set (h : RowT base w n v L xs K) {p : Addr} {u : Value} (h1 : v.ownBlock ≠ some p.block) (h2 : ∀ j, ¬ K j p.block) : RowT base (w.setCell p u) n v L xs K :=
  h.same (by simp [World.setCell]) fun g hg => Below.heap_setCell _ _ _ g (fun e => by
    subst e
    exact hg.elim h1 (fun ⟨j, hj⟩ => h2 j hj))
theorem RowT.set_low (h : RowT base w n v L xs K) {p : Addr} {u : Value} (hp : p.block < base) : RowT base (w.setCell p u) n v L xs K :=
  h.set (fun e => by have := (h.lt (.inl e)).1; omega) (fun j hj => by have := (h.lt (.inr ⟨j, hj⟩)).1; omega)
/-- One more behind the others. -/
theorem RowT.step {w1 w2 : World} {x : Nx} {u v' : Value} {o : Obj} (h : RowT base w n v L xs K) (hbase : base ≤ w.heap.size) (hb : Below w.heap.size w w1) (hs : SlT w1 n (OwnB w w1) u x.2.2) (hl : x.2.1.size ≤ 9223372036854775807)
    (hown : w2.ownsRow base 26 3 v' (L.length + 1) (xs ++ [.int .i64 x.1, .string x.2.1, u])) (hg : (w1.alloc o).grownBy w2 v.ownBlock) (hat : v'.ownBlock = v.ownBlock ∨ v'.ownBlock = some (w1.heap.size + 1)) :
    RowT base w2 n v' (L ++ [x]) (xs ++ [.int .i64 x.1, .string x.2.1, u]) (fun j g => if j = L.length then OwnB w w1 g else K j g) := by
  have hz1 := hb.size
  have hz2 := hg.size
  rw [World.size_alloc] at hz2
  have hlx : xs.length = L.length * 3 := h.own.1
  have hvl : ∀ g, v.ownBlock = some g → g < w.heap.size := fun g e => (h.own.lt g e).2
  have hkeep : ∀ g, g < w1.heap.size → v.ownBlock ≠ some g → w2.heap[g]? = w1.heap[g]? := fun g h1 h2 => (hg.block g (by simp; omega) (Ne.symm h2)).trans (Below.heap_alloc _ _ _ h1)
  refine ⟨by simpa using hown, fun j y hy => ?_, fun j g hj => ?_, fun i j g hi hj => ?_⟩
  · by_cases hjl : j < L.length
    · rw [List.getElem?_append_left hjl] at hy
      obtain ⟨h1, u', h2, h3, h4, h5⟩ := h.el j y hy
      refine ⟨h1, u', ?_, ?_, ?_, h5.mono (fun g hg => ?_) (fun g hg => by rw [if_neg (by omega)]; exact hg)⟩
      · rw [List.getElem?_append_left (by omega)]; exact h2
      · rw [List.getElem?_append_left (by omega)]; exact h3
      · rw [List.getElem?_append_left (by omega)]; exact h4
      · obtain ⟨_, k2, k3⟩ := h.kin j g hg
        exact (hkeep g (by omega) k3).trans (hb.block g k2)
    · have hj2 := (List.getElem?_eq_some_iff.1 hy).1
      simp at hj2
      obtain rfl : j = L.length := by omega
      simp at hy
      subst hy
      refine ⟨hl, u, ?_, ?_, ?_, hs.mono (fun g hg => hkeep g hg.2 (fun e => by have := hvl g e; have := hg.1; omega)) (fun g hg => by rw [if_pos rfl]; exact hg)⟩
      · rw [List.getElem?_append_right (by omega), hlx]; simp
      · rw [List.getElem?_append_right (by omega), hlx, show L.length * 3 + 1 - L.length * 3 = 1 by omega]; rfl
      · rw [List.getElem?_append_right (by omega), hlx, show L.length * 3 + 2 - L.length * 3 = 2 by omega]; rfl
  · have hne : ∀ g, v.ownBlock ≠ some g → g < w1.heap.size → v'.ownBlock ≠ some g := fun g h1 h2 e => by
      rcases hat with h' | h'
      · exact h1 (h' ▸ e)
      · rw [h'] at e
        cases e
        omega
    by_cases e : j = L.length
    · rw [if_pos e] at hj
      have h1 := hj.1
      have h2 := hj.2
      exact ⟨by omega, by omega, hne g (fun e => by have := hvl g e; omega) h2⟩
    · rw [if_neg e] at hj
      obtain ⟨k1, k2, k3⟩ := h.kin j g hj
      exact ⟨k1, by omega, hne g k3 (by omega)⟩
  · by_cases ei : i = L.length <;> by_cases ej : j = L.length
    · omega
    · rw [if_pos ei] at hi
      rw [if_neg ej] at hj
      have := (h.kin j g hj).2.1
      have := hi.1
      omega
    · rw [if_neg ei] at hi
      rw [if_pos ej] at hj
      have := (h.kin i g hi).2.1
      have := hj.1
      omega
    · rw [if_neg ei] at hi
      rw [if_neg ej] at hj
      exact h.apart i j g hi hj
/-- The whole row. -/
theorem RowT.tree (h : RowT base w n v L xs K) {S : Nat → Prop} (hS : ∀ g, (v.ownBlock = some g ∨ ∃ j, K j g) → S g) (hL : L.length ≤ 9223372036854775807) : SlT w (n + 1) S v (rowOf L) := by
  refine ⟨by rw [rowOf_items]; exact hL, ?_⟩
  rw [rowOf_items]
  rcases row_cells h.own with ⟨hv, h0⟩ | ⟨b, c, cur, hv, hb, hblk, hc⟩
  · exact .inl ⟨h0, none, 0, hv⟩
  · refine .inr ⟨b, 0, c, K, hv, hS b (.inl (by rw [hv]; rfl)), ⟨cur, _, hblk⟩, fun j g hj => ⟨hS g (.inr ⟨j, hj⟩), fun e => ?_⟩, h.apart, fun j k l a hx => ?_⟩
    · subst e
      exact (h.kin j g hj).2.2 (by rw [hv]; rfl)
    · obtain ⟨h1, u, h2, h3, h4, h5⟩ := h.el j _ hx
      have hj := (List.getElem?_eq_some_iff.1 hx).1
      refine ⟨h1, u, ?_, h5⟩
      rw [Nat.zero_add]
      exact ⟨hc _ _ (by omega) h2, hc _ _ (by omega) h3, hc _ _ (by omega) h4⟩
end

/-- What a call that makes an expression answers: it lies in blocks of the call's own. -/
def NdT (n : Nat) (x : Nx) (w : World) (e : Ending) (w' : World) : Prop := ∃ u, e = .returned (.agg #[.int .i64 x.1, .string x.2.1, u]) ∧ SlT w' n (OwnB w w') u x.2.2 ∧ Below w.heap.size w w'
theorem NdT.up {n m : Nat} {x : Nx} {w w' : World} {e : Ending} (h : NdT n x w e w') (hm : n ≤ m) : NdT m x w e w' := by
  obtain ⟨u, h1, h2, h3⟩ := h
  exact ⟨u, h1, slt_le h2 hm, h3⟩
end Go.Proofs.Ytichpiklgkahbaa
