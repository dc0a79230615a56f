/-
  '[]byte(s)': a row of the call's own whose first cells are the string's bytes: read, written, lengthened by one, turned back into a string.
-/
import Derived.Test.YthmfncklepkddabStrBase
import Derived.ArgAppend
import Derived.Laws.IdiomStrings
import Derived.RangeFuncBox
namespace Go.Proofs.Ythmfncklepkddab
open Go.RowKit

/-- Block g has m places that may be written; the first of them hold the bytes L. -/
def BRow (w : World) (g m : Nat) (L : List UInt8) : Prop :=
  g < w.heap.size ∧ L.length ≤ m ∧ (∀ j (h : j < L.length), w.cell? ⟨g, j, none⟩ = some (.int .u8 (L[j].toNat : Int))) ∧ ∀ j, j < m → (w.cell? ⟨g, j, none⟩).isSome = true ∧ w.frozen? ⟨g, j, none⟩ = false

theorem BRow.below {w w' : World} {g m : Nat} {L : List UInt8} (h : BRow w g m L) (hb : Below w.heap.size w w') : BRow w' g m L :=
  ⟨Nat.lt_of_lt_of_le h.1 hb.size, h.2.1, fun j hj => (hb.cell (p := ⟨g, j, none⟩) h.1).trans (h.2.2.1 j hj), fun j hj => ⟨by rw [hb.cell (p := ⟨g, j, none⟩) h.1]; exact (h.2.2.2 j hj).1, (hb.frozen (p := ⟨g, j, none⟩) h.1).trans (h.2.2.2 j hj).2⟩⟩
theorem BRow.set {w : World} {g m : Nat} {L : List UInt8} (h : BRow w g m L) (k : Nat) (hk : k < L.length) (b : UInt8) : BRow (w.setCell ⟨g, k, none⟩ (.int .u8 (b.toNat : Int))) g m (L.set k b) := by
  refine ⟨by simpa [World.setCell] using h.1, by simpa using h.2.1, fun j hj => ?_, fun j hj => ⟨?_, by rw [World.frozen?_setCell]; exact (h.2.2.2 j hj).2⟩⟩
  · by_cases e : k = j
    · subst e
      rw [World.cell?_setCell_same _ _ _ (h.2.2.1 k hk), List.getElem_set_self]
    · rw [World.cell?_setCell_other _ _ _ _ (by intro e'; injection e' with _ e2; exact e e2), List.getElem_set_ne e]
      exact h.2.2.1 j (by simpa using hj)
  · by_cases e : k = j
    · subst e
      rw [World.cell?_setCell_same _ _ _ (h.2.2.1 k hk)]
      rfl
    · rw [World.cell?_setCell_other _ _ _ _ (by intro e'; injection e' with _ e2; exact e e2)]
      exact (h.2.2.2 j hj).1
theorem BRow.push {w : World} {g m : Nat} {L : List UInt8} (h : BRow w g m L) (b : UInt8) (hm : L.length + 1 ≤ m) : BRow (w.setCells g L.length [.int .u8 (b.toNat : Int)]) g m (L ++ [b]) := by
  have hs := (h.2.2.2 L.length (by omega)).1
  obtain ⟨u, hu⟩ := Option.isSome_iff_exists.1 hs
  refine ⟨by simpa [World.setCells, World.setCell] using h.1, by simpa using hm, fun j hj => ?_, fun j hj => ⟨?_, by simp only [World.setCells]; rw [World.frozen?_setCell]; exact (h.2.2.2 j hj).2⟩⟩
  · simp only [World.setCells]
    by_cases e : L.length = j
    · subst e
      rw [World.cell?_setCell_same _ _ _ hu]
      simp
    · rw [World.cell?_setCell_other _ _ _ _ (by intro e'; injection e' with _ e2; exact e e2)]
      have hj' : j < L.length := by simp at hj; omega
      rw [List.getElem_append_left hj']
      exact h.2.2.1 j hj'
  · simp only [World.setCells]
    by_cases e : L.length = j
    · subst e
      rw [World.cell?_setCell_same _ _ _ hu]
      rfl
    · rw [World.cell?_setCell_other _ _ _ _ (by intro e'; injection e' with _ e2; exact e e2)]
      exact (h.2.2.2 j hj).1

theorem bytesRow_at (s : ByteArray) (m j : Nat) (h : j < s.data.toList.length) : (bytesRow s m)[j]? = some (.int .u8 ((s.data.toList[j]).toNat : Int)) := by
  have hj : j < s.data.size := by simpa using h
  unfold bytesRow
  rw [Array.getElem?_append_left (by simpa using hj)]
  simp
  exact ⟨_, Array.getElem?_eq_getElem hj, rfl⟩
theorem bytesRow_size (s : ByteArray) (m : Nat) (h : s.size ≤ m) : (bytesRow s m).size = m := by
  have : s.data.size = s.size := rfl
  simp [bytesRow]
  omega

/-- The conversion '[]byte(s)', its capacity and the world behind it under names. -/
theorem conv_row (s : ByteArray) (w : World) (hs : s.size ≤ maxLen) : ∃ m w1, (convert 9 56 (.string s)).run Try.prog w = .ok (.slice (some ⟨w.heap.size, 0, none⟩) s.size m) w1 ∧
    BRow w1 w.heap.size m s.data.toList ∧ Below w.heap.size w w1 ∧ m ≤ maxLen := by
  have hm := grownCap_ge w s.size 0 5
  have hb : Below w.heap.size w (w.drew.alloc (.cells (bytesRow s (grownCap w s.size 0 5)) 5 ((bytesRow s (grownCap w s.size 0 5)).size, (bytesRow s (grownCap w s.size 0 5)).size + 1))) :=
    (Below.refl _ w).drew.alloc (Nat.le_refl _) _
  have hnew := heap_alloc_new w.drew (.cells (bytesRow s (grownCap w s.size 0 5)) 5 ((bytesRow s (grownCap w s.size 0 5)).size, (bytesRow s (grownCap w s.size 0 5)).size + 1))
  refine ⟨_, _, run_bytes_of_string (P := Try.prog) w 9 56 5 s Try.underlying9 Try.underlying56 Try.underlying5, ⟨?_, ?_, fun j hj => ?_, fun j hj => ⟨?_, ?_⟩⟩, hb, grownCap_le_maxLen w s.size 0 5 hs⟩
  · show w.heap.size < (w.heap.push _).size
    simp
  · simpa using hm
  · exact (cell_of_row _ w.heap.size j _ _ _ hnew).trans (bytesRow_at s _ j hj)
  · have hj' : j < (bytesRow s (grownCap w s.size 0 5)).size := by rw [bytesRow_size s _ hm]; exact hj
    rw [show World.cell? _ ⟨w.heap.size, j, none⟩ = _ from cell_of_row _ w.heap.size j _ _ _ hnew, Array.getElem?_eq_getElem hj']
    rfl
  · have hj' : j < (bytesRow s (grownCap w s.size 0 5)).size := by rw [bytesRow_size s _ hm]; exact hj
    unfold World.frozen?
    rw [show (w.drew.alloc _).heap[(⟨w.heap.size, j, none⟩ : Addr).block]? = _ from hnew]
    simp
    intro h
    exact absurd h (by omega)

/-- 'string(b)' of the row. -/
theorem conv_back (w : World) (g m c : Nat) (L : List UInt8) (h : BRow w g m L) : (convert 56 9 (.slice (some ⟨g, 0, none⟩) L.length c)).run Try.prog w = .ok (.string ⟨L.toArray⟩) w :=
  run_convert_bytes_back (P := Try.prog) w 56 9 5 ⟨g, 0, none⟩ c L Try.underlying56 Try.underlying5 Try.underlying9 (fun j hj => by rw [Addr.add_lit, Nat.zero_add]; exact h.2.2.1 j hj)

theorem byteInfo : (Try.prog.info? 5).map (fun i => (i.zero, i.size, i.bytes)) = some (some (.int .u8 0), 1, 1) := by kernel_rfl
theorem own_byte {w : World} {B g c n : Nat} {L : List UInt8} (hl : L.length = n) (h : w.ownsRow B 5 1 (.slice (some ⟨g, 0, none⟩) n c) n (L.map fun b => .int .u8 (b.toNat : Int))) :
    (convert 56 9 (.slice (some ⟨g, 0, none⟩) n c)).run Try.prog w = .ok (.string ⟨L.toArray⟩) w := by
  subst hl
  exact run_convert_bytes_back (P := Try.prog) w 56 9 5 ⟨g, 0, none⟩ c L Try.underlying56 Try.underlying5 Try.underlying9 (fun j hj => by
    rw [Addr.add_lit, Nat.zero_add, h.cellAt j (by omega)]
    simp [hj])
end Go.Proofs.Ythmfncklepkddab
