/-
  An argument that is an automaton, read.
-/
import Derived.Test.YthmfncklepkddabDoorDfaX
import Derived.Deep.Grids
import Derived.Deep.Matrix
import Derived.ChangeSame
import Derived.Lib.SmallJoins
namespace Go.Proofs.YthmfncklepkddabDoor
open Go.ChangeShapes Go.WideShapes Go.RowKit Go.Deep

section
variable {H : Type} {enc : TypeId × Value → H} {w : World}
set_option maxRecDepth 100000 in
theorem read_bools {fuel : Nat} {v : Value} {x : DataW H × List MemPlace} (h : DataW.trod enc Tryd.prog w 0 (fun _ => true) true fuel 22 [v] = some x) : ∃ l, RowV w (· < w.heap.size) v (bools l) := by
  rcases open_bools Tryd.underlying22 Tryd.underlying4 (by kernel_rfl) h with ⟨hcs, _⟩ | ⟨a, len, cap, B, hcs, _, hl, hm, _, hx⟩
  · simp at hcs
    subst hcs
    exact ⟨[], Nat.zero_le _, none, 0, rfl, fun j x hx => by simp [bools] at hx⟩
  · simp at hcs
    subst hcs
    unfold maxLen at hm
    refine ⟨(List.range len).map B, by simp [bools]; omega, some a, cap, by simp [bools], fun j x hj => ?_⟩
    have hjl : j < len := by have := (List.getElem?_eq_some_iff.1 hj).1; simpa [bools] using this
    have hc := hx j (by omega)
    refine ⟨a, rfl, by have := cell_in hc; rwa [add_block] at this, ?_⟩
    rw [hc, ← hj]
    simp [bools, hjl]
set_option maxRecDepth 100000 in
theorem read_rows {fuel : Nat} {v : Value} {x : DataW H × List MemPlace} (h : DataW.trod enc Tryd.prog w 0 (fun _ => true) true fuel 23 [v] = some x) : ∃ rs, RowVV w (· < w.heap.size) v (intss rs) := by
  rcases open_int_rows Tryd.underlying23 Tryd.underlying38 Tryd.underlying3 (by kernel_rfl) (by kernel_rfl) h with ⟨hcs, _⟩ | ⟨a, len, cap, A, L, C, Z, hcs, _, hl, hm, _, hx⟩
  · simp at hcs
    subst hcs
    exact ⟨[], [], rfl, ⟨Nat.zero_le _, none, 0, rfl, fun j x hx => by simp at hx⟩, fun j u r hu => by simp at hu⟩
  · simp at hcs
    subst hcs
    unfold maxLen at hm
    refine ⟨(List.range len).map fun r => (Z r).take (L r), (List.range len).map fun r => .slice (A r) (L r) (C r), by simp [intss], ⟨by simp; omega, some a, cap, by simp, fun j x hj => ?_⟩, fun j u r hu hr => ?_⟩
    · have hjl : j < len := by have := (List.getElem?_eq_some_iff.1 hj).1; simpa using this
      have hc := (hx j (by omega)).1
      refine ⟨a, rfl, by have := cell_in hc; rwa [add_block] at this, ?_⟩
      rw [hc, ← hj]
      simp [hjl]
    · have hjl : j < len := by have := (List.getElem?_eq_some_iff.1 hu).1; simpa using this
      obtain ⟨_, h1, h2, h3, _, h5, h6⟩ := hx j (by omega)
      have eu : u = .slice (A j) (L j) (C j) := by simpa [hjl] using hu.symm
      have er : r = ints ((Z j).take (L j)) := by simpa [intss, hjl] using hr.symm
      have hlen : (ints ((Z j).take (L j))).length = L j := by rw [ints_length, List.length_take]; omega
      subst eu
      subst er
      unfold maxLen at h2
      refine ⟨by rw [hlen]; omega, A j, C j, by rw [hlen], fun i x hi => ?_⟩
      have hil : i < L j := by have := (List.getElem?_eq_some_iff.1 hi).1; omega
      cases hA : A j with
      | none =>
        have := h5 hA
        omega
      | some a' =>
        obtain ⟨_, hc⟩ := h6 a' hA
        have hc := hc i (by omega)
        refine ⟨a', rfl, by have := cell_in hc; rwa [add_block] at this, ?_⟩
        rw [hc, ← hi]
        have hiz : i < (Z j).length := by omega
        simp [ints, List.getD, List.getElem?_eq_getElem hiz, hil]

set_option maxRecDepth 100000 in
/-- An automaton handed in by value. -/
theorem open_dfa {r : Reach} {b0 : Nat} {v : Value} {d : DataW H} {p : List MemPlace} (hv : Value.okWide Tryd.prog w r b0 25 v) (h : DataW.Trod enc Tryd.prog w 0 (fun _ => true) true 25 v d p) :
    ∃ va vn x, v = .agg #[va, vn] ∧ DfaV w (· < w.heap.size) va vn x := by
  obtain ⟨v0, v1, y0, y1, n, rfl, rfl, rfl, h0, h1⟩ := Go.Joins.open_agg2 Tryd.underlying25 (by kernel_rfl) (by kernel_rfl) hv h
  obtain ⟨l, hl⟩ := read_bools h0
  obtain ⟨rs, hr⟩ := read_rows h1
  exact ⟨v0, v1, ⟨l, rs⟩, rfl, hl, hr⟩
end
end Go.Proofs.YthmfncklepkddabDoor
