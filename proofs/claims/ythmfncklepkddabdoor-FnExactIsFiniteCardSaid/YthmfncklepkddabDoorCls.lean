/-
  What spec.l5Find and spec.l5Same answer: where a number stands in a list; whether two states are in one class and go to the same classes.
  What spec.l5Classes answers: each state's class, by its first state.
-/
import Derived.Test.YthmfncklepkddabDoorVDfaS
import Derived.Deep.QuietTactic
import Derived.BigQuiet
import Derived.Deep.CutRange
import Derived.Outline
namespace Go.Proofs.YthmfncklepkddabDoor
open Go.RowKit

/-- Where a number stands, or -1. -/
def findV (l : List Int) (x : Int) : Int := if x ∈ l then ((l.idxOf x : Nat) : Int) else -1
theorem findV_no {l : List Int} {x : Int} (h : ∀ j, j < l.length → l.getD j 0 ≠ x) : findV l x = -1 := by
  unfold findV
  rw [if_neg]
  intro hx
  obtain ⟨j, hj, rfl⟩ := List.getElem_of_mem hx
  exact h j hj (getD_at hj)
theorem findV_at {l : List Int} {x : Int} {j : Nat} (hj : j < l.length) (h : l.getD j 0 = x) (hlt : ∀ i, i < j → l.getD i 0 ≠ x) : findV l x = (j : Int) := by
  rw [getD_at hj] at h
  unfold findV
  have hm : x ∈ l := by rw [← h]; exact List.getElem_mem hj
  rw [if_pos hm]
  have h1 := List.idxOf_lt_length_of_mem hm
  have h2 : l[l.idxOf x] = x := List.getElem_idxOf h1
  have h3 : l.idxOf x ≤ j := by
    apply Classical.byContradiction
    intro hn
    have : l.take (j + 1) ++ l.drop (j + 1) = l := List.take_append_drop _ _
    have hmem : x ∈ l.take (j + 1) := by
      rw [← h]
      exact List.mem_take_iff_getElem.2 ⟨j, by omega, rfl⟩
    have h4 : l.idxOf x = (l.take (j + 1)).idxOf x := by
      conv => lhs; rw [← this]
      rw [List.idxOf_append, if_pos hmem]
    have h5 := List.idxOf_lt_length_of_mem hmem
    rw [List.length_take] at h5
    omega
  rcases Nat.lt_or_eq_of_le h3 with hl | he
  · have := hlt _ hl
    rw [getD_at h1] at this
    exact absurd h2 this
  · rw [he]

/-- An automaton's own fields, and their cells. -/
def fieldsOf (a : Au) : Dx := ⟨accOf a, nxtOf a⟩
theorem DfaV.cells {w : World} {S : Nat → Prop} {va vn : Value} {a : Au} (h : DfaV w S va vn (fieldsOf a)) (hp : 0 < a.n) :
    ∃ ad c ad' c', va = .slice (some ad) a.n c ∧ vn = .slice (some ad') a.n c' ∧ a.n ≤ 9223372036854775807 ∧
      (∀ q, q < a.n → w.cell? (ad.add q) = some (.bool (a.A q))) ∧ ∀ q, q < a.n → ∃ ad2 c2, w.cell? (ad'.add q) = some (.slice (some ad2) 3 c2) ∧ ∀ k, k < 3 → w.cell? (ad2.add k) = some (.int .i64 ((a.T q k : Nat) : Int)) := by
  have hl := h.1.1
  rw [bools_length] at hl
  obtain ⟨⟨A, c, rfl⟩, A', c', rfl⟩ := h.shape
  have e1 : (fieldsOf a).acc.length = a.n := accOf_length a
  have e2 : (fieldsOf a).nxt.length = a.n := nxtOf_length a
  obtain ⟨ad, rfl, -, -⟩ := h.1.boolD (j := 0) (by rw [e1]; exact hp)
  obtain ⟨ad', -, rfl, -, -, -⟩ := h.2.atD (j := 0) (by rw [e2]; exact hp)
  refine ⟨ad, c, ad', c', by rw [e1], by rw [e2], by rw [← e1]; exact hl, fun q hq => ?_, fun q hq => ?_⟩
  · obtain ⟨ad0, e, -, hc⟩ := h.1.boolD (j := q) (by rw [e1]; exact hq)
    cases e
    rw [hc]
    simp [fieldsOf, List.getD_eq_getElem?_getD, accOf_at a hq]
  · obtain ⟨ad0, u, e, -, hc, hr⟩ := h.2.atD (j := q) (by rw [e2]; exact hq)
    cases e
    have hrow : (fieldsOf a).nxt.getD q [] = (List.range 3).map fun k => (a.T q k : Int) := by
      simp [fieldsOf, List.getD_eq_getElem?_getD, nxtOf_at a hq]
    rw [hrow] at hr
    obtain ⟨-, A2, c2, rfl⟩ := hr.ints_shape
    simp only [List.length_map, List.length_range] at hr hc
    obtain ⟨ad2, rfl, -, -⟩ := hr.intD (j := 0) (by simp)
    refine ⟨ad2, c2, hc, fun k hk => ?_⟩
    obtain ⟨ad3, e, -, hc3⟩ := hr.intD (j := k) (by simpa using hk)
    cases e
    rw [hc3]
    simp [List.getD_eq_getElem?_getD, hk]
/-- The classes as a row. -/
def clsRow (n : Nat) (c : Nat → Nat) : List Int := (List.range n).map fun q => (c q : Int)
theorem clsRow_length (n : Nat) (c : Nat → Nat) : (clsRow n c).length = n := by simp [clsRow]
theorem RowV.cls {w : World} {S : Nat → Prop} {v : Value} {n : Nat} {c : Nat → Nat} (h : RowV w S v (ints (clsRow n c))) (hn : 0 < n) : ∃ ad m, v = .slice (some ad) n m ∧ ∀ q, q < n → w.cell? (ad.add q) = some (.int .i64 (c q : Int)) := by
  obtain ⟨-, A, m, rfl⟩ := h.ints_shape
  obtain ⟨ad, rfl, -, -⟩ := h.intD (j := 0) (by rw [clsRow_length]; exact hn)
  refine ⟨ad, m, by rw [clsRow_length], fun q hq => ?_⟩
  obtain ⟨ad2, e, -, hc⟩ := h.intD (j := q) (by rw [clsRow_length]; exact hq)
  cases e
  rw [hc]
  simp [clsRow, List.getD_eq_getElem?_getD, hq]

/-- How far two states have been found the same. -/
def sameK (a : Au) (c : Nat → Nat) (p q : Nat) (j : Nat) : Bool := decide (c p = c q) && ((List.range j).all fun k => decide (c (a.T p k) = c (a.T q k)))
theorem sameK_zero (a : Au) (c : Nat → Nat) (p q : Nat) : sameK a c p q 0 = decide (c p = c q) := by simp [sameK]
theorem sameK_succ (a : Au) (c : Nat → Nat) (p q j : Nat) : sameK a c p q (j + 1) = (sameK a c p q j && decide (c (a.T p j) = c (a.T q j))) := by simp [sameK, List.range_succ, List.all_append, Bool.and_assoc]
theorem eq_cast (x y : Nat) : ((x : Int) == (y : Int)) = decide (x = y) := by
  rw [Bool.eq_iff_iff]
  simp
  omega

end Go.Proofs.YthmfncklepkddabDoor

namespace Go.Proofs.YthmfncklepkddabDoor
open Go.RowKit

def clsV (a : Au) (r : Nat) : Nat → Value := fun q => .int .i64 ((cls a r q : Nat) : Int)
theorem ints_cls (a : Au) (r n : Nat) : ints (clsRow n (cls a r)) = (List.range n).map (clsV a r) := by simp [ints, clsRow, clsV, Function.comp_def]
theorem made_ints (n : Nat) : (madeCells (Value.cells (.int .i64 0)) (n * 1)).toList = List.replicate n (.int .i64 0) := by
  unfold madeCells
  apply List.ext_getElem
  · simp
  · intro i h1 h2
    simp
    simp [Value.cells, Nat.mod_one]
/-- A row just made. -/
theorem made_row_o {w w1 : World} {n : Nat} {T : TypeId} (hown : w1.ownsRow w.heap.size T 1 (.slice (some ⟨w.heap.size, 0, none⟩) n n) n (madeCells (Value.cells (.int .i64 0)) (n * 1)).toList) (hgr : w.grownBy w1 none) (hn : n ≤ 9223372036854775807) (f : Nat → Value) :
    RowO w1 (fun g => g = w.heap.size) (.slice (some ⟨w.heap.size, 0, none⟩) n n) ((List.range 0).map f ++ (List.replicate n (.int .i64 0 : Value)).drop 0) ∧ Below w.heap.size w w1 ∧ w.heap.size < w1.heap.size := by
  have hlt : w.heap.size < w1.heap.size := by
    rcases hown.2 with ⟨e, _⟩ | ⟨g, cap, cur, e, _, hh, _⟩
    · cases e
    · cases e
      exact (Array.getElem?_eq_some_iff.1 hh).1
  refine ⟨?_, ⟨hgr.os, hgr.tape, hgr.output, hgr.size, fun k hk => hgr.block k hk (fun e => by cases e)⟩, hlt⟩
  have h1 := RowO.of_owns hown hn
  rw [made_ints] at h1
  exact h1.mono (fun _ _ => rfl) (fun g hg => by simp [Value.ownBlock] at hg; exact hg.symm)
theorem set_zero (f : Nat → Value) (n j : Nat) (hj : j < n) : ((List.range j).map f ++ (List.replicate n (.int .i64 0 : Value)).drop j).set j (f j) = (List.range (j + 1)).map f ++ (List.replicate n (.int .i64 0 : Value)).drop (j + 1) := set_step f _ j (by simpa using hj)
theorem zero_step (f : Nat → Value) (n j : Nat) (hj : j < n) (h : f j = .int .i64 0) : (List.range j).map f ++ (List.replicate n (.int .i64 0 : Value)).drop j = (List.range (j + 1)).map f ++ (List.replicate n (.int .i64 0 : Value)).drop (j + 1) := by
  have e := List.drop_eq_getElem_cons (l := List.replicate n (.int .i64 0 : Value)) (i := j) (by simpa using hj)
  rw [e, List.range_succ, List.map_append, List.append_assoc]
  simp [h]
theorem zero_all (f : Nat → Value) (n : Nat) : (List.range n).map f ++ (List.replicate n (.int .i64 0 : Value)).drop n = (List.range n).map f := by
  rw [List.drop_eq_nil_of_le (by simp), List.append_nil]

end Go.Proofs.YthmfncklepkddabDoor
