/-
  The search of a minimal automaton in the shape of a loop: what is met, the rows, step by step. Of no function of the program.
-/
import Derived.Test.YthmfncklepkddabDoorM5
import Derived.Test.YthmfncklepkddabDoorCls
namespace Go.Proofs.YthmfncklepkddabDoor
open Go.RowKit

section
variable (s0 : Nat) (g : Nat → Nat → Nat)
/-- What is met, as numbers of the program. -/
def ordI (t : Nat) : List Int := (ords s0 g t).map fun x : Nat => (x : Int)
/-- The key of state i. -/
def keyI (i : Nat) : Nat := (ords s0 g (3 * i)).getD i default
/-- Where letter k leads from state i. -/
def toI (i k : Nat) : Nat := (ords s0 g (3 * i + k + 1)).idxOf (g (keyI s0 g i) k)
/-- State i's row so far. -/
def rowI (i k : Nat) : List Int := (List.range k).map fun j => (toI s0 g i j : Int)
end
variable {s0 : Nat} {g : Nat → Nat → Nat}
theorem ordI_length (t : Nat) : (ordI s0 g t).length = (ords s0 g t).length := by simp [ordI]
theorem rowI_length (i k : Nat) : (rowI s0 g i k).length = k := by simp [rowI]
theorem rowI_succ (i k : Nat) : rowI s0 g i (k + 1) = rowI s0 g i k ++ [(toI s0 g i k : Int)] := by simp [rowI, List.range_succ]
theorem findV_cast (l : List Nat) (x : Nat) : findV (l.map fun x : Nat => (x : Int)) (x : Int) = if x ∈ l then (l.idxOf x : Int) else -1 := by
  unfold findV
  have hm : ((x : Int) ∈ l.map fun x : Nat => (x : Int)) ↔ x ∈ l := by
    rw [List.mem_map]
    exact ⟨fun ⟨y, hy, e⟩ => by
      have : y = x := by exact_mod_cast e
      rw [← this]; exact hy, fun h => ⟨x, h, rfl⟩⟩
  by_cases h : x ∈ l
  · rw [if_pos h, if_pos (hm.2 h)]
    congr 1
    induction l with
    | nil => cases h
    | cons y r ih =>
      rw [List.map_cons, List.idxOf_cons, List.idxOf_cons]
      by_cases e : y = x
      · simp [e]
      · have e' : ((y : Int) == (x : Int)) = false := by simp; omega
        have e2 : (y == x) = false := by simp [e]
        have hr : x ∈ r := by
          rcases List.mem_cons.1 h with h | h
          · exact absurd h.symm e
          · exact h
        rw [e', e2]
        simp only [cond_false]
        rw [ih (by
          rw [List.mem_map]
          exact ⟨fun ⟨y, hy, e⟩ => by
            have : y = x := by exact_mod_cast e
            rw [← this]; exact hy, fun h => ⟨x, h, rfl⟩⟩) hr]
  · rw [if_neg h, if_neg (fun hh => h (hm.1 hh))]
/-- A state's key, later on. -/
theorem ordI_at {i t : Nat} (hi : i < (ords s0 g (3 * i)).length) (ht : 3 * i ≤ t) : i < (ordI s0 g t).length ∧ (ordI s0 g t).getD i 0 = (keyI s0 g i : Int) := by
  have h2 := (ords_prefix (s0 := s0) (g := g) ht).length_le
  have e : (ords s0 g t).getD i default = keyI s0 g i := ords_at ht hi
  refine ⟨by rw [ordI_length]; omega, ?_⟩
  rw [← e, ordI, List.getD_eq_getElem?_getD, List.getD_eq_getElem?_getD, List.getElem?_map, List.getElem?_eq_getElem (by omega)]
  rfl
/-- One step: met already, or met now. -/
theorem ordI_step {i k : Nat} (hi : i < (ords s0 g (3 * i)).length) (hk : k < 3) :
    (ordI s0 g (3 * i + k)).getD i 0 = (keyI s0 g i : Int) ∧
    ((findV (ordI s0 g (3 * i + k)) (g (keyI s0 g i) k : Int) < 0 → ordI s0 g (3 * i + (k + 1)) = ordI s0 g (3 * i + k) ++ [(g (keyI s0 g i) k : Int)]) ∧
     (¬ findV (ordI s0 g (3 * i + k)) (g (keyI s0 g i) k : Int) < 0 → ordI s0 g (3 * i + (k + 1)) = ordI s0 g (3 * i + k))) ∧
    findV (ordI s0 g (3 * i + (k + 1))) (g (keyI s0 g i) k : Int) = (toI s0 g i k : Int) := by
  have h2 := (ords_prefix (s0 := s0) (g := g) (show 3 * i ≤ 3 * i + k by omega)).length_le
  have e : (ords s0 g (3 * i + k)).getD i default = keyI s0 g i := ords_at (by omega) hi
  have hm := ords_mem (s0 := s0) (g := g) (3 * i + k)
  rw [show (3 * i + k) / 3 = i by omega, show (3 * i + k) % 3 = k by omega, e] at hm
  have hs : ords s0 g (3 * i + (k + 1)) = if g (keyI s0 g i) k ∈ ords s0 g (3 * i + k) then ords s0 g (3 * i + k) else ords s0 g (3 * i + k) ++ [g (keyI s0 g i) k] := by
    rw [show 3 * i + (k + 1) = 3 * i + k + 1 by omega, ords, show (3 * i + k) / 3 = i by omega, show (3 * i + k) % 3 = k by omega, e]
  refine ⟨?_, ⟨fun hn => ?_, fun hn => ?_⟩, ?_⟩
  · rw [← e, ordI, List.getD_eq_getElem?_getD, List.getD_eq_getElem?_getD, List.getElem?_map, List.getElem?_eq_getElem (by omega)]
    rfl
  · rw [ordI, findV_cast] at hn
    by_cases hx : g (keyI s0 g i) k ∈ ords s0 g (3 * i + k)
    · rw [if_pos hx] at hn
      omega
    · rw [ordI, hs, if_neg hx]
      simp [ordI]
  · rw [ordI, findV_cast] at hn
    by_cases hx : g (keyI s0 g i) k ∈ ords s0 g (3 * i + k)
    · rw [ordI, hs, if_pos hx]
      rfl
    · rw [if_neg hx] at hn
      omega
  · rw [ordI, findV_cast, show 3 * i + (k + 1) = 3 * i + k + 1 by omega, if_pos hm]
    rfl
/-- What has been laid when the search ends. -/
theorem ends_fields {N : Nat} (h : Ends s0 g N) (acc : Nat → Bool) : accOf (found s0 g acc N) = ((List.range N).map fun i => acc (keyI s0 g i)) ∧ nxtOf (found s0 g acc N) = (List.range N).map fun i => rowI s0 g i 3 := by
  have hk : ∀ i, i < N → (ords s0 g (3 * N)).getD i default = keyI s0 g i := fun i hi => ords_at (by omega) (h.on i hi)
  refine ⟨?_, ?_⟩
  · apply List.map_congr_left
    intro i hi
    have hi' : i < N := List.mem_range.1 hi
    show acc _ = _
    rw [hk i hi']
  · apply List.map_congr_left
    intro i hi
    have hi' : i < N := List.mem_range.1 hi
    apply List.map_congr_left
    intro k hk'
    have hk3 : k < 3 := List.mem_range.1 hk'
    obtain ⟨h1, h2⟩ := h.key hi' hk3
    show (((ords s0 g (3 * N)).idxOf (g ((ords s0 g (3 * N)).getD i default) k) : Nat) : Int) = _
    rw [hk i hi'] at h2 ⊢
    rw [idx_prefix (ords_prefix (show 3 * i + k + 1 ≤ 3 * N by omega)) h2]
    rfl
theorem ends_intro {N : Nat} (hon : ∀ i, i < N → i < (ords s0 g (3 * i)).length) (hstop : ¬ N < (ordI s0 g (3 * N)).length) : Ends s0 g N := ⟨hon, by rw [ordI_length] at hstop; omega⟩
end Go.Proofs.YthmfncklepkddabDoor
