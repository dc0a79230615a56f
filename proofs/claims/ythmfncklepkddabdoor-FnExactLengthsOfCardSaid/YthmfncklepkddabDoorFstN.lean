/-
  The search for the first word in the shape of a loop: its words, step by step. Of no function of the program.
-/
import Derived.Test.YthmfncklepkddabDoorFstM
import Derived.Test.YthmfncklepkddabDoorMinM
namespace Go.Proofs.YthmfncklepkddabDoor
open Go.RowKit

/-- A word as the program's string. -/
def wbytes (w : List Nat) : ByteArray := ⟨(w.map fun k => UInt8.ofNat (97 + k)).toArray⟩
theorem wbytes_size (w : List Nat) : (wbytes w).size = w.length := by simp [wbytes, ByteArray.size]
theorem wbytes_list (w : List Nat) : (wbytes w).data.toList = w.map fun k => UInt8.ofNat (97 + k) := by simp [wbytes]
def wS (w : List Nat) : Value := .string (wbytes w)
section
variable (s0 : Nat) (g : Nat → Nat → Nat)
def wdV (t : Nat) : List Value := (wds s0 g t).map wS
/-- The word of key i. -/
def wdI (i : Nat) : List Nat := (wds s0 g (3 * i)).getD i []
end
variable {s0 : Nat} {g : Nat → Nat → Nat}
theorem wdV_length (t : Nat) : (wdV s0 g t).length = (ords s0 g t).length := by rw [wdV, List.length_map, wds_len]
theorem wdV_at {i t : Nat} (hi : i < (ords s0 g (3 * i)).length) (ht : 3 * i ≤ t) : (wdV s0 g t)[i]? = some (wS (wdI s0 g i)) := by
  have h2 := (ords_prefix (s0 := s0) (g := g) ht).length_le
  have h3 := wds_len (s0 := s0) (g := g) t
  have e : (wds s0 g t).getD i [] = wdI s0 g i := wds_at ht hi
  rw [wdV, List.getElem?_map, ← e, List.getD_eq_getElem?_getD, List.getElem?_eq_getElem (by omega)]
  rfl
theorem wdV_step {i k : Nat} (hi : i < (ords s0 g (3 * i)).length) (hk : k < 3) :
    (findV (ordI s0 g (3 * i + k)) (g (keyI s0 g i) k : Int) < 0 → wdV s0 g (3 * i + (k + 1)) = wdV s0 g (3 * i + k) ++ [wS (wdI s0 g i ++ [k])]) ∧
    (¬ findV (ordI s0 g (3 * i + k)) (g (keyI s0 g i) k : Int) < 0 → wdV s0 g (3 * i + (k + 1)) = wdV s0 g (3 * i + k)) := by
  have e : (ords s0 g (3 * i + k)).getD i default = keyI s0 g i := ords_at (by omega) hi
  have e' : (wds s0 g (3 * i + k)).getD i [] = wdI s0 g i := wds_at (by omega) hi
  have hs : wds s0 g (3 * i + (k + 1)) = if g (keyI s0 g i) k ∈ ords s0 g (3 * i + k) then wds s0 g (3 * i + k) else wds s0 g (3 * i + k) ++ [wdI s0 g i ++ [k]] := by
    rw [show 3 * i + (k + 1) = 3 * i + k + 1 by omega, wds, show (3 * i + k) / 3 = i by omega, show (3 * i + k) % 3 = k by omega, e, e']
  rw [ordI, findV_cast]
  by_cases hx : g (keyI s0 g i) k ∈ ords s0 g (3 * i + k)
  · rw [if_pos hx]
    refine ⟨fun h => by omega, fun _ => ?_⟩
    rw [wdV, hs, if_pos hx]
    rfl
  · rw [if_neg hx]
    refine ⟨fun _ => ?_, fun h => by omega⟩
    rw [wdV, hs, if_neg hx]
    simp [wdV]
theorem runG_au (a : Au) : ∀ (w : List Nat) (q : Nat), runG a.T q w = a.run q w
  | [], _ => rfl
  | k :: w, q => runG_au a w (a.T q k)
theorem au_ends {a : Au} (ha : a.wf) : ∃ N, N ≤ a.n ∧ Ends 0 a.T N := ends_some fun t => (ords_lt (s0 := 0) (g := a.T) ha.1 (fun x k hx hk => ha.2 x k hx hk) t).2
theorem au_key {a : Au} (ha : a.wf) {i : Nat} (hi : i < (ords 0 a.T (3 * i)).length) : keyI 0 a.T i < a.n := (ords_lt (s0 := 0) (g := a.T) ha.1 (fun x k hx hk => ha.2 x k hx hk) (3 * i)).1 _ (getD_mem' hi _)
theorem au_ords_le {a : Au} (ha : a.wf) (t : Nat) : (ords 0 a.T t).length ≤ a.n := (ords_lt (s0 := 0) (g := a.T) ha.1 (fun x k hx hk => ha.2 x k hx hk) t).2
/-- Key i is the first one that accepts. -/
theorem fst_here {a : Au} (ha : a.wf) {i : Nat} (hon : ∀ j, j < i → j < (ords 0 a.T (3 * j)).length) (hi : i < (ords 0 a.T (3 * i)).length) (hg : a.A (keyI 0 a.T i) = true) (hn : ∀ j, j < i → a.A (keyI 0 a.T j) = false) :
    FirstR (fun w => a.A (a.run 0 w) = true) (some (wdI 0 a.T i)) ∧ (wdI 0 a.T i).length ≤ i := by
  obtain ⟨N, -, hE⟩ := au_ends ha
  have hiN : i < N := by
    apply Nat.lt_of_not_le
    intro hle
    have h1 : N < (ords 0 a.T (3 * N)).length := by
      rcases Nat.lt_or_eq_of_le hle with h | h
      · exact hon N h
      · rw [h]; exact hi
    have := hE.stop
    omega
  have hk : ∀ j, j ≤ i → (ords 0 a.T (3 * N)).getD j default = keyI 0 a.T j := fun j hj => by
    refine ords_at (by omega) ?_
    rcases Nat.lt_or_eq_of_le hj with h | h
    · exact hon j h
    · rw [h]; exact hi
  have hw : (wds 0 a.T (3 * N)).getD i [] = wdI 0 a.T i := wds_at (by omega) hi
  have h := first_found hE (goal := a.A) hiN (by rw [hk i (Nat.le_refl _)]; exact hg) (fun j hj => by rw [hk j (Nat.le_of_lt hj)]; exact hn j hj)
  have hf := (wds_facts (3 * N) hE.alive i (by rw [hE.length]; exact hiN)).2.2
  rw [hw] at h hf
  refine ⟨?_, hf⟩
  obtain ⟨h1, h2, h3⟩ := h
  refine ⟨h1, ?_, fun v hv hp => h3 v hv ?_⟩
  · have h2 : a.A (runG a.T 0 (wdI 0 a.T i)) = true := h2
    rwa [runG_au] at h2
  · show a.A (runG a.T 0 v) = true
    rw [runG_au]
    exact hp
theorem fst_end {a : Au} {i : Nat} (hon : ∀ j, j < i → j < (ords 0 a.T (3 * j)).length) (hstop : ¬ i < (ordI 0 a.T (3 * i)).length) (hn : ∀ j, j < i → a.A (keyI 0 a.T j) = false) : FirstR (fun w => a.A (a.run 0 w) = true) none := by
  have hE := ends_intro (s0 := 0) (g := a.T) (N := i) hon hstop
  have h := first_none hE (goal := a.A) (fun j hj => by
    rw [show (ords 0 a.T (3 * i)).getD j default = keyI 0 a.T j from ords_at (by omega) (hon j hj)]
    exact hn j hj)
  intro w hw hp
  refine h w hw ?_
  show a.A (runG a.T 0 w) = true
  rw [runG_au]
  exact hp
end Go.Proofs.YthmfncklepkddabDoor
