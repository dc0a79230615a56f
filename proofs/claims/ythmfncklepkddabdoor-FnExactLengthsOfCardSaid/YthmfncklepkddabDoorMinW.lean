/-
  The minimal automaton of a valid one, as an answer; its complement. Of no function of the program.
  What spec.l5Fits answers: the minimal automaton, where it has not too many states.
  How large a minimal automaton and its complement are.
-/
import Derived.Test.YthmfncklepkddabDoorCls
import Derived.Test.YthmfncklepkddabDoorAuD
import Derived.StillTailTactics
namespace Go.Proofs.YthmfncklepkddabDoor
open Go.RowKit

/-- The minimal automaton, or none. -/
def minR (d y : Dx) : Prop := if validD d = true then ∃ m, Canon m ∧ Eqv m 0 (auD d) 0 ∧ y = fieldsOf m else y = ⟨[], []⟩
theorem fieldsOf_au {d : Dx} (h : validD d = true) : (auD d).wf ∧ (auD d).n ≤ 40 ∧ d = fieldsOf (auD d) := by
  obtain ⟨h1, h2, h3, h4⟩ := of_validF h
  refine ⟨h1, h2, ?_⟩
  cases d
  simp only [fieldsOf, auD] at *
  rw [← h3, ← h4]
theorem minR_some (d : Dx) : ∃ y, minR d y := by
  unfold minR
  by_cases h : validD d = true
  · simp only [h, if_true]
    obtain ⟨m, h1, h2, _⟩ := exists_min (fieldsOf_au h).1
    exact ⟨_, m, h1, h2, rfl⟩
  · simp only [h]
    exact ⟨_, rfl⟩
theorem Eqv.swap {a b c : Au} {p q r : Nat} (h : Eqv a p c r) (h' : Eqv b q c r) : Eqv a p b q := fun w hw => (h w hw).trans (h' w hw).symm
theorem fields_one {m m' : Au} (h : Canon m) (h' : Canon m') (he : Eqv m 0 m' 0) : fieldsOf m = fieldsOf m' := by
  obtain ⟨h1, h2⟩ := min_fields h h' he
  unfold fieldsOf
  rw [h1, h2]
theorem minR_one {d y y' : Dx} (h : minR d y) (h' : minR d y') : y = y' := by
  unfold minR at h h'
  by_cases hv : validD d = true
  · simp only [hv, if_true] at h h'
    obtain ⟨m, h1, h2, rfl⟩ := h
    obtain ⟨m', h1', h2', rfl⟩ := h'
    exact fields_one h1 h1' (h2.swap h2')
  · simp only [hv] at h h'
    exact h.trans h'.symm
theorem RowO.empty (w : World) (S : Nat → Prop) : RowO w S (.slice none 0 0) [] :=
  (RowO.of_owns (base := 0) (e := 3) (n := 0) (xs := []) (v := .slice none 0 0) ⟨rfl, .inl ⟨rfl, rfl⟩⟩ (by omega)).mono (fun _ _ => rfl) (fun g hg => by simp [Value.ownBlock] at hg)
theorem DfaO.empty (w : World) (S : Nat → Prop) : DfaO w S (.slice none 0 0) (.slice none 0 0) ⟨[], []⟩ :=
  ⟨fun _ => False, fun _ => False, RowO.empty w _, ⟨[], fun _ => False, fun _ _ => False, RowO.empty w _, RowsP.nil _ _, fun _ h => h.elim⟩, fun _ h => h.elim, fun _ h => h.elim⟩
/-- The complement of an automaton's fields. -/
def comD (y : Dx) : Dx := ⟨y.acc.map (!·), y.nxt⟩
/-- Turned up to place i. -/
def turned (l : List Bool) (i : Nat) : List Bool := (l.take i).map (!·) ++ l.drop i
theorem turned_length (l : List Bool) (i : Nat) : (turned l i).length = l.length := by
  simp [turned]
  omega
theorem turned_at {l : List Bool} {i : Nat} (hi : i < l.length) : (turned l i).getD i false = l.getD i false := by
  have h1 : ((l.take i).map (!·)).length = i := by simp; omega
  rw [turned, List.getD_eq_getElem?_getD, List.getElem?_append_right (by omega), h1, Nat.sub_self, List.getElem?_drop, List.getD_eq_getElem?_getD, Nat.add_zero]
theorem turned_step {l : List Bool} {i : Nat} (hi : i < l.length) : (bools (turned l i)).set i (.bool (!(l.getD i false))) = bools (turned l (i + 1)) := by
  have e : l.drop i = l[i] :: l.drop (i + 1) := List.drop_eq_getElem_cons hi
  have h1 : ((l.take i).map (!·)).length = i := by simp; omega
  have h2 : turned l (i + 1) = (l.take i).map (!·) ++ (!l[i]) :: l.drop (i + 1) := by
    rw [turned, List.take_succ_eq_append_getElem hi, List.map_append, List.append_assoc]
    rfl
  rw [h2, turned, e, show l.getD i false = l[i] by rw [List.getD_eq_getElem?_getD, List.getElem?_eq_getElem hi]; rfl]
  simp only [bools, List.map_append, List.map_cons]
  rw [List.set_append_right _ _ (by simp; omega)]
  simp
  have : i - min i l.length = 0 := by omega
  rw [this]
  rfl
theorem turned_all (l : List Bool) : turned l l.length = l.map (!·) := by simp [turned]
theorem turned_zero (l : List Bool) : turned l 0 = l := by simp [turned]
end Go.Proofs.YthmfncklepkddabDoor

namespace Go.Proofs.YthmfncklepkddabDoor
open Go.RowKit

theorem validD_fields {m : Au} (h : m.wf) : validD (fieldsOf m) = decide (m.n ≤ 40) := by
  by_cases hn : m.n ≤ 40
  · rw [decide_eq_true hn]
    exact validF_of h hn
  · rw [decide_eq_false hn]
    exact validF_big (by omega)
/-- What fits. -/
def fitD (m : Au) : Dx := if m.n ≤ 40 then fieldsOf m else ⟨[], []⟩

end Go.Proofs.YthmfncklepkddabDoor

namespace Go.Proofs.YthmfncklepkddabDoor
open Go.RowKit

theorem tot_rows (f : Nat → List Int) (h : ∀ i, (f i).length = 3) : ∀ n, totR ((List.range n).map f) = n * 3
  | 0 => rfl
  | n + 1 => by
    have ih := tot_rows f h n
    unfold totR at ih ⊢
    rw [List.range_succ, List.map_append, List.map_append, List.sum_append, ih]
    simp [h]
    omega
theorem fieldsOf_wt {m : Au} (h : m.n ≤ 40) : wtD (fieldsOf m) ≤ 1048576 := by
  have h1 : (fieldsOf m).acc.length = m.n := accOf_length m
  have h2 : (fieldsOf m).nxt.length = m.n := nxtOf_length m
  have h3 : totR (fieldsOf m).nxt = m.n * 3 := tot_rows _ (fun i => by simp) m.n
  unfold wtD
  omega
theorem minR_au {d y : Dx} (h : minR d y) (hv : validD d = true) : ∃ m, Canon m ∧ Eqv m 0 (auD d) 0 ∧ y = fieldsOf m ∧ m.n ≤ 40 := by
  obtain ⟨q1, q2, _⟩ := fieldsOf_au hv
  obtain ⟨m', h1, h2, h3⟩ := exists_min q1
  have h' : minR d (fieldsOf m') := by
    unfold minR
    rw [if_pos hv]
    exact ⟨m', h1, h2, rfl⟩
  exact ⟨m', h1, h2, minR_one h h', by omega⟩
theorem minR_wt {d y : Dx} (h : minR d y) : wtD y ≤ 1048576 := by
  by_cases hv : validD d = true
  · obtain ⟨m, _, _, rfl, hm⟩ := minR_au h hv
    exact fieldsOf_wt hm
  · unfold minR at h
    rw [if_neg hv] at h
    subst h
    decide
theorem comD_wt {y : Dx} (h : wtD y ≤ 1048576) : wtD (comD y) ≤ 1048576 := by
  unfold wtD comD at *
  simpa using h
end Go.Proofs.YthmfncklepkddabDoor
