/-
  Automata as their fields tell them: which are valid, and which automaton they are. Of no function of the program.
-/
import Derived.Test.YtcdgglnlhfgghaaBfs
namespace Go.Proofs.Ytcdgglnlhfgghaa

def rowOk (n : Nat) (r : List Int) : Bool := decide (r.length = 3) && r.all fun x => decide (0 ≤ x) && decide (x ≤ (n : Int) - 1)
def validF (acc : List Bool) (nxt : List (List Int)) : Bool := decide (1 ≤ acc.length) && decide (acc.length ≤ 40) && decide (nxt.length = acc.length) && nxt.all (rowOk acc.length)
/-- An automaton's fields. -/
def accOf (m : Au) : List Bool := (List.range m.n).map m.A
def nxtOf (m : Au) : List (List Int) := (List.range m.n).map fun i => (List.range 3).map fun k => (m.T i k : Int)
theorem accOf_length (m : Au) : (accOf m).length = m.n := by simp [accOf]
theorem nxtOf_length (m : Au) : (nxtOf m).length = m.n := by simp [nxtOf]
theorem accOf_at (m : Au) {i : Nat} (h : i < m.n) : (accOf m)[i]? = some (m.A i) := by simp [accOf, h]
theorem nxtOf_at (m : Au) {i : Nat} (h : i < m.n) : (nxtOf m)[i]? = some ((List.range 3).map fun k => (m.T i k : Int)) := by simp [nxtOf, h]
theorem rowOk_of {m : Au} (h : m.wf) {i : Nat} (hi : i < m.n) : rowOk m.n ((List.range 3).map fun k => (m.T i k : Int)) = true := by
  simp only [rowOk, List.length_map, List.length_range, decide_true, Bool.true_and, List.all_eq_true, List.mem_map, List.mem_range, Bool.and_eq_true, decide_eq_true_eq]
  rintro x ⟨k, hk, rfl⟩
  have := h.2 i k hi hk
  omega
theorem validF_of {m : Au} (h : m.wf) (hn : m.n ≤ 40) : validF (accOf m) (nxtOf m) = true := by
  have h1 : (nxtOf m).all (rowOk m.n) = true := by
    simp only [List.all_eq_true, nxtOf, List.mem_map, List.mem_range]
    rintro r ⟨i, hi, rfl⟩
    exact rowOk_of h hi
  have h0 := h.1
  have h2 : decide (1 ≤ m.n) = true := by simp; omega
  have h3 : decide (m.n ≤ 40) = true := by simpa using hn
  simp only [validF, accOf_length, nxtOf_length, h1, h2, h3, decide_true, Bool.and_self]
theorem validF_big {m : Au} (hn : 40 < m.n) : validF (accOf m) (nxtOf m) = false := by
  have : decide (m.n ≤ 40) = false := by simp; omega
  simp only [validF, accOf_length, this, Bool.and_false, Bool.false_and]
def auOf (acc : List Bool) (nxt : List (List Int)) : Au := ⟨acc.length, fun i => acc.getD i false, fun i k => ((nxt.getD i []).getD k 0).toNat⟩
/-- Valid fields are an automaton's. -/
theorem of_validF {acc : List Bool} {nxt : List (List Int)} (h : validF acc nxt = true) : (auOf acc nxt).wf ∧ (auOf acc nxt).n ≤ 40 ∧ acc = accOf (auOf acc nxt) ∧ nxt = nxtOf (auOf acc nxt) := by
  simp only [validF, Bool.and_eq_true, decide_eq_true_eq, List.all_eq_true] at h
  obtain ⟨⟨⟨h1, h2⟩, h3⟩, h4⟩ := h
  have hrow : ∀ i, i < acc.length → ∃ r, nxt[i]? = some r ∧ r.length = 3 ∧ ∀ x ∈ r, 0 ≤ x ∧ x ≤ (acc.length : Int) - 1 := fun i hi => by
    have hi' : i < nxt.length := by omega
    have := h4 _ (List.getElem_mem hi')
    simp only [rowOk, Bool.and_eq_true, decide_eq_true_eq, List.all_eq_true] at this
    exact ⟨_, List.getElem?_eq_getElem hi', this.1, this.2⟩
  refine ⟨⟨h1, fun i k hi hk => ?_⟩, h2, ?_, ?_⟩
  · obtain ⟨r, hr, hl, hx⟩ := hrow i hi
    have hk' : k < r.length := by omega
    have := hx _ (List.getElem_mem hk')
    show ((nxt.getD i []).getD k 0).toNat < acc.length
    simp only [List.getD_eq_getElem?_getD, hr, Option.getD_some, List.getElem?_eq_getElem hk']
    omega
  · apply List.ext_getElem?
    intro i
    by_cases hi : i < acc.length
    · rw [accOf_at _ (show i < acc.length from hi)]
      simp [auOf, List.getD_eq_getElem?_getD, List.getElem?_eq_getElem hi]
    · rw [List.getElem?_eq_none (by omega), List.getElem?_eq_none (by rw [accOf_length]; show acc.length ≤ i; omega)]
  · apply List.ext_getElem?
    intro i
    by_cases hi : i < acc.length
    · obtain ⟨r, hr, hl, hx⟩ := hrow i hi
      rw [nxtOf_at _ (show i < acc.length from hi), hr]
      congr 1
      apply List.ext_getElem?
      intro k
      by_cases hk : k < 3
      · have hk' : k < r.length := by omega
        have := hx _ (List.getElem_mem hk')
        simp only [auOf, List.getD_eq_getElem?_getD, hr, Option.getD_some, List.getElem?_map, List.getElem?_range hk, Option.map_some, List.getElem?_eq_getElem hk', Option.some.injEq]
        omega
      · rw [List.getElem?_eq_none (by omega), List.getElem?_eq_none (by simp; omega)]
    · rw [List.getElem?_eq_none (by omega), List.getElem?_eq_none (by rw [nxtOf_length]; show acc.length ≤ i; omega)]
/-- Automata that agree on their states have the same fields. -/
theorem fields_eq {m m' : Au} (h : m.n = m'.n ∧ ∀ i, i < m.n → m.A i = m'.A i ∧ ∀ k, k < 3 → m.T i k = m'.T i k) : accOf m = accOf m' ∧ nxtOf m = nxtOf m' := by
  unfold accOf nxtOf
  rw [← h.1]
  exact ⟨List.map_congr_left fun i hi => (h.2 i (List.mem_range.1 hi)).1, List.map_congr_left fun i hi => List.map_congr_left fun k hk => by rw [(h.2 i (List.mem_range.1 hi)).2 k (List.mem_range.1 hk)]⟩
theorem min_fields {m m' : Au} (h : Canon m) (h' : Canon m') (he : Eqv m 0 m' 0) : accOf m = accOf m' ∧ nxtOf m = nxtOf m' := fields_eq (canon_unique h h' he)
theorem Canon.wf {m : Au} (h : Canon m) : m.wf := ⟨h.pos, h.lt⟩
end Go.Proofs.Ytcdgglnlhfgghaa
