/-
  Automata of values and what they read: the run of a word. Of no function of the program.
-/
import Derived.Test.YthmfncklepkddabDoorVDfaS
import Derived.Test.YthmfncklepkddabDoorLetM
namespace Go.Proofs.YthmfncklepkddabDoor
open Go.RowKit

def auD (d : Dx) : Au := auOf d.acc d.nxt
def idxN (b : UInt8) : Nat := (letIdx b).toNat
/-- The letters' numbers. -/
def idxs (s : List UInt8) : List Nat := s.map idxN
theorem idxs_W3 {s : List UInt8} (h : s.all isLetter = true) : W3 (idxs s) := fun k hk => by
  obtain ⟨b, hb, rfl⟩ := List.mem_map.1 hk
  have := letIdx_yes (List.all_eq_true.1 h b hb)
  unfold idxN
  omega
theorem run_snoc (a : Au) (q : Nat) (u : List Nat) (k : Nat) : a.run q (u ++ [k]) = a.T (a.run q u) k := by rw [Au.run_append]; rfl
def runOk (d : Dx) (q : Int) (s : List UInt8) : Bool := validD d && decide (0 ≤ q) && decide (q ≤ (d.acc.length : Int) - 1) && isW s
def runV (d : Dx) (q : Int) (s : List UInt8) : Int := if runOk d q s then (((auD d).run q.toNat (idxs s) : Nat) : Int) else 0
def accR (d : Dx) (s : List UInt8) : Bool := runOk d 0 s && (auD d).A ((auD d).run 0 (idxs s))
/-- An automaton's cells, by its states. -/
theorem DfaV.au {w : World} {S : Nat → Prop} {va vn : Value} {d : Dx} (h : DfaV w S va vn d) (hv : validD d = true) :
    (auD d).wf ∧ (auD d).n ≤ 40 ∧ (auD d).n = d.acc.length ∧ d.nxt.length = d.acc.length ∧ ∃ ad c ad' c', va = .slice (some ad) d.acc.length c ∧ vn = .slice (some ad') d.acc.length c' ∧
      (∀ q, q < d.acc.length → w.cell? (ad.add q) = some (.bool ((auD d).A q))) ∧ ∀ q, q < d.acc.length → ∃ ad2 c2, w.cell? (ad'.add q) = some (.slice (some ad2) 3 c2) ∧ ∀ k, k < 3 → w.cell? (ad2.add k) = some (.int .i64 (((auD d).T q k : Nat) : Int)) := by
  obtain ⟨hw, hn, ha, hx⟩ := of_validF hv
  obtain ⟨⟨A, c, rfl⟩, A', c', rfl⟩ := h.shape
  have hpos : 0 < d.acc.length := hw.1
  have hl : d.nxt.length = d.acc.length := by rw [hx, nxtOf_length]; rfl
  obtain ⟨ad, rfl, -, -⟩ := h.1.boolD hpos
  obtain ⟨ad', -, rfl, -, -, -⟩ := h.2.atD (by rw [hl]; exact hpos)
  refine ⟨hw, hn, rfl, hl, ad, c, ad', c', rfl, by rw [hl], fun q hq => ?_, fun q hq => ?_⟩
  · obtain ⟨ad0, e, -, hc⟩ := h.1.boolD hq
    cases e
    exact hc
  · obtain ⟨ad0, u, e, -, hc, hr⟩ := h.2.atD (j := q) (by rw [hl]; exact hq)
    cases e
    have hrow : d.nxt.getD q [] = (List.range 3).map fun k => ((auD d).T q k : Int) := by
      have := nxtOf_at (auD d) (show q < (auD d).n from hq)
      rw [show nxtOf (auD d) = d.nxt from hx.symm] at this
      rw [List.getD_eq_getElem?_getD, this]
      rfl
    rw [hrow] at hr
    obtain ⟨-, A2, c2, rfl⟩ := hr.ints_shape
    simp only [List.length_map, List.length_range] at hr hc
    obtain ⟨ad2, rfl, -, -⟩ := hr.intD (j := 0) (by simp)
    refine ⟨ad2, c2, hc, fun k hk => ?_⟩
    obtain ⟨ad3, e, -, hc3⟩ := hr.intD (j := k) (by simpa using hk)
    cases e
    rw [hc3]
    simp [List.getD_eq_getElem?_getD, hk]
end Go.Proofs.YthmfncklepkddabDoor
