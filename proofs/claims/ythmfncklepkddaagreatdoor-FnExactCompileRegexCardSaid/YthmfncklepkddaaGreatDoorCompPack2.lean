/-
  Texts of one proof, one behind the other.
-/
import Derived.Test.YthmfncklepkddaaGreatDoorRows
import Derived.WalkKit
import Derived.WalkSpells
import Derived.WalkLawsBesides
import Derived.Lib.Hide
import Derived.IntWalk
import Derived.Deep.QuietTactic
import Derived.BigQuiet
import Derived.Deep.CutRange
import Derived.Outline
import Derived.KernelRfl
import Derived.Lib.Bytealg
import Derived.StillTailTactics
import Derived.OwnWalk
import Derived.Maps.AppendAt
import Derived.OneCell
import Derived.Laws.BitsAllLaws
import Derived.Laws.Bits64
import Derived.Lib.TrailingZeros
import Derived.WalkArith
import Derived.Shelf.Spec.TrailingZeros
import Derived.Lib.LaidTab
import Derived.LaidSub
import Derived.Test.YthmfncklepkddaaGreatDoorCompPack1

/-
  What spec.l1In answers: whether a number lies between two others.
-/
namespace Go.Proofs.YthmfncklepkddaaGreatDoor
open Go.RowKit

set_option maxRecDepth 100000 in
theorem l1In_any (x lo hi : Int) (w : World) : Calls Tryz.prog 73 #[.int .i64 x, .int .i64 lo, .int .i64 hi] w fun e w' => e = .returned (.bool (decide (lo ≤ x) && decide (x ≤ hi))) ∧ w = w' := by
  by_cases h1 : lo ≤ x
  · by_cases h2 : x ≤ hi
    · go_enter Tryz.func73, Tryz.ntmps73
      go_wp2
      go_ret
      exact ⟨by simp [h1, h2], rfl⟩
    · go_enter Tryz.func73, Tryz.ntmps73
      go_wp2
      go_ret
      exact ⟨by simp [h2], rfl⟩
  · have h1' : decide (lo ≤ x) = false := by simpa using h1
    go_enter Tryz.func73, Tryz.ntmps73
    go_wp2
    go_ret
    exact ⟨by simp, rfl⟩
set_option maxRecDepth 100000 in
theorem l1In_yes (x lo hi : Int) (w : World) (h : lo ≤ x ∧ x ≤ hi) : Calls Tryz.prog 73 #[.int .i64 x, .int .i64 lo, .int .i64 hi] w fun e w' => e = .returned (.bool true) ∧ w = w' :=
  (l1In_any x lo hi w).mono fun _ _ ⟨he, hw⟩ => ⟨by rw [he]; simp [h.1, h.2], hw⟩
set_option maxRecDepth 100000 in
theorem l1In_no (x lo hi : Int) (w : World) (h : ¬ (lo ≤ x ∧ x ≤ hi)) : Calls Tryz.prog 73 #[.int .i64 x, .int .i64 lo, .int .i64 hi] w fun e w' => e = .returned (.bool false) ∧ w = w' :=
  (l1In_any x lo hi w).mono fun _ _ ⟨he, hw⟩ => ⟨by rw [he]; congr 2; simpa using h, hw⟩
end Go.Proofs.YthmfncklepkddaaGreatDoor

/-
  What spec.IsValidDfa answers.
-/
namespace Go.Proofs.YthmfncklepkddaaGreatDoor
open Go.RowKit

def validD (d : Dx) : Bool := validF d.acc d.nxt
theorem getD_at {α : Type} {l : List α} {x : α} {j : Nat} (hj : j < l.length) : l.getD j x = l[j] := by rw [List.getD_eq_getElem?_getD, List.getElem?_eq_getElem hj]; rfl
theorem validD_no {d : Dx} {j : Nat} (hj : j < d.nxt.length) (h : rowOk d.acc.length (d.nxt.getD j []) = false) : validD d = false := by
  rw [getD_at hj] at h
  have : d.nxt.all (rowOk d.acc.length) = false := by
    rw [Bool.eq_false_iff]
    intro ht
    have := List.all_eq_true.1 ht _ (List.getElem_mem hj)
    rw [h] at this
    cases this
  simp [validD, validF, this]
theorem validD_yes {d : Dx} (h1 : 1 ≤ d.acc.length) (h2 : d.acc.length ≤ 40) (h3 : d.nxt.length = d.acc.length) (h : ∀ j, j < d.nxt.length → rowOk d.acc.length (d.nxt.getD j []) = true) : validD d = true := by
  have : d.nxt.all (rowOk d.acc.length) = true := by
    rw [List.all_eq_true]
    intro r hr
    obtain ⟨j, hj, rfl⟩ := List.getElem_of_mem hr
    have := h j hj
    rwa [getD_at hj] at this
  simp [validD, validF, this, h1, h2, h3]
theorem rowOk_no {n : Nat} {r : List Int} (h : r.length ≠ 3) : rowOk n r = false := by simp [rowOk, h]
theorem rowOk_bad {n : Nat} {r : List Int} {k : Nat} (hk : k < r.length) (h : ¬ (0 ≤ r.getD k 0 ∧ r.getD k 0 ≤ (n : Int) - 1)) : rowOk n r = false := by
  rw [getD_at hk] at h
  have : (r.all fun x => decide (0 ≤ x) && decide (x ≤ (n : Int) - 1)) = false := by
    rw [Bool.eq_false_iff]
    intro ht
    have := List.all_eq_true.1 ht _ (List.getElem_mem hk)
    simp at this
    exact h this
  simp only [rowOk, this, Bool.and_false]
theorem rowOk_yes {n : Nat} {r : List Int} (h : r.length = 3) (h' : ∀ k, k < r.length → 0 ≤ r.getD k 0 ∧ r.getD k 0 ≤ (n : Int) - 1) : rowOk n r = true := by
  simp only [rowOk, h, decide_true, Bool.true_and, List.all_eq_true, Bool.and_eq_true, decide_eq_true_eq]
  intro x hx
  obtain ⟨k, hk, rfl⟩ := List.getElem_of_mem hx
  have := h' k hk
  rwa [getD_at hk] at this

set_option maxRecDepth 100000 in
set_option maxHeartbeats 1600000 in
theorem specValidD_any (va vn : Value) (d : Dx) (S : Nat → Prop) (w : World) (h : DfaV w S va vn d) :
    Calls Tryz.prog 120 #[.agg #[va, vn]] w fun e w' => e = .returned (.bool (validD d)) ∧ Below w.heap.size w w' := by
  obtain ⟨⟨A, c, rfl⟩, A', c', rfl⟩ := h.shape
  obtain ⟨W0, hW0⟩ : ∃ W0, W0 = w.alloc (.cells #[.slice A d.acc.length c, .slice A' d.nxt.length c'] 31) := ⟨_, rfl⟩
  have HB : Hid (Below w.heap.size w W0) := Lib.hid (by rw [hW0]; exact (Below.refl _ _).alloc (Nat.le_refl _) _)
  have hx := box2_kept (w := w) (w1 := W0) (a := .slice A d.acc.length c) (b := .slice A' d.nxt.length c') (t := 31) (by rw [hW0]; exact Below.refl _ _)
  obtain ⟨-, c0, c1, -, -⟩ := hx
  have HE := Lib.hid (h.2.kept (w' := W0) (by rw [hW0]; exact (Below.refl _ _).alloc (Nat.le_refl _) _))
  have hln := h.1.1
  rw [bools_length] at hln
  clear h
  obtain ⟨n, hn⟩ : ∃ n, n = d.acc.length := ⟨_, rfl⟩
  obtain ⟨m, hm⟩ : ∃ m, m = d.nxt.length := ⟨_, rfl⟩
  obtain ⟨R, hR⟩ : ∃ R : Nat → List Int, R = fun j => d.nxt.getD j [] := ⟨_, rfl⟩
  have HNo : Hid (∀ j, j < m → rowOk n (R j) = false → validD d = false) := Lib.hid (fun j hj h => validD_no (j := j) (by rw [← hm]; exact hj) (by rw [← hn]; rw [hR] at h; exact h))
  have HYes : Hid (1 ≤ n → n ≤ 40 → m ≤ n → n ≤ m → (∀ j, j < m → rowOk n (R j) = true) → validD d = true) := Lib.hid (fun h1 h2 h3 h4 h => validD_yes (by omega) (by omega) (by omega) (fun j hj => by rw [← hn]; have := h j (by omega); rw [hR] at this; exact this))
  have HAt : Hid (∀ j, j < m → ∃ ad u, A' = some ad ∧ S ad.block ∧ W0.cell? (ad.add j) = some u ∧ RowV W0 S u (ints (R j))) := Lib.hid (fun j hj => by rw [hR]; exact HE.out.atD (j := j) (by rw [← hm]; exact hj))
  rw [← hn] at hW0 c0 hln
  rw [← hm] at hW0 c1
  rw [← hn, ← hm]
  have HV1 : Hid (¬ (1 ≤ n ∧ n ≤ 40) → validD d = false) := Lib.hid (fun h => by
    have : ¬ (1 ≤ d.acc.length ∧ d.acc.length ≤ 40) := by rw [← hn]; exact h
    simp only [validD, validF]
    by_cases h1 : 1 ≤ d.acc.length
    · have h2 : decide (d.acc.length ≤ 40) = false := decide_eq_false (by omega)
      simp [h2]
    · have h2 : decide (1 ≤ d.acc.length) = false := decide_eq_false (by omega)
      simp [h2])
  have HV2 : Hid (m ≠ n → validD d = false) := Lib.hid (fun h => by
    have h2 : decide (d.nxt.length = d.acc.length) = false := decide_eq_false (by omega)
    simp [validD, validF, h2])
  obtain ⟨vd, hvd⟩ : ∃ vd, vd = validD d := ⟨_, rfl⟩
  rw [← hvd] at HNo HYes HV1 HV2 ⊢
  clear hn hm hR hvd HE
  go_enter Tryz.func120, Tryz.ntmps120
  by_cases h1 : 1 ≤ n ∧ n ≤ 40
  · have HI := Lib.hid (l1In_yes (n : Int) 1 40 W0 (by omega))
    go_wp2_with fail
    rw [← hW0]
    go_at_call 73
    refine HI.out.mono ?_
    rintro e w1 ⟨rfl, rfl⟩
    clear hW0
    by_cases h2 : m = n
    · subst h2
      have hne : ((m : Int) != (m : Int)) = false := by simp
      go_wp2_with fail
      clear hne
      go_loopw [4] (fun i wr => ∃ q : Nat, i = .int .i64 q ∧ q ≤ m ∧ wr = W0 ∧ ∀ j, j < q → rowOk m (R j) = true) (fun i _ => m - (intOf i).toNat)
      case atStart => exact ⟨0, rfl, Nat.zero_le _, rfl, fun j hj => absurd hj (Nat.not_lt_zero _)⟩
      case round =>
        obtain ⟨q, rfl, hq, rfl, hall⟩ := hrel
        have HAll := Lib.hid hall
        clear hall
        by_cases hlt : q < m
        · obtain ⟨ad, u, rfl, -, hc, hr⟩ := HAt.out q hlt
          obtain ⟨hrl, Ar, cr, rfl⟩ := hr.ints_shape
          have HR := Lib.hid hr
          obtain ⟨r, hr⟩ : ∃ r, r = R q := ⟨_, rfl⟩
          rw [← hr] at HR hc hrl
          have HRe := Lib.hid hr
          clear hr
          by_cases h3 : r.length = 3
          · have h3i : ((r.length : Int) != 3) = false := by simp; omega
            have H3 := Lib.hid h3
            clear h3
            go_wp2_with fail
            clear h3i
            go_loopw [5] (fun i wr' => ∃ k : Nat, i = .int .i64 k ∧ k ≤ r.length ∧ wr' = wr ∧ ∀ j, j < k → 0 ≤ r.getD j 0 ∧ r.getD j 0 ≤ (m : Int) - 1) (fun i _ => r.length - (intOf i).toNat)
            case atStart => exact ⟨0, rfl, Nat.zero_le _, rfl, fun j hj => absurd hj (Nat.not_lt_zero _)⟩
            case round =>
              obtain ⟨k, rfl, hk, rfl, hall⟩ := hrel
              have HAl2 := Lib.hid hall
              clear hall
              by_cases hlk : k < r.length
              · obtain ⟨ad2, rfl, -, hc2⟩ := HR.out.intD hlk
                obtain ⟨x, hx⟩ : ∃ x, x = r.getD k 0 := ⟨_, rfl⟩
                rw [← hx] at hc2
                by_cases hin : 0 ≤ x ∧ x ≤ (m : Int) - 1
                · have HI2 := Lib.hid (fun w => l1In_yes x 0 ((m : Int) - 1) w hin)
                  have HX : Hid (0 ≤ r.getD k 0 ∧ r.getD k 0 ≤ (m : Int) - 1) := Lib.hid (by rw [← hx]; exact hin)
                  clear hx hin
                  go_wp2_with fail
                  go_at_call 73
                  refine (HI2.out _).mono ?_
                  rintro e w2 ⟨rfl, rfl⟩
                  go_wp2_with fail
                  go_roundw
                  case rel => exact ⟨k + 1, by go_num, by omega, by first | rfl | trivial, fun j hj => by
                    by_cases e : j = k
                    · rw [e]; exact HX.out
                    · exact HAl2.out j (by omega)⟩
                  case measure => simp [intOf]; omega
                · have HI2 := Lib.hid (fun w => l1In_no x 0 ((m : Int) - 1) w hin)
                  have HF : Hid (vd = false) := Lib.hid (HNo.out q hlt (rowOk_bad (k := k) (by rw [← HRe.out]; exact hlk) (by rw [← HRe.out, ← hx]; exact hin)))
                  clear hx hin
                  go_wp2_with fail
                  go_at_call 73
                  refine (HI2.out _).mono ?_
                  rintro e w2 ⟨rfl, rfl⟩
                  go_wp2_with fail
                  go_ret
                  exact ⟨congrArg (fun b : Bool => Ending.returned (.bool b)) HF.out.symm, HB.out⟩
              · have hd : decide ((k : Int) < (r.length : Int)) = false := by simp; omega
                have HOk : Hid (rowOk m (R q) = true) := Lib.hid (by rw [← HRe.out]; exact rowOk_yes H3.out (fun j hj => HAl2.out j (by omega)))
                go_wp2_with fail
                go_roundw
                case rel => exact ⟨q + 1, by go_num, by omega, by first | rfl | trivial, fun j hj => by
                  by_cases e : j = q
                  · rw [e]; exact HOk.out
                  · exact HAll.out j (by omega)⟩
                case measure => simp [intOf]; omega
          · have h3i : ((r.length : Int) != 3) = true := by simp; omega
            have HF : Hid (vd = false) := Lib.hid (HNo.out q hlt (rowOk_no (by rw [← HRe.out]; exact h3)))
            clear h3
            go_wp2_with fail
            go_ret
            exact ⟨congrArg (fun b : Bool => Ending.returned (.bool b)) HF.out.symm, HB.out⟩
        · obtain rfl : q = m := by omega
          have hd : decide ((q : Int) < (q : Int)) = false := by simp
          have HF : Hid (vd = true) := Lib.hid (HYes.out h1.1 h1.2 (Nat.le_refl _) (Nat.le_refl _) HAll.out)
          go_wp2_with fail
          go_ret
          exact ⟨congrArg (fun b : Bool => Ending.returned (.bool b)) HF.out.symm, HB.out⟩
    · have hne : ((m : Int) != (n : Int)) = true := by simp; omega
      have HF : Hid (vd = false) := Lib.hid (HV2.out h2)
      clear h2
      go_wp2_with fail
      go_ret
      exact ⟨congrArg (fun b : Bool => Ending.returned (.bool b)) HF.out.symm, HB.out⟩
  · have HI := Lib.hid (l1In_no (n : Int) 1 40 W0 (by omega))
    have HF : Hid (vd = false) := Lib.hid (HV1.out h1)
    clear h1
    go_wp2_with fail
    rw [← hW0]
    go_at_call 73
    refine HI.out.mono ?_
    rintro e w1 ⟨rfl, rfl⟩
    clear hW0
    go_wp2_with fail
    go_ret
    exact ⟨congrArg (fun b : Bool => Ending.returned (.bool b)) HF.out.symm, HB.out⟩
end Go.Proofs.YthmfncklepkddaaGreatDoor

/-
  What spec.l5Find and spec.l5Same answer: where a number stands in a list; whether two states are in one class and go to the same classes.
  What spec.l5Classes answers: each state's class, by its first state.
-/
namespace Go.Proofs.YthmfncklepkddaaGreatDoor
open Go.RowKit

/-- Where a number stands, or -1. -/
def findV (l : List Int) (x : Int) : Int := if x ∈ l then ((l.idxOf x : Nat) : Int) else -1
theorem findV_no {l : List Int} {x : Int} (h : ∀ j, j < l.length → l.getD j 0 ≠ x) : findV l x = -1 := by
  unfold findV
  rw [if_neg]
  intro hx
  obtain ⟨j, hj, rfl⟩ := List.getElem_of_mem hx
  exact h j hj (getD_at hj)
theorem findV_at {l : List Int} {x : Int} {j : Nat} (hj : j < l.length) (h : l.getD j 0 = x) (hlt : ∀ i, i < j → l.getD i 0 ≠ x) : findV l x = (j : Int) := by
  rw [getD_at hj] at h
  unfold findV
  have hm : x ∈ l := by rw [← h]; exact List.getElem_mem hj
  rw [if_pos hm]
  have h1 := List.idxOf_lt_length_of_mem hm
  have h2 : l[l.idxOf x] = x := List.getElem_idxOf h1
  have h3 : l.idxOf x ≤ j := by
    apply Classical.byContradiction
    intro hn
    have : l.take (j + 1) ++ l.drop (j + 1) = l := List.take_append_drop _ _
    have hmem : x ∈ l.take (j + 1) := by
      rw [← h]
      exact List.mem_take_iff_getElem.2 ⟨j, by omega, rfl⟩
    have h4 : l.idxOf x = (l.take (j + 1)).idxOf x := by
      conv => lhs; rw [← this]
      rw [List.idxOf_append, if_pos hmem]
    have h5 := List.idxOf_lt_length_of_mem hmem
    rw [List.length_take] at h5
    omega
  rcases Nat.lt_or_eq_of_le h3 with hl | he
  · have := hlt _ hl
    rw [getD_at h1] at this
    exact absurd h2 this
  · rw [he]

/-- An automaton's own fields, and their cells. -/
def fieldsOf (a : Au) : Dx := ⟨accOf a, nxtOf a⟩
theorem DfaV.cells {w : World} {S : Nat → Prop} {va vn : Value} {a : Au} (h : DfaV w S va vn (fieldsOf a)) (hp : 0 < a.n) :
    ∃ ad c ad' c', va = .slice (some ad) a.n c ∧ vn = .slice (some ad') a.n c' ∧ a.n ≤ 9223372036854775807 ∧
      (∀ q, q < a.n → w.cell? (ad.add q) = some (.bool (a.A q))) ∧ ∀ q, q < a.n → ∃ ad2 c2, w.cell? (ad'.add q) = some (.slice (some ad2) 3 c2) ∧ ∀ k, k < 3 → w.cell? (ad2.add k) = some (.int .i64 ((a.T q k : Nat) : Int)) := by
  have hl := h.1.1
  rw [bools_length] at hl
  obtain ⟨⟨A, c, rfl⟩, A', c', rfl⟩ := h.shape
  have e1 : (fieldsOf a).acc.length = a.n := accOf_length a
  have e2 : (fieldsOf a).nxt.length = a.n := nxtOf_length a
  obtain ⟨ad, rfl, -, -⟩ := h.1.boolD (j := 0) (by rw [e1]; exact hp)
  obtain ⟨ad', -, rfl, -, -, -⟩ := h.2.atD (j := 0) (by rw [e2]; exact hp)
  refine ⟨ad, c, ad', c', by rw [e1], by rw [e2], by rw [← e1]; exact hl, fun q hq => ?_, fun q hq => ?_⟩
  · obtain ⟨ad0, e, -, hc⟩ := h.1.boolD (j := q) (by rw [e1]; exact hq)
    cases e
    rw [hc]
    simp [fieldsOf, List.getD_eq_getElem?_getD, accOf_at a hq]
  · obtain ⟨ad0, u, e, -, hc, hr⟩ := h.2.atD (j := q) (by rw [e2]; exact hq)
    cases e
    have hrow : (fieldsOf a).nxt.getD q [] = (List.range 3).map fun k => (a.T q k : Int) := by
      simp [fieldsOf, List.getD_eq_getElem?_getD, nxtOf_at a hq]
    rw [hrow] at hr
    obtain ⟨-, A2, c2, rfl⟩ := hr.ints_shape
    simp only [List.length_map, List.length_range] at hr hc
    obtain ⟨ad2, rfl, -, -⟩ := hr.intD (j := 0) (by simp)
    refine ⟨ad2, c2, hc, fun k hk => ?_⟩
    obtain ⟨ad3, e, -, hc3⟩ := hr.intD (j := k) (by simpa using hk)
    cases e
    rw [hc3]
    simp [List.getD_eq_getElem?_getD, hk]
/-- The classes as a row. -/
def clsRow (n : Nat) (c : Nat → Nat) : List Int := (List.range n).map fun q => (c q : Int)
theorem clsRow_length (n : Nat) (c : Nat → Nat) : (clsRow n c).length = n := by simp [clsRow]
theorem RowV.cls {w : World} {S : Nat → Prop} {v : Value} {n : Nat} {c : Nat → Nat} (h : RowV w S v (ints (clsRow n c))) (hn : 0 < n) : ∃ ad m, v = .slice (some ad) n m ∧ ∀ q, q < n → w.cell? (ad.add q) = some (.int .i64 (c q : Int)) := by
  obtain ⟨-, A, m, rfl⟩ := h.ints_shape
  obtain ⟨ad, rfl, -, -⟩ := h.intD (j := 0) (by rw [clsRow_length]; exact hn)
  refine ⟨ad, m, by rw [clsRow_length], fun q hq => ?_⟩
  obtain ⟨ad2, e, -, hc⟩ := h.intD (j := q) (by rw [clsRow_length]; exact hq)
  cases e
  rw [hc]
  simp [clsRow, List.getD_eq_getElem?_getD, hq]

/-- How far two states have been found the same. -/
def sameK (a : Au) (c : Nat → Nat) (p q : Nat) (j : Nat) : Bool := decide (c p = c q) && ((List.range j).all fun k => decide (c (a.T p k) = c (a.T q k)))
theorem sameK_zero (a : Au) (c : Nat → Nat) (p q : Nat) : sameK a c p q 0 = decide (c p = c q) := by simp [sameK]
theorem sameK_succ (a : Au) (c : Nat → Nat) (p q j : Nat) : sameK a c p q (j + 1) = (sameK a c p q j && decide (c (a.T p j) = c (a.T q j))) := by simp [sameK, List.range_succ, List.all_append, Bool.and_assoc]
theorem eq_cast (x y : Nat) : ((x : Int) == (y : Int)) = decide (x = y) := by
  rw [Bool.eq_iff_iff]
  simp
  omega

end Go.Proofs.YthmfncklepkddaaGreatDoor

namespace Go.Proofs.YthmfncklepkddaaGreatDoor
open Go.RowKit

def clsV (a : Au) (r : Nat) : Nat → Value := fun q => .int .i64 ((cls a r q : Nat) : Int)
theorem ints_cls (a : Au) (r n : Nat) : ints (clsRow n (cls a r)) = (List.range n).map (clsV a r) := by simp [ints, clsRow, clsV, Function.comp_def]
theorem made_ints (n : Nat) : (madeCells (Value.cells (.int .i64 0)) (n * 1)).toList = List.replicate n (.int .i64 0) := by
  unfold madeCells
  apply List.ext_getElem
  · simp
  · intro i h1 h2
    simp
    simp [Value.cells, Nat.mod_one]
/-- A row just made. -/
theorem made_row_o {w w1 : World} {n : Nat} {T : TypeId} (hown : w1.ownsRow w.heap.size T 1 (.slice (some ⟨w.heap.size, 0, none⟩) n n) n (madeCells (Value.cells (.int .i64 0)) (n * 1)).toList) (hgr : w.grownBy w1 none) (hn : n ≤ 9223372036854775807) (f : Nat → Value) :
    RowO w1 (fun g => g = w.heap.size) (.slice (some ⟨w.heap.size, 0, none⟩) n n) ((List.range 0).map f ++ (List.replicate n (.int .i64 0 : Value)).drop 0) ∧ Below w.heap.size w w1 ∧ w.heap.size < w1.heap.size := by
  have hlt : w.heap.size < w1.heap.size := by
    rcases hown.2 with ⟨e, _⟩ | ⟨g, cap, cur, e, _, hh, _⟩
    · cases e
    · cases e
      exact (Array.getElem?_eq_some_iff.1 hh).1
  refine ⟨?_, ⟨hgr.os, hgr.tape, hgr.output, hgr.size, fun k hk => hgr.block k hk (fun e => by cases e)⟩, hlt⟩
  have h1 := RowO.of_owns hown hn
  rw [made_ints] at h1
  exact h1.mono (fun _ _ => rfl) (fun g hg => by simp [Value.ownBlock] at hg; exact hg.symm)
theorem set_zero (f : Nat → Value) (n j : Nat) (hj : j < n) : ((List.range j).map f ++ (List.replicate n (.int .i64 0 : Value)).drop j).set j (f j) = (List.range (j + 1)).map f ++ (List.replicate n (.int .i64 0 : Value)).drop (j + 1) := set_step f _ j (by simpa using hj)
theorem zero_step (f : Nat → Value) (n j : Nat) (hj : j < n) (h : f j = .int .i64 0) : (List.range j).map f ++ (List.replicate n (.int .i64 0 : Value)).drop j = (List.range (j + 1)).map f ++ (List.replicate n (.int .i64 0 : Value)).drop (j + 1) := by
  have e := List.drop_eq_getElem_cons (l := List.replicate n (.int .i64 0 : Value)) (i := j) (by simpa using hj)
  rw [e, List.range_succ, List.map_append, List.append_assoc]
  simp [h]
theorem zero_all (f : Nat → Value) (n : Nat) : (List.range n).map f ++ (List.replicate n (.int .i64 0 : Value)).drop n = (List.range n).map f := by
  rw [List.drop_eq_nil_of_le (by simp), List.append_nil]

end Go.Proofs.YthmfncklepkddaaGreatDoor

/-
  Slices of strings in rows of the call's own: words and small steps that walks over such rows take.
-/
namespace Go.Proofs.YthmfncklepkddaaGreatDoor
open Go.RowKit

/-- Strings as a row's cells. -/
def strs (ps : List (List UInt8)) : List Value := ps.map fun p => .string ⟨p.toArray⟩
theorem strs_append (a b : List (List UInt8)) : strs (a ++ b) = strs a ++ strs b := by simp [strs]
theorem strs_length (a : List (List UInt8)) : (strs a).length = a.length := by simp [strs]
theorem strInfo : (Tryz.prog.info? 9).map (fun i => (i.zero, i.size, i.bytes)) = some (some (.string ⟨#[]⟩), 1, 16) := by kernel_rfl

/-- A slice of strings in a row of its own, from block B on. -/
def SplPost (ps : List (List UInt8)) (w : World) (e : Ending) (w' : World) : Prop :=
  ∃ v, e = .returned v ∧ w'.ownsRow w.heap.size 9 1 v ps.length (strs ps) ∧ Below w.heap.size w w'

theorem newCell (wr : World) (t : TypeId) (x : ByteArray) : ∀ j u, [Value.string x][j]? = some u → (wr.alloc (.cells #[.string x] t)).cell? ((⟨wr.heap.size, 0, none⟩ : Addr).add j) = some u := by
  intro j u hj
  match j, hj with
  | 0, hj => simp at hj; subst hj; simp [Addr.add]
theorem oneCell_str (x : ByteArray) : ∀ u ∈ [Value.string x], u.oneCell' = true := by
  intro u hu
  simp at hu
  subst hu
  rfl
theorem extract_str (s : ByteArray) (f k : Nat) : s.extract f k = ⟨((s.data.toList.drop f).take (k - f)).toArray⟩ := by
  cases s with | mk d =>
  apply ByteArray.ext
  apply Array.toList_inj.1
  simp

/-- One piece more. -/
theorem grow_strs {wr w1 w : World} {B : Nat} {v v' : Value} {P : List (List UInt8)} {x : ByteArray} {p : List UInt8} {o : Obj} (hx : x = ⟨p.toArray⟩) (hown : wr.ownsRow B 9 1 v P.length (strs P)) (hb : Below B w wr) (hB : B ≤ wr.heap.size)
    (hown' : w1.ownsRow B 9 1 v' (P.length + 1) (strs P ++ [.string x])) (hg : (wr.alloc o).grownBy w1 v.ownBlock) :
    w1.ownsRow B 9 1 v' (P ++ [p]).length (strs (P ++ [p])) ∧ Below B w w1 := by
  refine ⟨?_, (hb.alloc hB o).grown hg (by simp; omega) (fun k hk => (hown.lt k hk).1)⟩
  rw [strs_append, List.length_append]
  subst hx
  exact hown'

/-- A row of the call's own: a slice without elements, or a row in a block. -/
theorem own_cases {w : World} {B : Nat} {v : Value} {n : Nat} {xs : List Value} (h : w.ownsRow B 9 1 v n xs) :
    (n = 0 ∧ ∃ A c, v = .slice A 0 c) ∨ ∃ g c, v = .slice (some ⟨g, 0, none⟩) n c := by
  rcases h.2 with ⟨rfl, h0⟩ | ⟨g, cap, cur, rfl, _⟩
  · exact .inl ⟨h0, none, 0, rfl⟩
  · exact .inr ⟨g, cap, rfl⟩
/-- A row of the call's own, from an earlier block on. -/
theorem own_lower {w : World} {B B' n : Nat} {e : TypeId} {size : Nat} {v : Value} {xs : List Value} (h : w.ownsRow B e size v n xs) (hB : B' ≤ B) : w.ownsRow B' e size v n xs := by
  refine ⟨h.1, ?_⟩
  rcases h.2 with h0 | ⟨g, cap, cur, h1, h2, h3⟩
  · exact .inl h0
  · exact .inr ⟨g, cap, cur, h1, Nat.le_trans hB h2, h3⟩
theorem grown_of_below {w w' : World} (h : Below w.heap.size w w') (row : Option Nat) : w.grownBy w' row := ⟨h.os, h.tape, h.output, h.size, fun k hk _ => h.block k hk⟩
theorem grown_trans {a b c : World} {row : Option Nat} (h : a.grownBy b row) (k : b.grownBy c row) : a.grownBy c row :=
  ⟨k.os.trans h.os, k.tape.trans h.tape, k.output.trans h.output, Nat.le_trans h.size k.size, fun i hi hne => (k.block i (Nat.lt_of_lt_of_le hi h.size) hne).trans (h.block i hi hne)⟩
/-- A row of the call's own over calls that turn nothing old, and over a writing into another block. -/
theorem owns_below {w w' : World} {B : Nat} {e : TypeId} {size n : Nat} {v : Value} {xs : List Value} (h : w.ownsRow B e size v n xs) (hb : Below w.heap.size w w') : w'.ownsRow B e size v n xs :=
  h.kept (grown_of_below hb none) (by cases hv : v.ownBlock <;> simp)
end Go.Proofs.YthmfncklepkddaaGreatDoor

/-
  Plain facts on words over three letters, of no program: all words of a length, the next word, the order; each word is followed by its next one.
-/
namespace Go.Proofs.YthmfncklepkddaaGreatDoor

def letters : List UInt8 := [97, 98, 99]
/-- All words of n letters, in order. -/
def wordsOf : Nat → List (List UInt8)
  | 0 => [[]]
  | n + 1 => (wordsOf n).flatMap fun w => letters.map fun b => w ++ [b]
/-- All words of at most n letters. -/
def wordsTo : Nat → List (List UInt8)
  | 0 => wordsOf 0
  | n + 1 => wordsTo n ++ wordsOf (n + 1)
def isLetter (b : UInt8) : Bool := decide (97 ≤ b.toNat) && decide (b.toNat ≤ 99)
def isW (l : List UInt8) : Bool := l.all isLetter && decide (l.length ≤ 30)
/-- The next word, the last letter ahead. -/
def bump : List UInt8 → Option (List UInt8)
  | [] => none
  | b :: r => if b.toNat < 99 then some (UInt8.ofNat (b.toNat + 1) :: r) else (bump r).map (97 :: ·)
def nextW (l : List UInt8) : List UInt8 :=
  if isW l then
    match bump l.reverse with
    | some r => r.reverse
    | none => if l.length + 1 ≤ 30 then List.replicate (l.length + 1) 97 else []
  else []
/-- The order: shorter first, then byte by byte. -/
def lessB : List UInt8 → List UInt8 → Bool
  | [], [] => false
  | [], _ :: _ => true
  | _ :: _, [] => false
  | a :: r, b :: s => if a.toNat < b.toNat then true else if b.toNat < a.toNat then false else lessB r s
def cmpW (a b : List UInt8) : Int :=
  if a.length < b.length then -1 else if b.length < a.length then 1 else if lessB a b then -1 else if lessB b a then 1 else 0

theorem lessB_asymm : ∀ a b, lessB a b = true → lessB b a = false
  | [], [], h => by simp [lessB] at h
  | [], _ :: _, _ => rfl
  | _ :: _, [], h => by simp [lessB] at h
  | a :: r, b :: s, h => by
    unfold lessB at h ⊢
    by_cases h1 : a.toNat < b.toNat
    · rw [if_neg (by omega), if_pos h1]
    · rw [if_neg h1] at h
      by_cases h2 : b.toNat < a.toNat
      · rw [if_pos h2] at h
        cases h
      · rw [if_neg h2] at h
        rw [if_neg h2, if_neg h1]
        exact lessB_asymm r s h
theorem less_eq : ∀ a b, Op.bytesLess a b = lessB a b
  | [], [] => rfl
  | [], _ :: _ => rfl
  | _ :: _, [] => rfl
  | a :: r, b :: s => by
    unfold Op.bytesLess lessB
    rw [less_eq r s]
    by_cases h1 : a.toNat < b.toNat
    · rw [if_pos h1]
      simp [UInt8.lt_iff_toNat_lt, h1]
    · rw [if_neg h1]
      by_cases h2 : b.toNat < a.toNat
      · rw [if_pos h2]
        have hne : a ≠ b := fun e => by rw [e] at h2; omega
        simp [UInt8.lt_iff_toNat_lt, h1, hne]
      · rw [if_neg h2]
        have he : a = b := UInt8.toNat_inj.1 (by omega)
        subst he
        simp
theorem lessB_total : ∀ a b, lessB a b = false → lessB b a = false → a = b
  | [], [], _, _ => rfl
  | [], _ :: _, h, _ => by simp [lessB] at h
  | _ :: _, [], _, h => by simp [lessB] at h
  | a :: r, b :: s, h, h' => by
    unfold lessB at h h'
    by_cases h1 : a.toNat < b.toNat
    · rw [if_pos h1] at h; cases h
    · by_cases h2 : b.toNat < a.toNat
      · rw [if_pos h2] at h'; cases h'
      · rw [if_neg h1, if_neg h2] at h
        rw [if_neg h2, if_neg h1] at h'
        have he : a = b := UInt8.toNat_inj.1 (by omega)
        rw [he, lessB_total r s h h']
theorem cmpW_neg (a b : List UInt8) : cmpW a b = 0 - cmpW b a := by
  unfold cmpW
  by_cases h1 : a.length < b.length
  · rw [if_pos h1, if_neg (by omega), if_pos h1]
    rfl
  · rw [if_neg h1]
    by_cases h2 : b.length < a.length
    · rw [if_pos h2, if_pos h2]
      rfl
    · rw [if_neg h2, if_neg h2, if_neg h1]
      cases ha : lessB a b with
      | true => rw [lessB_asymm a b ha]; rfl
      | false =>
        cases hb : lessB b a with
        | true => rfl
        | false => rfl

/-- Each word of the list comes before the one behind it, and is followed by it. -/
def stepsOk : List (List UInt8) → Bool
  | a :: b :: r => decide (cmpW a b = -1) && (nextW a == b) && stepsOk (b :: r)
  | _ => true
theorem stepsOk_at : ∀ (l : List (List UInt8)) (k : Nat) (a b : List UInt8), stepsOk l = true → l[k]? = some a → l[k + 1]? = some b → cmpW a b = -1 ∧ nextW a = b
  | x :: y :: r, 0, a, b, h, ha, hb => by
    simp at ha hb
    subst ha hb
    simp only [stepsOk, Bool.and_eq_true, decide_eq_true_eq, beq_iff_eq] at h
    exact ⟨h.1.1, h.1.2⟩
  | x :: y :: r, k + 1, a, b, h, ha, hb => by
    simp only [stepsOk, Bool.and_eq_true] at h
    exact stepsOk_at (y :: r) k a b h.2 (by simpa using ha) (by simpa using hb)
  | [x], k, a, b, _, ha, hb => by
    cases k <;> simp at hb
  | [], k, a, b, _, ha, _ => by simp at ha
theorem words_ok : ((List.range 6).all fun n => stepsOk (wordsTo n)) = true := by decide +kernel
theorem wordsOf_length : ∀ n, (wordsOf n).length = 3 ^ n
  | 0 => rfl
  | n + 1 => by
    unfold wordsOf
    rw [List.length_flatMap]
    simp [letters, Nat.pow_succ, List.map_const', wordsOf_length n]
end Go.Proofs.YthmfncklepkddaaGreatDoor

/-
  Letters and words: places, and what makes a word. Of no function of the program.
-/
namespace Go.Proofs.YthmfncklepkddaaGreatDoor
open Go.RowKit

/-- The place of a letter, or -1. -/
def letIdx (b : UInt8) : Int := if b = 97 then 0 else if b = 98 then 1 else if b = 99 then 2 else -1

theorem letIdx_lib (b : UInt8) : Lib.indexByte [97, 98, 99] b = letIdx b := by
  unfold letIdx
  by_cases h0 : b = 97
  · subst h0; rfl
  · by_cases h1 : b = 98
    · subst h1; rfl
    · by_cases h2 : b = 99
      · subst h2; rfl
      · rw [if_neg h0, if_neg h1, if_neg h2]
        have e0 : ¬ (97 = b) := fun e => h0 e.symm
        have e1 : ¬ (98 = b) := fun e => h1 e.symm
        have e2 : ¬ (99 = b) := fun e => h2 e.symm
        simp [Lib.indexByte, e0, e1, e2]


theorem letIdx_yes {b : UInt8} (h : isLetter b = true) : letIdx b = (b.toNat : Int) - 97 ∧ 97 ≤ b.toNat ∧ b.toNat ≤ 99 := by
  simp only [isLetter, Bool.and_eq_true, decide_eq_true_eq] at h
  refine ⟨?_, h.1, h.2⟩
  unfold letIdx
  by_cases h0 : b = 97
  · rw [if_pos h0, h0]; rfl
  · by_cases h1 : b = 98
    · rw [if_neg h0, if_pos h1, h1]; rfl
    · have h2 : b = 99 := by
        have n0 : b.toNat ≠ 97 := fun e => h0 (UInt8.toNat_inj.1 e)
        have n1 : b.toNat ≠ 98 := fun e => h1 (UInt8.toNat_inj.1 e)
        exact UInt8.toNat_inj.1 (show b.toNat = 99 by omega)
      rw [if_neg h0, if_neg h1, if_pos h2, h2]; rfl
theorem letIdx_no {b : UInt8} (h : isLetter b = false) : letIdx b = -1 := by
  have n : b.toNat ≠ 97 ∧ b.toNat ≠ 98 ∧ b.toNat ≠ 99 := by
    refine ⟨fun e => ?_, fun e => ?_, fun e => ?_⟩ <;> simp [isLetter, e] at h
  unfold letIdx
  rw [if_neg (fun e => n.1 (by rw [e]; rfl)), if_neg (fun e => n.2.1 (by rw [e]; rfl)), if_neg (fun e => n.2.2 (by rw [e]; rfl))]

theorem all_take_succ (s : ByteArray) (k : Nat) (h : k < s.size) : (s.data.toList.take (k + 1)).all isLetter = ((s.data.toList.take k).all isLetter && isLetter s[k]) := by
  rw [List.take_succ_eq_append_getElem (by simpa using h), List.all_append]
  simp
  rfl
theorem isW_bad {s : ByteArray} {k : Nat} (h : k < s.size) (hb : isLetter s[k] = false) : isW s.data.toList = false := by
  have : s.data.toList.all isLetter = false := by
    rw [List.all_eq_false]
    exact ⟨s[k], List.mem_iff_getElem.2 ⟨k, by simpa using h, rfl⟩, by simp [hb]⟩
  simp [isW, this]
theorem isW_all {s : ByteArray} (h : (s.data.toList.take s.size).all isLetter = true) : isW s.data.toList = decide ((s.size : Int) ≤ 30) := by
  have e : s.data.toList.take s.size = s.data.toList := List.take_of_length_le (by simp)
  rw [e] at h
  unfold isW
  rw [h, Bool.true_and]
  simp
  omega
theorem isW_long {s : ByteArray} (h : 30 < s.size) : isW s.data.toList = false := by
  unfold isW
  rw [Bool.and_eq_false_iff]
  right
  simp
  omega

end Go.Proofs.YthmfncklepkddaaGreatDoor

/-
  Automata of values and what they read: the run of a word. Of no function of the program.
-/
namespace Go.Proofs.YthmfncklepkddaaGreatDoor
open Go.RowKit

def auD (d : Dx) : Au := auOf d.acc d.nxt
def idxN (b : UInt8) : Nat := (letIdx b).toNat
/-- The letters' numbers. -/
def idxs (s : List UInt8) : List Nat := s.map idxN
theorem idxs_W3 {s : List UInt8} (h : s.all isLetter = true) : W3 (idxs s) := fun k hk => by
  obtain ⟨b, hb, rfl⟩ := List.mem_map.1 hk
  have := letIdx_yes (List.all_eq_true.1 h b hb)
  unfold idxN
  omega
theorem run_snoc (a : Au) (q : Nat) (u : List Nat) (k : Nat) : a.run q (u ++ [k]) = a.T (a.run q u) k := by rw [Au.run_append]; rfl
def runOk (d : Dx) (q : Int) (s : List UInt8) : Bool := validD d && decide (0 ≤ q) && decide (q ≤ (d.acc.length : Int) - 1) && isW s
def runV (d : Dx) (q : Int) (s : List UInt8) : Int := if runOk d q s then (((auD d).run q.toNat (idxs s) : Nat) : Int) else 0
def accR (d : Dx) (s : List UInt8) : Bool := runOk d 0 s && (auD d).A ((auD d).run 0 (idxs s))
/-- An automaton's cells, by its states. -/
theorem DfaV.au {w : World} {S : Nat → Prop} {va vn : Value} {d : Dx} (h : DfaV w S va vn d) (hv : validD d = true) :
    (auD d).wf ∧ (auD d).n ≤ 40 ∧ (auD d).n = d.acc.length ∧ d.nxt.length = d.acc.length ∧ ∃ ad c ad' c', va = .slice (some ad) d.acc.length c ∧ vn = .slice (some ad') d.acc.length c' ∧
      (∀ q, q < d.acc.length → w.cell? (ad.add q) = some (.bool ((auD d).A q))) ∧ ∀ q, q < d.acc.length → ∃ ad2 c2, w.cell? (ad'.add q) = some (.slice (some ad2) 3 c2) ∧ ∀ k, k < 3 → w.cell? (ad2.add k) = some (.int .i64 (((auD d).T q k : Nat) : Int)) := by
  obtain ⟨hw, hn, ha, hx⟩ := of_validF hv
  obtain ⟨⟨A, c, rfl⟩, A', c', rfl⟩ := h.shape
  have hpos : 0 < d.acc.length := hw.1
  have hl : d.nxt.length = d.acc.length := by rw [hx, nxtOf_length]; rfl
  obtain ⟨ad, rfl, -, -⟩ := h.1.boolD hpos
  obtain ⟨ad', -, rfl, -, -, -⟩ := h.2.atD (by rw [hl]; exact hpos)
  refine ⟨hw, hn, rfl, hl, ad, c, ad', c', rfl, by rw [hl], fun q hq => ?_, fun q hq => ?_⟩
  · obtain ⟨ad0, e, -, hc⟩ := h.1.boolD hq
    cases e
    exact hc
  · obtain ⟨ad0, u, e, -, hc, hr⟩ := h.2.atD (j := q) (by rw [hl]; exact hq)
    cases e
    have hrow : d.nxt.getD q [] = (List.range 3).map fun k => ((auD d).T q k : Int) := by
      have := nxtOf_at (auD d) (show q < (auD d).n from hq)
      rw [show nxtOf (auD d) = d.nxt from hx.symm] at this
      rw [List.getD_eq_getElem?_getD, this]
      rfl
    rw [hrow] at hr
    obtain ⟨-, A2, c2, rfl⟩ := hr.ints_shape
    simp only [List.length_map, List.length_range] at hr hc
    obtain ⟨ad2, rfl, -, -⟩ := hr.intD (j := 0) (by simp)
    refine ⟨ad2, c2, hc, fun k hk => ?_⟩
    obtain ⟨ad3, e, -, hc3⟩ := hr.intD (j := k) (by simpa using hk)
    cases e
    rw [hc3]
    simp [List.getD_eq_getElem?_getD, hk]
end Go.Proofs.YthmfncklepkddaaGreatDoor

/-
  The minimal automaton of a valid one, as an answer; its complement. Of no function of the program.
  What spec.l5Fits answers: the minimal automaton, where it has not too many states.
  How large a minimal automaton and its complement are.
-/
namespace Go.Proofs.YthmfncklepkddaaGreatDoor
open Go.RowKit

/-- The minimal automaton, or none. -/
def minR (d y : Dx) : Prop := if validD d = true then ∃ m, Canon m ∧ Eqv m 0 (auD d) 0 ∧ y = fieldsOf m else y = ⟨[], []⟩
theorem fieldsOf_au {d : Dx} (h : validD d = true) : (auD d).wf ∧ (auD d).n ≤ 40 ∧ d = fieldsOf (auD d) := by
  obtain ⟨h1, h2, h3, h4⟩ := of_validF h
  refine ⟨h1, h2, ?_⟩
  cases d
  simp only [fieldsOf, auD] at *
  rw [← h3, ← h4]
theorem minR_some (d : Dx) : ∃ y, minR d y := by
  unfold minR
  by_cases h : validD d = true
  · simp only [h, if_true]
    obtain ⟨m, h1, h2, _⟩ := exists_min (fieldsOf_au h).1
    exact ⟨_, m, h1, h2, rfl⟩
  · simp only [h]
    exact ⟨_, rfl⟩
theorem Eqv.swap {a b c : Au} {p q r : Nat} (h : Eqv a p c r) (h' : Eqv b q c r) : Eqv a p b q := fun w hw => (h w hw).trans (h' w hw).symm
theorem fields_one {m m' : Au} (h : Canon m) (h' : Canon m') (he : Eqv m 0 m' 0) : fieldsOf m = fieldsOf m' := by
  obtain ⟨h1, h2⟩ := min_fields h h' he
  unfold fieldsOf
  rw [h1, h2]
theorem minR_one {d y y' : Dx} (h : minR d y) (h' : minR d y') : y = y' := by
  unfold minR at h h'
  by_cases hv : validD d = true
  · simp only [hv, if_true] at h h'
    obtain ⟨m, h1, h2, rfl⟩ := h
    obtain ⟨m', h1', h2', rfl⟩ := h'
    exact fields_one h1 h1' (h2.swap h2')
  · simp only [hv] at h h'
    exact h.trans h'.symm
theorem RowO.empty (w : World) (S : Nat → Prop) : RowO w S (.slice none 0 0) [] :=
  (RowO.of_owns (base := 0) (e := 3) (n := 0) (xs := []) (v := .slice none 0 0) ⟨rfl, .inl ⟨rfl, rfl⟩⟩ (by omega)).mono (fun _ _ => rfl) (fun g hg => by simp [Value.ownBlock] at hg)
theorem DfaO.empty (w : World) (S : Nat → Prop) : DfaO w S (.slice none 0 0) (.slice none 0 0) ⟨[], []⟩ :=
  ⟨fun _ => False, fun _ => False, RowO.empty w _, ⟨[], fun _ => False, fun _ _ => False, RowO.empty w _, RowsP.nil _ _, fun _ h => h.elim⟩, fun _ h => h.elim, fun _ h => h.elim⟩
/-- The complement of an automaton's fields. -/
def comD (y : Dx) : Dx := ⟨y.acc.map (!·), y.nxt⟩
/-- Turned up to place i. -/
def turned (l : List Bool) (i : Nat) : List Bool := (l.take i).map (!·) ++ l.drop i
theorem turned_length (l : List Bool) (i : Nat) : (turned l i).length = l.length := by
  simp [turned]
  omega
theorem turned_at {l : List Bool} {i : Nat} (hi : i < l.length) : (turned l i).getD i false = l.getD i false := by
  have h1 : ((l.take i).map (!·)).length = i := by simp; omega
  rw [turned, List.getD_eq_getElem?_getD, List.getElem?_append_right (by omega), h1, Nat.sub_self, List.getElem?_drop, List.getD_eq_getElem?_getD, Nat.add_zero]
theorem turned_step {l : List Bool} {i : Nat} (hi : i < l.length) : (bools (turned l i)).set i (.bool (!(l.getD i false))) = bools (turned l (i + 1)) := by
  have e : l.drop i = l[i] :: l.drop (i + 1) := List.drop_eq_getElem_cons hi
  have h1 : ((l.take i).map (!·)).length = i := by simp; omega
  have h2 : turned l (i + 1) = (l.take i).map (!·) ++ (!l[i]) :: l.drop (i + 1) := by
    rw [turned, List.take_succ_eq_append_getElem hi, List.map_append, List.append_assoc]
    rfl
  rw [h2, turned, e, show l.getD i false = l[i] by rw [List.getD_eq_getElem?_getD, List.getElem?_eq_getElem hi]; rfl]
  simp only [bools, List.map_append, List.map_cons]
  rw [List.set_append_right _ _ (by simp; omega)]
  simp
  have : i - min i l.length = 0 := by omega
  rw [this]
  rfl
theorem turned_all (l : List Bool) : turned l l.length = l.map (!·) := by simp [turned]
theorem turned_zero (l : List Bool) : turned l 0 = l := by simp [turned]
end Go.Proofs.YthmfncklepkddaaGreatDoor

namespace Go.Proofs.YthmfncklepkddaaGreatDoor
open Go.RowKit

theorem validD_fields {m : Au} (h : m.wf) : validD (fieldsOf m) = decide (m.n ≤ 40) := by
  by_cases hn : m.n ≤ 40
  · rw [decide_eq_true hn]
    exact validF_of h hn
  · rw [decide_eq_false hn]
    exact validF_big (by omega)
/-- What fits. -/
def fitD (m : Au) : Dx := if m.n ≤ 40 then fieldsOf m else ⟨[], []⟩

end Go.Proofs.YthmfncklepkddaaGreatDoor

namespace Go.Proofs.YthmfncklepkddaaGreatDoor
open Go.RowKit

theorem tot_rows (f : Nat → List Int) (h : ∀ i, (f i).length = 3) : ∀ n, totR ((List.range n).map f) = n * 3
  | 0 => rfl
  | n + 1 => by
    have ih := tot_rows f h n
    unfold totR at ih ⊢
    rw [List.range_succ, List.map_append, List.map_append, List.sum_append, ih]
    simp [h]
    omega
theorem fieldsOf_wt {m : Au} (h : m.n ≤ 40) : wtD (fieldsOf m) ≤ 1048576 := by
  have h1 : (fieldsOf m).acc.length = m.n := accOf_length m
  have h2 : (fieldsOf m).nxt.length = m.n := nxtOf_length m
  have h3 : totR (fieldsOf m).nxt = m.n * 3 := tot_rows _ (fun i => by simp) m.n
  unfold wtD
  omega
theorem minR_au {d y : Dx} (h : minR d y) (hv : validD d = true) : ∃ m, Canon m ∧ Eqv m 0 (auD d) 0 ∧ y = fieldsOf m ∧ m.n ≤ 40 := by
  obtain ⟨q1, q2, _⟩ := fieldsOf_au hv
  obtain ⟨m', h1, h2, h3⟩ := exists_min q1
  have h' : minR d (fieldsOf m') := by
    unfold minR
    rw [if_pos hv]
    exact ⟨m', h1, h2, rfl⟩
  exact ⟨m', h1, h2, minR_one h h', by omega⟩
theorem minR_wt {d y : Dx} (h : minR d y) : wtD y ≤ 1048576 := by
  by_cases hv : validD d = true
  · obtain ⟨m, _, _, rfl, hm⟩ := minR_au h hv
    exact fieldsOf_wt hm
  · unfold minR at h
    rw [if_neg hv] at h
    subst h
    decide
theorem comD_wt {y : Dx} (h : wtD y ≤ 1048576) : wtD (comD y) ≤ 1048576 := by
  unfold wtD comD at *
  simpa using h
end Go.Proofs.YthmfncklepkddaaGreatDoor

/-
  An automaton that grows in a box: its rows, and what stays of them where another row grows. Of no function of the program.
  An automaton that grows in a box, next to the list of what is met and to the row at hand. Of no function of the program.
-/
namespace Go.Proofs.YthmfncklepkddaaGreatDoor
open Go.RowKit

theorem blk_of {w : World} {base : Nat} {e : TypeId} {v : Value} {n : Nat} {xs : List Value} (h : w.ownsRow base e 1 v n xs) {g : Nat} (hg : v.ownBlock = some g) : ∃ cur, w.heap[g]? = some (.cells cur e (0, 0)) := by
  rcases h.2 with ⟨rfl, _⟩ | ⟨g', cap, cur, rfl, _, hh, _⟩
  · simp [Value.ownBlock] at hg
  · simp [Value.ownBlock] at hg
    subst hg
    exact ⟨cur, hh⟩
theorem blk_ne {w : World} {g g' : Nat} {cur cur' : Array Value} {e e' : TypeId} (h : w.heap[g]? = some (.cells cur e (0, 0))) (h' : w.heap[g']? = some (.cells cur' e' (0, 0))) (hne : e ≠ e') : g ≠ g' := fun eq => by
  subst eq
  rw [h] at h'
  cases h'
  exact hne rfl
/-- A row of ints of the call's own. -/
def IR (w : World) (B : Nat) (v : Value) (l : List Int) : Prop := w.ownsRow B 3 1 v l.length (ints l)
theorem IR.kept {w w' : World} {B : Nat} {v : Value} {l : List Int} {row : Option Nat} (h : IR w B v l) (hg : w.grownBy w' row) (hne : ∀ g, v.ownBlock = some g → row ≠ some g) : IR w' B v l := by
  refine World.ownsRow.kept h hg ?_
  cases hv : v.ownBlock with
  | none => exact .inl rfl
  | some g => exact .inr (fun e => hne g hv e.symm)
theorem IR.row {w : World} {B : Nat} {v : Value} {l : List Int} (h : IR w B v l) (hl : l.length ≤ 9223372036854775807) : RowO w (fun g => v.ownBlock = some g) v (ints l) := RowO.of_owns h hl
theorem grown_of {w w' : World} (h : Below w.heap.size w w') : w.grownBy w' none := ⟨h.os, h.tape, h.output, h.size, fun k hk _ => h.block k hk⟩
/-- A row of one, just laid. -/
theorem IR.one (w : World) (x : Int) {B : Nat} (hB : B ≤ w.heap.size) : IR (w.alloc (.cells #[.int .i64 x] 3)) B (.slice (some ⟨w.heap.size, 0, none⟩) 1 1) [x] :=
  ⟨rfl, .inr ⟨w.heap.size, 1, #[.int .i64 x], rfl, hB, heap_alloc_new w _, Nat.le_refl _, by decide, rfl, rfl⟩⟩

/-- The automaton so far, in its box. -/
structure Out (B : Nat) (w : World) (bo : Nat) (va vn : Value) (accs : List Bool) (us : List Value) (rss : List (List Value)) (K : Nat → Nat → Prop) : Prop where
  acc : w.ownsRow B 4 1 va accs.length (bools accs)
  nxt : w.ownsRow B 58 1 vn us.length us
  rows : RowsP (fun g => B ≤ g) w us rss K
  kint : ∀ j g, K j g → ∃ cur, w.heap[g]? = some (.cells cur 3 (0, 0))
  box : w.heap[bo]? = some (.cells #[va, vn] 31 (0, 0))
  low : B ≤ bo
variable {B : Nat} {w w' : World} {bo : Nat} {va vn : Value} {accs : List Bool} {us : List Value} {rss : List (List Value)} {K : Nat → Nat → Prop}
/-- Where a row of ints grows that is none of its own. -/
theorem Out.kept {row : Option Nat} (h : Out B w bo va vn accs us rss K) (hg : w.grownBy w' row) (hrow : ∀ g, row = some g → (∃ cur, w.heap[g]? = some (.cells cur 3 (0, 0))) ∧ ∀ j, ¬ K j g) : Out B w' bo va vn accs us rss K := by
  have keep : ∀ (g : Nat) (cur : Array Value) (e : TypeId), w.heap[g]? = some (.cells cur e (0, 0)) → e ≠ 3 → w'.heap[g]? = w.heap[g]? := fun g cur e hh he =>
    hg.block g (Array.getElem?_eq_some_iff.1 hh).1 (fun er => by
      obtain ⟨⟨cur', hh'⟩, _⟩ := hrow g er.symm
      exact blk_ne hh hh' he rfl)
  refine ⟨h.acc.kept hg ?_, h.nxt.kept hg ?_, h.rows.keep (fun j g hk => ?_) h.rows.sub hg.size, fun j g hk => ?_, (keep bo _ _ h.box (by decide)).trans h.box, h.low⟩
  · cases hv : va.ownBlock with
    | none => exact .inl rfl
    | some g =>
      obtain ⟨cur, hh⟩ := blk_of h.acc hv
      exact .inr (fun er => by
        obtain ⟨⟨cur', hh'⟩, _⟩ := hrow g er.symm
        exact blk_ne hh hh' (by decide) rfl)
  · cases hv : vn.ownBlock with
    | none => exact .inl rfl
    | some g =>
      obtain ⟨cur, hh⟩ := blk_of h.nxt hv
      exact .inr (fun er => by
        obtain ⟨⟨cur', hh'⟩, _⟩ := hrow g er.symm
        exact blk_ne hh hh' (by decide) rfl)
  · exact hg.block g (h.rows.lt j g hk) (fun er => (hrow g er.symm).2 j hk)
  · obtain ⟨cur, hh⟩ := h.kint j g hk
    exact ⟨cur, (hg.block g (h.rows.lt j g hk) (fun er => (hrow g er.symm).2 j hk)).trans hh⟩
theorem Out.below (h : Out B w bo va vn accs us rss K) (hb : Below w.heap.size w w') : Out B w' bo va vn accs us rss K := h.kept (grown_of hb) (fun g e => by cases e)
/-- One truth value more. -/
theorem Out.acc_push {va' : Value} {b : Bool} (h : Out B w bo va vn accs us rss K) (hown : w'.ownsRow B 4 1 va' (accs.length + 1) (bools accs ++ [.bool b])) (hg : w.grownBy w' va.ownBlock) :
    (∃ x, w'.cell? ⟨bo, 0, none⟩ = some x) ∧ w'.frozen? ⟨bo, 0, none⟩ = false ∧ Out B (w'.setCell ⟨bo, 0, none⟩ va') bo va' vn (accs ++ [b]) us rss K := by
  have keep : ∀ (g : Nat) (cur : Array Value) (e : TypeId), w.heap[g]? = some (.cells cur e (0, 0)) → e ≠ 4 → w'.heap[g]? = w.heap[g]? := fun g cur e hh he =>
    hg.block g (Array.getElem?_eq_some_iff.1 hh).1 (fun er => by
      obtain ⟨cur', hh'⟩ := blk_of h.acc er.symm
      exact blk_ne hh hh' he rfl)
  have hbox := (keep bo _ _ h.box (by decide)).trans h.box
  obtain ⟨c0, c1, f0, f1⟩ := box2_facts hbox
  have far : ∀ (g : Nat) (cur : Array Value) (e : TypeId), w'.heap[g]? = some (.cells cur e (0, 0)) → e ≠ 31 → (w'.setCell ⟨bo, 0, none⟩ va').heap[g]? = w'.heap[g]? := fun g cur e hh he => Below.heap_setCell _ _ _ g (fun er => blk_ne hh hbox he er)
  refine ⟨⟨_, c0⟩, f0, ⟨?_, ?_, h.rows.keep (fun j g hk => ?_) h.rows.sub (by simpa [World.setCell] using hg.size), fun j g hk => ?_, heap_setCell_same w' bo 0 _ _ va' hbox, h.low⟩⟩
  · have e : bools (accs ++ [b]) = bools accs ++ [.bool b] := by simp [bools]
    rw [e, List.length_append]
    refine ownsRow_setCell_other hown (fun er => ?_) _
    obtain ⟨cur, hh⟩ := blk_of hown er
    exact blk_ne hh hbox (by decide) rfl
  · have h1 : w'.ownsRow B 58 1 vn us.length us := by
      refine h.nxt.kept hg ?_
      cases hv : vn.ownBlock with
      | none => exact .inl rfl
      | some g =>
        obtain ⟨cur, hh⟩ := blk_of h.nxt hv
        exact .inr (fun er => by
          obtain ⟨cur', hh'⟩ := blk_of h.acc er.symm
          exact blk_ne hh hh' (by decide) rfl)
    refine ownsRow_setCell_other h1 (fun er => ?_) _
    obtain ⟨cur, hh⟩ := blk_of h1 er
    exact blk_ne hh hbox (by decide) rfl
  · obtain ⟨cur, hh⟩ := h.kint j g hk
    have h1 := (keep g _ _ hh (by decide)).trans hh
    exact (far g _ _ h1 (by decide)).trans (keep g _ _ hh (by decide))
  · obtain ⟨cur, hh⟩ := h.kint j g hk
    have h1 := (keep g _ _ hh (by decide)).trans hh
    exact ⟨cur, (far g _ _ h1 (by decide)).trans h1⟩
/-- One row more. -/
theorem Out.nxt_push {vn' u : Value} {r : List Int} (h : Out B w bo va vn accs us rss K) (hr : IR w B u r) (hrl : r.length ≤ 9223372036854775807) (hrk : ∀ g, u.ownBlock = some g → ∀ j, ¬ K j g) (hown : w'.ownsRow B 58 1 vn' (us.length + 1) (us ++ [u])) (hg : w.grownBy w' vn.ownBlock) :
    (∃ x, w'.cell? ⟨bo, 1, none⟩ = some x) ∧ w'.frozen? ⟨bo, 1, none⟩ = false ∧ Out B (w'.setCell ⟨bo, 1, none⟩ vn') bo va vn' accs (us ++ [u]) (rss ++ [ints r]) (fun j g => if j < us.length then K j g else j = us.length ∧ u.ownBlock = some g) := by
  have keep : ∀ (g : Nat) (cur : Array Value) (e : TypeId), w.heap[g]? = some (.cells cur e (0, 0)) → e ≠ 58 → w'.heap[g]? = w.heap[g]? := fun g cur e hh he =>
    hg.block g (Array.getElem?_eq_some_iff.1 hh).1 (fun er => by
      obtain ⟨cur', hh'⟩ := blk_of h.nxt er.symm
      exact blk_ne hh hh' he rfl)
  have hbox := (keep bo _ _ h.box (by decide)).trans h.box
  obtain ⟨c0, c1, f0, f1⟩ := box2_facts hbox
  have far : ∀ (g : Nat) (cur : Array Value) (e : TypeId), w'.heap[g]? = some (.cells cur e (0, 0)) → e ≠ 31 → (w'.setCell ⟨bo, 1, none⟩ vn').heap[g]? = w'.heap[g]? := fun g cur e hh he => Below.heap_setCell _ _ _ g (fun er => blk_ne hh hbox he er)
  have int_keep : ∀ (g : Nat) (cur : Array Value), w.heap[g]? = some (.cells cur 3 (0, 0)) → (w'.setCell ⟨bo, 1, none⟩ vn').heap[g]? = w.heap[g]? := fun g cur hh => by
    have h1 := (keep g _ _ hh (by decide)).trans hh
    exact (far g _ _ h1 (by decide)).trans (keep g _ _ hh (by decide))
  have hsz : w.heap.size ≤ (w'.setCell ⟨bo, 1, none⟩ vn').heap.size := by simpa [World.setCell] using hg.size
  have hlen := h.rows.len
  refine ⟨⟨_, c1⟩, f1, ⟨?_, ?_, ⟨by simp [hlen], fun j u' r' hu hr' => ?_, fun j g hk => ?_, fun j g hk => ?_, fun i j g hi hj => ?_⟩, fun j g hk => ?_, heap_setCell_same w' bo 1 _ _ vn' hbox, h.low⟩⟩
  · have h1 : w'.ownsRow B 4 1 va accs.length (bools accs) := by
      refine h.acc.kept hg ?_
      cases hv : va.ownBlock with
      | none => exact .inl rfl
      | some g =>
        obtain ⟨cur, hh⟩ := blk_of h.acc hv
        exact .inr (fun er => by
          obtain ⟨cur', hh'⟩ := blk_of h.nxt er.symm
          exact blk_ne hh hh' (by decide) rfl)
    refine ownsRow_setCell_other h1 (fun er => ?_) _
    obtain ⟨cur, hh⟩ := blk_of h1 er
    exact blk_ne hh hbox (by decide) rfl
  · rw [List.length_append]
    refine ownsRow_setCell_other hown (fun er => ?_) _
    obtain ⟨cur, hh⟩ := blk_of hown er
    exact blk_ne hh hbox (by decide) rfl
  · by_cases hj : j < us.length
    · rw [List.getElem?_append_left hj] at hu
      rw [List.getElem?_append_left (by omega)] at hr'
      exact (h.rows.row j u' r' hu hr').mono (fun g hg => by
        obtain ⟨cur, hh⟩ := h.kint j g hg
        exact int_keep g cur hh) (fun g hg => by simpa [hj] using hg)
    · have e : j = us.length := by
        have := (List.getElem?_eq_some_iff.1 hu).1
        simp at this
        omega
      subst e
      rw [List.getElem?_append_right (Nat.le_refl _), Nat.sub_self] at hu
      rw [List.getElem?_append_right (by omega), hlen, Nat.sub_self] at hr'
      cases hu
      cases hr'
      exact (hr.row hrl).mono (fun g hg => by
        obtain ⟨cur, hh⟩ := blk_of hr hg
        exact int_keep g cur hh) (fun g hg => by simpa using hg)
  · by_cases hj : j < us.length
    · exact h.rows.sub j g (by simpa [hj] using hk)
    · simp only [hj, if_false] at hk
      exact (hr.lt g hk.2).1
  · by_cases hj : j < us.length
    · exact Nat.lt_of_lt_of_le (h.rows.lt j g (by simpa [hj] using hk)) hsz
    · simp only [hj, if_false] at hk
      exact Nat.lt_of_lt_of_le (hr.lt g hk.2).2 hsz
  · by_cases h1 : i < us.length <;> by_cases h2 : j < us.length <;> simp only [h1, h2, if_true, if_false] at hi hj
    · exact h.rows.sep i j g hi hj
    · exact absurd hi (hrk g hj.2 i)
    · exact absurd hj (hrk g hi.2 j)
    · omega
  · by_cases hj : j < us.length
    · obtain ⟨cur, hh⟩ := h.kint j g (by simpa [hj] using hk)
      exact ⟨cur, (int_keep g cur hh).trans hh⟩
    · simp only [hj, if_false] at hk
      obtain ⟨cur, hh⟩ := blk_of hr hk.2
      exact ⟨cur, (int_keep g cur hh).trans hh⟩
/-- The automaton is whole: it lies in memory of its own. -/
theorem Out.whole (h : Out B w bo va vn accs us rss K) {d : Dx} (ha : d.acc = accs) (hr : intss d.nxt = rss) (hl1 : accs.length ≤ 9223372036854775807) (hl2 : us.length ≤ 9223372036854775807) : DfaO w (fun g => B ≤ g ∧ g < w.heap.size) va vn d := by
  refine ⟨fun g => va.ownBlock = some g, fun g => B ≤ g ∧ g < w.heap.size ∧ va.ownBlock ≠ some g, ?_, ⟨us, fun g => vn.ownBlock = some g, K, RowO.of_owns h.nxt hl2, ?_, fun g hg => ?_⟩, fun g hg => ?_, fun g hg => ⟨hg.1, hg.2.1⟩⟩
  · rw [ha]
    exact RowO.of_owns h.acc hl1
  · rw [hr]
    exact h.rows.keep (fun _ _ _ => rfl) (fun j g hk => ⟨h.rows.sub j g hk, h.rows.lt j g hk, fun er => by
      obtain ⟨cur, hh⟩ := blk_of h.acc er
      obtain ⟨cur', hh'⟩ := h.kint j g hk
      exact blk_ne hh hh' (by decide) rfl⟩) (Nat.le_refl _)
  · refine ⟨⟨(h.nxt.lt g hg).1, (h.nxt.lt g hg).2, fun er => ?_⟩, fun j hk => ?_⟩
    · obtain ⟨cur, hh⟩ := blk_of h.acc er
      obtain ⟨cur', hh'⟩ := blk_of h.nxt hg
      exact blk_ne hh hh' (by decide) rfl
    · obtain ⟨cur, hh⟩ := blk_of h.nxt hg
      obtain ⟨cur', hh'⟩ := h.kint j g hk
      exact blk_ne hh hh' (by decide) rfl
  · exact ⟨h.acc.lt g hg, fun h2 => h2.2.2 hg⟩
/-- It begins with nothing. -/
theorem Out.start (w : World) {B : Nat} (hB : B ≤ w.heap.size) : Out B (w.alloc (.cells #[.slice none 0 0, .slice none 0 0] 31)) w.heap.size (.slice none 0 0) (.slice none 0 0) [] [] [] (fun _ _ => False) :=
  ⟨⟨rfl, .inl ⟨rfl, rfl⟩⟩, ⟨rfl, .inl ⟨rfl, rfl⟩⟩, RowsP.nil _ _, fun _ _ h => h.elim, heap_alloc_new w _, hB⟩
end Go.Proofs.YthmfncklepkddaaGreatDoor

namespace Go.Proofs.YthmfncklepkddaaGreatDoor
open Go.RowKit

theorem ints_snoc (l : List Int) (x : Int) : ints (l ++ [x]) = ints l ++ [.int .i64 x] := by simp [ints]
theorem ints_len (l : List Int) : (ints l).length = l.length := by simp [ints]
theorem IR.of_push {w : World} {B : Nat} {v : Value} {l : List Int} {x : Int} (h : w.ownsRow B 3 1 v (l.length + 1) (ints l ++ [.int .i64 x])) : IR w B v (l ++ [x]) := by
  unfold IR
  rw [ints_snoc, List.length_append]
  exact h
theorem own_succ {W : World} {base : Nat} {e : TypeId} {size : Nat} {v : Value} {k : Nat} {xs : List Value} (h : W.ownsRow base e size v (k + 1) xs) : ∃ g cap, v = .slice (some ⟨g, 0, none⟩) (k + 1) cap := by
  rcases h.2 with ⟨_, h0⟩ | ⟨g, cap, _, rfl, _⟩
  · omega
  · exact ⟨g, cap, rfl⟩
/-- A row of none, just laid. -/
theorem IR.none (w : World) {B : Nat} (hB : B ≤ w.heap.size) : IR (w.alloc (.cells #[] 3)) B (.slice (some ⟨w.heap.size, 0, none⟩) 0 0) [] :=
  ⟨rfl, .inr ⟨w.heap.size, 0, #[], rfl, hB, heap_alloc_new w _, Nat.le_refl _, by decide, rfl, rfl⟩⟩
theorem IR.below {w w' : World} {B : Nat} {v : Value} {l : List Int} (h : IR w B v l) (hb : Below w.heap.size w w') : IR w' B v l := h.kept (grown_of hb) (fun g _ e => by cases e)

structure One (B : Nat) (w : World) (bo : Nat) (va vn : Value) (accs : List Bool) (us : List Value) (rss : List (List Value)) (K : Nat → Nat → Prop) (vo : Value) (lo : List Int) : Prop where
  out : Out B w bo va vn accs us rss K
  ord : IR w B vo lo
  ordK : ∀ g, vo.ownBlock = some g → ∀ j, ¬ K j g
structure Two (B : Nat) (w : World) (bo : Nat) (va vn : Value) (accs : List Bool) (us : List Value) (rss : List (List Value)) (K : Nat → Nat → Prop) (vo : Value) (lo : List Int) (vr : Value) (lr : List Int) : Prop where
  one : One B w bo va vn accs us rss K vo lo
  row : IR w B vr lr
  rowK : ∀ g, vr.ownBlock = some g → ∀ j, ¬ K j g
  sep : ∀ g, vo.ownBlock = some g → vr.ownBlock ≠ some g
variable {B : Nat} {w w' : World} {bo : Nat} {va vn : Value} {accs : List Bool} {us : List Value} {rss : List (List Value)} {K : Nat → Nat → Prop} {vo vr : Value} {lo lr : List Int}
theorem One.below (h : One B w bo va vn accs us rss K vo lo) (hb : Below w.heap.size w w') : One B w' bo va vn accs us rss K vo lo := ⟨h.out.below hb, h.ord.below hb, h.ordK⟩
theorem Two.below (h : Two B w bo va vn accs us rss K vo lo vr lr) (hb : Below w.heap.size w w') : Two B w' bo va vn accs us rss K vo lo vr lr := ⟨h.one.below hb, h.row.below hb, h.rowK, h.sep⟩
theorem One.base (h : One B w bo va vn accs us rss K vo lo) : B < w.heap.size := Nat.lt_of_le_of_lt h.out.low (Array.getElem?_eq_some_iff.1 h.out.box).1
/-- A row of none beside it. -/
theorem One.two (h : One B w bo va vn accs us rss K vo lo) : Two B (w.alloc (.cells #[] 3)) bo va vn accs us rss K vo lo (.slice (some ⟨w.heap.size, 0, none⟩) 0 0) [] := by
  refine ⟨h.below ((Below.refl _ _).alloc (Nat.le_refl _) _), IR.none w (Nat.le_of_lt h.base), fun g hg j hk => ?_, fun g hg e => ?_⟩
  · simp [Value.ownBlock] at hg
    have := h.out.rows.lt j g hk
    omega
  · simp [Value.ownBlock] at e
    have := (h.ord.lt g hg).2
    omega
/-- One more is met. -/
theorem Two.ord_push {v' : Value} {x : Int} (h : Two B w bo va vn accs us rss K vo lo vr lr) (hown : w'.ownsRow B 3 1 v' (lo.length + 1) (ints lo ++ [.int .i64 x])) (hg : w.grownBy w' vo.ownBlock) (hat : v'.ownBlock = vo.ownBlock ∨ v'.ownBlock = some w.heap.size) : Two B w' bo va vn accs us rss K v' (lo ++ [x]) vr lr := by
  refine ⟨⟨h.one.out.kept hg (fun g e => ⟨blk_of h.one.ord e, h.one.ordK g e⟩), IR.of_push hown, fun g e j hk => ?_⟩, h.row.kept hg (fun g e er => h.sep g er e), h.rowK, fun g e er => ?_⟩
  · rcases hat with a | a
    · exact h.one.ordK g (a.symm.trans e) j hk
    · rw [a] at e
      cases e
      have := h.one.out.rows.lt j _ hk
      omega
  · rcases hat with a | a
    · exact h.sep g (a.symm.trans e) er
    · rw [a] at e
      cases e
      have := (h.row.lt _ er).2
      omega
/-- One more in the row. -/
theorem Two.row_push {v' : Value} {x : Int} (h : Two B w bo va vn accs us rss K vo lo vr lr) (hown : w'.ownsRow B 3 1 v' (lr.length + 1) (ints lr ++ [.int .i64 x])) (hg : w.grownBy w' vr.ownBlock) (hat : v'.ownBlock = vr.ownBlock ∨ v'.ownBlock = some w.heap.size) : Two B w' bo va vn accs us rss K vo lo v' (lr ++ [x]) := by
  refine ⟨⟨h.one.out.kept hg (fun g e => ⟨blk_of h.row e, h.rowK g e⟩), h.one.ord.kept hg (fun g e er => h.sep g e er), h.one.ordK⟩, IR.of_push hown, fun g e j hk => ?_, fun g e er => ?_⟩
  · rcases hat with a | a
    · exact h.rowK g (a.symm.trans e) j hk
    · rw [a] at e
      cases e
      have := h.one.out.rows.lt j _ hk
      omega
  · rcases hat with a | a
    · exact h.sep g e (a.symm.trans er)
    · rw [a] at er
      cases er
      have := (h.one.ord.lt _ e).2
      omega
/-- A row of ints stays where a row of another type grows and the box is stored into. -/
theorem IR.far {row : Option Nat} {p : Addr} {u : Value} {va vn : Value} {v : Value} {l : List Int} (h : IR w B v l) (hg : w.grownBy w' row) (hrow : ∀ g, row = some g → ∃ cur e, w.heap[g]? = some (.cells cur e (0, 0)) ∧ e ≠ 3) (hbox : w.heap[p.block]? = some (.cells #[va, vn] 31 (0, 0))) : IR (w'.setCell p u) B v l := by
  have h1 : IR w' B v l := h.kept hg (fun g e er => by
    obtain ⟨cur, hh⟩ := blk_of h e
    obtain ⟨cur', e', hh', hne⟩ := hrow g er
    exact blk_ne hh hh' (Ne.symm hne) rfl)
  refine ownsRow_setCell_other h1 (fun er => ?_) _
  obtain ⟨cur, hh⟩ := blk_of h er
  exact blk_ne hh hbox (by decide) rfl
theorem Two.acc_push {va' : Value} {b : Bool} (h : Two B w bo va vn accs us rss K vo lo vr lr) (hown : w'.ownsRow B 4 1 va' (accs.length + 1) (bools accs ++ [.bool b])) (hg : w.grownBy w' va.ownBlock) :
    (∃ x, w'.cell? ⟨bo, 0, none⟩ = some x) ∧ w'.frozen? ⟨bo, 0, none⟩ = false ∧ Two B (w'.setCell ⟨bo, 0, none⟩ va') bo va' vn (accs ++ [b]) us rss K vo lo vr lr := by
  obtain ⟨h1, h2, h3⟩ := h.one.out.acc_push hown hg
  have hrow : ∀ g, va.ownBlock = some g → ∃ cur e, w.heap[g]? = some (.cells cur e (0, 0)) ∧ e ≠ 3 := fun g e => by
    obtain ⟨cur, hh⟩ := blk_of h.one.out.acc e
    exact ⟨cur, _, hh, by decide⟩
  exact ⟨h1, h2, ⟨h3, h.one.ord.far hg hrow h.one.out.box, h.one.ordK⟩, h.row.far hg hrow h.one.out.box, h.rowK, h.sep⟩
theorem Two.nxt_push {vn' : Value} (h : Two B w bo va vn accs us rss K vo lo vr lr) (hrl : lr.length ≤ 9223372036854775807) (hown : w'.ownsRow B 58 1 vn' (us.length + 1) (us ++ [vr])) (hg : w.grownBy w' vn.ownBlock) :
    (∃ x, w'.cell? ⟨bo, 1, none⟩ = some x) ∧ w'.frozen? ⟨bo, 1, none⟩ = false ∧ One B (w'.setCell ⟨bo, 1, none⟩ vn') bo va vn' accs (us ++ [vr]) (rss ++ [ints lr]) (fun j g => if j < us.length then K j g else j = us.length ∧ vr.ownBlock = some g) vo lo := by
  obtain ⟨h1, h2, h3⟩ := h.one.out.nxt_push h.row hrl h.rowK hown hg
  have hrow : ∀ g, vn.ownBlock = some g → ∃ cur e, w.heap[g]? = some (.cells cur e (0, 0)) ∧ e ≠ 3 := fun g e => by
    obtain ⟨cur, hh⟩ := blk_of h.one.out.nxt e
    exact ⟨cur, _, hh, by decide⟩
  refine ⟨h1, h2, h3, h.one.ord.far hg hrow h.one.out.box, fun g e j hk => ?_⟩
  by_cases hj : j < us.length
  · exact h.one.ordK g e j (by simpa [hj] using hk)
  · simp only [hj, if_false] at hk
    exact h.sep g e hk.2
/-- The beginning: one is met, the box is empty. -/
theorem One.start (w1 : World) (x : Int) :
    let W3 := (w1.alloc (.cells #[.int .i64 x] 3)).alloc (.cells #[.slice none 0 0, .slice none 0 0] 31)
    One w1.heap.size W3 (w1.heap.size + 1) (.slice none 0 0) (.slice none 0 0) [] [] [] (fun _ _ => False) (.slice (some ⟨w1.heap.size, 0, none⟩) 1 1) [x] ∧ Below w1.heap.size w1 W3 := by
  intro W3
  have hb : W3.heap[w1.heap.size + 1]? = some (.cells #[.slice none 0 0, .slice none 0 0] 31 (0, 0)) := by
    have h := heap_alloc_new (w1.alloc (.cells #[.int .i64 x] 3)) (.cells #[.slice none 0 0, .slice none 0 0] 31)
    rwa [World.size_alloc] at h
  have h1 : IR W3 w1.heap.size (.slice (some ⟨w1.heap.size, 0, none⟩) 1 1) [x] := (IR.one w1 x (Nat.le_refl _)).below ((Below.refl _ _).alloc (Nat.le_refl _) _)
  exact ⟨⟨⟨⟨rfl, .inl ⟨rfl, rfl⟩⟩, ⟨rfl, .inl ⟨rfl, rfl⟩⟩, RowsP.nil _ _, fun _ _ h => h.elim, hb, Nat.le_succ _⟩, h1, fun _ _ _ h => h⟩, ((Below.refl _ _).alloc (Nat.le_refl _) _).alloc (by simp) _⟩
end Go.Proofs.YthmfncklepkddaaGreatDoor

namespace Go.Proofs.YthmfncklepkddaaGreatDoor
open Go.RowKit

theorem own_on {w w' : World} {B B' : Nat} {e : TypeId} {size : Nat} {v : Value} {k : Nat} {xs : List Value} (h : w.ownsRow B e size v k xs) (hs : ∀ q, v.ownBlock = some q → w'.heap[q]? = w.heap[q]?) (hB : B' ≤ B) : w'.ownsRow B' e size v k xs := by
  refine ⟨h.1, ?_⟩
  rcases h.2 with h0 | ⟨g, cap, cur, e1, e2, e3, rest⟩
  · exact .inl h0
  · exact .inr ⟨g, cap, cur, e1, Nat.le_trans hB e2, (hs g (by rw [e1]; simp [Value.ownBlock])).trans e3, rest⟩
theorem intss_snoc (rs : List (List Int)) (r : List Int) : intss (rs ++ [r]) = intss rs ++ [ints r] := by simp [intss]
variable {w w' W0 : World} {B : Nat} {bo : Nat} {va vn : Value} {accs : List Bool} {us : List Value} {rss : List (List Value)} {rs : List (List Int)} {K : Nat → Nat → Prop} {vo : Value} {lo : List Int}
theorem Out.off (h : Out B w bo va vn accs us rss K) (hs : ∀ q, B ≤ q → q < w.heap.size → w'.heap[q]? = w.heap[q]?) (hz : w.heap.size ≤ w'.heap.size) {B' : Nat} (hB : B' ≤ B) : Out B' w' bo va vn accs us rss K :=
  ⟨own_on h.acc (fun q e => hs q (h.acc.lt q e).1 (h.acc.lt q e).2) hB, own_on h.nxt (fun q e => hs q (h.nxt.lt q e).1 (h.nxt.lt q e).2) hB,
    h.rows.keep (fun j g hk => hs g (h.rows.sub j g hk) (h.rows.lt j g hk)) (fun j g hk => Nat.le_trans hB (h.rows.sub j g hk)) hz,
    fun j g hk => by
      obtain ⟨cur, hh⟩ := h.kint j g hk
      exact ⟨cur, (hs g (h.rows.sub j g hk) (h.rows.lt j g hk)).trans hh⟩,
    (hs bo h.low (blk_lt h.box)).trans h.box, Nat.le_trans hB h.low⟩
theorem Out.base (h : Out B w bo va vn accs us rss K) : B < w.heap.size := Nat.lt_of_le_of_lt h.low (blk_lt h.box)
/-- Every row is a row of the call's own, and its block is named. -/
def Ows (w : World) (B : Nat) (us : List Value) (rs : List (List Int)) (K : Nat → Nat → Prop) : Prop :=
  ∀ (j : Nat) (u : Value) (r : List Int), us[j]? = some u → rs[j]? = some r → IR w B u r ∧ ∀ q, u.ownBlock = some q → K j q
theorem Ows.keep (h : Ows w B us rs K) (hs : ∀ j q, K j q → w'.heap[q]? = w.heap[q]?) {B' : Nat} (hB : B' ≤ B) : Ows w' B' us rs K := fun j u r hu hr => by
  obtain ⟨h1, h2⟩ := h j u r hu hr
  exact ⟨own_on h1 (fun q e => hs j q (h2 q e)) hB, h2⟩
theorem Out.k_acc (h : Out B w bo va vn accs us rss K) (hg : w.grownBy w' va.ownBlock) (x : Value) : ∀ j q, K j q → (w'.setCell ⟨bo, 0, none⟩ x).heap[q]? = w.heap[q]? := fun j q hk => by
  obtain ⟨cur, hh⟩ := h.kint j q hk
  refine (Below.heap_setCell _ _ _ q (fun er => blk_ne hh h.box (by decide) er)).trans (hg.block q (blk_lt hh) (fun er => ?_))
  obtain ⟨cur', hh'⟩ := blk_of h.acc er.symm
  exact blk_ne hh hh' (by decide) rfl
theorem Out.k_nxt (h : Out B w bo va vn accs us rss K) (hg : w.grownBy w' vn.ownBlock) (x : Value) : ∀ j q, K j q → (w'.setCell ⟨bo, 1, none⟩ x).heap[q]? = w.heap[q]? := fun j q hk => by
  obtain ⟨cur, hh⟩ := h.kint j q hk
  refine (Below.heap_setCell _ _ _ q (fun er => blk_ne hh h.box (by decide) er)).trans (hg.block q (blk_lt hh) (fun er => ?_))
  obtain ⟨cur', hh'⟩ := blk_of h.nxt er.symm
  exact blk_ne hh hh' (by decide) rfl
theorem One.k_ord (h : One B w bo va vn accs us rss K vo lo) (hg : w.grownBy w' vo.ownBlock) : ∀ j q, K j q → w'.heap[q]? = w.heap[q]? := fun j q hk =>
  hg.block q (h.out.rows.lt j q hk) (fun er => h.ordK q er.symm j hk)
theorem One.ord_push {v' : Value} {x : Int} (h : One B w bo va vn accs us rss K vo lo) (hown : w'.ownsRow B 3 1 v' (lo.length + 1) (ints lo ++ [.int .i64 x])) (hg : w.grownBy w' vo.ownBlock) (hat : v'.ownBlock = vo.ownBlock ∨ v'.ownBlock = some w.heap.size) : One B w' bo va vn accs us rss K v' (lo ++ [x]) := by
  refine ⟨h.out.kept hg (fun g e => ⟨blk_of h.ord e, h.ordK g e⟩), IR.of_push hown, fun g e j hk => ?_⟩
  rcases hat with a | a
  · exact h.ordK g (a.symm.trans e) j hk
  · rw [a] at e
    cases e
    have := h.out.rows.lt j _ hk
    omega
theorem Out.one (h : Out B w bo va vn accs us rss K) : One B (w.alloc (.cells #[] 3)) bo va vn accs us rss K (.slice (some ⟨w.heap.size, 0, none⟩) 0 0) [] := by
  refine ⟨h.below ((Below.refl _ _).alloc (Nat.le_refl _) _), IR.none w (Nat.le_of_lt h.base), fun g hg j hk => ?_⟩
  simp [Value.ownBlock] at hg
  have := h.rows.lt j g hk
  omega
theorem One.acc_push {va' : Value} {b : Bool} (h : One B w bo va vn accs us rss K vo lo) (hown : w'.ownsRow B 4 1 va' (accs.length + 1) (bools accs ++ [.bool b])) (hg : w.grownBy w' va.ownBlock) :
    (∃ x, w'.cell? ⟨bo, 0, none⟩ = some x) ∧ w'.frozen? ⟨bo, 0, none⟩ = false ∧ One B (w'.setCell ⟨bo, 0, none⟩ va') bo va' vn (accs ++ [b]) us rss K vo lo := by
  obtain ⟨h1, h2, h3⟩ := h.out.acc_push hown hg
  have hrow : ∀ g, va.ownBlock = some g → ∃ cur e, w.heap[g]? = some (.cells cur e (0, 0)) ∧ e ≠ 3 := fun g e => by
    obtain ⟨cur, hh⟩ := blk_of h.out.acc e
    exact ⟨cur, _, hh, by decide⟩
  exact ⟨h1, h2, h3, h.ord.far hg hrow h.out.box, h.ordK⟩
theorem One.nxt_push {vn' : Value} (h : One B w bo va vn accs us rss K vo lo) (hrl : lo.length ≤ 9223372036854775807) (hown : w'.ownsRow B 58 1 vn' (us.length + 1) (us ++ [vo])) (hg : w.grownBy w' vn.ownBlock) :
    (∃ x, w'.cell? ⟨bo, 1, none⟩ = some x) ∧ w'.frozen? ⟨bo, 1, none⟩ = false ∧ Out B (w'.setCell ⟨bo, 1, none⟩ vn') bo va vn' accs (us ++ [vo]) (rss ++ [ints lo]) (fun j g => if j < us.length then K j g else j = us.length ∧ vo.ownBlock = some g) :=
  h.out.nxt_push h.ord hrl h.ordK hown hg
end Go.Proofs.YthmfncklepkddaaGreatDoor

/-
  The product of two automata, as an answer. Of no function of the program.
  What spec.ProductDfa begins with.
-/
namespace Go.Proofs.YthmfncklepkddaaGreatDoor
open Go.RowKit

def fK (kind : Int) : Bool → Bool → Bool := if kind = 6 then (· || ·) else (· && ·)
theorem fK_or : fK 6 = (· || ·) := rfl
theorem fK_and : fK 7 = (· && ·) := rfl
/-- The product's minimal automaton, where it has not too many states. -/
def proR (a b : Dx) (kind : Int) (y : Dx) (ok : Bool) : Prop :=
  if validD a = true ∧ validD b = true ∧ (kind = 6 ∨ kind = 7) then ∃ m, Canon m ∧ Eqv m 0 (prd (auD a) (auD b) (fK kind)) 0 ∧ y = fitD m ∧ ok = decide (m.n ≤ 40) else y = ⟨[], []⟩ ∧ ok = false
theorem proR_some (a b : Dx) (kind : Int) : ∃ y ok, proR a b kind y ok := by
  unfold proR
  by_cases h : validD a = true ∧ validD b = true ∧ (kind = 6 ∨ kind = 7)
  · obtain ⟨m, h1, h2, _⟩ := exists_min (prd_wf (fK kind) (fieldsOf_au h.1).1 (fieldsOf_au h.2.1).1)
    exact ⟨fitD m, decide (m.n ≤ 40), by rw [if_pos h]; exact ⟨m, h1, h2, rfl, rfl⟩⟩
  · exact ⟨⟨[], []⟩, false, by rw [if_neg h]; exact ⟨rfl, rfl⟩⟩
theorem fit_one {m m' : Au} (h : Canon m) (h' : Canon m') (he : Eqv m 0 m' 0) : fitD m = fitD m' ∧ decide (m.n ≤ 40) = decide (m'.n ≤ 40) := by
  have h1 := (canon_unique h h' he).1
  have h2 := fields_one h h' he
  unfold fitD
  rw [h1, h2]
  exact ⟨rfl, rfl⟩
theorem fitD_wt (m : Au) : wtD (fitD m) ≤ 1048576 := by
  unfold fitD
  by_cases h : m.n ≤ 40
  · rw [if_pos h]
    exact fieldsOf_wt h
  · rw [if_neg h]
    decide
theorem proR_wt {a b : Dx} {kind : Int} {y : Dx} {ok : Bool} (h : proR a b kind y ok) : wtD y ≤ 1048576 := by
  unfold proR at h
  by_cases hc : validD a = true ∧ validD b = true ∧ (kind = 6 ∨ kind = 7)
  · rw [if_pos hc] at h
    obtain ⟨m, _, _, rfl, _⟩ := h
    exact fitD_wt m
  · rw [if_neg hc] at h
    rw [h.1]
    decide
theorem proR_yes {a b : Dx} {kind : Int} {y : Dx} {ok : Bool} (h : proR a b kind y ok) (ha : validD a = true) (hb : validD b = true) (hk : kind = 6 ∨ kind = 7) {m : Au} (h1 : Canon m) (h2 : Eqv m 0 (prd (auD a) (auD b) (fK kind)) 0) : fitD m = y ∧ decide (m.n ≤ 40) = ok := by
  unfold proR at h
  rw [if_pos ⟨ha, hb, hk⟩] at h
  obtain ⟨m', n1, n2, rfl, rfl⟩ := h
  exact fit_one h1 n1 (h2.swap n2)
theorem proR_no {a b : Dx} {kind : Int} {y : Dx} {ok : Bool} (h : proR a b kind y ok) (hn : ¬ (validD a = true ∧ validD b = true ∧ (kind = 6 ∨ kind = 7))) : y = ⟨[], []⟩ ∧ ok = false := by
  unfold proR at h
  rwa [if_neg hn] at h
end Go.Proofs.YthmfncklepkddaaGreatDoor

namespace Go.Proofs.YthmfncklepkddaaGreatDoor
open Go.RowKit

theorem One.start2 (w1 : World) (x : Int) :
    let W3 := (w1.alloc (.cells #[.slice none 0 0, .slice none 0 0] 31)).alloc (.cells #[.int .i64 x] 3)
    One w1.heap.size W3 w1.heap.size (.slice none 0 0) (.slice none 0 0) [] [] [] (fun _ _ => False) (.slice (some ⟨w1.heap.size + 1, 0, none⟩) 1 1) [x] ∧ Below w1.heap.size w1 W3 := by
  intro W3
  have h0 := Out.start w1 (Nat.le_refl _)
  have h1 := IR.one (w1.alloc (.cells #[.slice none 0 0, .slice none 0 0] 31)) x (B := w1.heap.size) (by simp)
  rw [World.size_alloc] at h1
  exact ⟨⟨h0.below ((Below.refl _ _).alloc (Nat.le_refl _) _), h1, fun _ _ _ h => h⟩, ((Below.refl _ _).alloc (Nat.le_refl _) _).alloc (by simp) _⟩
theorem three_box' (w : World) (a b c : Obj) : let W := ((w.alloc a).alloc b).alloc c
    W.heap[w.heap.size]? = some a ∧ W.heap[w.heap.size + 1]? = some b ∧ W.heap[w.heap.size + 1 + 1]? = some c ∧ Below w.heap.size w W := by
  intro W
  have h1 := heap_alloc_new (w.alloc a) b
  have h2 := heap_alloc_new ((w.alloc a).alloc b) c
  rw [World.size_alloc] at h1 h2
  rw [World.size_alloc] at h2
  exact ⟨(Below.heap_alloc _ _ _ (by simp; omega)).trans ((Below.heap_alloc _ _ _ (by simp)).trans (heap_alloc_new w a)), (Below.heap_alloc _ _ _ (by simp)).trans h1, h2, (((Below.refl _ _).alloc (Nat.le_refl _) _).alloc (by simp) _).alloc (by simp; omega) _⟩
/-- What the product's code answers where both are valid. -/
def PrdPostS (a b : Au) (f : Bool → Bool → Bool) (w : World) (e : Ending) (w' : World) : Prop := ∃ m, Canon m ∧ Eqv m 0 (prd a b f) 0 ∧ CopyDB (fitD m) (decide (m.n ≤ 40)) w e w'

end Go.Proofs.YthmfncklepkddaaGreatDoor

/-
  Concatenations and repetitions as searches over a state and a set of states: what a key accepts. Of no function of the program.
  The minimal automaton of a search that may meet too many keys, as an answer: concatenations, repetitions. Of no function of the program but the answers' names.
-/
namespace Go.Proofs.YthmfncklepkddaaGreatDoor

/-- A set of states, ascending: one more. -/
def putS : List Nat → Nat → List Nat
  | [], q => [q]
  | x :: s, q => if x < q then x :: putS s q else if x = q then x :: s else q :: x :: s
theorem mem_putS {x q : Nat} : ∀ {s : List Nat}, x ∈ putS s q ↔ x = q ∨ x ∈ s
  | [] => by simp [putS]
  | y :: s => by
    unfold putS
    by_cases h1 : y < q
    · rw [if_pos h1, List.mem_cons, mem_putS, List.mem_cons]
      constructor
      · rintro (h | h | h)
        · exact .inr (.inl h)
        · exact .inl h
        · exact .inr (.inr h)
      · rintro (h | h | h)
        · exact .inr (.inl h)
        · exact .inl h
        · exact .inr (.inr h)
    · rw [if_neg h1]
      by_cases h2 : y = q
      · subst h2
        rw [if_pos rfl]
        simp
      · rw [if_neg h2]
        simp
theorem putS_asc {q : Nat} : ∀ {s : List Nat}, s.Pairwise (· < ·) → (putS s q).Pairwise (· < ·)
  | [], _ => by simp [putS]
  | y :: s, h => by
    obtain ⟨h0, h'⟩ := List.pairwise_cons.1 h
    unfold putS
    by_cases h1 : y < q
    · rw [if_pos h1]
      refine List.pairwise_cons.2 ⟨fun z hz => ?_, putS_asc h'⟩
      rcases mem_putS.1 hz with rfl | hz
      · exact h1
      · exact h0 z hz
    · rw [if_neg h1]
      by_cases h2 : y = q
      · rw [if_pos h2]
        exact h
      · rw [if_neg h2]
        refine List.pairwise_cons.2 ⟨fun z hz => ?_, h⟩
        rcases List.mem_cons.1 hz with rfl | hz
        · omega
        · have := h0 z hz
          omega
/-- Two ascending lists with the same elements are the same. -/
theorem asc_eq : ∀ {s t : List Nat}, s.Pairwise (· < ·) → t.Pairwise (· < ·) → (∀ x, x ∈ s ↔ x ∈ t) → s = t
  | [], [], _, _, _ => rfl
  | [], y :: t, _, _, h => absurd ((h y).2 (List.mem_cons_self ..)) (by simp)
  | y :: s, [], _, _, h => absurd ((h y).1 (List.mem_cons_self ..)) (by simp)
  | x :: s, y :: t, hs, ht, h => by
    obtain ⟨hs0, hs'⟩ := List.pairwise_cons.1 hs
    obtain ⟨ht0, ht'⟩ := List.pairwise_cons.1 ht
    have e : x = y := by
      rcases List.mem_cons.1 ((h x).1 (List.mem_cons_self ..)) with e | hx
      · exact e
      · rcases List.mem_cons.1 ((h y).2 (List.mem_cons_self ..)) with e | hy
        · exact e.symm
        · have := ht0 x hx
          have := hs0 y hy
          omega
    subst e
    rw [asc_eq hs' ht' (fun z => ?_)]
    constructor
    · intro hz
      rcases List.mem_cons.1 ((h z).1 (List.mem_cons_of_mem _ hz)) with rfl | h2
      · have := hs0 z hz
        omega
      · exact h2
    · intro hz
      rcases List.mem_cons.1 ((h z).2 (List.mem_cons_of_mem _ hz)) with rfl | h2
      · have := ht0 z hz
        omega
      · exact h2
/-- The set after a letter. -/
def moveS (d : Au) (s : List Nat) (k : Nat) : List Nat := s.foldl (fun out q => putS out (d.T q k)) []
theorem mem_move_from {d : Au} {k x : Nat} : ∀ (s o : List Nat), x ∈ s.foldl (fun out q => putS out (d.T q k)) o ↔ x ∈ o ∨ ∃ q ∈ s, d.T q k = x
  | [], o => by simp
  | y :: s, o => by
    rw [List.foldl_cons, mem_move_from s, mem_putS]
    constructor
    · rintro ((rfl | h) | ⟨q, hq, e⟩)
      · exact .inr ⟨y, List.mem_cons_self .., rfl⟩
      · exact .inl h
      · exact .inr ⟨q, List.mem_cons_of_mem _ hq, e⟩
    · rintro (h | ⟨q, hq, e⟩)
      · exact .inl (.inr h)
      · rcases List.mem_cons.1 hq with rfl | hq
        · exact .inl (.inl e.symm)
        · exact .inr ⟨q, hq, e⟩
theorem mem_move {d : Au} {k x : Nat} {s : List Nat} : x ∈ moveS d s k ↔ ∃ q ∈ s, d.T q k = x := by
  unfold moveS
  rw [mem_move_from]
  simp
theorem move_from_asc {d : Au} {k : Nat} : ∀ (s o : List Nat), o.Pairwise (· < ·) → (s.foldl (fun out q => putS out (d.T q k)) o).Pairwise (· < ·)
  | [], _, h => h
  | _ :: s, _, h => move_from_asc s _ (putS_asc h)
theorem move_asc (d : Au) (s : List Nat) (k : Nat) : (moveS d s k).Pairwise (· < ·) := move_from_asc s [] List.Pairwise.nil
def anyS (d : Au) (s : List Nat) : Bool := s.any d.A
theorem anyS_iff {d : Au} {s : List Nat} : anyS d s = true ↔ ∃ q ∈ s, d.A q = true := by simp [anyS]

/-- The concatenation's search. -/
def catS (a : Au) : Nat × List Nat := (0, if a.A 0 then [0] else [])
def catG (a b : Au) (x : Nat × List Nat) (k : Nat) : Nat × List Nat := (a.T x.1 k, if a.A (a.T x.1 k) then putS (moveS b x.2 k) 0 else moveS b x.2 k)
/-- What a key accepts: a state of the set does, or the word is divided later on. -/
def catL (a b : Au) (x : Nat × List Nat) (w : List Nat) : Prop := (∃ q ∈ x.2, b.A (b.run q w) = true) ∨ ∃ u v, w = u ++ v ∧ u ≠ [] ∧ a.A (a.run x.1 u) = true ∧ b.A (b.run 0 v) = true
theorem catL_nil (a b : Au) (x : Nat × List Nat) : catL a b x [] ↔ anyS b x.2 = true := by
  rw [anyS_iff]
  unfold catL
  constructor
  · rintro (h | ⟨u, v, e, hu, _⟩)
    · exact h
    · exact absurd (List.append_eq_nil_iff.1 e.symm).1 hu
  · exact fun h => .inl h
theorem catL_step (a b : Au) (x : Nat × List Nat) (k : Nat) (w : List Nat) : catL a b (catG a b x k) w ↔ catL a b x (k :: w) := by
  have hm : ∀ q, q ∈ (catG a b x k).2 ↔ (a.A (a.T x.1 k) = true ∧ q = 0) ∨ ∃ p ∈ x.2, b.T p k = q := fun q => by
    unfold catG
    by_cases h : a.A (a.T x.1 k) = true
    · simp only [h, if_true]
      rw [mem_putS, mem_move]
      simp
    · simp only [h]
      simp only [Bool.false_eq_true, if_false, false_and, false_or]
      exact mem_move
  unfold catL
  constructor
  · rintro (⟨q, hq, hb⟩ | ⟨u, v, rfl, hu, ha, hb⟩)
    · rcases (hm q).1 hq with ⟨ha, rfl⟩ | ⟨p, hp, rfl⟩
      · exact .inr ⟨[k], w, rfl, by simp, ha, hb⟩
      · exact .inl ⟨p, hp, hb⟩
    · exact .inr ⟨k :: u, v, rfl, by simp, ha, hb⟩
  · rintro (⟨p, hp, hb⟩ | ⟨u, v, e, hu, ha, hb⟩)
    · exact .inl ⟨b.T p k, (hm _).2 (.inr ⟨p, hp, rfl⟩), hb⟩
    · cases u with
      | nil => exact absurd rfl hu
      | cons y u =>
        injection e with e1 e2
        subst e1
        cases u with
        | nil =>
          have e3 : w = v := e2
          subst e3
          exact .inl ⟨0, (hm 0).2 (.inl ⟨ha, rfl⟩), hb⟩
        | cons z u => exact .inr ⟨z :: u, v, e2, by simp, ha, hb⟩
theorem catL_start (a b : Au) (w : List Nat) : catL a b (catS a) w ↔ ∃ u v, w = u ++ v ∧ a.A (a.run 0 u) = true ∧ b.A (b.run 0 v) = true := by
  unfold catL catS
  constructor
  · rintro (⟨q, hq, hb⟩ | ⟨u, v, e, _, ha, hb⟩)
    · by_cases h : a.A 0 = true
      · simp only [h, if_true, List.mem_singleton] at hq
        subst hq
        exact ⟨[], w, rfl, h, hb⟩
      · simp only [h] at hq
        simp at hq
    · exact ⟨u, v, e, ha, hb⟩
  · rintro ⟨u, v, e, ha, hb⟩
    cases u with
    | nil =>
      have e3 : w = v := e
      subst e3
      have h : a.A 0 = true := ha
      exact .inl ⟨0, by simp [h], hb⟩
    | cons y u => exact .inr ⟨y :: u, v, e, by simp, ha, hb⟩

/-- A word that can be divided into words of d. -/
inductive StarW (d : Au) : List Nat → Prop
  | nil : StarW d []
  | app (u v : List Nat) : u ≠ [] → d.A (d.run 0 u) = true → StarW d v → StarW d (u ++ v)
theorem StarW.more {d : Au} {u v : List Nat} (ha : d.A (d.run 0 u) = true) (hv : StarW d v) : StarW d (u ++ v) := by
  by_cases hu : u = []
  · rw [hu]
    exact hv
  · exact .app u v hu ha hv
/-- The repetition's search: a mark for the first key, and a set. -/
def starS : Bool × List Nat := (true, [0])
def starG (d : Au) (x : Bool × List Nat) (k : Nat) : Bool × List Nat := (false, if anyS d (moveS d x.2 k) then putS (moveS d x.2 k) 0 else moveS d x.2 k)
def starA (d : Au) (x : Bool × List Nat) : Bool := x.1 || anyS d x.2
/-- With an accepting state the set holds the first state. -/
def StarC (d : Au) (x : Bool × List Nat) : Prop := (∃ q ∈ x.2, d.A q = true) → 0 ∈ x.2
theorem starC_start (d : Au) : StarC d starS := fun _ => by simp [starS]
theorem mem_starG {d : Au} {x : Bool × List Nat} {k q : Nat} : q ∈ (starG d x k).2 ↔ (∃ p ∈ x.2, d.T p k = q) ∨ ((∃ p ∈ x.2, d.A (d.T p k) = true) ∧ q = 0) := by
  have ha : anyS d (moveS d x.2 k) = true ↔ ∃ p ∈ x.2, d.A (d.T p k) = true := by
    rw [anyS_iff]
    constructor
    · rintro ⟨q, hq, h⟩
      obtain ⟨p, hp, rfl⟩ := mem_move.1 hq
      exact ⟨p, hp, h⟩
    · rintro ⟨p, hp, h⟩
      exact ⟨_, mem_move.2 ⟨p, hp, rfl⟩, h⟩
  unfold starG
  by_cases h : anyS d (moveS d x.2 k) = true
  · simp only [h, if_true]
    rw [mem_putS, mem_move]
    have := ha.1 h
    constructor
    · rintro (rfl | h2)
      · exact .inr ⟨this, rfl⟩
      · exact .inl h2
    · rintro (h2 | ⟨_, rfl⟩)
      · exact .inr h2
      · exact .inl rfl
  · have hn : ¬ ∃ p ∈ x.2, d.A (d.T p k) = true := fun h2 => h (ha.2 h2)
    simp only [h]
    simp only [Bool.false_eq_true, if_false]
    rw [mem_move]
    constructor
    · exact fun h2 => .inl h2
    · rintro (h2 | ⟨h2, _⟩)
      · exact h2
      · exact absurd h2 hn
theorem starC_step (d : Au) (x : Bool × List Nat) (k : Nat) : StarC d (starG d x k) := by
  rintro ⟨q, hq, h⟩
  rcases mem_starG.1 hq with ⟨p, hp, rfl⟩ | ⟨h2, _⟩
  · exact mem_starG.2 (.inr ⟨⟨p, hp, h⟩, rfl⟩)
  · exact mem_starG.2 (.inr ⟨h2, rfl⟩)
/-- What a key accepts. -/
def starL (d : Au) (x : Bool × List Nat) (w : List Nat) : Prop := (x.1 = true ∧ w = []) ∨ ∃ q ∈ x.2, ∃ u v, w = u ++ v ∧ d.A (d.run q u) = true ∧ StarW d v
theorem starL_nil (d : Au) (x : Bool × List Nat) : starL d x [] ↔ starA d x = true := by
  unfold starL starA
  rw [Bool.or_eq_true, anyS_iff]
  constructor
  · rintro (⟨h, _⟩ | ⟨q, hq, u, v, e, ha, _⟩)
    · exact .inl h
    · rw [(List.append_eq_nil_iff.1 e.symm).1] at ha
      exact .inr ⟨q, hq, ha⟩
  · rintro (h | ⟨q, hq, ha⟩)
    · exact .inl ⟨h, rfl⟩
    · exact .inr ⟨q, hq, [], [], rfl, ha, .nil⟩
theorem starL_step (d : Au) (x : Bool × List Nat) (hx : StarC d x) (k : Nat) (w : List Nat) : starL d (starG d x k) w ↔ starL d x (k :: w) := by
  unfold starL
  constructor
  · rintro (⟨h, _⟩ | ⟨q, hq, u, v, e, ha, hv⟩)
    · exact absurd h (by simp [starG])
    · subst e
      rcases mem_starG.1 hq with ⟨p, hp, rfl⟩ | ⟨⟨p, hp, hpa⟩, rfl⟩
      · exact .inr ⟨p, hp, k :: u, v, rfl, ha, hv⟩
      · exact .inr ⟨p, hp, [k], u ++ v, rfl, hpa, hv.more ha⟩
  · rintro (⟨_, h⟩ | ⟨q, hq, u, v, e, ha, hv⟩)
    · cases h
    · cases u with
      | nil =>
        have e3 : k :: w = v := e
        subst e3
        have h0 := hx ⟨q, hq, ha⟩
        generalize hy : k :: w = y at hv
        cases hv with
        | nil => cases hy
        | app u' v' hu' ha' hv' =>
          cases u' with
          | nil => exact absurd rfl hu'
          | cons z u' =>
            injection hy with e1 e2
            subst e1
            exact .inr ⟨d.T 0 k, mem_starG.2 (.inl ⟨0, h0, rfl⟩), u', v', e2, ha', hv'⟩
      | cons z u =>
        injection e with e1 e2
        subst e1
        exact .inr ⟨d.T q k, mem_starG.2 (.inl ⟨q, hq, rfl⟩), u, v, e2, ha, hv⟩
theorem starL_start (d : Au) (w : List Nat) : starL d starS w ↔ StarW d w := by
  unfold starL starS
  constructor
  · rintro (⟨_, rfl⟩ | ⟨q, hq, u, v, rfl, ha, hv⟩)
    · exact .nil
    · simp only [List.mem_singleton] at hq
      subst hq
      exact hv.more ha
  · intro h
    cases h with
    | nil => exact .inl ⟨rfl, rfl⟩
    | app u v _ ha hv => exact .inr ⟨0, by simp, u, v, rfl, ha, hv⟩
end Go.Proofs.YthmfncklepkddaaGreatDoor

namespace Go.Proofs.YthmfncklepkddaaGreatDoor
open Go.RowKit

section
variable {α : Type} [DecidableEq α] [Inhabited α] {s0 : α} {g : α → Nat → α} {M : Nat}
theorem Ends.one {N N' : Nat} (h : Ends s0 g N) (h' : Ends s0 g N') : N = N' := by
  rcases Nat.lt_trichotomy N N' with hl | e | hl
  · have := h'.on N hl
    have := h.stop
    omega
  · exact e
  · have := h.on N' hl
    have := h'.stop
    omega
/-- The search is alive at row i and has met too many: it does not end below. -/
theorem Ends.not_big {i N M : Nat} (ha : ∀ j, j ≤ i → j < (ords s0 g (3 * j)).length) (hb : M < (ords s0 g (3 * (i + 1))).length) (hN : N ≤ M) : ¬ Ends s0 g N := fun h => by
  have hi : i < N := by
    apply Nat.lt_of_not_le
    intro hle
    have := ha N hle
    have := h.stop
    omega
  have h1 := (ords_prefix (s0 := s0) (g := g) (show 3 * (i + 1) ≤ 3 * N by omega)).length_le
  have := h.stop
  omega
/-- The answer of a search: at most M keys, and the minimal automaton has not too many states. -/
def srchR (M : Nat) (s0 : α) (g : α → Nat → α) (acc : α → Bool) (y : Dx) (ok : Bool) : Prop :=
  (∃ N, N ≤ M ∧ Ends s0 g N ∧ ∃ m, Canon m ∧ Eqv m 0 (found s0 g acc N) 0 ∧ y = fitD m ∧ ok = decide (m.n ≤ 40)) ∨ ((∀ N, N ≤ M → ¬ Ends s0 g N) ∧ y = ⟨[], []⟩ ∧ ok = false)
theorem srchR_some (M : Nat) (s0 : α) (g : α → Nat → α) (acc : α → Bool) : ∃ y ok, srchR M s0 g acc y ok := by
  by_cases h : ∃ N, N ≤ M ∧ Ends s0 g N
  · obtain ⟨N, hN, hE⟩ := h
    obtain ⟨m, h1, h2, _⟩ := exists_min (hE.wf acc)
    exact ⟨_, _, .inl ⟨N, hN, hE, m, h1, h2, rfl, rfl⟩⟩
  · exact ⟨_, _, .inr ⟨fun N hN hE => h ⟨N, hN, hE⟩, rfl, rfl⟩⟩
theorem srchR_yes {acc : α → Bool} {y : Dx} {ok : Bool} (h : srchR M s0 g acc y ok) {N : Nat} (hN : N ≤ M) (hE : Ends s0 g N) {m : Au} (h1 : Canon m) (h2 : Eqv m 0 (found s0 g acc N) 0) : fitD m = y ∧ decide (m.n ≤ 40) = ok := by
  rcases h with ⟨N', _, hE', m', n1, n2, rfl, rfl⟩ | ⟨hn, _⟩
  · have e := hE.one hE'
    subst e
    exact fit_one h1 n1 (h2.swap n2)
  · exact absurd hE (hn N hN)
theorem srchR_no {acc : α → Bool} {y : Dx} {ok : Bool} (h : srchR M s0 g acc y ok) (hn : ∀ N, N ≤ M → ¬ Ends s0 g N) : y = ⟨[], []⟩ ∧ ok = false := by
  rcases h with ⟨N, hN, hE, _⟩ | ⟨_, h⟩
  · exact absurd hE (hn N hN)
  · exact h
theorem srchR_wt {acc : α → Bool} {y : Dx} {ok : Bool} (h : srchR M s0 g acc y ok) : wtD y ≤ 1048576 := by
  rcases h with ⟨_, _, _, m, _, _, rfl, _⟩ | ⟨_, rfl, _⟩
  · exact fitD_wt m
  · decide
/-- What the answer accepts. -/
theorem srchR_lang {acc : α → Bool} {y : Dx} (h : srchR M s0 g acc y true) {L : α → List Nat → Prop} (h0 : ∀ x, L x [] ↔ acc x = true) {I : α → Prop} (hI0 : I s0) (hIs : ∀ x k, I x → I (g x k)) (h1 : ∀ x, I x → ∀ k w, L (g x k) w ↔ L x (k :: w)) :
    ∃ m, Canon m ∧ m.n ≤ 40 ∧ y = fieldsOf m ∧ ∀ w, W3 w → (m.A (m.run 0 w) = true ↔ L s0 w) := by
  rcases h with ⟨N, _, hE, m, n1, n2, rfl, hok⟩ | ⟨_, _, hf⟩
  · have hn : m.n ≤ 40 := by simpa using hok.symm
    have hI : ∀ t, t ≤ 3 * N → ∀ x ∈ ords s0 g t, I x := by
      intro t
      induction t with
      | zero =>
        intro _ x hx
        rw [ords, List.mem_singleton] at hx
        rw [hx]
        exact hI0
      | succ t ih =>
        intro ht x hx
        have hk : I ((ords s0 g t).getD (t / 3) default) := by
          refine ih (by omega) _ (getD_mem ?_)
          have h1 := hE.on (t / 3) (by omega)
          have h2 := (ords_prefix (s0 := s0) (g := g) (show 3 * (t / 3) ≤ t by omega)).length_le
          omega
        rw [ords] at hx
        split at hx
        · exact ih (by omega) x hx
        · rcases List.mem_append.1 hx with h | h
          · exact ih (by omega) x h
          · rw [List.mem_singleton.1 h]
            exact hIs _ _ hk
    refine ⟨m, n1, hn, by unfold fitD; rw [if_pos hn], fun w hw => ?_⟩
    have hl := hE.lang (acc := acc) (L := fun x w => @decide (L x w) (Classical.propDecidable _)) (fun x => by
      have := h0 x
      cases ha : acc x <;> simp [ha] at this ⊢ <;> exact this) (fun x hx k _ w _ => by
      have := h1 x (hI _ (Nat.le_refl _) x hx) k w
      exact decide_eq_decide.2 this) w 0 hw hE.pos
    rw [ords_first] at hl
    rw [n2 w hw, hl]
    exact @decide_eq_true_iff _ (Classical.propDecidable _)
  · cases hf
end
/-- ConcatDfa's and StarDfa's answers. -/
def catR (a b y : Dx) (ok : Bool) : Prop := if validD a = true ∧ validD b = true then srchR 400 (catS (auD a)) (catG (auD a) (auD b)) (fun x => anyS (auD b) x.2) y ok else y = ⟨[], []⟩ ∧ ok = false
def starR (d y : Dx) (ok : Bool) : Prop := if validD d = true then srchR 400 starS (starG (auD d)) (starA (auD d)) y ok else y = ⟨[], []⟩ ∧ ok = false
theorem catR_some (a b : Dx) : ∃ y ok, catR a b y ok := by
  unfold catR
  by_cases h : validD a = true ∧ validD b = true
  · simp only [if_pos h]
    exact srchR_some _ _ _ _
  · simp only [if_neg h]
    exact ⟨_, _, rfl, rfl⟩
theorem starR_some (d : Dx) : ∃ y ok, starR d y ok := by
  unfold starR
  by_cases h : validD d = true
  · simp only [if_pos h]
    exact srchR_some _ _ _ _
  · simp only [if_neg h]
    exact ⟨_, _, rfl, rfl⟩
/-- What a concatenation and a repetition accept. -/
theorem catR_lang {a b y : Dx} (h : catR a b y true) : validD a = true ∧ validD b = true ∧ ∃ m, Canon m ∧ m.n ≤ 40 ∧ y = fieldsOf m ∧ ∀ w, W3 w → (m.A (m.run 0 w) = true ↔ ∃ u v, w = u ++ v ∧ (auD a).A ((auD a).run 0 u) = true ∧ (auD b).A ((auD b).run 0 v) = true) := by
  unfold catR at h
  by_cases hc : validD a = true ∧ validD b = true
  · rw [if_pos hc] at h
    obtain ⟨m, h1, h2, h3, h4⟩ := srchR_lang h (L := catL (auD a) (auD b)) (fun x => catL_nil _ _ x) (I := fun _ => True) trivial (fun _ _ _ => trivial) (fun x _ k w => catL_step _ _ x k w)
    exact ⟨hc.1, hc.2, m, h1, h2, h3, fun w hw => (h4 w hw).trans (catL_start _ _ w)⟩
  · rw [if_neg hc] at h
    exact absurd h.2 (by simp)
theorem starR_lang {d y : Dx} (h : starR d y true) : validD d = true ∧ ∃ m, Canon m ∧ m.n ≤ 40 ∧ y = fieldsOf m ∧ ∀ w, W3 w → (m.A (m.run 0 w) = true ↔ StarW (auD d) w) := by
  unfold starR at h
  by_cases hc : validD d = true
  · rw [if_pos hc] at h
    obtain ⟨m, h1, h2, h3, h4⟩ := srchR_lang h (L := starL (auD d)) (fun x => starL_nil _ x) (I := StarC (auD d)) (starC_start _) (fun x k _ => starC_step _ x k) (fun x hx k w => starL_step _ x hx k w)
    exact ⟨hc, m, h1, h2, h3, fun w hw => (h4 w hw).trans (starL_start _ w)⟩
  · rw [if_neg hc] at h
    exact absurd h.2 (by simp)
end Go.Proofs.YthmfncklepkddaaGreatDoor

/-
  Sets of states as numbers: a bit for each. Of no function of the program.
-/
namespace Go.Proofs.YthmfncklepkddaaGreatDoor
open Go.RowKit

/-- The number of a set. -/
def mskS (s : List Nat) : Nat := s.foldl (fun m q => m ||| 2 ^ q) 0
theorem msk_from (i : Nat) : ∀ (s : List Nat) (m : Nat), (s.foldl (fun m q => m ||| 2 ^ q) m).testBit i = (m.testBit i || decide (i ∈ s))
  | [], m => by simp
  | q :: s, m => by
    rw [List.foldl_cons, msk_from i s, Nat.testBit_or, Nat.testBit_two_pow, Bool.or_assoc]
    congr 1
    by_cases h : q = i
    · subst h; simp
    · have h' : ¬ i = q := fun e => h e.symm
      simp [h, h']
theorem mskS_bit (s : List Nat) (i : Nat) : (mskS s).testBit i = decide (i ∈ s) := by
  unfold mskS
  rw [msk_from]
  simp
theorem mskS_lt {s : List Nat} {n : Nat} (h : ∀ q ∈ s, q < n) : mskS s < 2 ^ n := Nat.lt_pow_two_of_testBit _ (fun i hi => by
  rw [mskS_bit]
  simp only [decide_eq_false_iff_not]
  intro hm
  have := h i hm
  omega)
theorem mskS_64 {s : List Nat} (h : ∀ q ∈ s, q < 40) : mskS s < 1099511627776 := mskS_lt (n := 40) h
theorem msk_wf {s : List Nat} (h : ∀ q ∈ s, q < 40) : (Lit.int .u64 ((mskS s : Nat) : Int)).wf = true := by
  have := mskS_64 h
  simp [Lit.wf, IntKind.min, IntKind.max, IntKind.signed, IntKind.bits]
  omega
theorem msk_eq {s : List Nat} {m : Nat} (h : ∀ i, m.testBit i = decide (i ∈ s)) : m = mskS s := Nat.eq_of_testBit_eq (fun i => by rw [h, mskS_bit])
theorem msk_inj {s t : List Nat} (hs : s.Pairwise (· < ·)) (ht : t.Pairwise (· < ·)) (h : mskS s = mskS t) : s = t := asc_eq hs ht (fun x => by
  have h1 := mskS_bit s x
  rw [h, mskS_bit] at h1
  exact ⟨fun hx => by simpa [hx] using h1, fun hx => by simpa [hx] using h1.symm⟩)
theorem msk_nil : mskS [] = 0 := rfl
theorem msk_zero : mskS [0] = 1 := rfl
theorem msk_put (s : List Nat) (q : Nat) : mskS s ||| 2 ^ q = mskS (putS s q) := msk_eq (fun i => by
  rw [Nat.testBit_or, mskS_bit, Nat.testBit_two_pow]
  by_cases h : q = i
  · subst h; simp [mem_putS]
  · have h' : ¬ i = q := fun e => h e.symm
    simp [h, mem_putS, h'])
theorem msk_put0 (s : List Nat) : mskS s ||| 1 = mskS (putS s 0) := msk_put s 0
/-- Whether two sets meet. -/
theorem msk_meets (s t : List Nat) : (mskS s &&& mskS t ≠ 0) ↔ ∃ q ∈ s, q ∈ t := by
  constructor
  · intro h
    apply Classical.byContradiction
    intro hn
    apply h
    refine Nat.eq_of_testBit_eq (fun i => ?_)
    rw [Nat.testBit_and, mskS_bit, mskS_bit, Nat.zero_testBit]
    by_cases h1 : i ∈ s
    · have h2 : i ∉ t := fun h2 => hn ⟨i, h1, h2⟩
      simp [h2]
    · simp [h1]
  · rintro ⟨q, h1, h2⟩ h
    have h3 : (mskS s &&& mskS t).testBit q = true := by rw [Nat.testBit_and, mskS_bit, mskS_bit]; simp [h1, h2]
    rw [h, Nat.zero_testBit] at h3
    cases h3
/-- The accepting states below n. -/
def accS (d : Au) (n : Nat) : List Nat := (List.range n).filter d.A
theorem accS_succ_yes {d : Au} {n : Nat} (h : d.A n = true) : mskS (accS d n) ||| 2 ^ n = mskS (accS d (n + 1)) := msk_eq (fun i => by
  rw [Nat.testBit_or, mskS_bit, Nat.testBit_two_pow]
  by_cases e : n = i
  · subst e; simp [accS, h]
  · have h1 : (i < n + 1) = (i < n) := propext ⟨fun h => by omega, fun h => by omega⟩
    simp [e, accS, h1])
theorem accS_succ_no {d : Au} {n : Nat} (h : d.A n = false) : accS d (n + 1) = accS d n := by simp [accS, List.range_succ, h]
theorem accS_lt {d : Au} {n q : Nat} (h : q ∈ accS d n) : q < n := by simp [accS] at h; exact h.1
theorem any_meets {d : Au} {s : List Nat} (hs : ∀ q ∈ s, q < d.n) : anyS d s = decide (mskS s &&& mskS (accS d d.n) ≠ 0) := by
  rw [Bool.eq_iff_iff, anyS_iff, decide_eq_true_iff, msk_meets]
  constructor
  · rintro ⟨q, h1, h2⟩
    exact ⟨q, h1, by simp [accS, h2]; exact hs q h1⟩
  · rintro ⟨q, h1, h2⟩
    exact ⟨q, h1, by simp [accS] at h2; exact h2.2⟩

/-! One state after the other: the lowest bit, and what is left. -/
theorem ctz_bit {x : Nat} (h0 : x ≠ 0) (h : x < 18446744073709551616) : Lib.ctz 64 x < 64 ∧ x.testBit (Lib.ctz 64 x) = true := by
  obtain ⟨h1, h2⟩ := Lib.lowest_bit 64 x h0 h
  refine ⟨h2, ?_⟩
  have h3 : (x &&& (2 ^ 64 - x)).testBit (Lib.ctz 64 x) = true := by rw [h1, Nat.testBit_two_pow]; simp
  rw [Nat.testBit_and] at h3
  simp only [Bool.and_eq_true] at h3
  exact h3.1
/-- One bit less. -/
def dropB (x q : Nat) : Nat := x &&& (18446744073709551615 - 2 ^ q)
theorem dropB_bit {x q i : Nat} (hx : x < 18446744073709551616) (hq : q < 64) : (dropB x q).testBit i = (x.testBit i && !decide (q = i)) := by
  unfold dropB
  have h1 : (18446744073709551615 - 2 ^ q).testBit i = (decide (i < 64) && !(2 ^ q).testBit i) := by
    have h2 := Nat.testBit_two_pow_sub_succ (x := 2 ^ q) (n := 64) (Nat.pow_lt_pow_right (by decide) hq) i
    rw [← h2]
    congr 1
    show 18446744073709551615 - 2 ^ q = 18446744073709551616 - (2 ^ q + 1)
    omega
  rw [Nat.testBit_and, h1, Nat.testBit_two_pow]
  by_cases hi : i < 64
  · simp [hi]
  · have h3 : x.testBit i = false := Nat.testBit_lt_two_pow (Nat.lt_of_lt_of_le hx (Nat.pow_le_pow_right (n := 2) (by decide) (show 64 ≤ i by omega)))
    simp [h3]
theorem dropB_lt {x q : Nat} (hx : x < 18446744073709551616) (hq : q < 64) (h : x.testBit q = true) : dropB x q < x := by
  have hle : dropB x q ≤ x := Nat.and_le_left
  rcases Nat.lt_or_eq_of_le hle with h1 | h1
  · exact h1
  · have h2 := dropB_bit (i := q) hx hq
    rw [h1, h] at h2
    simp at h2
/-- What is done and what is left of a set, and the states that the letter leads to from what is done. -/
def MoveOf (d : Au) (k : Nat) (s : List Nat) (x m : Nat) : Prop := (∀ i, x.testBit i = true → i ∈ s) ∧ ∀ i, m.testBit i = true ↔ ∃ q ∈ s, x.testBit q = false ∧ d.T q k = i
theorem moveOf_start (d : Au) (k : Nat) (s : List Nat) : MoveOf d k s (mskS s) 0 := by
  refine ⟨fun i h => by rw [mskS_bit] at h; simpa using h, fun i => ?_⟩
  rw [Nat.zero_testBit]
  constructor
  · intro h; cases h
  · rintro ⟨q, h1, h2, _⟩
    rw [mskS_bit] at h2
    simp [h1] at h2
theorem moveOf_step {d : Au} {k : Nat} {s : List Nat} {x m q : Nat} (h : MoveOf d k s x m) (hx : x < 18446744073709551616) (hq : q < 64) (hb : x.testBit q = true) : MoveOf d k s (dropB x q) (m ||| 2 ^ d.T q k) := by
  refine ⟨fun i hi => ?_, fun i => ?_⟩
  · rw [dropB_bit hx hq] at hi
    simp only [Bool.and_eq_true] at hi
    exact h.1 i hi.1
  · rw [Nat.testBit_or, Nat.testBit_two_pow, Bool.or_eq_true, decide_eq_true_iff]
    constructor
    · rintro (h1 | h1)
      · obtain ⟨p, p1, p2, p3⟩ := (h.2 i).1 h1
        exact ⟨p, p1, by rw [dropB_bit hx hq, p2]; rfl, p3⟩
      · exact ⟨q, h.1 q hb, by rw [dropB_bit hx hq]; simp, h1⟩
    · rintro ⟨p, p1, p2, p3⟩
      rw [dropB_bit hx hq] at p2
      by_cases e : q = p
      · subst e
        exact .inr p3
      · refine .inl ((h.2 i).2 ⟨p, p1, ?_, p3⟩)
        simpa [e] using p2
theorem moveOf_end {d : Au} {k : Nat} {s : List Nat} {m : Nat} (h : MoveOf d k s 0 m) : m = mskS (moveS d s k) := msk_eq (fun i => by
  rw [Bool.eq_iff_iff, h.2 i, decide_eq_true_iff, mem_move]
  constructor
  · rintro ⟨q, h1, _, h3⟩
    exact ⟨q, h1, h3⟩
  · rintro ⟨q, h1, h3⟩
    exact ⟨q, h1, Nat.zero_testBit _, h3⟩)
theorem moveOf_lt {d : Au} {k : Nat} {s : List Nat} {x m n : Nat} (h : MoveOf d k s x m) (hs : ∀ q ∈ s, d.T q k < n) : m < 2 ^ n := Nat.lt_pow_two_of_testBit _ (fun i hi => by
  cases hb : m.testBit i with
  | false => rfl
  | true =>
    obtain ⟨q, h1, _, h3⟩ := (h.2 i).1 hb
    have := hs q h1
    omega)
end Go.Proofs.YthmfncklepkddaaGreatDoor

/-
  What impl.acceptingStates and the methods of impl.stateSet answer: sets of states as numbers.
-/
namespace Go.Proofs.YthmfncklepkddaaGreatDoor
open Go.RowKit

/-- The table that the lowest bit is looked up in. -/
def Tab (w : World) : Prop := TabAt 0 Lib.deBruijn64tab w
theorem Tab.kept {w w' : World} (h : Tab w) (hb : Below w.heap.size w w') : Tab w' := fun j hj => (hb.cell (cell_in (h j hj))).trans (h j hj)

set_option maxRecDepth 100000 in
set_option maxHeartbeats 1000000 in
theorem implTz_core (x k idx : Nat) (w : World) (hx0 : ((x : Int) == 0) = false)
    (key : IntKind.u64.wrap (bits BinOp.and IntKind.u64 (x : Int) (IntKind.u64.wrap (-(x : Int))) * 285870213051353865) / 288230376151711744 = (idx : Int))
    (hi : idx < 64) (hk : k < 64) (hcell : w.cell? ⟨0, idx, none⟩ = some (.int .u8 k)) :
    Calls Tryz.prog 139 #[.int .u64 x] w fun e w' => e = .returned (.int .i64 k) ∧ w = w' := by
  go_enter Tryz.func139, Tryz.ntmps139
  go_wp2_with (simp only [key])
  go_ret
  exact ⟨rfl, rfl⟩
theorem implTz_any (x : Nat) (h0 : x ≠ 0) (hx : x < 18446744073709551616) (w : World) (hT : Tab w) :
    Calls Tryz.prog 139 #[.int .u64 x] w fun e w' => e = .returned (.int .i64 (Lib.ctz 64 x)) ∧ w = w' := by
  obtain ⟨hlow, hk⟩ := Lib.lowest_bit 64 x h0 hx
  obtain ⟨hi, htab⟩ := Lib.deBruijn64_at _ hk
  have hcell := hT _ hi
  rw [htab] at hcell
  exact implTz_core x _ _ w (by simp; omega) (tz64_key x _ hx h0 hlow) hi hk hcell

theorem pow_cast (q : Nat) : ((2 ^ q : Nat) : Int) = (2 : Int) ^ q := by push_cast; rfl
theorem pow_small {q : Nat} (h : q < 64) : 2 ^ q < 18446744073709551616 := by
  have h1 : 2 ^ q < 2 ^ 64 := Nat.pow_lt_pow_right (by decide) h
  omega
theorem shl_u64 {q : Nat} (h : q < 64) : IntKind.u64.wrap (2 ^ q) = (2 : Int) ^ q := by
  have h1 := pow_small h
  rw [IntKind.wrap_u64, ← pow_cast]
  exact Int.emod_eq_of_lt (Int.natCast_nonneg _) (Int.ofNat_lt.2 h1)
theorem or_pow {a q : Nat} (ha : a < 18446744073709551616) (h : q < 64) : bits .or .u64 (a : Int) ((2 : Int) ^ q) = ((a ||| 2 ^ q : Nat) : Int) := by
  rw [← pow_cast]
  exact u64_or_nat a (2 ^ q) ha (pow_small h)
theorem or_one {a : Nat} (ha : a < 18446744073709551616) : bits .or .u64 (a : Int) 1 = ((a ||| 1 : Nat) : Int) := u64_or_nat a 1 ha (by decide)
theorem drop_pow {a q : Nat} (ha : a < 18446744073709551616) (h : q < 64) : bits .andNot .u64 (a : Int) ((2 : Int) ^ q) = ((dropB a q : Nat) : Int) := by
  rw [← pow_cast]
  exact u64_andNot_nat a (2 ^ q) ha (pow_small h)

set_option maxRecDepth 100000 in
set_option maxHeartbeats 1600000 in
theorem implAccSt_any (ad : Addr) (n c : Nat) (vn : Value) (a : Au) (w : World) (hn : n ≤ 40) (hA : ∀ q, q < n → w.cell? (ad.add q) = some (.bool (a.A q))) :
    Calls Tryz.prog 104 #[.agg #[.slice (some ad) n c, vn]] w fun e w' => e = .returned (.int .u64 ((mskS (accS a n) : Nat) : Int)) ∧ Below w.heap.size w w' := by
  obtain ⟨W0, hW0⟩ : ∃ W0, W0 = w.alloc (.cells #[.slice (some ad) n c, vn] 31) := ⟨_, rfl⟩
  have HB0 : Hid (Below w.heap.size w W0) := Lib.hid (by rw [hW0]; exact (Below.refl _ _).alloc (Nat.le_refl _) _)
  obtain ⟨c0, -, -, -⟩ := box2_facts (show W0.heap[w.heap.size]? = some (.cells #[.slice (some ad) n c, vn] 31 (0, 0)) by rw [hW0]; exact heap_alloc_new w _)
  have HA := Lib.hid (fun q (hq : q < n) => (HB0.out.cell (cell_in (hA q hq))).trans (hA q hq))
  have h0 : mskS (accS a 0) = 0 := rfl
  clear hA
  rw [hW0] at c0
  go_enter Tryz.func104, Tryz.ntmps104
  go_wp2_with fail
  rw [← hW0]
  clear c0 hW0
  go_loopw [3, 9] (fun sv iv wr => ∃ q : Nat, sv = .int .u64 ((mskS (accS a q) : Nat) : Int) ∧ iv = .int .i64 q ∧ q ≤ n ∧ W0 = wr) (fun _ iv _ => n - (intOf iv).toNat)
  case atStart => exact ⟨0, by rw [h0]; rfl, rfl, Nat.zero_le _, rfl⟩
  case round =>
    obtain ⟨q, rfl, rfl, hq, rfl⟩ := hrel
    by_cases hlt : q < n
    · have hc := HA.out q hlt
      have hd : decide ((q : Int) < (n : Int)) = true := by simp; omega
      have s1 : (0 : Int) ≤ (q : Int) := by omega
      have s2 : (q : Int) < (n : Int) := by omega
      obtain ⟨b, hb⟩ : ∃ b, b = a.A q := ⟨_, rfl⟩
      rw [← hb] at hc
      cases b with
      | true =>
        have hm1 : mskS (accS a q) < 1099511627776 := mskS_64 (fun p hp => by have := accS_lt hp; omega)
        have hor := or_pow (a := mskS (accS a q)) (q := q) (by omega) (by omega)
        rw [accS_succ_yes hb.symm] at hor
        have hsh := shl_u64 (q := q) (by omega)
        obtain ⟨m, hm⟩ : ∃ m, m = mskS (accS a q) := ⟨_, rfl⟩
        obtain ⟨m2, hm2'⟩ : ∃ m, m = mskS (accS a (q + 1)) := ⟨_, rfl⟩
        rw [← hm, ← hm2'] at hor
        have HE := Lib.hid hm2'
        rw [← hm]
        clear hm1 hm hm2' hb
        go_wp2_with fail
        go_roundw
        case rel => exact ⟨q + 1, by rw [HE.out], by go_num, by omega, trivial⟩
        case measure => simp [intOf]; omega
      | false =>
        have HE := Lib.hid (accS_succ_no hb.symm)
        obtain ⟨m, hm⟩ : ∃ m, m = mskS (accS a q) := ⟨_, rfl⟩
        rw [← hm]
        have HM := Lib.hid hm
        clear hm hb
        go_wp2_with fail
        go_roundw
        case rel => exact ⟨q + 1, by rw [HE.out, HM.out], by go_num, by omega, trivial⟩
        case measure => simp [intOf]; omega
    · obtain rfl : q = n := by omega
      have hd : decide ((q : Int) < (q : Int)) = false := by simp
      go_wp2_with fail
      go_ret
      exact ⟨rfl, HB0.out⟩

theorem implMeets_any (x y : Nat) (hx : x < 18446744073709551616) (hy : y < 18446744073709551616) (w : World) :
    Calls Tryz.prog 106 #[.int .u64 (x : Int), .int .u64 (y : Int)] w fun e w' => e = .returned (.bool (decide (x &&& y ≠ 0))) ∧ w = w' := by
  have hand := u64_and_nat x y hx hy
  obtain ⟨z, hz⟩ : ∃ z, z = x &&& y := ⟨_, rfl⟩
  rw [← hz] at hand ⊢
  have HR : Hid (decide (z ≠ 0) = ((z : Int) != 0)) := Lib.hid (by
    by_cases h : z = 0
    · subst h; rfl
    · simp [h])
  clear hz
  go_enter Tryz.func106, Tryz.ntmps106
  go_wp2_with fail
  go_ret
  exact ⟨congrArg (fun b : Bool => Ending.returned (.bool b)) HR.out.symm, rfl⟩

set_option maxRecDepth 100000 in
set_option maxHeartbeats 3200000 in
theorem implMove_any (va : Value) (aN : Addr) (n c k : Nat) (a : Au) (s : List Nat) (w : World) (hn : n ≤ 40) (hk : k < 3) (hs : ∀ q ∈ s, q < n) (hw : ∀ q, q < n → a.T q k < n) (hT : ∀ q, q < n → ∃ r q', w.cell? (aN.add q) = some (.slice (some r) 3 q') ∧ w.cell? (r.add k) = some (.int .i64 ((a.T q k : Nat) : Int))) (hTab : Tab w) :
    Calls Tryz.prog 103 #[.int .u64 ((mskS s : Nat) : Int), .agg #[va, .slice (some aN) n c], .int .i64 (k : Int)] w fun e w' => e = .returned (.int .u64 ((mskS (moveS a s k) : Nat) : Int)) ∧ Below w.heap.size w w' := by
  obtain ⟨W0, hW0⟩ : ∃ W0, W0 = w.alloc (.cells #[va, .slice (some aN) n c] 31) := ⟨_, rfl⟩
  have HB0 : Hid (Below w.heap.size w W0) := Lib.hid (by rw [hW0]; exact (Below.refl _ _).alloc (Nat.le_refl _) _)
  obtain ⟨-, c1, -, -⟩ := box2_facts (show W0.heap[w.heap.size]? = some (.cells #[va, .slice (some aN) n c] 31 (0, 0)) by rw [hW0]; exact heap_alloc_new w _)
  have HT := Lib.hid (fun q (hq : q < n) => (by
    obtain ⟨r, q', h1, h2⟩ := hT q hq
    exact ⟨r, q', (HB0.out.cell (cell_in h1)).trans h1, (HB0.out.cell (cell_in h2)).trans h2⟩ : ∃ r q', W0.cell? (aN.add q) = some (.slice (some r) 3 q') ∧ W0.cell? (r.add k) = some (.int .i64 ((a.T q k : Nat) : Int))))
  have HTab := Lib.hid (hTab.kept HB0.out)
  have HS := Lib.hid hs
  have HW := Lib.hid hw
  have hm0 := mskS_64 (s := s) (fun q hq => by have := hs q hq; omega)
  have HM0 := Lib.hid (moveOf_start a k s)
  obtain ⟨x0, hx0⟩ : ∃ x, x = mskS s := ⟨_, rfl⟩
  rw [← hx0] at HM0 hm0 ⊢
  have hx64 : x0 < 18446744073709551616 := by omega
  clear hT hTab hs hw hx0 hm0
  go_enter Tryz.func103, Tryz.ntmps103
  go_wp2_with fail
  rw [← hW0]
  clear hW0
  go_loopw [0, 7] (fun sv mv wr => ∃ x m : Nat, sv = .int .u64 (x : Int) ∧ mv = .int .u64 (m : Int) ∧ x < 18446744073709551616 ∧ Hid (MoveOf a k s x m) ∧ W0 = wr) (fun sv _ _ => (intOf sv).toNat)
  case atStart => exact ⟨x0, 0, rfl, rfl, hx64, HM0, rfl⟩
  case round =>
    obtain ⟨x, m, rfl, rfl, hx, HM, rfl⟩ := hrel
    clear HM0 hx64
    by_cases hne : x = 0
    · have HE := Lib.hid (moveOf_end (d := a) (k := k) (s := s) (m := m) (by rw [← hne]; exact HM.out))
      have hd : ((x : Int) != 0) = false := by simp [hne]
      clear hne
      go_wp2_with fail
      go_ret
      exact ⟨congrArg (fun z : Nat => Ending.returned (.int .u64 (z : Int))) HE.out, HB0.out⟩
    · have hd : ((x : Int) != 0) = true := by simp; omega
      obtain ⟨hq64, hbit⟩ := ctz_bit hne hx
      have HTz := Lib.hid (implTz_any x hne hx W0 HTab.out)
      obtain ⟨q, hqe⟩ : ∃ q, q = Lib.ctz 64 x := ⟨_, rfl⟩
      rw [← hqe] at HTz hq64 hbit
      have hqn := HS.out q (HM.out.1 q hbit)
      have hy := HW.out q hqn
      obtain ⟨r, q', h1, h2⟩ := HT.out q hqn
      have hmlt : m < 1099511627776 := Nat.lt_of_lt_of_le (moveOf_lt HM.out (fun p hp => HW.out p (HS.out p hp))) (Nat.pow_le_pow_right (n := 2) (by decide) hn)
      have HM2 := Lib.hid (moveOf_step HM.out hx hq64 hbit)
      have hdl := dropB_lt hx hq64 hbit
      obtain ⟨y, hye⟩ : ∃ y, y = a.T q k := ⟨_, rfl⟩
      rw [← hye] at hy h2 HM2
      have hor := or_pow (a := m) (q := y) (by omega) (by omega)
      have hdr := drop_pow hx hq64
      have hsh1 := shl_u64 (q := y) (by omega)
      have hsh2 := shl_u64 hq64
      obtain ⟨m2, hm2⟩ : ∃ z, z = m ||| 2 ^ y := ⟨_, rfl⟩
      obtain ⟨x2, hx2⟩ : ∃ z, z = dropB x q := ⟨_, rfl⟩
      rw [← hm2] at hor HM2
      rw [← hx2] at hdr HM2 hdl
      have s1 : (0 : Int) ≤ (q : Int) := by omega
      have s2 : (q : Int) < (n : Int) := by omega
      have s3 : (0 : Int) ≤ (k : Int) := by omega
      have s4 : (k : Int) < 3 := by omega
      have s5 : (0 : Int) ≤ (y : Int) := by omega
      clear hqe hye hm2 hx2 hbit hne
      go_wp2_with (go_at_call 139; refine HTz.out.mono ?_; rintro e w' ⟨rfl, rfl⟩)
      go_roundw
      case rel => exact ⟨x2, m2, rfl, rfl, by omega, HM2, trivial⟩
      case measure => simp [intOf]; omega
end Go.Proofs.YthmfncklepkddaaGreatDoor

/-
  From the row's condition on the listed variable to what the walks ask of the world.
-/
namespace Go.Proofs.YthmfncklepkddaaGreatDoor
open Go.RowKit

theorem gTab : Tryz.prog.globalNamed "math/bits.deBruijn64tab" = some 0 := by kernel_rfl
theorem tab_of_laid {l : List (String × DataW Unit)} {W : World} (hp : (l.all fun x => x.2.handleName?.isNone) = true)
    (hf : (l.filter fun x => x.1 == "math/bits.deBruijn64tab") = [("math/bits.deBruijn64tab", Rows.laid_math_bits_deBruijn64tab)])
    (h : laidMetH Tryz.prog l W) : Tab W := by
  rw [MakeChecks.laidMetH_plain _ _ _ hp] at h
  have h1 := h.filter fun x => x.1 == "math/bits.deBruijn64tab"
  rw [hf] at h1
  have h2 : Lib.TabIs Tryz.prog W "math/bits.deBruijn64tab" .u8 (Lib.deBruijn64tab.map fun x : Nat => (x : Int)) :=
    Lib.tabIs_of_head (t := 189) (e := 5) (n := 64) gTab (by kernel_rfl) Tryz.underlying189 Tryz.underlying5 (by kernel_rfl) (by kernel_rfl) h1
  intro j hj
  have h3 := Lib.TabIs.cell h2 gTab j (by rw [List.length_map]; exact hj)
  rw [h3]
  simp [List.getD_eq_getElem?_getD, hj]
theorem catR_wt {a b y : Dx} {ok : Bool} (h : catR a b y ok) : wtD y ≤ 1048576 := by
  unfold catR at h
  split at h
  · exact srchR_wt h
  · rw [h.1]; decide
theorem starR_wt {d y : Dx} {ok : Bool} (h : starR d y ok) : wtD y ≤ 1048576 := by
  unfold starR at h
  split at h
  · exact srchR_wt h
  · rw [h.1]; decide
end Go.Proofs.YthmfncklepkddaaGreatDoor

/-
  What laws.heldBoolS answers.
-/
namespace Go.Proofs.YthmfncklepkddaaGreatDoor
open Go.RowKit

set_option maxRecDepth 100000 in
set_option maxHeartbeats 800000 in
theorem heldBoolS_any (k0 n : Nat) (v : Value) (S : Nat → Prop) (w : World) (h : RowV w S v (bools (boolMark k0 n))) (hn : n ≤ 2097152) (hk : k0 ≤ 16777216) :
    Calls Tryz.prog 53 #[v, .int .i64 (k0 : Int)] w fun e w' => e = .returned (.int .i64 ((k0 + n : Nat) : Int)) ∧ ∃ m, w' = w.drewN m := by
  obtain ⟨A, c, rfl⟩ := h.shape
  have HE := Lib.hid (fun j (hj : j < n) => h.at (j := j) (by rw [bools_length, boolMark_length]; exact hj))
  clear h
  rw [bools_length, boolMark_length]
  go_enter Tryz.func53, Tryz.ntmps53
  go_wp2_with fail
  go_loopw [1, 5] (fun y i wr => ∃ j m : Nat, i = .int .i64 j ∧ y = .int .i64 ((k0 + j : Nat) : Int) ∧ j ≤ n ∧ wr = w.drewN m) (fun _ i _ => n - (intOf i).toNat)
  case atStart => exact ⟨0, 0, rfl, rfl, Nat.zero_le _, rfl⟩
  case round =>
    obtain ⟨j, m, rfl, rfl, hj, rfl⟩ := hrel
    by_cases hlt : j < n
    · obtain ⟨ad, rfl, -, hc1⟩ := HE.out j hlt
      rw [bools_at (by rw [boolMark_length]; exact hlt), boolMark_at hlt] at hc1
      have hne : (((((k0 : Int) + (j : Int)) % 3 == 0)) != ((((k0 : Int) + (j : Int)) % 3 == 0))) = false := by simp
      go_wp2_with fail
      go_roundw
      case rel => exact ⟨j + 1, _, by go_num, by go_num, by omega, rfl⟩
      case measure => simp [intOf]; omega
    · obtain rfl : j = n := by omega
      go_wp2_with fail
      go_ret
      exact ⟨rfl, m, rfl⟩
theorem heldBoolS_b (k0 n : Nat) (v : Value) (S : Nat → Prop) (w : World) (h : RowV w S v (bools (boolMark k0 n))) (hn : n ≤ 2097152) (hk : k0 ≤ 16777216) :
    Calls Tryz.prog 53 #[v, .int .i64 (k0 : Int)] w fun e w' => e = .returned (.int .i64 ((k0 + n : Nat) : Int)) ∧ Below w.heap.size w w' :=
  (heldBoolS_any k0 n v S w h hn hk).mono fun _ _ ⟨he, m, hm⟩ => ⟨he, by rw [hm]; exact below_draws (Below.refl _ _) m⟩
end Go.Proofs.YthmfncklepkddaaGreatDoor

/-
  What laws.heldDfa and what it calls answer.
-/
namespace Go.Proofs.YthmfncklepkddaaGreatDoor
open Go.RowKit

set_option maxRecDepth 100000 in
set_option maxHeartbeats 800000 in
theorem heldIntS_any (k0 n : Nat) (v : Value) (S : Nat → Prop) (w : World) (h : RowV w S v (ints (intMark k0 n))) (hn : n ≤ 2097152) (hk : k0 ≤ 16777216) :
    Calls Tryz.prog 94 #[v, .int .i64 (k0 : Int)] w fun e w' => e = .returned (.int .i64 ((k0 + n : Nat) : Int)) ∧ ∃ m, w' = w.drewN m := by
  obtain ⟨A, c, rfl⟩ := h.shape
  have HE := Lib.hid (fun j (hj : j < n) => h.at (j := j) (by rw [ints_length, intMark_length]; exact hj))
  clear h
  rw [ints_length, intMark_length]
  go_enter Tryz.func94, Tryz.ntmps94
  go_wp2_with fail
  go_loopw [1, 5] (fun y i wr => ∃ j m : Nat, i = .int .i64 j ∧ y = .int .i64 ((k0 + j : Nat) : Int) ∧ j ≤ n ∧ wr = w.drewN m) (fun _ i _ => n - (intOf i).toNat)
  case atStart => exact ⟨0, 0, rfl, rfl, Nat.zero_le _, rfl⟩
  case round =>
    obtain ⟨j, m, rfl, rfl, hj, rfl⟩ := hrel
    by_cases hlt : j < n
    · obtain ⟨ad, rfl, -, hc1⟩ := HE.out j hlt
      rw [ints_at (by rw [intMark_length]; exact hlt), intMark_at hlt] at hc1
      have hne : ((((k0 + j : Nat) : Int)) != (((k0 + j : Nat) : Int))) = false := by simp
      go_wp2_with fail
      go_roundw
      case rel => exact ⟨j + 1, _, by go_num, by go_num, by omega, rfl⟩
      case measure => simp [intOf]; omega
    · obtain rfl : j = n := by omega
      go_wp2_with fail
      go_ret
      exact ⟨rfl, m, rfl⟩
theorem heldIntS_b (k0 n : Nat) (v : Value) (S : Nat → Prop) (w : World) (h : RowV w S v (ints (intMark k0 n))) (hn : n ≤ 2097152) (hk : k0 ≤ 16777216) :
    Calls Tryz.prog 94 #[v, .int .i64 (k0 : Int)] w fun e w' => e = .returned (.int .i64 ((k0 + n : Nat) : Int)) ∧ Below w.heap.size w w' :=
  (heldIntS_any k0 n v S w h hn hk).mono fun _ _ ⟨he, m, hm⟩ => ⟨he, by rw [hm]; exact below_draws (Below.refl _ _) m⟩
set_option maxRecDepth 100000 in
set_option maxHeartbeats 800000 in
theorem heldIntSS_any (k0 : Nat) (v : Value) (rs : List (List Int)) (S : Nat → Prop) (w : World) (h : RowVV w S v (intss (marksR k0 rs))) (hn : rs.length + totR rs ≤ 2097152) (hk : k0 ≤ 8388608) :
    Calls Tryz.prog 54 #[v, .int .i64 (k0 : Int)] w fun e w' => e = .returned (.int .i64 ((k0 + totR rs : Nat) : Int)) ∧ Below w.heap.size w w' := by
  obtain ⟨-, A, c, rfl⟩ := h.shape
  rw [intss_length, marksR_length] at h ⊢
  have HE := Lib.hid h
  clear h
  go_enter Tryz.func54, Tryz.ntmps54
  go_wp2_with fail
  go_loopw [1, 5] (fun y i wr => ∃ j : Nat, i = .int .i64 j ∧ y = .int .i64 ((k0 + totR (rs.take j) : Nat) : Int) ∧ j ≤ rs.length ∧ Below w.heap.size w wr) (fun _ i _ => rs.length - (intOf i).toNat)
  case atStart => exact ⟨0, rfl, by simp [totR], Nat.zero_le _, Below.refl _ _⟩
  case round =>
    obtain ⟨j, rfl, rfl, hj, hb⟩ := hrel
    have HB := Lib.hid hb
    clear hb
    by_cases hlt : j < rs.length
    · obtain ⟨ad, u, rfl, -, hc, hr⟩ := (HE.out.kept HB.out).at (j := j) (by rw [intss_length, marksR_length]; exact hlt)
      rw [intss_at (by rw [marksR_length]; exact hlt)] at hr
      have e : (marksR k0 rs)[j]'(by rw [marksR_length]; exact hlt) = intMark (k0 + totR (rs.take j)) (rs[j]).length := by
        have := marksR_at k0 rs j hlt
        rw [List.getElem?_eq_getElem (by rw [marksR_length]; exact hlt)] at this
        exact Option.some.inj this
      rw [e] at hr
      have hT := totR_step hlt
      have hT2 := totR_take rs (j + 1)
      have HI := Lib.hid (heldIntS_b (k0 + totR (rs.take j)) (rs[j]).length u S wr hr (by omega) (by omega))
      obtain ⟨A', c', hus⟩ := hr.shape
      rw [ints_length, intMark_length] at hus
      subst hus
      obtain ⟨y, hy⟩ : ∃ y, y = k0 + totR (rs.take j) := ⟨_, rfl⟩
      rw [← hy] at HI ⊢
      obtain ⟨y2, hy2⟩ : ∃ y2, y2 = y + (rs[j]).length := ⟨_, rfl⟩
      rw [← hy2] at HI
      have HY2 : Hid (y2 = k0 + totR (rs.take (j + 1))) := Lib.hid (by omega)
      clear hr e hT hT2 hy hy2
      go_wp2_with fail
      refine HI.out.mono ?_
      rintro e w2 ⟨rfl, hb2⟩
      have HB2 := Lib.hid (HB.out.trans (hb2.mono HB.out.size))
      have hng : ¬ (y2 : Int) < 0 := by omega
      clear hb2
      go_wp2_with fail
      go_roundw
      case rel => exact ⟨j + 1, by go_num, by rw [HY2.out], by omega, HB2.out⟩
      case measure => simp [intOf]; omega
    · obtain rfl : j = rs.length := by omega
      rw [List.take_length]
      go_wp2_with fail
      go_ret
      exact ⟨rfl, HB.out⟩
set_option maxRecDepth 100000 in
set_option maxHeartbeats 800000 in
theorem heldDfa_any (k0 : Nat) (va vn : Value) (d : Dx) (S : Nat → Prop) (w : World) (h : DfaV w S va vn (markD k0 d)) (hn : wtD d ≤ 1048576) (hk : k0 ≤ 4194304) :
    Calls Tryz.prog 23 #[.agg #[va, vn], .int .i64 (k0 : Int)] w fun e w' => e = .returned (.int .i64 ((k0 + lenD d : Nat) : Int)) ∧ Below w.heap.size w w' := by
  unfold wtD at hn
  obtain ⟨⟨A, c, hA⟩, A', c', hA'⟩ := h.shape
  have ha : (markD k0 d).acc.length = d.acc.length := boolMark_length _ _
  have hb : (markD k0 d).nxt.length = d.nxt.length := marksR_length _ _
  rw [ha] at hA
  rw [hb] at hA'
  subst hA
  subst hA'
  have HB0 := Lib.hid ((Below.refl w.heap.size w).alloc (Nat.le_refl _) (.cells #[.slice A d.acc.length c, .slice A' d.nxt.length c'] 31))
  have HA := Lib.hid (fun (V : World) (hV : Below w.heap.size w V) => heldBoolS_b k0 d.acc.length _ S V (h.1.kept hV) (by omega) (by omega))
  have HN := Lib.hid (fun (V : World) (hV : Below w.heap.size w V) => heldIntSS_any (k0 + d.acc.length) _ d.nxt S V (h.2.kept hV) (by omega) (by omega))
  clear h ha hb
  obtain ⟨y, hy⟩ : ∃ y, y = k0 + d.acc.length := ⟨_, rfl⟩
  have hR : k0 + lenD d = y + totR d.nxt := by unfold lenD; omega
  rw [hR]
  rw [← hy] at HA HN
  clear hy hR
  go_enter Tryz.func23, Tryz.ntmps23
  go_wp2_with fail
  refine (HA.out _ HB0.out).mono ?_
  rintro e w1 ⟨rfl, hb1⟩
  have hb1' : Below (w.heap.size + 1) (w.alloc (.cells #[.slice A d.acc.length c, .slice A' d.nxt.length c'] 31)) w1 := by simpa using hb1
  obtain ⟨-, c0, c1, -⟩ := box2_kept hb1'
  have HW1 := Lib.hid (HB0.out.trans (hb1'.mono (Nat.le_succ _)))
  have hng : ¬ (y : Int) < 0 := by omega
  clear hb1 hb1'
  go_wp2_with fail
  refine (HN.out _ HW1.out).mono ?_
  rintro e w2 ⟨rfl, hb2⟩
  have HW2 := Lib.hid (HW1.out.trans (hb2.mono HW1.out.size))
  have hng2 : ¬ ((y + totR d.nxt : Nat) : Int) < 0 := by omega
  clear hb2
  go_wp2_with fail
  go_ret
  exact ⟨rfl, HW2.out⟩
end Go.Proofs.YthmfncklepkddaaGreatDoor

/-
  What laws.szRegex and laws.szRegexS answer: what is left of a number behind the nodes and the letters of an expression, or -1.
  What laws.eqRegex and laws.eqRegexS answer of the same expression in two places: true.
-/
namespace Go.Proofs.YthmfncklepkddaaGreatDoor
open Go.RowKit

/-- Nodes and letters. -/
def wt : Fr → Nat
  | .nil => 0
  | .cons _ l a r => wt a + wt r + 1 + l.size
def wtL (L : List (Int × ByteArray × Fr)) : Nat := (L.map fun x => x.2.1.size + wt x.2.2).sum
theorem wt_items : ∀ f : Fr, wt f = f.items.length + wtL f.items
  | .nil => rfl
  | .cons _ l a r => by
    have := wt_items r
    simp only [wt, Fr.items, wtL, List.map_cons, List.sum_cons, List.length_cons] at this ⊢
    omega
theorem wtL_step {f : Fr} {j : Nat} {k : Int} {l : ByteArray} {a : Fr} (h : f.items[j]? = some (k, l, a)) : wtL (f.items.take (j + 1)) = wtL (f.items.take j) + (l.size + wt a) := by
  have hlt := (List.getElem?_eq_some_iff.1 h).1
  rw [List.take_succ_eq_append_getElem hlt, (List.getElem?_eq_some_iff.1 h).2]
  simp [wtL]
theorem wtL_take : ∀ (L : List (Int × ByteArray × Fr)) (j : Nat), wtL (L.take j) ≤ wtL L
  | _, 0 => by simp [wtL]
  | [], _ + 1 => Nat.le_refl _
  | x :: r, j + 1 => by
    have := wtL_take r j
    simp only [wtL, List.take_succ_cons, List.map_cons, List.sum_cons] at this ⊢
    omega
theorem size_wt : ∀ f : Fr, f.size ≤ wt f
  | .nil => Nat.le_refl _
  | .cons _ l a r => by
    have := size_wt a
    have := size_wt r
    simp only [Fr.size, wt]
    omega


set_option maxHeartbeats 800000 in
theorem szNode_of {n : Nat} (ih : ∀ (B : Nat) (u : Value) (f : Fr) (z : Int) (w : World), Sl w B n u f → B ≤ w.heap.size → 0 ≤ z → z ≤ 1048576 → Calls Tryz.prog 45 #[u, .int .i64 z] w (SzPost (wt f) z w))
    (B : Nat) (k : Int) (l : ByteArray) (u : Value) (a : Fr) (z : Int) (w : World) (hS : Sl w B n u a) (hB : B ≤ w.heap.size) (hl : l.size ≤ 9223372036854775807) (hz0 : 0 ≤ z) (hz1 : z ≤ 1048576) :
    Calls Tryz.prog 17 #[.agg #[.int .i64 k, .string l, u], .int .i64 z] w (SzPost (l.size + wt a) z w) := by
  have HB0 := Lib.hid ((Below.refl w.heap.size w).alloc (Nat.le_refl _) (.cells #[.int .i64 k, .string l, u] 46))
  by_cases h1 : (l.size : Int) ≤ z
  · have HI := Lib.hid (fun wr (hb : Below w.heap.size w wr) (hz : B ≤ wr.heap.size) => ih B u a (z - l.size) wr (hS.mono (hb.mono hB) (Nat.le_refl _)) hz (by omega) (by omega))
    clear hS
    by_cases h2 : (wt a : Int) ≤ z - l.size
    · have HR : Hid (leftOf (l.size + wt a) z = z - l.size - wt a) := Lib.hid (by rw [leftOf_yes (by omega)]; omega)
      go_enter Tryz.func17, Tryz.ntmps17
      go_wp2_with fail
      refine (HI.out _ HB0.out (by simp; omega)).mono ?_
      rintro e w1 ⟨he, hb1⟩
      rw [leftOf_yes h2] at he
      subst he
      have HW1 := Lib.hid (HB0.out.trans (hb1.mono (by simp)))
      clear hb1
      go_wp2_with fail
      go_ret
      exact ⟨congrArg (fun z : Int => Ending.returned (.int .i64 z)) HR.out.symm, HW1.out⟩
    · have HR : Hid (leftOf (l.size + wt a) z = -1) := Lib.hid (by rw [leftOf_no (by omega)])
      go_enter Tryz.func17, Tryz.ntmps17
      go_wp2_with fail
      refine (HI.out _ HB0.out (by simp; omega)).mono ?_
      rintro e w1 ⟨he, hb1⟩
      rw [leftOf_no (by omega)] at he
      subst he
      have HW1 := Lib.hid (HB0.out.trans (hb1.mono (by simp)))
      clear hb1
      go_wp2_with fail
      go_ret
      exact ⟨congrArg (fun z : Int => Ending.returned (.int .i64 z)) HR.out.symm, HW1.out⟩
  · have HR : Hid (leftOf (l.size + wt a) z = -1) := Lib.hid (by rw [leftOf_no (by omega)])
    clear hS
    go_enter Tryz.func17, Tryz.ntmps17
    go_wp2_with fail
    go_ret
    exact ⟨congrArg (fun z : Int => Ending.returned (.int .i64 z)) HR.out.symm, HB0.out⟩

set_option maxHeartbeats 1600000 in
theorem szS_any (n : Nat) : ∀ (B : Nat) (v : Value) (f : Fr) (z : Int) (w : World), Sl w B n v f → B ≤ w.heap.size → 0 ≤ z → z ≤ 1048576 → Calls Tryz.prog 45 #[v, .int .i64 z] w (SzPost (wt f) z w) := by
  induction n with
  | zero => intro B v f z w h; exact h.zero.elim
  | succ n ih =>
    intro B v f z w hS hB hz0 hz1
    obtain ⟨hl, A, c, rfl, hE⟩ := hS.open
    have HE := Lib.hid hE
    clear hE hS
    have HWT := Lib.hid (wt_items f)
    by_cases hlen : (f.items.length : Int) ≤ z
    · have hneg : ¬ z - (f.items.length : Int) < 0 := by omega
      go_enter Tryz.func45, Tryz.ntmps45
      go_wp2_with fail
      go_loopw [1, 5] (fun y i wr => ∃ j : Nat, i = .int .i64 j ∧ y = .int .i64 (z - f.items.length - wtL (f.items.take j)) ∧ (f.items.length : Int) + wtL (f.items.take j) ≤ z ∧ j ≤ f.items.length ∧ Below w.heap.size w wr) (fun _ i _ => f.items.length - (intOf i).toNat)
      case atStart => exact ⟨0, rfl, by simp [wtL], by simp [wtL]; omega, Nat.zero_le _, Below.refl _ _⟩
      case round =>
        obtain ⟨j, rfl, rfl, hle, hj, hb⟩ := hrel
        have hwz := hb.size
        have HB := Lib.hid hb
        clear hb
        by_cases hlt : j < f.items.length
        · obtain ⟨g, o, rfl, hg, k, l, a, u, hx, hls, he, h4⟩ := HE.out j hlt
          obtain ⟨hc0, hc1, hc2⟩ := he.below HB.out (Nat.lt_of_lt_of_le hg hB)
          have HS := Lib.hid (wtL_step hx)
          have hsub := h4.mono (HB.out.mono hB) (Nat.le_refl _)
          obtain ⟨m, hm⟩ : ∃ m, m = l.size + wt a := ⟨_, rfl⟩
          obtain ⟨y, hy⟩ : ∃ y : Int, y = z - f.items.length - wtL (f.items.take j) := ⟨_, rfl⟩
          have hy0 : 0 ≤ y := by omega
          have hy1 : y ≤ 1048576 := by omega
          have HI := szNode_of ih B k l u a y wr hsub (by omega) hls hy0 hy1
          rw [← hm] at HI HS
          rw [← hy]
          have HY := Lib.hid hy
          have HI := Lib.hid HI
          have HM := Lib.hid hm
          have hwt1 := wtL_take f.items (j + 1)
          clear hm hy he h4 hsub
          by_cases hfit : (m : Int) ≤ y
          · go_wp2_with fail
            refine HI.out.mono ?_
            rintro e w1 ⟨he, hb1⟩
            rw [leftOf_yes hfit] at he
            subst he
            have HB1 := Lib.hid (HB.out.trans (hb1.mono hwz))
            have hpos : 0 ≤ y - (m : Int) := by omega
            clear hb1
            go_wp2_with fail
            go_roundw
            case rel => exact ⟨j + 1, by go_num, congrArg (Value.int .i64) (by rw [HS.out, HY.out]; omega), by have := HY.out; rw [HS.out]; omega, by omega, HB1.out⟩
            case measure => simp [intOf]; omega
          · have HR : Hid (leftOf (wt f) z = -1) := Lib.hid (by rw [leftOf_no (by have := HY.out; have := HS.out; rw [HWT.out]; omega)])
            go_wp2_with fail
            refine HI.out.mono ?_
            rintro e w1 ⟨he, hb1⟩
            rw [leftOf_no (by omega)] at he
            subst he
            have HB1 := Lib.hid (HB.out.trans (hb1.mono hwz))
            clear hb1
            go_wp2_with fail
            go_ret
            exact ⟨congrArg (fun z : Int => Ending.returned (.int .i64 z)) HR.out.symm, HB1.out⟩
        · obtain rfl : j = f.items.length := by omega
          have HT : Hid (f.items.take f.items.length = f.items) := Lib.hid (List.take_length)
          have hle' := hle
          rw [HT.out] at hle'
          have HR : Hid (leftOf (wt f) z = z - f.items.length - wtL (f.items.take f.items.length)) := Lib.hid (by rw [leftOf_yes (by rw [HWT.out]; omega), HT.out, HWT.out]; omega)
          obtain ⟨y, hy⟩ : ∃ y : Int, y = z - f.items.length - wtL (f.items.take f.items.length) := ⟨_, rfl⟩
          rw [← hy] at HR ⊢
          clear hy hle hle' HT
          go_wp2_with fail
          go_ret
          exact ⟨congrArg (fun z : Int => Ending.returned (.int .i64 z)) HR.out.symm, HB.out⟩
    · have HR : Hid (leftOf (wt f) z = -1) := Lib.hid (by rw [leftOf_no (by rw [HWT.out]; omega)])
      have hneg : z - (f.items.length : Int) < 0 := by omega
      go_enter Tryz.func45, Tryz.ntmps45
      go_wp2_with fail
      go_ret
      exact ⟨congrArg (fun z : Int => Ending.returned (.int .i64 z)) HR.out.symm, Below.refl _ _⟩
end Go.Proofs.YthmfncklepkddaaGreatDoor

namespace Go.Proofs.YthmfncklepkddaaGreatDoor
open Go.RowKit

set_option maxRecDepth 100000 in
set_option maxHeartbeats 800000 in
theorem eqNode_of {n m : Nat} (ih : ∀ (B : Nat) (u u' : Value) (f : Fr) (w : World), Sl w B n u f → Sl w B m u' f → B ≤ w.heap.size → Calls Tryz.prog 49 #[u, u'] w fun e w' => e = .returned (.bool true) ∧ Below w.heap.size w w')
    (B : Nat) (k : Int) (l : ByteArray) (u u' : Value) (a : Fr) (w : World) (hS : Sl w B n u a) (hS' : Sl w B m u' a) (hB : B ≤ w.heap.size) :
    Calls Tryz.prog 20 #[.agg #[.int .i64 k, .string l, u], .agg #[.int .i64 k, .string l, u']] w fun e w' => e = .returned (.bool true) ∧ Below w.heap.size w w' := by
  have HB0 := Lib.hid (((Below.refl w.heap.size w).alloc (Nat.le_refl _) (.cells #[.int .i64 k, .string l, u] 26)).alloc (by simp) (.cells #[.int .i64 k, .string l, u'] 26))
  have HI := Lib.hid (fun wr (hb : Below w.heap.size w wr) => ih B u u' a wr (hS.mono (hb.mono hB) (Nat.le_refl _)) (hS'.mono (hb.mono hB) (Nat.le_refl _)) (Nat.le_trans hB hb.size))
  clear hS hS'
  go_enter Tryz.func20, Tryz.ntmps20
  go_wp2_with fail
  refine (HI.out _ HB0.out).mono ?_
  rintro e w1 ⟨rfl, hb1⟩
  have HW1 := Lib.hid (HB0.out.trans (hb1.mono HB0.out.size))
  clear hb1
  go_wp2_with fail
  go_ret
  exact ⟨rfl, HW1.out⟩

set_option maxRecDepth 100000 in
set_option maxHeartbeats 1600000 in
theorem eqS_any (n : Nat) : ∀ (m B : Nat) (v v' : Value) (f : Fr) (w : World), Sl w B n v f → Sl w B m v' f → B ≤ w.heap.size → Calls Tryz.prog 49 #[v, v'] w fun e w' => e = .returned (.bool true) ∧ Below w.heap.size w w' := by
  induction n with
  | zero => intro m B v v' f w h; exact h.zero.elim
  | succ n ih =>
    intro m B v v' f w hS hS' hB
    cases m with
    | zero => exact hS'.zero.elim
    | succ m =>
      obtain ⟨hl, A, c, rfl, hE⟩ := hS.open
      obtain ⟨_, A', c', rfl, hE'⟩ := hS'.open
      have HE := Lib.hid hE
      have HE' := Lib.hid hE'
      clear hE hE' hS hS'
      go_enter Tryz.func49, Tryz.ntmps49
      go_wp2_with fail
      go_loopw [5] (fun i wr => ∃ j : Nat, i = .int .i64 j ∧ j ≤ f.items.length ∧ Below w.heap.size w wr) (fun i _ => f.items.length - (intOf i).toNat)
      case atStart => exact ⟨0, rfl, Nat.zero_le _, Below.refl _ _⟩
      case round =>
        obtain ⟨j, rfl, hj, hb⟩ := hrel
        have HB := Lib.hid hb
        have hwz := hb.size
        clear hb
        by_cases hlt : j < f.items.length
        · obtain ⟨g, o, rfl, hg, k, l, a, u, hx, hls, he, h4⟩ := HE.out j hlt
          obtain ⟨g', o', rfl, hg', k2, l2, a2, u', hx', _, he', h4'⟩ := HE'.out j hlt
          rw [hx] at hx'
          cases hx'
          obtain ⟨hc0, hc1, hc2⟩ := he.below HB.out (Nat.lt_of_lt_of_le hg hB)
          obtain ⟨hd0, hd1, hd2⟩ := he'.below HB.out (Nat.lt_of_lt_of_le hg' hB)
          have HI := Lib.hid (eqNode_of (fun B u u' f w => ih m B u u' f w) B k l u u' a wr.drew (h4.mono ((HB.out.drew).mono hB) (Nat.le_refl _)) (h4'.mono ((HB.out.drew).mono hB) (Nat.le_refl _)) (by show B ≤ wr.heap.size; omega))
          have HBd := Lib.hid HB.out.drew
          clear he he' h4 h4' hx
          go_wp2_with fail
          go_still_tail 8, (by kernel_rfl)
          go_wp2_with fail
          refine HI.out.mono ?_
          rintro e w1 ⟨rfl, hb1⟩
          have HB1 := Lib.hid (HBd.out.trans (hb1.mono hwz))
          clear hb1
          go_wp2_with fail
          go_roundw
          case rel => exact ⟨j + 1, by go_num, by omega, HB1.out⟩
          case measure => simp [intOf]; omega
        · have hd : decide ((j : Int) < (f.items.length : Int)) = false := by simp; omega
          go_wp2_with fail
          go_ret
          exact ⟨rfl, HB.out⟩
end Go.Proofs.YthmfncklepkddaaGreatDoor
