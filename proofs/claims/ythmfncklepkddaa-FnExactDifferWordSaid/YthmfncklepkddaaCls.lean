/-
  What spec.l5Find and spec.l5Same answer: where a number stands in a list; whether two states are in one class and go to the same classes.
  What spec.l5Classes answers: each state's class, by its first state.
-/
import Derived.Test.YthmfncklepkddaaVDfaS
import Derived.Deep.QuietTactic
import Derived.BigQuiet
import Derived.Deep.CutRange
import Derived.Outline
namespace Go.Proofs.Ythmfncklepkddaa
open Go.RowKit

/-- Where a number stands, or -1. -/
def findV (l : List Int) (x : Int) : Int := if x ∈ l then ((l.idxOf x : Nat) : Int) else -1
theorem findV_no {l : List Int} {x : Int} (h : ∀ j, j < l.length → l.getD j 0 ≠ x) : findV l x = -1 := by
  unfold findV
  rw [if_neg]
  intro hx
  obtain ⟨j, hj, rfl⟩ := List.getElem_of_mem hx
  exact h j hj (getD_at hj)
theorem findV_at {l : List Int} {x : Int} {j : Nat} (hj : j < l.length) (h : l.getD j 0 = x) (hlt : ∀ i, i < j → l.getD i 0 ≠ x) : findV l x = (j : Int) := by
  rw [getD_at hj] at h
  unfold findV
  have hm : x ∈ l := by rw [← h]; exact List.getElem_mem hj
  rw [if_pos hm]
  have h1 := List.idxOf_lt_length_of_mem hm
  have h2 : l[l.idxOf x] = x := List.getElem_idxOf h1
  have h3 : l.idxOf x ≤ j := by
    apply Classical.byContradiction
    intro hn
    have : l.take (j + 1) ++ l.drop (j + 1) = l := List.take_append_drop _ _
    have hmem : x ∈ l.take (j + 1) := by
      rw [← h]
      exact List.mem_take_iff_getElem.2 ⟨j, by omega, rfl⟩
    have h4 : l.idxOf x = (l.take (j + 1)).idxOf x := by
      conv => lhs; rw [← this]
      rw [List.idxOf_append, if_pos hmem]
    have h5 := List.idxOf_lt_length_of_mem hmem
    rw [List.length_take] at h5
    omega
  rcases Nat.lt_or_eq_of_le h3 with hl | he
  · have := hlt _ hl
    rw [getD_at h1] at this
    exact absurd h2 this
  · rw [he]

set_option maxRecDepth 100000 in
set_option maxHeartbeats 800000 in
theorem specFind_any (v : Value) (l : List Int) (S : Nat → Prop) (x : Int) (w : World) (h : RowV w S v (ints l)) :
    Calls Try.prog 66 #[v, .int .i64 x] w fun e w' => e = .returned (.int .i64 (findV l x)) ∧ w = w' := by
  obtain ⟨hl, A, c, rfl⟩ := h.ints_shape
  have HE := Lib.hid (fun j (hj : j < l.length) => h.intD hj)
  clear h
  obtain ⟨z, hz⟩ : ∃ z, z = findV l x := ⟨_, rfl⟩
  have HNo : Hid ((∀ j, j < l.length → l.getD j 0 ≠ x) → z = -1) := Lib.hid (fun h => by rw [hz]; exact findV_no h)
  have HAt : Hid (∀ j : Nat, j < l.length → l.getD j 0 = x → (∀ i, i < j → l.getD i 0 ≠ x) → z = (j : Int)) := Lib.hid (fun j hj h hlt => by rw [hz]; exact findV_at hj h hlt)
  rw [← hz]
  clear hz
  go_enter Try.func66, Try.ntmps66
  go_wp2_with fail
  go_loopw [5] (fun i wr => ∃ j : Nat, i = .int .i64 j ∧ j ≤ l.length ∧ w = wr ∧ Hid (∀ i, i < j → l.getD i 0 ≠ x)) (fun i _ => l.length - (intOf i).toNat)
  case atStart => exact ⟨0, rfl, Nat.zero_le _, rfl, Lib.hid (fun i hi => absurd hi (Nat.not_lt_zero _))⟩
  case round =>
    obtain ⟨j, rfl, hj, rfl, hall⟩ := hrel
    by_cases hlt : j < l.length
    · obtain ⟨ad, rfl, -, hc⟩ := HE.out j hlt
      obtain ⟨y, hy⟩ : ∃ y, y = l.getD j 0 := ⟨_, rfl⟩
      rw [← hy] at hc
      by_cases hyx : y = x
      · have hd : (y == x) = true := by simpa using hyx
        have HF : Hid (z = (j : Int)) := Lib.hid (HAt.out j hlt (by rw [← hy]; exact hyx) hall.out)
        clear hy hyx
        go_wp2_with fail
        go_ret
        exact ⟨congrArg (fun z : Int => Ending.returned (.int .i64 z)) HF.out.symm, rfl⟩
      · have hd : (y == x) = false := by simpa using hyx
        have HX : Hid (l.getD j 0 ≠ x) := Lib.hid (by rw [← hy]; exact hyx)
        clear hy hyx
        go_wp2_with fail
        go_roundw
        case rel => exact ⟨j + 1, by go_num, by omega, by first | rfl | trivial, Lib.hid (fun i hi => by
          by_cases e : i = j
          · rw [e]; exact HX.out
          · exact hall.out i (by omega))⟩
        case measure => simp [intOf]; omega
    · obtain rfl : j = l.length := by omega
      have HF : Hid (z = -1) := Lib.hid (HNo.out hall.out)
      go_wp2_with fail
      go_ret
      exact ⟨congrArg (fun z : Int => Ending.returned (.int .i64 z)) HF.out.symm, rfl⟩

/-- An automaton's own fields, and their cells. -/
def fieldsOf (a : Au) : Dx := ⟨accOf a, nxtOf a⟩
theorem DfaV.cells {w : World} {S : Nat → Prop} {va vn : Value} {a : Au} (h : DfaV w S va vn (fieldsOf a)) (hp : 0 < a.n) :
    ∃ ad c ad' c', va = .slice (some ad) a.n c ∧ vn = .slice (some ad') a.n c' ∧ a.n ≤ 9223372036854775807 ∧
      (∀ q, q < a.n → w.cell? (ad.add q) = some (.bool (a.A q))) ∧ ∀ q, q < a.n → ∃ ad2 c2, w.cell? (ad'.add q) = some (.slice (some ad2) 3 c2) ∧ ∀ k, k < 3 → w.cell? (ad2.add k) = some (.int .i64 ((a.T q k : Nat) : Int)) := by
  have hl := h.1.1
  rw [bools_length] at hl
  obtain ⟨⟨A, c, rfl⟩, A', c', rfl⟩ := h.shape
  have e1 : (fieldsOf a).acc.length = a.n := accOf_length a
  have e2 : (fieldsOf a).nxt.length = a.n := nxtOf_length a
  obtain ⟨ad, rfl, -, -⟩ := h.1.boolD (j := 0) (by rw [e1]; exact hp)
  obtain ⟨ad', -, rfl, -, -, -⟩ := h.2.atD (j := 0) (by rw [e2]; exact hp)
  refine ⟨ad, c, ad', c', by rw [e1], by rw [e2], by rw [← e1]; exact hl, fun q hq => ?_, fun q hq => ?_⟩
  · obtain ⟨ad0, e, -, hc⟩ := h.1.boolD (j := q) (by rw [e1]; exact hq)
    cases e
    rw [hc]
    simp [fieldsOf, List.getD_eq_getElem?_getD, accOf_at a hq]
  · obtain ⟨ad0, u, e, -, hc, hr⟩ := h.2.atD (j := q) (by rw [e2]; exact hq)
    cases e
    have hrow : (fieldsOf a).nxt.getD q [] = (List.range 3).map fun k => (a.T q k : Int) := by
      simp [fieldsOf, List.getD_eq_getElem?_getD, nxtOf_at a hq]
    rw [hrow] at hr
    obtain ⟨-, A2, c2, rfl⟩ := hr.ints_shape
    simp only [List.length_map, List.length_range] at hr hc
    obtain ⟨ad2, rfl, -, -⟩ := hr.intD (j := 0) (by simp)
    refine ⟨ad2, c2, hc, fun k hk => ?_⟩
    obtain ⟨ad3, e, -, hc3⟩ := hr.intD (j := k) (by simpa using hk)
    cases e
    rw [hc3]
    simp [List.getD_eq_getElem?_getD, hk]
/-- The classes as a row. -/
def clsRow (n : Nat) (c : Nat → Nat) : List Int := (List.range n).map fun q => (c q : Int)
theorem clsRow_length (n : Nat) (c : Nat → Nat) : (clsRow n c).length = n := by simp [clsRow]
theorem RowV.cls {w : World} {S : Nat → Prop} {v : Value} {n : Nat} {c : Nat → Nat} (h : RowV w S v (ints (clsRow n c))) (hn : 0 < n) : ∃ ad m, v = .slice (some ad) n m ∧ ∀ q, q < n → w.cell? (ad.add q) = some (.int .i64 (c q : Int)) := by
  obtain ⟨-, A, m, rfl⟩ := h.ints_shape
  obtain ⟨ad, rfl, -, -⟩ := h.intD (j := 0) (by rw [clsRow_length]; exact hn)
  refine ⟨ad, m, by rw [clsRow_length], fun q hq => ?_⟩
  obtain ⟨ad2, e, -, hc⟩ := h.intD (j := q) (by rw [clsRow_length]; exact hq)
  cases e
  rw [hc]
  simp [clsRow, List.getD_eq_getElem?_getD, hq]

/-- How far two states have been found the same. -/
def sameK (a : Au) (c : Nat → Nat) (p q : Nat) (j : Nat) : Bool := decide (c p = c q) && ((List.range j).all fun k => decide (c (a.T p k) = c (a.T q k)))
theorem sameK_zero (a : Au) (c : Nat → Nat) (p q : Nat) : sameK a c p q 0 = decide (c p = c q) := by simp [sameK]
theorem sameK_succ (a : Au) (c : Nat → Nat) (p q j : Nat) : sameK a c p q (j + 1) = (sameK a c p q j && decide (c (a.T p j) = c (a.T q j))) := by simp [sameK, List.range_succ, List.all_append, Bool.and_assoc]
theorem eq_cast (x y : Nat) : ((x : Int) == (y : Int)) = decide (x = y) := by
  rw [Bool.eq_iff_iff]
  simp
  omega

set_option maxRecDepth 100000 in
set_option maxHeartbeats 3200000 in
theorem specSame_any (va vn vc : Value) (a : Au) (c : Nat → Nat) (S Sc : Nat → Prop) (p q : Nat) (w : World) (hw : a.wf) (h : DfaV w S va vn (fieldsOf a)) (hc : RowV w Sc vc (ints (clsRow a.n c))) (hp : p < a.n) (hq : q < a.n) :
    Calls Try.prog 119 #[.agg #[va, vn], vc, .int .i64 (p : Int), .int .i64 (q : Int)] w fun e w' => e = .returned (.bool (same a c p q)) ∧ Below w.heap.size w w' := by
  obtain ⟨ad, cc, ad', cc', rfl, rfl, hnl, -, hT⟩ := h.cells hw.1
  obtain ⟨adc, mc, rfl, hcl⟩ := hc.cls hw.1
  obtain ⟨W0, hW0⟩ : ∃ W0, W0 = w.alloc (.cells #[.slice (some ad) a.n cc, .slice (some ad') a.n cc'] 27) := ⟨_, rfl⟩
  have HB0 : Hid (Below w.heap.size w W0) := Lib.hid (by rw [hW0]; exact (Below.refl _ _).alloc (Nat.le_refl _) _)
  have HX : Hid (Bx2 W0 w.heap.size (.slice (some ad) a.n cc) (.slice (some ad') a.n cc')) := Lib.hid (by
    have k := box2_kept (w := w) (w1 := W0) (a := .slice (some ad) a.n cc) (b := .slice (some ad') a.n cc') (t := 27) (by rw [hW0]; exact Below.refl _ _)
    exact ⟨k.2.1, k.2.2.1⟩)
  obtain ⟨n, hn⟩ : ∃ n, n = a.n := ⟨_, rfl⟩
  have HT : Hid (∀ x, x < n → ∃ ad2 c2, w.cell? (ad'.add x) = some (.slice (some ad2) 3 c2) ∧ ∀ k, k < 3 → w.cell? (ad2.add k) = some (.int .i64 ((a.T x k : Nat) : Int))) := Lib.hid (by rw [hn]; exact hT)
  have HC : Hid (∀ x, x < n → w.cell? (adc.add x) = some (.int .i64 (c x : Int))) := Lib.hid (by rw [hn]; exact hcl)
  have HWf : Hid (∀ x k, x < n → k < 3 → a.T x k < n) := Lib.hid (by rw [hn]; exact hw.2)
  rw [← hn] at hW0 HX hp hq hnl
  rw [← hn]
  have HS : Hid (same a c p q = sameK a c p q 3) := Lib.hid rfl
  clear h hc hT hcl hw hn
  have g1 := (HB0.out.cell (cell_in (HC.out p hp))).trans (HC.out p hp)
  have g2 := (HB0.out.cell (cell_in (HC.out q hq))).trans (HC.out q hq)
  obtain ⟨b0, hb0⟩ : ∃ b0, b0 = ((c p : Int) == (c q : Int)) := ⟨_, rfl⟩
  have HS0 : Hid (b0 = sameK a c p q 0) := Lib.hid (by rw [hb0, eq_cast, sameK_zero])
  obtain ⟨x0, hx0⟩ : ∃ x0 : Int, x0 = (c p : Int) := ⟨_, rfl⟩
  obtain ⟨y0, hy0⟩ : ∃ y0 : Int, y0 = (c q : Int) := ⟨_, rfl⟩
  rw [← hx0] at g1 hb0
  rw [← hy0] at g2 hb0
  have s1 : (p : Int) < (n : Int) := by omega
  have s2 : (0 : Int) ≤ (p : Int) := by omega
  have s3 : (q : Int) < (n : Int) := by omega
  have s5 : (0 : Int) ≤ (q : Int) := by omega
  have hbb : (x0 == y0) = b0 := hb0.symm
  clear hb0 hx0 hy0
  rw [hW0] at g1 g2
  go_enter Try.func119, Try.ntmps119
  go_wp2_with fail
  go_quiet (fail)
  go_wp2_with fail
  rw [← hW0]
  clear g1 g2 hW0 hbb
  go_loopw [9, 10] (fun y i wr => ∃ (j : Nat) (b : Bool), i = .int .i64 j ∧ y = .bool b ∧ j ≤ 3 ∧ Hid (b = sameK a c p q j) ∧ Below W0.heap.size W0 wr) (fun _ i _ => 3 - (intOf i).toNat)
  case atStart => exact ⟨0, b0, rfl, rfl, Nat.zero_le _, HS0.out, below_draws (Below.refl _ _) _⟩
  case round =>
    obtain ⟨j, b, rfl, rfl, hj, hbs, hb⟩ := hrel
    have HBr := Lib.hid hb
    clear hb
    by_cases hlt : j < 3
    · cases b with
      | false =>
        have HF : Hid (false = sameK a c p q (j + 1)) := Lib.hid (by rw [sameK_succ, ← hbs.out, Bool.false_and])
        go_wp2_with fail
        go_quiet (fail)
        go_wp2_with fail
        go_roundw
        case rel => exact ⟨j + 1, false, by go_num, rfl, by omega, HF.out, below_draws HBr.out _⟩
        case measure => simp [intOf]; omega
      | true =>
        obtain ⟨adp, cp, hrp, hep⟩ := HT.out p hp
        obtain ⟨adq, cq, hrq, heq⟩ := HT.out q hq
        have hep := hep j hlt
        have heq := heq j hlt
        have htp := HWf.out p j hp hlt
        have htq := HWf.out q j hq hlt
        have hcp := HC.out _ htp
        have hcq := HC.out _ htq
        obtain ⟨b2, hb2⟩ : ∃ b2, b2 = ((c (a.T p j) : Int) == (c (a.T q j) : Int)) := ⟨_, rfl⟩
        have HF : Hid (b2 = sameK a c p q (j + 1)) := Lib.hid (by rw [sameK_succ, ← hbs.out, Bool.true_and, hb2, eq_cast])
        obtain ⟨tp, htpe⟩ : ∃ tp, tp = a.T p j := ⟨_, rfl⟩
        obtain ⟨tq, htqe⟩ : ∃ tq, tq = a.T q j := ⟨_, rfl⟩
        rw [← htpe] at hep htp hcp hb2
        rw [← htqe] at heq htq hcq hb2
        obtain ⟨x, hx⟩ : ∃ x : Int, x = (c tp : Int) := ⟨_, rfl⟩
        obtain ⟨y, hy⟩ : ∃ y : Int, y = (c tq : Int) := ⟨_, rfl⟩
        rw [← hx] at hcp hb2
        rw [← hy] at hcq hb2
        have up := fun {ad : Addr} {u : Value} (hc : w.cell? ad = some u) => ((HB0.out.trans (HBr.out.mono HB0.out.size)).cell (cell_in hc)).trans hc
        have g1 := up hrp
        have g2 := up hrq
        have g3 := up hep
        have g4 := up heq
        have g5 := up hcp
        have g6 := up hcq
        have g7 := (HX.out.kept HBr.out).2
        have s6 : (tp : Int) < (n : Int) := by omega
        have s7 : (0 : Int) ≤ (tp : Int) := by omega
        have s8 : (tq : Int) < (n : Int) := by omega
        have s9 : (0 : Int) ≤ (tq : Int) := by omega
        have s10 : (j : Int) < 3 := by omega
        have s11 : (0 : Int) ≤ (j : Int) := by omega
        have hbb : (x == y) = b2 := hb2.symm
        clear up hrp hrq hep heq hcp hcq hb2 hx hy htpe htqe hbs
        go_wp2_with fail
        go_quiet (fail)
        clear g1 g2 g3 g4 g5 g6 g7 hbb
        go_wp2_with fail
        go_roundw
        case rel => exact ⟨j + 1, b2, by go_num, rfl, by omega, HF.out, below_draws HBr.out _⟩
        case measure => simp [intOf]; omega
    · obtain rfl : j = 3 := by omega
      have HF : Hid (same a c p q = b) := Lib.hid (by rw [HS.out, hbs.out])
      go_wp2_with fail
      go_ret
      exact ⟨congrArg (fun b : Bool => Ending.returned (.bool b)) HF.out.symm, HB0.out.trans (HBr.out.mono HB0.out.size)⟩
end Go.Proofs.Ythmfncklepkddaa

namespace Go.Proofs.Ythmfncklepkddaa
open Go.RowKit

def clsV (a : Au) (r : Nat) : Nat → Value := fun q => .int .i64 ((cls a r q : Nat) : Int)
theorem ints_cls (a : Au) (r n : Nat) : ints (clsRow n (cls a r)) = (List.range n).map (clsV a r) := by simp [ints, clsRow, clsV, Function.comp_def]
theorem made_ints (n : Nat) : (madeCells (Value.cells (.int .i64 0)) (n * 1)).toList = List.replicate n (.int .i64 0) := by
  unfold madeCells
  apply List.ext_getElem
  · simp
  · intro i h1 h2
    simp
    simp [Value.cells, Nat.mod_one]
/-- A row just made. -/
theorem made_row_o {w w1 : World} {n : Nat} {T : TypeId} (hown : w1.ownsRow w.heap.size T 1 (.slice (some ⟨w.heap.size, 0, none⟩) n n) n (madeCells (Value.cells (.int .i64 0)) (n * 1)).toList) (hgr : w.grownBy w1 none) (hn : n ≤ 9223372036854775807) (f : Nat → Value) :
    RowO w1 (fun g => g = w.heap.size) (.slice (some ⟨w.heap.size, 0, none⟩) n n) ((List.range 0).map f ++ (List.replicate n (.int .i64 0 : Value)).drop 0) ∧ Below w.heap.size w w1 ∧ w.heap.size < w1.heap.size := by
  have hlt : w.heap.size < w1.heap.size := by
    rcases hown.2 with ⟨e, _⟩ | ⟨g, cap, cur, e, _, hh, _⟩
    · cases e
    · cases e
      exact (Array.getElem?_eq_some_iff.1 hh).1
  refine ⟨?_, ⟨hgr.os, hgr.tape, hgr.output, hgr.size, fun k hk => hgr.block k hk (fun e => by cases e)⟩, hlt⟩
  have h1 := RowO.of_owns hown hn
  rw [made_ints] at h1
  exact h1.mono (fun _ _ => rfl) (fun g hg => by simp [Value.ownBlock] at hg; exact hg.symm)
theorem set_zero (f : Nat → Value) (n j : Nat) (hj : j < n) : ((List.range j).map f ++ (List.replicate n (.int .i64 0 : Value)).drop j).set j (f j) = (List.range (j + 1)).map f ++ (List.replicate n (.int .i64 0 : Value)).drop (j + 1) := set_step f _ j (by simpa using hj)
theorem zero_step (f : Nat → Value) (n j : Nat) (hj : j < n) (h : f j = .int .i64 0) : (List.range j).map f ++ (List.replicate n (.int .i64 0 : Value)).drop j = (List.range (j + 1)).map f ++ (List.replicate n (.int .i64 0 : Value)).drop (j + 1) := by
  have e := List.drop_eq_getElem_cons (l := List.replicate n (.int .i64 0 : Value)) (i := j) (by simpa using hj)
  rw [e, List.range_succ, List.map_append, List.append_assoc]
  simp [h]
theorem zero_all (f : Nat → Value) (n : Nat) : (List.range n).map f ++ (List.replicate n (.int .i64 0 : Value)).drop n = (List.range n).map f := by
  rw [List.drop_eq_nil_of_le (by simp), List.append_nil]

set_option maxRecDepth 100000 in
set_option maxHeartbeats 6400000 in
theorem specCls_any (va vn : Value) (a : Au) (S : Nat → Prop) (w : World) (hw : a.wf) (hn : a.n ≤ 2000) (h : DfaV w S va vn (fieldsOf a)) :
    Calls Try.prog 99 #[.agg #[va, vn]] w (Copy (ints (clsRow a.n (cls a (a.n + 1)))) w) := by
  obtain ⟨i0, hi, hz0, hz1, hz2⟩ := info_parts intInfo
  obtain ⟨ad, cc, ad', cc', hva, hvn, hnl, hA, -⟩ := h.cells hw.1
  subst hva
  subst hvn
  obtain ⟨W0, hW0⟩ : ∃ W0, W0 = w.alloc (.cells #[.slice (some ad) a.n cc, .slice (some ad') a.n cc'] 27) := ⟨_, rfl⟩
  have HB0 : Hid (Below w.heap.size w W0) := Lib.hid (by rw [hW0]; exact (Below.refl _ _).alloc (Nat.le_refl _) _)
  have HX : Hid (Bx2 W0 w.heap.size (.slice (some ad) a.n cc) (.slice (some ad') a.n cc')) := Lib.hid (by
    have k := box2_kept (w := w) (w1 := W0) (a := .slice (some ad) a.n cc) (b := .slice (some ad') a.n cc') (t := 27) (by rw [hW0]; exact Below.refl _ _)
    exact ⟨k.2.1, k.2.2.1⟩)
  have HSame := Lib.hid (fun (V : World) (hV : Below w.heap.size w V) r vc Sc p q (hc : RowV V Sc vc (ints (clsRow a.n (cls a r)))) hp hq => specSame_any (.slice (some ad) a.n cc) (.slice (some ad') a.n cc') vc a (cls a r) S Sc p q V hw (h.kept hV) hc hp hq)
  have HFirst := Lib.hid (fun r q => firstOf_spec a (cls a r) q)
  obtain ⟨n, hne⟩ : ∃ n, n = a.n := ⟨_, rfl⟩
  have HA : Hid (∀ q, q < n → w.cell? (ad.add q) = some (.bool (a.A q))) := Lib.hid (by rw [hne]; exact hA)
  rw [← hne] at hW0 HX hn hnl HSame
  rw [← hne]
  have hn0 : 0 < n := by have := hw.1; omega
  clear h hA hne
  have hc00 : (w.alloc (.cells #[.slice (some ad) n cc, .slice (some ad') n cc'] 27)).cell? ⟨w.heap.size, 0, none⟩ = some (.slice (some ad) n cc) := by rw [← hW0]; exact HX.out.1
  go_enter Try.func99, Try.ntmps99
  go_upto_region 2 with fail
  rw [← hW0]
  clear hc00 hW0
  go_wp2_with (at_make; refine wpList_make_full _ rfl _ _ 73 rfl W0.heap.size 3 i0 _ 1 Try.underlying73 hi hz0 hz1 _ _ _ _ n rfl rfl rfl rfl (by rw [hz2]; omega) (by unfold maxLen; omega) (Nat.le_refl _) ?_; intro w1 hown hgr)
  obtain ⟨ho, hb, hwl⟩ := made_row_o hown hgr (by omega) (clsV a 0)
  clear hown hgr
  go_loopw [5] (fun i wr => ∃ q : Nat, i = .int .i64 q ∧ q ≤ n ∧ RowO wr (fun g => g = W0.heap.size) (.slice (some ⟨W0.heap.size, 0, none⟩) n n) ((List.range q).map (clsV a 0) ++ (List.replicate n (.int .i64 0 : Value)).drop q) ∧ Below W0.heap.size W0 wr ∧ W0.heap.size < wr.heap.size) (fun i _ => n - (intOf i).toNat)
  case atStart => exact ⟨0, rfl, Nat.zero_le _, ho, hb, hwl⟩
  case round =>
    obtain ⟨q, rfl, hq, ho', hb', hwr⟩ := hrel
    clear ho hb
    have HBr := Lib.hid hb'
    have HO := Lib.hid ho'
    clear hb' ho'
    have c0 := (HX.out.kept HBr.out).1
    by_cases hlt : q < n
    · have hca := (HA.out q hlt)
      have hca2 := ((HB0.out.trans (HBr.out.mono HB0.out.size)).cell (cell_in hca)).trans hca
      obtain ⟨b, hb⟩ : ∃ b, b = a.A q := ⟨_, rfl⟩
      rw [← hb] at hca2
      clear hca
      cases b with
      | true =>
        have hv : clsV a 0 q = .int .i64 1 := by simp [clsV, cls, ← hb]
        obtain ⟨g, hg, -, hgl, hst⟩ := HO.out.set (j := q) (by simp; omega)
        cases hg
        obtain ⟨⟨x0, hx0⟩, hf0, hset⟩ := hst wr rfl
        have HS : Hid (RowO (wr.setCell ⟨W0.heap.size, q, none⟩ (.int .i64 1)) (fun g => g = W0.heap.size) (.slice (some ⟨W0.heap.size, 0, none⟩) n n) ((List.range (q + 1)).map (clsV a 0) ++ (List.replicate n (.int .i64 0 : Value)).drop (q + 1))) := Lib.hid (by
          have h1 := hset (clsV a 0 q)
          rw [set_zero _ n q hlt, hv] at h1
          exact h1)
        have HB2 := Lib.hid (HBr.out.setCell (p := ⟨W0.heap.size, q, none⟩) (Nat.le_refl _) (.int .i64 1))
        have hz2' : W0.heap.size < (wr.setCell ⟨W0.heap.size, q, none⟩ (.int .i64 1)).heap.size := by simpa [World.setCell] using hwr
        have HZ2 := Lib.hid hz2'
        clear hv hset hst hb hz2'
        go_wp2_with fail
        go_roundw
        case rel => exact ⟨q + 1, by go_num, by omega, HS.out, HB2.out, HZ2.out⟩
        case measure => simp [intOf]; omega
      | false =>
        have hv : clsV a 0 q = .int .i64 0 := by simp [clsV, cls, ← hb]
        have HS : Hid (RowO wr (fun g => g = W0.heap.size) (.slice (some ⟨W0.heap.size, 0, none⟩) n n) ((List.range (q + 1)).map (clsV a 0) ++ (List.replicate n (.int .i64 0 : Value)).drop (q + 1))) := Lib.hid (by
          rw [← zero_step _ n q hlt hv]
          exact HO.out)
        clear hv hb
        go_wp2_with fail
        go_roundw
        case rel => exact ⟨q + 1, by go_num, by omega, HS.out, HBr.out, hwr⟩
        case measure => simp [intOf]; omega
    · obtain rfl : q = n := by omega
      have HO1 : Hid (RowO wr (fun g => g = W0.heap.size) (.slice (some ⟨W0.heap.size, 0, none⟩) q q) (ints (clsRow q (cls a 0)))) := Lib.hid (by
        have h1 := HO.out
        rw [zero_all] at h1
        rw [ints_cls]
        exact h1)
      have hd : decide ((q : Int) < (q : Int)) = false := by simp
      go_wp2_with fail
      clear hd c0
      go_loopw [4, 6] (fun v i wr' => ∃ (r : Nat) (A : Option Addr) (m : Nat), i = .int .i64 r ∧ v = .slice A q m ∧ r ≤ q + 1 ∧ Below W0.heap.size W0 wr' ∧ Hid (RowO wr' (fun g => W0.heap.size ≤ g ∧ g < wr'.heap.size) (.slice A q m) (ints (clsRow q (cls a r))))) (fun _ i _ => q + 2 - (intOf i).toNat)
      case atStart => exact ⟨0, _, _, rfl, rfl, Nat.zero_le _, HBr.out, Lib.hid (HO1.out.mono (fun _ _ => rfl) (fun g hg => by rw [hg]; exact ⟨Nat.le_refl _, hwr⟩))⟩
      case round =>
        obtain ⟨r, A, m, rfl, rfl, hr, hb2, ho2⟩ := hrel
        have HB2 := Lib.hid hb2
        clear hb2
        have hz2r := HB2.out.size
        by_cases hrl : r ≤ q
        · have hd : decide ((r : Int) ≤ (q : Int)) = true := by simp; omega
          go_wp2_with (at_make; refine wpList_make_full _ rfl _ _ 73 rfl wr.heap.size 3 i0 _ 1 Try.underlying73 hi hz0 hz1 _ _ _ _ q rfl rfl rfl rfl (by rw [hz2]; omega) (by unfold maxLen; omega) (Nat.le_refl _) ?_; intro w3 hown hgr)
          obtain ⟨ho3, hb3, hwl3⟩ := made_row_o hown hgr (by omega) (clsV a (r + 1))
          clear hown hgr hd
          obtain ⟨V2, hV2⟩ : ∃ V2, V2 = wr := ⟨_, rfl⟩
          rw [← hV2] at ho3 hb3 hwl3 ho2 HB2 hz2r ⊢
          clear hV2
          have HC2 : Hid (∀ V, Below V2.heap.size V2 V → RowV V (fun g => W0.heap.size ≤ g ∧ g < V2.heap.size) (.slice A q m) (ints (clsRow q (cls a r)))) := Lib.hid (fun V hV => ho2.out.row.kept hV)
          go_loopw [8] (fun i wq => ∃ p : Nat, i = .int .i64 p ∧ p ≤ q ∧ Below V2.heap.size V2 wq ∧ V2.heap.size < wq.heap.size ∧ Hid (RowO wq (fun g => g = V2.heap.size) (.slice (some ⟨V2.heap.size, 0, none⟩) q q) ((List.range p).map (clsV a (r + 1)) ++ (List.replicate q (.int .i64 0 : Value)).drop p))) (fun i _ => q - (intOf i).toNat)
          case atStart => exact ⟨0, rfl, Nat.zero_le _, hb3, hwl3, Lib.hid ho3⟩
          case round =>
            obtain ⟨p, rfl, hp, hb4, hz4, ho4⟩ := hrel
            have HB4 := Lib.hid hb4
            clear hb4
            have HB5 := Lib.hid (HB2.out.trans (HB4.out.mono HB2.out.size))
            by_cases hpl : p < q
            · -- the state itself first
              obtain ⟨g, hg, -, hgl, hst⟩ := ho4.out.set (j := p) (by simp; omega)
              cases hg
              obtain ⟨⟨x0, hx0⟩, hf0, hset⟩ := hst wr rfl
              obtain ⟨W5, hW5⟩ : ∃ W5, W5 = wr.setCell ⟨V2.heap.size, p, none⟩ (.int .i64 (p : Int)) := ⟨_, rfl⟩
              have HO5 : Hid (RowO W5 (fun g => g = V2.heap.size) (.slice (some ⟨V2.heap.size, 0, none⟩) q q) (((List.range p).map (clsV a (r + 1)) ++ (List.replicate q (.int .i64 0 : Value)).drop p).set p (.int .i64 (p : Int)))) := Lib.hid (by rw [hW5]; exact hset _)
              have HB6 : Hid (Below V2.heap.size V2 W5) := Lib.hid (by rw [hW5]; exact HB4.out.setCell (p := ⟨V2.heap.size, p, none⟩) (Nat.le_refl _) _)
              have hz5 : V2.heap.size < W5.heap.size := by rw [hW5]; simpa [World.setCell] using hz4
              have HW5 := Lib.hid hW5
              clear hset hst hW5
              go_wp2_with fail
              rw [← HW5.out]
              clear hx0 hf0
              go_loopw [9] (fun i wp => ∃ k : Nat, i = .int .i64 k ∧ k ≤ p ∧ Below W5.heap.size W5 wp ∧ Hid (∀ k', k' < k → same a (cls a r) k' p = false)) (fun i _ => p - (intOf i).toNat)
              case atStart => exact ⟨0, rfl, Nat.zero_le _, Below.refl _ _, Lib.hid (fun k' hk => absurd hk (Nat.not_lt_zero _))⟩
              case round =>
                obtain ⟨k, rfl, hk, hb7, hall⟩ := hrel
                have HB7 := Lib.hid hb7
                clear hb7
                have HBV := Lib.hid (HB6.out.trans (HB7.out.mono HB6.out.size))
                have HBW := Lib.hid (HB0.out.trans ((HB2.out.trans (HBV.out.mono HB2.out.size)).mono HB0.out.size))
                by_cases hkp : k < p
                · obtain ⟨bx, hbx⟩ : ∃ bx, bx = same a (cls a r) k p := ⟨_, rfl⟩
                  have HS := Lib.hid (HSame.out wr HBW.out r _ _ k p (HC2.out wr HBV.out) (by omega) hpl)
                  rw [← hbx] at HS
                  have HBX := Lib.hid hbx
                  obtain ⟨c0, c1⟩ := HX.out.kept (HB2.out.trans (HBV.out.mono HB2.out.size))
                  clear hbx
                  go_wp2_with fail
                  go_at_call 119
                  refine HS.out.mono ?_
                  rintro e w8 ⟨rfl, hb8⟩
                  have HB8 := Lib.hid (HB7.out.trans (hb8.mono HB7.out.size))
                  clear hb8 c0 c1
                  cases bx with
                  | false =>
                    go_wp2_with fail
                    go_roundw
                    case rel => exact ⟨k + 1, by go_num, by omega, HB8.out, Lib.hid (fun k' hk' => by
                      by_cases e : k' = k
                      · rw [e]; exact HBX.out.symm
                      · exact hall.out k' (by omega))⟩
                    case measure => simp [intOf]; omega
                  | true =>
                    have hcl : cls a (r + 1) p = k := by
                      obtain ⟨f1, f2, f3⟩ := HFirst.out r p
                      show firstOf a (cls a r) p = k
                      rcases Nat.lt_trichotomy (firstOf a (cls a r) p) k with hl | he | hl
                      · have := hall.out _ hl
                        rw [f2] at this
                        cases this
                      · exact he
                      · have := f3 k hl
                        rw [← HBX.out] at this
                        cases this
                    obtain ⟨g9, hg9, -, hgl9, hst9⟩ := (HO5.out.mono (w' := w8) (S' := fun g => g = V2.heap.size) (fun g hg => HB8.out.block g (by rw [hg]; exact hz5)) (fun _ h => h)).set (j := p) (by simp; omega)
                    cases hg9
                    obtain ⟨⟨x9, hx9⟩, hf9, hset9⟩ := hst9 w8 rfl
                    have HO9 : Hid (RowO (w8.setCell ⟨V2.heap.size, p, none⟩ (.int .i64 (k : Int))) (fun g => g = V2.heap.size) (.slice (some ⟨V2.heap.size, 0, none⟩) q q) ((List.range (p + 1)).map (clsV a (r + 1)) ++ (List.replicate q (.int .i64 0 : Value)).drop (p + 1))) := Lib.hid (by
                      have h1 := hset9 (clsV a (r + 1) p)
                      rw [List.set_set, set_zero _ q p hpl] at h1
                      rw [show clsV a (r + 1) p = .int .i64 (k : Int) by simp [clsV, hcl]] at h1
                      exact h1)
                    have HB9 := Lib.hid ((HB6.out.trans (HB8.out.mono HB6.out.size)).setCell (p := ⟨V2.heap.size, p, none⟩) (Nat.le_refl _) (.int .i64 (k : Int)))
                    have hz9 : V2.heap.size < (w8.setCell ⟨V2.heap.size, p, none⟩ (.int .i64 (k : Int))).heap.size := by have := HB8.out.size; simp [World.setCell]; omega
                    have HZ9 := Lib.hid hz9
                    clear hset9 hst9 hz9 hcl
                    go_wp2_with fail
                    go_roundw
                    case rel => exact ⟨p + 1, by go_num, by omega, HB9.out, HZ9.out, HO9.out⟩
                    case measure => simp [intOf]; omega
                · obtain rfl : k = p := by omega
                  have hcl : cls a (r + 1) k = k := by
                    obtain ⟨f1, f2, f3⟩ := HFirst.out r k
                    show firstOf a (cls a r) k = k
                    rcases Nat.lt_or_eq_of_le f1 with hl | he
                    · have := hall.out _ hl
                      rw [f2] at this
                      cases this
                    · exact he
                  have HO9 : Hid (RowO wr (fun g => g = V2.heap.size) (.slice (some ⟨V2.heap.size, 0, none⟩) q q) ((List.range (k + 1)).map (clsV a (r + 1)) ++ (List.replicate q (.int .i64 0 : Value)).drop (k + 1))) := Lib.hid (by
                    have h1 := HO5.out.mono (w' := wr) (S' := fun g => g = V2.heap.size) (fun g hg => HB7.out.block g (by rw [hg]; exact hz5)) (fun _ h => h)
                    rw [show (.int .i64 (k : Int) : Value) = clsV a (r + 1) k by simp [clsV, hcl], set_zero _ q k hpl] at h1
                    exact h1)
                  have hz9 : V2.heap.size < wr.heap.size := Nat.lt_of_lt_of_le hz5 HB7.out.size
                  have hd : decide ((k : Int) < (k : Int)) = false := by simp
                  clear hcl
                  go_wp2_with fail
                  go_roundw
                  case rel => exact ⟨k + 1, by go_num, by omega, HBV.out, hz9, HO9.out⟩
                  case measure => simp [intOf]; omega
            · obtain rfl : p = q := by omega
              have hd : decide ((p : Int) < (p : Int)) = false := by simp
              have HO9 : Hid (RowO wr (fun g => W0.heap.size ≤ g ∧ g < wr.heap.size) (.slice (some ⟨V2.heap.size, 0, none⟩) p p) (ints (clsRow p (cls a (r + 1))))) := Lib.hid (by
                have h1 := ho4.out
                rw [zero_all] at h1
                rw [ints_cls]
                exact h1.mono (fun _ _ => rfl) (fun g hg => by rw [hg]; exact ⟨hz2r, hz4⟩))
              go_wp2_with fail
              go_roundw
              case rel => exact ⟨r + 1, _, _, by go_num, rfl, by omega, HB5.out, HO9.out⟩
              case measure => simp [intOf]; omega
        · obtain rfl : r = q + 1 := by omega
          have hd : decide (((q + 1 : Nat) : Int) ≤ (q : Int)) = false := by simp; omega
          have HR : Hid (RowO wr (OwnB w wr) (.slice A q m) (ints (clsRow q (cls a (q + 1))))) := Lib.hid (ho2.out.mono (fun _ _ => rfl) (fun g hg => ⟨Nat.le_trans HB0.out.size hg.1, hg.2⟩))
          go_wp2_with fail
          go_ret
          exact ⟨_, rfl, HR.out, HB0.out.trans (HB2.out.mono HB0.out.size)⟩
end Go.Proofs.Ythmfncklepkddaa
