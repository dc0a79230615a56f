/-
  Sets of states as numbers: a bit for each. Of no function of the program.
-/
import Derived.Test.YthmfncklepkddabDoorSrchR
import Derived.Laws.BitsAllLaws
import Derived.Laws.Bits64
import Derived.Lib.TrailingZeros
import Derived.WalkArith
namespace Go.Proofs.YthmfncklepkddabDoor
open Go.RowKit

/-- The number of a set. -/
def mskS (s : List Nat) : Nat := s.foldl (fun m q => m ||| 2 ^ q) 0
theorem msk_from (i : Nat) : ∀ (s : List Nat) (m : Nat), (s.foldl (fun m q => m ||| 2 ^ q) m).testBit i = (m.testBit i || decide (i ∈ s))
  | [], m => by simp
  | q :: s, m => by
    rw [List.foldl_cons, msk_from i s, Nat.testBit_or, Nat.testBit_two_pow, Bool.or_assoc]
    congr 1
    by_cases h : q = i
    · subst h; simp
    · have h' : ¬ i = q := fun e => h e.symm
      simp [h, h']
theorem mskS_bit (s : List Nat) (i : Nat) : (mskS s).testBit i = decide (i ∈ s) := by
  unfold mskS
  rw [msk_from]
  simp
theorem mskS_lt {s : List Nat} {n : Nat} (h : ∀ q ∈ s, q < n) : mskS s < 2 ^ n := Nat.lt_pow_two_of_testBit _ (fun i hi => by
  rw [mskS_bit]
  simp only [decide_eq_false_iff_not]
  intro hm
  have := h i hm
  omega)
theorem mskS_64 {s : List Nat} (h : ∀ q ∈ s, q < 40) : mskS s < 1099511627776 := mskS_lt (n := 40) h
theorem msk_wf {s : List Nat} (h : ∀ q ∈ s, q < 40) : (Lit.int .u64 ((mskS s : Nat) : Int)).wf = true := by
  have := mskS_64 h
  simp [Lit.wf, IntKind.min, IntKind.max, IntKind.signed, IntKind.bits]
  omega
theorem msk_eq {s : List Nat} {m : Nat} (h : ∀ i, m.testBit i = decide (i ∈ s)) : m = mskS s := Nat.eq_of_testBit_eq (fun i => by rw [h, mskS_bit])
theorem msk_inj {s t : List Nat} (hs : s.Pairwise (· < ·)) (ht : t.Pairwise (· < ·)) (h : mskS s = mskS t) : s = t := asc_eq hs ht (fun x => by
  have h1 := mskS_bit s x
  rw [h, mskS_bit] at h1
  exact ⟨fun hx => by simpa [hx] using h1, fun hx => by simpa [hx] using h1.symm⟩)
theorem msk_nil : mskS [] = 0 := rfl
theorem msk_zero : mskS [0] = 1 := rfl
theorem msk_put (s : List Nat) (q : Nat) : mskS s ||| 2 ^ q = mskS (putS s q) := msk_eq (fun i => by
  rw [Nat.testBit_or, mskS_bit, Nat.testBit_two_pow]
  by_cases h : q = i
  · subst h; simp [mem_putS]
  · have h' : ¬ i = q := fun e => h e.symm
    simp [h, mem_putS, h'])
theorem msk_put0 (s : List Nat) : mskS s ||| 1 = mskS (putS s 0) := msk_put s 0
/-- Whether two sets meet. -/
theorem msk_meets (s t : List Nat) : (mskS s &&& mskS t ≠ 0) ↔ ∃ q ∈ s, q ∈ t := by
  constructor
  · intro h
    apply Classical.byContradiction
    intro hn
    apply h
    refine Nat.eq_of_testBit_eq (fun i => ?_)
    rw [Nat.testBit_and, mskS_bit, mskS_bit, Nat.zero_testBit]
    by_cases h1 : i ∈ s
    · have h2 : i ∉ t := fun h2 => hn ⟨i, h1, h2⟩
      simp [h2]
    · simp [h1]
  · rintro ⟨q, h1, h2⟩ h
    have h3 : (mskS s &&& mskS t).testBit q = true := by rw [Nat.testBit_and, mskS_bit, mskS_bit]; simp [h1, h2]
    rw [h, Nat.zero_testBit] at h3
    cases h3
/-- The accepting states below n. -/
def accS (d : Au) (n : Nat) : List Nat := (List.range n).filter d.A
theorem accS_succ_yes {d : Au} {n : Nat} (h : d.A n = true) : mskS (accS d n) ||| 2 ^ n = mskS (accS d (n + 1)) := msk_eq (fun i => by
  rw [Nat.testBit_or, mskS_bit, Nat.testBit_two_pow]
  by_cases e : n = i
  · subst e; simp [accS, h]
  · have h1 : (i < n + 1) = (i < n) := propext ⟨fun h => by omega, fun h => by omega⟩
    simp [e, accS, h1])
theorem accS_succ_no {d : Au} {n : Nat} (h : d.A n = false) : accS d (n + 1) = accS d n := by simp [accS, List.range_succ, h]
theorem accS_lt {d : Au} {n q : Nat} (h : q ∈ accS d n) : q < n := by simp [accS] at h; exact h.1
theorem any_meets {d : Au} {s : List Nat} (hs : ∀ q ∈ s, q < d.n) : anyS d s = decide (mskS s &&& mskS (accS d d.n) ≠ 0) := by
  rw [Bool.eq_iff_iff, anyS_iff, decide_eq_true_iff, msk_meets]
  constructor
  · rintro ⟨q, h1, h2⟩
    exact ⟨q, h1, by simp [accS, h2]; exact hs q h1⟩
  · rintro ⟨q, h1, h2⟩
    exact ⟨q, h1, by simp [accS] at h2; exact h2.2⟩

/-! One state after the other: the lowest bit, and what is left. -/
theorem ctz_bit {x : Nat} (h0 : x ≠ 0) (h : x < 18446744073709551616) : Lib.ctz 64 x < 64 ∧ x.testBit (Lib.ctz 64 x) = true := by
  obtain ⟨h1, h2⟩ := Lib.lowest_bit 64 x h0 h
  refine ⟨h2, ?_⟩
  have h3 : (x &&& (2 ^ 64 - x)).testBit (Lib.ctz 64 x) = true := by rw [h1, Nat.testBit_two_pow]; simp
  rw [Nat.testBit_and] at h3
  simp only [Bool.and_eq_true] at h3
  exact h3.1
/-- One bit less. -/
def dropB (x q : Nat) : Nat := x &&& (18446744073709551615 - 2 ^ q)
theorem dropB_bit {x q i : Nat} (hx : x < 18446744073709551616) (hq : q < 64) : (dropB x q).testBit i = (x.testBit i && !decide (q = i)) := by
  unfold dropB
  have h1 : (18446744073709551615 - 2 ^ q).testBit i = (decide (i < 64) && !(2 ^ q).testBit i) := by
    have h2 := Nat.testBit_two_pow_sub_succ (x := 2 ^ q) (n := 64) (Nat.pow_lt_pow_right (by decide) hq) i
    rw [← h2]
    congr 1
    show 18446744073709551615 - 2 ^ q = 18446744073709551616 - (2 ^ q + 1)
    omega
  rw [Nat.testBit_and, h1, Nat.testBit_two_pow]
  by_cases hi : i < 64
  · simp [hi]
  · have h3 : x.testBit i = false := Nat.testBit_lt_two_pow (Nat.lt_of_lt_of_le hx (Nat.pow_le_pow_right (n := 2) (by decide) (show 64 ≤ i by omega)))
    simp [h3]
theorem dropB_lt {x q : Nat} (hx : x < 18446744073709551616) (hq : q < 64) (h : x.testBit q = true) : dropB x q < x := by
  have hle : dropB x q ≤ x := Nat.and_le_left
  rcases Nat.lt_or_eq_of_le hle with h1 | h1
  · exact h1
  · have h2 := dropB_bit (i := q) hx hq
    rw [h1, h] at h2
    simp at h2
/-- What is done and what is left of a set, and the states that the letter leads to from what is done. -/
def MoveOf (d : Au) (k : Nat) (s : List Nat) (x m : Nat) : Prop := (∀ i, x.testBit i = true → i ∈ s) ∧ ∀ i, m.testBit i = true ↔ ∃ q ∈ s, x.testBit q = false ∧ d.T q k = i
theorem moveOf_start (d : Au) (k : Nat) (s : List Nat) : MoveOf d k s (mskS s) 0 := by
  refine ⟨fun i h => by rw [mskS_bit] at h; simpa using h, fun i => ?_⟩
  rw [Nat.zero_testBit]
  constructor
  · intro h; cases h
  · rintro ⟨q, h1, h2, _⟩
    rw [mskS_bit] at h2
    simp [h1] at h2
theorem moveOf_step {d : Au} {k : Nat} {s : List Nat} {x m q : Nat} (h : MoveOf d k s x m) (hx : x < 18446744073709551616) (hq : q < 64) (hb : x.testBit q = true) : MoveOf d k s (dropB x q) (m ||| 2 ^ d.T q k) := by
  refine ⟨fun i hi => ?_, fun i => ?_⟩
  · rw [dropB_bit hx hq] at hi
    simp only [Bool.and_eq_true] at hi
    exact h.1 i hi.1
  · rw [Nat.testBit_or, Nat.testBit_two_pow, Bool.or_eq_true, decide_eq_true_iff]
    constructor
    · rintro (h1 | h1)
      · obtain ⟨p, p1, p2, p3⟩ := (h.2 i).1 h1
        exact ⟨p, p1, by rw [dropB_bit hx hq, p2]; rfl, p3⟩
      · exact ⟨q, h.1 q hb, by rw [dropB_bit hx hq]; simp, h1⟩
    · rintro ⟨p, p1, p2, p3⟩
      rw [dropB_bit hx hq] at p2
      by_cases e : q = p
      · subst e
        exact .inr p3
      · refine .inl ((h.2 i).2 ⟨p, p1, ?_, p3⟩)
        simpa [e] using p2
theorem moveOf_end {d : Au} {k : Nat} {s : List Nat} {m : Nat} (h : MoveOf d k s 0 m) : m = mskS (moveS d s k) := msk_eq (fun i => by
  rw [Bool.eq_iff_iff, h.2 i, decide_eq_true_iff, mem_move]
  constructor
  · rintro ⟨q, h1, _, h3⟩
    exact ⟨q, h1, h3⟩
  · rintro ⟨q, h1, h3⟩
    exact ⟨q, h1, Nat.zero_testBit _, h3⟩)
theorem moveOf_lt {d : Au} {k : Nat} {s : List Nat} {x m n : Nat} (h : MoveOf d k s x m) (hs : ∀ q ∈ s, d.T q k < n) : m < 2 ^ n := Nat.lt_pow_two_of_testBit _ (fun i hi => by
  cases hb : m.testBit i with
  | false => rfl
  | true =>
    obtain ⟨q, h1, _, h3⟩ := (h.2 i).1 hb
    have := hs q h1
    omega)
end Go.Proofs.YthmfncklepkddabDoor
