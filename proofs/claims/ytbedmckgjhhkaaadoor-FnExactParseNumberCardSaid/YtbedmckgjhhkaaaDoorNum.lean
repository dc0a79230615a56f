/-
  Plain facts on decimal numerals, of no program: the digits of a number spell it; the reading of a numeral gives the number back.
-/
import Derived.Lib.ItoaNum
import Derived.Lib.ItoaLen
import Derived.Lib.ItoaMem
import Derived.Lib.AtoiTie
namespace Go.Proofs.YtbedmckgjhhkaaaDoor
open Go.Lib

theorem decFrom_append : ∀ (l1 l2 : List UInt8) (acc : Nat), decFrom acc (l1 ++ l2) = (decFrom acc l1).bind fun m => decFrom m l2
  | [], l2, acc => by simp [decFrom]
  | b :: r, l2, acc => by
    simp only [List.cons_append, decFrom]
    cases digitVal b with
    | none => rfl
    | some d => exact decFrom_append r l2 _

theorem digitVal_digit (u : Nat) (h : u < 10) : digitVal (UInt8.ofNat (48 + u)) = some u := by
  have e : (UInt8.ofNat (48 + u)).toNat = 48 + u := by rw [UInt8.toNat_ofNat']; omega
  unfold digitVal
  rw [e, if_pos (by omega)]
  congr 1
  omega

theorem decFrom_dec (u : Nat) : decFrom 0 (decDigits u) = some u := by
  induction u using Nat.strongRecOn with
  | _ u ih =>
    by_cases h : u < 10
    · rw [decDigits_one h]
      simp only [decFrom, digitVal_digit u h]
      congr 1
      omega
    · rw [decDigits, dif_neg h, decFrom_append, ih (u / 10) (by omega)]
      simp only [Option.bind_some, decFrom, digitVal_digit (u % 10) (by omega)]
      congr 1
      omega

theorem decDigits_ne (u : Nat) : decDigits u ≠ [] := by
  intro h
  have := congrArg List.length h
  rw [decDigits_length] at this
  have := nDigits_pos u
  simp at *
  omega

theorem digit_of_mem (u : Nat) : ∀ b ∈ decDigits u, 48 ≤ b.toNat ∧ b.toNat ≤ 57 := by
  intro b hb
  obtain ⟨k, hk⟩ := List.getElem?_of_mem hb
  obtain ⟨d, hd⟩ := digit_of_decFrom _ _ _ (decFrom_dec u) k b hk
  unfold digitVal at hd
  split at hd
  · assumption
  · cases hd

theorem nDigits_le : ∀ (k u : Nat), u < 10 ^ (k + 1) → nDigits u ≤ k + 1
  | 0, u, h => by rw [nDigits_small (by simpa using h)]; exact Nat.le_refl _
  | k + 1, u, h => by
    by_cases hs : u < 10
    · rw [nDigits_small hs]; omega
    · rw [nDigits_big hs]
      have := nDigits_le k (u / 10) (by rw [Nat.pow_succ] at h; omega)
      omega

theorem head_dec (u : Nat) (b : UInt8) (r : List UInt8) (h : b :: r = decDigits u) : b ≠ 45 ∧ b ≠ 43 := by
  have := digit_of_mem u b (by rw [← h]; simp)
  constructor <;> (intro e; subst e; revert this; decide)

/-- A numeral's two makes. -/
theorem itoa_parts (n : Int) : (n < 0 ∧ itoa n = 45 :: decDigits n.natAbs) ∨ (0 ≤ n ∧ itoa n = decDigits n.natAbs) := by
  unfold itoa
  by_cases h : n < 0
  · exact .inl ⟨h, by rw [if_pos h]⟩
  · refine .inr ⟨by omega, ?_⟩
    rw [if_neg h, show n.toNat = n.natAbs by omega]

theorem decNat_dec (u : Nat) : decNat (decDigits u) = some u := by
  unfold decNat
  rw [if_neg (by simpa using decDigits_ne u)]
  exact decFrom_dec u

theorem atoi_itoa (n : Int) : atoi (itoa n) = some n := by
  rcases itoa_parts n with ⟨h, e⟩ | ⟨h, e⟩
  · rw [e]
    simp only [atoi, beq_self_eq_true, if_true]
    rw [decNat_dec]
    simp
    omega
  · rw [e]
    cases hd : decDigits n.natAbs with
    | nil => exact absurd hd (decDigits_ne _)
    | cons b r =>
      obtain ⟨h1, h2⟩ := head_dec n.natAbs b r hd.symm
      have hn := decNat_dec n.natAbs
      rw [hd] at hn
      simp only [atoi]
      rw [if_neg (by simpa using h1), if_neg (by simpa using h2), hn]
      simp
      omega

theorem itoa_inj {a b : Int} (h : itoa a = itoa b) : a = b := by
  have := atoi_itoa a
  rw [h, atoi_itoa b] at this
  exact (Option.some.inj this).symm

theorem itoa_short (n : Int) (h0 : -1000000000000 < n) (h1 : n < 1000000000000) : (itoa n).length ≤ 13 := by
  have h := nDigits_le 11 n.natAbs (by omega)
  rcases itoa_parts n with ⟨_, e⟩ | ⟨_, e⟩ <;> rw [e] <;> simp [decDigits_length] <;> omega

theorem atoiAll_itoa (n : Int) (h0 : -1000000000000 < n) (h1 : n < 1000000000000) : atoiAll (itoa n) = .ok n := by
  rw [atoiAll_short _ (by have := itoa_short n h0 h1; omega), atoi_itoa]
  rfl

/-- What l1Read is to answer: the number in range whose numeral the bytes are, if there is one. -/
def Reading (most : Nat) (l : List UInt8) (v : Int) (ok : Bool) : Prop :=
  (ok = true ∧ l = itoa v ∧ v.natAbs < 10 ^ most) ∨ (ok = false ∧ v = 0 ∧ ∀ n : Int, n.natAbs < 10 ^ most → l ≠ itoa n)

/-- Behind the sign: the digits are too few or too many. -/
theorem Reading.size_neg {most : Nat} {t : List UInt8} (hm : 1 ≤ most) (h : t.length < 1 ∨ most < t.length) : Reading most (45 :: t) 0 false := by
  refine .inr ⟨rfl, rfl, fun n hn e => ?_⟩
  obtain ⟨k, rfl⟩ : ∃ k, most = k + 1 := ⟨most - 1, by omega⟩
  have h1 := nDigits_le k n.natAbs hn
  have h2 := nDigits_pos n.natAbs
  rcases itoa_parts n with ⟨_, e'⟩ | ⟨_, e'⟩
  · rw [e'] at e
    have := congrArg List.length e
    simp [decDigits_length] at this
    omega
  · rw [e'] at e
    exact (head_dec _ _ _ e).1 rfl

theorem Reading.size_pos {most : Nat} {t : List UInt8} (hm : 1 ≤ most) (hh : t.head? ≠ some 45) (h : t.length < 1 ∨ most < t.length) : Reading most t 0 false := by
  refine .inr ⟨rfl, rfl, fun n hn e => ?_⟩
  obtain ⟨k, rfl⟩ : ∃ k, most = k + 1 := ⟨most - 1, by omega⟩
  have h1 := nDigits_le k n.natAbs hn
  have h2 := nDigits_pos n.natAbs
  rcases itoa_parts n with ⟨_, e'⟩ | ⟨_, e'⟩
  · rw [e'] at e
    rw [e] at hh
    simp at hh
  · rw [e'] at e
    have := congrArg List.length e
    simp [decDigits_length] at this
    omega

/-- A byte that is no digit. -/
theorem Reading.byte_neg {most : Nat} {t : List UInt8} {b : UInt8} (hb : b ∈ t) (hd : ¬ (48 ≤ b.toNat ∧ b.toNat ≤ 57)) : Reading most (45 :: t) 0 false := by
  refine .inr ⟨rfl, rfl, fun n _ e => ?_⟩
  rcases itoa_parts n with ⟨_, e'⟩ | ⟨_, e'⟩
  · rw [e'] at e
    rw [(List.cons.inj e).2] at hb
    exact hd (digit_of_mem _ b hb)
  · rw [e'] at e
    exact (head_dec _ _ _ e).1 rfl
theorem Reading.byte_pos {most : Nat} {t : List UInt8} {b : UInt8} (hh : t.head? ≠ some 45) (hb : b ∈ t) (hd : ¬ (48 ≤ b.toNat ∧ b.toNat ≤ 57)) : Reading most t 0 false := by
  refine .inr ⟨rfl, rfl, fun n _ e => ?_⟩
  rcases itoa_parts n with ⟨_, e'⟩ | ⟨_, e'⟩
  · rw [e'] at e
    rw [e] at hh
    simp at hh
  · rw [e'] at e
    rw [e] at hb
    exact hd (digit_of_mem _ b hb)

/-- All digits: the number that they spell, and its numeral held against the bytes. -/
theorem Reading.num_neg {most m : Nat} {t : List UInt8} (hl : t.length ≤ most) (h : decFrom 0 t = some m) (ok : Bool) (hok : ok = decide (itoa (-(m : Int)) = 45 :: t)) : Reading most (45 :: t) (if ok then -(m : Int) else 0) ok := by
  have hlt := decFrom_lt _ _ _ h
  simp only [Nat.zero_add, Nat.one_mul] at hlt
  have hp : 10 ^ t.length ≤ 10 ^ most := Nat.pow_le_pow_right (by omega) hl
  cases ok with
  | true => exact .inl ⟨rfl, (of_decide_eq_true hok.symm).symm, by simp; omega⟩
  | false =>
    refine .inr ⟨rfl, rfl, fun n _ e => of_decide_eq_false hok.symm ?_⟩
    rcases itoa_parts n with ⟨hn, e'⟩ | ⟨_, e'⟩
    · rw [e'] at e
      rw [(List.cons.inj e).2, decFrom_dec] at h
      have : -(m : Int) = n := by have := Option.some.inj h; omega
      rw [this, e', (List.cons.inj e).2]
    · rw [e'] at e
      exact absurd rfl (head_dec _ _ _ e).1
theorem Reading.num_pos {most m : Nat} {t : List UInt8} (hh : t.head? ≠ some 45) (hl : t.length ≤ most) (h : decFrom 0 t = some m) (ok : Bool) (hok : ok = decide (itoa (m : Int) = t)) : Reading most t (if ok then (m : Int) else 0) ok := by
  have hlt := decFrom_lt _ _ _ h
  simp only [Nat.zero_add, Nat.one_mul] at hlt
  have hp : 10 ^ t.length ≤ 10 ^ most := Nat.pow_le_pow_right (by omega) hl
  cases ok with
  | true => exact .inl ⟨rfl, (of_decide_eq_true hok.symm).symm, by simp; omega⟩
  | false =>
    refine .inr ⟨rfl, rfl, fun n _ e => of_decide_eq_false hok.symm ?_⟩
    rcases itoa_parts n with ⟨_, e'⟩ | ⟨hn, e'⟩
    · rw [e'] at e
      rw [e] at hh
      simp at hh
    · rw [e'] at e
      rw [e, decFrom_dec] at h
      have : (m : Int) = n := by have := Option.some.inj h; omega
      rw [this, e', e]
end Go.Proofs.YtbedmckgjhhkaaaDoor
