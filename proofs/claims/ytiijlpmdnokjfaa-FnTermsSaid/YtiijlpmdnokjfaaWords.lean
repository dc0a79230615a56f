/-
  Plain facts on words over three letters, of no program: all words of a length, the next word, the order; each word is followed by its next one.
-/
import Derived.KernelRfl
import Derived.WalkKit
namespace Go.Proofs.Ytiijlpmdnokjfaa

def letters : List UInt8 := [97, 98, 99]
/-- All words of n letters, in order. -/
def wordsOf : Nat → List (List UInt8)
  | 0 => [[]]
  | n + 1 => (wordsOf n).flatMap fun w => letters.map fun b => w ++ [b]
/-- All words of at most n letters. -/
def wordsTo : Nat → List (List UInt8)
  | 0 => wordsOf 0
  | n + 1 => wordsTo n ++ wordsOf (n + 1)
def isLetter (b : UInt8) : Bool := decide (97 ≤ b.toNat) && decide (b.toNat ≤ 99)
def isW (l : List UInt8) : Bool := l.all isLetter && decide (l.length ≤ 30)
/-- The next word, the last letter ahead. -/
def bump : List UInt8 → Option (List UInt8)
  | [] => none
  | b :: r => if b.toNat < 99 then some (UInt8.ofNat (b.toNat + 1) :: r) else (bump r).map (97 :: ·)
def nextW (l : List UInt8) : List UInt8 :=
  if isW l then
    match bump l.reverse with
    | some r => r.reverse
    | none => if l.length + 1 ≤ 30 then List.replicate (l.length + 1) 97 else []
  else []
/-- The order: shorter first, then byte by byte. -/
def lessB : List UInt8 → List UInt8 → Bool
  | [], [] => false
  | [], _ :: _ => true
  | _ :: _, [] => false
  | a :: r, b :: s => if a.toNat < b.toNat then true else if b.toNat < a.toNat then false else lessB r s
def cmpW (a b : List UInt8) : Int :=
  if a.length < b.length then -1 else if b.length < a.length then 1 else if lessB a b then -1 else if lessB b a then 1 else 0

theorem lessB_asymm : ∀ a b, lessB a b = true → lessB b a = false
  | [], [], h => by simp [lessB] at h
  | [], _ :: _, _ => rfl
  | _ :: _, [], h => by simp [lessB] at h
  | a :: r, b :: s, h => by
    unfold lessB at h ⊢
    by_cases h1 : a.toNat < b.toNat
    · rw [if_neg (by omega), if_pos h1]
    · rw [if_neg h1] at h
      by_cases h2 : b.toNat < a.toNat
      · rw [if_pos h2] at h
        cases h
      · rw [if_neg h2] at h
        rw [if_neg h2, if_neg h1]
        exact lessB_asymm r s h
theorem less_eq : ∀ a b, Op.bytesLess a b = lessB a b
  | [], [] => rfl
  | [], _ :: _ => rfl
  | _ :: _, [] => rfl
  | a :: r, b :: s => by
    unfold Op.bytesLess lessB
    rw [less_eq r s]
    by_cases h1 : a.toNat < b.toNat
    · rw [if_pos h1]
      simp [UInt8.lt_iff_toNat_lt, h1]
    · rw [if_neg h1]
      by_cases h2 : b.toNat < a.toNat
      · rw [if_pos h2]
        have hne : a ≠ b := fun e => by rw [e] at h2; omega
        simp [UInt8.lt_iff_toNat_lt, h1, hne]
      · rw [if_neg h2]
        have he : a = b := UInt8.toNat_inj.1 (by omega)
        subst he
        simp
theorem lessB_total : ∀ a b, lessB a b = false → lessB b a = false → a = b
  | [], [], _, _ => rfl
  | [], _ :: _, h, _ => by simp [lessB] at h
  | _ :: _, [], _, h => by simp [lessB] at h
  | a :: r, b :: s, h, h' => by
    unfold lessB at h h'
    by_cases h1 : a.toNat < b.toNat
    · rw [if_pos h1] at h; cases h
    · by_cases h2 : b.toNat < a.toNat
      · rw [if_pos h2] at h'; cases h'
      · rw [if_neg h1, if_neg h2] at h
        rw [if_neg h2, if_neg h1] at h'
        have he : a = b := UInt8.toNat_inj.1 (by omega)
        rw [he, lessB_total r s h h']
theorem cmpW_neg (a b : List UInt8) : cmpW a b = 0 - cmpW b a := by
  unfold cmpW
  by_cases h1 : a.length < b.length
  · rw [if_pos h1, if_neg (by omega), if_pos h1]
    rfl
  · rw [if_neg h1]
    by_cases h2 : b.length < a.length
    · rw [if_pos h2, if_pos h2]
      rfl
    · rw [if_neg h2, if_neg h2, if_neg h1]
      cases ha : lessB a b with
      | true => rw [lessB_asymm a b ha]; rfl
      | false =>
        cases hb : lessB b a with
        | true => rfl
        | false => rfl

/-- Each word of the list comes before the one behind it, and is followed by it. -/
def stepsOk : List (List UInt8) → Bool
  | a :: b :: r => decide (cmpW a b = -1) && (nextW a == b) && stepsOk (b :: r)
  | _ => true
theorem stepsOk_at : ∀ (l : List (List UInt8)) (k : Nat) (a b : List UInt8), stepsOk l = true → l[k]? = some a → l[k + 1]? = some b → cmpW a b = -1 ∧ nextW a = b
  | x :: y :: r, 0, a, b, h, ha, hb => by
    simp at ha hb
    subst ha hb
    simp only [stepsOk, Bool.and_eq_true, decide_eq_true_eq, beq_iff_eq] at h
    exact ⟨h.1.1, h.1.2⟩
  | x :: y :: r, k + 1, a, b, h, ha, hb => by
    simp only [stepsOk, Bool.and_eq_true] at h
    exact stepsOk_at (y :: r) k a b h.2 (by simpa using ha) (by simpa using hb)
  | [x], k, a, b, _, ha, hb => by
    cases k <;> simp at hb
  | [], k, a, b, _, ha, _ => by simp at ha
theorem words_ok : ((List.range 6).all fun n => stepsOk (wordsTo n)) = true := by decide +kernel
theorem wordsOf_length : ∀ n, (wordsOf n).length = 3 ^ n
  | 0 => rfl
  | n + 1 => by
    unfold wordsOf
    rw [List.length_flatMap]
    simp [letters, Nat.pow_succ, List.map_const', wordsOf_length n]
end Go.Proofs.Ytiijlpmdnokjfaa
