/-
  Expressions read from a text: what is read, what stands behind it; the text that was read is the expression's own. Of no function of the program.
-/
import Derived.Test.YtfhghgbiemjddaaTextS
namespace Go.Proofs.Ytfhghgbiemjddaa
open Go.RowKit

def Nd : Type := Int × ByteArray × Fr
def bare (k : Int) : Nd := (k, ⟨#[]⟩, .nil)
def one (k : Int) (x : Nd) : Nd := (k, ⟨#[]⟩, .cons x.1 x.2.1 x.2.2 .nil)
def two (k : Int) (x y : Nd) : Nd := (k, ⟨#[]⟩, .cons x.1 x.2.1 x.2.2 (.cons y.1 y.2.1 y.2.2 .nil))
def signB : List UInt8 → Int × List UInt8
  | [] => (5, [])
  | c :: r => if c = 124 then (6, r) else if c = 38 then (7, r) else (5, c :: r)
def closeB : List UInt8 → Option (List UInt8)
  | [] => none
  | c :: r => if c = 41 then some r else none
def pairB (x : Nd) (k : Int) (p : Option (Nd × List UInt8)) : Option (Nd × List UInt8) :=
  match p with
  | none => none
  | some (y, t) => (closeB t).map fun t' => (two k x y, t')
/-- The expression at the beginning of a text, at most d deep, and what follows it. -/
def parse : Nat → List UInt8 → Option (Nd × List UInt8)
  | 0, _ => none
  | _ + 1, [] => none
  | d + 1, c :: r =>
    if c = 48 then some (bare 1, r) else if c = 49 then some (bare 2, r) else if c = 46 then some (bare 4, r)
    else if c = 42 then (parse d r).map fun x => (one 8 x.1, x.2)
    else if c = 33 then (parse d r).map fun x => (one 9 x.1, x.2)
    else if c = 40 then (parse d r).bind fun x => pairB x.1 (signB x.2).1 (parse d (signB x.2).2)
    else if isLetter c then some ((3, ⟨#[c]⟩, .nil), r) else none

theorem signB_cons (c : UInt8) (r : List UInt8) : signB (c :: r) = if c = 124 then (6, r) else if c = 38 then (7, r) else (5, c :: r) := rfl
theorem closeB_cons (c : UInt8) (r : List UInt8) : closeB (c :: r) = if c = 41 then some r else none := rfl
theorem signB_text (t : List UInt8) : t = signOf (signB t).1 ++ (signB t).2 := by
  cases t with
  | nil => rfl
  | cons c r =>
    rw [signB_cons]
    by_cases h1 : c = 124
    · subst h1; rfl
    · by_cases h2 : c = 38
      · subst h2; rfl
      · rw [if_neg h1, if_neg h2]; rfl
theorem signB_kind (t : List UInt8) : (signB t).1 = 5 ∨ (signB t).1 = 6 ∨ (signB t).1 = 7 := by
  cases t with
  | nil => exact .inl rfl
  | cons c r =>
    rw [signB_cons]
    by_cases h1 : c = 124
    · rw [if_pos h1]; exact .inr (.inl rfl)
    · by_cases h2 : c = 38
      · rw [if_neg h1, if_pos h2]; exact .inr (.inr rfl)
      · rw [if_neg h1, if_neg h2]; exact .inl rfl
theorem closeB_text {t t' : List UInt8} (h : closeB t = some t') : t = 41 :: t' := by
  cases t with
  | nil => cases h
  | cons c r =>
    rw [closeB_cons] at h
    by_cases h1 : c = 41
    · rw [if_pos h1] at h
      cases h
      rw [h1]
    · rw [if_neg h1] at h
      cases h
def ndTxt (x : Nd) : List UInt8 := nodeTxt x.1 x.2.1 (texts x.2.2)
theorem txt_one (k : Int) (x : Nd) (hk : k = 8 ∨ k = 9) : ndTxt (one k x) = (if k = 8 then 42 else 33) :: ndTxt x := by
  rcases hk with rfl | rfl <;> simp [ndTxt, one, nodeTxt, texts]
theorem txt_two (k : Int) (x y : Nd) (hk : k = 5 ∨ k = 6 ∨ k = 7) : ndTxt (two k x y) = 40 :: ndTxt x ++ signOf k ++ ndTxt y ++ [41] := by
  rcases hk with rfl | rfl | rfl <;> simp [ndTxt, two, nodeTxt, texts]

theorem parse_spec : ∀ (d : Nat) (s : List UInt8) (x : Nd) (t : List UInt8), parse d s = some (x, t) → s = ndTxt x ++ t ∧ x.2.2.size + 2 ≤ 2 ^ d ∧ x.2.1.size ≤ 1
  | 0, _, _, _, h => by cases h
  | d + 1, [], _, _, h => by cases h
  | d + 1, c :: r, x, t, h => by
    have hd : 1 ≤ 2 ^ d := Nat.one_le_two_pow
    have hdd : 2 ^ (d + 1) = 2 ^ d * 2 := Nat.pow_succ ..
    unfold parse at h
    by_cases h1 : c = 48
    · rw [if_pos h1] at h
      cases h
      subst h1
      exact ⟨rfl, by simp [bare, Fr.size]; omega, Nat.zero_le _⟩
    rw [if_neg h1] at h
    by_cases h2 : c = 49
    · rw [if_pos h2] at h
      cases h
      subst h2
      exact ⟨rfl, by simp [bare, Fr.size]; omega, Nat.zero_le _⟩
    rw [if_neg h2] at h
    by_cases h3 : c = 46
    · rw [if_pos h3] at h
      cases h
      subst h3
      exact ⟨rfl, by simp [bare, Fr.size]; omega, Nat.zero_le _⟩
    rw [if_neg h3] at h
    by_cases h4 : c = 42
    · rw [if_pos h4] at h
      obtain ⟨⟨y, t'⟩, hy, e⟩ := Option.map_eq_some_iff.1 h
      cases e
      obtain ⟨e1, e2, e3⟩ := parse_spec d r y _ hy
      refine ⟨by rw [txt_one 8 y (.inl rfl), e1, h4]; rfl, ?_, Nat.zero_le _⟩
      simp only [one, Fr.size]
      omega
    rw [if_neg h4] at h
    by_cases h5 : c = 33
    · rw [if_pos h5] at h
      obtain ⟨⟨y, t'⟩, hy, e⟩ := Option.map_eq_some_iff.1 h
      cases e
      obtain ⟨e1, e2, e3⟩ := parse_spec d r y _ hy
      refine ⟨by rw [txt_one 9 y (.inr rfl), e1, h5]; rfl, ?_, Nat.zero_le _⟩
      simp only [one, Fr.size]
      omega
    rw [if_neg h5] at h
    by_cases h6 : c = 40
    · rw [if_pos h6] at h
      obtain ⟨⟨y, t1⟩, hy, h⟩ := Option.bind_eq_some_iff.1 h
      obtain ⟨e1, e2, e3⟩ := parse_spec d r y t1 hy
      cases hz : parse d (signB t1).2 with
      | none => simp only [hz, pairB] at h; cases h
      | some p =>
        obtain ⟨z, t2⟩ := p
        simp only [hz, pairB] at h
        obtain ⟨t3, ht, e⟩ := Option.map_eq_some_iff.1 h
        cases e
        obtain ⟨f1, f2, f3⟩ := parse_spec d _ z t2 hz
        refine ⟨?_, ?_, Nat.zero_le _⟩
        · rw [txt_two _ y z (signB_kind t1), h6, e1]
          have g1 := signB_text t1
          rw [f1, closeB_text ht] at g1
          conv => lhs; rw [g1]
          simp
        · simp only [two, Fr.size]
          omega
    rw [if_neg h6] at h
    by_cases h7 : isLetter c = true
    · rw [if_pos h7] at h
      cases h
      exact ⟨by simp [ndTxt, nodeTxt], by simp [Fr.size]; omega, Nat.le_refl _⟩
    · rw [if_neg h7] at h
      cases h

/-- What a whole text is read as. -/
def parseAll (s : List UInt8) : Option Nd :=
  match parse 6 s with
  | some (x, []) => if validRx x.1 x.2.1 x.2.2 then some x else none
  | _ => none
end Go.Proofs.Ytfhghgbiemjddaa
