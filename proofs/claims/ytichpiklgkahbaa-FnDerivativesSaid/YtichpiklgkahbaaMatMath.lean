/-
  Which parts of a word belong to the language of an expression: by places, and by words; the derivative. Of no function of the program.
-/
import Derived.Test.YtichpiklgkahbaaForest
namespace Go.Proofs.Ytichpiklgkahbaa
open Go.RowKit

/-- Whether the part between two places belongs to a language. -/
abbrev Mt := Nat → Nat → Bool
def botM : Mt := fun _ _ => false
def starN (p : Mt) : Nat → Mt
  | 0, i, j => decide (i = j)
  | f + 1, i, j => decide (i = j) || (List.range (j - i)).any fun d => p i (i + d + 1) && starN p f (i + d + 1) j
def starM (p : Mt) (i j : Nat) : Bool := starN p (j - i) i j
def catM (p q : Mt) (i j : Nat) : Bool := (List.range (j + 1 - i)).any fun d => p i (i + d) && q (i + d) j
/-- The part from i to j. -/
def part (s : List UInt8) (i j : Nat) : List UInt8 := (s.drop i).take (j - i)
def nodeM (s : List UInt8) (k : Int) (l : List UInt8) (ms : List Mt) : Mt := fun i j =>
  if k = 2 then decide (i = j) else if k = 3 then decide (part s i j = l) else if k = 4 then decide (j = i + 1)
  else if k = 5 then catM (ms.getD 0 botM) (ms.getD 1 botM) i j
  else if k = 6 then ms.getD 0 botM i j || ms.getD 1 botM i j
  else if k = 7 then ms.getD 0 botM i j && ms.getD 1 botM i j
  else if k = 8 then starM (ms.getD 0 botM) i j
  else if k = 9 then !(ms.getD 0 botM i j) else false
def mts (s : List UInt8) : Fr → List Mt
  | .nil => []
  | .cons k l a r => nodeM s k l.data.toList (mts s a) :: mts s r
theorem mts_items (s : List UInt8) : ∀ f : Fr, mts s f = f.items.map fun x => nodeM s x.1 x.2.1.data.toList (mts s x.2.2)
  | .nil => rfl
  | .cons k l a r => by simp [mts, Fr.items, mts_items s r]
theorem mts_len (s : List UInt8) (f : Fr) : (mts s f).length = f.items.length := by rw [mts_items]; simp
theorem mts_at {s : List UInt8} {f : Fr} {j : Nat} {k : Int} {l : ByteArray} {a : Fr} (h : f.items[j]? = some (k, l, a)) : (mts s f).getD j botM = nodeM s k l.data.toList (mts s a) := by
  rw [mts_items, List.getD_eq_getElem?_getD, List.getElem?_map, h]
  rfl

/-- A way from place to place, each part in the language. -/
inductive Path (p : Mt) : Nat → Nat → Prop
  | refl (i : Nat) : Path p i i
  | step {i m j : Nat} : i < m → p i m = true → Path p m j → Path p i j
theorem Path.le {p : Mt} : ∀ {i j : Nat}, Path p i j → i ≤ j
  | _, _, .refl _ => Nat.le_refl _
  | _, _, .step h _ r => Nat.le_trans (Nat.le_of_lt h) r.le
theorem Path.snoc {p : Mt} : ∀ {i m j : Nat}, Path p i m → m < j → p m j = true → Path p i j
  | _, _, _, .refl _, h, hp => .step h hp (.refl _)
  | _, _, _, .step h hp r, h', hp' => .step h hp (r.snoc h' hp')
theorem Path.last {p : Mt} : ∀ {i j : Nat}, Path p i j → i = j ∨ ∃ m, i ≤ m ∧ m < j ∧ Path p i m ∧ p m j = true
  | _, _, .refl _ => .inl rfl
  | i, j, .step (m := m) h hp r => by
    rcases r.last with e | ⟨x, h1, h2, h3, h4⟩
    · exact .inr ⟨i, Nat.le_refl _, by omega, .refl _, by rw [← e]; exact hp⟩
    · exact .inr ⟨x, by omega, h2, .step h hp h3, h4⟩
theorem starN_iff (p : Mt) : ∀ (f i j : Nat), j - i ≤ f → (starN p f i j = true ↔ Path p i j)
  | 0, i, j, h => by
    simp only [starN, decide_eq_true_eq]
    constructor
    · rintro rfl
      exact .refl _
    · intro hp
      have := hp.le
      omega
  | f + 1, i, j, h => by
    simp only [starN, Bool.or_eq_true, decide_eq_true_eq, List.any_eq_true, List.mem_range, Bool.and_eq_true]
    constructor
    · rintro (rfl | ⟨d, hd, h1, h2⟩)
      · exact .refl _
      · exact .step (by omega) h1 ((starN_iff p f _ _ (by omega)).1 h2)
    · intro hp
      cases hp with
      | refl => exact .inl rfl
      | step h1 h2 h3 =>
        rename_i m
        have := h3.le
        refine .inr ⟨m - i - 1, by omega, ?_, ?_⟩
        · rw [show i + (m - i - 1) + 1 = m by omega]; exact h2
        · rw [show i + (m - i - 1) + 1 = m by omega]; exact (starN_iff p f _ _ (by omega)).2 h3
theorem starM_iff {p : Mt} {i j : Nat} : starM p i j = true ↔ Path p i j := starN_iff p _ i j (Nat.le_refl _)
theorem starM_self (p : Mt) (i : Nat) : starM p i i = true := starM_iff.2 (.refl i)
theorem starM_no {p : Mt} {i j : Nat} (h : i ≠ j) (hn : ∀ m, i < m → m ≤ j → (p i m && starM p m j) = false) : starM p i j = false := by
  rw [← Bool.not_eq_true]
  intro ht
  cases starM_iff.1 ht with
  | refl => exact h rfl
  | step h1 h2 h3 =>
    have := hn _ h1 h3.le
    rw [h2, starM_iff.2 h3] at this
    exact absurd this (by decide)
theorem starM_yes {p : Mt} {i m j : Nat} (h : i < m) (h1 : p i m = true) (h2 : starM p m j = true) : starM p i j = true := starM_iff.2 (.step h h1 (starM_iff.1 h2))
theorem starM_snoc {p : Mt} {i m j : Nat} (h : m < j) (h1 : starM p i m = true) (h2 : p m j = true) : starM p i j = true := starM_iff.2 ((starM_iff.1 h1).snoc h h2)
theorem starM_none {p : Mt} {i j : Nat} (h : i ≠ j) (hn : ∀ m, i ≤ m → m < j → (starM p i m && p m j) = false) : starM p i j = false := by
  rw [← Bool.not_eq_true]
  intro ht
  rcases (starM_iff.1 ht).last with e | ⟨m, h1, h2, h3, h4⟩
  · exact h e
  · have := hn m h1 h2
    rw [starM_iff.2 h3, h4] at this
    exact absurd this (by decide)
theorem catM_yes {p q : Mt} {i m j : Nat} (h1 : i ≤ m) (h2 : m ≤ j) (h : (p i m && q m j) = true) : catM p q i j = true := by
  simp only [catM, List.any_eq_true, List.mem_range]
  refine ⟨m - i, by omega, ?_⟩
  rw [show i + (m - i) = m by omega]
  exact h
theorem catM_no {p q : Mt} {i j : Nat} (hn : ∀ m, i ≤ m → m ≤ j → (p i m && q m j) = false) : catM p q i j = false := by
  simp only [catM, List.any_eq_false, List.mem_range, Bool.not_eq_true]
  exact fun d hd => hn _ (by omega) (by omega)
end Go.Proofs.Ytichpiklgkahbaa
