/-
  Plain facts on the next word, of no program: the last letters that are c become a; the letter ahead of them becomes the next one.
-/
import Derived.Test.YthmfncklepkddabWords
namespace Go.Proofs.Ythmfncklepkddab

theorem bump_carry (b : UInt8) (r : List UInt8) (h : b.toNat < 99) : ∀ j, bump (List.replicate j 99 ++ b :: r) = some (List.replicate j 97 ++ UInt8.ofNat (b.toNat + 1) :: r)
  | 0 => by simp [bump, h]
  | j + 1 => by
    rw [List.replicate_succ, List.cons_append, bump, if_neg (by decide), bump_carry b r h j]
    simp [List.replicate_succ]
theorem bump_all : ∀ j, bump (List.replicate j 99) = none
  | 0 => rfl
  | j + 1 => by
    rw [List.replicate_succ, bump, if_neg (by decide), bump_all j]
    rfl
theorem nextW_step {l p : List UInt8} {b : UInt8} {j : Nat} (hw : isW l = true) (hl : l = p ++ b :: List.replicate j 99) (h : b.toNat < 99) : nextW l = p ++ UInt8.ofNat (b.toNat + 1) :: List.replicate j 97 := by
  have hr : l.reverse = List.replicate j 99 ++ b :: p.reverse := by rw [hl]; simp
  unfold nextW
  rw [if_pos hw, hr, bump_carry b _ h j]
  simp
theorem nextW_wrap {l : List UInt8} {n : Nat} (hw : isW l = true) (hl : l = List.replicate n 99) : nextW l = if n + 1 ≤ 30 then List.replicate (n + 1) 97 else [] := by
  have hr : l.reverse = List.replicate n 99 := by rw [hl]; simp
  unfold nextW
  rw [if_pos hw, hr, bump_all n]
  simp [hl]
theorem nextW_no {l : List UInt8} (hw : isW l = false) : nextW l = [] := by
  unfold nextW
  rw [if_neg (by rw [hw]; decide)]
theorem isW_len {l : List UInt8} (hw : isW l = true) : l.length ≤ 30 := by
  simp only [isW, Bool.and_eq_true, decide_eq_true_eq] at hw
  exact hw.2
theorem isW_at {l : List UInt8} {k : Nat} (hw : isW l = true) (hk : k < l.length) : isLetter l[k] = true := by
  simp only [isW, Bool.and_eq_true, List.all_eq_true] at hw
  exact hw.1 _ (List.getElem_mem hk)

/-- Ahead of place m stands what stood; from m on all letters are c. -/
def Carry (l : List UInt8) (m : Nat) : Prop := m ≤ l.length ∧ l.drop m = List.replicate (l.length - m) 99
theorem Carry.start (l : List UInt8) : Carry l l.length := ⟨Nat.le_refl _, by simp⟩
theorem Carry.step {l : List UInt8} {k : Nat} (h : Carry l (k + 1)) (hk : k < l.length) (hb : l[k] = 99) : Carry l k := by
  refine ⟨by omega, ?_⟩
  rw [List.drop_eq_getElem_cons hk, h.2, hb, show l.length - k = (l.length - (k + 1)) + 1 by omega, List.replicate_succ]
theorem Carry.next {l : List UInt8} {k : Nat} (h : Carry l (k + 1)) (hk : k < l.length) (hw : isW l = true) (hb : l[k].toNat < 99) : nextW l = l.take k ++ UInt8.ofNat (l[k].toNat + 1) :: List.replicate (l.length - (k + 1)) 97 := by
  refine nextW_step hw ?_ hb
  rw [← h.2, ← List.drop_eq_getElem_cons hk, List.take_append_drop]
theorem Carry.wrap {l : List UInt8} (h : Carry l 0) (hw : isW l = true) : nextW l = if l.length + 1 ≤ 30 then List.replicate (l.length + 1) 97 else [] := by
  refine nextW_wrap hw ?_
  have := h.2
  simpa using this
end Go.Proofs.Ythmfncklepkddab
