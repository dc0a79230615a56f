/-
  Plain facts on terms, of no program: letters and variables, the variables that occur, a text with a part in the place of each byte.
-/
import Derived.Test.YtiijlpmdnokjfaaLetM
import Derived.Lib.Strings
import Derived.Lib.Bytealg
namespace Go.Proofs.Ytiijlpmdnokjfaa
open Go.RowKit

def isVarB (b : UInt8) : Bool := decide (88 ≤ b.toNat) && decide (b.toNat ≤ 90)
def tLet (b : UInt8) : Bool := isLetter b || isVarB b
def isT (l : List UInt8) : Bool := l.all tLet && decide (l.length ≤ 12)
def vars3 : List UInt8 := [88, 89, 90]
/-- The variables that occur, in order. -/
def varsL (l : List UInt8) : List UInt8 := vars3.filter fun b => l.contains b
/-- A text of at most 2^20 bytes, or none. -/
def limB (l : List UInt8) : List UInt8 := if l.length ≤ 1048576 then l else []
def valB (x y z : ByteArray) (b : UInt8) : ByteArray := if b = 88 then x else if b = 89 then y else if b = 90 then z else ⟨#[]⟩
def withV (x y z : ByteArray) (b : UInt8) (s : ByteArray) : Value := .agg #[.string (if b = 88 then s else x), .string (if b = 89 then s else y), .string (if b = 90 then s else z)]
def isV (x y z : ByteArray) : Bool := isW x.data.toList && isW y.data.toList && isW z.data.toList
/-- A part in the place of each byte. -/
def subL (f : UInt8 → List UInt8) (l : List UInt8) : List UInt8 := l.flatMap f
def repF (b0 : UInt8) (t : ByteArray) (b : UInt8) : List UInt8 := if b = b0 then t.data.toList else [b]
def appF (x y z : ByteArray) (b : UInt8) : List UInt8 := if isVarB b then (valB x y z b).data.toList else [b]

/-- How often a byte occurs. -/
def cntL (l : List UInt8) (b : UInt8) : Nat := l.count b
/-- The variables that occur, among the first k. -/
def varsK (l : List UInt8) (k : Nat) : List UInt8 := (vars3.take k).filter fun b => decide (0 < cntL l b)
/-- Text as a string. -/
def strL (l : List UInt8) : ByteArray := ⟨l.toArray⟩
theorem tAll_succ (s : ByteArray) (k : Nat) (h : k < s.size) : (s.data.toList.take (k + 1)).all tLet = ((s.data.toList.take k).all tLet && tLet s[k]) := by
  rw [List.take_succ_eq_append_getElem (by simpa using h), List.all_append]
  simp
  rfl
theorem isT_bad {s : ByteArray} {k : Nat} (h : k < s.size) (hb : tLet s[k] = false) : isT s.data.toList = false := by
  have : s.data.toList.all tLet = false := by
    rw [List.all_eq_false]
    exact ⟨s[k], List.mem_iff_getElem.2 ⟨k, by simpa using h, rfl⟩, by simp [hb]⟩
  simp [isT, this]
theorem isT_all {s : ByteArray} (h : (s.data.toList.take s.size).all tLet = true) : isT s.data.toList = decide ((s.size : Int) ≤ 12) := by
  have e : s.data.toList.take s.size = s.data.toList := List.take_of_length_le (by simp)
  rw [e] at h
  unfold isT
  rw [h, Bool.true_and]
  simp
  omega
theorem isT_long {s : ByteArray} (h : 12 < s.size) : isT s.data.toList = false := by
  unfold isT
  rw [Bool.and_eq_false_iff]
  right
  simp
  omega
theorem count_succ (s : ByteArray) (b : UInt8) (k : Nat) (h : k < s.size) : cntL (s.data.toList.take (k + 1)) b = cntL (s.data.toList.take k) b + (if s[k] = b then 1 else 0) := by
  unfold cntL
  rw [List.take_succ_eq_append_getElem (by simpa using h), List.count_append, List.count_singleton]
  congr 1
  have e : s.data.toList[k]'(by simpa using h) = s[k] := rfl
  rw [e]
  by_cases h1 : s[k] = b <;> simp [h1]
theorem count_end (s : ByteArray) (b : UInt8) : cntL (s.data.toList.take s.size) b = cntL s.data.toList b := by
  rw [List.take_of_length_le (by simp)]
theorem index_cnt (l : List UInt8) (b : UInt8) : decide (0 ≤ Lib.indexByte l b) = decide (0 < cntL l b) := by
  unfold cntL
  induction l with
  | nil => rfl
  | cons a r ih =>
    unfold Lib.indexByte
    have hge := Lib.indexByte_ge r b
    by_cases h : a = b
    · subst h
      simp
    · rw [List.count_cons_of_ne h]
      rw [if_neg (by simpa using h)]
      by_cases h2 : Lib.indexByte r b = -1
      · rw [if_pos (by simpa using h2)]
        rw [h2] at ih
        rw [← ih]
      · rw [if_neg (by simpa using h2)]
        have h0 : decide (0 ≤ Lib.indexByte r b) = true := by simp; omega
        rw [h0] at ih
        rw [← ih]
        simp
        omega
theorem cntL_contains (l : List UInt8) (b : UInt8) : decide (0 < cntL l b) = l.contains b := by
  unfold cntL
  rw [Bool.eq_iff_iff]
  simp [List.count_pos_iff]
theorem varsK_succ (l : List UInt8) {k : Nat} {b : UInt8} (h : vars3[k]? = some b) : varsK l (k + 1) = varsK l k ++ (if 0 < cntL l b then [b] else []) := by
  unfold varsK
  rw [List.take_add_one, h, List.filter_append]
  congr 1
  by_cases hc : 0 < cntL l b <;> simp [hc]
theorem varsK_len (l : List UInt8) (k : Nat) : (varsK l k).length ≤ 3 := Nat.le_trans (List.length_filter_le _ _) (by simp [vars3]; omega)
theorem varsK_end (l : List UInt8) : varsK l 3 = varsL l := by
  unfold varsK varsL
  rw [show vars3.take 3 = vars3 from rfl]
  exact List.filter_congr fun b _ => cntL_contains l b
theorem strL_nil : (⟨#[]⟩ : ByteArray) = strL [] := rfl
theorem strL_snoc (l : List UInt8) (b : UInt8) {t : ByteArray} (h : t = ⟨#[b]⟩) : strL l ++ t = strL (l ++ [b]) := by
  subst h
  apply ByteArray.ext
  simp [strL, ByteArray.data_append]
theorem strL_app (l m : List UInt8) {t : ByteArray} (h : t.data.toList = m) : strL l ++ t = strL (l ++ m) := by
  subst h
  apply ByteArray.ext
  simp [strL, ByteArray.data_append]
theorem strL_size (l : List UInt8) : (strL l).size = l.length := by simp [strL, ByteArray.size]
theorem strL_list (l : List UInt8) : (strL l).data.toList = l := by simp [strL]
theorem one_extract (s : ByteArray) (k : Nat) (h : k < s.size) : (s.extract k (k + 1)).data.toList = [s[k]] := by
  rw [Lib.extract_data]
  have e : k + 1 - k = 1 := by omega
  have h' : k < s.data.toList.length := by simpa using h
  rw [e, List.drop_eq_getElem_cons h', List.take_succ_cons, List.take_zero]
  rfl
theorem sub_succ (f : UInt8 → List UInt8) (s : ByteArray) (k : Nat) (h : k < s.size) : subL f (s.data.toList.take (k + 1)) = subL f (s.data.toList.take k) ++ f s[k] := by
  unfold subL
  rw [List.take_succ_eq_append_getElem (by simpa using h), List.flatMap_append]
  simp
  rfl
theorem sub_zero (f : UInt8 → List UInt8) (l : List UInt8) : subL f (l.take 0) = [] := rfl
theorem sub_end (f : UInt8 → List UInt8) (s : ByteArray) : subL f (s.data.toList.take s.size) = subL f s.data.toList := by
  rw [List.take_of_length_le (by simp)]
theorem sub_len_le (f : UInt8 → List UInt8) (l : List UInt8) (k : Nat) : (subL f (l.take k)).length ≤ (subL f l).length := by
  have e : subL f l = subL f (l.take k) ++ subL f (l.drop k) := by
    unfold subL
    rw [← List.flatMap_append, List.take_append_drop]
  rw [e, List.length_append]
  omega
/-- Too many bytes at some place: too many at the end. -/
theorem sub_over {f : UInt8 → List UInt8} {l : List UInt8} {k : Nat} (h : ¬ (subL f (l.take k)).length ≤ 1048576) : limB (subL f l) = [] := by
  unfold limB
  rw [if_neg]
  intro hl
  exact h (Nat.le_trans (sub_len_le f l k) hl)
theorem sub_fits {f : UInt8 → List UInt8} {s : ByteArray} (h : (subL f (s.data.toList.take s.size)).length ≤ 1048576) : limB (subL f s.data.toList) = subL f (s.data.toList.take s.size) := by
  rw [sub_end] at h ⊢
  unfold limB
  rw [if_pos h]
theorem isVarB_iff (b : UInt8) : isVarB b = true ↔ b = 88 ∨ b = 89 ∨ b = 90 := by
  simp only [isVarB, Bool.and_eq_true, decide_eq_true_eq]
  constructor
  · intro ⟨h1, h2⟩
    rcases (by omega : b.toNat = 88 ∨ b.toNat = 89 ∨ b.toNat = 90) with h | h | h
    · exact Or.inl (UInt8.toNat_inj.1 h)
    · exact Or.inr (Or.inl (UInt8.toNat_inj.1 h))
    · exact Or.inr (Or.inr (UInt8.toNat_inj.1 h))
  · rintro (h | h | h) <;> subst h <;> decide
theorem valB_le {x y z : ByteArray} {n : Nat} (hx : x.size ≤ n) (hy : y.size ≤ n) (hz : z.size ≤ n) (b : UInt8) : (valB x y z b).size ≤ n := by
  unfold valB
  split
  · exact hx
  · split
    · exact hy
    · split
      · exact hz
      · exact Nat.zero_le _
/-- NAME=WORD. -/
def partV (x y z : ByteArray) (b : UInt8) : List UInt8 := b :: 61 :: (valB x y z b).data.toList
def partsV (x y z : ByteArray) (M : List UInt8) : List (List UInt8) := M.map (partV x y z)
theorem partV_str (x y z : ByteArray) {t : ByteArray} {b : UInt8} (h : t.data.toList = [b]) : t ++ ⟨#[61]⟩ ++ valB x y z b = ⟨(partV x y z b).toArray⟩ := by
  apply ByteArray.ext
  apply Array.ext'
  simp [partV, ByteArray.data_append, h]
theorem varIdx_lib (b : UInt8) : decide (0 ≤ Lib.indexByte [88, 89, 90] b) = isVarB b := by
  by_cases h0 : b = 88
  · subst h0; rfl
  · by_cases h1 : b = 89
    · subst h1; rfl
    · by_cases h2 : b = 90
      · subst h2; rfl
      · have hv : isVarB b = false := by
          rw [Bool.eq_false_iff]
          intro h
          rcases (isVarB_iff b).1 h with h | h | h
          · exact h0 h
          · exact h1 h
          · exact h2 h
        have e0 : ¬ (88 = b) := fun e => h0 e.symm
        have e1 : ¬ (89 = b) := fun e => h1 e.symm
        have e2 : ¬ (90 = b) := fun e => h2 e.symm
        rw [hv]
        simp [Lib.indexByte, e0, e1, e2]
theorem tLet_idx (b : UInt8) : decide (0 ≤ Lib.indexByte [97, 98, 99, 88, 89, 90] b) = tLet b := by
  unfold tLet
  by_cases h : isLetter b = true
  · obtain ⟨_, h1, h2⟩ := letIdx_yes h
    rw [h, Bool.true_or]
    rcases (by omega : b.toNat = 97 ∨ b.toNat = 98 ∨ b.toNat = 99) with e | e | e
    · obtain rfl : b = 97 := UInt8.toNat_inj.1 e
      rfl
    · obtain rfl : b = 98 := UInt8.toNat_inj.1 e
      rfl
    · obtain rfl : b = 99 := UInt8.toNat_inj.1 e
      rfl
  · have hl : isLetter b = false := by simpa using h
    by_cases hv : isVarB b = true
    · rw [hv, hl]
      rcases (isVarB_iff b).1 hv with e | e | e <;> subst e <;> rfl
    · have hv : isVarB b = false := by simpa using hv
      rw [hl, hv]
      have n0 : ¬ (97 = b) := by rintro rfl; simp [isLetter] at hl
      have n1 : ¬ (98 = b) := by rintro rfl; simp [isLetter] at hl
      have n2 : ¬ (99 = b) := by rintro rfl; simp [isLetter] at hl
      have n3 : ¬ (88 = b) := by rintro rfl; simp [isVarB] at hv
      have n4 : ¬ (89 = b) := by rintro rfl; simp [isVarB] at hv
      have n5 : ¬ (90 = b) := by rintro rfl; simp [isVarB] at hv
      simp [Lib.indexByte, n0, n1, n2, n3, n4, n5]
end Go.Proofs.Ytiijlpmdnokjfaa
