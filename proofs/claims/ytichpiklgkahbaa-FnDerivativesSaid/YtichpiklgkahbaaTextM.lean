/-
  The representation of an expression; the nine forms. Of no function of the program.
-/
import Derived.Test.YtichpiklgkahbaaValidS
import Derived.Deep.RegionHeld3
import Derived.RegionTactic
namespace Go.Proofs.Ytichpiklgkahbaa
open Go.RowKit

def signOf (k : Int) : List UInt8 := if k = 6 then [124] else if k = 7 then [38] else []
/-- A node's text, its parts' texts at hand. -/
def nodeTxt (k : Int) (l : ByteArray) (ts : List (List UInt8)) : List UInt8 :=
  if k = 1 then [48] else if k = 2 then [49] else if k = 3 then l.data.toList else if k = 4 then [46] else if k = 8 then 42 :: ts.getD 0 [] else if k = 9 then 33 :: ts.getD 0 []
  else 40 :: ts.getD 0 [] ++ signOf k ++ ts.getD 1 [] ++ [41]
def texts : Fr → List (List UInt8)
  | .nil => []
  | .cons k l a r => nodeTxt k l (texts a) :: texts r
theorem texts_at : ∀ {f : Fr} {j : Nat} {k : Int} {l : ByteArray} {a : Fr}, f.items[j]? = some (k, l, a) → (texts f).getD j [] = nodeTxt k l (texts a)
  | .nil, j, _, _, _, h => by simp [Fr.items] at h
  | .cons k' l' a' r, 0, k, l, a, h => by
    simp [Fr.items] at h
    obtain ⟨rfl, rfl, rfl⟩ := h
    simp [texts]
  | .cons k' l' a' r, j + 1, k, l, a, h => by
    simp [Fr.items] at h
    simpa [texts] using texts_at h
theorem texts_length : ∀ f : Fr, (texts f).length = f.items.length
  | .nil => rfl
  | .cons _ _ _ r => by simp [texts, Fr.items, texts_length r]

theorem nodeOk_cases {k : Int} {l : ByteArray} {m : Nat} (h : nodeOk k l m = true) :
    (k = 1 ∧ m = 0) ∨ (k = 2 ∧ m = 0) ∨ (k = 3 ∧ l.size = 1 ∧ m = 0) ∨ (k = 4 ∧ m = 0) ∨ (k = 5 ∧ m = 2) ∨ (k = 6 ∧ m = 2) ∨ (k = 7 ∧ m = 2) ∨ (k = 8 ∧ m = 1) ∨ (k = 9 ∧ m = 1) := by
  unfold nodeOk at h
  by_cases h3 : k = 3
  · rw [if_pos h3] at h
    simp only [Bool.and_eq_true, decide_eq_true_eq] at h
    omega
  · rw [if_neg h3] at h
    simp only [Bool.and_eq_true, decide_eq_true_eq] at h
    obtain ⟨⟨hk, _⟩, hm⟩ := h
    unfold argsOf at hm
    split at hm
    · omega
    · split at hm <;> omega

theorem nodeTxt_le {k : Int} {l : ByteArray} {a : Fr} (h : nodeOk k l a.items.length = true) : (nodeTxt k l (texts a)).length ≤ 3 + (texts a).flatten.length := by
  have two : ∀ ts : List (List UInt8), (ts.getD 0 []).length + (ts.getD 1 []).length ≤ ts.flatten.length := fun ts => by
    match ts with
    | [] => simp
    | [x] => simp
    | x :: y :: r => first | (simp; done) | (simp; omega)
  have h2 := two (texts a)
  rcases nodeOk_cases h with ⟨rfl, _⟩ | ⟨rfl, _⟩ | ⟨rfl, hl, _⟩ | ⟨rfl, _⟩ | ⟨rfl, _⟩ | ⟨rfl, _⟩ | ⟨rfl, _⟩ | ⟨rfl, _⟩ | ⟨rfl, _⟩
  · first | (simp [nodeTxt]; done) | (simp [nodeTxt]; omega)
  · first | (simp [nodeTxt]; done) | (simp [nodeTxt]; omega)
  · have : l.data.toList.length = 1 := by simpa using hl
    simp only [nodeTxt, if_neg (show ¬ (3 : Int) = 1 by decide), if_neg (show ¬ (3 : Int) = 2 by decide), if_true]
    omega
  · first | (simp [nodeTxt]; done) | (simp [nodeTxt]; omega)
  all_goals
    simp [nodeTxt, signOf]
    simp at h2
    omega
theorem texts_le : ∀ f : Fr, allRow f = true → (texts f).flatten.length ≤ 3 * f.size
  | .nil, _ => by simp [texts, Fr.size]
  | .cons k l a r, h => by
    simp only [allRow, Bool.and_eq_true] at h
    have h1 := texts_le a h.1.1
    have h2 := texts_le r h.2
    have h3 := nodeTxt_le h.1.2
    simp only [texts, List.flatten_cons, List.length_append, Fr.size]
    omega
theorem item_ok {f : Fr} {j : Nat} {k : Int} {l : ByteArray} {a : Fr} (hf : allRow f = true) (h : f.items[j]? = some (k, l, a)) : (allRow a && nodeOk k l a.items.length) = true := by
  rw [all_items, List.all_eq_true] at hf
  exact hf _ (List.mem_of_getElem? h)

theorem str_cat (a b : ByteArray) (x y : List UInt8) (ha : a = ⟨x.toArray⟩) (hb : b = ⟨y.toArray⟩) : a ++ b = ⟨(x ++ y).toArray⟩ := by rw [ha, hb, ByteArray.mk_append_mk]

theorem valid_ok {k : Int} {l : ByteArray} {a : Fr} (h : validRx k l a = true) : (allRow a && nodeOk k l a.items.length) = true := by
  unfold validRx at h
  rw [Bool.and_eq_true] at h
  exact h.2
end Go.Proofs.Ytichpiklgkahbaa
