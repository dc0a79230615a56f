/-
  A valid expression's own text is read as it. Of no function of the program.
-/
import Derived.Test.YtfhghgbiemjddaaParMath
import Derived.Test.YtfhghgbiemjddaaAllRx
namespace Go.Proofs.Ytfhghgbiemjddaa
open Go.RowKit

theorem letter_ne {c : UInt8} (h : isLetter c = true) : c ≠ 48 ∧ c ≠ 49 ∧ c ≠ 46 ∧ c ≠ 42 ∧ c ≠ 33 ∧ c ≠ 40 ∧ c ≠ 124 ∧ c ≠ 38 := by
  simp only [isLetter, Bool.and_eq_true, decide_eq_true_eq] at h
  refine ⟨?_, ?_, ?_, ?_, ?_, ?_, ?_, ?_⟩ <;> (rintro rfl; revert h; decide)
/-- The kinds of a sound node, and what they carry. -/
theorem node_cases {k : Int} {l : ByteArray} {a : Fr} (h : nodeOk k l a.items.length = true) :
    (∃ c, k = 3 ∧ l = ⟨#[c]⟩ ∧ isLetter c = true ∧ a = .nil) ∨ (l = ⟨#[]⟩ ∧ ((k = 1 ∨ k = 2 ∨ k = 4) ∧ a = .nil ∨ (k = 8 ∨ k = 9) ∧ (∃ k1 l1 a1, a = .cons k1 l1 a1 .nil) ∨
      (k = 5 ∨ k = 6 ∨ k = 7) ∧ ∃ k1 l1 a1 k2 l2 a2, a = .cons k1 l1 a1 (.cons k2 l2 a2 .nil))) := by
  have nil : ∀ f : Fr, f.items.length = 0 → f = .nil := fun f hf => by
    cases f with
    | nil => rfl
    | cons _ _ _ _ => simp [Fr.items] at hf
  unfold nodeOk at h
  by_cases hk : k = 3
  · rw [if_pos hk] at h
    simp only [Bool.and_eq_true, decide_eq_true_eq] at h
    obtain ⟨⟨h1, h2⟩, h3⟩ := h
    left
    obtain ⟨⟨L⟩⟩ := l
    match L, h1, h2 with
    | [c], _, h2 => exact ⟨c, hk, rfl, by simpa [isW] using h2, nil a h3⟩
  · rw [if_neg hk] at h
    simp only [Bool.and_eq_true, decide_eq_true_eq] at h
    obtain ⟨⟨⟨h0, h9⟩, h1⟩, h2⟩ := h
    right
    refine ⟨ByteArray.ext (Array.eq_empty_of_size_eq_zero h1), ?_⟩
    have hc : k = 1 ∨ k = 2 ∨ k = 4 ∨ k = 5 ∨ k = 6 ∨ k = 7 ∨ k = 8 ∨ k = 9 := by omega
    have one : a.items.length = 1 → ∃ k1 l1 a1, a = .cons k1 l1 a1 .nil := fun hf => by
      cases a with
      | nil => simp [Fr.items] at hf
      | cons k1 l1 a1 r => exact ⟨k1, l1, a1, by rw [nil r (by simpa [Fr.items] using hf)]⟩
    have two : a.items.length = 2 → ∃ k1 l1 a1 k2 l2 a2, a = .cons k1 l1 a1 (.cons k2 l2 a2 .nil) := fun hf => by
      cases a with
      | nil => simp [Fr.items] at hf
      | cons k1 l1 a1 r =>
        cases r with
        | nil => simp [Fr.items] at hf
        | cons k2 l2 a2 r => exact ⟨k1, l1, a1, k2, l2, a2, by rw [nil r (by simpa [Fr.items] using hf)]⟩
    rcases hc with rfl | rfl | rfl | rfl | rfl | rfl | rfl | rfl <;> simp [argsOf] at h2 <;> first
      | exact .inl ⟨by simp, nil a (by rw [h2]; rfl)⟩
      | exact .inr (.inl ⟨by simp, one (by omega)⟩)
      | exact .inr (.inr ⟨by simp, two (by omega)⟩)
theorem first_ne {k : Int} {l : ByteArray} {a : Fr} (h : nodeOk k l a.items.length = true) (t : List UInt8) : ∃ c r, ndTxt (k, l, a) ++ t = c :: r ∧ c ≠ 124 ∧ c ≠ 38 := by
  rcases node_cases h with ⟨c, rfl, rfl, hc, rfl⟩ | ⟨rfl, ⟨hk, rfl⟩ | ⟨hk, k1, l1, a1, rfl⟩ | ⟨hk, k1, l1, a1, k2, l2, a2, rfl⟩⟩
  · exact ⟨c, t, by simp [ndTxt, nodeTxt], (letter_ne hc).2.2.2.2.2.2.1, (letter_ne hc).2.2.2.2.2.2.2⟩
  · rcases hk with rfl | rfl | rfl
    · exact ⟨48, t, by simp [ndTxt, nodeTxt], by decide, by decide⟩
    · exact ⟨49, t, by simp [ndTxt, nodeTxt], by decide, by decide⟩
    · exact ⟨46, t, by simp [ndTxt, nodeTxt], by decide, by decide⟩
  · rcases hk with rfl | rfl
    · exact ⟨42, _, by simp [ndTxt, nodeTxt]; rfl, by decide, by decide⟩
    · exact ⟨33, _, by simp [ndTxt, nodeTxt]; rfl, by decide, by decide⟩
  · rcases hk with rfl | rfl | rfl <;> exact ⟨40, _, by simp [ndTxt, nodeTxt]; rfl, by decide, by decide⟩
theorem signB_sign {k : Int} (hk : k = 5 ∨ k = 6 ∨ k = 7) {c : UInt8} {r : List UInt8} (h1 : c ≠ 124) (h2 : c ≠ 38) : signB (signOf k ++ c :: r) = (k, c :: r) := by
  rcases hk with rfl | rfl | rfl
  · show signB (c :: r) = _
    rw [signB_cons, if_neg h1, if_neg h2]
  · rfl
  · rfl
theorem parse_full : ∀ (d : Nat) (x : Nd) (t : List UInt8), nodeOk x.1 x.2.1 x.2.2.items.length = true → allRow x.2.2 = true → x.2.2.depth + 1 ≤ d → parse d (ndTxt x ++ t) = some (x, t)
  | 0, _, _, _, _, h => by omega
  | d + 1, ⟨k, l, a⟩, t, hn, ha, hd => by
    rcases node_cases hn with ⟨c, e1, e2, hc, e3⟩ | ⟨e2, ⟨hk, e3⟩ | ⟨hk, k1, l1, a1, e3⟩ | ⟨hk, k1, l1, a1, k2, l2, a2, e3⟩⟩
    · obtain rfl : k = 3 := e1
      obtain rfl : l = _ := e2
      obtain rfl : a = _ := e3
      obtain ⟨n1, n2, n3, n4, n5, n6, _, _⟩ := letter_ne hc
      simp [ndTxt, nodeTxt, parse, n1, n2, n3, n4, n5, n6, hc]
    · obtain rfl : l = _ := e2
      obtain rfl : a = _ := e3
      rcases hk with e | e | e <;> (obtain rfl : k = _ := e; simp [ndTxt, nodeTxt, parse, bare])
    · obtain rfl : l = _ := e2
      obtain rfl : a = _ := e3
      simp only [allRow, Bool.and_eq_true] at ha
      simp only [Fr.depth] at hd
      have ih := parse_full d (k1, l1, a1) t ha.1.2 ha.1.1 (by show a1.depth + 1 ≤ d; omega)
      have e : ndTxt (k, ⟨#[]⟩, .cons k1 l1 a1 .nil) ++ t = (if k = 8 then 42 else 33) :: (ndTxt (k1, l1, a1) ++ t) := by
        have := txt_one k (k1, l1, a1) hk
        unfold one at this
        rw [this]
        rfl
      rw [e]
      rcases hk with e | e <;> (obtain rfl : k = _ := e; simp [parse, ih, one])
    · obtain rfl : l = _ := e2
      obtain rfl : a = _ := e3
      simp only [allRow, Bool.and_eq_true] at ha
      simp only [Fr.depth] at hd
      obtain ⟨c, r, hcr, hc1, hc2⟩ := first_ne (a := a2) ha.2.1.2 (41 :: t)
      have ih2 := parse_full d (k2, l2, a2) (41 :: t) ha.2.1.2 ha.2.1.1 (by show a2.depth + 1 ≤ d; omega)
      have ih1 := parse_full d (k1, l1, a1) (signOf k ++ (ndTxt (k2, l2, a2) ++ 41 :: t)) ha.1.2 ha.1.1 (by show a1.depth + 1 ≤ d; omega)
      have hs : signB (signOf k ++ (ndTxt (k2, l2, a2) ++ 41 :: t)) = (k, ndTxt (k2, l2, a2) ++ 41 :: t) := by rw [hcr]; exact signB_sign hk hc1 hc2
      have e : ndTxt (k, ⟨#[]⟩, .cons k1 l1 a1 (.cons k2 l2 a2 .nil)) ++ t = 40 :: (ndTxt (k1, l1, a1) ++ (signOf k ++ (ndTxt (k2, l2, a2) ++ 41 :: t))) := by
        have := txt_two k (k1, l1, a1) (k2, l2, a2) hk
        unfold two at this
        rw [this]
        simp
      rw [e]
      simp [parse, ih1, hs, ih2, pairB, closeB, two]
theorem parseAll_text {k : Int} {l : ByteArray} {a : Fr} (h : validRx k l a = true) : parseAll (nodeTxt k l (texts a)) = some (k, l, a) := by
  have h' := h
  simp only [validRx, Bool.and_eq_true, decide_eq_true_eq] at h'
  have := parse_full 6 (k, l, a) [] h'.2.2 h'.2.1 h'.1.2
  rw [List.append_nil] at this
  unfold parseAll
  have e : nodeTxt k l (texts a) = ndTxt (k, l, a) := rfl
  rw [e, this]
  simp [h]
  rfl
theorem parseAll_valid {s : List UInt8} {x : Nd} (h : parseAll s = some x) : validRx x.1 x.2.1 x.2.2 = true ∧ s = nodeTxt x.1 x.2.1 (texts x.2.2) := by
  unfold parseAll at h
  split at h
  · rename_i y hy
    split at h
    · rename_i hv
      cases h
      have := (parse_spec 6 s x [] hy).1
      rw [List.append_nil] at this
      exact ⟨hv, this⟩
    · cases h
  · cases h
end Go.Proofs.Ytfhghgbiemjddaa
