/-
  Plain facts on terms with values: replacing a variable by its word does not change the word of a term; how long the text of values is. Of no program.
-/
import Derived.Test.YtiijlpmdnokjfaaTerM
import Derived.Test.YtiijlpmdnokjfaaJoinMath
namespace Go.Proofs.Ytiijlpmdnokjfaa
open Go.RowKit

theorem limB_id {l : List UInt8} (h : l.length ≤ 1048576) : limB l = l := if_pos h
theorem sub_le {f : UInt8 → List UInt8} {m : Nat} (h : ∀ b, (f b).length ≤ m) : ∀ l : List UInt8, (subL f l).length ≤ l.length * m
  | [] => by simp [subL]
  | b :: r => by
    have h1 := h b
    have h2 := sub_le h r
    unfold subL at h2 ⊢
    rw [List.flatMap_cons, List.length_append, List.length_cons, Nat.add_mul]
    omega
theorem sub_sub (f g : UInt8 → List UInt8) : ∀ l : List UInt8, subL g (subL f l) = subL (fun b => subL g (f b)) l
  | [] => rfl
  | b :: r => by
    have h := sub_sub f g r
    unfold subL at h ⊢
    rw [List.flatMap_cons, List.flatMap_append, h, List.flatMap_cons]
theorem sub_congr {f g : UInt8 → List UInt8} (h : ∀ b, f b = g b) (l : List UInt8) : subL f l = subL g l := by
  rw [show f = g from funext h]
theorem isW_letters {l : List UInt8} (h : isW l = true) : ∀ b ∈ l, isLetter b = true := by
  unfold isW at h
  rw [Bool.and_eq_true] at h
  exact List.all_eq_true.1 h.1
theorem app_letters {x y z : ByteArray} : ∀ {l : List UInt8}, (∀ b ∈ l, isLetter b = true) → subL (appF x y z) l = l
  | [], _ => rfl
  | b :: r, h => by
    have h1 := h b (List.mem_cons_self ..)
    have h2 : isVarB b = false := by
      obtain ⟨_, h3, h4⟩ := letIdx_yes h1
      simp [isVarB]
      omega
    have ih := app_letters (x := x) (y := y) (z := z) (l := r) (fun c hc => h c (List.mem_cons_of_mem _ hc))
    unfold subL at ih ⊢
    rw [List.flatMap_cons, ih]
    unfold appF
    rw [h2]
    rfl
theorem val_word {x y z : ByteArray} (h : isV x y z = true) (b : UInt8) : isW (valB x y z b).data.toList = true := by
  unfold isV at h
  rw [Bool.and_eq_true, Bool.and_eq_true] at h
  obtain ⟨⟨h1, h2⟩, h3⟩ := h
  unfold valB
  split
  · exact h1
  · split
    · exact h2
    · split
      · exact h3
      · rfl
/-- Replacing a variable by its word does not change the word of a term. -/
theorem apply_rep {x y z : ByteArray} (h : isV x y z = true) {b0 : UInt8} (hb : isVarB b0 = true) (l : List UInt8) : subL (appF x y z) (subL (repF b0 (valB x y z b0)) l) = subL (appF x y z) l := by
  rw [sub_sub]
  refine sub_congr (fun b => ?_) l
  by_cases hbb : b = b0
  · subst hbb
    rw [show repF b (valB x y z b) b = (valB x y z b).data.toList from if_pos rfl, app_letters (isW_letters (val_word h b))]
    unfold appF
    rw [hb]
    rfl
  · rw [show repF b0 (valB x y z b0) b = [b] from if_neg hbb]
    unfold subL
    simp
theorem app_le {x y z : ByteArray} (hx : x.size ≤ 31) (hy : y.size ≤ 31) (hz : z.size ≤ 31) (b : UInt8) : (appF x y z b).length ≤ 31 := by
  unfold appF
  split
  · have := valB_le (n := 31) hx hy hz b
    simpa using this
  · simp
theorem rep_le {t : ByteArray} (ht : t.size ≤ 31) (b0 b : UInt8) : (repF b0 t b).length ≤ 31 := by
  unfold repF
  split
  · simpa using ht
  · simp
theorem varsL_cnt (l : List UInt8) {b : UInt8} (hb : b ∈ vars3) : (0 < cntL (varsL l) b) ↔ (0 < cntL l b) := by
  unfold cntL varsL
  rw [List.count_pos_iff, List.count_pos_iff, List.mem_filter]
  constructor
  · rintro ⟨_, h⟩
    simpa using h
  · intro h
    exact ⟨hb, by simpa using h⟩
theorem withV_val (x y z s : ByteArray) {b : UInt8} (h : b = 88 ∨ b = 89 ∨ b = 90) : valB (if b = 88 then s else x) (if b = 89 then s else y) (if b = 90 then s else z) b = s := by
  rcases h with rfl | rfl | rfl <;> rfl
theorem varsL_eq (l : List UInt8) : varsL l = (if l.contains 88 then [88] else []) ++ ((if l.contains 89 then [89] else []) ++ (if l.contains 90 then [90] else [])) := by
  unfold varsL vars3
  simp only [List.filter_cons, List.filter_nil]
  cases l.contains 88 <;> cases l.contains 89 <;> cases l.contains 90 <;> rfl
theorem cnt3_le (l : List UInt8) : l.count 88 + l.count 89 + l.count 90 ≤ l.length := by
  induction l with
  | nil => simp
  | cons b r ih =>
    simp only [List.count_cons, List.length_cons]
    by_cases h0 : b = 88
    · subst h0
      simp
      omega
    · by_cases h1 : b = 89
      · subst h1
        simp
        omega
      · by_cases h2 : b = 90
        · subst h2
          simp
          omega
        · simp [h0, h1, h2]
          omega
theorem cont_cnt {l : List UInt8} {b : UInt8} (h : l.contains b = true) : 1 ≤ l.count b := List.count_pos_iff.2 (by simpa using h)
/-- How long the text of values is. -/
theorem fmt_len (x y z : ByteArray) (l : List UInt8) : (Lib.join (partsV x y z (varsL l)) [32]).length ≤ x.size + y.size + z.size + 3 * (varsL l).length - 1 ∧ Lib.lens (partsV x y z (varsL l)) ≤ x.size + y.size + z.size + 2 * (varsL l).length ∧ (varsL l).length ≤ l.length ∧ (varsL l).length ≤ 3 := by
  have hc := cnt3_le l
  have v0 : valB x y z 88 = x := rfl
  have v1 : valB x y z 89 = y := rfl
  have v2 : valB x y z 90 = z := rfl
  rw [varsL_eq]
  cases h0 : l.contains 88 with
  | true =>
    have k0 := cont_cnt h0
    cases h1 : l.contains 89 with
    | true =>
      have k1 := cont_cnt h1
      cases h2 : l.contains 90 with
      | true =>
        have k2 := cont_cnt h2
        simp [partsV, partV, Lib.join, Lib.lens, v0, v1, v2]
        omega
      | false =>
        simp [partsV, partV, Lib.join, Lib.lens, v0, v1]
        omega
    | false =>
      cases h2 : l.contains 90 with
      | true =>
        have k2 := cont_cnt h2
        simp [partsV, partV, Lib.join, Lib.lens, v0, v2]
        omega
      | false =>
        simp [partsV, partV, Lib.join, Lib.lens, v0]
        omega
  | false =>
    cases h1 : l.contains 89 with
    | true =>
      have k1 := cont_cnt h1
      cases h2 : l.contains 90 with
      | true =>
        have k2 := cont_cnt h2
        simp [partsV, partV, Lib.join, Lib.lens, v1, v2]
        omega
      | false =>
        simp [partsV, partV, Lib.join, Lib.lens, v1]
        omega
    | false =>
      cases h2 : l.contains 90 with
      | true =>
        have k2 := cont_cnt h2
        simp [partsV, partV, Lib.join, Lib.lens, v2]
        omega
      | false => simp [partsV, Lib.join, Lib.lens]
end Go.Proofs.Ytiijlpmdnokjfaa
