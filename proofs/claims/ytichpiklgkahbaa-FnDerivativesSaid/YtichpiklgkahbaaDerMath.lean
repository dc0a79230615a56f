/-
  A word matches the derivative exactly if the letter followed by it matches. Of no function of the program.
-/
import Derived.Test.YtichpiklgkahbaaDerMX
namespace Go.Proofs.Ytichpiklgkahbaa
open Go.RowKit

/-- An expression's language over a word. -/
def mtX (s : List UInt8) (x : Nx) : Mt := nodeM s x.1 x.2.1.data.toList (mts s x.2.2)
theorem mtX_no (s : List UInt8) : mtX s noX = botM := by
  funext i j
  simp [mtX, noX, nodeM, botM]
theorem mts_getD (s : List UInt8) (f : Fr) (t : Nat) : (mts s f).getD t botM = mtX s (f.items.getD t noX) := by
  rw [mts_items, List.getD_eq_getElem?_getD, List.getD_eq_getElem?_getD, List.getElem?_map]
  cases h : f.items[t]? with
  | none => simp [mtX_no]
  | some x => simp [mtX]
theorem mts_rowOf (s : List UInt8) (ds : List Nx) (t : Nat) : (mts s (rowOf ds)).getD t botM = mtX s (ds.getD t noX) := by
  rw [mts_getD, rowOf_items]
theorem mtX_two (s : List UInt8) (k : Int) (x y : Nx) : mtX s (twoX k x y) = nodeM s k [] [mtX s x, mtX s y] := rfl

-- one letter ahead
theorem starN_shift {p p' : Mt} (h : ∀ i j, p' (i + 1) (j + 1) = p i j) : ∀ f i j, starN p' f (i + 1) (j + 1) = starN p f i j
  | 0, i, j => by simp [starN]
  | f + 1, i, j => by
    have e : j + 1 - (i + 1) = j - i := by omega
    have e2 : ∀ d, i + 1 + d + 1 = i + d + 1 + 1 := fun d => by omega
    simp only [starN, e, e2, h, starN_shift h f]
    simp
theorem starM_shift {p p' : Mt} (h : ∀ i j, p' (i + 1) (j + 1) = p i j) (i j : Nat) : starM p' (i + 1) (j + 1) = starM p i j := by
  have e : j + 1 - (i + 1) = j - i := by omega
  simp only [starM, e, starN_shift h]
theorem catM_shift {p p' q q' : Mt} (h : ∀ i j, p' (i + 1) (j + 1) = p i j) (hq : ∀ i j, q' (i + 1) (j + 1) = q i j) (i j : Nat) : catM p' q' (i + 1) (j + 1) = catM p q i j := by
  have e : j + 1 + 1 - (i + 1) = j + 1 - i := by omega
  have e2 : ∀ d, i + 1 + d = i + d + 1 := fun d => by omega
  simp only [catM, e, e2, h, hq]
theorem part_shift (c : UInt8) (s : List UInt8) (i j : Nat) : part (c :: s) (i + 1) (j + 1) = part s i j := by
  simp [part]
theorem nodeM_shift (c : UInt8) (s : List UInt8) (k : Int) (l : List UInt8) (ps' ps : List Mt) (h : ∀ t i j, ps'.getD t botM (i + 1) (j + 1) = ps.getD t botM i j) (i j : Nat) :
    nodeM (c :: s) k l ps' (i + 1) (j + 1) = nodeM s k l ps i j := by
  simp only [nodeM, part_shift, catM_shift (h 0) (h 1), starM_shift (h 0), h]
  simp
theorem mts_shift (c : UInt8) (s : List UInt8) : ∀ (f : Fr) (t i j : Nat), (mts (c :: s) f).getD t botM (i + 1) (j + 1) = (mts s f).getD t botM i j
  | .nil, t, i, j => by simp [mts, botM]
  | .cons k l a r, 0, i, j => by simpa [mts] using nodeM_shift c s k l.data.toList _ _ (mts_shift c s a) i j
  | .cons k l a r, t + 1, i, j => by simpa [mts] using mts_shift c s r t i j

-- the empty word
theorem catM_self (p q : Mt) (i : Nat) : catM p q i i = (p i i && q i i) := by
  have e : i + 1 - i = 1 := by omega
  simp [catM, e, List.range_succ]
theorem nodeM_self (s : List UInt8) (k : Int) (l : List UInt8) (ps ps' : List Mt) (i : Nat) (h : ∀ t, ps.getD t botM i i = ps'.getD t botM 0 0) : nodeM s k l ps i i = nodeM [] k l ps' 0 0 := by
  simp only [nodeM, part, catM_self, starM_self, h]
  simp
theorem mts_self (s : List UInt8) (i : Nat) : ∀ (f : Fr) (t : Nat), (mts s f).getD t botM i i = (mts [] f).getD t botM 0 0
  | .nil, t => by simp [mts, botM]
  | .cons k l a r, 0 => by simpa [mts] using nodeM_self s k l.data.toList _ _ i (mts_self s i a)
  | .cons k l a r, t + 1 => by simpa [mts] using mts_self s i r t
theorem nulX_at (s : List UInt8) (f : Fr) (t i : Nat) : nulX (f.items.getD t noX) = (mts s f).getD t botM i i := by
  rw [mts_self s i f t, mts_getD]
  rfl

-- the derivative
theorem catM_first (p q : Mt) (j : Nat) : catM p q 0 (j + 1) = ((p 0 0 && q 0 (j + 1)) || (List.range (j + 1)).any fun d => p 0 (d + 1) && q (d + 1) (j + 1)) := by
  have e : j + 1 + 1 - 0 = j + 1 + 1 := rfl
  simp only [catM, e, List.range_succ_eq_map, List.any_cons, List.any_map]
  simp [Function.comp_def]
theorem starM_first (p : Mt) (j : Nat) : starM p 0 (j + 1) = (List.range (j + 1)).any fun d => p 0 (d + 1) && starM p (d + 1) (j + 1) := by
  rw [Bool.eq_iff_iff, starM_iff]
  simp only [List.any_eq_true, List.mem_range, Bool.and_eq_true, starM_iff]
  constructor
  · intro h
    cases h with
    | step h1 h2 h3 =>
      rename_i m
      have := h3.le
      exact ⟨m - 1, by omega, by rw [show m - 1 + 1 = m by omega]; exact h2, by rw [show m - 1 + 1 = m by omega]; exact h3⟩
  · rintro ⟨d, hd, h2, h3⟩
    exact .step (by omega) h2 h3

theorem any_range {n : Nat} {p q : Nat → Bool} (h : ∀ d, d < n → p d = q d) : (List.range n).any p = (List.range n).any q := by
  rw [Bool.eq_iff_iff]
  simp only [List.any_eq_true, List.mem_range]
  exact ⟨fun ⟨d, h1, h2⟩ => ⟨d, h1, by rw [← h d h1]; exact h2⟩, fun ⟨d, h1, h2⟩ => ⟨d, h1, by rw [h d h1]; exact h2⟩⟩
theorem node_der (c : ByteArray) (c0 : UInt8) (s : List UInt8) (hc : c.data.toList = [c0]) (k : Int) (l : ByteArray) (a : Fr) (hk : k = 3 → l.size = 1) (ds : List Nx)
    (ih : ∀ t j, j ≤ s.length → mtX s (ds.getD t noX) 0 j = (mts (c0 :: s) a).getD t botM 0 (j + 1)) (j : Nat) (hj : j ≤ s.length) :
    mtX s (nodeD c k l a ds) 0 j = nodeM (c0 :: s) k l.data.toList (mts (c0 :: s) a) 0 (j + 1) := by
  by_cases h3 : k = 3
  · subst h3
    have hl := hk rfl
    have hp : part (c0 :: s) 0 (j + 1) = c0 :: s.take j := by simp [part]
    by_cases e : l = c
    · subst e
      have e1 : mtX s (nodeD l 3 l a ds) 0 j = decide (0 = j) := by simp [nodeD, mtX, nodeM]
      have e2 : nodeM (c0 :: s) 3 l.data.toList (mts (c0 :: s) a) 0 (j + 1) = decide (part (c0 :: s) 0 (j + 1) = l.data.toList) := by simp [nodeM]
      rw [e1, e2, hp, hc]
      simp only [List.cons.injEq, true_and, decide_eq_decide]
      constructor
      · rintro rfl
        rfl
      · intro h
        have := congrArg List.length h
        simp at this
        rcases this with h1 | h1
        · exact h1.symm
        · rw [h1] at hj
          simp at hj
          exact hj.symm
    · have e1 : mtX s (nodeD c 3 l a ds) 0 j = false := by simp [nodeD, e, mtX, nodeM]
      have e2 : nodeM (c0 :: s) 3 l.data.toList (mts (c0 :: s) a) 0 (j + 1) = decide (part (c0 :: s) 0 (j + 1) = l.data.toList) := by simp [nodeM]
      rw [e1, e2, hp]
      symm
      rw [decide_eq_false_iff_not]
      intro h
      have hlen := congrArg List.length h
      have hls : l.data.toList.length = 1 := hl
      rw [hls] at hlen
      have h0 : s.take j = [] := by
        rw [← List.length_eq_zero_iff]
        simp only [List.length_cons] at hlen
        omega
      rw [h0, ← hc] at h
      exact e (ByteArray.ext (Array.toList_inj.1 h.symm))
  by_cases h4 : k = 4
  · subst h4
    simp [nodeD, mtX, nodeM]
    exact ⟨fun h => h.symm, fun h => h.symm⟩
  by_cases h6 : k = 6
  · subst h6
    have e1 : mtX s (nodeD c 6 l a ds) 0 j = ((mts s (rowOf ds)).getD 0 botM 0 j || (mts s (rowOf ds)).getD 1 botM 0 j) := by simp [nodeD, mtX, nodeM]
    have e2 : nodeM (c0 :: s) 6 l.data.toList (mts (c0 :: s) a) 0 (j + 1) = ((mts (c0 :: s) a).getD 0 botM 0 (j + 1) || (mts (c0 :: s) a).getD 1 botM 0 (j + 1)) := by simp [nodeM]
    rw [e1, e2, mts_rowOf, mts_rowOf, ih 0 j hj, ih 1 j hj]
  by_cases h7 : k = 7
  · subst h7
    have e1 : mtX s (nodeD c 7 l a ds) 0 j = ((mts s (rowOf ds)).getD 0 botM 0 j && (mts s (rowOf ds)).getD 1 botM 0 j) := by simp [nodeD, mtX, nodeM]
    have e2 : nodeM (c0 :: s) 7 l.data.toList (mts (c0 :: s) a) 0 (j + 1) = ((mts (c0 :: s) a).getD 0 botM 0 (j + 1) && (mts (c0 :: s) a).getD 1 botM 0 (j + 1)) := by simp [nodeM]
    rw [e1, e2, mts_rowOf, mts_rowOf, ih 0 j hj, ih 1 j hj]
  by_cases h9 : k = 9
  · subst h9
    have e1 : mtX s (nodeD c 9 l a ds) 0 j = (!((mts s (rowOf ds)).getD 0 botM 0 j)) := by simp [nodeD, mtX, nodeM]
    have e2 : nodeM (c0 :: s) 9 l.data.toList (mts (c0 :: s) a) 0 (j + 1) = (!((mts (c0 :: s) a).getD 0 botM 0 (j + 1))) := by simp [nodeM]
    rw [e1, e2, mts_rowOf, ih 0 j hj]
  by_cases h8 : k = 8
  · subst h8
    have e1 : nodeD c 8 l a ds = twoX 5 (ds.getD 0 noX) (8, l, a) := by simp [nodeD]
    have e2 : nodeM (c0 :: s) 8 l.data.toList (mts (c0 :: s) a) 0 (j + 1) = starM ((mts (c0 :: s) a).getD 0 botM) 0 (j + 1) := by simp [nodeM]
    have e3 : ∀ d, mtX s (8, l, a) d j = starM ((mts (c0 :: s) a).getD 0 botM) (d + 1) (j + 1) := fun d => by
      rw [starM_shift (mts_shift c0 s a 0)]
      simp [mtX, nodeM]
    rw [e1, e2, mtX_two, starM_first]
    have e4 : nodeM s 5 [] [mtX s (ds.getD 0 noX), mtX s (8, l, a)] 0 j = catM (mtX s (ds.getD 0 noX)) (mtX s (8, l, a)) 0 j := by simp [nodeM]
    rw [e4]
    unfold catM
    rw [show j + 1 - 0 = j + 1 from rfl]
    refine any_range fun d hd => ?_
    rw [Nat.zero_add, ih 0 d (by omega), e3]
  by_cases h5 : k = 5
  · subst h5
    have e0 : nulX (a.items.getD 0 noX) = (mts (c0 :: s) a).getD 0 botM 0 0 := nulX_at _ a 0 0
    have e2 : nodeM (c0 :: s) 5 l.data.toList (mts (c0 :: s) a) 0 (j + 1) = catM ((mts (c0 :: s) a).getD 0 botM) ((mts (c0 :: s) a).getD 1 botM) 0 (j + 1) := by simp [nodeM]
    have e4 : mtX s (twoX 5 (ds.getD 0 noX) (a.items.getD 1 noX)) 0 j = (List.range (j + 1)).any fun d => (mts (c0 :: s) a).getD 0 botM 0 (d + 1) && (mts (c0 :: s) a).getD 1 botM (d + 1) (j + 1) := by
      have e5 : mtX s (twoX 5 (ds.getD 0 noX) (a.items.getD 1 noX)) 0 j = catM (mtX s (ds.getD 0 noX)) (mtX s (a.items.getD 1 noX)) 0 j := by simp [mtX_two, nodeM]
      rw [e5]
      unfold catM
      rw [show j + 1 - 0 = j + 1 from rfl]
      refine any_range fun d hd => ?_
      rw [Nat.zero_add, ih 0 d (by omega), mts_shift, mts_getD s a 1]
    rw [e2, catM_first, ← e0]
    have e6 : nodeD c 5 l a ds = if nulX (a.items.getD 0 noX) then twoX 6 (twoX 5 (ds.getD 0 noX) (a.items.getD 1 noX)) (ds.getD 1 noX) else twoX 5 (ds.getD 0 noX) (a.items.getD 1 noX) := by simp [nodeD]
    rw [e6]
    cases hn : nulX (a.items.getD 0 noX) with
    | true =>
      rw [if_pos rfl]
      have e7 : mtX s (twoX 6 (twoX 5 (ds.getD 0 noX) (a.items.getD 1 noX)) (ds.getD 1 noX)) 0 j = (mtX s (twoX 5 (ds.getD 0 noX) (a.items.getD 1 noX)) 0 j || mtX s (ds.getD 1 noX) 0 j) := by simp [mtX_two, nodeM]
      rw [e7, e4, ih 1 j hj, Bool.true_and, Bool.or_comm]
    | false =>
      rw [if_neg (by decide), e4, Bool.false_and, Bool.false_or]
  · have e1 : mtX s (nodeD c k l a ds) 0 j = false := by simp [nodeD, h3, h4, h5, h6, h7, h8, h9, mtX, nodeM]
    have e2 : nodeM (c0 :: s) k l.data.toList (mts (c0 :: s) a) 0 (j + 1) = false := by simp [h3, h4, h5, h6, h7, h8, h9, nodeM]
    rw [e1, e2]
theorem ders_der (c : ByteArray) (c0 : UInt8) (s : List UInt8) (hc : c.data.toList = [c0]) : ∀ (f : Fr), allRow f = true → ∀ t j, j ≤ s.length → mtX s ((ders c f).getD t noX) 0 j = (mts (c0 :: s) f).getD t botM 0 (j + 1)
  | .nil, _, t, j, _ => by simp [ders, mts, mtX_no, botM]
  | .cons k l a r, h, 0, j, hj => by
    simp only [allRow, Bool.and_eq_true] at h
    have := node_der c c0 s hc k l a (fun h3 => by
      have h2 := h.1.2
      subst h3
      simp [nodeOk] at h2
      exact h2.1.1) (ders c a) (ders_der c c0 s hc a h.1.1) j hj
    simpa [ders, mts] using this
  | .cons k l a r, h, t + 1, j, hj => by
    simp only [allRow, Bool.and_eq_true] at h
    simpa [ders, mts] using ders_der c c0 s hc r h.2 t j hj
theorem valid_noX (l : ByteArray) (a : Fr) : validRx 0 l a = false := by simp [validRx, nodeOk]
/-- A word matches the derivative exactly if the letter followed by it matches. -/
theorem der_match (k : Int) (l : ByteArray) (a : Fr) (cl : ByteArray) (s : List UInt8) (k' : Int) (l' : ByteArray) (a' : Fr) (hd : derX k l a cl = (k', l', a')) (hv : validRx k' l' a' = true) :
    validRx k l a = true ∧ (∃ c0, cl.data.toList = [c0] ∧ isLetter c0 = true) ∧ nodeM s k' l'.data.toList (mts s a') 0 s.length = nodeM (cl.data.toList ++ s) k l.data.toList (mts (cl.data.toList ++ s) a) 0 (s.length + 1) := by
  unfold derX at hd
  split at hd
  · rename_i h
    simp only [Bool.and_eq_true, decide_eq_true_eq] at h
    obtain ⟨⟨h1, h2⟩, h3⟩ := h
    obtain ⟨c0, hc⟩ : ∃ c0, cl.data.toList = [c0] := List.length_eq_one_iff.1 h2
    refine ⟨h1, ⟨c0, hc, ?_⟩, ?_⟩
    · rw [hc] at h3
      unfold isW at h3
      simp at h3
      exact h3
    · have hr := h1
      unfold validRx at hr
      simp only [Bool.and_eq_true] at hr
      have := node_der cl c0 s hc k l a (fun h3 => by
        have h2 := hr.2.2
        subst h3
        simp [nodeOk] at h2
        exact h2.1.1) (ders cl a) (ders_der cl c0 s hc a hr.2.1) s.length (Nat.le_refl _)
      rw [hd] at this
      rw [hc]
      exact this
  · have e := (Prod.mk.inj hd).1
    rw [← e, valid_noX] at hv
    cases hv
end Go.Proofs.Ytichpiklgkahbaa
