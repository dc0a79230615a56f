/-
  Words counted forward: how many lead to each state; finiteness as the lengths that come again tell it. Of no function of the program.
-/
import Derived.Test.YthmfncklepkddabDoorLngM
namespace Go.Proofs.YthmfncklepkddabDoor

/-- One place of a row raised. -/
def upN (l : List Nat) (j v : Nat) : List Nat := l.set j (l.getD j 0 + v)
theorem upN_length (l : List Nat) (j v : Nat) : (upN l j v).length = l.length := by simp [upN]
/-- The row's entries, weighed. -/
def dotN (l : List Nat) (f : Nat → Nat) : Nat := ((List.range l.length).map fun j => l.getD j 0 * f j).sum
theorem sum_range_succ (n : Nat) (f : Nat → Nat) : ((List.range (n + 1)).map f).sum = ((List.range n).map f).sum + f n := by simp [List.range_succ, List.sum_append]
theorem sum_range_upN {f f' : Nat → Nat} {j v : Nat} : ∀ n, (∀ i, i ≠ j → f' i = f i) → f' j = f j + v → ((List.range n).map f').sum = ((List.range n).map f).sum + if j < n then v else 0
  | 0, _, _ => by simp
  | n + 1, h1, h2 => by
    rw [sum_range_succ, sum_range_succ, sum_range_upN n h1 h2]
    by_cases e : n = j
    · subst e
      rw [h2, if_neg (Nat.lt_irrefl _), if_pos (Nat.lt_succ_self _)]
      omega
    · rw [h1 n e]
      by_cases hj : j < n
      · rw [if_pos hj, if_pos (by omega)]; omega
      · rw [if_neg hj, if_neg (by omega)]; omega
theorem upN_at {l : List Nat} {j v i : Nat} (hj : j < l.length) : (upN l j v).getD i 0 = if i = j then l.getD j 0 + v else l.getD i 0 := by
  unfold upN
  rw [List.getD_eq_getElem?_getD, List.getElem?_set]
  by_cases e : i = j
  · subst e
    simp [hj]
  · have e' : ¬ j = i := fun h => e h.symm
    simp [e, e']
theorem dot_upN {l : List Nat} {j v : Nat} (hj : j < l.length) (f : Nat → Nat) : dotN (upN l j v) f = dotN l f + v * f j := by
  unfold dotN
  rw [upN_length, sum_range_upN (f := fun i => l.getD i 0 * f i) (j := j) (v := v * f j), if_pos hj]
  · intro i hi
    show (upN l j v).getD i 0 * f i = _
    rw [upN_at hj, if_neg hi]
  · show (upN l j v).getD j 0 * f j = _
    rw [upN_at hj, if_pos rfl, Nat.add_mul]
theorem dot_zero (n : Nat) (f : Nat → Nat) : dotN (List.replicate n 0) f = 0 := by
  unfold dotN
  rw [List.length_replicate]
  have h : ∀ m, m ≤ n → ((List.range m).map fun j => (List.replicate n 0).getD j 0 * f j).sum = 0 := by
    intro m
    induction m with
    | zero => intro; rfl
    | succ m ih =>
      intro hm
      rw [sum_range_succ, ih (by omega)]
      simp [List.getD_eq_getElem?_getD, show m < n by omega]
  exact h n (Nat.le_refl _)
theorem dot_at_le {l : List Nat} {j : Nat} (hj : j < l.length) : l.getD j 0 ≤ dotN l fun _ => 1 := by
  unfold dotN
  have h : ∀ n, j < n → l.getD j 0 ≤ ((List.range n).map fun j => l.getD j 0 * 1).sum := by
    intro n
    induction n with
    | zero => intro h; omega
    | succ n ih =>
      intro h
      rw [sum_range_succ]
      by_cases e : j = n
      · subst e; omega
      · have := ih (by omega); omega
  exact h _ hj
/-- The row with the first t steps taken: state t / 3 by letter t % 3. -/
def goN (a : Au) (c : List Nat) : Nat → List Nat
  | 0 => List.replicate c.length 0
  | t + 1 => upN (goN a c t) (a.T (t / 3) (t % 3)) (c.getD (t / 3) 0)
theorem goN_length (a : Au) (c : List Nat) : ∀ t, (goN a c t).length = c.length
  | 0 => by simp [goN]
  | t + 1 => by rw [goN, upN_length, goN_length]
theorem goN_dot {a : Au} (ha : a.wf) {c : List Nat} (hc : c.length = a.n) (f : Nat → Nat) : ∀ n, n ≤ a.n → dotN (goN a c (3 * n)) f = ((List.range n).map fun q => c.getD q 0 * (f (a.T q 0) + f (a.T q 1) + f (a.T q 2))).sum
  | 0, _ => by rw [goN, dot_zero]; rfl
  | n + 1, hn => by
    have ih := goN_dot ha hc f n (by omega)
    have hT : ∀ k, k < 3 → a.T n k < c.length := fun k hk => by rw [hc]; exact ha.2 n k (by omega) hk
    rw [sum_range_succ, ← ih, show 3 * (n + 1) = 3 * n + 2 + 1 by omega, goN, goN, goN]
    rw [show (3 * n + 2) / 3 = n by omega, show (3 * n + 2) % 3 = 2 by omega, show (3 * n + 1) / 3 = n by omega, show (3 * n + 1) % 3 = 1 by omega, show (3 * n) / 3 = n by omega, show (3 * n) % 3 = 0 by omega]
    rw [dot_upN (by rw [upN_length, upN_length, goN_length]; exact hT 2 (by omega)), dot_upN (by rw [upN_length, goN_length]; exact hT 1 (by omega)), dot_upN (by rw [goN_length]; exact hT 0 (by omega))]
    rw [Nat.mul_add, Nat.mul_add]
    omega
/-- After n letters. -/
def cntN (a : Au) : Nat → List Nat
  | 0 => upN (List.replicate a.n 0) 0 1
  | n + 1 => goN a (cntN a n) (3 * a.n)
theorem cntN_length (a : Au) : ∀ n, (cntN a n).length = a.n
  | 0 => by simp [cntN, upN_length]
  | n + 1 => by rw [cntN, goN_length, cntN_length]
theorem cntN_dot {a : Au} (ha : a.wf) : ∀ n m, dotN (cntN a n) (waysN a m) = waysN a (n + m) 0
  | 0, m => by
    rw [cntN, dot_upN (by simp; exact ha.1), dot_zero, Nat.zero_add, Nat.zero_add, Nat.one_mul]
  | n + 1, m => by
    rw [cntN, goN_dot ha (cntN_length a n) _ _ (Nat.le_refl _), show n + 1 + m = n + (m + 1) by omega, ← cntN_dot ha n (m + 1)]
    unfold dotN
    rw [cntN_length]
    rfl
theorem cntN_all {a : Au} (ha : a.wf) : ∀ n, dotN (cntN a n) (fun _ => 1) = 3 ^ n
  | 0 => by
    rw [cntN, dot_upN (by simp; exact ha.1), dot_zero]
  | n + 1 => by
    rw [cntN, goN_dot ha (cntN_length a n) _ _ (Nat.le_refl _), Nat.pow_succ, ← cntN_all ha n]
    unfold dotN
    rw [cntN_length]
    have h : ∀ m, ((List.range m).map fun q => (cntN a n).getD q 0 * (1 + 1 + 1)).sum = ((List.range m).map fun q => (cntN a n).getD q 0 * 1).sum * 3 := by
      intro m
      induction m with
      | zero => rfl
      | succ m ih => rw [sum_range_succ, sum_range_succ, ih]; omega
    exact h _
theorem goN_part_le {a : Au} (ha : a.wf) {c : List Nat} (hc : c.length = a.n) : ∀ t, t ≤ 3 * a.n → dotN (goN a c t) (fun _ => 1) ≤ dotN (goN a c (3 * a.n)) (fun _ => 1) := by
  have step : ∀ t, t < 3 * a.n → dotN (goN a c t) (fun _ => 1) ≤ dotN (goN a c (t + 1)) (fun _ => 1) := fun t ht => by
    rw [goN, dot_upN (by rw [goN_length, hc]; exact ha.2 _ _ (by omega) (Nat.mod_lt _ (by omega)))]
    omega
  intro t ht
  have : ∀ d, t + d ≤ 3 * a.n → dotN (goN a c t) (fun _ => 1) ≤ dotN (goN a c (t + d)) (fun _ => 1) := by
    intro d
    induction d with
    | zero => intro; exact Nat.le_refl _
    | succ d ih => intro h; exact Nat.le_trans (ih (by omega)) (step _ (by omega))
  have h := this (3 * a.n - t) (by omega)
  rwa [show t + (3 * a.n - t) = 3 * a.n by omega] at h
/-- Those that are accepted, of the first n states. -/
def accN (a : Au) (c : List Nat) (n : Nat) : Nat := ((List.range n).map fun q => if a.A q then c.getD q 0 else 0).sum
theorem accN_succ (a : Au) (c : List Nat) (n : Nat) : accN a c (n + 1) = accN a c n + if a.A n then c.getD n 0 else 0 := sum_range_succ _ _
theorem accN_all {a : Au} (ha : a.wf) (n : Nat) : accN a (cntN a n) a.n = waysN a n 0 := by
  rw [← Nat.add_zero n, ← cntN_dot ha n 0]
  unfold accN dotN
  rw [Nat.add_zero, cntN_length]
  congr 1
  apply List.map_congr_left
  intro q _
  show _ = (cntN a n).getD q 0 * (if a.A q then 1 else 0)
  split <;> simp
theorem accN_le {a : Au} (ha : a.wf) (n : Nat) : ∀ m, m ≤ a.n → accN a (cntN a n) m ≤ 3 ^ n := by
  intro m hm
  have h1 : ∀ d, accN a (cntN a n) m ≤ accN a (cntN a n) (m + d) := by
    intro d
    induction d with
    | zero => exact Nat.le_refl _
    | succ d ih => rw [show m + (d + 1) = m + d + 1 by omega, accN_succ]; omega
  have h2 := h1 (a.n - m)
  rw [show m + (a.n - m) = a.n by omega, accN_all ha] at h2
  exact Nat.le_trans h2 (waysN_le a n 0)
theorem cntN_at_le {a : Au} (ha : a.wf) (n : Nat) {q : Nat} (hq : q < a.n) : (cntN a n).getD q 0 ≤ 3 ^ n := by
  rw [← cntN_all ha n]
  exact dot_at_le (by rw [cntN_length]; exact hq)
theorem goN_at_le {a : Au} (ha : a.wf) (n : Nat) {t q : Nat} (ht : t ≤ 3 * a.n) (hq : q < a.n) : (goN a (cntN a n) t).getD q 0 ≤ 3 ^ (n + 1) := by
  rw [← cntN_all ha (n + 1)]
  exact Nat.le_trans (dot_at_le (by rw [goN_length, cntN_length]; exact hq)) (goN_part_le ha (cntN_length a n) t ht)

/-! Finiteness: no length of the last period is accepted. -/
theorem fin_lens {d : Au} {o : List Bool} {p : Nat} (h : LenR d o p) : FinL d ↔ ∀ b ∈ o.drop (o.length - p), b = false := by
  obtain ⟨hp, hpl, ho, hper⟩ := h.at
  have hw : ∀ i, o.length ≤ i → ∃ j, o.length - p ≤ j ∧ j < o.length ∧ decide (0 < waysN d i 0) = decide (0 < waysN d j 0) := by
    intro i
    induction i using Nat.strongRecOn with
    | ind i ih =>
      intro hi
      have e := hper i hi
      by_cases hlt : i - p < o.length
      · exact ⟨i - p, by omega, hlt, e⟩
      · obtain ⟨j, h1, h2, h3⟩ := ih (i - p) (by omega) (by omega)
        exact ⟨j, h1, h2, e.trans h3⟩
  have hup : ∀ j, o.length - p ≤ j → ∀ k, decide (0 < waysN d (j + k * p) 0) = decide (0 < waysN d j 0) := by
    intro j hj k
    induction k with
    | zero => simp
    | succ k ih =>
      have e := hper (j + (k + 1) * p) (by rw [Nat.succ_mul]; omega)
      rw [e, ← ih, show j + (k + 1) * p - p = j + k * p by rw [Nat.succ_mul]; omega]
  constructor
  · rintro ⟨M, hM⟩ b hb
    obtain ⟨i, hi, rfl⟩ := List.mem_iff_getElem.1 hb
    rw [List.length_drop] at hi
    rw [List.getElem_drop]
    have h1 := ho (o.length - p + i) (by omega)
    rw [List.getElem?_eq_getElem (by omega)] at h1
    rw [Option.some.inj h1, ← hup _ (by omega) M]
    rw [decide_eq_false_iff_not, waysN_pos]
    rintro ⟨w, hw3, hwl, hwa⟩
    have h2 := hM w hw3 hwa
    have h3 : M ≤ M * p := Nat.le_mul_of_pos_right M hp
    omega
  · intro hall
    refine ⟨o.length, fun w hw3 ha => ?_⟩
    apply Nat.lt_of_not_le
    intro hle
    obtain ⟨j, h1, h2, h3⟩ := hw w.length hle
    have h4 : 0 < waysN d w.length 0 := waysN_pos.2 ⟨w, hw3, rfl, ha⟩
    have h5 := hall (o[j]) (by
      rw [List.mem_iff_getElem]
      exact ⟨j - (o.length - p), by rw [List.length_drop]; omega, by rw [List.getElem_drop]; congr 1; omega⟩)
    have h6 := ho j h2
    rw [List.getElem?_eq_getElem h2, h5] at h6
    rw [← Option.some.inj h6] at h3
    simp [h4] at h3
end Go.Proofs.YthmfncklepkddabDoor
