/-
  How many words of a length an automaton accepts; whether it accepts finitely many; which lengths its words have. Of no function of the program.
-/
import Derived.Test.YthmfncklepkddabDoorSrchR
namespace Go.Proofs.YthmfncklepkddabDoor

/-- How many words of n letters lead from q to an accepting state. -/
def waysN (d : Au) : Nat → Nat → Nat
  | 0, q => if d.A q then 1 else 0
  | n + 1, q => waysN d n (d.T q 0) + waysN d n (d.T q 1) + waysN d n (d.T q 2)
/-- All words of n letters, in the alphabet's order. -/
def wordsN : Nat → List (List Nat)
  | 0 => [[]]
  | n + 1 => (wordsN n).map (0 :: ·) ++ (wordsN n).map (1 :: ·) ++ (wordsN n).map (2 :: ·)
theorem mem_wordsN : ∀ {n : Nat} {w : List Nat}, w ∈ wordsN n ↔ W3 w ∧ w.length = n
  | 0, w => by
    rw [wordsN, List.mem_singleton]
    constructor
    · rintro rfl
      exact ⟨W3.nil, rfl⟩
    · rintro ⟨_, h⟩
      exact List.length_eq_zero_iff.1 h
  | n + 1, w => by
    have key : ∀ k, w ∈ (wordsN n).map (k :: ·) ↔ ∃ u, w = k :: u ∧ W3 u ∧ u.length = n := fun k => by
      rw [List.mem_map]
      constructor
      · rintro ⟨u, hu, rfl⟩
        exact ⟨u, rfl, mem_wordsN.1 hu⟩
      · rintro ⟨u, rfl, hu⟩
        exact ⟨u, mem_wordsN.2 hu, rfl⟩
    rw [wordsN, List.mem_append, List.mem_append, key, key, key]
    constructor
    · rintro ((⟨u, rfl, hu, hl⟩ | ⟨u, rfl, hu, hl⟩) | ⟨u, rfl, hu, hl⟩) <;> exact ⟨W3.cons (by omega) hu, by simp [hl]⟩
    · rintro ⟨hw, hl⟩
      cases w with
      | nil => simp at hl
      | cons k u =>
        obtain ⟨hk, hu⟩ := hw.tail
        match k, hk with
        | 0, _ => exact .inl (.inl ⟨u, rfl, hu, by simpa using hl⟩)
        | 1, _ => exact .inl (.inr ⟨u, rfl, hu, by simpa using hl⟩)
        | 2, _ => exact .inr ⟨u, rfl, hu, by simpa using hl⟩
theorem waysN_count (d : Au) : ∀ (n q : Nat), waysN d n q = ((wordsN n).filter fun w => d.A (d.run q w)).length
  | 0, q => by
    simp only [waysN, wordsN, List.filter_cons, List.filter_nil]
    show (if d.A q = true then 1 else 0) = (if d.A (d.run q []) = true then [[]] else ([] : List (List Nat))).length
    show (if d.A q = true then 1 else 0) = (if d.A q = true then [[]] else ([] : List (List Nat))).length
    split <;> rfl
  | n + 1, q => by
    rw [waysN, waysN_count d n, waysN_count d n, waysN_count d n, wordsN, List.filter_append, List.filter_append, List.length_append, List.length_append]
    simp only [List.filter_map, List.length_map]
    rfl
theorem waysN_le (d : Au) : ∀ (n q : Nat), waysN d n q ≤ 3 ^ n
  | 0, q => by
    rw [waysN]
    split <;> simp
  | n + 1, q => by
    have h0 := waysN_le d n (d.T q 0)
    have h1 := waysN_le d n (d.T q 1)
    have h2 := waysN_le d n (d.T q 2)
    rw [waysN, Nat.pow_succ]
    omega
theorem waysN_pos {d : Au} {n q : Nat} : 0 < waysN d n q ↔ ∃ w, W3 w ∧ w.length = n ∧ d.A (d.run q w) = true := by
  rw [waysN_count, List.length_pos_iff_exists_mem]
  constructor
  · rintro ⟨w, hw⟩
    obtain ⟨h1, h2⟩ := List.mem_filter.1 hw
    obtain ⟨h3, h4⟩ := mem_wordsN.1 h1
    exact ⟨w, h3, h4, h2⟩
  · rintro ⟨w, h1, h2, h3⟩
    exact ⟨w, List.mem_filter.2 ⟨mem_wordsN.2 ⟨h1, h2⟩, h3⟩⟩

/-! Finitely many words. -/
theorem W3.app {u v : List Nat} (h : W3 u) (h' : W3 v) : W3 (u ++ v) := fun x hx => (List.mem_append.1 hx).elim (h x) (h' x)
theorem W3.left {u v : List Nat} (h : W3 (u ++ v)) : W3 u := fun x hx => h x (List.mem_append_left _ hx)
theorem W3.right {u v : List Nat} (h : W3 (u ++ v)) : W3 v := fun x hx => h x (List.mem_append_right _ hx)
/-- Each accepted word has fewer than so many letters. -/
def FinL (d : Au) : Prop := ∃ M, ∀ w, W3 w → d.A (d.run 0 w) = true → w.length < M
/-- At least one letter leads from p to q. -/
def Rch (d : Au) (p q : Nat) : Prop := ∃ w, W3 w ∧ w ≠ [] ∧ d.run p w = q
/-- A state that is met, leads back to itself and to an accepting state. -/
def Loops (d : Au) : Prop := ∃ q, (q = 0 ∨ Rch d 0 q) ∧ Rch d q q ∧ ∃ r, Rch d q r ∧ d.A r = true
theorem pump (d : Au) {q : Nat} {v : List Nat} (h : d.run q v = q) : ∀ i, d.run q (List.replicate i v).flatten = q
  | 0 => rfl
  | i + 1 => by
    rw [List.replicate_succ, List.flatten_cons, Au.run_append, h]
    exact pump d h i
theorem pump_W3 {v : List Nat} (h : W3 v) (i : Nat) : W3 (List.replicate i v).flatten := fun x hx => by
  obtain ⟨l, hl, hx⟩ := List.mem_flatten.1 hx
  rw [(List.mem_replicate.1 hl).2] at hx
  exact h x hx
theorem pump_len {v : List Nat} (h : v ≠ []) : ∀ i, i ≤ (List.replicate i v).flatten.length
  | 0 => Nat.zero_le _
  | i + 1 => by
    rw [List.replicate_succ, List.flatten_cons, List.length_append]
    have := pump_len h i
    have := List.length_pos_iff.2 h
    omega
theorem loops_inf {d : Au} (h : Loops d) : ¬ FinL d := by
  rintro ⟨M, hM⟩
  obtain ⟨q, hq, ⟨v, hv, hv0, hvq⟩, r, ⟨x, hx, -, hxr⟩, hr⟩ := h
  obtain ⟨u, hu, huq⟩ : ∃ u, W3 u ∧ d.run 0 u = q := by
    rcases hq with rfl | ⟨u, hu, -, huq⟩
    · exact ⟨[], W3.nil, rfl⟩
    · exact ⟨u, hu, huq⟩
  have h1 := hM (u ++ ((List.replicate M v).flatten ++ x)) (hu.app ((pump_W3 hv M).app hx)) (by rw [Au.run_append, huq, Au.run_append, pump d hvq M, hxr]; exact hr)
  have h2 := pump_len hv0 M
  rw [List.length_append, List.length_append] at h1
  omega
/-- Of more places than states two bear the same one. -/
theorem pigeon {n : Nat} : ∀ (f : Nat → Nat) (m : Nat), n < m → (∀ i, i < m → f i < n) → ∃ i j, i < j ∧ j < m ∧ f i = f j := by
  intro f m hm hf
  apply Classical.byContradiction
  intro hn
  have hnd : ((List.range m).map f).Nodup := by
    rw [List.nodup_iff_pairwise_ne, List.pairwise_map]
    exact List.pairwise_iff_getElem.2 fun i j hi hj hij => fun e => by
      simp only [List.length_range] at hi hj
      simp only [List.getElem_range] at e
      exact hn ⟨i, j, hij, hj, e⟩
  have hle := nodup_len n _ hnd (fun x hx => by
    obtain ⟨i, hi, rfl⟩ := List.mem_map.1 hx
    exact hf i (List.mem_range.1 hi))
  rw [List.length_map, List.length_range] at hle
  omega
/-- A word of as many letters as there are states goes round: it is parted so that its middle part leads back. -/
theorem parted {d : Au} (hd : d.wf) {w : List Nat} (hw : W3 w) (hl : d.n ≤ w.length) : ∃ u v x, w = u ++ (v ++ x) ∧ v ≠ [] ∧ v.length ≤ d.n ∧ d.run (d.run 0 u) v = d.run 0 u := by
  obtain ⟨i, j, hij, hj, e⟩ := pigeon (n := d.n) (fun i => d.run 0 (w.take i)) (d.n + 1) (by omega) (fun i _ => Au.run_lt hd _ 0 (fun x hx => hw x (List.mem_of_mem_take hx)) hd.1)
  have e1 : w.take j = w.take i ++ (w.take j).drop i := by
    conv => lhs; rw [← List.take_append_drop i (w.take j)]
    rw [List.take_take, Nat.min_eq_left (by omega)]
  refine ⟨w.take i, (w.take j).drop i, w.drop j, ?_, ?_, ?_, ?_⟩
  · rw [← List.append_assoc, ← e1, List.take_append_drop]
  · intro h
    have := congrArg List.length h
    simp only [List.length_drop, List.length_take, List.length_nil] at this
    omega
  · simp only [List.length_drop, List.length_take]
    omega
  · rw [← Au.run_append, ← e1]
    exact e.symm
theorem long_loops {d : Au} (hd : d.wf) {w : List Nat} (hw : W3 w) (hl : d.n ≤ w.length) (ha : d.A (d.run 0 w) = true) : Loops d := by
  obtain ⟨u, v, x, rfl, hv, -, hr⟩ := parted hd hw hl
  refine ⟨d.run 0 u, ?_, ⟨v, hw.right.left, hv, hr⟩, d.run 0 (u ++ (v ++ x)), ⟨v ++ x, hw.right, ?_, ?_⟩, ha⟩
  · by_cases hu : u = []
    · exact .inl (by rw [hu]; rfl)
    · exact .inr ⟨u, hw.left, hu, rfl⟩
  · intro h
    exact hv (List.append_eq_nil_iff.1 h).1
  · rw [Au.run_append, Au.run_append, Au.run_append]
theorem fin_iff {d : Au} (hd : d.wf) : FinL d ↔ ¬ Loops d := by
  constructor
  · exact fun h h' => loops_inf h' h
  · intro h
    refine ⟨d.n, fun w hw ha => ?_⟩
    apply Nat.lt_of_not_le
    exact fun hl => h (long_loops hd hw hl ha)
/-- .. as it shows in the words of n to 2 n - 1 letters. -/
theorem fin_ways {d : Au} (hd : d.wf) : FinL d ↔ ∀ m, d.n ≤ m → m < 2 * d.n → waysN d m 0 = 0 := by
  have hz : ∀ m, waysN d m 0 = 0 ↔ ¬ ∃ w, W3 w ∧ w.length = m ∧ d.A (d.run 0 w) = true := fun m => by
    rw [← waysN_pos]
    omega
  constructor
  · intro h m h1 _
    rw [hz]
    rintro ⟨w, hw, rfl, ha⟩
    exact (fin_iff hd).1 h (long_loops hd hw h1 ha)
  · intro h
    refine ⟨d.n, ?_⟩
    have key : ∀ L (w : List Nat), w.length = L → W3 w → d.A (d.run 0 w) = true → w.length < d.n := by
      intro L
      induction L using Nat.strongRecOn with
      | ind L ih =>
        intro w hwl hw ha
        apply Nat.lt_of_not_le
        intro hl
        by_cases h2 : w.length < 2 * d.n
        · exact (hz _).1 (h w.length hl h2) ⟨w, hw, rfl, ha⟩
        · obtain ⟨u, v, x, rfl, hv, hvl, hr⟩ := parted hd hw hl
          have h3 := List.length_pos_iff.2 hv
          rw [List.length_append, List.length_append] at hwl hl h2
          have h4 := ih (u ++ x).length (by rw [List.length_append]; omega) (u ++ x) rfl (hw.left.app hw.right.right) (by
            rw [Au.run_append, Au.run_append, hr] at ha
            rw [Au.run_append]
            exact ha)
          rw [List.length_append] at h4
          omega
    exact fun w hw ha => key _ w rfl hw ha

/-! The sets of states that are reached by words of a length. -/
def nextS (d : Au) (s : List Nat) : List Nat := (moveS d s 0 ++ (moveS d s 1 ++ moveS d s 2)).foldl putS []
theorem mem_fold_put {x : Nat} : ∀ (l o : List Nat), x ∈ l.foldl putS o ↔ x ∈ o ∨ x ∈ l
  | [], o => by simp
  | y :: l, o => by
    rw [List.foldl_cons, mem_fold_put l, mem_putS, List.mem_cons]
    constructor
    · rintro ((h | h) | h)
      · exact .inr (.inl h)
      · exact .inl h
      · exact .inr (.inr h)
    · rintro (h | h | h)
      · exact .inl (.inr h)
      · exact .inl (.inl h)
      · exact .inr h
theorem fold_put_asc : ∀ (l o : List Nat), o.Pairwise (· < ·) → (l.foldl putS o).Pairwise (· < ·)
  | [], _, h => h
  | _ :: l, _, h => fold_put_asc l _ (putS_asc h)
theorem mem_nextS {d : Au} {s : List Nat} {x : Nat} : x ∈ nextS d s ↔ ∃ q ∈ s, ∃ k, k < 3 ∧ d.T q k = x := by
  unfold nextS
  rw [mem_fold_put, List.mem_append, List.mem_append, mem_move, mem_move, mem_move]
  constructor
  · rintro (h | ⟨q, hq, e⟩ | ⟨q, hq, e⟩ | ⟨q, hq, e⟩)
    · cases h
    · exact ⟨q, hq, 0, by omega, e⟩
    · exact ⟨q, hq, 1, by omega, e⟩
    · exact ⟨q, hq, 2, by omega, e⟩
  · rintro ⟨q, hq, k, hk, e⟩
    match k, hk with
    | 0, _ => exact .inr (.inl ⟨q, hq, e⟩)
    | 1, _ => exact .inr (.inr (.inl ⟨q, hq, e⟩))
    | 2, _ => exact .inr (.inr (.inr ⟨q, hq, e⟩))
def stS (d : Au) : Nat → List Nat
  | 0 => [0]
  | n + 1 => nextS d (stS d n)
theorem stS_asc (d : Au) : ∀ n, (stS d n).Pairwise (· < ·)
  | 0 => by simp [stS]
  | _ + 1 => fold_put_asc _ _ List.Pairwise.nil
theorem mem_stS {d : Au} : ∀ {n x : Nat}, x ∈ stS d n ↔ ∃ w, W3 w ∧ w.length = n ∧ d.run 0 w = x
  | 0, x => by
    rw [stS, List.mem_singleton]
    constructor
    · rintro rfl
      exact ⟨[], W3.nil, rfl, rfl⟩
    · rintro ⟨w, _, h, rfl⟩
      rw [List.length_eq_zero_iff.1 h]
      rfl
  | n + 1, x => by
    rw [stS, mem_nextS]
    constructor
    · rintro ⟨q, hq, k, hk, rfl⟩
      obtain ⟨w, h1, h2, rfl⟩ := mem_stS.1 hq
      exact ⟨w ++ [k], h1.app (W3.cons hk W3.nil), by simp [h2], by rw [Au.run_append]; rfl⟩
    · rintro ⟨w, h1, h2, rfl⟩
      have hne : w ≠ [] := fun e => by rw [e] at h2; simp at h2
      obtain ⟨u, k, rfl⟩ : ∃ u k, w = u ++ [k] := ⟨w.dropLast, w.getLast hne, (List.dropLast_concat_getLast hne).symm⟩
      exact ⟨d.run 0 u, mem_stS.2 ⟨u, h1.left, by simpa using h2, rfl⟩, k, h1.right k (List.mem_singleton.2 rfl), by rw [Au.run_append]; rfl⟩
theorem stS_any {d : Au} {n : Nat} : anyS d (stS d n) = decide (0 < waysN d n 0) := by
  rw [Bool.eq_iff_iff, anyS_iff, decide_eq_true_iff, waysN_pos]
  constructor
  · rintro ⟨q, hq, ha⟩
    obtain ⟨w, h1, h2, rfl⟩ := mem_stS.1 hq
    exact ⟨w, h1, h2, ha⟩
  · rintro ⟨w, h1, h2, ha⟩
    exact ⟨_, mem_stS.2 ⟨w, h1, h2, rfl⟩, ha⟩
theorem stS_lt {d : Au} (hd : d.wf) {n x : Nat} (h : x ∈ stS d n) : x < d.n := by
  obtain ⟨w, h1, _, rfl⟩ := mem_stS.1 h
  exact Au.run_lt hd w 0 h1 hd.1
/-- The sets go on from m as from n. -/
theorem stS_shift {d : Au} {m n : Nat} (h : stS d n = stS d m) : ∀ i, stS d (n + i) = stS d (m + i)
  | 0 => h
  | i + 1 => by
    show nextS d (stS d (n + i)) = nextS d (stS d (m + i))
    rw [stS_shift h i]
/-- What LengthsOf answers of a valid automaton: the sets ahead of the n-th are all different, the n-th is the m-th. -/
def LenR (d : Au) (out : List Bool) (p : Nat) : Prop := ∃ n m, m < n ∧ stS d n = stS d m ∧ (∀ i j, i < j → j < n → stS d i ≠ stS d j) ∧ out = (List.range n).map (fun i => anyS d (stS d i)) ∧ p = n - m
theorem lenR_one {d : Au} {o o' : List Bool} {p p' : Nat} (h : LenR d o p) (h' : LenR d o' p') : o = o' ∧ p = p' := by
  obtain ⟨n, m, h1, h2, h3, rfl, rfl⟩ := h
  obtain ⟨n', m', h1', h2', h3', rfl, rfl⟩ := h'
  have e : n = n' := by
    rcases Nat.lt_trichotomy n n' with hl | e | hl
    · exact absurd h2.symm (h3' m n h1 hl)
    · exact e
    · exact absurd h2'.symm (h3 m' n' h1' hl)
  subst e
  have e : m = m' := by
    rcases Nat.lt_trichotomy m m' with hl | e | hl
    · exact absurd (h2.symm.trans h2') (h3 m m' hl h1')
    · exact e
    · exact absurd (h2'.symm.trans h2) (h3 m' m hl h1)
  subst e
  exact ⟨rfl, rfl⟩
/-- The list, continued by its period, tells for each length whether a word has it. -/
theorem LenR.at {d : Au} {o : List Bool} {p : Nat} (h : LenR d o p) : 0 < p ∧ p ≤ o.length ∧ (∀ i, i < o.length → o[i]? = some (decide (0 < waysN d i 0))) ∧ ∀ i, o.length ≤ i → (decide (0 < waysN d i 0)) = decide (0 < waysN d (i - p) 0) := by
  obtain ⟨n, m, h1, h2, -, rfl, rfl⟩ := h
  have hl : ((List.range n).map (fun i => anyS d (stS d i))).length = n := by simp
  rw [hl]
  refine ⟨by omega, by omega, fun i hi => ?_, fun i hi => ?_⟩
  · rw [List.getElem?_map, List.getElem?_range hi, ← stS_any]
    rfl
  · rw [← stS_any, ← stS_any]
    have := stS_shift h2 (i - n)
    rw [show n + (i - n) = i by omega, show m + (i - n) = i - (n - m) by omega] at this
    rw [this]
end Go.Proofs.YthmfncklepkddabDoor
