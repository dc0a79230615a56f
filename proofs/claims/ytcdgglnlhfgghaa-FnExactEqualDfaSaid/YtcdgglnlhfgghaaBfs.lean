/-
  A search in breadth over three letters, as lists: what it meets, in which order; the automaton that it numbers. Of no function of the program.
-/
import Derived.Test.YtcdgglnlhfgghaaAuto
namespace Go.Proofs.Ytcdgglnlhfgghaa

theorem prefix_getD {α : Type} [Inhabited α] {l l' : List α} (h : l <+: l') {i : Nat} (hi : i < l.length) : l'.getD i default = l.getD i default := by
  obtain ⟨r, rfl⟩ := h
  simp only [List.getD_eq_getElem?_getD, List.getElem?_append_left hi]
theorem getD_mem {α : Type} [Inhabited α] {l : List α} {i : Nat} (hi : i < l.length) : l.getD i default ∈ l := by
  rw [List.getD_eq_getElem?_getD, List.getElem?_eq_getElem hi]
  exact List.getElem_mem hi
theorem idx_prefix {α : Type} [DecidableEq α] {l l' : List α} (h : l <+: l') {x : α} (hx : x ∈ l) : l'.idxOf x = l.idxOf x := by
  obtain ⟨r, rfl⟩ := h
  rw [List.idxOf_append, if_pos hx]

section
variable {α : Type} [DecidableEq α] [Inhabited α]
/-- What has been met after t steps. -/
def ords (s0 : α) (g : α → Nat → α) : Nat → List α
  | 0 => [s0]
  | t + 1 => if g ((ords s0 g t).getD (t / 3) default) (t % 3) ∈ ords s0 g t then ords s0 g t else ords s0 g t ++ [g ((ords s0 g t).getD (t / 3) default) (t % 3)]
variable {s0 : α} {g : α → Nat → α}
theorem ords_step_prefix (t : Nat) : ords s0 g t <+: ords s0 g (t + 1) := by
  rw [ords]
  split
  · exact List.prefix_refl _
  · exact List.prefix_append _ _
theorem ords_prefix {s t : Nat} (h : s ≤ t) : ords s0 g s <+: ords s0 g t := by
  induction t with
  | zero => rw [Nat.le_zero.1 h]; exact List.prefix_refl _
  | succ t ih =>
    by_cases e : s = t + 1
    · rw [e]; exact List.prefix_refl _
    · exact (ih (by omega)).trans (ords_step_prefix t)
theorem ords_nodup : ∀ t, (ords s0 g t).Nodup
  | 0 => by simp [ords]
  | t + 1 => by
    rw [ords]
    split
    · exact ords_nodup t
    · rename_i h
      rw [List.nodup_append]
      exact ⟨ords_nodup t, by simp, fun a ha b hb => by
        rw [List.mem_singleton] at hb
        rw [hb]
        intro e
        rw [e] at ha
        exact h ha⟩
theorem ords_pos (t : Nat) : 0 < (ords s0 g t).length := by
  have := (ords_prefix (s0 := s0) (g := g) (Nat.zero_le t)).length_le
  simp only [ords, List.length_singleton] at this
  omega
theorem ords_at {s t i : Nat} (h : s ≤ t) (hi : i < (ords s0 g s).length) : (ords s0 g t).getD i default = (ords s0 g s).getD i default := prefix_getD (ords_prefix h) hi
theorem ords_mem (t : Nat) : g ((ords s0 g t).getD (t / 3) default) (t % 3) ∈ ords s0 g (t + 1) := by
  rw [ords]
  split
  · rename_i h; exact h
  · simp
theorem ords_first (t : Nat) : (ords s0 g t).getD 0 default = s0 := by
  rw [ords_at (Nat.zero_le t) (by simp [ords])]
  simp [ords]
theorem getD_idx {l : List α} {x : α} (hx : x ∈ l) : l.getD (l.idxOf x) default = x := by
  have h := List.idxOf_lt_length_of_mem hx
  rw [List.getD_eq_getElem?_getD, List.getElem?_eq_getElem h]
  simp
theorem idx_getD {l : List α} (hn : l.Nodup) {i : Nat} (hi : i < l.length) : l.idxOf (l.getD i default) = i := by
  rw [List.getD_eq_getElem?_getD, List.getElem?_eq_getElem hi]
  exact hn.idxOf_getElem i hi

/-- The search ends with N: whatever has been met has been gone on from. -/
structure Ends (s0 : α) (g : α → Nat → α) (N : Nat) : Prop where
  on : ∀ i, i < N → i < (ords s0 g (3 * i)).length
  stop : (ords s0 g (3 * N)).length ≤ N
variable {N : Nat}
theorem Ends.pos (h : Ends s0 g N) : 0 < N := Nat.lt_of_lt_of_le (ords_pos (3 * N)) h.stop
theorem Ends.length (h : Ends s0 g N) : (ords s0 g (3 * N)).length = N := by
  have hp := h.pos
  have h1 := h.on (N - 1) (by omega)
  have h2 := (ords_prefix (s0 := s0) (g := g) (show 3 * (N - 1) ≤ 3 * N by omega)).length_le
  have := h.stop
  omega
/-- The automaton that is numbered. -/
def found (s0 : α) (g : α → Nat → α) (acc : α → Bool) (N : Nat) : Au :=
  ⟨N, fun i => acc ((ords s0 g (3 * N)).getD i default), fun i k => (ords s0 g (3 * N)).idxOf (g ((ords s0 g (3 * N)).getD i default) k)⟩
theorem Ends.key (h : Ends s0 g N) {i k : Nat} (hi : i < N) (hk : k < 3) :
    (ords s0 g (3 * i + k)).getD i default = (ords s0 g (3 * N)).getD i default ∧ g ((ords s0 g (3 * N)).getD i default) k ∈ ords s0 g (3 * i + k + 1) := by
  have h1 := h.on i hi
  have h2 := (ords_prefix (s0 := s0) (g := g) (show 3 * i ≤ 3 * i + k by omega)).length_le
  have e : (ords s0 g (3 * N)).getD i default = (ords s0 g (3 * i + k)).getD i default := ords_at (by omega) (by omega)
  refine ⟨e.symm, ?_⟩
  have h3 := ords_mem (s0 := s0) (g := g) (3 * i + k)
  rw [show (3 * i + k) / 3 = i by omega, show (3 * i + k) % 3 = k by omega] at h3
  rw [e]
  exact h3
theorem Ends.closed (h : Ends s0 g N) {i k : Nat} (hi : i < N) (hk : k < 3) : g ((ords s0 g (3 * N)).getD i default) k ∈ ords s0 g (3 * N) :=
  (ords_prefix (show 3 * i + k + 1 ≤ 3 * N by omega)).subset (h.key hi hk).2
/-- The number of the state met is at most how many there were; where it is new, just that. -/
theorem Ends.number (h : Ends s0 g N) (acc : α → Bool) : ∀ t, t ≤ 3 * N → (found s0 g acc N).cnt t = (ords s0 g t).length ∧ (t < 3 * N → (found s0 g acc N).T (t / 3) (t % 3) ≤ (ords s0 g t).length)
  | 0, _ => ⟨rfl, fun ht => by
      obtain ⟨h1, h2⟩ := h.key (i := 0) (k := 0) (by omega) (by omega)
      have h3 : (found s0 g acc N).T 0 0 = (ords s0 g 1).idxOf (g ((ords s0 g (3 * N)).getD 0 default) 0) := idx_prefix (ords_prefix (by omega)) h2
      have h4 := List.idxOf_lt_length_of_mem h2
      have h5 : (ords s0 g 1).length ≤ 2 := by
        rw [ords]
        split <;> simp [ords]
      show (found s0 g acc N).T 0 0 ≤ 1
      simp only [Nat.mul_zero, Nat.zero_add] at h4
      omega⟩
  | t + 1, ht => by
    obtain ⟨ih, _⟩ := h.number acc t (by omega)
    have step : ∀ s, s < 3 * N → (found s0 g acc N).T (s / 3) (s % 3) = (ords s0 g (s + 1)).idxOf (g ((ords s0 g s).getD (s / 3) default) (s % 3)) := fun s hs => by
      obtain ⟨h1, h2⟩ := h.key (i := s / 3) (k := s % 3) (by omega) (by omega)
      rw [show 3 * (s / 3) + s % 3 = s by omega] at h1 h2
      rw [h1]
      exact idx_prefix (ords_prefix (by omega)) h2
    have len : ∀ s, (ords s0 g (s + 1)).length ≤ (ords s0 g s).length + 1 := fun s => by
      rw [ords]
      split <;> simp
    refine ⟨?_, fun ht' => ?_⟩
    · have hs := step t (by omega)
      simp only [Au.cnt]
      rw [ih, hs]
      by_cases hm : g ((ords s0 g t).getD (t / 3) default) (t % 3) ∈ ords s0 g t
      · have e : ords s0 g (t + 1) = ords s0 g t := by rw [ords, if_pos hm]
        rw [e]
        have := List.idxOf_lt_length_of_mem hm
        omega
      · have e : ords s0 g (t + 1) = ords s0 g t ++ [g ((ords s0 g t).getD (t / 3) default) (t % 3)] := by rw [ords, if_neg hm]
        rw [e, List.idxOf_append, if_neg hm]
        simp
    · rw [step (t + 1) ht']
      have h4 := List.idxOf_lt_length_of_mem (ords_mem (s0 := s0) (g := g) (t + 1))
      have := len (t + 1)
      omega
/-- All of 'Canon' but that states are told apart. -/
theorem Ends.canon (h : Ends s0 g N) (acc : α → Bool) (hs : ∀ i j, i < N → j < N → Eqv (found s0 g acc N) i (found s0 g acc N) j → i = j) : Canon (found s0 g acc N) where
  pos := h.pos
  lt := fun i k hi hk => by
    have h1 := List.idxOf_lt_length_of_mem (h.closed hi hk)
    rw [h.length] at h1
    exact h1
  sep := hs
  next := fun t ht => by
    obtain ⟨h1, h2⟩ := h.number acc t (Nat.le_of_lt ht)
    rw [h1]
    exact h2 ht
  seen := fun i hi => by
    have hi' : i < N := hi
    rw [(h.number acc (3 * i) (by omega)).1]
    exact h.on i hi'
  all := by
    show (found s0 g acc N).cnt (3 * N) = N
    rw [(h.number acc (3 * N) (Nat.le_refl _)).1, h.length]
/-- Its language, by the keys' own. -/
theorem Ends.lang (h : Ends s0 g N) {acc : α → Bool} {L : α → List Nat → Bool} (h0 : ∀ x, L x [] = acc x) (h1 : ∀ x, x ∈ ords s0 g (3 * N) → ∀ k, k < 3 → ∀ w, W3 w → L (g x k) w = L x (k :: w)) :
    ∀ w i, W3 w → i < N → (found s0 g acc N).A ((found s0 g acc N).run i w) = L ((ords s0 g (3 * N)).getD i default) w
  | [], i, _, hi => (h0 _).symm
  | k :: w, i, hw, hi => by
    obtain ⟨hk, hw'⟩ := hw.tail
    have hc := h.closed hi hk
    have hlt := List.idxOf_lt_length_of_mem hc
    rw [h.length] at hlt
    have := h.lang h0 h1 w ((found s0 g acc N).T i k) hw' hlt
    show (found s0 g acc N).A ((found s0 g acc N).run ((found s0 g acc N).T i k) w) = _
    rw [this]
    have e : (ords s0 g (3 * N)).getD ((found s0 g acc N).T i k) default = g ((ords s0 g (3 * N)).getD i default) k := getD_idx hc
    rw [e]
    exact h1 _ (getD_mem (by rw [h.length]; exact hi)) k hk w hw'
/-- A search over finitely many keys ends. -/
theorem ends_some {M : Nat} (hM : ∀ t, (ords s0 g t).length ≤ M) : ∃ N, N ≤ M ∧ Ends s0 g N := by
  have h : ∃ i, (ords s0 g (3 * i)).length ≤ i := ⟨M, hM _⟩
  obtain ⟨h1, h2, h3⟩ := lst_spec (fun i => decide ((ords s0 g (3 * i)).length ≤ i)) M
  refine ⟨_, h1, fun i hi => ?_, ?_⟩
  · have := h3 i hi
    simpa using this
  · by_cases hl : lst (fun i => decide ((ords s0 g (3 * i)).length ≤ i)) M < M
    · simpa using h2 hl
    · have e : lst (fun i => decide ((ords s0 g (3 * i)).length ≤ i)) M = M := by omega
      rw [e]
      exact hM _
end

theorem nodup_len : ∀ (M : Nat) (l : List Nat), l.Nodup → (∀ x ∈ l, x < M) → l.length ≤ M
  | 0, l, _, h => by
    cases l with
    | nil => simp
    | cons x r => exact absurd (h x (List.mem_cons_self ..)) (Nat.not_lt_zero _)
  | M + 1, l, hn, h => by
    by_cases hm : M ∈ l
    · have h1 := nodup_len M (l.erase M) (hn.erase M) (fun x hx => by
        have h2 := (hn.mem_erase_iff).1 hx
        have := h x h2.2
        have := h2.1
        omega)
      rw [List.length_erase_of_mem hm] at h1
      omega
    · have h1 := nodup_len M l hn (fun x hx => by
        have := h x hx
        have : x ≠ M := fun e => hm (e ▸ hx)
        omega)
      omega
theorem ords_lt {s0 : Nat} {g : Nat → Nat → Nat} {M : Nat} (h0 : s0 < M) (hg : ∀ x k, x < M → k < 3 → g x k < M) : ∀ t, (∀ x ∈ ords s0 g t, x < M) ∧ (ords s0 g t).length ≤ M := by
  have hM : 0 < M := by omega
  have : ∀ t, ∀ x ∈ ords s0 g t, x < M := fun t => by
    induction t with
    | zero => intro x hx; simp [ords] at hx; omega
    | succ t ih =>
      intro x hx
      rw [ords] at hx
      have hd : (ords s0 g t).getD (t / 3) default < M := by
        by_cases hl : t / 3 < (ords s0 g t).length
        · exact ih _ (getD_mem hl)
        · rw [List.getD_eq_getElem?_getD, List.getElem?_eq_none (by omega)]
          exact hM
      split at hx
      · exact ih x hx
      · rcases List.mem_append.1 hx with hx | hx
        · exact ih x hx
        · rw [List.mem_singleton] at hx
          rw [hx]
          exact hg _ _ hd (by omega)
  exact fun t => ⟨this t, nodup_len M _ (ords_nodup t) (this t)⟩

/-- The classes' search: of an automaton's states, the first of each class. -/
def clsG (a : Au) (q k : Nat) : Nat := cls a (a.n + 1) (a.T q k)
def clsS (a : Au) : Nat := cls a (a.n + 1) 0
theorem cls_lt {a : Au} {q : Nat} (hq : q < a.n) : cls a (a.n + 1) q < a.n := Nat.lt_of_le_of_lt (cls_le a a.n q) hq
theorem cls_eqv {a : Au} (hw : a.wf) {q : Nat} (hq : q < a.n) : Eqv a (cls a (a.n + 1) q) a q := (cls_all hw (cls_lt hq) hq).1 (cls_idem a a.n q)
theorem min_keys {a : Au} (hw : a.wf) : ∀ t, ∀ x ∈ ords (clsS a) (clsG a) t, x < a.n ∧ cls a (a.n + 1) x = x := by
  intro t
  induction t with
  | zero =>
    intro x hx
    simp only [ords, List.mem_singleton] at hx
    rw [hx]
    exact ⟨cls_lt hw.1, cls_idem a a.n 0⟩
  | succ t ih =>
    intro x hx
    rw [ords] at hx
    split at hx
    · exact ih x hx
    · rcases List.mem_append.1 hx with hx | hx
      · exact ih x hx
      · rw [List.mem_singleton] at hx
        rw [hx]
        have hd : (ords (clsS a) (clsG a) t).getD (t / 3) default < a.n := by
          by_cases hl : t / 3 < (ords (clsS a) (clsG a) t).length
          · exact (ih _ (getD_mem hl)).1
          · rw [List.getD_eq_getElem?_getD, List.getElem?_eq_none (by omega)]
            exact hw.1
        exact ⟨cls_lt (hw.2 _ _ hd (by omega)), cls_idem a a.n _⟩
/-- What the search over classes finds is the minimal automaton. -/
theorem min_found {a : Au} (hw : a.wf) {N : Nat} (h : Ends (clsS a) (clsG a) N) : Canon (found (clsS a) (clsG a) a.A N) ∧ Eqv (found (clsS a) (clsG a) a.A N) 0 a 0 ∧ N ≤ a.n := by
  have hk := min_keys hw (3 * N)
  have hL : ∀ w i, W3 w → i < N → (found (clsS a) (clsG a) a.A N).A ((found (clsS a) (clsG a) a.A N).run i w) = a.A (a.run ((ords (clsS a) (clsG a) (3 * N)).getD i default) w) := by
    refine h.lang (L := fun x w => a.A (a.run x w)) (fun x => rfl) (fun x hx k hk' w hw' => ?_)
    exact (cls_eqv hw (hw.2 x k (hk x hx).1 hk')) w hw'
  have hlen := h.length
  refine ⟨h.canon a.A fun i j hi hj he => ?_, fun w hw' => ?_, ?_⟩
  · have hxi := hk _ (getD_mem (i := i) (by rw [hlen]; exact hi))
    have hxj := hk _ (getD_mem (i := j) (by rw [hlen]; exact hj))
    have he' : Eqv a ((ords (clsS a) (clsG a) (3 * N)).getD i default) a ((ords (clsS a) (clsG a) (3 * N)).getD j default) := fun w hw' => by
      rw [← hL w i hw' hi, ← hL w j hw' hj]
      exact he w hw'
    have h1 := (cls_all hw hxi.1 hxj.1).2 he'
    rw [hxi.2, hxj.2] at h1
    have h2 : (ords (clsS a) (clsG a) (3 * N)).idxOf ((ords (clsS a) (clsG a) (3 * N)).getD i default) = (ords (clsS a) (clsG a) (3 * N)).idxOf ((ords (clsS a) (clsG a) (3 * N)).getD j default) := by rw [h1]
    rwa [idx_getD (ords_nodup _) (by rw [hlen]; exact hi), idx_getD (ords_nodup _) (by rw [hlen]; exact hj)] at h2
  · rw [hL w 0 hw' h.pos, ords_first]
    exact (cls_eqv hw hw.1) w hw'
  · rw [← hlen]
    exact nodup_len a.n _ (ords_nodup _) (fun x hx => (hk x hx).1)
/-- There is one. -/
theorem exists_min {a : Au} (hw : a.wf) : ∃ m, Canon m ∧ Eqv m 0 a 0 ∧ m.n ≤ a.n := by
  have hb : ∀ t, (ords (clsS a) (clsG a) t).length ≤ a.n := fun t => nodup_len a.n _ (ords_nodup _) (fun x hx => (min_keys hw t x hx).1)
  obtain ⟨N, _, hN⟩ := ends_some hb
  obtain ⟨h1, h2, h3⟩ := min_found hw hN
  exact ⟨_, h1, h2, h3⟩
end Go.Proofs.Ytcdgglnlhfgghaa
