/-
  Automata over three letters: words, equal languages, the minimal automaton and its numbering, refinement of classes. Of no function of the program.
-/
import Derived.KernelRfl
import Derived.WalkKit
namespace Go.Proofs.Ytcdgglnlhfgghaa

/-- An automaton: its states, which of them accept, where the letters lead. -/
structure Au where
  n : Nat
  A : Nat → Bool
  T : Nat → Nat → Nat
def Au.wf (a : Au) : Prop := 0 < a.n ∧ ∀ q k, q < a.n → k < 3 → a.T q k < a.n
def Au.run (a : Au) (q : Nat) : List Nat → Nat
  | [] => q
  | k :: w => a.run (a.T q k) w
def W3 (w : List Nat) : Prop := ∀ k ∈ w, k < 3
theorem W3.tail {k : Nat} {w : List Nat} (h : W3 (k :: w)) : k < 3 ∧ W3 w := ⟨h k (List.mem_cons_self ..), fun x hx => h x (List.mem_cons_of_mem _ hx)⟩
theorem W3.cons {k : Nat} {w : List Nat} (hk : k < 3) (h : W3 w) : W3 (k :: w) := fun x hx => by
  rcases List.mem_cons.1 hx with rfl | hx
  · exact hk
  · exact h x hx
theorem W3.nil : W3 [] := fun _ h => by cases h
theorem Au.run_lt {a : Au} (h : a.wf) : ∀ (w : List Nat) (q : Nat), W3 w → q < a.n → a.run q w < a.n
  | [], _, _, hq => hq
  | k :: w, q, hw, hq => Au.run_lt h w (a.T q k) hw.tail.2 (h.2 _ _ hq hw.tail.1)
theorem Au.run_append (a : Au) : ∀ (u w : List Nat) (q : Nat), a.run q (u ++ w) = a.run (a.run q u) w
  | [], _, _ => rfl
  | k :: u, w, q => Au.run_append a u w (a.T q k)
/-- The same words lead to accepting states. -/
def Eqv (a : Au) (p : Nat) (b : Au) (q : Nat) : Prop := ∀ w, W3 w → a.A (a.run p w) = b.A (b.run q w)
theorem Eqv.refl (a : Au) (p : Nat) : Eqv a p a p := fun _ _ => rfl
theorem Eqv.symm {a b : Au} {p q : Nat} (h : Eqv a p b q) : Eqv b q a p := fun w hw => (h w hw).symm
theorem Eqv.trans {a b c : Au} {p q r : Nat} (h : Eqv a p b q) (k : Eqv b q c r) : Eqv a p c r := fun w hw => (h w hw).trans (k w hw)
theorem Eqv.step {a b : Au} {p q k : Nat} (h : Eqv a p b q) (hk : k < 3) : Eqv a (a.T p k) b (b.T q k) := fun w hw => h (k :: w) (hw.cons hk)
theorem Eqv.acc {a b : Au} {p q : Nat} (h : Eqv a p b q) : a.A p = b.A q := h [] W3.nil

/-- How many states have been met after t steps of the search. -/
def Au.cnt (m : Au) : Nat → Nat
  | 0 => 1
  | t + 1 => max (m.cnt t) (m.T (t / 3) (t % 3) + 1)
theorem Au.cnt_mono (m : Au) {s t : Nat} (h : s ≤ t) : m.cnt s ≤ m.cnt t := by
  induction t with
  | zero => rw [Nat.le_zero.1 h]; exact Nat.le_refl _
  | succ t ih =>
    by_cases e : s = t + 1
    · rw [e]; exact Nat.le_refl _
    · exact Nat.le_trans (ih (by omega)) (Nat.le_max_left _ _)
/-- States are told apart, and numbered as the search meets them. -/
structure Canon (m : Au) : Prop where
  pos : 0 < m.n
  lt : ∀ i k, i < m.n → k < 3 → m.T i k < m.n
  sep : ∀ i j, i < m.n → j < m.n → Eqv m i m j → i = j
  next : ∀ t, t < 3 * m.n → m.T (t / 3) (t % 3) ≤ m.cnt t
  seen : ∀ i, i < m.n → i < m.cnt (3 * i)
  all : m.cnt (3 * m.n) = m.n
theorem Canon.cnt_le {m : Au} (h : Canon m) : ∀ t, t ≤ 3 * m.n → m.cnt t ≤ m.n
  | 0, _ => h.pos
  | t + 1, ht => by
    have h1 := h.cnt_le t (by omega)
    have h2 := h.lt (t / 3) (t % 3) (by omega) (by omega)
    simp only [Au.cnt]
    omega
theorem canon_prefix {m m' : Au} (h : Canon m) (h' : Canon m') (he : Eqv m 0 m' 0) : ∀ t, t ≤ 3 * m.n → t ≤ 3 * m'.n →
    m.cnt t = m'.cnt t ∧ (∀ j, j < m.cnt t → Eqv m j m' j) ∧ ∀ s, s < t → m.T (s / 3) (s % 3) = m'.T (s / 3) (s % 3)
  | 0, _, _ => ⟨rfl, fun j hj => by
      have : j = 0 := by simp only [Au.cnt] at hj; omega
      rw [this]; exact he, fun s hs => by omega⟩
  | t + 1, ht, ht' => by
    obtain ⟨hc, hE, hT⟩ := canon_prefix h h' he t (by omega) (by omega)
    have hi : t / 3 < m.n := by omega
    have hi' : t / 3 < m'.n := by omega
    have hk : t % 3 < 3 := by omega
    have hsi := h.seen _ hi
    have hmono := m.cnt_mono (show 3 * (t / 3) ≤ t by omega)
    have hEi := (hE (t / 3) (by omega)).step hk
    have hj := h.next t (by omega)
    have hj' := h'.next t (by omega)
    have hcn := h.cnt_le t (by omega)
    have hcn' := h'.cnt_le t (by omega)
    have hlt := h.lt _ _ hi hk
    have hlt' := h'.lt _ _ hi' hk
    have heq : m.T (t / 3) (t % 3) = m'.T (t / 3) (t % 3) := by
      by_cases h1 : m.T (t / 3) (t % 3) < m.cnt t
      · exact h'.sep _ _ (by omega) hlt' ((hE _ h1).symm.trans hEi)
      · by_cases h2 : m'.T (t / 3) (t % 3) < m.cnt t
        · have := h.sep _ _ (by omega) hlt ((hE _ h2).trans hEi.symm)
          omega
        · omega
    have hc2 : m.cnt (t + 1) = m'.cnt (t + 1) := by simp only [Au.cnt]; rw [hc, heq]
    refine ⟨hc2, fun j hjc => ?_, fun s hs => ?_⟩
    · by_cases h1 : j < m.cnt t
      · exact hE j h1
      · have : j = m.T (t / 3) (t % 3) := by
          simp only [Au.cnt] at hjc
          omega
        rw [this]
        rw [← heq] at hEi
        exact hEi
    · by_cases h1 : s < t
      · exact hT s h1
      · have : s = t := by omega
        rw [this]
        exact heq
/-- A language has one such automaton. -/
theorem canon_unique {m m' : Au} (h : Canon m) (h' : Canon m') (he : Eqv m 0 m' 0) : m.n = m'.n ∧ ∀ i, i < m.n → m.A i = m'.A i ∧ ∀ k, k < 3 → m.T i k = m'.T i k := by
  have hn : m.n = m'.n := by
    rcases Nat.lt_trichotomy m.n m'.n with hl | he' | hl
    · obtain ⟨hc, _⟩ := canon_prefix h h' he (3 * m.n) (Nat.le_refl _) (by omega)
      have := h'.seen _ hl
      have := h.all
      omega
    · exact he'
    · obtain ⟨hc, _⟩ := canon_prefix h h' he (3 * m'.n) (by omega) (Nat.le_refl _)
      have := h.seen _ hl
      have := h'.all
      omega
  refine ⟨hn, fun i hi => ?_⟩
  obtain ⟨_, hE, hT⟩ := canon_prefix h h' he (3 * m.n) (Nat.le_refl _) (by omega)
  rw [h.all] at hE
  refine ⟨(hE i hi).acc, fun k hk => ?_⟩
  have := hT (3 * i + k) (by omega)
  rwa [show (3 * i + k) / 3 = i by omega, show (3 * i + k) % 3 = k by omega] at this

/-! Refinement. -/
/-- No word of at most r letters tells them apart. -/
def Er (a : Au) (r p q : Nat) : Prop := ∀ w, W3 w → w.length ≤ r → a.A (a.run p w) = a.A (a.run q w)
theorem Er.zero {a : Au} {p q : Nat} : Er a 0 p q ↔ a.A p = a.A q :=
  ⟨fun h => h [] W3.nil (Nat.le_refl _), fun h w _ hl => by
    have : w = [] := List.length_eq_zero_iff.1 (Nat.le_zero.1 hl)
    rw [this]
    exact h⟩
theorem Er.succ {a : Au} {r p q : Nat} : Er a (r + 1) p q ↔ Er a r p q ∧ ∀ k, k < 3 → Er a r (a.T p k) (a.T q k) := by
  constructor
  · intro h
    exact ⟨fun w hw hl => h w hw (by omega), fun k hk w hw hl => h (k :: w) (hw.cons hk) (by simp; omega)⟩
  · rintro ⟨h1, h2⟩ w hw hl
    cases w with
    | nil => exact h1 [] W3.nil (Nat.zero_le _)
    | cons k w => exact h2 k hw.tail.1 w hw.tail.2 (by simpa using hl)
theorem Er.refl (a : Au) (r p : Nat) : Er a r p p := fun _ _ _ => rfl
theorem Er.symm {a : Au} {r p q : Nat} (h : Er a r p q) : Er a r q p := fun w hw hl => (h w hw hl).symm
theorem Er.trans {a : Au} {r p q s : Nat} (h : Er a r p q) (k : Er a r q s) : Er a r p s := fun w hw hl => (h w hw hl).trans (k w hw hl)
theorem Er.less {a : Au} {r p q : Nat} (h : Er a (r + 1) p q) : Er a r p q := fun w hw hl => h w hw (by omega)
theorem Er.le {a : Au} {r s p q : Nat} (h : Er a s p q) (hr : r ≤ s) : Er a r p q := fun w hw hl => h w hw (by omega)

def same (a : Au) (c : Nat → Nat) (p q : Nat) : Bool := decide (c p = c q) && ((List.range 3).all fun k => decide (c (a.T p k) = c (a.T q k)))
/-- The least below n for which p holds, or n. -/
def lst (p : Nat → Bool) : Nat → Nat
  | 0 => 0
  | n + 1 => if lst p n < n then lst p n else if p n then n else n + 1
theorem lst_spec (p : Nat → Bool) : ∀ n, lst p n ≤ n ∧ (lst p n < n → p (lst p n) = true) ∧ ∀ i, i < lst p n → p i = false
  | 0 => ⟨Nat.le_refl _, fun h => absurd h (Nat.lt_irrefl _), fun i hi => absurd hi (Nat.not_lt_zero _)⟩
  | n + 1 => by
    obtain ⟨h1, h2, h3⟩ := lst_spec p n
    unfold lst
    by_cases hl : lst p n < n
    · rw [if_pos hl]
      exact ⟨by omega, fun _ => h2 hl, h3⟩
    · rw [if_neg hl]
      have e : lst p n = n := by omega
      rw [e] at h3
      cases hp : p n with
      | true => exact ⟨by simp, fun _ => by simpa using hp, fun i hi => h3 i (by simpa using hi)⟩
      | false =>
        refine ⟨by simp, fun h => by simp at h, fun i hi => ?_⟩
        have hi' : i < n + 1 := by simpa using hi
        by_cases e2 : i = n
        · rw [e2]; exact hp
        · exact h3 i (by omega)
def firstOf (a : Au) (c : Nat → Nat) (q : Nat) : Nat := lst (fun p => same a c p q) q
/-- The classes, round by round: first by acceptance, then each state's least fellow. -/
def cls (a : Au) : Nat → Nat → Nat
  | 0, q => if a.A q then 1 else 0
  | r + 1, q => firstOf a (cls a r) q
theorem same_iff {a : Au} {c : Nat → Nat} {p q : Nat} : same a c p q = true ↔ c p = c q ∧ ∀ k, k < 3 → c (a.T p k) = c (a.T q k) := by simp [same]
theorem same_refl (a : Au) (c : Nat → Nat) (q : Nat) : same a c q q = true := by simp [same]
/-- The first is the least. -/
theorem firstOf_spec (a : Au) (c : Nat → Nat) (q : Nat) : firstOf a c q ≤ q ∧ same a c (firstOf a c q) q = true ∧ ∀ p, p < firstOf a c q → same a c p q = false := by
  obtain ⟨h1, h2, h3⟩ := lst_spec (fun p => same a c p q) q
  refine ⟨h1, ?_, h3⟩
  by_cases hl : lst (fun p => same a c p q) q < q
  · exact h2 hl
  · have e : firstOf a c q = q := Nat.le_antisymm h1 (Nat.le_of_not_lt hl)
    rw [e]
    exact same_refl a c q
theorem cls_iff (a : Au) : ∀ r p q, cls a r p = cls a r q ↔ Er a r p q
  | 0, p, q => by
    rw [Er.zero]
    simp only [cls]
    cases a.A p <;> cases a.A q <;> simp
  | r + 1, p, q => by
    have hs : ∀ x y, same a (cls a r) x y = true ↔ Er a (r + 1) x y := fun x y => by
      rw [same_iff, Er.succ, cls_iff a r]
      exact ⟨fun ⟨h1, h2⟩ => ⟨h1, fun k hk => (cls_iff a r _ _).1 (h2 k hk)⟩, fun ⟨h1, h2⟩ => ⟨h1, fun k hk => (cls_iff a r _ _).2 (h2 k hk)⟩⟩
    obtain ⟨a1, a2, a3⟩ := firstOf_spec a (cls a r) p
    obtain ⟨b1, b2, b3⟩ := firstOf_spec a (cls a r) q
    rw [hs] at a2 b2
    show firstOf a (cls a r) p = firstOf a (cls a r) q ↔ _
    constructor
    · intro h
      rw [h] at a2
      exact a2.symm.trans b2
    · intro h
      rcases Nat.lt_trichotomy (firstOf a (cls a r) p) (firstOf a (cls a r) q) with hl | he | hl
      · have h1 := b3 _ hl
        rw [(hs _ _).2 (a2.trans h)] at h1
        cases h1
      · exact he
      · have h1 := a3 _ hl
        rw [(hs _ _).2 (b2.trans h.symm)] at h1
        cases h1
theorem cls_le (a : Au) (r q : Nat) : cls a (r + 1) q ≤ q := (firstOf_spec a (cls a r) q).1
/-- A class's first state is its own first. -/
theorem cls_rep (a : Au) (r q : Nat) : Er a (r + 1) (cls a (r + 1) q) q := by
  have h := (firstOf_spec a (cls a r) q).2.1
  rw [same_iff] at h
  rw [Er.succ]
  exact ⟨(cls_iff a r _ _).1 h.1, fun k hk => (cls_iff a r _ _).1 (h.2 k hk)⟩
theorem cls_idem (a : Au) (r q : Nat) : cls a (r + 1) (cls a (r + 1) q) = cls a (r + 1) q := (cls_iff a (r + 1) _ _).2 (cls_rep a r q)

theorem countP_lt {α : Type} {p q : α → Bool} : ∀ {l : List α}, (∀ x ∈ l, p x = true → q x = true) → (∃ x ∈ l, q x = true ∧ p x = false) → l.countP p < l.countP q
  | [], _, ⟨_, h, _⟩ => by cases h
  | x :: l, h, ⟨y, hy, h1, h2⟩ => by
    have hmono : l.countP p ≤ l.countP q := List.countP_mono_left fun z hz => h z (List.mem_cons_of_mem _ hz)
    rcases List.mem_cons.1 hy with e | hy'
    · rw [← e, List.countP_cons_of_pos h1, List.countP_cons_of_neg (by rw [h2]; decide)]
      omega
    · have ih := countP_lt (fun z hz => h z (List.mem_cons_of_mem _ hz)) ⟨y, hy', h1, h2⟩
      have hx := h x (List.mem_cons_self ..)
      cases hp : p x with
      | true =>
        rw [List.countP_cons_of_pos hp, List.countP_cons_of_pos (hx hp)]
        omega
      | false =>
        rw [List.countP_cons_of_neg (by rw [hp]; decide)]
        cases hq : q x with
        | true => rw [List.countP_cons_of_pos hq]; omega
        | false => rw [List.countP_cons_of_neg (by rw [hq]; decide)]; exact ih
/-- Nothing more is told apart in round r. -/
def Still (a : Au) (r : Nat) : Prop := ∀ p q, p < a.n → q < a.n → Er a r p q → Er a (r + 1) p q
theorem Still.succ {a : Au} (hw : a.wf) {r : Nat} (h : Still a r) : Still a (r + 1) := fun p q hp hq he => by
  rw [Er.succ] at he ⊢
  exact ⟨h p q hp hq he.1, fun k hk => h _ _ (hw.2 p k hp hk) (hw.2 q k hq hk) (he.2 k hk)⟩
theorem Still.all {a : Au} (hw : a.wf) {r : Nat} (h : Still a r) {p q : Nat} (hp : p < a.n) (hq : q < a.n) (he : Er a r p q) : Eqv a p a q := by
  have : ∀ s, Still a (r + s) := fun s => by
    induction s with
    | zero => exact h
    | succ s ih => exact ih.succ hw
  have hall : ∀ s, Er a (r + s) p q := fun s => by
    induction s with
    | zero => exact he
    | succ s ih => exact this s p q hp hq ih
  intro w hw'
  exact hall w.length w hw' (by omega)
/-- How many classes there are. -/
def reps (a : Au) (r : Nat) : Nat := (List.range a.n).countP fun q => decide (cls a (r + 1) q = q)
theorem reps_grow {a : Au} {r : Nat} (h : ¬ Still a (r + 1)) : reps a r < reps a (r + 1) := by
  have hmono : ∀ q, cls a (r + 1) q = q → cls a (r + 1 + 1) q = q := fun q hq => by
    have h1 := cls_le a (r + 1) q
    rcases Nat.lt_or_eq_of_le h1 with hl | he
    · have h2 := (cls_rep a (r + 1) q).less
      have h3 := (cls_iff a (r + 1) _ _).2 h2
      have h4 := cls_le a r (cls a (r + 1 + 1) q)
      rw [h3, hq] at h4
      omega
    · exact he
  apply countP_lt
  · intro q _ hq
    simp only [decide_eq_true_eq] at hq ⊢
    exact hmono q hq
  · apply Classical.byContradiction
    intro hn
    apply h
    intro p q hp hq he
    have hall : ∀ x, x < a.n → cls a (r + 1 + 1) x = x → cls a (r + 1) x = x := fun x hx hc => by
      apply Classical.byContradiction
      intro hne
      exact hn ⟨x, List.mem_range.2 hx, by simpa using hc, by simpa using hne⟩
    have key : ∀ x, x < a.n → cls a (r + 1 + 1) x = cls a (r + 1) x := fun x hx => by
      have h1 := cls_idem a (r + 1) x
      have h2 := hall _ (Nat.lt_of_le_of_lt (cls_le a (r + 1) x) hx) h1
      rw [← h2]
      exact (cls_iff a (r + 1) _ _).2 (cls_rep a (r + 1) x).less
    rw [← cls_iff, key p hp, key q hq, cls_iff]
    exact he
theorem reps_le (a : Au) (r : Nat) : reps a r ≤ a.n := by
  have := List.countP_le_length (p := fun q => decide (cls a (r + 1) q = q)) (l := List.range a.n)
  rwa [List.length_range] at this
theorem still_some {a : Au} : ∃ r, r ≤ a.n ∧ Still a (r + 1) := by
  apply Classical.byContradiction
  intro hn
  have : ∀ r, r ≤ a.n + 1 → r ≤ reps a r := fun r => by
    induction r with
    | zero => intro _; exact Nat.zero_le _
    | succ r ih =>
      intro hr
      have h1 := ih (by omega)
      have h2 := reps_grow (a := a) (r := r) (fun h => hn ⟨r, by omega, h⟩)
      omega
  have h1 := this (a.n + 1) (Nat.le_refl _)
  have h2 := reps_le a (a.n + 1)
  omega
/-- As many rounds as there are states, and one more, tell apart all that can be told apart. -/
theorem cls_all {a : Au} (hw : a.wf) {p q : Nat} (hp : p < a.n) (hq : q < a.n) : cls a (a.n + 1) p = cls a (a.n + 1) q ↔ Eqv a p a q := by
  rw [cls_iff]
  constructor
  · intro h
    obtain ⟨r, hr, hs⟩ := still_some (a := a)
    exact hs.all hw hp hq (h.le (by omega))
  · intro h w hw' _
    exact h w hw'
end Go.Proofs.Ytcdgglnlhfgghaa
