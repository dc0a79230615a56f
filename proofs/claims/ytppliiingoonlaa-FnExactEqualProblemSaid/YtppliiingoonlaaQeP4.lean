/-
  Texts of one proof, one behind the other.
-/
import Derived.KernelRfl
import Derived.WalkKit
import Derived.Test.YtppliiingoonlaaRows
import Derived.WalkSpells
import Derived.WalkLawsBesides
import Derived.Lib.Hide
import Derived.IntWalk
import Derived.Deep.RegionHeld3
import Derived.Test.YtppliiingoonlaaShelf
import Derived.BigQuiet
import Derived.Below
import Derived.Deep.QuietTactic
import Derived.Test.YtppliiingoonlaaQeP2
import Derived.Test.YtppliiingoonlaaQeP3

/-
  Automata over three letters: words, equal languages, the minimal automaton and its numbering, refinement of classes. Of no function of the program.
  A search in breadth over three letters, as lists: what it meets, in which order; the automaton that it numbers. Of no function of the program.
  Automata as their fields tell them: which are valid, and which automaton they are. Of no function of the program.
  The product of two automata, as numbers; its search. Of no function of the program.
  Classes by their heads, round by round; the automaton that they make where nothing more is told apart: the minimal one. Of no function of the program.
-/
namespace Go.Proofs.Ytppliiingoonlaa
/-- An automaton: its states, which of them accept, where the letters lead. -/
structure Au where
  n : Nat
  A : Nat → Bool
  T : Nat → Nat → Nat
def Au.wf (a : Au) : Prop := 0 < a.n ∧ ∀ q k, q < a.n → k < 3 → a.T q k < a.n
def Au.run (a : Au) (q : Nat) : List Nat → Nat
  | [] => q
  | k :: w => a.run (a.T q k) w
def W3 (w : List Nat) : Prop := ∀ k ∈ w, k < 3
theorem W3.tail {k : Nat} {w : List Nat} (h : W3 (k :: w)) : k < 3 ∧ W3 w := ⟨h k (List.mem_cons_self ..), fun x hx => h x (List.mem_cons_of_mem _ hx)⟩
theorem W3.cons {k : Nat} {w : List Nat} (hk : k < 3) (h : W3 w) : W3 (k :: w) := fun x hx => by
  rcases List.mem_cons.1 hx with rfl | hx
  · exact hk
  · exact h x hx
theorem W3.nil : W3 [] := fun _ h => by cases h
theorem Au.run_lt {a : Au} (h : a.wf) : ∀ (w : List Nat) (q : Nat), W3 w → q < a.n → a.run q w < a.n
  | [], _, _, hq => hq
  | k :: w, q, hw, hq => Au.run_lt h w (a.T q k) hw.tail.2 (h.2 _ _ hq hw.tail.1)
theorem Au.run_append (a : Au) : ∀ (u w : List Nat) (q : Nat), a.run q (u ++ w) = a.run (a.run q u) w
  | [], _, _ => rfl
  | k :: u, w, q => Au.run_append a u w (a.T q k)
/-- The same words lead to accepting states. -/
def Eqv (a : Au) (p : Nat) (b : Au) (q : Nat) : Prop := ∀ w, W3 w → a.A (a.run p w) = b.A (b.run q w)
theorem Eqv.refl (a : Au) (p : Nat) : Eqv a p a p := fun _ _ => rfl
theorem Eqv.symm {a b : Au} {p q : Nat} (h : Eqv a p b q) : Eqv b q a p := fun w hw => (h w hw).symm
theorem Eqv.trans {a b c : Au} {p q r : Nat} (h : Eqv a p b q) (k : Eqv b q c r) : Eqv a p c r := fun w hw => (h w hw).trans (k w hw)
theorem Eqv.step {a b : Au} {p q k : Nat} (h : Eqv a p b q) (hk : k < 3) : Eqv a (a.T p k) b (b.T q k) := fun w hw => h (k :: w) (hw.cons hk)
theorem Eqv.acc {a b : Au} {p q : Nat} (h : Eqv a p b q) : a.A p = b.A q := h [] W3.nil

/-- How many states have been met after t steps of the search. -/
def Au.cnt (m : Au) : Nat → Nat
  | 0 => 1
  | t + 1 => max (m.cnt t) (m.T (t / 3) (t % 3) + 1)
theorem Au.cnt_mono (m : Au) {s t : Nat} (h : s ≤ t) : m.cnt s ≤ m.cnt t := by
  induction t with
  | zero => rw [Nat.le_zero.1 h]; exact Nat.le_refl _
  | succ t ih =>
    by_cases e : s = t + 1
    · rw [e]; exact Nat.le_refl _
    · exact Nat.le_trans (ih (by omega)) (Nat.le_max_left _ _)
/-- States are told apart, and numbered as the search meets them. -/
structure Canon (m : Au) : Prop where
  pos : 0 < m.n
  lt : ∀ i k, i < m.n → k < 3 → m.T i k < m.n
  sep : ∀ i j, i < m.n → j < m.n → Eqv m i m j → i = j
  next : ∀ t, t < 3 * m.n → m.T (t / 3) (t % 3) ≤ m.cnt t
  seen : ∀ i, i < m.n → i < m.cnt (3 * i)
  all : m.cnt (3 * m.n) = m.n
theorem Canon.cnt_le {m : Au} (h : Canon m) : ∀ t, t ≤ 3 * m.n → m.cnt t ≤ m.n
  | 0, _ => h.pos
  | t + 1, ht => by
    have h1 := h.cnt_le t (by omega)
    have h2 := h.lt (t / 3) (t % 3) (by omega) (by omega)
    simp only [Au.cnt]
    omega
theorem canon_prefix {m m' : Au} (h : Canon m) (h' : Canon m') (he : Eqv m 0 m' 0) : ∀ t, t ≤ 3 * m.n → t ≤ 3 * m'.n →
    m.cnt t = m'.cnt t ∧ (∀ j, j < m.cnt t → Eqv m j m' j) ∧ ∀ s, s < t → m.T (s / 3) (s % 3) = m'.T (s / 3) (s % 3)
  | 0, _, _ => ⟨rfl, fun j hj => by
      have : j = 0 := by simp only [Au.cnt] at hj; omega
      rw [this]; exact he, fun s hs => by omega⟩
  | t + 1, ht, ht' => by
    obtain ⟨hc, hE, hT⟩ := canon_prefix h h' he t (by omega) (by omega)
    have hi : t / 3 < m.n := by omega
    have hi' : t / 3 < m'.n := by omega
    have hk : t % 3 < 3 := by omega
    have hsi := h.seen _ hi
    have hmono := m.cnt_mono (show 3 * (t / 3) ≤ t by omega)
    have hEi := (hE (t / 3) (by omega)).step hk
    have hj := h.next t (by omega)
    have hj' := h'.next t (by omega)
    have hcn := h.cnt_le t (by omega)
    have hcn' := h'.cnt_le t (by omega)
    have hlt := h.lt _ _ hi hk
    have hlt' := h'.lt _ _ hi' hk
    have heq : m.T (t / 3) (t % 3) = m'.T (t / 3) (t % 3) := by
      by_cases h1 : m.T (t / 3) (t % 3) < m.cnt t
      · exact h'.sep _ _ (by omega) hlt' ((hE _ h1).symm.trans hEi)
      · by_cases h2 : m'.T (t / 3) (t % 3) < m.cnt t
        · have := h.sep _ _ (by omega) hlt ((hE _ h2).trans hEi.symm)
          omega
        · omega
    have hc2 : m.cnt (t + 1) = m'.cnt (t + 1) := by simp only [Au.cnt]; rw [hc, heq]
    refine ⟨hc2, fun j hjc => ?_, fun s hs => ?_⟩
    · by_cases h1 : j < m.cnt t
      · exact hE j h1
      · have : j = m.T (t / 3) (t % 3) := by
          simp only [Au.cnt] at hjc
          omega
        rw [this]
        rw [← heq] at hEi
        exact hEi
    · by_cases h1 : s < t
      · exact hT s h1
      · have : s = t := by omega
        rw [this]
        exact heq
/-- A language has one such automaton. -/
theorem canon_unique {m m' : Au} (h : Canon m) (h' : Canon m') (he : Eqv m 0 m' 0) : m.n = m'.n ∧ ∀ i, i < m.n → m.A i = m'.A i ∧ ∀ k, k < 3 → m.T i k = m'.T i k := by
  have hn : m.n = m'.n := by
    rcases Nat.lt_trichotomy m.n m'.n with hl | he' | hl
    · obtain ⟨hc, _⟩ := canon_prefix h h' he (3 * m.n) (Nat.le_refl _) (by omega)
      have := h'.seen _ hl
      have := h.all
      omega
    · exact he'
    · obtain ⟨hc, _⟩ := canon_prefix h h' he (3 * m'.n) (by omega) (Nat.le_refl _)
      have := h.seen _ hl
      have := h'.all
      omega
  refine ⟨hn, fun i hi => ?_⟩
  obtain ⟨_, hE, hT⟩ := canon_prefix h h' he (3 * m.n) (Nat.le_refl _) (by omega)
  rw [h.all] at hE
  refine ⟨(hE i hi).acc, fun k hk => ?_⟩
  have := hT (3 * i + k) (by omega)
  rwa [show (3 * i + k) / 3 = i by omega, show (3 * i + k) % 3 = k by omega] at this

/-! Refinement. -/
/-- No word of at most r letters tells them apart. -/
def Er (a : Au) (r p q : Nat) : Prop := ∀ w, W3 w → w.length ≤ r → a.A (a.run p w) = a.A (a.run q w)
theorem Er.zero {a : Au} {p q : Nat} : Er a 0 p q ↔ a.A p = a.A q :=
  ⟨fun h => h [] W3.nil (Nat.le_refl _), fun h w _ hl => by
    have : w = [] := List.length_eq_zero_iff.1 (Nat.le_zero.1 hl)
    rw [this]
    exact h⟩
theorem Er.succ {a : Au} {r p q : Nat} : Er a (r + 1) p q ↔ Er a r p q ∧ ∀ k, k < 3 → Er a r (a.T p k) (a.T q k) := by
  constructor
  · intro h
    exact ⟨fun w hw hl => h w hw (by omega), fun k hk w hw hl => h (k :: w) (hw.cons hk) (by simp; omega)⟩
  · rintro ⟨h1, h2⟩ w hw hl
    cases w with
    | nil => exact h1 [] W3.nil (Nat.zero_le _)
    | cons k w => exact h2 k hw.tail.1 w hw.tail.2 (by simpa using hl)
theorem Er.refl (a : Au) (r p : Nat) : Er a r p p := fun _ _ _ => rfl
theorem Er.symm {a : Au} {r p q : Nat} (h : Er a r p q) : Er a r q p := fun w hw hl => (h w hw hl).symm
theorem Er.trans {a : Au} {r p q s : Nat} (h : Er a r p q) (k : Er a r q s) : Er a r p s := fun w hw hl => (h w hw hl).trans (k w hw hl)
theorem Er.less {a : Au} {r p q : Nat} (h : Er a (r + 1) p q) : Er a r p q := fun w hw hl => h w hw (by omega)
theorem Er.le {a : Au} {r s p q : Nat} (h : Er a s p q) (hr : r ≤ s) : Er a r p q := fun w hw hl => h w hw (by omega)

def same (a : Au) (c : Nat → Nat) (p q : Nat) : Bool := decide (c p = c q) && ((List.range 3).all fun k => decide (c (a.T p k) = c (a.T q k)))
/-- The least below n for which p holds, or n. -/
def lst (p : Nat → Bool) : Nat → Nat
  | 0 => 0
  | n + 1 => if lst p n < n then lst p n else if p n then n else n + 1
theorem lst_spec (p : Nat → Bool) : ∀ n, lst p n ≤ n ∧ (lst p n < n → p (lst p n) = true) ∧ ∀ i, i < lst p n → p i = false
  | 0 => ⟨Nat.le_refl _, fun h => absurd h (Nat.lt_irrefl _), fun i hi => absurd hi (Nat.not_lt_zero _)⟩
  | n + 1 => by
    obtain ⟨h1, h2, h3⟩ := lst_spec p n
    unfold lst
    by_cases hl : lst p n < n
    · rw [if_pos hl]
      exact ⟨by omega, fun _ => h2 hl, h3⟩
    · rw [if_neg hl]
      have e : lst p n = n := by omega
      rw [e] at h3
      cases hp : p n with
      | true => exact ⟨by simp, fun _ => by simpa using hp, fun i hi => h3 i (by simpa using hi)⟩
      | false =>
        refine ⟨by simp, fun h => by simp at h, fun i hi => ?_⟩
        have hi' : i < n + 1 := by simpa using hi
        by_cases e2 : i = n
        · rw [e2]; exact hp
        · exact h3 i (by omega)
def firstOf (a : Au) (c : Nat → Nat) (q : Nat) : Nat := lst (fun p => same a c p q) q
/-- The classes, round by round: first by acceptance, then each state's least fellow. -/
def cls (a : Au) : Nat → Nat → Nat
  | 0, q => if a.A q then 1 else 0
  | r + 1, q => firstOf a (cls a r) q
theorem same_iff {a : Au} {c : Nat → Nat} {p q : Nat} : same a c p q = true ↔ c p = c q ∧ ∀ k, k < 3 → c (a.T p k) = c (a.T q k) := by simp [same]
theorem same_refl (a : Au) (c : Nat → Nat) (q : Nat) : same a c q q = true := by simp [same]
/-- The first is the least. -/
theorem firstOf_spec (a : Au) (c : Nat → Nat) (q : Nat) : firstOf a c q ≤ q ∧ same a c (firstOf a c q) q = true ∧ ∀ p, p < firstOf a c q → same a c p q = false := by
  obtain ⟨h1, h2, h3⟩ := lst_spec (fun p => same a c p q) q
  refine ⟨h1, ?_, h3⟩
  by_cases hl : lst (fun p => same a c p q) q < q
  · exact h2 hl
  · have e : firstOf a c q = q := Nat.le_antisymm h1 (Nat.le_of_not_lt hl)
    rw [e]
    exact same_refl a c q
theorem cls_iff (a : Au) : ∀ r p q, cls a r p = cls a r q ↔ Er a r p q
  | 0, p, q => by
    rw [Er.zero]
    simp only [cls]
    cases a.A p <;> cases a.A q <;> simp
  | r + 1, p, q => by
    have hs : ∀ x y, same a (cls a r) x y = true ↔ Er a (r + 1) x y := fun x y => by
      rw [same_iff, Er.succ, cls_iff a r]
      exact ⟨fun ⟨h1, h2⟩ => ⟨h1, fun k hk => (cls_iff a r _ _).1 (h2 k hk)⟩, fun ⟨h1, h2⟩ => ⟨h1, fun k hk => (cls_iff a r _ _).2 (h2 k hk)⟩⟩
    obtain ⟨a1, a2, a3⟩ := firstOf_spec a (cls a r) p
    obtain ⟨b1, b2, b3⟩ := firstOf_spec a (cls a r) q
    rw [hs] at a2 b2
    show firstOf a (cls a r) p = firstOf a (cls a r) q ↔ _
    constructor
    · intro h
      rw [h] at a2
      exact a2.symm.trans b2
    · intro h
      rcases Nat.lt_trichotomy (firstOf a (cls a r) p) (firstOf a (cls a r) q) with hl | he | hl
      · have h1 := b3 _ hl
        rw [(hs _ _).2 (a2.trans h)] at h1
        cases h1
      · exact he
      · have h1 := a3 _ hl
        rw [(hs _ _).2 (b2.trans h.symm)] at h1
        cases h1
theorem cls_le (a : Au) (r q : Nat) : cls a (r + 1) q ≤ q := (firstOf_spec a (cls a r) q).1
/-- A class's first state is its own first. -/
theorem cls_rep (a : Au) (r q : Nat) : Er a (r + 1) (cls a (r + 1) q) q := by
  have h := (firstOf_spec a (cls a r) q).2.1
  rw [same_iff] at h
  rw [Er.succ]
  exact ⟨(cls_iff a r _ _).1 h.1, fun k hk => (cls_iff a r _ _).1 (h.2 k hk)⟩
theorem cls_idem (a : Au) (r q : Nat) : cls a (r + 1) (cls a (r + 1) q) = cls a (r + 1) q := (cls_iff a (r + 1) _ _).2 (cls_rep a r q)

theorem countP_lt {α : Type} {p q : α → Bool} : ∀ {l : List α}, (∀ x ∈ l, p x = true → q x = true) → (∃ x ∈ l, q x = true ∧ p x = false) → l.countP p < l.countP q
  | [], _, ⟨_, h, _⟩ => by cases h
  | x :: l, h, ⟨y, hy, h1, h2⟩ => by
    have hmono : l.countP p ≤ l.countP q := List.countP_mono_left fun z hz => h z (List.mem_cons_of_mem _ hz)
    rcases List.mem_cons.1 hy with e | hy'
    · rw [← e, List.countP_cons_of_pos h1, List.countP_cons_of_neg (by rw [h2]; decide)]
      omega
    · have ih := countP_lt (fun z hz => h z (List.mem_cons_of_mem _ hz)) ⟨y, hy', h1, h2⟩
      have hx := h x (List.mem_cons_self ..)
      cases hp : p x with
      | true =>
        rw [List.countP_cons_of_pos hp, List.countP_cons_of_pos (hx hp)]
        omega
      | false =>
        rw [List.countP_cons_of_neg (by rw [hp]; decide)]
        cases hq : q x with
        | true => rw [List.countP_cons_of_pos hq]; omega
        | false => rw [List.countP_cons_of_neg (by rw [hq]; decide)]; exact ih
/-- Nothing more is told apart in round r. -/
def Still (a : Au) (r : Nat) : Prop := ∀ p q, p < a.n → q < a.n → Er a r p q → Er a (r + 1) p q
theorem Still.succ {a : Au} (hw : a.wf) {r : Nat} (h : Still a r) : Still a (r + 1) := fun p q hp hq he => by
  rw [Er.succ] at he ⊢
  exact ⟨h p q hp hq he.1, fun k hk => h _ _ (hw.2 p k hp hk) (hw.2 q k hq hk) (he.2 k hk)⟩
theorem Still.all {a : Au} (hw : a.wf) {r : Nat} (h : Still a r) {p q : Nat} (hp : p < a.n) (hq : q < a.n) (he : Er a r p q) : Eqv a p a q := by
  have : ∀ s, Still a (r + s) := fun s => by
    induction s with
    | zero => exact h
    | succ s ih => exact ih.succ hw
  have hall : ∀ s, Er a (r + s) p q := fun s => by
    induction s with
    | zero => exact he
    | succ s ih => exact this s p q hp hq ih
  intro w hw'
  exact hall w.length w hw' (by omega)
/-- How many classes there are. -/
def reps (a : Au) (r : Nat) : Nat := (List.range a.n).countP fun q => decide (cls a (r + 1) q = q)
theorem reps_grow {a : Au} {r : Nat} (h : ¬ Still a (r + 1)) : reps a r < reps a (r + 1) := by
  have hmono : ∀ q, cls a (r + 1) q = q → cls a (r + 1 + 1) q = q := fun q hq => by
    have h1 := cls_le a (r + 1) q
    rcases Nat.lt_or_eq_of_le h1 with hl | he
    · have h2 := (cls_rep a (r + 1) q).less
      have h3 := (cls_iff a (r + 1) _ _).2 h2
      have h4 := cls_le a r (cls a (r + 1 + 1) q)
      rw [h3, hq] at h4
      omega
    · exact he
  apply countP_lt
  · intro q _ hq
    simp only [decide_eq_true_eq] at hq ⊢
    exact hmono q hq
  · apply Classical.byContradiction
    intro hn
    apply h
    intro p q hp hq he
    have hall : ∀ x, x < a.n → cls a (r + 1 + 1) x = x → cls a (r + 1) x = x := fun x hx hc => by
      apply Classical.byContradiction
      intro hne
      exact hn ⟨x, List.mem_range.2 hx, by simpa using hc, by simpa using hne⟩
    have key : ∀ x, x < a.n → cls a (r + 1 + 1) x = cls a (r + 1) x := fun x hx => by
      have h1 := cls_idem a (r + 1) x
      have h2 := hall _ (Nat.lt_of_le_of_lt (cls_le a (r + 1) x) hx) h1
      rw [← h2]
      exact (cls_iff a (r + 1) _ _).2 (cls_rep a (r + 1) x).less
    rw [← cls_iff, key p hp, key q hq, cls_iff]
    exact he
theorem reps_le (a : Au) (r : Nat) : reps a r ≤ a.n := by
  have := List.countP_le_length (p := fun q => decide (cls a (r + 1) q = q)) (l := List.range a.n)
  rwa [List.length_range] at this
theorem still_some {a : Au} : ∃ r, r ≤ a.n ∧ Still a (r + 1) := by
  apply Classical.byContradiction
  intro hn
  have : ∀ r, r ≤ a.n + 1 → r ≤ reps a r := fun r => by
    induction r with
    | zero => intro _; exact Nat.zero_le _
    | succ r ih =>
      intro hr
      have h1 := ih (by omega)
      have h2 := reps_grow (a := a) (r := r) (fun h => hn ⟨r, by omega, h⟩)
      omega
  have h1 := this (a.n + 1) (Nat.le_refl _)
  have h2 := reps_le a (a.n + 1)
  omega
/-- As many rounds as there are states, and one more, tell apart all that can be told apart. -/
theorem cls_all {a : Au} (hw : a.wf) {p q : Nat} (hp : p < a.n) (hq : q < a.n) : cls a (a.n + 1) p = cls a (a.n + 1) q ↔ Eqv a p a q := by
  rw [cls_iff]
  constructor
  · intro h
    obtain ⟨r, hr, hs⟩ := still_some (a := a)
    exact hs.all hw hp hq (h.le (by omega))
  · intro h w hw' _
    exact h w hw'
end Go.Proofs.Ytppliiingoonlaa
namespace Go.Proofs.Ytppliiingoonlaa
theorem prefix_getD {α : Type} [Inhabited α] {l l' : List α} (h : l <+: l') {i : Nat} (hi : i < l.length) : l'.getD i default = l.getD i default := by
  obtain ⟨r, rfl⟩ := h
  simp only [List.getD_eq_getElem?_getD, List.getElem?_append_left hi]
theorem getD_mem {α : Type} [Inhabited α] {l : List α} {i : Nat} (hi : i < l.length) : l.getD i default ∈ l := by
  rw [List.getD_eq_getElem?_getD, List.getElem?_eq_getElem hi]
  exact List.getElem_mem hi
theorem idx_prefix {α : Type} [DecidableEq α] {l l' : List α} (h : l <+: l') {x : α} (hx : x ∈ l) : l'.idxOf x = l.idxOf x := by
  obtain ⟨r, rfl⟩ := h
  rw [List.idxOf_append, if_pos hx]

section
variable {α : Type} [DecidableEq α] [Inhabited α]
/-- What has been met after t steps. -/
def ords (s0 : α) (g : α → Nat → α) : Nat → List α
  | 0 => [s0]
  | t + 1 => if g ((ords s0 g t).getD (t / 3) default) (t % 3) ∈ ords s0 g t then ords s0 g t else ords s0 g t ++ [g ((ords s0 g t).getD (t / 3) default) (t % 3)]
variable {s0 : α} {g : α → Nat → α}
theorem ords_step_prefix (t : Nat) : ords s0 g t <+: ords s0 g (t + 1) := by
  rw [ords]
  split
  · exact List.prefix_refl _
  · exact List.prefix_append _ _
theorem ords_prefix {s t : Nat} (h : s ≤ t) : ords s0 g s <+: ords s0 g t := by
  induction t with
  | zero => rw [Nat.le_zero.1 h]; exact List.prefix_refl _
  | succ t ih =>
    by_cases e : s = t + 1
    · rw [e]; exact List.prefix_refl _
    · exact (ih (by omega)).trans (ords_step_prefix t)
theorem ords_nodup : ∀ t, (ords s0 g t).Nodup
  | 0 => by simp [ords]
  | t + 1 => by
    rw [ords]
    split
    · exact ords_nodup t
    · rename_i h
      rw [List.nodup_append]
      exact ⟨ords_nodup t, by simp, fun a ha b hb => by
        rw [List.mem_singleton] at hb
        rw [hb]
        intro e
        rw [e] at ha
        exact h ha⟩
theorem ords_pos (t : Nat) : 0 < (ords s0 g t).length := by
  have := (ords_prefix (s0 := s0) (g := g) (Nat.zero_le t)).length_le
  simp only [ords, List.length_singleton] at this
  omega
theorem ords_at {s t i : Nat} (h : s ≤ t) (hi : i < (ords s0 g s).length) : (ords s0 g t).getD i default = (ords s0 g s).getD i default := prefix_getD (ords_prefix h) hi
theorem ords_mem (t : Nat) : g ((ords s0 g t).getD (t / 3) default) (t % 3) ∈ ords s0 g (t + 1) := by
  rw [ords]
  split
  · rename_i h; exact h
  · simp
theorem ords_first (t : Nat) : (ords s0 g t).getD 0 default = s0 := by
  rw [ords_at (Nat.zero_le t) (by simp [ords])]
  simp [ords]
theorem getD_idx {l : List α} {x : α} (hx : x ∈ l) : l.getD (l.idxOf x) default = x := by
  have h := List.idxOf_lt_length_of_mem hx
  rw [List.getD_eq_getElem?_getD, List.getElem?_eq_getElem h]
  simp
theorem idx_getD {l : List α} (hn : l.Nodup) {i : Nat} (hi : i < l.length) : l.idxOf (l.getD i default) = i := by
  rw [List.getD_eq_getElem?_getD, List.getElem?_eq_getElem hi]
  exact hn.idxOf_getElem i hi

/-- The search ends with N: whatever has been met has been gone on from. -/
structure Ends (s0 : α) (g : α → Nat → α) (N : Nat) : Prop where
  on : ∀ i, i < N → i < (ords s0 g (3 * i)).length
  stop : (ords s0 g (3 * N)).length ≤ N
variable {N : Nat}
theorem Ends.pos (h : Ends s0 g N) : 0 < N := Nat.lt_of_lt_of_le (ords_pos (3 * N)) h.stop
theorem Ends.length (h : Ends s0 g N) : (ords s0 g (3 * N)).length = N := by
  have hp := h.pos
  have h1 := h.on (N - 1) (by omega)
  have h2 := (ords_prefix (s0 := s0) (g := g) (show 3 * (N - 1) ≤ 3 * N by omega)).length_le
  have := h.stop
  omega
/-- The automaton that is numbered. -/
def found (s0 : α) (g : α → Nat → α) (acc : α → Bool) (N : Nat) : Au :=
  ⟨N, fun i => acc ((ords s0 g (3 * N)).getD i default), fun i k => (ords s0 g (3 * N)).idxOf (g ((ords s0 g (3 * N)).getD i default) k)⟩
theorem Ends.key (h : Ends s0 g N) {i k : Nat} (hi : i < N) (hk : k < 3) :
    (ords s0 g (3 * i + k)).getD i default = (ords s0 g (3 * N)).getD i default ∧ g ((ords s0 g (3 * N)).getD i default) k ∈ ords s0 g (3 * i + k + 1) := by
  have h1 := h.on i hi
  have h2 := (ords_prefix (s0 := s0) (g := g) (show 3 * i ≤ 3 * i + k by omega)).length_le
  have e : (ords s0 g (3 * N)).getD i default = (ords s0 g (3 * i + k)).getD i default := ords_at (by omega) (by omega)
  refine ⟨e.symm, ?_⟩
  have h3 := ords_mem (s0 := s0) (g := g) (3 * i + k)
  rw [show (3 * i + k) / 3 = i by omega, show (3 * i + k) % 3 = k by omega] at h3
  rw [e]
  exact h3
theorem Ends.closed (h : Ends s0 g N) {i k : Nat} (hi : i < N) (hk : k < 3) : g ((ords s0 g (3 * N)).getD i default) k ∈ ords s0 g (3 * N) :=
  (ords_prefix (show 3 * i + k + 1 ≤ 3 * N by omega)).subset (h.key hi hk).2
/-- The number of the state met is at most how many there were; where it is new, just that. -/
theorem Ends.number (h : Ends s0 g N) (acc : α → Bool) : ∀ t, t ≤ 3 * N → (found s0 g acc N).cnt t = (ords s0 g t).length ∧ (t < 3 * N → (found s0 g acc N).T (t / 3) (t % 3) ≤ (ords s0 g t).length)
  | 0, _ => ⟨rfl, fun ht => by
      obtain ⟨h1, h2⟩ := h.key (i := 0) (k := 0) (by omega) (by omega)
      have h3 : (found s0 g acc N).T 0 0 = (ords s0 g 1).idxOf (g ((ords s0 g (3 * N)).getD 0 default) 0) := idx_prefix (ords_prefix (by omega)) h2
      have h4 := List.idxOf_lt_length_of_mem h2
      have h5 : (ords s0 g 1).length ≤ 2 := by
        rw [ords]
        split <;> simp [ords]
      show (found s0 g acc N).T 0 0 ≤ 1
      simp only [Nat.mul_zero, Nat.zero_add] at h4
      omega⟩
  | t + 1, ht => by
    obtain ⟨ih, _⟩ := h.number acc t (by omega)
    have step : ∀ s, s < 3 * N → (found s0 g acc N).T (s / 3) (s % 3) = (ords s0 g (s + 1)).idxOf (g ((ords s0 g s).getD (s / 3) default) (s % 3)) := fun s hs => by
      obtain ⟨h1, h2⟩ := h.key (i := s / 3) (k := s % 3) (by omega) (by omega)
      rw [show 3 * (s / 3) + s % 3 = s by omega] at h1 h2
      rw [h1]
      exact idx_prefix (ords_prefix (by omega)) h2
    have len : ∀ s, (ords s0 g (s + 1)).length ≤ (ords s0 g s).length + 1 := fun s => by
      rw [ords]
      split <;> simp
    refine ⟨?_, fun ht' => ?_⟩
    · have hs := step t (by omega)
      simp only [Au.cnt]
      rw [ih, hs]
      by_cases hm : g ((ords s0 g t).getD (t / 3) default) (t % 3) ∈ ords s0 g t
      · have e : ords s0 g (t + 1) = ords s0 g t := by rw [ords, if_pos hm]
        rw [e]
        have := List.idxOf_lt_length_of_mem hm
        omega
      · have e : ords s0 g (t + 1) = ords s0 g t ++ [g ((ords s0 g t).getD (t / 3) default) (t % 3)] := by rw [ords, if_neg hm]
        rw [e, List.idxOf_append, if_neg hm]
        simp
    · rw [step (t + 1) ht']
      have h4 := List.idxOf_lt_length_of_mem (ords_mem (s0 := s0) (g := g) (t + 1))
      have := len (t + 1)
      omega
/-- All of 'Canon' but that states are told apart. -/
theorem Ends.canon (h : Ends s0 g N) (acc : α → Bool) (hs : ∀ i j, i < N → j < N → Eqv (found s0 g acc N) i (found s0 g acc N) j → i = j) : Canon (found s0 g acc N) where
  pos := h.pos
  lt := fun i k hi hk => by
    have h1 := List.idxOf_lt_length_of_mem (h.closed hi hk)
    rw [h.length] at h1
    exact h1
  sep := hs
  next := fun t ht => by
    obtain ⟨h1, h2⟩ := h.number acc t (Nat.le_of_lt ht)
    rw [h1]
    exact h2 ht
  seen := fun i hi => by
    have hi' : i < N := hi
    rw [(h.number acc (3 * i) (by omega)).1]
    exact h.on i hi'
  all := by
    show (found s0 g acc N).cnt (3 * N) = N
    rw [(h.number acc (3 * N) (Nat.le_refl _)).1, h.length]
/-- Its language, by the keys' own. -/
theorem Ends.lang (h : Ends s0 g N) {acc : α → Bool} {L : α → List Nat → Bool} (h0 : ∀ x, L x [] = acc x) (h1 : ∀ x, x ∈ ords s0 g (3 * N) → ∀ k, k < 3 → ∀ w, W3 w → L (g x k) w = L x (k :: w)) :
    ∀ w i, W3 w → i < N → (found s0 g acc N).A ((found s0 g acc N).run i w) = L ((ords s0 g (3 * N)).getD i default) w
  | [], i, _, hi => (h0 _).symm
  | k :: w, i, hw, hi => by
    obtain ⟨hk, hw'⟩ := hw.tail
    have hc := h.closed hi hk
    have hlt := List.idxOf_lt_length_of_mem hc
    rw [h.length] at hlt
    have := h.lang h0 h1 w ((found s0 g acc N).T i k) hw' hlt
    show (found s0 g acc N).A ((found s0 g acc N).run ((found s0 g acc N).T i k) w) = _
    rw [this]
    have e : (ords s0 g (3 * N)).getD ((found s0 g acc N).T i k) default = g ((ords s0 g (3 * N)).getD i default) k := getD_idx hc
    rw [e]
    exact h1 _ (getD_mem (by rw [h.length]; exact hi)) k hk w hw'
/-- A search over finitely many keys ends. -/
theorem ends_some {M : Nat} (hM : ∀ t, (ords s0 g t).length ≤ M) : ∃ N, N ≤ M ∧ Ends s0 g N := by
  have h : ∃ i, (ords s0 g (3 * i)).length ≤ i := ⟨M, hM _⟩
  obtain ⟨h1, h2, h3⟩ := lst_spec (fun i => decide ((ords s0 g (3 * i)).length ≤ i)) M
  refine ⟨_, h1, fun i hi => ?_, ?_⟩
  · have := h3 i hi
    simpa using this
  · by_cases hl : lst (fun i => decide ((ords s0 g (3 * i)).length ≤ i)) M < M
    · simpa using h2 hl
    · have e : lst (fun i => decide ((ords s0 g (3 * i)).length ≤ i)) M = M := by omega
      rw [e]
      exact hM _
end
theorem nodup_len : ∀ (M : Nat) (l : List Nat), l.Nodup → (∀ x ∈ l, x < M) → l.length ≤ M
  | 0, l, _, h => by
    cases l with
    | nil => simp
    | cons x r => exact absurd (h x (List.mem_cons_self ..)) (Nat.not_lt_zero _)
  | M + 1, l, hn, h => by
    by_cases hm : M ∈ l
    · have h1 := nodup_len M (l.erase M) (hn.erase M) (fun x hx => by
        have h2 := (hn.mem_erase_iff).1 hx
        have := h x h2.2
        have := h2.1
        omega)
      rw [List.length_erase_of_mem hm] at h1
      omega
    · have h1 := nodup_len M l hn (fun x hx => by
        have := h x hx
        have : x ≠ M := fun e => hm (e ▸ hx)
        omega)
      omega
theorem ords_lt {s0 : Nat} {g : Nat → Nat → Nat} {M : Nat} (h0 : s0 < M) (hg : ∀ x k, x < M → k < 3 → g x k < M) : ∀ t, (∀ x ∈ ords s0 g t, x < M) ∧ (ords s0 g t).length ≤ M := by
  have hM : 0 < M := by omega
  have : ∀ t, ∀ x ∈ ords s0 g t, x < M := fun t => by
    induction t with
    | zero => intro x hx; simp [ords] at hx; omega
    | succ t ih =>
      intro x hx
      rw [ords] at hx
      have hd : (ords s0 g t).getD (t / 3) default < M := by
        by_cases hl : t / 3 < (ords s0 g t).length
        · exact ih _ (getD_mem hl)
        · rw [List.getD_eq_getElem?_getD, List.getElem?_eq_none (by omega)]
          exact hM
      split at hx
      · exact ih x hx
      · rcases List.mem_append.1 hx with hx | hx
        · exact ih x hx
        · rw [List.mem_singleton] at hx
          rw [hx]
          exact hg _ _ hd (by omega)
  exact fun t => ⟨this t, nodup_len M _ (ords_nodup t) (this t)⟩

/-- The classes' search: of an automaton's states, the first of each class. -/
def clsG (a : Au) (q k : Nat) : Nat := cls a (a.n + 1) (a.T q k)
def clsS (a : Au) : Nat := cls a (a.n + 1) 0
theorem cls_lt {a : Au} {q : Nat} (hq : q < a.n) : cls a (a.n + 1) q < a.n := Nat.lt_of_le_of_lt (cls_le a a.n q) hq
theorem cls_eqv {a : Au} (hw : a.wf) {q : Nat} (hq : q < a.n) : Eqv a (cls a (a.n + 1) q) a q := (cls_all hw (cls_lt hq) hq).1 (cls_idem a a.n q)
theorem min_keys {a : Au} (hw : a.wf) : ∀ t, ∀ x ∈ ords (clsS a) (clsG a) t, x < a.n ∧ cls a (a.n + 1) x = x := by
  intro t
  induction t with
  | zero =>
    intro x hx
    simp only [ords, List.mem_singleton] at hx
    rw [hx]
    exact ⟨cls_lt hw.1, cls_idem a a.n 0⟩
  | succ t ih =>
    intro x hx
    rw [ords] at hx
    split at hx
    · exact ih x hx
    · rcases List.mem_append.1 hx with hx | hx
      · exact ih x hx
      · rw [List.mem_singleton] at hx
        rw [hx]
        have hd : (ords (clsS a) (clsG a) t).getD (t / 3) default < a.n := by
          by_cases hl : t / 3 < (ords (clsS a) (clsG a) t).length
          · exact (ih _ (getD_mem hl)).1
          · rw [List.getD_eq_getElem?_getD, List.getElem?_eq_none (by omega)]
            exact hw.1
        exact ⟨cls_lt (hw.2 _ _ hd (by omega)), cls_idem a a.n _⟩
/-- What the search over classes finds is the minimal automaton. -/
theorem min_found {a : Au} (hw : a.wf) {N : Nat} (h : Ends (clsS a) (clsG a) N) : Canon (found (clsS a) (clsG a) a.A N) ∧ Eqv (found (clsS a) (clsG a) a.A N) 0 a 0 ∧ N ≤ a.n := by
  have hk := min_keys hw (3 * N)
  have hL : ∀ w i, W3 w → i < N → (found (clsS a) (clsG a) a.A N).A ((found (clsS a) (clsG a) a.A N).run i w) = a.A (a.run ((ords (clsS a) (clsG a) (3 * N)).getD i default) w) := by
    refine h.lang (L := fun x w => a.A (a.run x w)) (fun x => rfl) (fun x hx k hk' w hw' => ?_)
    exact (cls_eqv hw (hw.2 x k (hk x hx).1 hk')) w hw'
  have hlen := h.length
  refine ⟨h.canon a.A fun i j hi hj he => ?_, fun w hw' => ?_, ?_⟩
  · have hxi := hk _ (getD_mem (i := i) (by rw [hlen]; exact hi))
    have hxj := hk _ (getD_mem (i := j) (by rw [hlen]; exact hj))
    have he' : Eqv a ((ords (clsS a) (clsG a) (3 * N)).getD i default) a ((ords (clsS a) (clsG a) (3 * N)).getD j default) := fun w hw' => by
      rw [← hL w i hw' hi, ← hL w j hw' hj]
      exact he w hw'
    have h1 := (cls_all hw hxi.1 hxj.1).2 he'
    rw [hxi.2, hxj.2] at h1
    have h2 : (ords (clsS a) (clsG a) (3 * N)).idxOf ((ords (clsS a) (clsG a) (3 * N)).getD i default) = (ords (clsS a) (clsG a) (3 * N)).idxOf ((ords (clsS a) (clsG a) (3 * N)).getD j default) := by rw [h1]
    rwa [idx_getD (ords_nodup _) (by rw [hlen]; exact hi), idx_getD (ords_nodup _) (by rw [hlen]; exact hj)] at h2
  · rw [hL w 0 hw' h.pos, ords_first]
    exact (cls_eqv hw hw.1) w hw'
  · rw [← hlen]
    exact nodup_len a.n _ (ords_nodup _) (fun x hx => (hk x hx).1)
/-- There is one. -/
theorem exists_min {a : Au} (hw : a.wf) : ∃ m, Canon m ∧ Eqv m 0 a 0 ∧ m.n ≤ a.n := by
  have hb : ∀ t, (ords (clsS a) (clsG a) t).length ≤ a.n := fun t => nodup_len a.n _ (ords_nodup _) (fun x hx => (min_keys hw t x hx).1)
  obtain ⟨N, _, hN⟩ := ends_some hb
  obtain ⟨h1, h2, h3⟩ := min_found hw hN
  exact ⟨_, h1, h2, h3⟩
end Go.Proofs.Ytppliiingoonlaa
namespace Go.Proofs.Ytppliiingoonlaa
def rowOk (n : Nat) (r : List Int) : Bool := decide (r.length = 3) && r.all fun x => decide (0 ≤ x) && decide (x ≤ (n : Int) - 1)
def validF (acc : List Bool) (nxt : List (List Int)) : Bool := decide (1 ≤ acc.length) && decide (acc.length ≤ 40) && decide (nxt.length = acc.length) && nxt.all (rowOk acc.length)
/-- An automaton's fields. -/
def accOf (m : Au) : List Bool := (List.range m.n).map m.A
def nxtOf (m : Au) : List (List Int) := (List.range m.n).map fun i => (List.range 3).map fun k => (m.T i k : Int)
theorem accOf_length (m : Au) : (accOf m).length = m.n := by simp [accOf]
theorem nxtOf_length (m : Au) : (nxtOf m).length = m.n := by simp [nxtOf]
theorem accOf_at (m : Au) {i : Nat} (h : i < m.n) : (accOf m)[i]? = some (m.A i) := by simp [accOf, h]
theorem nxtOf_at (m : Au) {i : Nat} (h : i < m.n) : (nxtOf m)[i]? = some ((List.range 3).map fun k => (m.T i k : Int)) := by simp [nxtOf, h]
theorem rowOk_of {m : Au} (h : m.wf) {i : Nat} (hi : i < m.n) : rowOk m.n ((List.range 3).map fun k => (m.T i k : Int)) = true := by
  simp only [rowOk, List.length_map, List.length_range, decide_true, Bool.true_and, List.all_eq_true, List.mem_map, List.mem_range, Bool.and_eq_true, decide_eq_true_eq]
  rintro x ⟨k, hk, rfl⟩
  have := h.2 i k hi hk
  omega
theorem validF_of {m : Au} (h : m.wf) (hn : m.n ≤ 40) : validF (accOf m) (nxtOf m) = true := by
  have h1 : (nxtOf m).all (rowOk m.n) = true := by
    simp only [List.all_eq_true, nxtOf, List.mem_map, List.mem_range]
    rintro r ⟨i, hi, rfl⟩
    exact rowOk_of h hi
  have h0 := h.1
  have h2 : decide (1 ≤ m.n) = true := by simp; omega
  have h3 : decide (m.n ≤ 40) = true := by simpa using hn
  simp only [validF, accOf_length, nxtOf_length, h1, h2, h3, decide_true, Bool.and_self]
theorem validF_big {m : Au} (hn : 40 < m.n) : validF (accOf m) (nxtOf m) = false := by
  have : decide (m.n ≤ 40) = false := by simp; omega
  simp only [validF, accOf_length, this, Bool.and_false, Bool.false_and]
def auOf (acc : List Bool) (nxt : List (List Int)) : Au := ⟨acc.length, fun i => acc.getD i false, fun i k => ((nxt.getD i []).getD k 0).toNat⟩
/-- Valid fields are an automaton's. -/
theorem of_validF {acc : List Bool} {nxt : List (List Int)} (h : validF acc nxt = true) : (auOf acc nxt).wf ∧ (auOf acc nxt).n ≤ 40 ∧ acc = accOf (auOf acc nxt) ∧ nxt = nxtOf (auOf acc nxt) := by
  simp only [validF, Bool.and_eq_true, decide_eq_true_eq, List.all_eq_true] at h
  obtain ⟨⟨⟨h1, h2⟩, h3⟩, h4⟩ := h
  have hrow : ∀ i, i < acc.length → ∃ r, nxt[i]? = some r ∧ r.length = 3 ∧ ∀ x ∈ r, 0 ≤ x ∧ x ≤ (acc.length : Int) - 1 := fun i hi => by
    have hi' : i < nxt.length := by omega
    have := h4 _ (List.getElem_mem hi')
    simp only [rowOk, Bool.and_eq_true, decide_eq_true_eq, List.all_eq_true] at this
    exact ⟨_, List.getElem?_eq_getElem hi', this.1, this.2⟩
  refine ⟨⟨h1, fun i k hi hk => ?_⟩, h2, ?_, ?_⟩
  · obtain ⟨r, hr, hl, hx⟩ := hrow i hi
    have hk' : k < r.length := by omega
    have := hx _ (List.getElem_mem hk')
    show ((nxt.getD i []).getD k 0).toNat < acc.length
    simp only [List.getD_eq_getElem?_getD, hr, Option.getD_some, List.getElem?_eq_getElem hk']
    omega
  · apply List.ext_getElem?
    intro i
    by_cases hi : i < acc.length
    · rw [accOf_at _ (show i < acc.length from hi)]
      simp [auOf, List.getD_eq_getElem?_getD, List.getElem?_eq_getElem hi]
    · rw [List.getElem?_eq_none (by omega), List.getElem?_eq_none (by rw [accOf_length]; show acc.length ≤ i; omega)]
  · apply List.ext_getElem?
    intro i
    by_cases hi : i < acc.length
    · obtain ⟨r, hr, hl, hx⟩ := hrow i hi
      rw [nxtOf_at _ (show i < acc.length from hi), hr]
      congr 1
      apply List.ext_getElem?
      intro k
      by_cases hk : k < 3
      · have hk' : k < r.length := by omega
        have := hx _ (List.getElem_mem hk')
        simp only [auOf, List.getD_eq_getElem?_getD, hr, Option.getD_some, List.getElem?_map, List.getElem?_range hk, Option.map_some, List.getElem?_eq_getElem hk', Option.some.injEq]
        omega
      · rw [List.getElem?_eq_none (by omega), List.getElem?_eq_none (by simp; omega)]
    · rw [List.getElem?_eq_none (by omega), List.getElem?_eq_none (by rw [nxtOf_length]; show acc.length ≤ i; omega)]
/-- Automata that agree on their states have the same fields. -/
theorem fields_eq {m m' : Au} (h : m.n = m'.n ∧ ∀ i, i < m.n → m.A i = m'.A i ∧ ∀ k, k < 3 → m.T i k = m'.T i k) : accOf m = accOf m' ∧ nxtOf m = nxtOf m' := by
  unfold accOf nxtOf
  rw [← h.1]
  exact ⟨List.map_congr_left fun i hi => (h.2 i (List.mem_range.1 hi)).1, List.map_congr_left fun i hi => List.map_congr_left fun k hk => by rw [(h.2 i (List.mem_range.1 hi)).2 k (List.mem_range.1 hk)]⟩
theorem min_fields {m m' : Au} (h : Canon m) (h' : Canon m') (he : Eqv m 0 m' 0) : accOf m = accOf m' ∧ nxtOf m = nxtOf m' := fields_eq (canon_unique h h' he)
theorem Canon.wf {m : Au} (h : Canon m) : m.wf := ⟨h.pos, h.lt⟩
end Go.Proofs.Ytppliiingoonlaa
namespace Go.Proofs.Ytppliiingoonlaa
def prd (a b : Au) (f : Bool → Bool → Bool) : Au := ⟨a.n * b.n, fun x => f (a.A (x / b.n)) (b.A (x % b.n)), fun x k => a.T (x / b.n) k * b.n + b.T (x % b.n) k⟩
theorem pair_div {n p q : Nat} (hq : q < n) : (p * n + q) / n = p := by
  rw [Nat.mul_comm, Nat.mul_add_div (by omega), Nat.div_eq_of_lt hq, Nat.add_zero]
theorem pair_mod {n p q : Nat} (hq : q < n) : (p * n + q) % n = q := by
  rw [Nat.mul_comm, Nat.mul_add_mod, Nat.mod_eq_of_lt hq]
theorem pair_lt {m n p q : Nat} (hp : p < m) (hq : q < n) : p * n + q < m * n := by
  have h : (p + 1) * n ≤ m * n := Nat.mul_le_mul_right n hp
  rw [Nat.add_mul, Nat.one_mul] at h
  omega
theorem div_lt {m n x : Nat} (h : x < m * n) : x / n < m := Nat.div_lt_of_lt_mul (by rwa [Nat.mul_comm] at h)
theorem prd_wf {a b : Au} (f : Bool → Bool → Bool) (ha : a.wf) (hb : b.wf) : (prd a b f).wf :=
  ⟨Nat.mul_pos ha.1 hb.1, fun _ k hx hk => pair_lt (ha.2 _ k (div_lt hx) hk) (hb.2 _ k (Nat.mod_lt _ hb.1) hk)⟩
theorem prd_run {a b : Au} {f : Bool → Bool → Bool} (hb : b.wf) : ∀ (w : List Nat) (p q : Nat), W3 w → q < b.n → (prd a b f).run (p * b.n + q) w = a.run p w * b.n + b.run q w ∧ b.run q w < b.n
  | [], _, _, _, hq => ⟨rfl, hq⟩
  | k :: w, p, q, hw, hq => by
    obtain ⟨hk, hw'⟩ := hw.tail
    have ht := hb.2 q k hq hk
    obtain ⟨h1, h2⟩ := prd_run (a := a) (f := f) hb w (a.T p k) (b.T q k) hw' ht
    have e : (prd a b f).T (p * b.n + q) k = a.T p k * b.n + b.T q k := by
      show a.T ((p * b.n + q) / b.n) k * b.n + b.T ((p * b.n + q) % b.n) k = _
      rw [pair_div hq, pair_mod hq]
    refine ⟨?_, h2⟩
    show (prd a b f).run ((prd a b f).T (p * b.n + q) k) w = _
    rw [e, h1]
    rfl
/-- It accepts what the two, taken together, accept. -/
theorem prd_lang {a b : Au} {f : Bool → Bool → Bool} (hb : b.wf) (w : List Nat) (hw : W3 w) : (prd a b f).A ((prd a b f).run 0 w) = f (a.A (a.run 0 w)) (b.A (b.run 0 w)) := by
  obtain ⟨h1, h2⟩ := prd_run (a := a) (f := f) hb w 0 0 hw hb.1
  rw [Nat.zero_mul, Nat.zero_add] at h1
  rw [h1]
  show f (a.A ((a.run 0 w * b.n + b.run 0 w) / b.n)) (b.A ((a.run 0 w * b.n + b.run 0 w) % b.n)) = _
  rw [pair_div h2, pair_mod h2]
theorem Ends.wf {α : Type} [DecidableEq α] [Inhabited α] {s0 : α} {g : α → Nat → α} {N : Nat} (h : Ends s0 g N) (acc : α → Bool) : (found s0 g acc N).wf := ⟨h.pos, fun i k hi hk => by
  have h1 := List.idxOf_lt_length_of_mem (h.closed hi hk)
  rw [h.length] at h1
  exact h1⟩
/-- The search over an automaton's own states: it finds the reached ones. -/
theorem own_keys {a : Au} (hw : a.wf) (t : Nat) : (∀ x ∈ ords 0 a.T t, x < a.n) ∧ (ords 0 a.T t).length ≤ a.n := ords_lt hw.1 hw.2 t
theorem own_found {a : Au} (hw : a.wf) {N : Nat} (h : Ends 0 a.T N) : (found 0 a.T a.A N).wf ∧ Eqv (found 0 a.T a.A N) 0 a 0 ∧ N ≤ a.n := by
  refine ⟨h.wf a.A, fun w hw' => ?_, ?_⟩
  · have h1 := h.lang (acc := a.A) (L := fun x w => a.A (a.run x w)) (fun _ => rfl) (fun _ _ _ _ _ _ => rfl) w 0 hw' h.pos
    rw [h1, ords_first]
  · have h1 := h.length
    have h2 := (own_keys hw (3 * N)).2
    omega
end Go.Proofs.Ytppliiingoonlaa
namespace Go.Proofs.Ytppliiingoonlaa
/-- Numbered as a search in breadth meets its states. -/
structure Num (m : Au) : Prop where
  pos : 0 < m.n
  lt : ∀ i k, i < m.n → k < 3 → m.T i k < m.n
  next : ∀ t, t < 3 * m.n → m.T (t / 3) (t % 3) ≤ m.cnt t
  seen : ∀ i, i < m.n → i < m.cnt (3 * i)
  all : m.cnt (3 * m.n) = m.n
theorem Num.wf {m : Au} (h : Num m) : m.wf := ⟨h.pos, h.lt⟩
theorem Ends.num {α : Type} [DecidableEq α] [Inhabited α] {s0 : α} {g : α → Nat → α} {N : Nat} (h : Ends s0 g N) (acc : α → Bool) : Num (found s0 g acc N) where
  pos := h.pos
  lt := fun i k hi hk => by
    have h1 := List.idxOf_lt_length_of_mem (h.closed hi hk)
    rw [h.length] at h1
    exact h1
  next := fun t ht => by
    obtain ⟨h1, h2⟩ := h.number acc t (Nat.le_of_lt ht)
    rw [h1]
    exact h2 ht
  seen := fun i hi => by
    have hi' : i < N := hi
    rw [(h.number acc (3 * i) (by omega)).1]
    exact h.on i hi'
  all := by
    show (found s0 g acc N).cnt (3 * N) = N
    rw [(h.number acc (3 * N) (Nat.le_refl _)).1, h.length]
/-- What has been met was met at a step. -/
theorem Num.hit {m : Au} (h : Num m) : ∀ t q, t ≤ 3 * m.n → 0 < q → q < m.cnt t → ∃ t', t' < t ∧ m.T (t' / 3) (t' % 3) = q
  | 0, q, _, h0, hq => by simp only [Au.cnt] at hq; omega
  | t + 1, q, ht, h0, hq => by
    by_cases hl : q < m.cnt t
    · obtain ⟨t', h1, h2⟩ := h.hit t q (by omega) h0 hl
      exact ⟨t', by omega, h2⟩
    · have := h.next t (by omega)
      simp only [Au.cnt] at hq
      exact ⟨t, by omega, by omega⟩
/-- Each state is reached. -/
theorem Num.reach {m : Au} (h : Num m) : ∀ q, q < m.n → ∃ w, W3 w ∧ m.run 0 w = q := by
  intro q
  induction q using Nat.strongRecOn with
  | ind q ih =>
    intro hq
    by_cases h0 : q = 0
    · exact ⟨[], W3.nil, h0.symm⟩
    · obtain ⟨t, ht, he⟩ := h.hit (3 * q) q (by omega) (by omega) (h.seen q hq)
      obtain ⟨u, hu, hr⟩ := ih (t / 3) (by omega) (by omega)
      refine ⟨u ++ [t % 3], fun k hk => ?_, ?_⟩
      · rcases List.mem_append.1 hk with hk | hk
        · exact hu k hk
        · rw [List.mem_singleton] at hk
          omega
      · rw [Au.run_append, hr]
        exact he

/-- The heads of the classes below q, after round r + 1. -/
def hds (a : Au) (r q : Nat) : List Nat := (List.range q).filter fun p => decide (cls a (r + 1) p = p)
theorem hds_zero (a : Au) (r : Nat) : hds a r 0 = [] := rfl
theorem hds_yes {a : Au} {r q : Nat} (h : cls a (r + 1) q = q) : hds a r (q + 1) = hds a r q ++ [q] := by simp [hds, List.range_succ, h]
theorem hds_no {a : Au} {r q : Nat} (h : cls a (r + 1) q ≠ q) : hds a r (q + 1) = hds a r q := by simp [hds, List.range_succ, h]
theorem hds_mem {a : Au} {r q p : Nat} : p ∈ hds a r q ↔ p < q ∧ cls a (r + 1) p = p := by simp [hds]
theorem hds_pre {a : Au} {r p q : Nat} (h : p ≤ q) : hds a r p <+: hds a r q := by
  induction q with
  | zero => rw [Nat.le_zero.1 h]; exact List.prefix_refl _
  | succ q ih =>
    by_cases e : p = q + 1
    · rw [e]; exact List.prefix_refl _
    · refine (ih (by omega)).trans ?_
      by_cases hc : cls a (r + 1) q = q
      · rw [hds_yes hc]; exact List.prefix_append _ _
      · rw [hds_no hc]; exact List.prefix_refl _
theorem hds_nodup (a : Au) (r q : Nat) : (hds a r q).Nodup := List.nodup_range.filter _
theorem hds_len_le (a : Au) (r q : Nat) : (hds a r q).length ≤ q := by
  have := List.length_filter_le (fun p => decide (cls a (r + 1) p = p)) (List.range q)
  rwa [List.length_range] at this
/-- A head's place. -/
theorem hds_idx {a : Au} {r q n : Nat} (hq : q < n) (h : cls a (r + 1) q = q) : (hds a r n).idxOf q = (hds a r q).length ∧ (hds a r q).length < (hds a r n).length ∧ (hds a r n).getD (hds a r q).length default = q := by
  have hp : hds a r q ++ [q] <+: hds a r n := by rw [← hds_yes h]; exact hds_pre hq
  have hn : q ∉ hds a r q := fun hm => Nat.lt_irrefl _ (hds_mem.1 hm).1
  have hl := hp.length_le
  simp only [List.length_append, List.length_singleton] at hl
  refine ⟨?_, by omega, ?_⟩
  · rw [idx_prefix hp (by simp), List.idxOf_append, if_neg hn]
    simp
  · rw [prefix_getD hp (by simp)]
    simp [List.getD_eq_getElem?_getD]
theorem hds_at {a : Au} {r n i : Nat} (hi : i < (hds a r n).length) : (hds a r n).getD i default < n ∧ cls a (r + 1) ((hds a r n).getD i default) = (hds a r n).getD i default ∧ (hds a r ((hds a r n).getD i default)).length = i := by
  have hm := hds_mem.1 (getD_mem hi)
  refine ⟨hm.1, hm.2, ?_⟩
  have h1 := (hds_idx hm.1 hm.2).1
  rw [idx_getD (hds_nodup a r n) hi] at h1
  exact h1.symm
theorem hds_mono {a : Au} {r p q : Nat} (h : p ≤ q) : (hds a r p).length ≤ (hds a r q).length := (hds_pre h).length_le

/-- The classes' numbers. -/
def col (a : Au) : Nat → Nat → Nat
  | 0, q => if a.A q then 1 else 0
  | r + 1, q => (hds a r (cls a (r + 1) q)).length
theorem col_iff (a : Au) : ∀ r p q, col a r p = col a r q ↔ Er a r p q
  | 0, p, q => by
    rw [Er.zero]
    simp only [col]
    cases a.A p <;> cases a.A q <;> simp
  | r + 1, p, q => by
    rw [← cls_iff]
    constructor
    · intro h
      have hp := hds_idx (n := max p q + 1) (Nat.lt_of_le_of_lt (cls_le a r p) (by omega)) (cls_idem a r p)
      have hq := hds_idx (n := max p q + 1) (Nat.lt_of_le_of_lt (cls_le a r q) (by omega)) (cls_idem a r q)
      simp only [col] at h
      rw [← hp.2.2, ← hq.2.2, h]
    · intro h
      simp only [col, h]
theorem col_lt {a : Au} {r q n : Nat} (hq : q < n) : col a (r + 1) q < (hds a r n).length := (hds_idx (Nat.lt_of_le_of_lt (cls_le a r q) hq) (cls_idem a r q)).2.1
theorem col_head {a : Au} {r q n : Nat} (hq : q < n) : (hds a r n).getD (col a (r + 1) q) default = cls a (r + 1) q := (hds_idx (Nat.lt_of_le_of_lt (cls_le a r q) hq) (cls_idem a r q)).2.2
theorem same_col {a : Au} {r p q : Nat} : same a (col a r) p q = true ↔ cls a (r + 1) p = cls a (r + 1) q := by
  rw [same_iff, cls_iff, Er.succ, col_iff]
  exact ⟨fun ⟨h1, h2⟩ => ⟨h1, fun k hk => (col_iff a r _ _).1 (h2 k hk)⟩, fun ⟨h1, h2⟩ => ⟨h1, fun k hk => (col_iff a r _ _).2 (h2 k hk)⟩⟩
/-- The first of a list for which p holds. -/
def FirstAt (p : Nat → Bool) (l : List Nat) (x : Int) : Prop :=
  (x = -1 ∧ ∀ j, j < l.length → p (l.getD j default) = false) ∨ ∃ j : Nat, x = j ∧ j < l.length ∧ p (l.getD j default) = true
/-- One state: a head, or its head is found. -/
theorem first_head {a : Au} {r q : Nat} {x : Int} (h : FirstAt (fun p => same a (col a r) p q) (hds a r q) x) :
    (x = -1 ∧ cls a (r + 1) q = q ∧ col a (r + 1) q = (hds a r q).length) ∨ (0 ≤ x ∧ cls a (r + 1) q ≠ q ∧ x = (col a (r + 1) q : Int)) := by
  rcases h with ⟨rfl, hall⟩ | ⟨j, rfl, hj, hp⟩
  · have hc : cls a (r + 1) q = q := by
      apply Classical.byContradiction
      intro hne
      have hlt : cls a (r + 1) q < q := by have := cls_le a r q; omega
      obtain ⟨h1, h2, h3⟩ := hds_idx (a := a) (r := r) hlt (cls_idem a r q)
      have h4 : same a (col a r) (cls a (r + 1) q) q = false := by
        have := hall _ h2
        rw [h3] at this
        exact this
      have h5 : same a (col a r) (cls a (r + 1) q) q = true := same_col.2 (cls_idem a r q)
      rw [h5] at h4
      cases h4
    exact .inl ⟨rfl, hc, by simp only [col, hc]⟩
  · obtain ⟨h1, h2, h3⟩ := hds_at hj
    have h4 := same_col.1 hp
    rw [h2] at h4
    refine .inr ⟨by omega, fun e => by omega, ?_⟩
    simp only [col]
    rw [← h4, h3]
theorem hds_reps (a : Au) (r : Nat) : (hds a r a.n).length = reps a r := by rw [reps, List.countP_eq_length_filter]; rfl
theorem hds_pos {a : Au} (r : Nat) {n : Nat} (h : 0 < n) : 0 < (hds a r n).length := by
  have h0 : cls a (r + 1) 0 = 0 := Nat.le_zero.1 (cls_le a r 0)
  have := (hds_idx h h0).2.1
  omega
/-- As many heads as before: nothing more is told apart. -/
theorem still_of {a : Au} {s : Nat} (h : (hds a (s + 1) a.n).length = (hds a s a.n).length) : Still a (s + 1) := by
  rw [hds_reps, hds_reps] at h
  apply Classical.byContradiction
  intro hn
  have := reps_grow hn
  omega
theorem hds_grow {a : Au} {s : Nat} (h : (hds a (s + 1) a.n).length ≠ (hds a s a.n).length) : (hds a s a.n).length < (hds a (s + 1) a.n).length := by
  have h1 : ¬ Still a (s + 1) := fun hs => by
    apply h
    have e : ∀ q ∈ List.range a.n, decide (cls a (s + 1 + 1) q = q) = decide (cls a (s + 1) q = q) := fun q hq => by
      have hqn := List.mem_range.1 hq
      have h2 := cls_le a (s + 1) q
      have h3 := (cls_rep a (s + 1) q).less
      have h4 := (cls_iff a (s + 1) _ _).2 h3
      by_cases hc : cls a (s + 1) q = q
      · have : cls a (s + 1 + 1) q = q := by
          have h5 := cls_le a s (cls a (s + 1 + 1) q)
          omega
        rw [decide_eq_true hc, decide_eq_true this]
      · have hlt := cls_le a s q
        have h5 := hs _ _ (by omega) hqn (cls_rep a s q)
        have h6 := (cls_iff a (s + 1 + 1) _ _).2 h5
        have h7 := cls_le a (s + 1) (cls a (s + 1) q)
        have : cls a (s + 1 + 1) q ≠ q := by omega
        rw [decide_eq_false hc, decide_eq_false this]
    unfold hds
    rw [List.filter_congr e]
  rw [hds_reps, hds_reps]
  exact reps_grow h1

/-- The automaton of the classes. -/
def quo (a : Au) (s : Nat) : Au := ⟨(hds a s a.n).length, fun i => a.A ((hds a s a.n).getD i default), fun i k => col a (s + 1) (a.T ((hds a s a.n).getD i default) k)⟩
section
variable {a : Au} {s : Nat}
theorem quo_lang (hw : a.wf) (hs : Still a (s + 1)) : ∀ w i, W3 w → i < (quo a s).n → (quo a s).A ((quo a s).run i w) = a.A (a.run ((hds a s a.n).getD i default) w)
  | [], _, _, _ => rfl
  | k :: w, i, hw3, hi => by
    obtain ⟨hk, hw'⟩ := hw3.tail
    have hH := hds_at hi
    have ht := hw.2 _ k hH.1 hk
    have := quo_lang hw hs w _ hw' (col_lt ht : col a (s + 1) (a.T ((hds a s a.n).getD i default) k) < (quo a s).n)
    show (quo a s).A ((quo a s).run ((quo a s).T i k) w) = _
    refine this.trans ?_
    rw [col_head ht]
    exact hs.all hw (Nat.lt_of_le_of_lt (cls_le a s _) ht) ht (cls_rep a s _) w hw'
/-- Where the search among the classes stands at step t of the search among the states. -/
def rho (a : Au) (s t : Nat) : Nat := 3 * (hds a s (t / 3)).length + if cls a (s + 1) (t / 3) = t / 3 then t % 3 else 0
theorem rho_yes {t : Nat} (h : cls a (s + 1) (t / 3) = t / 3) : rho a s t = 3 * (hds a s (t / 3)).length + t % 3 ∧ rho a s (t + 1) = rho a s t + 1 := by
  have e : rho a s t = 3 * (hds a s (t / 3)).length + t % 3 := by rw [rho, if_pos h]
  refine ⟨e, ?_⟩
  rw [e]
  by_cases h2 : t % 3 = 2
  · have e1 : (t + 1) / 3 = t / 3 + 1 := by omega
    have e2 : (t + 1) % 3 = 0 := by omega
    rw [rho, e1, e2, hds_yes h, ite_self]
    simp only [List.length_append, List.length_singleton]
    omega
  · have e1 : (t + 1) / 3 = t / 3 := by omega
    rw [rho, e1, if_pos h]
    omega
theorem rho_no {t : Nat} (h : cls a (s + 1) (t / 3) ≠ t / 3) : rho a s (t + 1) = rho a s t := by
  have e : rho a s t = 3 * (hds a s (t / 3)).length := by rw [rho, if_neg h]; rfl
  rw [e]
  by_cases h2 : t % 3 = 2
  · have e1 : (t + 1) / 3 = t / 3 + 1 := by omega
    have e2 : (t + 1) % 3 = 0 := by omega
    rw [rho, e1, e2, hds_no h, ite_self]
    omega
  · have e1 : (t + 1) / 3 = t / 3 := by omega
    rw [rho, e1, if_neg h]
    omega
theorem head_le {i j : Nat} (hi : i < (hds a s a.n).length) (hj : j < (hds a s a.n).length) : i ≤ j ↔ (hds a s a.n).getD i default ≤ (hds a s a.n).getD j default := by
  have h1 := hds_at hi
  have h2 := hds_at hj
  constructor
  · intro h
    apply Classical.byContradiction
    intro hn
    have h3 := hds_mono (a := a) (r := s) (show (hds a s a.n).getD j default + 1 ≤ (hds a s a.n).getD i default by omega)
    rw [hds_yes h2.2.1, List.length_append, List.length_singleton, h2.2.2, h1.2.2] at h3
    omega
  · intro h
    have h3 := hds_mono (a := a) (r := s) h
    rw [h2.2.2, h1.2.2] at h3
    exact h3
theorem quo_cnt (h : Num a) (hs : Still a (s + 1)) : ∀ t, t ≤ 3 * a.n → ∀ c, c < (quo a s).n → (c < (quo a s).cnt (rho a s t) ↔ (hds a s a.n).getD c default < a.cnt t)
  | 0, _, c, hc => by
    have h1 := hds_at hc
    have e : rho a s 0 = 0 := by rw [rho]; simp [hds_zero]
    rw [e]
    simp only [Au.cnt]
    constructor
    · intro h0
      have hc0 : c = 0 := by omega
      subst hc0
      have h0' : cls a (s + 1) 0 = 0 := Nat.le_zero.1 (cls_le a s 0)
      have h2 := (hds_idx h.pos h0').2.2
      rw [hds_zero] at h2
      have h3 : (hds a s a.n).getD 0 default = 0 := h2
      omega
    · intro h0
      have h2 : (hds a s a.n).getD c default = 0 := by omega
      have h3 := h1.2.2
      rw [h2, hds_zero] at h3
      simp at h3
      omega
  | t + 1, ht, c, hc => by
    have ih := quo_cnt h hs t (by omega) c hc
    have hqn : t / 3 < a.n := by omega
    have hk : t % 3 < 3 := by omega
    have hnx := h.next t (by omega)
    have hT := h.lt _ _ hqn hk
    have h1 := hds_at hc
    by_cases hh : cls a (s + 1) (t / 3) = t / 3
    · obtain ⟨e1, e2⟩ := rho_yes hh
      rw [e2]
      have hi := hds_idx hqn hh
      have e3 : rho a s t / 3 = (hds a s (t / 3)).length := by omega
      have e4 : rho a s t % 3 = t % 3 := by omega
      have e5 : (quo a s).T (rho a s t / 3) (rho a s t % 3) = col a (s + 1) (a.T (t / 3) (t % 3)) := by
        rw [e3, e4]
        show col a (s + 1) (a.T ((hds a s a.n).getD (hds a s (t / 3)).length default) (t % 3)) = _
        rw [hi.2.2]
      simp only [Au.cnt]
      rw [e5]
      have hcl := col_lt (a := a) (r := s) hT
      have hch := col_head (a := a) (r := s) hT
      have hle := cls_le a s (a.T (t / 3) (t % 3))
      have hcmp := head_le (s := s) hc hcl
      rw [hch] at hcmp
      constructor
      · intro hx
        rcases Nat.lt_or_ge c ((quo a s).cnt (rho a s t)) with h2 | h2
        · have := ih.1 h2
          omega
        · have := hcmp.1 (by omega)
          omega
      · intro hx
        rcases Nat.lt_or_ge ((hds a s a.n).getD c default) (a.cnt t) with h2 | h2
        · have := ih.2 h2
          omega
        · have e6 : a.T (t / 3) (t % 3) = (hds a s a.n).getD c default := by omega
          have e7 : col a (s + 1) (a.T (t / 3) (t % 3)) = c := by
            simp only [col]
            rw [e6, h1.2.1, h1.2.2]
          omega
    · rw [rho_no hh]
      rw [ih]
      simp only [Au.cnt]
      constructor
      · intro hx
        omega
      · intro hx
        apply Classical.byContradiction
        intro hn
        have e6 : a.T (t / 3) (t % 3) = (hds a s a.n).getD c default := by omega
        have hp := cls_le a s (t / 3)
        have hcong : Er a (s + 1) (a.T (cls a (s + 1) (t / 3)) (t % 3)) (a.T (t / 3) (t % 3)) := (Er.succ.1 (hs _ _ (by omega) hqn (cls_rep a s (t / 3)))).2 _ hk
        have hcls := (cls_iff a (s + 1) _ _).2 hcong
        rw [e6, h1.2.1] at hcls
        have h2 := cls_le a s (a.T (cls a (s + 1) (t / 3)) (t % 3))
        have h3 := a.cnt_mono (show 3 * cls a (s + 1) (t / 3) + t % 3 + 1 ≤ t by omega)
        simp only [Au.cnt] at h3
        rw [show (3 * cls a (s + 1) (t / 3) + t % 3) / 3 = cls a (s + 1) (t / 3) by omega, show (3 * cls a (s + 1) (t / 3) + t % 3) % 3 = t % 3 by omega] at h3
        omega
/-- It is the minimal one. -/
theorem quo_canon (h : Num a) (hs : Still a (s + 1)) : Canon (quo a s) ∧ Eqv (quo a s) 0 a 0 := by
  have hpos : 0 < (quo a s).n := hds_pos s h.pos
  have hlt : ∀ i k, i < (quo a s).n → k < 3 → (quo a s).T i k < (quo a s).n := fun i k hi hk => col_lt (h.lt _ k (hds_at hi).1 hk)
  have step : ∀ i, i < (quo a s).n → rho a s (3 * (hds a s a.n).getD i default) = 3 * i ∧ ∀ k, k < 3 → rho a s (3 * (hds a s a.n).getD i default + k) = 3 * i + k := fun i hi => by
    have h1 := hds_at hi
    have : ∀ k, k < 3 → rho a s (3 * (hds a s a.n).getD i default + k) = 3 * i + k := fun k hk => by
      rw [rho, show (3 * (hds a s a.n).getD i default + k) / 3 = (hds a s a.n).getD i default by omega, if_pos h1.2.1, h1.2.2]
      omega
    exact ⟨this 0 (by omega), this⟩
  refine ⟨⟨hpos, hlt, fun i j hi hj he => ?_, fun t ht => ?_, fun i hi => ?_, ?_⟩, fun w hw => ?_⟩
  · have h1 := hds_at hi
    have h2 := hds_at hj
    have he' : Eqv a ((hds a s a.n).getD i default) a ((hds a s a.n).getD j default) := fun w hw => by
      rw [← quo_lang h.wf hs w i hw hi, ← quo_lang h.wf hs w j hw hj]
      exact he w hw
    have h3 : Er a (s + 1) ((hds a s a.n).getD i default) ((hds a s a.n).getD j default) := fun w hw _ => he' w hw
    have h4 := (cls_iff a (s + 1) _ _).2 h3
    rw [h1.2.1, h2.2.1] at h4
    have h5 := h1.2.2
    rw [h4, h2.2.2] at h5
    exact h5.symm
  · have hi : t / 3 < (quo a s).n := by omega
    have hH := hds_at hi
    have hk : t % 3 < 3 := by omega
    have e := (step _ hi).2 _ hk
    rw [show 3 * (t / 3) + t % 3 = t by omega] at e
    have hT := h.lt _ _ hH.1 hk
    have hnx := h.next (3 * (hds a s a.n).getD (t / 3) default + t % 3) (by omega)
    rw [show (3 * (hds a s a.n).getD (t / 3) default + t % 3) / 3 = (hds a s a.n).getD (t / 3) default by omega, show (3 * (hds a s a.n).getD (t / 3) default + t % 3) % 3 = t % 3 by omega] at hnx
    apply Classical.byContradiction
    intro hn
    have hcl := col_lt (a := a) (r := s) hT
    have hle := cls_le a s (a.T ((hds a s a.n).getD (t / 3) default) (t % 3))
    have hc : (quo a s).cnt t < (quo a s).n := by
      have : (quo a s).T (t / 3) (t % 3) < (quo a s).n := hlt _ _ hi hk
      omega
    have h6 := quo_cnt h hs (3 * (hds a s a.n).getD (t / 3) default + t % 3) (by omega) _ hc
    rw [e] at h6
    have h7 : ¬ (hds a s a.n).getD ((quo a s).cnt t) default < a.cnt (3 * (hds a s a.n).getD (t / 3) default + t % 3) := fun hx => Nat.lt_irrefl _ (h6.2 hx)
    have h9 : (quo a s).T (t / 3) (t % 3) = col a (s + 1) (a.T ((hds a s a.n).getD (t / 3) default) (t % 3)) := rfl
    have h8 := (head_le (s := s) hcl hc).2
    rw [col_head hT] at h8
    have := h8 (by omega)
    omega
  · have hH := hds_at hi
    have h6 := quo_cnt h hs (3 * (hds a s a.n).getD i default) (by omega) i hi
    rw [(step i hi).1] at h6
    exact h6.2 (h.seen _ hH.1)
  · have e : rho a s (3 * a.n) = 3 * (quo a s).n := by
      rw [rho, show 3 * a.n / 3 = a.n by omega, show 3 * a.n % 3 = 0 by omega, ite_self]
      rfl
    have h6 : ∀ c, c < (quo a s).n → c < (quo a s).cnt (3 * (quo a s).n) := fun c hc => by
      have h7 := quo_cnt h hs (3 * a.n) (Nat.le_refl _) c hc
      rw [e] at h7
      rw [h.all] at h7
      exact h7.2 (hds_at hc).1
    have h8 : ∀ t, t ≤ 3 * (quo a s).n → (quo a s).cnt t ≤ (quo a s).n := fun t => by
      induction t with
      | zero => intro _; exact hpos
      | succ t ih =>
        intro ht
        have h1 := ih (by omega)
        have h2 := hlt (t / 3) (t % 3) (by omega) (by omega)
        simp only [Au.cnt]
        omega
    have h9 := h8 _ (Nat.le_refl _)
    rcases Nat.lt_or_eq_of_le h9 with h10 | h10
    · exact absurd (h6 _ h10) (Nat.lt_irrefl _)
    · exact h10
  · rw [quo_lang h.wf hs w 0 hw hpos]
    have h0' : cls a (s + 1) 0 = 0 := Nat.le_zero.1 (cls_le a s 0)
    have h2 := (hds_idx h.pos h0').2.2
    rw [hds_zero] at h2
    have h3 : (hds a s a.n).getD 0 default = 0 := h2
    rw [h3]
end
/-- A minimal automaton has no fewer states than there are heads. -/
theorem hds_le_min {a m : Au} (h : Num a) (hm : Canon m) (he : Eqv m 0 a 0) (r : Nat) : (hds a r a.n).length ≤ m.n := by
  have hall : ∀ q, ∃ w, q < a.n → W3 w ∧ a.run 0 w = q := fun q => by
    by_cases hq : q < a.n
    · obtain ⟨w, h1, h2⟩ := h.reach q hq
      exact ⟨w, fun _ => ⟨h1, h2⟩⟩
    · exact ⟨[], fun hh => absurd hh hq⟩
  obtain ⟨f, hf⟩ := Classical.axiomOfChoice hall
  have hq : ∀ q, q < a.n → Eqv m (m.run 0 (f q)) a q := fun q hqn w hw => by
    obtain ⟨h1, h2⟩ := hf q hqn
    have h3 := he (f q ++ w) (fun k hk => by
      rcases List.mem_append.1 hk with hk | hk
      · exact h1 k hk
      · exact hw k hk)
    rw [Au.run_append, Au.run_append, h2] at h3
    exact h3
  have hnd : ((hds a r a.n).map fun q => m.run 0 (f q)).Nodup := by
    rw [List.nodup_iff_pairwise_ne, List.pairwise_map]
    refine (hds_nodup a r a.n).imp_of_mem ?_
    intro p q hp hq' hne e
    obtain ⟨p1, p2⟩ := hds_mem.1 hp
    obtain ⟨q1, q2⟩ := hds_mem.1 hq'
    have h1 := hq p p1
    rw [e] at h1
    have h2 : Eqv a p a q := h1.symm.trans (hq q q1)
    have h3 : Er a (r + 1) p q := fun w hw _ => h2 w hw
    have h4 := (cls_iff a (r + 1) _ _).2 h3
    rw [p2, q2] at h4
    exact hne h4
  have := nodup_len m.n _ hnd (fun x hx => by
    obtain ⟨q, hq1, rfl⟩ := List.mem_map.1 hx
    exact Au.run_lt hm.wf _ _ (hf q (hds_mem.1 hq1).1).1 hm.pos)
  rwa [List.length_map] at this
end Go.Proofs.Ytppliiingoonlaa

/-
  What spec.l1In answers: whether a number lies between two others.
-/
namespace Go.Proofs.Ytppliiingoonlaa
open Go.RowKit
end Go.Proofs.Ytppliiingoonlaa

/-
  What spec.IsValidDfa answers.
-/
namespace Go.Proofs.Ytppliiingoonlaa
open Go.RowKit
def validD (d : Dx) : Bool := validF d.acc d.nxt
theorem getD_at {α : Type} {l : List α} {x : α} {j : Nat} (hj : j < l.length) : l.getD j x = l[j] := by rw [List.getD_eq_getElem?_getD, List.getElem?_eq_getElem hj]; rfl
theorem validD_no {d : Dx} {j : Nat} (hj : j < d.nxt.length) (h : rowOk d.acc.length (d.nxt.getD j []) = false) : validD d = false := by
  rw [getD_at hj] at h
  have : d.nxt.all (rowOk d.acc.length) = false := by
    rw [Bool.eq_false_iff]
    intro ht
    have := List.all_eq_true.1 ht _ (List.getElem_mem hj)
    rw [h] at this
    cases this
  simp [validD, validF, this]
theorem validD_yes {d : Dx} (h1 : 1 ≤ d.acc.length) (h2 : d.acc.length ≤ 40) (h3 : d.nxt.length = d.acc.length) (h : ∀ j, j < d.nxt.length → rowOk d.acc.length (d.nxt.getD j []) = true) : validD d = true := by
  have : d.nxt.all (rowOk d.acc.length) = true := by
    rw [List.all_eq_true]
    intro r hr
    obtain ⟨j, hj, rfl⟩ := List.getElem_of_mem hr
    have := h j hj
    rwa [getD_at hj] at this
  simp [validD, validF, this, h1, h2, h3]
theorem rowOk_no {n : Nat} {r : List Int} (h : r.length ≠ 3) : rowOk n r = false := by simp [rowOk, h]
theorem rowOk_bad {n : Nat} {r : List Int} {k : Nat} (hk : k < r.length) (h : ¬ (0 ≤ r.getD k 0 ∧ r.getD k 0 ≤ (n : Int) - 1)) : rowOk n r = false := by
  rw [getD_at hk] at h
  have : (r.all fun x => decide (0 ≤ x) && decide (x ≤ (n : Int) - 1)) = false := by
    rw [Bool.eq_false_iff]
    intro ht
    have := List.all_eq_true.1 ht _ (List.getElem_mem hk)
    simp at this
    exact h this
  simp only [rowOk, this, Bool.and_false]
theorem rowOk_yes {n : Nat} {r : List Int} (h : r.length = 3) (h' : ∀ k, k < r.length → 0 ≤ r.getD k 0 ∧ r.getD k 0 ≤ (n : Int) - 1) : rowOk n r = true := by
  simp only [rowOk, h, decide_true, Bool.true_and, List.all_eq_true, Bool.and_eq_true, decide_eq_true_eq]
  intro x hx
  obtain ⟨k, hk, rfl⟩ := List.getElem_of_mem hx
  have := h' k hk
  rwa [getD_at hk] at this

end Go.Proofs.Ytppliiingoonlaa

/-
  What spec.EqualDfa answers: whether two automata are the same, field by field.
  What slices.Equal answers over rows of ints and of bools, slices.EqualFunc over rows of rows of ints, and impl.EqualDfa.
-/
namespace Go.Proofs.Ytppliiingoonlaa
open Go.RowKit
theorem list_eq_of {α : Type} (x : α) {l l' : List α} (hl : l.length = l'.length) (h : ∀ i, i < l.length → l.getD i x = l'.getD i x) : l = l' := by
  apply List.ext_getElem hl
  intro i h1 h2
  have := h i h1
  rwa [getD_at h1, getD_at h2] at this

set_option maxRecDepth 100000 in
set_option maxHeartbeats 1600000 in
theorem specInts_any (v v' : Value) (l l' : List Int) (S S' : Nat → Prop) (w : World) (h : RowV w S v (ints l)) (h' : RowV w S' v' (ints l')) :
    Calls Try.prog 18 #[v, v'] w fun e w' => e = .returned (.bool (decide (l = l'))) ∧ Below w.heap.size w w' := by
  obtain ⟨hl, A, c, rfl⟩ := h.ints_shape
  obtain ⟨hl', A', c', rfl⟩ := h'.ints_shape
  have HE := Lib.hid (fun j (hj : j < l.length) => h.intD hj)
  have HE' := Lib.hid (fun j (hj : j < l'.length) => h'.intD hj)
  clear h h'
  by_cases hlen : l.length = l'.length
  · have HLen := Lib.hid hlen
    have HYes : Hid ((∀ i, i < l.length → l.getD i 0 = l'.getD i 0) → decide (l = l') = true) := Lib.hid (fun h => decide_eq_true (list_eq_of 0 HLen.out h))
    have HNo : Hid (∀ i, l.getD i 0 ≠ l'.getD i 0 → decide (l = l') = false) := Lib.hid (fun i h => decide_eq_false (fun e => h (by rw [e])))
    obtain ⟨b, hb⟩ : ∃ b, b = decide (l = l') := ⟨_, rfl⟩
    rw [← hb] at HYes HNo ⊢
    obtain ⟨n, hn⟩ : ∃ n, n = l.length := ⟨_, rfl⟩
    rw [← hlen] at HE' hl' ⊢
    rw [← hn] at HE HE' hl HYes ⊢
    have HR : Hid (∀ j, j < n → ∃ ad ad', A = some ad ∧ A' = some ad' ∧ w.cell? (ad.add j) = some (.int .i64 (l.getD j 0)) ∧ w.cell? (ad'.add j) = some (.int .i64 (l'.getD j 0))) := Lib.hid (fun j hj => by
      obtain ⟨ad, e, -, hc⟩ := HE.out j hj
      obtain ⟨ad', e', -, hc'⟩ := HE'.out j hj
      exact ⟨ad, ad', e, e', hc, hc'⟩)
    clear hb hn hlen HE HE'
    have hne : ((n : Int) != (n : Int)) = false := by simp
    go_enter Try.func18, Try.ntmps18
    go_wp2_with fail
    clear hne
    go_loopw [5] (fun i wr => ∃ j m : Nat, i = .int .i64 j ∧ j ≤ n ∧ wr = w.drewN m ∧ Hid (∀ i, i < j → l.getD i 0 = l'.getD i 0)) (fun i _ => n - (intOf i).toNat)
    case atStart => exact ⟨0, 0, rfl, Nat.zero_le _, rfl, Lib.hid (fun i hi => absurd hi (Nat.not_lt_zero _))⟩
    case round =>
      obtain ⟨j, m, rfl, hj, rfl, hall⟩ := hrel
      by_cases hlt : j < n
      · obtain ⟨ad, ad', rfl, rfl, hc1, hc2⟩ := HR.out j hlt
        obtain ⟨x, hx⟩ : ∃ x, x = l.getD j 0 := ⟨_, rfl⟩
        obtain ⟨x', hx'⟩ : ∃ x', x' = l'.getD j 0 := ⟨_, rfl⟩
        rw [← hx] at hc1
        rw [← hx'] at hc2
        by_cases hxx : x = x'
        · subst hxx
          have HX : Hid (l.getD j 0 = l'.getD j 0) := Lib.hid (by rw [← hx, ← hx'])
          have hne : (x != x) = false := by simp
          clear hx hx'
          go_wp2_with fail
          go_quiet (fail)
          all_goals go_wp2
          all_goals
            go_roundw
            case rel => exact ⟨j + 1, _, by go_num, by omega, rfl, Lib.hid (fun i hi => by
              by_cases e : i = j
              · rw [e]; exact HX.out
              · exact hall.out i (by omega))⟩
            case measure => simp [intOf]; omega
        · have hne : (x != x') = true := by simpa using hxx
          have HF : Hid (b = false) := Lib.hid (HNo.out j (by rw [← hx, ← hx']; exact hxx))
          clear hx hx' hxx
          go_wp2_with fail
          go_quiet (fail)
          all_goals go_wp2
          all_goals
            go_ret
            exact ⟨congrArg (fun b : Bool => Ending.returned (.bool b)) HF.out.symm, below_draws (below_draws (Below.refl _ _) _) _⟩
      · obtain rfl : j = n := by omega
        have HF : Hid (b = true) := Lib.hid (HYes.out hall.out)
        go_wp2_with fail
        go_ret
        exact ⟨congrArg (fun b : Bool => Ending.returned (.bool b)) HF.out.symm, below_draws (Below.refl _ _) m⟩
  · have HF : Hid (decide (l = l') = false) := Lib.hid (decide_eq_false (fun e => hlen (by rw [e])))
    have hne : ((l.length : Int) != (l'.length : Int)) = true := by simp; omega
    clear hlen
    go_enter Try.func18, Try.ntmps18
    go_wp2_with fail
    go_ret
    exact ⟨congrArg (fun b : Bool => Ending.returned (.bool b)) HF.out.symm, Below.refl _ _⟩
theorem bool_ne {x y : Bool} (h : ¬ x = y) : (x = true ∧ y = false) ∨ (x = false ∧ y = true) := by cases x <;> cases y <;> simp at h ⊢
end Go.Proofs.Ytppliiingoonlaa

/-
  What spec.EqualDfa answers.
-/
namespace Go.Proofs.Ytppliiingoonlaa
open Go.RowKit
def sameD (d d' : Dx) : Bool := decide (d.acc = d'.acc ∧ d.nxt = d'.nxt)
theorem sameD_refl (d : Dx) : sameD d d = true := by simp [sameD]

end Go.Proofs.Ytppliiingoonlaa

/-
  What impl.EqualDfa answers: whether two automata hold the same.
-/
namespace Go.Proofs.Ytppliiingoonlaa
open Go.RowKit
set_option maxRecDepth 100000 in
set_option maxHeartbeats 1600000 in
theorem libEqI_any (v v' : Value) (l l' : List Int) (S S' : Nat → Prop) (w : World) (h : RowV w S v (ints l)) (h' : RowV w S' v' (ints l')) :
    Calls Try.prog 22 #[v, v'] w fun e w' => e = .returned (.bool (decide (l = l'))) ∧ Below w.heap.size w w' := by
  obtain ⟨hl, A, c, rfl⟩ := h.ints_shape
  obtain ⟨hl', A', c', rfl⟩ := h'.ints_shape
  have HE := Lib.hid (fun j (hj : j < l.length) => h.intD hj)
  have HE' := Lib.hid (fun j (hj : j < l'.length) => h'.intD hj)
  clear h h'
  by_cases hlen : l.length = l'.length
  · have HLen := Lib.hid hlen
    have HYes : Hid ((∀ i, i < l.length → l.getD i 0 = l'.getD i 0) → decide (l = l') = true) := Lib.hid (fun h => decide_eq_true (list_eq_of 0 HLen.out h))
    have HNo : Hid (∀ i, l.getD i 0 ≠ l'.getD i 0 → decide (l = l') = false) := Lib.hid (fun i h => decide_eq_false (fun e => h (by rw [e])))
    obtain ⟨b, hb⟩ : ∃ b, b = decide (l = l') := ⟨_, rfl⟩
    rw [← hb] at HYes HNo ⊢
    obtain ⟨n, hn⟩ : ∃ n, n = l.length := ⟨_, rfl⟩
    rw [← hlen] at HE' hl' ⊢
    rw [← hn] at HE HE' hl HYes ⊢
    have HR : Hid (∀ j, j < n → ∃ ad ad', A = some ad ∧ A' = some ad' ∧ w.cell? (ad.add j) = some (.int .i64 (l.getD j 0)) ∧ w.cell? (ad'.add j) = some (.int .i64 (l'.getD j 0))) := Lib.hid (fun j hj => by
      obtain ⟨ad, e, -, hc⟩ := HE.out j hj
      obtain ⟨ad', e', -, hc'⟩ := HE'.out j hj
      exact ⟨ad, ad', e, e', hc, hc'⟩)
    clear hb hn hlen HE HE'
    have hne : ((n : Int) != (n : Int)) = false := by simp
    go_enter Try.func22, Try.ntmps22
    go_wp2_with fail
    clear hne
    go_loopw [13] (fun i wr => ∃ j m : Nat, i = .int .i64 j ∧ j ≤ n ∧ wr = w.drewN m ∧ Hid (∀ i, i < j → l.getD i 0 = l'.getD i 0)) (fun i _ => n - (intOf i).toNat)
    case atStart => exact ⟨0, 0, rfl, Nat.zero_le _, rfl, Lib.hid (fun i hi => absurd hi (Nat.not_lt_zero _))⟩
    case round =>
      obtain ⟨j, m, rfl, hj, rfl, hall⟩ := hrel
      by_cases hlt : j < n
      · obtain ⟨ad, ad', rfl, rfl, hc1, hc2⟩ := HR.out j hlt
        obtain ⟨x, hx⟩ : ∃ x, x = l.getD j 0 := ⟨_, rfl⟩
        obtain ⟨x', hx'⟩ : ∃ x', x' = l'.getD j 0 := ⟨_, rfl⟩
        rw [← hx] at hc1
        rw [← hx'] at hc2
        by_cases hxx : x = x'
        · subst hxx
          have HX : Hid (l.getD j 0 = l'.getD j 0) := Lib.hid (by rw [← hx, ← hx'])
          have hne : (x != x) = false := by simp
          clear hx hx'
          go_wp2_with fail
          go_quiet (fail)
          all_goals go_wp2
          all_goals
            go_roundw
            case rel => exact ⟨j + 1, _, by go_num, by omega, rfl, Lib.hid (fun i hi => by
              by_cases e : i = j
              · rw [e]; exact HX.out
              · exact hall.out i (by omega))⟩
            case measure => simp [intOf]; omega
        · have hne : (x != x') = true := by simpa using hxx
          have HF : Hid (b = false) := Lib.hid (HNo.out j (by rw [← hx, ← hx']; exact hxx))
          clear hx hx' hxx
          go_wp2_with fail
          go_quiet (fail)
          all_goals go_wp2
          all_goals
            go_ret
            exact ⟨congrArg (fun b : Bool => Ending.returned (.bool b)) HF.out.symm, below_draws (below_draws (Below.refl _ _) _) _⟩
      · obtain rfl : j = n := by omega
        have HF : Hid (b = true) := Lib.hid (HYes.out hall.out)
        go_wp2_with fail
        go_ret
        exact ⟨congrArg (fun b : Bool => Ending.returned (.bool b)) HF.out.symm, below_draws (Below.refl _ _) m⟩
  · have HF : Hid (decide (l = l') = false) := Lib.hid (decide_eq_false (fun e => hlen (by rw [e])))
    have hne : ((l.length : Int) != (l'.length : Int)) = true := by simp; omega
    clear hlen
    go_enter Try.func22, Try.ntmps22
    go_wp2_with fail
    go_ret
    exact ⟨congrArg (fun b : Bool => Ending.returned (.bool b)) HF.out.symm, Below.refl _ _⟩
end Go.Proofs.Ytppliiingoonlaa

/-
  A region that draws its order, over calls that make memory and turn nothing old: one walk. Of no function of the program.
-/
namespace Go.Proofs.Ytppliiingoonlaa
open Go.RowKit
/-- The worlds that turn nothing of W. -/
structure UpW (W : World) where
  w : World
  up : Below W.heap.size W w
instance upW_some (W : World) : Nonempty (UpW W) := ⟨⟨W, Below.refl _ _⟩⟩
/-- A region that draws, over calls that turn nothing old: one walk, in the order of the text. -/
theorem wp_region_up {P : Program} {W : World} {id : Nat} {Q : Exit → Act → World → Prop} {a : Act} {l : List Oper} (hm : P.follows .mixedOrders = true) (hB : Region.lexB .any l.toArray = true)
    (h : wpQuiet P l.toArray (fun w' => ∃ n : UpW W, w' = n.w) (fun a' => ∀ w', (∃ n : UpW W, w' = n.w) → Q .normal a' w') l a) : (Code.region id l.toArray true).wp P Q a W :=
  wp_region_quiet (C := fun w' => ∃ n : UpW W, w' = n.w) hm hB ⟨⟨_, (Below.refl W.heap.size W).drew⟩, rfl⟩ (by simpa using h)
theorem up_call {P : Program} {f : FuncId} {args : Array Value} {W : World} {n : UpW W} {v : Value} (h : Calls P f args n.w fun e w' => e = .returned v ∧ Below n.w.heap.size n.w w') : Calls P f args n.w fun e w'' => e = .returned v ∧ ∃ m : UpW W, w'' = m.w :=
  h.mono fun _ w' ⟨he, hb⟩ => ⟨he, ⟨w', n.up.trans (hb.mono n.up.size)⟩, rfl⟩
end Go.Proofs.Ytppliiingoonlaa

/-
  What impl.EqualConstraint answers: whether two constraints hold the same.
-/
namespace Go.Proofs.Ytppliiingoonlaa
open Go.RowKit
def sameC (a b : Cx) : Bool := (a.k == b.k) && ((a.l.toList == b.l.toList) && ((a.r.toList == b.r.toList) && (sameRx a.xk b.xk a.xl b.xl a.xa b.xa && (decide (a.cs = b.cs) && ((a.b == b.b))))))

set_option maxRecDepth 100000 in
set_option maxHeartbeats 6400000 in
theorem implEqC_any (a b : Cx) (xu vc xu' vc' : Value) (S S' : Nat → Prop) (w : World) (h : CnT w S xu vc a) (h' : CnT w S' xu' vc' b) (hS : ∀ g, S g → g < w.heap.size) (hS' : ∀ g, S' g → g < w.heap.size) (hap : ∀ g, S g → ¬ S' g) (hsz : a.xa.size ≤ 2097152) :
    Calls Try.prog 8 #[.agg #[.int .i64 a.k, .string a.l, .string a.r, .int .i64 a.xk, .string a.xl, xu, vc, .int .i64 a.b], .agg #[.int .i64 b.k, .string b.l, .string b.r, .int .i64 b.xk, .string b.xl, xu', vc', .int .i64 b.b]] w fun e w' => e = .returned (.bool (sameC a b)) ∧ Below w.heap.size w w' := by
  obtain ⟨A, m, B, r, rfl, rfl⟩ := h.shape
  obtain ⟨A', m', B', r', rfl, rfl⟩ := h'.shape
  obtain ⟨W1, hW1⟩ : ∃ W1, W1 = w.alloc (.cells #[.int .i64 a.k, .string a.l, .string a.r, .int .i64 a.xk, .string a.xl, .slice A a.xa.items.length m, .slice B a.cs.length r, .int .i64 a.b] 34) := ⟨_, rfl⟩
  obtain ⟨W, hW⟩ : ∃ W, W = W1.alloc (.cells #[.int .i64 b.k, .string b.l, .string b.r, .int .i64 b.xk, .string b.xl, .slice A' b.xa.items.length m', .slice B' b.cs.length r', .int .i64 b.b] 34) := ⟨_, rfl⟩
  have hb1 : Below w.heap.size w W1 := by rw [hW1]; exact (Below.refl _ _).alloc (Nat.le_refl _) _
  have hb12 : Below W1.heap.size W1 W := by rw [hW]; exact (Below.refl _ _).alloc (Nat.le_refl _) _
  have hz1 : W1.heap.size = w.heap.size + 1 := by rw [hW1]; simp
  have hb0 := hb1.trans (hb12.mono hb1.size)
  have hbxa : BoxC W w.heap.size a (.slice A a.xa.items.length m) (.slice B a.cs.length r) := BoxC.kept (by rw [hW1]; exact boxC_new w a _ _ _) hb12
  have hbxb : BoxC W (w.heap.size + 1) b (.slice A' b.xa.items.length m') (.slice B' b.cs.length r') := by rw [hW, ← hz1]; exact boxC_new W1 b _ _ _
  rw [hW1] at hW
  have HWE := Lib.hid hW
  have HB0 := Lib.hid hb0
  obtain ⟨hl, n, SX, SC, hx, hc, hXS, hCS⟩ := h
  obtain ⟨hl', n', SX', SC', hx', hc', hXS', hCS'⟩ := h'
  unfold maxI at hl hl'
  have hbk : ∀ (V : World), Below W.heap.size W V → Below w.heap.size w V := fun V hb => hb0.trans (hb.mono hb0.size)
  have UE := Lib.hid (fun (V : World) (hb : Below W.heap.size W V) => (implEqual_own n n' SX SX' a.xk b.xk a.xl b.xl (.slice A a.xa.items.length m) (.slice A' b.xa.items.length m') a.xa b.xa V
    ((hx.mono (fun g hg => (hbk _ hb).block g (hS g (hXS g hg).1)) (fun _ h => h)).more) ((hx'.mono (fun g hg => (hbk _ hb).block g (hS' g (hXS' g hg).1)) (fun _ h => h)).more)
    (fun g hg => Nat.lt_of_lt_of_le (hS g (hXS g hg).1) (hbk _ hb).size) (fun g hg => Nat.lt_of_lt_of_le (hS' g (hXS' g hg).1) (hbk _ hb).size) (fun g hg hg' => hap g (hXS g hg).1 (hXS' g hg').1) hl.2.2 hl'.2.2 hsz))
  have UL := Lib.hid (fun (V : World) (hb : Below W.heap.size W V) => (libEqI_any (.slice B a.cs.length r) (.slice B' b.cs.length r') a.cs b.cs SC SC' V (hc.kept (hbk _ hb)).row (hc'.kept (hbk _ hb)).row))
  have KA := Lib.hid (fun (V : World) (hb : Below W.heap.size W V) => (hbxa.kept hb).cells)
  have KB := Lib.hid (fun (V : World) (hb : Below W.heap.size W V) => (hbxb.kept hb).cells)
  have HR := Lib.hid (show sameC a b = sameC a b from rfl)
  obtain ⟨res, hres⟩ : ∃ res, res = sameC a b := ⟨_, rfl⟩
  rw [← hres]
  unfold sameC at hres
  clear HR hx hx' hc hc' hbxa hbxb hbk hap hXS hXS' hCS hCS' hS hS' hsz hl hl' hW1 hb1 hb12 hz1 hW
  generalize h1 : (a.k == b.k) = q1 at hres
  generalize h2 : (a.l.toList == b.l.toList) = q2 at hres
  generalize h3 : (a.r.toList == b.r.toList) = q3 at hres
  generalize h4 : sameRx a.xk b.xk a.xl b.xl a.xa b.xa = q4 at hres UE
  generalize h5 : decide (a.cs = b.cs) = q5 at hres UL
  generalize h6 : (a.b == b.b) = q6 at hres
  clear h4 h5
  have hk := KA.out W (Below.refl _ _)
  have hj := KB.out W (Below.refl _ _)
  rw [HWE.out] at hk hj
  obtain ⟨k0, k1, k2, k3, k4, k5, k6, k7⟩ := hk
  obtain ⟨j0, j1, j2, j3, j4, j5, j6, j7⟩ := hj
  cases q1 with
  | false =>
    subst hres
    go_enter Try.func8, Try.ntmps8
    go_wp2_with fail
    go_ret
    exact ⟨rfl, by rw [← HWE.out]; exact HB0.out⟩
  | true =>
    cases q2 with
    | false =>
      subst hres
      go_enter Try.func8, Try.ntmps8
      go_wp2_with fail
      go_ret
      exact ⟨rfl, by rw [← HWE.out]; exact HB0.out⟩
    | true =>
      cases q3 with
      | false =>
        subst hres
        go_enter Try.func8, Try.ntmps8
        go_wp2_with fail
        go_ret
        exact ⟨rfl, by rw [← HWE.out]; exact HB0.out⟩
      | true =>
        cases q4 with
        | false =>
          subst hres
          go_enter Try.func8, Try.ntmps8
          go_wp2_with fail
          rw [← HWE.out]
          refine (UE.out W (Below.refl _ _)).mono ?_
          rintro e w1 ⟨rfl, hb1⟩
          have HB1 := Lib.hid hb1
          clear hb1 k0 k1 k2 k3 k4 k5 k6 k7 j0 j1 j2 j3 j4 j5 j6 j7
          obtain ⟨k0, k1, k2, k3, k4, k5, k6, k7⟩ := KA.out w1 HB1.out
          obtain ⟨j0, j1, j2, j3, j4, j5, j6, j7⟩ := KB.out w1 HB1.out
          go_wp2_with fail
          go_ret
          exact ⟨rfl, HB0.out.trans (HB1.out.mono HB0.out.size)⟩
        | true =>
          cases q5 with
          | false =>
            subst hres
            go_enter Try.func8, Try.ntmps8
            go_wp2_with fail
            rw [← HWE.out]
            refine (UE.out W (Below.refl _ _)).mono ?_
            rintro e w1 ⟨rfl, hb1⟩
            have HB1 := Lib.hid hb1
            clear hb1 k0 k1 k2 k3 k4 k5 k6 k7 j0 j1 j2 j3 j4 j5 j6 j7
            obtain ⟨k0, k1, k2, k3, k4, k5, k6, k7⟩ := KA.out w1 HB1.out
            obtain ⟨j0, j1, j2, j3, j4, j5, j6, j7⟩ := KB.out w1 HB1.out
            go_wp2_with fail
            refine (UL.out w1 HB1.out).mono ?_
            rintro e w2 ⟨rfl, hb2⟩
            have HB2 := Lib.hid (HB1.out.trans (hb2.mono HB1.out.size))
            clear hb2 k0 k1 k2 k3 k4 k5 k6 k7 j0 j1 j2 j3 j4 j5 j6 j7
            obtain ⟨k0, k1, k2, k3, k4, k5, k6, k7⟩ := KA.out w2 HB2.out
            obtain ⟨j0, j1, j2, j3, j4, j5, j6, j7⟩ := KB.out w2 HB2.out
            go_wp2_with fail
            go_ret
            exact ⟨rfl, HB0.out.trans (HB2.out.mono HB0.out.size)⟩
          | true =>
            cases q6 with
            | false =>
              subst hres
              go_enter Try.func8, Try.ntmps8
              go_wp2_with fail
              rw [← HWE.out]
              refine (UE.out W (Below.refl _ _)).mono ?_
              rintro e w1 ⟨rfl, hb1⟩
              have HB1 := Lib.hid hb1
              clear hb1 k0 k1 k2 k3 k4 k5 k6 k7 j0 j1 j2 j3 j4 j5 j6 j7
              obtain ⟨k0, k1, k2, k3, k4, k5, k6, k7⟩ := KA.out w1 HB1.out
              obtain ⟨j0, j1, j2, j3, j4, j5, j6, j7⟩ := KB.out w1 HB1.out
              go_wp2_with fail
              refine (UL.out w1 HB1.out).mono ?_
              rintro e w2 ⟨rfl, hb2⟩
              have HB2 := Lib.hid (HB1.out.trans (hb2.mono HB1.out.size))
              clear hb2 k0 k1 k2 k3 k4 k5 k6 k7 j0 j1 j2 j3 j4 j5 j6 j7
              obtain ⟨k0, k1, k2, k3, k4, k5, k6, k7⟩ := KA.out w2 HB2.out
              obtain ⟨j0, j1, j2, j3, j4, j5, j6, j7⟩ := KB.out w2 HB2.out
              go_wp2_with fail
              go_ret
              exact ⟨rfl, HB0.out.trans (HB2.out.mono HB0.out.size)⟩
            | true =>
              subst hres
              go_enter Try.func8, Try.ntmps8
              go_wp2_with fail
              rw [← HWE.out]
              refine (UE.out W (Below.refl _ _)).mono ?_
              rintro e w1 ⟨rfl, hb1⟩
              have HB1 := Lib.hid hb1
              clear hb1 k0 k1 k2 k3 k4 k5 k6 k7 j0 j1 j2 j3 j4 j5 j6 j7
              obtain ⟨k0, k1, k2, k3, k4, k5, k6, k7⟩ := KA.out w1 HB1.out
              obtain ⟨j0, j1, j2, j3, j4, j5, j6, j7⟩ := KB.out w1 HB1.out
              go_wp2_with fail
              refine (UL.out w1 HB1.out).mono ?_
              rintro e w2 ⟨rfl, hb2⟩
              have HB2 := Lib.hid (HB1.out.trans (hb2.mono HB1.out.size))
              clear hb2 k0 k1 k2 k3 k4 k5 k6 k7 j0 j1 j2 j3 j4 j5 j6 j7
              obtain ⟨k0, k1, k2, k3, k4, k5, k6, k7⟩ := KA.out w2 HB2.out
              obtain ⟨j0, j1, j2, j3, j4, j5, j6, j7⟩ := KB.out w2 HB2.out
              go_wp2_with fail
              go_ret
              exact ⟨rfl, HB0.out.trans (HB2.out.mono HB0.out.size)⟩
end Go.Proofs.Ytppliiingoonlaa

/-
  laws.FnExactEqualConstraint answers true at every two, where both sides answer alike.
-/
namespace Go.Proofs.Ytppliiingoonlaa
open Go.RowKit

set_option maxRecDepth 100000 in
set_option maxHeartbeats 6400000 in
theorem cxLE_law (a b : Cx) (v vc : Value) (z zc : Value) (y : Bool) (w : World) (h : CnV w v vc a) (h' : CnV w z zc b) (HS0 : wtC a ≤ 1048576 → ∀ (V : World) (u uc : Value) (t tc : Value), Below w.heap.size w V → CnO V u uc a → CnO V t tc b → Calls Try.prog 6 #[.agg #[.int .i64 a.k, .string a.l, .string a.r, .int .i64 a.xk, .string a.xl, u, uc, .int .i64 a.b], .agg #[.int .i64 b.k, .string b.l, .string b.r, .int .i64 b.xk, .string b.xl, t, tc, .int .i64 b.b]] V fun e w' => e = .returned (.bool y) ∧ Below V.heap.size V w') (HI0 : wtC a ≤ 1048576 → ∀ (V : World) (u uc : Value) (t tc : Value) (S S' : Nat → Prop), Below w.heap.size w V → CnT V S u uc a → CnT V S' t tc b → (∀ g, S g → g < V.heap.size) → (∀ g, S' g → g < V.heap.size) → (∀ g, S g → ¬ S' g) → Calls Try.prog 8 #[.agg #[.int .i64 a.k, .string a.l, .string a.r, .int .i64 a.xk, .string a.xl, u, uc, .int .i64 a.b], .agg #[.int .i64 b.k, .string b.l, .string b.r, .int .i64 b.xk, .string b.xl, t, tc, .int .i64 b.b]] V fun e w' => e = .returned (.bool y) ∧ Below V.heap.size V w') :
    Calls Try.prog 3 #[.agg #[.int .i64 a.k, .string a.l, .string a.r, .int .i64 a.xk, .string a.xl, v, vc, .int .i64 a.b], .agg #[.int .i64 b.k, .string b.l, .string b.r, .int .i64 b.xk, .string b.xl, z, zc, .int .i64 b.b]] w fun e w' => e = .returned (.bool true) ∧ Below w.heap.size w w' := by
  obtain ⟨A, m, B, r, rfl, rfl⟩ := h.shape
  obtain ⟨A', m', B', r', rfl, rfl⟩ := h'.shape
  obtain ⟨W1, hW1⟩ : ∃ W1, W1 = w.alloc (.cells #[.int .i64 a.k, .string a.l, .string a.r, .int .i64 a.xk, .string a.xl, .slice A a.xa.items.length m, .slice B a.cs.length r, .int .i64 a.b] 27) := ⟨_, rfl⟩
  obtain ⟨W, hW⟩ : ∃ W, W = W1.alloc (.cells #[.int .i64 b.k, .string b.l, .string b.r, .int .i64 b.xk, .string b.xl, .slice A' b.xa.items.length m', .slice B' b.cs.length r', .int .i64 b.b] 27) := ⟨_, rfl⟩
  have hb1 : Below w.heap.size w W1 := by rw [hW1]; exact (Below.refl _ _).alloc (Nat.le_refl _) _
  have hb12 : Below W1.heap.size W1 W := by rw [hW]; exact (Below.refl _ _).alloc (Nat.le_refl _) _
  have hz1 : W1.heap.size = w.heap.size + 1 := by rw [hW1]; simp
  have hb0 := hb1.trans (hb12.mono hb1.size)
  have hbx : BoxC W w.heap.size a (.slice A a.xa.items.length m) (.slice B a.cs.length r) := BoxC.kept (by rw [hW1]; exact boxC_new w _ _ _ _) hb12
  have hby : BoxC W (w.heap.size + 1) b (.slice A' b.xa.items.length m') (.slice B' b.cs.length r') := by rw [hW, ← hz1]; exact boxC_new W1 _ _ _ _
  rw [hW1] at hW
  have HWE := Lib.hid hW
  have HB0 := Lib.hid hb0
  have HCX := Lib.hid (fun (V : World) (hb : Below W.heap.size W V) => (hbx.kept hb).cells)
  have HCY := Lib.hid (fun (V : World) (hb : Below W.heap.size W V) => (hby.kept hb).cells)
  have HSZ := Lib.hid (szC_any a _ _ 1048576 W (h.kept hb0) (by omega) (by omega))
  have hcW := hbx.cells
  rw [hW] at hcW
  obtain ⟨c0, c1, c2, c3, c4, c5, c6, c7⟩ := hcW

  by_cases hfit : wtC a ≤ 1048576
  · have HTA := Lib.hid (fun (V : World) (hb : Below W.heap.size W V) => toC_any a _ _ V (h.kept (hb0.trans (hb.mono hb0.size))) (by omega))
    have HS := Lib.hid (fun (V : World) (u uc : Value) (t tc : Value) (hb : Below W.heap.size W V) hc hc' => HS0 hfit V u uc t tc (hb0.trans (hb.mono hb0.size)) hc hc')
    have HI := Lib.hid (fun (V : World) (u uc : Value) (t tc : Value) (S S' : Nat → Prop) (hb : Below W.heap.size W V) hc hc' h1 h2 h3 => HI0 hfit V u uc t tc S S' (hb0.trans (hb.mono hb0.size)) hc hc' h1 h2 h3)
    obtain ⟨q, hq⟩ : ∃ q : Int, q = 1048576 - (wtC a : Int) := ⟨_, rfl⟩
    have HQ := Lib.hid ((leftOf_yes (m := wtC a) (z := 1048576) (by omega)).trans hq.symm)
    have hq0 : ¬ q < 0 := by omega
    have HZ2 := Lib.hid (fun (V : World) (hb : Below W.heap.size W V) => szC_any b _ _ q V (h'.kept (hb0.trans (hb.mono hb0.size))) (by omega) (by omega))
    have hny : (y != y) = false := bne_self_eq_false _
    by_cases hfit2 : (wtC b : Int) ≤ q
    · have HTB := Lib.hid (fun (V : World) (hb : Below W.heap.size W V) => toC_any b _ _ V (h'.kept (hb0.trans (hb.mono hb0.size))) (by omega))
      obtain ⟨q2, hq2⟩ : ∃ q2 : Int, q2 = q - (wtC b : Int) := ⟨_, rfl⟩
      have HQ2 := Lib.hid ((leftOf_yes hfit2).trans hq2.symm)
      have hq20 : ¬ q2 < 0 := by omega
      clear hW hW1 hb0 hb1 hb12 hz1 hbx hby h h' HS0 HI0 hfit hfit2 hq hq2
      go_enter Try.func3, Try.ntmps3
      go_wp2_with fail
      rw [← HWE.out]
      refine HSZ.out.mono ?_
      rintro e w1 ⟨he, hb1⟩
      rw [HQ.out] at he
      subst he
      have HB1 := Lib.hid hb1
      clear hb1 c0 c1 c2 c3 c4 c5 c6 c7
      obtain ⟨c0, c1, c2, c3, c4, c5, c6, c7⟩ := HCY.out w1 HB1.out
      go_wp2_with fail
      refine (HZ2.out w1 HB1.out).mono ?_
      rintro e w2 ⟨he, hb2⟩
      rw [HQ2.out] at he
      subst he
      have HB2 := Lib.hid (HB1.out.trans (hb2.mono HB1.out.size))
      clear hb2 c0 c1 c2 c3 c4 c5 c6 c7
      go_wp2_with fail
      have HK8 : Hid (∀ X, Below w2.heap.size w2 X → X.cell? ⟨w.heap.size, 0, none⟩ = some (.int .i64 a.k) ∧ X.cell? ⟨w.heap.size, 1, none⟩ = some (.string a.l) ∧ X.cell? ⟨w.heap.size, 2, none⟩ = some (.string a.r) ∧ X.cell? ⟨w.heap.size, 3, none⟩ = some (.int .i64 a.xk) ∧ X.cell? ⟨w.heap.size, 4, none⟩ = some (.string a.xl) ∧ X.cell? ⟨w.heap.size, 5, none⟩ = some (.slice A a.xa.items.length m) ∧ X.cell? ⟨w.heap.size, 6, none⟩ = some (.slice B a.cs.length r) ∧ X.cell? ⟨w.heap.size, 7, none⟩ = some (.int .i64 a.b) ∧ X.cell? ⟨w.heap.size + 1, 0, none⟩ = some (.int .i64 b.k) ∧ X.cell? ⟨w.heap.size + 1, 1, none⟩ = some (.string b.l) ∧ X.cell? ⟨w.heap.size + 1, 2, none⟩ = some (.string b.r) ∧ X.cell? ⟨w.heap.size + 1, 3, none⟩ = some (.int .i64 b.xk) ∧ X.cell? ⟨w.heap.size + 1, 4, none⟩ = some (.string b.xl) ∧ X.cell? ⟨w.heap.size + 1, 5, none⟩ = some (.slice A' b.xa.items.length m') ∧ X.cell? ⟨w.heap.size + 1, 6, none⟩ = some (.slice B' b.cs.length r') ∧ X.cell? ⟨w.heap.size + 1, 7, none⟩ = some (.int .i64 b.b)) := Lib.hid (fun X hb => by
        obtain ⟨c0, c1, c2, c3, c4, c5, c6, c7⟩ := HCX.out X (HB2.out.trans (hb.mono HB2.out.size))
        obtain ⟨d0, d1, d2, d3, d4, d5, d6, d7⟩ := HCY.out X (HB2.out.trans (hb.mono HB2.out.size))
        exact ⟨c0, c1, c2, c3, c4, c5, c6, c7, d0, d1, d2, d3, d4, d5, d6, d7⟩)
      have HTa := Lib.hid (fun (X : World) (hb : Below w2.heap.size w2 X) => HTA.out X (HB2.out.trans (hb.mono HB2.out.size)))
      have HTb := Lib.hid (fun (X : World) (hb : Below w2.heap.size w2 X) => HTB.out X (HB2.out.trans (hb.mono HB2.out.size)))
      have HSk := Lib.hid (fun (X : World) (u uc : Value) (t tc : Value) (hb : Below w2.heap.size w2 X) hc hc' => HS.out X u uc t tc (HB2.out.trans (hb.mono HB2.out.size)) hc hc')
      have hbw : Below w2.heap.size w2 w2 := Below.refl _ _
      go_region_held3 (fun X => X.cell? ⟨w.heap.size, 0, none⟩ = some (.int .i64 a.k) ∧ X.cell? ⟨w.heap.size, 1, none⟩ = some (.string a.l) ∧ X.cell? ⟨w.heap.size, 2, none⟩ = some (.string a.r) ∧ X.cell? ⟨w.heap.size, 3, none⟩ = some (.int .i64 a.xk) ∧ X.cell? ⟨w.heap.size, 4, none⟩ = some (.string a.xl) ∧ X.cell? ⟨w.heap.size, 5, none⟩ = some (.slice A a.xa.items.length m) ∧ X.cell? ⟨w.heap.size, 6, none⟩ = some (.slice B a.cs.length r) ∧ X.cell? ⟨w.heap.size, 7, none⟩ = some (.int .i64 a.b) ∧ X.cell? ⟨w.heap.size + 1, 0, none⟩ = some (.int .i64 b.k) ∧ X.cell? ⟨w.heap.size + 1, 1, none⟩ = some (.string b.l) ∧ X.cell? ⟨w.heap.size + 1, 2, none⟩ = some (.string b.r) ∧ X.cell? ⟨w.heap.size + 1, 3, none⟩ = some (.int .i64 b.xk) ∧ X.cell? ⟨w.heap.size + 1, 4, none⟩ = some (.string b.xl) ∧ X.cell? ⟨w.heap.size + 1, 5, none⟩ = some (.slice A' b.xa.items.length m') ∧ X.cell? ⟨w.heap.size + 1, 6, none⟩ = some (.slice B' b.cs.length r') ∧ X.cell? ⟨w.heap.size + 1, 7, none⟩ = some (.int .i64 b.b)) (with_reducible first | exact HK8.out _ hbw | exact HK8.out _ hbw.drew | exact HK8.out _ hbw.drew.drew | fail) (first
        | (go_at_call 7; (with_reducible refine (HTa.out _ ?hq1).mono ?_); (case hq1 => with_reducible first | exact hbw | exact hbw.drew | exact hbw.drew.drew); rintro e wa hp; obtain ⟨A7, m7, B7, r7, rfl, ht7, hb7⟩ := hp.shape; clear hp; (with_reducible first | (have hbw := hbw.trans (hb7.mono hbw.size)) | (have hbw := hbw.drew.trans (hb7.mono hbw.drew.size)) | (have hbw := hbw.drew.drew.trans (hb7.mono hbw.drew.drew.size))); clear hb7; have hct := Lib.hid (fun (X : World) (hb : Below wa.heap.size wa X) => ht7.con.kept hb); clear ht7; have hba := Below.refl wa.heap.size wa)
        | (go_at_call 7; (with_reducible refine (HTb.out _ ?hq1).mono ?_); (case hq1 => with_reducible first | exact hbw | exact hbw.drew | exact hbw.drew.drew); rintro e wb hp; obtain ⟨A9, m9, B9, r9, rfl, ht9, hb8⟩ := hp.shape; clear hp; (with_reducible first | (have hbw := hbw.trans (hb8.mono hbw.size); have hba := hba.trans (hb8.mono hba.size)) | (have hbw := hbw.drew.trans (hb8.mono hbw.drew.size); have hba := hba.drew.trans (hb8.mono hba.drew.size)) | (have hbw := hbw.drew.drew.trans (hb8.mono hbw.drew.drew.size); have hba := hba.drew.drew.trans (hb8.mono hba.drew.drew.size))); clear hb8; have hcu := Lib.hid (fun (X : World) (hb : Below wb.heap.size wb X) => ht9.con.kept hb); clear ht9; have hbb := Below.refl wb.heap.size wb)
        | (go_at_call 6; (with_reducible refine (HSk.out _ _ _ _ _ ?hq1 ?hq2 ?hq3).mono ?_); (case hq1 => with_reducible first | exact hbw | exact hbw.drew); (case hq2 => with_reducible first | exact hct.out _ hba | exact hct.out _ hba.drew); (case hq3 => with_reducible first | exact hcu.out _ hbb | exact hcu.out _ hbb.drew); rintro e wc ⟨rfl, hb9⟩; (with_reducible first | (have hbw := hbw.trans (hb9.mono hbw.size)) | (have hbw := hbw.drew.trans (hb9.mono hbw.drew.size))); clear hb9 hct hba hcu hbb))
      have HB5 := Lib.hid (HB2.out.trans (hbw.mono HB2.out.size))
      clear hbw
      clear HK8 HTa HTb HSk
      obtain ⟨c0, c1, c2, c3, c4, c5, c6, c7⟩ := HCX.out wc HB5.out
      go_wp2_with fail
      refine (HTA.out wc HB5.out).mono ?_
      rintro e w6 hp
      obtain ⟨A6, m6, B6, r6, rfl, ht6, hb6⟩ := hp.shape
      clear hp
      have HB6 := Lib.hid (HB5.out.trans (hb6.mono HB5.out.size))
      obtain ⟨W7, hW7⟩ : ∃ W7, W7 = w6.alloc (.cells #[.int .i64 a.k, .string a.l, .string a.r, .int .i64 a.xk, .string a.xl, .slice A6 a.xa.items.length m6, .slice B6 a.cs.length r6, .int .i64 a.b] 34) := ⟨_, rfl⟩
      have hb67 : Below w6.heap.size w6 W7 := by rw [hW7]; exact (Below.refl _ _).alloc (Nat.le_refl _) _
      have hz67 : W7.heap.size = w6.heap.size + 1 := by rw [hW7]; simp
      have hbx7 : BoxC W7 w6.heap.size a (.slice A6 a.xa.items.length m6) (.slice B6 a.cs.length r6) := by rw [hW7]; exact boxC_new w6 _ _ _ _
      have ht67 := ht6.kept (fun g hg => hg.2) hb67
      have HT6 := Lib.hid ht67
      have HOa := Lib.hid hb6.size
      have HB7 := Lib.hid (HB6.out.trans (hb67.mono HB6.out.size))
      have HX7 := Lib.hid (fun (V : World) (hb : Below W7.heap.size W7 V) => (hbx7.kept hb).cells)
      have HZ7 := Lib.hid hz67
      have HW7 := Lib.hid hW7
      clear ht6 hb6 c0 c1 c2 c3 c4 c5 c6 c7 hW7 hb67 hbx7 ht67 hz67
      obtain ⟨d0, d1, d2, d3, d4, d5, d6, d7⟩ := HCY.out W7 HB7.out
      rw [HW7.out] at d0 d1 d2 d3 d4 d5 d6 d7
      go_wp2_with fail
      rw [← HW7.out]
      refine (HTB.out W7 HB7.out).mono ?_
      rintro e w8 hp
      obtain ⟨A8, m8, B8, r8, rfl, ht8, hb8⟩ := hp.shape
      clear hp
      have HB78 := Lib.hid hb8
      have HB8 := Lib.hid (HB7.out.trans (hb8.mono HB7.out.size))
      obtain ⟨W9, hW9⟩ : ∃ W9, W9 = w8.alloc (.cells #[.int .i64 b.k, .string b.l, .string b.r, .int .i64 b.xk, .string b.xl, .slice A8 b.xa.items.length m8, .slice B8 b.cs.length r8, .int .i64 b.b] 34) := ⟨_, rfl⟩
      have hb89 : Below w8.heap.size w8 W9 := by rw [hW9]; exact (Below.refl _ _).alloc (Nat.le_refl _) _
      have hbx9 : BoxC W9 w8.heap.size b (.slice A8 b.xa.items.length m8) (.slice B8 b.cs.length r8) := by rw [hW9]; exact boxC_new w8 _ _ _ _
      have hb79 := hb8.trans (hb89.mono hb8.size)
      have HT8 := Lib.hid (ht8.kept (fun g hg => hg.2) hb89)
      have HT69 := Lib.hid (HT6.out.kept (fun g hg => Nat.lt_of_lt_of_le hg.2 (by have := HZ7.out; omega)) hb79)
      have HB9 := Lib.hid (HB8.out.trans (hb89.mono HB8.out.size))
      have HX9 := Lib.hid (fun (V : World) (hb : Below W9.heap.size W9 V) => (hbx9.kept hb).cells)
      have HX79 := Lib.hid (fun (V : World) (hb : Below W9.heap.size W9 V) => HX7.out V (hb79.trans (hb.mono hb79.size)))
      have HS9 := Lib.hid (show w8.heap.size ≤ W9.heap.size from hb89.size)
      have HS8 := Lib.hid hb8.size
      have HW9 := Lib.hid hW9
      clear ht8 hb8 d0 d1 d2 d3 d4 d5 d6 d7 hW9 hb89 hbx9 hb79
      have hk7 := HX79.out W9 (Below.refl _ _)
      rw [HW9.out] at hk7
      obtain ⟨c0, c1, c2, c3, c4, c5, c6, c7⟩ := hk7
      skip
      go_wp2_with fail
      rw [← HW9.out]
      refine (HI.out W9 _ _ _ _ (OwnB wc w6) (OwnB W7 w8) HB9.out HT69.out HT8.out (fun g hg => by have h1 := hg.2; have := HZ7.out; have := HS8.out; have := HS9.out; omega) (fun g hg => by have h1 := hg.2; have := HS9.out; omega) (fun g hg hg' => by have h1 := hg.2; have h2 := hg'.1; have := HZ7.out; omega)).mono ?_
      rintro e wd ⟨rfl, hbd⟩
      have HB9d := Lib.hid hbd
      have HBd := Lib.hid (HB9.out.trans (hbd.mono HB9.out.size))
      have HTAd := Lib.hid (HT69.out.con.kept hbd)
      have HTBd := Lib.hid (HT8.out.con.kept hbd)
      clear hbd c0 c1 c2 c3 c4 c5 c6 c7
      go_wp2_with fail
      have HKA : Hid (∀ X, Below wd.heap.size wd X → X.cell? ⟨w6.heap.size, 0, none⟩ = some (.int .i64 a.k) ∧ X.cell? ⟨w6.heap.size, 1, none⟩ = some (.string a.l) ∧ X.cell? ⟨w6.heap.size, 2, none⟩ = some (.string a.r) ∧ X.cell? ⟨w6.heap.size, 3, none⟩ = some (.int .i64 a.xk) ∧ X.cell? ⟨w6.heap.size, 4, none⟩ = some (.string a.xl) ∧ X.cell? ⟨w6.heap.size, 5, none⟩ = some (.slice A6 a.xa.items.length m6) ∧ X.cell? ⟨w6.heap.size, 6, none⟩ = some (.slice B6 a.cs.length r6) ∧ X.cell? ⟨w6.heap.size, 7, none⟩ = some (.int .i64 a.b) ∧ X.cell? ⟨w.heap.size, 0, none⟩ = some (.int .i64 a.k) ∧ X.cell? ⟨w.heap.size, 1, none⟩ = some (.string a.l) ∧ X.cell? ⟨w.heap.size, 2, none⟩ = some (.string a.r) ∧ X.cell? ⟨w.heap.size, 3, none⟩ = some (.int .i64 a.xk) ∧ X.cell? ⟨w.heap.size, 4, none⟩ = some (.string a.xl) ∧ X.cell? ⟨w.heap.size, 5, none⟩ = some (.slice A a.xa.items.length m) ∧ X.cell? ⟨w.heap.size, 6, none⟩ = some (.slice B a.cs.length r) ∧ X.cell? ⟨w.heap.size, 7, none⟩ = some (.int .i64 a.b)) := Lib.hid (fun X hb => by
        obtain ⟨c0, c1, c2, c3, c4, c5, c6, c7⟩ := HX79.out X (HB9d.out.trans (hb.mono HB9d.out.size))
        obtain ⟨d0, d1, d2, d3, d4, d5, d6, d7⟩ := HCX.out X (HBd.out.trans (hb.mono HBd.out.size))
        exact ⟨c0, c1, c2, c3, c4, c5, c6, c7, d0, d1, d2, d3, d4, d5, d6, d7⟩)
      have HTk := Lib.hid (fun (X : World) (hb : Below wd.heap.size wd X) => HTA.out X (HBd.out.trans (hb.mono HBd.out.size)))
      have HEQ := Lib.hid (fun (X : World) (u uc : Value) (hb : Below wd.heap.size wd X) (hc : CnO X u uc a) => eqC_any a _ _ u uc X (HTAd.out.kept hb) hc)
      have hbw : Below wd.heap.size wd wd := Below.refl _ _
      go_region_held3 (fun X => X.cell? ⟨w6.heap.size, 0, none⟩ = some (.int .i64 a.k) ∧ X.cell? ⟨w6.heap.size, 1, none⟩ = some (.string a.l) ∧ X.cell? ⟨w6.heap.size, 2, none⟩ = some (.string a.r) ∧ X.cell? ⟨w6.heap.size, 3, none⟩ = some (.int .i64 a.xk) ∧ X.cell? ⟨w6.heap.size, 4, none⟩ = some (.string a.xl) ∧ X.cell? ⟨w6.heap.size, 5, none⟩ = some (.slice A6 a.xa.items.length m6) ∧ X.cell? ⟨w6.heap.size, 6, none⟩ = some (.slice B6 a.cs.length r6) ∧ X.cell? ⟨w6.heap.size, 7, none⟩ = some (.int .i64 a.b) ∧ X.cell? ⟨w.heap.size, 0, none⟩ = some (.int .i64 a.k) ∧ X.cell? ⟨w.heap.size, 1, none⟩ = some (.string a.l) ∧ X.cell? ⟨w.heap.size, 2, none⟩ = some (.string a.r) ∧ X.cell? ⟨w.heap.size, 3, none⟩ = some (.int .i64 a.xk) ∧ X.cell? ⟨w.heap.size, 4, none⟩ = some (.string a.xl) ∧ X.cell? ⟨w.heap.size, 5, none⟩ = some (.slice A a.xa.items.length m) ∧ X.cell? ⟨w.heap.size, 6, none⟩ = some (.slice B a.cs.length r) ∧ X.cell? ⟨w.heap.size, 7, none⟩ = some (.int .i64 a.b)) (with_reducible first | exact HKA.out _ hbw.drew | exact HKA.out _ hbw | fail) (first | (go_at_call 7; (with_reducible refine (HTk.out _ hbw.drew).mono ?_); rintro e wa hp; obtain ⟨A7, m7, B7, r7, rfl, ht7, hb7⟩ := hp.shape; clear hp; have hbw := hbw.drew.trans (hb7.mono hbw.drew.size)) | (go_at_call 9; (with_reducible refine (HEQ.out _ _ _ ?hq1 ?hq2).mono ?_); (case hq1 => (first | exact hbw | exact hbw.drew)); (case hq2 => exact ht7.con); rintro e wb ⟨rfl, hb8⟩; (first | (have hbw := hbw.trans (hb8.mono hbw.size)) | (have hbw := hbw.drew.trans (hb8.mono hbw.drew.size)))))
      all_goals
        obtain ⟨we, hwe⟩ : ∃ we, we = wb := ⟨_, rfl⟩
        rw [← hwe] at hbw ⊢
        have HBe := Lib.hid hbw
        have HBz := Lib.hid (HBd.out.trans (hbw.mono HBd.out.size))
        have HTBe := Lib.hid (HTBd.out.kept hbw)
        clear hbw ht7 hb7 hb8 HKA HTk HEQ hwe
        go_wp2_with fail
        have HKB : Hid (∀ X, Below we.heap.size we X → X.cell? ⟨w8.heap.size, 0, none⟩ = some (.int .i64 b.k) ∧ X.cell? ⟨w8.heap.size, 1, none⟩ = some (.string b.l) ∧ X.cell? ⟨w8.heap.size, 2, none⟩ = some (.string b.r) ∧ X.cell? ⟨w8.heap.size, 3, none⟩ = some (.int .i64 b.xk) ∧ X.cell? ⟨w8.heap.size, 4, none⟩ = some (.string b.xl) ∧ X.cell? ⟨w8.heap.size, 5, none⟩ = some (.slice A8 b.xa.items.length m8) ∧ X.cell? ⟨w8.heap.size, 6, none⟩ = some (.slice B8 b.cs.length r8) ∧ X.cell? ⟨w8.heap.size, 7, none⟩ = some (.int .i64 b.b) ∧ X.cell? ⟨w.heap.size + 1, 0, none⟩ = some (.int .i64 b.k) ∧ X.cell? ⟨w.heap.size + 1, 1, none⟩ = some (.string b.l) ∧ X.cell? ⟨w.heap.size + 1, 2, none⟩ = some (.string b.r) ∧ X.cell? ⟨w.heap.size + 1, 3, none⟩ = some (.int .i64 b.xk) ∧ X.cell? ⟨w.heap.size + 1, 4, none⟩ = some (.string b.xl) ∧ X.cell? ⟨w.heap.size + 1, 5, none⟩ = some (.slice A' b.xa.items.length m') ∧ X.cell? ⟨w.heap.size + 1, 6, none⟩ = some (.slice B' b.cs.length r') ∧ X.cell? ⟨w.heap.size + 1, 7, none⟩ = some (.int .i64 b.b)) := Lib.hid (fun X hb => by
          obtain ⟨c0, c1, c2, c3, c4, c5, c6, c7⟩ := HX9.out X (HB9d.out.trans ((HBe.out.trans (hb.mono HBe.out.size)).mono HB9d.out.size))
          obtain ⟨d0, d1, d2, d3, d4, d5, d6, d7⟩ := HCY.out X (HBz.out.trans (hb.mono HBz.out.size))
          exact ⟨c0, c1, c2, c3, c4, c5, c6, c7, d0, d1, d2, d3, d4, d5, d6, d7⟩)
        have HTk := Lib.hid (fun (X : World) (hb : Below we.heap.size we X) => HTB.out X (HBz.out.trans (hb.mono HBz.out.size)))
        have HEQ := Lib.hid (fun (X : World) (u uc : Value) (hb : Below we.heap.size we X) (hc : CnO X u uc b) => eqC_any b _ _ u uc X (HTBe.out.kept hb) hc)
        have hbw : Below we.heap.size we we := Below.refl _ _
        go_region_held3 (fun X => X.cell? ⟨w8.heap.size, 0, none⟩ = some (.int .i64 b.k) ∧ X.cell? ⟨w8.heap.size, 1, none⟩ = some (.string b.l) ∧ X.cell? ⟨w8.heap.size, 2, none⟩ = some (.string b.r) ∧ X.cell? ⟨w8.heap.size, 3, none⟩ = some (.int .i64 b.xk) ∧ X.cell? ⟨w8.heap.size, 4, none⟩ = some (.string b.xl) ∧ X.cell? ⟨w8.heap.size, 5, none⟩ = some (.slice A8 b.xa.items.length m8) ∧ X.cell? ⟨w8.heap.size, 6, none⟩ = some (.slice B8 b.cs.length r8) ∧ X.cell? ⟨w8.heap.size, 7, none⟩ = some (.int .i64 b.b) ∧ X.cell? ⟨w.heap.size + 1, 0, none⟩ = some (.int .i64 b.k) ∧ X.cell? ⟨w.heap.size + 1, 1, none⟩ = some (.string b.l) ∧ X.cell? ⟨w.heap.size + 1, 2, none⟩ = some (.string b.r) ∧ X.cell? ⟨w.heap.size + 1, 3, none⟩ = some (.int .i64 b.xk) ∧ X.cell? ⟨w.heap.size + 1, 4, none⟩ = some (.string b.xl) ∧ X.cell? ⟨w.heap.size + 1, 5, none⟩ = some (.slice A' b.xa.items.length m') ∧ X.cell? ⟨w.heap.size + 1, 6, none⟩ = some (.slice B' b.cs.length r') ∧ X.cell? ⟨w.heap.size + 1, 7, none⟩ = some (.int .i64 b.b)) (with_reducible first | exact HKB.out _ hbw.drew | exact HKB.out _ hbw | fail) (first | (go_at_call 7; (with_reducible refine (HTk.out _ hbw.drew).mono ?_); rintro e wa hp; obtain ⟨A7, m7, B7, r7, rfl, ht7, hb7⟩ := hp.shape; clear hp; have hbw := hbw.drew.trans (hb7.mono hbw.drew.size)) | (go_at_call 9; (with_reducible refine (HEQ.out _ _ _ ?hq1 ?hq2).mono ?_); (case hq1 => (first | exact hbw | exact hbw.drew)); (case hq2 => exact ht7.con); rintro e wb ⟨rfl, hb8⟩; (first | (have hbw := hbw.trans (hb8.mono hbw.size)) | (have hbw := hbw.drew.trans (hb8.mono hbw.drew.size)))))
        all_goals
          have HBY := Lib.hid (HBz.out.trans (hbw.mono HBz.out.size))
          clear hbw ht7 hb7 hb8
          go_wp2_with fail
          go_ret
          exact ⟨rfl, HB0.out.trans (HBY.out.mono HB0.out.size)⟩
    · have HQ2 := Lib.hid (leftOf_no hfit2)
      clear hW hW1 hb0 hb1 hb12 hz1 hbx hby h h' HS0 HI0 hfit hfit2 hq
      go_enter Try.func3, Try.ntmps3
      go_wp2_with fail
      rw [← HWE.out]
      refine HSZ.out.mono ?_
      rintro e w1 ⟨he, hb1⟩
      rw [HQ.out] at he
      subst he
      have HB1 := Lib.hid hb1
      clear hb1 c0 c1 c2 c3 c4 c5 c6 c7
      obtain ⟨c0, c1, c2, c3, c4, c5, c6, c7⟩ := HCY.out w1 HB1.out
      go_wp2_with fail
      refine (HZ2.out w1 HB1.out).mono ?_
      rintro e w2 ⟨he, hb2⟩
      rw [HQ2.out] at he
      subst he
      have HB2 := Lib.hid (HB1.out.trans (hb2.mono HB1.out.size))
      clear hb2 c0 c1 c2 c3 c4 c5 c6 c7
      go_wp2_with fail
      go_ret
      exact ⟨rfl, HB0.out.trans (HB2.out.mono HB0.out.size)⟩
  · have HQ := Lib.hid (leftOf_no (m := wtC a) (z := 1048576) (by omega))
    clear hW hW1 hb0 hb1 hb12 hz1 hbx hby h h' HS0 HI0 hfit
    go_enter Try.func3, Try.ntmps3
    go_wp2_with fail
    rw [← HWE.out]
    refine HSZ.out.mono ?_
    rintro e w1 ⟨he, hb1⟩
    rw [HQ.out] at he
    subst he
    have HB1 := Lib.hid hb1
    clear hb1 c0 c1 c2 c3 c4 c5 c6 c7
    go_wp2_with fail
    go_ret
    exact ⟨rfl, HB0.out.trans (HB1.out.mono HB0.out.size)⟩
end Go.Proofs.Ytppliiingoonlaa
