/-
  The states that are reached from one by at least one letter, found by adding to an ascending list until it grows no more. Of no function of the program.
-/
import Derived.Test.YthmfncklepkddabDoorLngM
namespace Go.Proofs.YthmfncklepkddabDoor

theorem putS_at_home {q : Nat} : ∀ {s : List Nat}, s.Pairwise (· < ·) → q ∈ s → putS s q = s
  | x :: s, h, hq => by
    unfold putS
    rcases List.mem_cons.1 hq with rfl | hq
    · rw [if_neg (by omega), if_pos rfl]
    · have h1 := (List.pairwise_cons.1 h).1 q hq
      rw [if_pos h1, putS_at_home (List.pairwise_cons.1 h).2 hq]
theorem putS_not_home {q : Nat} : ∀ {s : List Nat}, q ∉ s → (putS s q).length = s.length + 1
  | [], _ => rfl
  | x :: s, h => by
    unfold putS
    have hx : ¬ x = q := fun e => h (by rw [e]; simp)
    have hs : q ∉ s := fun e => h (List.mem_cons_of_mem _ e)
    by_cases h1 : x < q
    · rw [if_pos h1, List.length_cons, putS_not_home hs, List.length_cons]
    · rw [if_neg h1, if_neg hx, List.length_cons]
theorem putS_len_le {q : Nat} {s : List Nat} (h : s.Pairwise (· < ·)) : s.length ≤ (putS s q).length := by
  by_cases hq : q ∈ s
  · rw [putS_at_home h hq]; exact Nat.le_refl _
  · rw [putS_not_home hq]; omega

/-- The list with the first t next states of its elements added. -/
def moreT (a : Au) (l : List Nat) (t : Nat) : List Nat := (List.range t).foldl (fun o s => putS o (a.T (l.getD (s / 3) 0) (s % 3))) l
theorem moreT_succ (a : Au) (l : List Nat) (t : Nat) : moreT a l (t + 1) = putS (moreT a l t) (a.T (l.getD (t / 3) 0) (t % 3)) := by
  unfold moreT
  rw [List.range_succ, List.foldl_append]
  rfl
theorem moreT_asc {a : Au} {l : List Nat} (h : l.Pairwise (· < ·)) : ∀ t, (moreT a l t).Pairwise (· < ·)
  | 0 => h
  | t + 1 => by rw [moreT_succ]; exact putS_asc (moreT_asc h t)
theorem mem_moreT {a : Au} {l : List Nat} {x : Nat} : ∀ t, x ∈ moreT a l t ↔ x ∈ l ∨ ∃ s, s < t ∧ a.T (l.getD (s / 3) 0) (s % 3) = x
  | 0 => by
    show x ∈ l ↔ _
    constructor
    · exact .inl
    · rintro (h | ⟨s, hs, _⟩)
      · exact h
      · omega
  | t + 1 => by
    rw [moreT_succ, mem_putS, mem_moreT t]
    constructor
    · rintro (rfl | h | ⟨s, hs, e⟩)
      · exact .inr ⟨t, by omega, rfl⟩
      · exact .inl h
      · exact .inr ⟨s, by omega, e⟩
    · rintro (h | ⟨s, hs, e⟩)
      · exact .inr (.inl h)
      · rcases Nat.lt_or_eq_of_le (Nat.le_of_lt_succ hs) with h | rfl
        · exact .inr (.inr ⟨s, h, e⟩)
        · exact .inl e.symm
theorem moreT_le {a : Au} {l : List Nat} (h : l.Pairwise (· < ·)) : ∀ t, l.length ≤ (moreT a l t).length
  | 0 => Nat.le_refl _
  | t + 1 => by
    rw [moreT_succ]
    exact Nat.le_trans (moreT_le h t) (putS_len_le (moreT_asc h t))
theorem moreT_same {a : Au} {l : List Nat} (h : l.Pairwise (· < ·)) : ∀ t, (moreT a l t).length = l.length → moreT a l t = l
  | 0, _ => rfl
  | t + 1, e => by
    rw [moreT_succ] at e ⊢
    have h2 := putS_len_le (moreT_asc h t (a := a)) (q := a.T (l.getD (t / 3) 0) (t % 3))
    have h1 : l.length ≤ (moreT a l t).length := moreT_le h t
    have h3 := moreT_same (a := a) h t (by omega)
    rw [h3] at e ⊢
    by_cases hq : a.T (l.getD (t / 3) 0) (t % 3) ∈ l
    · exact putS_at_home h hq
    · rw [putS_not_home hq] at e
      omega
/-- The three first steps. -/
def firstT (a : Au) (p : Nat) (k : Nat) : List Nat := (List.range k).foldl (fun o s => putS o (a.T p s)) []
theorem firstT_succ (a : Au) (p k : Nat) : firstT a p (k + 1) = putS (firstT a p k) (a.T p k) := by
  unfold firstT
  rw [List.range_succ, List.foldl_append]
  rfl
theorem firstT_asc (a : Au) (p : Nat) : ∀ k, (firstT a p k).Pairwise (· < ·)
  | 0 => List.Pairwise.nil
  | k + 1 => by rw [firstT_succ]; exact putS_asc (firstT_asc a p k)
theorem mem_firstT {a : Au} {p x : Nat} : ∀ k, x ∈ firstT a p k ↔ ∃ s, s < k ∧ a.T p s = x
  | 0 => by simp [firstT]
  | k + 1 => by
    rw [firstT_succ, mem_putS, mem_firstT k]
    constructor
    · rintro (rfl | ⟨s, hs, e⟩)
      · exact ⟨k, by omega, rfl⟩
      · exact ⟨s, by omega, e⟩
    · rintro ⟨s, hs, e⟩
      rcases Nat.lt_or_eq_of_le (Nat.le_of_lt_succ hs) with h | rfl
      · exact .inr ⟨s, h, e⟩
      · exact .inl e.symm
/-- A list on its way: ascending, of states that are reached, the first three steps among them. -/
structure OnWay (a : Au) (p : Nat) (l : List Nat) : Prop where
  asc : l.Pairwise (· < ·)
  sound : ∀ x ∈ l, Rch a p x
  first : ∀ k, k < 3 → a.T p k ∈ l
theorem rch_one (a : Au) (p : Nat) {k : Nat} (hk : k < 3) : Rch a p (a.T p k) := ⟨[k], W3.cons hk W3.nil, by simp, rfl⟩
theorem rch_snoc {a : Au} {p q : Nat} (h : Rch a p q) {k : Nat} (hk : k < 3) : Rch a p (a.T q k) := by
  obtain ⟨w, h1, h2, rfl⟩ := h
  exact ⟨w ++ [k], h1.app (W3.cons hk W3.nil), by simp, by rw [Au.run_append]; rfl⟩
theorem onWay_start (a : Au) (p : Nat) : OnWay a p (firstT a p 3) :=
  ⟨firstT_asc a p 3, fun x hx => by
    obtain ⟨s, hs, rfl⟩ := (mem_firstT 3).1 hx
    exact rch_one a p hs, fun k hk => (mem_firstT 3).2 ⟨k, hk, rfl⟩⟩
theorem OnWay.more {a : Au} {p : Nat} {l : List Nat} (h : OnWay a p l) {t : Nat} (ht : t ≤ 3 * l.length) : OnWay a p (moreT a l t) :=
  ⟨moreT_asc h.asc t, fun x hx => by
    rcases (mem_moreT t).1 hx with hx | ⟨s, hs, rfl⟩
    · exact h.sound x hx
    · have h1 : s / 3 < l.length := by omega
      rw [List.getD_eq_getElem?_getD, List.getElem?_eq_getElem h1]
      exact rch_snoc (h.sound _ (List.getElem_mem h1)) (Nat.mod_lt _ (by omega)), fun k hk => (mem_moreT t).2 (.inl (h.first k hk))⟩
/-- Where it grows no more, it is all that is reached. -/
theorem OnWay.whole {a : Au} {p : Nat} {l : List Nat} (h : OnWay a p l) (e : (moreT a l (3 * l.length)).length = l.length) {x : Nat} : x ∈ l ↔ Rch a p x := by
  have e2 := moreT_same h.asc _ e
  have closed : ∀ q ∈ l, ∀ k, k < 3 → a.T q k ∈ l := fun q hq k hk => by
    obtain ⟨i, hi, rfl⟩ := List.mem_iff_getElem.1 hq
    suffices h : a.T l[i] k ∈ moreT a l (3 * l.length) by rwa [e2] at h
    refine (mem_moreT _).2 (.inr ⟨3 * i + k, by omega, ?_⟩)
    rw [show (3 * i + k) / 3 = i by omega, show (3 * i + k) % 3 = k by omega, List.getD_eq_getElem?_getD, List.getElem?_eq_getElem hi]
    rfl
  have stay : ∀ (w : List Nat) q, q ∈ l → W3 w → a.run q w ∈ l := by
    intro w
    induction w with
    | nil => exact fun q hq _ => hq
    | cons k u ih =>
      intro q hq hw
      obtain ⟨hk, hu⟩ := hw.tail
      exact ih _ (closed q hq k hk) hu
  constructor
  · exact h.sound x
  · rintro ⟨w, h1, h2, rfl⟩
    cases w with
    | nil => exact absurd rfl h2
    | cons k u =>
      obtain ⟨hk, hu⟩ := h1.tail
      exact stay u _ (h.first k hk) hu
/-- All that is reached, in ascending order. -/
def RchL (a : Au) (p : Nat) (l : List Nat) : Prop := l.Pairwise (· < ·) ∧ ∀ x, x ∈ l ↔ Rch a p x
theorem rch_lt {a : Au} (ha : a.wf) {p q : Nat} (hp : p < a.n) (h : Rch a p q) : q < a.n := by
  obtain ⟨w, h1, _, rfl⟩ := h
  exact Au.run_lt ha w p h1 hp
theorem OnWay.lt {a : Au} (ha : a.wf) {p : Nat} (hp : p < a.n) {l : List Nat} (h : OnWay a p l) : ∀ x ∈ l, x < a.n := fun x hx => rch_lt ha hp (h.sound x hx)
theorem OnWay.len {a : Au} (ha : a.wf) {p : Nat} (hp : p < a.n) {l : List Nat} (h : OnWay a p l) : l.length ≤ a.n :=
  nodup_len a.n l (h.asc.imp (fun h => Nat.ne_of_lt h)) (h.lt ha hp)
theorem firstT_len {a : Au} (ha : a.wf) {p : Nat} (hp : p < a.n) {k : Nat} (hk : k ≤ 3) : (firstT a p k).length ≤ a.n :=
  nodup_len a.n _ ((firstT_asc a p k).imp (fun h => Nat.ne_of_lt h)) (fun x hx => by
    obtain ⟨s, hs, rfl⟩ := (mem_firstT k).1 hx
    exact ha.2 p s hp (by omega))
end Go.Proofs.YthmfncklepkddabDoor
