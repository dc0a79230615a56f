/-
  The first word, in length-lexicographic order, that leads to a goal: as a search finds it. Of no function of the program.
-/
import Derived.Test.YthmfncklepkddabDoorM5
namespace Go.Proofs.YthmfncklepkddabDoor

/-- Of two words of one length, the first comes ahead in the alphabet. -/
def lexL : List Nat → List Nat → Prop
  | a :: u, b :: v => a < b ∨ (a = b ∧ lexL u v)
  | _, _ => False
theorem lexL_irrefl : ∀ u, ¬ lexL u u
  | [] => id
  | a :: u => fun h => by
    rcases h with h | ⟨_, h⟩
    · omega
    · exact lexL_irrefl u h
theorem lexL_trans : ∀ {u v w : List Nat}, lexL u v → lexL v w → lexL u w
  | [], _, _, h, _ => h.elim
  | _ :: _, [], _, h, _ => h.elim
  | _ :: _, _ :: _, [], _, h => h.elim
  | a :: u, b :: v, c :: w, h, h' => by
    rcases h with h | ⟨rfl, h⟩
    · rcases h' with h' | ⟨rfl, _⟩
      · exact .inl (by omega)
      · exact .inl h
    · rcases h' with h' | ⟨rfl, h'⟩
      · exact .inl h'
      · exact .inr ⟨rfl, lexL_trans h h'⟩
theorem lexL_tri : ∀ {u v : List Nat}, u.length = v.length → lexL u v ∨ u = v ∨ lexL v u
  | [], [], _ => .inr (.inl rfl)
  | [], _ :: _, h => by simp at h
  | _ :: _, [], h => by simp at h
  | a :: u, b :: v, h => by
    rcases Nat.lt_trichotomy a b with hl | rfl | hl
    · exact .inl (.inl hl)
    · rcases lexL_tri (u := u) (v := v) (by simpa using h) with h1 | rfl | h1
      · exact .inl (.inr ⟨rfl, h1⟩)
      · exact .inr (.inl rfl)
      · exact .inr (.inr (.inr ⟨rfl, h1⟩))
    · exact .inr (.inr (.inl hl))
theorem lexL_snoc {x y : List Nat} : ∀ {u v : List Nat}, lexL u v → lexL (u ++ x) (v ++ y)
  | [], _, h => h.elim
  | _ :: _, [], h => h.elim
  | a :: u, b :: v, h => by
    rcases h with h | ⟨rfl, h⟩
    · exact .inl h
    · exact .inr ⟨rfl, lexL_snoc h⟩
theorem lexL_last {a b : Nat} (h : a < b) : ∀ u : List Nat, lexL (u ++ [a]) (u ++ [b])
  | [] => .inl h
  | _ :: u => .inr ⟨rfl, lexL_last h u⟩
/-- A word comes before another one. -/
def befW (u v : List Nat) : Prop := u.length < v.length ∨ (u.length = v.length ∧ lexL u v)
theorem befW_irrefl (u : List Nat) : ¬ befW u u := fun h => by
  rcases h with h | ⟨_, h⟩
  · omega
  · exact lexL_irrefl u h
theorem befW_trans {u v w : List Nat} (h : befW u v) (h' : befW v w) : befW u w := by
  rcases h with h | ⟨e, h⟩ <;> rcases h' with h' | ⟨e', h'⟩
  · exact .inl (by omega)
  · exact .inl (by omega)
  · exact .inl (by omega)
  · exact .inr ⟨by omega, lexL_trans h h'⟩
theorem befW_tri (u v : List Nat) : befW u v ∨ u = v ∨ befW v u := by
  rcases Nat.lt_trichotomy u.length v.length with h | h | h
  · exact .inl (.inl h)
  · rcases lexL_tri h with h1 | h1 | h1
    · exact .inl (.inr ⟨h, h1⟩)
    · exact .inr (.inl h1)
    · exact .inr (.inr (.inr ⟨h.symm, h1⟩))
  · exact .inr (.inr (.inl h))
theorem befW_snoc {u v : List Nat} (h : befW u v) (a b : Nat) : befW (u ++ [a]) (v ++ [b]) := by
  rcases h with h | ⟨e, h⟩
  · exact .inl (by simp; omega)
  · exact .inr ⟨by simp; omega, lexL_snoc h⟩
theorem befW_last {a b : Nat} (h : a < b) (u : List Nat) : befW (u ++ [a]) (u ++ [b]) := .inr ⟨by simp, lexL_last h u⟩
theorem befW_nil (u : List Nat) (a : Nat) : befW [] (u ++ [a]) := .inl (by simp)
/-- .. or is it. -/
def befE (u v : List Nat) : Prop := u = v ∨ befW u v
theorem befE.trans {u v w : List Nat} (h : befE u v) (h' : befE v w) : befE u w := by
  rcases h with rfl | h
  · exact h'
  · rcases h' with rfl | h'
    · exact .inr h
    · exact .inr (befW_trans h h')
theorem befE.snoc {u v : List Nat} (h : befE u v) (a : Nat) : befE (u ++ [a]) (v ++ [a]) := by
  rcases h with rfl | h
  · exact .inl rfl
  · exact .inr (befW_snoc h a a)
theorem befE.not {u v : List Nat} (h : befE u v) : ¬ befW v u := fun h' => by
  rcases h with rfl | h
  · exact befW_irrefl _ h'
  · exact befW_irrefl _ (befW_trans h h')

/-- Where a word leads. -/
def runG {α : Type} (g : α → Nat → α) (x : α) (w : List Nat) : α := w.foldl g x
theorem runG_snoc {α : Type} {g : α → Nat → α} (x : α) (w : List Nat) (k : Nat) : runG g x (w ++ [k]) = g (runG g x w) k := by simp [runG]
section
variable {α : Type} [DecidableEq α] [Inhabited α] (s0 : α) (g : α → Nat → α)
/-- The words by which the keys were met. -/
def wds : Nat → List (List Nat)
  | 0 => [[]]
  | t + 1 => if g ((ords s0 g t).getD (t / 3) default) (t % 3) ∈ ords s0 g t then wds t else wds t ++ [(wds t).getD (t / 3) [] ++ [t % 3]]
/-- So far each key that is gone on from has been met. -/
def Alive (t : Nat) : Prop := ∀ s, s < t → s / 3 < (ords s0 g s).length
variable {s0 g}
theorem Alive.less {s t : Nat} (h : Alive s0 g t) (hs : s ≤ t) : Alive s0 g s := fun r hr => h r (by omega)
theorem Ends.alive {N : Nat} (h : Ends s0 g N) : Alive s0 g (3 * N) := fun s hs => by
  have h1 := h.on (s / 3) (by omega)
  have h2 := (ords_prefix (s0 := s0) (g := g) (show 3 * (s / 3) ≤ s by omega)).length_le
  omega
theorem wds_len : ∀ t, (wds s0 g t).length = (ords s0 g t).length
  | 0 => rfl
  | t + 1 => by
    rw [wds, ords]
    split
    · exact wds_len t
    · simp [wds_len t]
theorem wds_step_prefix (t : Nat) : wds s0 g t <+: wds s0 g (t + 1) := by
  rw [wds]
  split
  · exact List.prefix_refl _
  · exact List.prefix_append _ _
theorem wds_prefix {s t : Nat} (h : s ≤ t) : wds s0 g s <+: wds s0 g t := by
  induction t with
  | zero =>
    obtain rfl : s = 0 := by omega
    exact List.prefix_refl _
  | succ t ih =>
    by_cases e : s = t + 1
    · rw [e]
      exact List.prefix_refl _
    · exact (ih (by omega)).trans (wds_step_prefix t)
theorem pre_getD {β : Type} {l l' : List β} (h : l <+: l') {i : Nat} (hi : i < l.length) (x : β) : l'.getD i x = l.getD i x := by
  obtain ⟨r, rfl⟩ := h
  rw [List.getD_eq_getElem?_getD, List.getD_eq_getElem?_getD, List.getElem?_append_left hi]
theorem wds_at {s t i : Nat} (h : s ≤ t) (hi : i < (ords s0 g s).length) : (wds s0 g t).getD i [] = (wds s0 g s).getD i [] := pre_getD (wds_prefix h) (by rw [wds_len]; exact hi) []
theorem getD_mem' {β : Type} {l : List β} {i : Nat} (h : i < l.length) (x : β) : l.getD i x ∈ l := by
  rw [List.getD_eq_getElem?_getD, List.getElem?_eq_getElem h]
  exact List.getElem_mem h
/-- Each word leads to its key, has letters alone, and is not longer than its place. -/
theorem wds_facts : ∀ t, Alive s0 g t → ∀ i, i < (ords s0 g t).length → runG g s0 ((wds s0 g t).getD i []) = (ords s0 g t).getD i default ∧ W3 ((wds s0 g t).getD i []) ∧ ((wds s0 g t).getD i []).length ≤ i
  | 0, _, i, hi => by
    have h0 : i = 0 := by simp only [ords, List.length_singleton] at hi; omega
    subst h0
    exact ⟨rfl, W3.nil, Nat.le_refl _⟩
  | t + 1, ha, i, hi => by
    have ih := wds_facts t (ha.less (Nat.le_succ t))
    by_cases hl : i < (ords s0 g t).length
    · rw [wds_at (Nat.le_succ t) hl, ords_at (Nat.le_succ t) hl]
      exact ih i hl
    · have ht := ha t (Nat.lt_succ_self t)
      have hl2 := wds_len (s0 := s0) (g := g) t
      by_cases hm : g ((ords s0 g t).getD (t / 3) default) (t % 3) ∈ ords s0 g t
      · rw [ords, if_pos hm] at hi
        omega
      · have e : i = (ords s0 g t).length := by
          rw [ords, if_neg hm, List.length_append, List.length_singleton] at hi
          omega
        subst e
        obtain ⟨h1, h2, h3⟩ := ih (t / 3) ht
        have e1 : (wds s0 g (t + 1)).getD (ords s0 g t).length [] = (wds s0 g t).getD (t / 3) [] ++ [t % 3] := by
          rw [wds, if_neg hm, List.getD_eq_getElem?_getD, List.getElem?_append_right (by omega), hl2]
          simp
        have e2 : (ords s0 g (t + 1)).getD (ords s0 g t).length default = g ((ords s0 g t).getD (t / 3) default) (t % 3) := by
          rw [ords, if_neg hm, List.getD_eq_getElem?_getD, List.getElem?_append_right (Nat.le_refl _)]
          simp
        rw [e1, e2, runG_snoc, h1]
        refine ⟨rfl, fun k hk => ?_, by rw [List.length_append, List.length_singleton]; omega⟩
        rcases List.mem_append.1 hk with hk | hk
        · exact h2 k hk
        · rw [List.mem_singleton.1 hk]
          exact Nat.mod_lt _ (by omega)
/-- The word that is tried next. -/
def cand (s0 : α) (g : α → Nat → α) (t : Nat) : List Nat := (wds s0 g t).getD (t / 3) [] ++ [t % 3]
theorem wds_sorted : ∀ t, Alive s0 g t → (wds s0 g t).Pairwise befW ∧ (t / 3 < (ords s0 g t).length → ∀ w ∈ wds s0 g t, befW w (cand s0 g t))
  | 0, _ => ⟨by simp [wds], fun _ w hw => by
    rw [wds, List.mem_singleton] at hw
    rw [hw]
    exact befW_nil _ _⟩
  | t + 1, ha => by
    obtain ⟨h1, h2⟩ := wds_sorted t (ha.less (Nat.le_succ t))
    have ht := ha t (Nat.lt_succ_self t)
    have h2 := h2 ht
    have hl := wds_len (s0 := s0) (g := g) t
    have hl1 := wds_len (s0 := s0) (g := g) (t + 1)
    have hp : (wds s0 g (t + 1)).Pairwise befW := by
      rw [wds]
      split
      · exact h1
      · exact List.pairwise_append.2 ⟨h1, by simp, fun a ha b hb => by
          rw [List.mem_singleton.1 hb]
          exact h2 a ha⟩
    refine ⟨hp, fun hlt w hw => ?_⟩
    have hc : befE w (cand s0 g t) := by
      rw [wds] at hw
      split at hw
      · exact .inr (h2 w hw)
      · rcases List.mem_append.1 hw with hw | hw
        · exact .inr (h2 w hw)
        · exact .inl (List.mem_singleton.1 hw)
    have hn : befW (cand s0 g t) (cand s0 g (t + 1)) := by
      unfold cand
      by_cases h3 : t % 3 < 2
      · rw [show (t + 1) / 3 = t / 3 by omega, show (t + 1) % 3 = t % 3 + 1 by omega, wds_at (Nat.le_succ t) ht]
        exact befW_last (Nat.lt_succ_self _) _
      · rw [show (t + 1) / 3 = t / 3 + 1 by omega] at hlt ⊢
        have hq : t / 3 < (wds s0 g (t + 1)).length := by omega
        have hq1 : t / 3 + 1 < (wds s0 g (t + 1)).length := by omega
        rw [← wds_at (show t ≤ t + 1 by omega) ht]
        refine befW_snoc ?_ _ _
        rw [List.getD_eq_getElem?_getD, List.getD_eq_getElem?_getD, List.getElem?_eq_getElem hq, List.getElem?_eq_getElem hq1]
        exact List.pairwise_iff_getElem.1 hp _ _ _ _ (by omega)
    rcases hc with rfl | hc
    · exact hn
    · exact befW_trans hc hn
/-- Each word has a key, and the key's word comes not behind it. -/
theorem wds_least {N : Nat} (h : Ends s0 g N) : ∀ (n : Nat) (w : List Nat), w.length = n → W3 w → ∃ i, i < N ∧ (ords s0 g (3 * N)).getD i default = runG g s0 w ∧ befE ((wds s0 g (3 * N)).getD i []) w
  | 0, w, hn, _ => by
    have e : w = [] := List.length_eq_zero_iff.1 hn
    subst e
    refine ⟨0, h.pos, ords_first _, .inl ?_⟩
    rw [wds_at (Nat.zero_le _) (by simp [ords])]
    rfl
  | n + 1, w, hn, hw => by
    have hne : w ≠ [] := fun e => by rw [e] at hn; simp at hn
    obtain ⟨u, k, rfl⟩ : ∃ u k, w = u ++ [k] := ⟨w.dropLast, w.getLast hne, (List.dropLast_concat_getLast hne).symm⟩
    obtain ⟨i, hi, h1, h2⟩ := wds_least h n u (by simpa using hn) (fun x hx => hw x (List.mem_append_left _ hx))
    have hk : k < 3 := hw k (List.mem_append_right _ (List.mem_singleton.2 rfl))
    have ht : 3 * i + k < 3 * N := by omega
    have hd : (3 * i + k) / 3 = i := by omega
    have hm3 : (3 * i + k) % 3 = k := by omega
    have hal := h.alive
    have hlt := hal (3 * i + k) ht
    rw [hd] at hlt
    have hlN := h.length
    have hll := wds_len (s0 := s0) (g := g) (3 * i + k)
    have hc : befE (cand s0 g (3 * i + k)) (u ++ [k]) := by
      unfold cand
      rw [hd, hm3, ← wds_at (show 3 * i + k ≤ 3 * N by omega) hlt]
      exact h2.snoc k
    have e1 : g ((ords s0 g (3 * i + k)).getD i default) k = runG g s0 (u ++ [k]) := by rw [runG_snoc, ← h1, ords_at (show 3 * i + k ≤ 3 * N by omega) hlt]
    by_cases hm : g ((ords s0 g (3 * i + k)).getD i default) k ∈ ords s0 g (3 * i + k)
    · obtain ⟨j, hj, hje⟩ := List.mem_iff_getElem.1 hm
      have hpl := (ords_prefix (s0 := s0) (g := g) (show 3 * i + k ≤ 3 * N by omega)).length_le
      refine ⟨j, by omega, ?_, .trans (.inr ?_) hc⟩
      · rw [ords_at (show 3 * i + k ≤ 3 * N by omega) hj, List.getD_eq_getElem?_getD, List.getElem?_eq_getElem hj, ← e1]
        exact hje
      · rw [wds_at (show 3 * i + k ≤ 3 * N by omega) hj]
        exact (wds_sorted _ (hal.less (show 3 * i + k ≤ 3 * N by omega))).2 (by rw [hd]; exact hlt) _ (getD_mem' (by omega) [])
    · have hs : ords s0 g (3 * i + k + 1) = ords s0 g (3 * i + k) ++ [g ((ords s0 g (3 * i + k)).getD i default) k] := by
        rw [ords, hd, hm3, if_neg hm]
      have hsw : wds s0 g (3 * i + k + 1) = wds s0 g (3 * i + k) ++ [cand s0 g (3 * i + k)] := by
        rw [wds, hd, hm3, if_neg hm, cand, hd, hm3]
      have hpl := (ords_prefix (s0 := s0) (g := g) (show 3 * i + k + 1 ≤ 3 * N by omega)).length_le
      rw [hs, List.length_append, List.length_singleton] at hpl
      have hj : (ords s0 g (3 * i + k)).length < (ords s0 g (3 * i + k + 1)).length := by rw [hs, List.length_append, List.length_singleton]; omega
      refine ⟨(ords s0 g (3 * i + k)).length, by omega, ?_, ?_⟩
      · rw [ords_at (show 3 * i + k + 1 ≤ 3 * N by omega) hj, hs, List.getD_eq_getElem?_getD, List.getElem?_append_right (Nat.le_refl _), ← e1]
        simp
      · rw [wds_at (show 3 * i + k + 1 ≤ 3 * N by omega) hj, hsw, List.getD_eq_getElem?_getD, List.getElem?_append_right (by omega), hll]
        simpa using hc
/-- The first word that P says, if there is one. -/
def FirstR (P : List Nat → Prop) : Option (List Nat) → Prop
  | some w => W3 w ∧ P w ∧ ∀ v, W3 v → P v → ¬ befW v w
  | none => ∀ w, W3 w → ¬ P w
theorem firstR_one {P : List Nat → Prop} : ∀ {r r' : Option (List Nat)}, FirstR P r → FirstR P r' → r = r'
  | none, none, _, _ => rfl
  | none, some w, h, h' => absurd h'.2.1 (h w h'.1)
  | some w, none, h, h' => absurd h.2.1 (h' w h.1)
  | some u, some v, h, h' => by
    rcases befW_tri u v with h1 | h1 | h1
    · exact absurd h1 (h'.2.2 u h.1 h.2.1)
    · rw [h1]
    · exact absurd h1 (h.2.2 v h'.1 h'.2.1)
/-- The search stands at key i, none ahead of it is a goal. -/
theorem first_found {N : Nat} (h : Ends s0 g N) {goal : α → Bool} {i : Nat} (hi : i < N) (hg : goal ((ords s0 g (3 * N)).getD i default) = true) (hn : ∀ j, j < i → goal ((ords s0 g (3 * N)).getD j default) = false) :
    FirstR (fun w => goal (runG g s0 w) = true) (some ((wds s0 g (3 * N)).getD i [])) := by
  have hl := h.length
  obtain ⟨h1, h2, -⟩ := wds_facts _ h.alive i (by omega)
  refine ⟨h2, by show goal (runG g s0 _) = true; rw [h1]; exact hg, fun v hv hp => ?_⟩
  have hp : goal (runG g s0 v) = true := hp
  obtain ⟨j, hj, h3, h4⟩ := wds_least h _ v rfl hv
  have hij : i ≤ j := by
    apply Nat.le_of_not_lt
    intro hlt
    have := hn j hlt
    rw [h3, hp] at this
    cases this
  refine (befE.trans ?_ h4).not
  by_cases e : i = j
  · exact .inl (by rw [e])
  · have hll := wds_len (s0 := s0) (g := g) (3 * N)
    refine .inr ?_
    rw [List.getD_eq_getElem?_getD, List.getD_eq_getElem?_getD, List.getElem?_eq_getElem (show i < _ by omega), List.getElem?_eq_getElem (show j < _ by omega)]
    exact List.pairwise_iff_getElem.1 (wds_sorted _ h.alive).1 _ _ _ _ (by omega)
theorem first_none {N : Nat} (h : Ends s0 g N) {goal : α → Bool} (hn : ∀ j, j < N → goal ((ords s0 g (3 * N)).getD j default) = false) : FirstR (fun w => goal (runG g s0 w) = true) none := fun w hw hp => by
  obtain ⟨j, hj, h3, -⟩ := wds_least h _ w rfl hw
  have hp : goal (runG g s0 w) = true := hp
  have := hn j hj
  rw [h3] at this
  rw [this] at hp
  cases hp
end
end Go.Proofs.YthmfncklepkddabDoor
