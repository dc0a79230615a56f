/-
  The way back from a state that a search met: the first row that holds it. Of no function of the program.
-/
import Derived.Test.YthmfncklepkddaaExpM
import Derived.Test.YthmfncklepkddaaFstM
namespace Go.Proofs.Ythmfncklepkddaa

section
variable {α : Type} [DecidableEq α] [Inhabited α] {s0 : α} {g : α → Nat → α}
theorem ords_len_succ (t : Nat) : (ords s0 g (t + 1)).length ≤ (ords s0 g t).length + 1 := by
  rw [ords]
  split <;> simp
theorem first_long {q : Nat} (h0 : 0 < q) : ∀ t, q < (ords s0 g t).length → ∃ s, s < t ∧ (ords s0 g s).length = q ∧ (ords s0 g (s + 1)).length = q + 1
  | 0, h => by simp [ords] at h; omega
  | t + 1, h => by
    by_cases hq : q < (ords s0 g t).length
    · obtain ⟨s, h1, h2⟩ := first_long h0 t hq
      exact ⟨s, by omega, h2⟩
    · have := ords_len_succ (s0 := s0) (g := g) t
      exact ⟨t, by omega, by omega, by omega⟩
/-- From each state but the first one: the first row that holds it, the first place there; its word is that row's and this letter. -/
def BackW (a : Au) (W : Nat → List Nat) : Prop :=
  W 0 = [] ∧ ∀ q, 0 < q → q < a.n → ∃ b l, b < q ∧ l < 3 ∧ a.T b l = q ∧ (∀ b' l', l' < 3 → 3 * b' + l' < 3 * b + l → a.T b' l' ≠ q) ∧ W q = W b ++ [l]
theorem Ends.back {N : Nat} (h : Ends s0 g N) (acc : α → Bool) : BackW (found s0 g acc N) fun q => (wds s0 g (3 * N)).getD q [] := by
  refine ⟨?_, fun q h0 hq => ?_⟩
  · show (wds s0 g (3 * N)).getD 0 [] = []
    rw [wds_at (Nat.zero_le _) (by simp [ords])]
    rfl
  · have hq : q < N := hq
    obtain ⟨t, ht, l1, l2⟩ := first_long (s0 := s0) (g := g) h0 (3 * N) (by rw [h.length]; exact hq)
    have hlt := h.alive t ht
    have hT : ∀ i k, i < N → k < 3 → (found s0 g acc N).T i k = toA s0 g i k := fun i k hi hk => (found_keyA h acc hi).2 k hk
    have hS : ∀ i k, i < N → k < 3 → toA s0 g i k < (ords s0 g (3 * i + k + 1)).length := fun i k hi hk => by
      obtain ⟨h1, h2⟩ := keyA_step (h.on i hi) hk
      by_cases hm : g (keyA s0 g i) k ∈ ords s0 g (3 * i + k)
      · obtain ⟨e1, e2⟩ := h1 hm
        rw [e2, show 3 * i + k + 1 = 3 * i + (k + 1) by omega, e1]
        exact List.idxOf_lt_length_of_mem hm
      · obtain ⟨e1, e2⟩ := h2 hm
        rw [e2, show 3 * i + k + 1 = 3 * i + (k + 1) by omega, e1]
        simp
    have hi : t / 3 < N := by omega
    have hk : t % 3 < 3 := Nat.mod_lt _ (by omega)
    have e3 : 3 * (t / 3) + t % 3 = t := Nat.div_add_mod t 3
    refine ⟨t / 3, t % 3, by omega, hk, ?_, fun b' l' hl' hlt' => ?_, ?_⟩
    · rw [hT _ _ hi hk]
      obtain ⟨h1, h2⟩ := keyA_step (h.on _ hi) hk
      rw [e3] at h1 h2
      by_cases hm : g (keyA s0 g (t / 3)) (t % 3) ∈ ords s0 g t
      · have e1 := (h1 hm).1
        rw [show 3 * (t / 3) + (t % 3 + 1) = t + 1 by omega] at e1
        rw [e1] at l2
        omega
      · rw [(h2 hm).2, l1]
    · have hb : b' < N := by omega
      have h1 := hS b' l' hb hl'
      have h2 := (ords_prefix (s0 := s0) (g := g) (show 3 * b' + l' + 1 ≤ t by omega)).length_le
      rw [hT _ _ hb hl']
      omega
    · have hn : g ((ords s0 g t).getD (t / 3) default) (t % 3) ∉ ords s0 g t := fun hm => by
        rw [ords, if_pos hm] at l2
        omega
      have hl2 := wds_len (s0 := s0) (g := g) t
      show (wds s0 g (3 * N)).getD q [] = (wds s0 g (3 * N)).getD (t / 3) [] ++ [t % 3]
      rw [wds_at (show t + 1 ≤ 3 * N by omega) (by omega), wds_at (show t ≤ 3 * N by omega) hlt, wds, if_neg hn, List.getD_eq_getElem?_getD, List.getElem?_append_right (by omega), hl2, l1]
      simp
theorem BackW.len {a : Au} {W : Nat → List Nat} (h : BackW a W) : ∀ q, q < a.n → (W q).length ≤ q ∧ W3 (W q) := by
  intro q
  induction q using Nat.strongRecOn with
  | ind q ih =>
    intro hq
    rcases Nat.eq_zero_or_pos q with rfl | h0
    · rw [h.1]
      exact ⟨Nat.le_refl _, W3.nil⟩
    · obtain ⟨b, l, hb, hl, _, _, e⟩ := h.2 q h0 hq
      obtain ⟨h1, h2⟩ := ih b hb (by omega)
      rw [e]
      refine ⟨by simp; omega, fun x hx => ?_⟩
      rcases List.mem_append.1 hx with hx | hx
      · exact h2 x hx
      · rw [List.mem_singleton.1 hx]
        exact hl
end
end Go.Proofs.Ythmfncklepkddaa
