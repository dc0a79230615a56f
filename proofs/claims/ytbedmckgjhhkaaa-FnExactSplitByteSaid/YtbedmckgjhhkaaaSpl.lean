/-
  Plain facts on splitting a row of bytes at a byte, of no program.
-/
import Derived.Lib.IndexLaws
import Derived.Lib.Bytealg
namespace Go.Proofs.Ytbedmckgjhhkaaa

/-- The substrings between the occurrences of c. -/
def spl (c : UInt8) : List UInt8 → List (List UInt8)
  | [] => [[]]
  | b :: r => if b = c then [] :: spl c r else
    match spl c r with
    | [] => [[b]]
    | p :: ps => (b :: p) :: ps

theorem spl_ne (c : UInt8) : ∀ l, spl c l ≠ []
  | [] => by simp [spl]
  | b :: r => by
    unfold spl
    split
    · simp
    · split <;> simp

/-- Without an occurrence: one piece. -/
theorem spl_none (c : UInt8) : ∀ l, (∀ b ∈ l, b ≠ c) → spl c l = [l]
  | [], _ => rfl
  | b :: r, h => by
    unfold spl
    rw [if_neg (h b (by simp)), spl_none c r (fun x hx => h x (by simp [hx]))]

/-- The first occurrence at o: the piece before it, and the pieces of the rest. -/
theorem spl_at (c : UInt8) : ∀ (l : List UInt8) (o : Nat), l[o]? = some c → (∀ k, k < o → l[k]? ≠ some c) → spl c l = l.take o :: spl c (l.drop (o + 1))
  | [], o, h, _ => by simp at h
  | b :: r, 0, h, _ => by
    simp at h
    subst h
    rw [show spl b (b :: r) = [] :: spl b r by rw [spl, if_pos rfl]]
    simp
  | b :: r, o + 1, h, hk => by
    have hb : b ≠ c := fun e => hk 0 (by omega) (by simp [e])
    have ih := spl_at c r o (by simpa using h) (fun k hlt => by have := hk (k + 1) (by omega); simpa using this)
    have e : spl c (b :: r) = (b :: r.take o) :: spl c (r.drop (o + 1)) := by
      conv => lhs; unfold spl
      rw [if_neg hb, ih]
    rw [e]
    simp

theorem spl_length (c : UInt8) : ∀ l, (spl c l).length ≤ l.length + 1
  | [] => by simp [spl]
  | b :: r => by
    have := spl_length c r
    unfold spl
    split
    · simp; omega
    · split
      · simp
      · rename_i p ps e
        rw [e] at this
        simp at *
        omega

/-- No piece holds c. -/
theorem spl_free (c : UInt8) : ∀ l, ∀ p ∈ spl c l, ∀ b ∈ p, b ≠ c
  | [], p, hp, b, hb => by
    simp [spl] at hp
    subst hp
    simp at hb
  | x :: r, p, hp, b, hb => by
    have ih := spl_free c r
    unfold spl at hp
    split at hp
    · rcases List.mem_cons.1 hp with rfl | hp
      · simp at hb
      · exact ih p hp b hb
    · rename_i hx
      split at hp
      · simp at hp
        subst hp
        simp at hb
        rw [hb]
        exact hx
      · rename_i q qs e
        rcases List.mem_cons.1 hp with rfl | hp
        · rcases List.mem_cons.1 hb with rfl | hb
          · exact hx
          · exact ih q (by rw [e]; simp) b hb
        · exact ih p (by rw [e]; simp [hp]) b hb

/-- The model's loop: P is done, f is where the piece under way begins, k is where the loop stands. -/
def SplRel (c : UInt8) (l : List UInt8) (P : List (List UInt8)) (f k : Nat) : Prop :=
  (k ≤ l.length ∧ f ≤ k ∧ spl c l = P ++ spl c (l.drop f) ∧ ∀ j, f ≤ j → j < k → l[j]? ≠ some c) ∨ (k = l.length + 1 ∧ f = k ∧ spl c l = P)

theorem SplRel.start (c : UInt8) (l : List UInt8) : SplRel c l [] 0 0 := .inl ⟨Nat.zero_le _, Nat.le_refl _, by simp, fun j _ h => by omega⟩
theorem SplRel.pass {c : UInt8} {l : List UInt8} {P : List (List UInt8)} {f k : Nat} (h : SplRel c l P f k) (hk : k < l.length) (hc : l[k]? ≠ some c) : SplRel c l P f (k + 1) := by
  rcases h with ⟨h1, h2, h3, h4⟩ | ⟨h1, _, _⟩
  · refine .inl ⟨by omega, by omega, h3, fun j a b => ?_⟩
    by_cases e : j = k
    · rw [e]; exact hc
    · exact h4 j a (by omega)
  · omega
theorem SplRel.hit {c : UInt8} {l : List UInt8} {P : List (List UInt8)} {f k : Nat} (h : SplRel c l P f k) (hk : k < l.length) (hc : l[k]? = some c) : SplRel c l (P ++ [(l.drop f).take (k - f)]) (k + 1) (k + 1) := by
  rcases h with ⟨h1, h2, h3, h4⟩ | ⟨h1, _⟩
  · refine .inl ⟨by omega, Nat.le_refl _, ?_, fun j a b => by omega⟩
    rw [h3, spl_at c (l.drop f) (k - f) (by rw [List.getElem?_drop, show f + (k - f) = k by omega]; exact hc) (fun j hj => by rw [List.getElem?_drop]; exact h4 (f + j) (by omega) (by omega))]
    rw [List.drop_drop, show f + (k - f + 1) = k + 1 by omega]
    simp
  · omega
theorem SplRel.last {c : UInt8} {l : List UInt8} {P : List (List UInt8)} {f : Nat} (h : SplRel c l P f l.length) : SplRel c l (P ++ [(l.drop f).take (l.length - f)]) (l.length + 1) (l.length + 1) := by
  rcases h with ⟨_, h2, h3, h4⟩ | ⟨h1, _⟩
  · refine .inr ⟨rfl, rfl, ?_⟩
    rw [h3, spl_none c (l.drop f) (fun b hb e => ?_), List.take_of_length_le (by simp)]
    obtain ⟨j, hj⟩ := List.getElem?_of_mem hb
    rw [List.getElem?_drop, e] at hj
    have hlt : f + j < l.length := by
      rcases Nat.lt_or_ge (f + j) l.length with h | h
      · exact h
      · rw [List.getElem?_eq_none h] at hj; cases hj
    exact h4 (f + j) (by omega) hlt hj
  · omega
theorem SplRel.bound {c : UInt8} {l : List UInt8} {P : List (List UInt8)} {f k : Nat} (h : SplRel c l P f k) : f ≤ l.length + 1 ∧ P.length ≤ l.length + 1 ∧ (k ≤ l.length → f ≤ k ∧ P.length ≤ l.length) := by
  have hl := spl_length c l
  rcases h with ⟨h1, h2, h3, _⟩ | ⟨h1, h2⟩
  · rw [h3] at hl
    have hn := List.length_pos_iff.2 (spl_ne c (l.drop f))
    simp at hl
    exact ⟨by omega, by omega, fun _ => ⟨h2, by omega⟩⟩
  · obtain ⟨h2, h3⟩ := h2
    rw [h3] at hl
    exact ⟨by omega, hl, fun _ => by omega⟩
theorem SplRel.done {c : UInt8} {l : List UInt8} {P : List (List UInt8)} {f k : Nat} (h : SplRel c l P f k) (hk : k = l.length + 1) : spl c l = P := by
  rcases h with ⟨h1, _⟩ | ⟨_, _, h2⟩
  · omega
  · exact h2
end Go.Proofs.Ytbedmckgjhhkaaa
