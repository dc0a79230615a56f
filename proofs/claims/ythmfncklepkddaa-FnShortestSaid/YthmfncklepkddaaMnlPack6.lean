/-
  Texts of one proof, one behind the other.
-/
import Derived.Deep.RegionHeld3
import Derived.Test.YthmfncklepkddaaMnlPack5

/-
  Concatenations and repetitions as searches over a state and a set of states: what a key accepts. Of no function of the program.
  The minimal automaton of a search that may meet too many keys, as an answer: concatenations, repetitions. Of no function of the program but the answers' names.
-/
namespace Go.Proofs.Ythmfncklepkddaa

/-- A set of states, ascending: one more. -/
def putS : List Nat → Nat → List Nat
  | [], q => [q]
  | x :: s, q => if x < q then x :: putS s q else if x = q then x :: s else q :: x :: s
theorem mem_putS {x q : Nat} : ∀ {s : List Nat}, x ∈ putS s q ↔ x = q ∨ x ∈ s
  | [] => by simp [putS]
  | y :: s => by
    unfold putS
    by_cases h1 : y < q
    · rw [if_pos h1, List.mem_cons, mem_putS, List.mem_cons]
      constructor
      · rintro (h | h | h)
        · exact .inr (.inl h)
        · exact .inl h
        · exact .inr (.inr h)
      · rintro (h | h | h)
        · exact .inr (.inl h)
        · exact .inl h
        · exact .inr (.inr h)
    · rw [if_neg h1]
      by_cases h2 : y = q
      · subst h2
        rw [if_pos rfl]
        simp
      · rw [if_neg h2]
        simp
theorem putS_asc {q : Nat} : ∀ {s : List Nat}, s.Pairwise (· < ·) → (putS s q).Pairwise (· < ·)
  | [], _ => by simp [putS]
  | y :: s, h => by
    obtain ⟨h0, h'⟩ := List.pairwise_cons.1 h
    unfold putS
    by_cases h1 : y < q
    · rw [if_pos h1]
      refine List.pairwise_cons.2 ⟨fun z hz => ?_, putS_asc h'⟩
      rcases mem_putS.1 hz with rfl | hz
      · exact h1
      · exact h0 z hz
    · rw [if_neg h1]
      by_cases h2 : y = q
      · rw [if_pos h2]
        exact h
      · rw [if_neg h2]
        refine List.pairwise_cons.2 ⟨fun z hz => ?_, h⟩
        rcases List.mem_cons.1 hz with rfl | hz
        · omega
        · have := h0 z hz
          omega
/-- Two ascending lists with the same elements are the same. -/
theorem asc_eq : ∀ {s t : List Nat}, s.Pairwise (· < ·) → t.Pairwise (· < ·) → (∀ x, x ∈ s ↔ x ∈ t) → s = t
  | [], [], _, _, _ => rfl
  | [], y :: t, _, _, h => absurd ((h y).2 (List.mem_cons_self ..)) (by simp)
  | y :: s, [], _, _, h => absurd ((h y).1 (List.mem_cons_self ..)) (by simp)
  | x :: s, y :: t, hs, ht, h => by
    obtain ⟨hs0, hs'⟩ := List.pairwise_cons.1 hs
    obtain ⟨ht0, ht'⟩ := List.pairwise_cons.1 ht
    have e : x = y := by
      rcases List.mem_cons.1 ((h x).1 (List.mem_cons_self ..)) with e | hx
      · exact e
      · rcases List.mem_cons.1 ((h y).2 (List.mem_cons_self ..)) with e | hy
        · exact e.symm
        · have := ht0 x hx
          have := hs0 y hy
          omega
    subst e
    rw [asc_eq hs' ht' (fun z => ?_)]
    constructor
    · intro hz
      rcases List.mem_cons.1 ((h z).1 (List.mem_cons_of_mem _ hz)) with rfl | h2
      · have := hs0 z hz
        omega
      · exact h2
    · intro hz
      rcases List.mem_cons.1 ((h z).2 (List.mem_cons_of_mem _ hz)) with rfl | h2
      · have := ht0 z hz
        omega
      · exact h2
/-- The set after a letter. -/
def moveS (d : Au) (s : List Nat) (k : Nat) : List Nat := s.foldl (fun out q => putS out (d.T q k)) []
theorem mem_move_from {d : Au} {k x : Nat} : ∀ (s o : List Nat), x ∈ s.foldl (fun out q => putS out (d.T q k)) o ↔ x ∈ o ∨ ∃ q ∈ s, d.T q k = x
  | [], o => by simp
  | y :: s, o => by
    rw [List.foldl_cons, mem_move_from s, mem_putS]
    constructor
    · rintro ((rfl | h) | ⟨q, hq, e⟩)
      · exact .inr ⟨y, List.mem_cons_self .., rfl⟩
      · exact .inl h
      · exact .inr ⟨q, List.mem_cons_of_mem _ hq, e⟩
    · rintro (h | ⟨q, hq, e⟩)
      · exact .inl (.inr h)
      · rcases List.mem_cons.1 hq with rfl | hq
        · exact .inl (.inl e.symm)
        · exact .inr ⟨q, hq, e⟩
theorem mem_move {d : Au} {k x : Nat} {s : List Nat} : x ∈ moveS d s k ↔ ∃ q ∈ s, d.T q k = x := by
  unfold moveS
  rw [mem_move_from]
  simp
theorem move_from_asc {d : Au} {k : Nat} : ∀ (s o : List Nat), o.Pairwise (· < ·) → (s.foldl (fun out q => putS out (d.T q k)) o).Pairwise (· < ·)
  | [], _, h => h
  | _ :: s, _, h => move_from_asc s _ (putS_asc h)
theorem move_asc (d : Au) (s : List Nat) (k : Nat) : (moveS d s k).Pairwise (· < ·) := move_from_asc s [] List.Pairwise.nil
def anyS (d : Au) (s : List Nat) : Bool := s.any d.A
theorem anyS_iff {d : Au} {s : List Nat} : anyS d s = true ↔ ∃ q ∈ s, d.A q = true := by simp [anyS]

/-- The concatenation's search. -/
def catS (a : Au) : Nat × List Nat := (0, if a.A 0 then [0] else [])
def catG (a b : Au) (x : Nat × List Nat) (k : Nat) : Nat × List Nat := (a.T x.1 k, if a.A (a.T x.1 k) then putS (moveS b x.2 k) 0 else moveS b x.2 k)
/-- What a key accepts: a state of the set does, or the word is divided later on. -/
def catL (a b : Au) (x : Nat × List Nat) (w : List Nat) : Prop := (∃ q ∈ x.2, b.A (b.run q w) = true) ∨ ∃ u v, w = u ++ v ∧ u ≠ [] ∧ a.A (a.run x.1 u) = true ∧ b.A (b.run 0 v) = true
theorem catL_nil (a b : Au) (x : Nat × List Nat) : catL a b x [] ↔ anyS b x.2 = true := by
  rw [anyS_iff]
  unfold catL
  constructor
  · rintro (h | ⟨u, v, e, hu, _⟩)
    · exact h
    · exact absurd (List.append_eq_nil_iff.1 e.symm).1 hu
  · exact fun h => .inl h
theorem catL_step (a b : Au) (x : Nat × List Nat) (k : Nat) (w : List Nat) : catL a b (catG a b x k) w ↔ catL a b x (k :: w) := by
  have hm : ∀ q, q ∈ (catG a b x k).2 ↔ (a.A (a.T x.1 k) = true ∧ q = 0) ∨ ∃ p ∈ x.2, b.T p k = q := fun q => by
    unfold catG
    by_cases h : a.A (a.T x.1 k) = true
    · simp only [h, if_true]
      rw [mem_putS, mem_move]
      simp
    · simp only [h]
      simp only [Bool.false_eq_true, if_false, false_and, false_or]
      exact mem_move
  unfold catL
  constructor
  · rintro (⟨q, hq, hb⟩ | ⟨u, v, rfl, hu, ha, hb⟩)
    · rcases (hm q).1 hq with ⟨ha, rfl⟩ | ⟨p, hp, rfl⟩
      · exact .inr ⟨[k], w, rfl, by simp, ha, hb⟩
      · exact .inl ⟨p, hp, hb⟩
    · exact .inr ⟨k :: u, v, rfl, by simp, ha, hb⟩
  · rintro (⟨p, hp, hb⟩ | ⟨u, v, e, hu, ha, hb⟩)
    · exact .inl ⟨b.T p k, (hm _).2 (.inr ⟨p, hp, rfl⟩), hb⟩
    · cases u with
      | nil => exact absurd rfl hu
      | cons y u =>
        injection e with e1 e2
        subst e1
        cases u with
        | nil =>
          have e3 : w = v := e2
          subst e3
          exact .inl ⟨0, (hm 0).2 (.inl ⟨ha, rfl⟩), hb⟩
        | cons z u => exact .inr ⟨z :: u, v, e2, by simp, ha, hb⟩
theorem catL_start (a b : Au) (w : List Nat) : catL a b (catS a) w ↔ ∃ u v, w = u ++ v ∧ a.A (a.run 0 u) = true ∧ b.A (b.run 0 v) = true := by
  unfold catL catS
  constructor
  · rintro (⟨q, hq, hb⟩ | ⟨u, v, e, _, ha, hb⟩)
    · by_cases h : a.A 0 = true
      · simp only [h, if_true, List.mem_singleton] at hq
        subst hq
        exact ⟨[], w, rfl, h, hb⟩
      · simp only [h] at hq
        simp at hq
    · exact ⟨u, v, e, ha, hb⟩
  · rintro ⟨u, v, e, ha, hb⟩
    cases u with
    | nil =>
      have e3 : w = v := e
      subst e3
      have h : a.A 0 = true := ha
      exact .inl ⟨0, by simp [h], hb⟩
    | cons y u => exact .inr ⟨y :: u, v, e, by simp, ha, hb⟩

/-- A word that can be divided into words of d. -/
inductive StarW (d : Au) : List Nat → Prop
  | nil : StarW d []
  | app (u v : List Nat) : u ≠ [] → d.A (d.run 0 u) = true → StarW d v → StarW d (u ++ v)
theorem StarW.more {d : Au} {u v : List Nat} (ha : d.A (d.run 0 u) = true) (hv : StarW d v) : StarW d (u ++ v) := by
  by_cases hu : u = []
  · rw [hu]
    exact hv
  · exact .app u v hu ha hv
/-- The repetition's search: a mark for the first key, and a set. -/
def starS : Bool × List Nat := (true, [0])
def starG (d : Au) (x : Bool × List Nat) (k : Nat) : Bool × List Nat := (false, if anyS d (moveS d x.2 k) then putS (moveS d x.2 k) 0 else moveS d x.2 k)
def starA (d : Au) (x : Bool × List Nat) : Bool := x.1 || anyS d x.2
/-- With an accepting state the set holds the first state. -/
def StarC (d : Au) (x : Bool × List Nat) : Prop := (∃ q ∈ x.2, d.A q = true) → 0 ∈ x.2
theorem starC_start (d : Au) : StarC d starS := fun _ => by simp [starS]
theorem mem_starG {d : Au} {x : Bool × List Nat} {k q : Nat} : q ∈ (starG d x k).2 ↔ (∃ p ∈ x.2, d.T p k = q) ∨ ((∃ p ∈ x.2, d.A (d.T p k) = true) ∧ q = 0) := by
  have ha : anyS d (moveS d x.2 k) = true ↔ ∃ p ∈ x.2, d.A (d.T p k) = true := by
    rw [anyS_iff]
    constructor
    · rintro ⟨q, hq, h⟩
      obtain ⟨p, hp, rfl⟩ := mem_move.1 hq
      exact ⟨p, hp, h⟩
    · rintro ⟨p, hp, h⟩
      exact ⟨_, mem_move.2 ⟨p, hp, rfl⟩, h⟩
  unfold starG
  by_cases h : anyS d (moveS d x.2 k) = true
  · simp only [h, if_true]
    rw [mem_putS, mem_move]
    have := ha.1 h
    constructor
    · rintro (rfl | h2)
      · exact .inr ⟨this, rfl⟩
      · exact .inl h2
    · rintro (h2 | ⟨_, rfl⟩)
      · exact .inr h2
      · exact .inl rfl
  · have hn : ¬ ∃ p ∈ x.2, d.A (d.T p k) = true := fun h2 => h (ha.2 h2)
    simp only [h]
    simp only [Bool.false_eq_true, if_false]
    rw [mem_move]
    constructor
    · exact fun h2 => .inl h2
    · rintro (h2 | ⟨h2, _⟩)
      · exact h2
      · exact absurd h2 hn
theorem starC_step (d : Au) (x : Bool × List Nat) (k : Nat) : StarC d (starG d x k) := by
  rintro ⟨q, hq, h⟩
  rcases mem_starG.1 hq with ⟨p, hp, rfl⟩ | ⟨h2, _⟩
  · exact mem_starG.2 (.inr ⟨⟨p, hp, h⟩, rfl⟩)
  · exact mem_starG.2 (.inr ⟨h2, rfl⟩)
/-- What a key accepts. -/
def starL (d : Au) (x : Bool × List Nat) (w : List Nat) : Prop := (x.1 = true ∧ w = []) ∨ ∃ q ∈ x.2, ∃ u v, w = u ++ v ∧ d.A (d.run q u) = true ∧ StarW d v
theorem starL_nil (d : Au) (x : Bool × List Nat) : starL d x [] ↔ starA d x = true := by
  unfold starL starA
  rw [Bool.or_eq_true, anyS_iff]
  constructor
  · rintro (⟨h, _⟩ | ⟨q, hq, u, v, e, ha, _⟩)
    · exact .inl h
    · rw [(List.append_eq_nil_iff.1 e.symm).1] at ha
      exact .inr ⟨q, hq, ha⟩
  · rintro (h | ⟨q, hq, ha⟩)
    · exact .inl ⟨h, rfl⟩
    · exact .inr ⟨q, hq, [], [], rfl, ha, .nil⟩
theorem starL_step (d : Au) (x : Bool × List Nat) (hx : StarC d x) (k : Nat) (w : List Nat) : starL d (starG d x k) w ↔ starL d x (k :: w) := by
  unfold starL
  constructor
  · rintro (⟨h, _⟩ | ⟨q, hq, u, v, e, ha, hv⟩)
    · exact absurd h (by simp [starG])
    · subst e
      rcases mem_starG.1 hq with ⟨p, hp, rfl⟩ | ⟨⟨p, hp, hpa⟩, rfl⟩
      · exact .inr ⟨p, hp, k :: u, v, rfl, ha, hv⟩
      · exact .inr ⟨p, hp, [k], u ++ v, rfl, hpa, hv.more ha⟩
  · rintro (⟨_, h⟩ | ⟨q, hq, u, v, e, ha, hv⟩)
    · cases h
    · cases u with
      | nil =>
        have e3 : k :: w = v := e
        subst e3
        have h0 := hx ⟨q, hq, ha⟩
        generalize hy : k :: w = y at hv
        cases hv with
        | nil => cases hy
        | app u' v' hu' ha' hv' =>
          cases u' with
          | nil => exact absurd rfl hu'
          | cons z u' =>
            injection hy with e1 e2
            subst e1
            exact .inr ⟨d.T 0 k, mem_starG.2 (.inl ⟨0, h0, rfl⟩), u', v', e2, ha', hv'⟩
      | cons z u =>
        injection e with e1 e2
        subst e1
        exact .inr ⟨d.T q k, mem_starG.2 (.inl ⟨q, hq, rfl⟩), u, v, e2, ha, hv⟩
theorem starL_start (d : Au) (w : List Nat) : starL d starS w ↔ StarW d w := by
  unfold starL starS
  constructor
  · rintro (⟨_, rfl⟩ | ⟨q, hq, u, v, rfl, ha, hv⟩)
    · exact .nil
    · simp only [List.mem_singleton] at hq
      subst hq
      exact hv.more ha
  · intro h
    cases h with
    | nil => exact .inl ⟨rfl, rfl⟩
    | app u v _ ha hv => exact .inr ⟨0, by simp, u, v, rfl, ha, hv⟩
end Go.Proofs.Ythmfncklepkddaa

namespace Go.Proofs.Ythmfncklepkddaa
open Go.RowKit

section
variable {α : Type} [DecidableEq α] [Inhabited α] {s0 : α} {g : α → Nat → α} {M : Nat}
theorem Ends.one {N N' : Nat} (h : Ends s0 g N) (h' : Ends s0 g N') : N = N' := by
  rcases Nat.lt_trichotomy N N' with hl | e | hl
  · have := h'.on N hl
    have := h.stop
    omega
  · exact e
  · have := h.on N' hl
    have := h'.stop
    omega
/-- The search is alive at row i and has met too many: it does not end below. -/
theorem Ends.not_big {i N M : Nat} (ha : ∀ j, j ≤ i → j < (ords s0 g (3 * j)).length) (hb : M < (ords s0 g (3 * (i + 1))).length) (hN : N ≤ M) : ¬ Ends s0 g N := fun h => by
  have hi : i < N := by
    apply Nat.lt_of_not_le
    intro hle
    have := ha N hle
    have := h.stop
    omega
  have h1 := (ords_prefix (s0 := s0) (g := g) (show 3 * (i + 1) ≤ 3 * N by omega)).length_le
  have := h.stop
  omega
/-- The answer of a search: at most M keys, and the minimal automaton has not too many states. -/
def srchR (M : Nat) (s0 : α) (g : α → Nat → α) (acc : α → Bool) (y : Dx) (ok : Bool) : Prop :=
  (∃ N, N ≤ M ∧ Ends s0 g N ∧ ∃ m, Canon m ∧ Eqv m 0 (found s0 g acc N) 0 ∧ y = fitD m ∧ ok = decide (m.n ≤ 40)) ∨ ((∀ N, N ≤ M → ¬ Ends s0 g N) ∧ y = ⟨[], []⟩ ∧ ok = false)
theorem srchR_some (M : Nat) (s0 : α) (g : α → Nat → α) (acc : α → Bool) : ∃ y ok, srchR M s0 g acc y ok := by
  by_cases h : ∃ N, N ≤ M ∧ Ends s0 g N
  · obtain ⟨N, hN, hE⟩ := h
    obtain ⟨m, h1, h2, _⟩ := exists_min (hE.wf acc)
    exact ⟨_, _, .inl ⟨N, hN, hE, m, h1, h2, rfl, rfl⟩⟩
  · exact ⟨_, _, .inr ⟨fun N hN hE => h ⟨N, hN, hE⟩, rfl, rfl⟩⟩
theorem srchR_yes {acc : α → Bool} {y : Dx} {ok : Bool} (h : srchR M s0 g acc y ok) {N : Nat} (hN : N ≤ M) (hE : Ends s0 g N) {m : Au} (h1 : Canon m) (h2 : Eqv m 0 (found s0 g acc N) 0) : fitD m = y ∧ decide (m.n ≤ 40) = ok := by
  rcases h with ⟨N', _, hE', m', n1, n2, rfl, rfl⟩ | ⟨hn, _⟩
  · have e := hE.one hE'
    subst e
    exact fit_one h1 n1 (h2.swap n2)
  · exact absurd hE (hn N hN)
theorem srchR_no {acc : α → Bool} {y : Dx} {ok : Bool} (h : srchR M s0 g acc y ok) (hn : ∀ N, N ≤ M → ¬ Ends s0 g N) : y = ⟨[], []⟩ ∧ ok = false := by
  rcases h with ⟨N, hN, hE, _⟩ | ⟨_, h⟩
  · exact absurd hE (hn N hN)
  · exact h
theorem srchR_wt {acc : α → Bool} {y : Dx} {ok : Bool} (h : srchR M s0 g acc y ok) : wtD y ≤ 1048576 := by
  rcases h with ⟨_, _, _, m, _, _, rfl, _⟩ | ⟨_, rfl, _⟩
  · exact fitD_wt m
  · decide
/-- What the answer accepts. -/
theorem srchR_lang {acc : α → Bool} {y : Dx} (h : srchR M s0 g acc y true) {L : α → List Nat → Prop} (h0 : ∀ x, L x [] ↔ acc x = true) {I : α → Prop} (hI0 : I s0) (hIs : ∀ x k, I x → I (g x k)) (h1 : ∀ x, I x → ∀ k w, L (g x k) w ↔ L x (k :: w)) :
    ∃ m, Canon m ∧ m.n ≤ 40 ∧ y = fieldsOf m ∧ ∀ w, W3 w → (m.A (m.run 0 w) = true ↔ L s0 w) := by
  rcases h with ⟨N, _, hE, m, n1, n2, rfl, hok⟩ | ⟨_, _, hf⟩
  · have hn : m.n ≤ 40 := by simpa using hok.symm
    have hI : ∀ t, t ≤ 3 * N → ∀ x ∈ ords s0 g t, I x := by
      intro t
      induction t with
      | zero =>
        intro _ x hx
        rw [ords, List.mem_singleton] at hx
        rw [hx]
        exact hI0
      | succ t ih =>
        intro ht x hx
        have hk : I ((ords s0 g t).getD (t / 3) default) := by
          refine ih (by omega) _ (getD_mem ?_)
          have h1 := hE.on (t / 3) (by omega)
          have h2 := (ords_prefix (s0 := s0) (g := g) (show 3 * (t / 3) ≤ t by omega)).length_le
          omega
        rw [ords] at hx
        split at hx
        · exact ih (by omega) x hx
        · rcases List.mem_append.1 hx with h | h
          · exact ih (by omega) x h
          · rw [List.mem_singleton.1 h]
            exact hIs _ _ hk
    refine ⟨m, n1, hn, by unfold fitD; rw [if_pos hn], fun w hw => ?_⟩
    have hl := hE.lang (acc := acc) (L := fun x w => @decide (L x w) (Classical.propDecidable _)) (fun x => by
      have := h0 x
      cases ha : acc x <;> simp [ha] at this ⊢ <;> exact this) (fun x hx k _ w _ => by
      have := h1 x (hI _ (Nat.le_refl _) x hx) k w
      exact decide_eq_decide.2 this) w 0 hw hE.pos
    rw [ords_first] at hl
    rw [n2 w hw, hl]
    exact @decide_eq_true_iff _ (Classical.propDecidable _)
  · cases hf
end
/-- ConcatDfa's and StarDfa's answers. -/
def catR (a b y : Dx) (ok : Bool) : Prop := if validD a = true ∧ validD b = true then srchR 400 (catS (auD a)) (catG (auD a) (auD b)) (fun x => anyS (auD b) x.2) y ok else y = ⟨[], []⟩ ∧ ok = false
def starR (d y : Dx) (ok : Bool) : Prop := if validD d = true then srchR 400 starS (starG (auD d)) (starA (auD d)) y ok else y = ⟨[], []⟩ ∧ ok = false
theorem catR_some (a b : Dx) : ∃ y ok, catR a b y ok := by
  unfold catR
  by_cases h : validD a = true ∧ validD b = true
  · simp only [if_pos h]
    exact srchR_some _ _ _ _
  · simp only [if_neg h]
    exact ⟨_, _, rfl, rfl⟩
theorem starR_some (d : Dx) : ∃ y ok, starR d y ok := by
  unfold starR
  by_cases h : validD d = true
  · simp only [if_pos h]
    exact srchR_some _ _ _ _
  · simp only [if_neg h]
    exact ⟨_, _, rfl, rfl⟩
/-- What a concatenation and a repetition accept. -/
theorem catR_lang {a b y : Dx} (h : catR a b y true) : validD a = true ∧ validD b = true ∧ ∃ m, Canon m ∧ m.n ≤ 40 ∧ y = fieldsOf m ∧ ∀ w, W3 w → (m.A (m.run 0 w) = true ↔ ∃ u v, w = u ++ v ∧ (auD a).A ((auD a).run 0 u) = true ∧ (auD b).A ((auD b).run 0 v) = true) := by
  unfold catR at h
  by_cases hc : validD a = true ∧ validD b = true
  · rw [if_pos hc] at h
    obtain ⟨m, h1, h2, h3, h4⟩ := srchR_lang h (L := catL (auD a) (auD b)) (fun x => catL_nil _ _ x) (I := fun _ => True) trivial (fun _ _ _ => trivial) (fun x _ k w => catL_step _ _ x k w)
    exact ⟨hc.1, hc.2, m, h1, h2, h3, fun w hw => (h4 w hw).trans (catL_start _ _ w)⟩
  · rw [if_neg hc] at h
    exact absurd h.2 (by simp)
theorem starR_lang {d y : Dx} (h : starR d y true) : validD d = true ∧ ∃ m, Canon m ∧ m.n ≤ 40 ∧ y = fieldsOf m ∧ ∀ w, W3 w → (m.A (m.run 0 w) = true ↔ StarW (auD d) w) := by
  unfold starR at h
  by_cases hc : validD d = true
  · rw [if_pos hc] at h
    obtain ⟨m, h1, h2, h3, h4⟩ := srchR_lang h (L := starL (auD d)) (fun x => starL_nil _ x) (I := StarC (auD d)) (starC_start _) (fun x k _ => starC_step _ x k) (fun x hx k w => starL_step _ x hx k w)
    exact ⟨hc, m, h1, h2, h3, fun w hw => (h4 w hw).trans (starL_start _ w)⟩
  · rw [if_neg hc] at h
    exact absurd h.2 (by simp)
end Go.Proofs.Ythmfncklepkddaa

/-
  How many words of a length an automaton accepts; whether it accepts finitely many; which lengths its words have. Of no function of the program.
-/
namespace Go.Proofs.Ythmfncklepkddaa

/-- How many words of n letters lead from q to an accepting state. -/
def waysN (d : Au) : Nat → Nat → Nat
  | 0, q => if d.A q then 1 else 0
  | n + 1, q => waysN d n (d.T q 0) + waysN d n (d.T q 1) + waysN d n (d.T q 2)
/-- All words of n letters, in the alphabet's order. -/
def wordsN : Nat → List (List Nat)
  | 0 => [[]]
  | n + 1 => (wordsN n).map (0 :: ·) ++ (wordsN n).map (1 :: ·) ++ (wordsN n).map (2 :: ·)
theorem mem_wordsN : ∀ {n : Nat} {w : List Nat}, w ∈ wordsN n ↔ W3 w ∧ w.length = n
  | 0, w => by
    rw [wordsN, List.mem_singleton]
    constructor
    · rintro rfl
      exact ⟨W3.nil, rfl⟩
    · rintro ⟨_, h⟩
      exact List.length_eq_zero_iff.1 h
  | n + 1, w => by
    have key : ∀ k, w ∈ (wordsN n).map (k :: ·) ↔ ∃ u, w = k :: u ∧ W3 u ∧ u.length = n := fun k => by
      rw [List.mem_map]
      constructor
      · rintro ⟨u, hu, rfl⟩
        exact ⟨u, rfl, mem_wordsN.1 hu⟩
      · rintro ⟨u, rfl, hu⟩
        exact ⟨u, mem_wordsN.2 hu, rfl⟩
    rw [wordsN, List.mem_append, List.mem_append, key, key, key]
    constructor
    · rintro ((⟨u, rfl, hu, hl⟩ | ⟨u, rfl, hu, hl⟩) | ⟨u, rfl, hu, hl⟩) <;> exact ⟨W3.cons (by omega) hu, by simp [hl]⟩
    · rintro ⟨hw, hl⟩
      cases w with
      | nil => simp at hl
      | cons k u =>
        obtain ⟨hk, hu⟩ := hw.tail
        match k, hk with
        | 0, _ => exact .inl (.inl ⟨u, rfl, hu, by simpa using hl⟩)
        | 1, _ => exact .inl (.inr ⟨u, rfl, hu, by simpa using hl⟩)
        | 2, _ => exact .inr ⟨u, rfl, hu, by simpa using hl⟩
theorem waysN_count (d : Au) : ∀ (n q : Nat), waysN d n q = ((wordsN n).filter fun w => d.A (d.run q w)).length
  | 0, q => by
    simp only [waysN, wordsN, List.filter_cons, List.filter_nil]
    show (if d.A q = true then 1 else 0) = (if d.A (d.run q []) = true then [[]] else ([] : List (List Nat))).length
    show (if d.A q = true then 1 else 0) = (if d.A q = true then [[]] else ([] : List (List Nat))).length
    split <;> rfl
  | n + 1, q => by
    rw [waysN, waysN_count d n, waysN_count d n, waysN_count d n, wordsN, List.filter_append, List.filter_append, List.length_append, List.length_append]
    simp only [List.filter_map, List.length_map]
    rfl
theorem waysN_le (d : Au) : ∀ (n q : Nat), waysN d n q ≤ 3 ^ n
  | 0, q => by
    rw [waysN]
    split <;> simp
  | n + 1, q => by
    have h0 := waysN_le d n (d.T q 0)
    have h1 := waysN_le d n (d.T q 1)
    have h2 := waysN_le d n (d.T q 2)
    rw [waysN, Nat.pow_succ]
    omega
theorem waysN_pos {d : Au} {n q : Nat} : 0 < waysN d n q ↔ ∃ w, W3 w ∧ w.length = n ∧ d.A (d.run q w) = true := by
  rw [waysN_count, List.length_pos_iff_exists_mem]
  constructor
  · rintro ⟨w, hw⟩
    obtain ⟨h1, h2⟩ := List.mem_filter.1 hw
    obtain ⟨h3, h4⟩ := mem_wordsN.1 h1
    exact ⟨w, h3, h4, h2⟩
  · rintro ⟨w, h1, h2, h3⟩
    exact ⟨w, List.mem_filter.2 ⟨mem_wordsN.2 ⟨h1, h2⟩, h3⟩⟩

/-! Finitely many words. -/
theorem W3.app {u v : List Nat} (h : W3 u) (h' : W3 v) : W3 (u ++ v) := fun x hx => (List.mem_append.1 hx).elim (h x) (h' x)
theorem W3.left {u v : List Nat} (h : W3 (u ++ v)) : W3 u := fun x hx => h x (List.mem_append_left _ hx)
theorem W3.right {u v : List Nat} (h : W3 (u ++ v)) : W3 v := fun x hx => h x (List.mem_append_right _ hx)
/-- Each accepted word has fewer than so many letters. -/
def FinL (d : Au) : Prop := ∃ M, ∀ w, W3 w → d.A (d.run 0 w) = true → w.length < M
/-- At least one letter leads from p to q. -/
def Rch (d : Au) (p q : Nat) : Prop := ∃ w, W3 w ∧ w ≠ [] ∧ d.run p w = q
/-- A state that is met, leads back to itself and to an accepting state. -/
def Loops (d : Au) : Prop := ∃ q, (q = 0 ∨ Rch d 0 q) ∧ Rch d q q ∧ ∃ r, Rch d q r ∧ d.A r = true
theorem pump (d : Au) {q : Nat} {v : List Nat} (h : d.run q v = q) : ∀ i, d.run q (List.replicate i v).flatten = q
  | 0 => rfl
  | i + 1 => by
    rw [List.replicate_succ, List.flatten_cons, Au.run_append, h]
    exact pump d h i
theorem pump_W3 {v : List Nat} (h : W3 v) (i : Nat) : W3 (List.replicate i v).flatten := fun x hx => by
  obtain ⟨l, hl, hx⟩ := List.mem_flatten.1 hx
  rw [(List.mem_replicate.1 hl).2] at hx
  exact h x hx
theorem pump_len {v : List Nat} (h : v ≠ []) : ∀ i, i ≤ (List.replicate i v).flatten.length
  | 0 => Nat.zero_le _
  | i + 1 => by
    rw [List.replicate_succ, List.flatten_cons, List.length_append]
    have := pump_len h i
    have := List.length_pos_iff.2 h
    omega
theorem loops_inf {d : Au} (h : Loops d) : ¬ FinL d := by
  rintro ⟨M, hM⟩
  obtain ⟨q, hq, ⟨v, hv, hv0, hvq⟩, r, ⟨x, hx, -, hxr⟩, hr⟩ := h
  obtain ⟨u, hu, huq⟩ : ∃ u, W3 u ∧ d.run 0 u = q := by
    rcases hq with rfl | ⟨u, hu, -, huq⟩
    · exact ⟨[], W3.nil, rfl⟩
    · exact ⟨u, hu, huq⟩
  have h1 := hM (u ++ ((List.replicate M v).flatten ++ x)) (hu.app ((pump_W3 hv M).app hx)) (by rw [Au.run_append, huq, Au.run_append, pump d hvq M, hxr]; exact hr)
  have h2 := pump_len hv0 M
  rw [List.length_append, List.length_append] at h1
  omega
/-- Of more places than states two bear the same one. -/
theorem pigeon {n : Nat} : ∀ (f : Nat → Nat) (m : Nat), n < m → (∀ i, i < m → f i < n) → ∃ i j, i < j ∧ j < m ∧ f i = f j := by
  intro f m hm hf
  apply Classical.byContradiction
  intro hn
  have hnd : ((List.range m).map f).Nodup := by
    rw [List.nodup_iff_pairwise_ne, List.pairwise_map]
    exact List.pairwise_iff_getElem.2 fun i j hi hj hij => fun e => by
      simp only [List.length_range] at hi hj
      simp only [List.getElem_range] at e
      exact hn ⟨i, j, hij, hj, e⟩
  have hle := nodup_len n _ hnd (fun x hx => by
    obtain ⟨i, hi, rfl⟩ := List.mem_map.1 hx
    exact hf i (List.mem_range.1 hi))
  rw [List.length_map, List.length_range] at hle
  omega
/-- A word of as many letters as there are states goes round: it is parted so that its middle part leads back. -/
theorem parted {d : Au} (hd : d.wf) {w : List Nat} (hw : W3 w) (hl : d.n ≤ w.length) : ∃ u v x, w = u ++ (v ++ x) ∧ v ≠ [] ∧ v.length ≤ d.n ∧ d.run (d.run 0 u) v = d.run 0 u := by
  obtain ⟨i, j, hij, hj, e⟩ := pigeon (n := d.n) (fun i => d.run 0 (w.take i)) (d.n + 1) (by omega) (fun i _ => Au.run_lt hd _ 0 (fun x hx => hw x (List.mem_of_mem_take hx)) hd.1)
  have e1 : w.take j = w.take i ++ (w.take j).drop i := by
    conv => lhs; rw [← List.take_append_drop i (w.take j)]
    rw [List.take_take, Nat.min_eq_left (by omega)]
  refine ⟨w.take i, (w.take j).drop i, w.drop j, ?_, ?_, ?_, ?_⟩
  · rw [← List.append_assoc, ← e1, List.take_append_drop]
  · intro h
    have := congrArg List.length h
    simp only [List.length_drop, List.length_take, List.length_nil] at this
    omega
  · simp only [List.length_drop, List.length_take]
    omega
  · rw [← Au.run_append, ← e1]
    exact e.symm
theorem long_loops {d : Au} (hd : d.wf) {w : List Nat} (hw : W3 w) (hl : d.n ≤ w.length) (ha : d.A (d.run 0 w) = true) : Loops d := by
  obtain ⟨u, v, x, rfl, hv, -, hr⟩ := parted hd hw hl
  refine ⟨d.run 0 u, ?_, ⟨v, hw.right.left, hv, hr⟩, d.run 0 (u ++ (v ++ x)), ⟨v ++ x, hw.right, ?_, ?_⟩, ha⟩
  · by_cases hu : u = []
    · exact .inl (by rw [hu]; rfl)
    · exact .inr ⟨u, hw.left, hu, rfl⟩
  · intro h
    exact hv (List.append_eq_nil_iff.1 h).1
  · rw [Au.run_append, Au.run_append, Au.run_append]
theorem fin_iff {d : Au} (hd : d.wf) : FinL d ↔ ¬ Loops d := by
  constructor
  · exact fun h h' => loops_inf h' h
  · intro h
    refine ⟨d.n, fun w hw ha => ?_⟩
    apply Nat.lt_of_not_le
    exact fun hl => h (long_loops hd hw hl ha)
/-- .. as it shows in the words of n to 2 n - 1 letters. -/
theorem fin_ways {d : Au} (hd : d.wf) : FinL d ↔ ∀ m, d.n ≤ m → m < 2 * d.n → waysN d m 0 = 0 := by
  have hz : ∀ m, waysN d m 0 = 0 ↔ ¬ ∃ w, W3 w ∧ w.length = m ∧ d.A (d.run 0 w) = true := fun m => by
    rw [← waysN_pos]
    omega
  constructor
  · intro h m h1 _
    rw [hz]
    rintro ⟨w, hw, rfl, ha⟩
    exact (fin_iff hd).1 h (long_loops hd hw h1 ha)
  · intro h
    refine ⟨d.n, ?_⟩
    have key : ∀ L (w : List Nat), w.length = L → W3 w → d.A (d.run 0 w) = true → w.length < d.n := by
      intro L
      induction L using Nat.strongRecOn with
      | ind L ih =>
        intro w hwl hw ha
        apply Nat.lt_of_not_le
        intro hl
        by_cases h2 : w.length < 2 * d.n
        · exact (hz _).1 (h w.length hl h2) ⟨w, hw, rfl, ha⟩
        · obtain ⟨u, v, x, rfl, hv, hvl, hr⟩ := parted hd hw hl
          have h3 := List.length_pos_iff.2 hv
          rw [List.length_append, List.length_append] at hwl hl h2
          have h4 := ih (u ++ x).length (by rw [List.length_append]; omega) (u ++ x) rfl (hw.left.app hw.right.right) (by
            rw [Au.run_append, Au.run_append, hr] at ha
            rw [Au.run_append]
            exact ha)
          rw [List.length_append] at h4
          omega
    exact fun w hw ha => key _ w rfl hw ha

/-! The sets of states that are reached by words of a length. -/
def nextS (d : Au) (s : List Nat) : List Nat := (moveS d s 0 ++ (moveS d s 1 ++ moveS d s 2)).foldl putS []
theorem mem_fold_put {x : Nat} : ∀ (l o : List Nat), x ∈ l.foldl putS o ↔ x ∈ o ∨ x ∈ l
  | [], o => by simp
  | y :: l, o => by
    rw [List.foldl_cons, mem_fold_put l, mem_putS, List.mem_cons]
    constructor
    · rintro ((h | h) | h)
      · exact .inr (.inl h)
      · exact .inl h
      · exact .inr (.inr h)
    · rintro (h | h | h)
      · exact .inl (.inr h)
      · exact .inl (.inl h)
      · exact .inr h
theorem fold_put_asc : ∀ (l o : List Nat), o.Pairwise (· < ·) → (l.foldl putS o).Pairwise (· < ·)
  | [], _, h => h
  | _ :: l, _, h => fold_put_asc l _ (putS_asc h)
theorem mem_nextS {d : Au} {s : List Nat} {x : Nat} : x ∈ nextS d s ↔ ∃ q ∈ s, ∃ k, k < 3 ∧ d.T q k = x := by
  unfold nextS
  rw [mem_fold_put, List.mem_append, List.mem_append, mem_move, mem_move, mem_move]
  constructor
  · rintro (h | ⟨q, hq, e⟩ | ⟨q, hq, e⟩ | ⟨q, hq, e⟩)
    · cases h
    · exact ⟨q, hq, 0, by omega, e⟩
    · exact ⟨q, hq, 1, by omega, e⟩
    · exact ⟨q, hq, 2, by omega, e⟩
  · rintro ⟨q, hq, k, hk, e⟩
    match k, hk with
    | 0, _ => exact .inr (.inl ⟨q, hq, e⟩)
    | 1, _ => exact .inr (.inr (.inl ⟨q, hq, e⟩))
    | 2, _ => exact .inr (.inr (.inr ⟨q, hq, e⟩))
def stS (d : Au) : Nat → List Nat
  | 0 => [0]
  | n + 1 => nextS d (stS d n)
theorem stS_asc (d : Au) : ∀ n, (stS d n).Pairwise (· < ·)
  | 0 => by simp [stS]
  | _ + 1 => fold_put_asc _ _ List.Pairwise.nil
theorem mem_stS {d : Au} : ∀ {n x : Nat}, x ∈ stS d n ↔ ∃ w, W3 w ∧ w.length = n ∧ d.run 0 w = x
  | 0, x => by
    rw [stS, List.mem_singleton]
    constructor
    · rintro rfl
      exact ⟨[], W3.nil, rfl, rfl⟩
    · rintro ⟨w, _, h, rfl⟩
      rw [List.length_eq_zero_iff.1 h]
      rfl
  | n + 1, x => by
    rw [stS, mem_nextS]
    constructor
    · rintro ⟨q, hq, k, hk, rfl⟩
      obtain ⟨w, h1, h2, rfl⟩ := mem_stS.1 hq
      exact ⟨w ++ [k], h1.app (W3.cons hk W3.nil), by simp [h2], by rw [Au.run_append]; rfl⟩
    · rintro ⟨w, h1, h2, rfl⟩
      have hne : w ≠ [] := fun e => by rw [e] at h2; simp at h2
      obtain ⟨u, k, rfl⟩ : ∃ u k, w = u ++ [k] := ⟨w.dropLast, w.getLast hne, (List.dropLast_concat_getLast hne).symm⟩
      exact ⟨d.run 0 u, mem_stS.2 ⟨u, h1.left, by simpa using h2, rfl⟩, k, h1.right k (List.mem_singleton.2 rfl), by rw [Au.run_append]; rfl⟩
theorem stS_any {d : Au} {n : Nat} : anyS d (stS d n) = decide (0 < waysN d n 0) := by
  rw [Bool.eq_iff_iff, anyS_iff, decide_eq_true_iff, waysN_pos]
  constructor
  · rintro ⟨q, hq, ha⟩
    obtain ⟨w, h1, h2, rfl⟩ := mem_stS.1 hq
    exact ⟨w, h1, h2, ha⟩
  · rintro ⟨w, h1, h2, ha⟩
    exact ⟨_, mem_stS.2 ⟨w, h1, h2, rfl⟩, ha⟩
theorem stS_lt {d : Au} (hd : d.wf) {n x : Nat} (h : x ∈ stS d n) : x < d.n := by
  obtain ⟨w, h1, _, rfl⟩ := mem_stS.1 h
  exact Au.run_lt hd w 0 h1 hd.1
/-- The sets go on from m as from n. -/
theorem stS_shift {d : Au} {m n : Nat} (h : stS d n = stS d m) : ∀ i, stS d (n + i) = stS d (m + i)
  | 0 => h
  | i + 1 => by
    show nextS d (stS d (n + i)) = nextS d (stS d (m + i))
    rw [stS_shift h i]
/-- What LengthsOf answers of a valid automaton: the sets ahead of the n-th are all different, the n-th is the m-th. -/
def LenR (d : Au) (out : List Bool) (p : Nat) : Prop := ∃ n m, m < n ∧ stS d n = stS d m ∧ (∀ i j, i < j → j < n → stS d i ≠ stS d j) ∧ out = (List.range n).map (fun i => anyS d (stS d i)) ∧ p = n - m
theorem lenR_one {d : Au} {o o' : List Bool} {p p' : Nat} (h : LenR d o p) (h' : LenR d o' p') : o = o' ∧ p = p' := by
  obtain ⟨n, m, h1, h2, h3, rfl, rfl⟩ := h
  obtain ⟨n', m', h1', h2', h3', rfl, rfl⟩ := h'
  have e : n = n' := by
    rcases Nat.lt_trichotomy n n' with hl | e | hl
    · exact absurd h2.symm (h3' m n h1 hl)
    · exact e
    · exact absurd h2'.symm (h3 m' n' h1' hl)
  subst e
  have e : m = m' := by
    rcases Nat.lt_trichotomy m m' with hl | e | hl
    · exact absurd (h2.symm.trans h2') (h3 m m' hl h1')
    · exact e
    · exact absurd (h2'.symm.trans h2) (h3 m' m hl h1)
  subst e
  exact ⟨rfl, rfl⟩
/-- The list, continued by its period, tells for each length whether a word has it. -/
theorem LenR.at {d : Au} {o : List Bool} {p : Nat} (h : LenR d o p) : 0 < p ∧ p ≤ o.length ∧ (∀ i, i < o.length → o[i]? = some (decide (0 < waysN d i 0))) ∧ ∀ i, o.length ≤ i → (decide (0 < waysN d i 0)) = decide (0 < waysN d (i - p) 0) := by
  obtain ⟨n, m, h1, h2, -, rfl, rfl⟩ := h
  have hl : ((List.range n).map (fun i => anyS d (stS d i))).length = n := by simp
  rw [hl]
  refine ⟨by omega, by omega, fun i hi => ?_, fun i hi => ?_⟩
  · rw [List.getElem?_map, List.getElem?_range hi, ← stS_any]
    rfl
  · rw [← stS_any, ← stS_any]
    have := stS_shift h2 (i - n)
    rw [show n + (i - n) = i by omega, show m + (i - n) = i - (n - m) by omega] at this
    rw [this]
end Go.Proofs.Ythmfncklepkddaa

/-
  What the functions over languages answer: the first word, the first word that tells two automata apart, inclusion, counts, finiteness. Of no function of the program but the answers' names.
-/
namespace Go.Proofs.Ythmfncklepkddaa
open Go.RowKit

def wO : Option (List Nat) → ByteArray
  | none => ⟨#[]⟩
  | some u => wbytes u
theorem firstR_some {a : Au} (ha : a.wf) : ∃ r, FirstR (fun u => a.A (a.run 0 u) = true) r ∧ ∀ u, r = some u → u.length < a.n := by
  obtain ⟨N, hN, hE⟩ := au_ends ha
  have hon : ∀ i, i < N → i < (ords 0 a.T (3 * i)).length := hE.on
  by_cases h : ∃ i, i < N ∧ a.A (keyI 0 a.T i) = true
  · have key : ∀ i, i < N → a.A (keyI 0 a.T i) = true → ∃ j, j < N ∧ a.A (keyI 0 a.T j) = true ∧ ∀ m, m < j → a.A (keyI 0 a.T m) = false := by
      intro i
      induction i using Nat.strongRecOn with
      | ind i ih =>
        intro hi hg
        by_cases hm : ∃ m, m < i ∧ a.A (keyI 0 a.T m) = true
        · obtain ⟨m, h1, h2⟩ := hm
          exact ih m h1 (by omega) h2
        · refine ⟨i, hi, hg, fun m hmi => ?_⟩
          rw [← Bool.not_eq_true]
          exact fun hh => hm ⟨m, hmi, hh⟩
    obtain ⟨i, hi, hg⟩ := h
    obtain ⟨j, hj, hg, hn⟩ := key i hi hg
    obtain ⟨h1, h2⟩ := fst_here ha (fun m hm => hon m (by omega)) (hon j hj) hg hn
    refine ⟨_, h1, fun u hu => ?_⟩
    cases hu
    omega
  · refine ⟨none, fst_end hon (by rw [ordI_length]; have := hE.stop; omega) (fun j hj => ?_), fun u hu => by cases hu⟩
    rw [← Bool.not_eq_true]
    exact fun hh => h ⟨j, hj, hh⟩
/-- What ShortestWord answers. -/
def shoR (d : Dx) (s : ByteArray) (ok : Bool) : Prop := if validD d = true then ∃ r, FirstR (fun u => (auD d).A ((auD d).run 0 u) = true) r ∧ s = wO r ∧ ok = r.isSome else s = ⟨#[]⟩ ∧ ok = false
theorem shoR_some (d : Dx) : ∃ s ok, shoR d s ok := by
  unfold shoR
  by_cases h : validD d = true
  · simp only [if_pos h]
    obtain ⟨r, hr, -⟩ := firstR_some (fieldsOf_au h).1
    exact ⟨_, _, r, hr, rfl, rfl⟩
  · simp only [if_neg h]
    exact ⟨_, _, rfl, rfl⟩
theorem shoR_yes {d : Dx} {s : ByteArray} {ok : Bool} (h : shoR d s ok) (hv : validD d = true) {r : Option (List Nat)} (hr : FirstR (fun u => (auD d).A ((auD d).run 0 u) = true) r) : s = wO r ∧ ok = r.isSome := by
  unfold shoR at h
  rw [if_pos hv] at h
  obtain ⟨r', h1, h2, h3⟩ := h
  rw [firstR_one h1 hr] at h2 h3
  exact ⟨h2, h3⟩
theorem shoR_no {d : Dx} {s : ByteArray} {ok : Bool} (h : shoR d s ok) (hv : validD d = false) : s = ⟨#[]⟩ ∧ ok = false := by
  unfold shoR at h
  rwa [if_neg (by rw [hv]; decide)] at h
/-- The automaton of pairs; what it tells of a pair. -/
def pairF (both : Bool) (p q : Bool) : Bool := (p && !q) || (both && q && !p)
theorem pairF_differ (p q : Bool) : pairF true p q = (p != q) := by cases p <;> cases q <;> rfl
theorem pairF_less (p q : Bool) : pairF false p q = (p && !q) := by cases p <;> cases q <;> rfl
/-- The first word that the automaton of pairs accepts, as an answer. -/
def tellR (both : Bool) (a b : Dx) (s : ByteArray) (ok : Bool) : Prop :=
  if validD a = true ∧ validD b = true then ∃ r, FirstR (fun u => pairF both ((auD a).A ((auD a).run 0 u)) ((auD b).A ((auD b).run 0 u)) = true) r ∧ s = wO r ∧ ok = r.isSome else s = ⟨#[]⟩ ∧ ok = false
theorem firstR_congr {P Q : List Nat → Prop} (h : ∀ w, W3 w → (P w ↔ Q w)) : ∀ {r : Option (List Nat)}, FirstR P r → FirstR Q r
  | none, hr => fun w hw hq => hr w hw ((h w hw).2 hq)
  | some w, ⟨h1, h2, h3⟩ => ⟨h1, (h w h1).1 h2, fun v hv hq => h3 v hv ((h v hv).2 hq)⟩
theorem tell_pairs {both : Bool} {a b : Au} (hb : b.wf) {r : Option (List Nat)} (hr : FirstR (fun u => (prd a b (pairF both)).A ((prd a b (pairF both)).run 0 u) = true) r) : FirstR (fun u => pairF both (a.A (a.run 0 u)) (b.A (b.run 0 u)) = true) r :=
  firstR_congr (fun w hw => by rw [prd_lang hb _ hw]) hr
theorem tellR_some (both : Bool) (a b : Dx) : ∃ s ok, tellR both a b s ok := by
  unfold tellR
  by_cases h : validD a = true ∧ validD b = true
  · simp only [if_pos h]
    obtain ⟨r, hr, -⟩ := firstR_some (prd_wf (pairF both) (fieldsOf_au h.1).1 (fieldsOf_au h.2).1)
    exact ⟨_, _, r, tell_pairs (fieldsOf_au h.2).1 hr, rfl, rfl⟩
  · simp only [if_neg h]
    exact ⟨_, _, rfl, rfl⟩
theorem tellR_yes {both : Bool} {a b : Dx} {s : ByteArray} {ok : Bool} (h : tellR both a b s ok) (ha : validD a = true) (hb : validD b = true) {r : Option (List Nat)} (hr : FirstR (fun u => pairF both ((auD a).A ((auD a).run 0 u)) ((auD b).A ((auD b).run 0 u)) = true) r) : s = wO r ∧ ok = r.isSome := by
  unfold tellR at h
  rw [if_pos ⟨ha, hb⟩] at h
  obtain ⟨r', h1, h2, h3⟩ := h
  rw [firstR_one h1 hr] at h2 h3
  exact ⟨h2, h3⟩
theorem tellR_no {both : Bool} {a b : Dx} {s : ByteArray} {ok : Bool} (h : tellR both a b s ok) (hv : ¬ (validD a = true ∧ validD b = true)) : s = ⟨#[]⟩ ∧ ok = false := by
  unfold tellR at h
  rwa [if_neg hv] at h
/-- What CountWords answers. -/
def cntR (d : Dx) (n : Int) : Int := if validD d = true ∧ 0 ≤ n ∧ n ≤ 20 then (waysN (auD d) n.toNat 0 : Int) else 0
/-- What IsFinite answers. -/
noncomputable def finB (d : Dx) : Bool := @decide (validD d = true ∧ FinL (auD d)) (Classical.propDecidable _)
theorem finB_iff {d : Dx} : finB d = true ↔ validD d = true ∧ FinL (auD d) := @decide_eq_true_iff _ (Classical.propDecidable _)
/-- What LengthsOf answers. -/
def lenR (d : Dx) (o : List Bool) (p : Int) : Prop := if validD d = true then ∃ q : Nat, LenR (auD d) o q ∧ p = q else o = [] ∧ p = 0
end Go.Proofs.Ythmfncklepkddaa

/-
  What IsIncluded answers. Of no function of the program.
-/
namespace Go.Proofs.Ythmfncklepkddaa
open Go.RowKit

/-- What IsIncluded answers. -/
def incR (d d' : Dx) (b : Bool) : Prop := if validD d = true ∧ validD d' = true then ∃ s ok, tellR false d d' s ok ∧ b = !ok else b = false
theorem incR_yes {d d' : Dx} {b : Bool} (h : incR d d' b) (hv : validD d = true) (hv' : validD d' = true) {r : Option (List Nat)} (hr : FirstR (fun u => pairF false ((auD d).A ((auD d).run 0 u)) ((auD d').A ((auD d').run 0 u)) = true) r) : b = !r.isSome := by
  unfold incR at h
  rw [if_pos ⟨hv, hv'⟩] at h
  obtain ⟨s, ok, h1, h2⟩ := h
  rw [h2, (tellR_yes h1 hv hv' hr).2]
theorem incR_no {d d' : Dx} {b : Bool} (h : incR d d' b) (hv : ¬ (validD d = true ∧ validD d' = true)) : b = false := by
  unfold incR at h
  rwa [if_neg hv] at h
theorem incR_some (d d' : Dx) : ∃ b, incR d d' b := by
  unfold incR
  by_cases h : validD d = true ∧ validD d' = true
  · simp only [if_pos h]
    obtain ⟨s, ok, h1⟩ := tellR_some false d d'
    exact ⟨_, s, ok, h1, rfl⟩
  · simp only [if_neg h]
    exact ⟨_, rfl⟩
end Go.Proofs.Ythmfncklepkddaa

/-
  What spec.EqualDfa answers: whether two automata are the same, field by field.
  What slices.Equal answers over rows of ints and of bools, slices.EqualFunc over rows of rows of ints, and impl.EqualDfa.
-/
namespace Go.Proofs.Ythmfncklepkddaa
open Go.RowKit

theorem list_eq_of {α : Type} (x : α) {l l' : List α} (hl : l.length = l'.length) (h : ∀ i, i < l.length → l.getD i x = l'.getD i x) : l = l' := by
  apply List.ext_getElem hl
  intro i h1 h2
  have := h i h1
  rwa [getD_at h1, getD_at h2] at this

set_option maxRecDepth 100000 in
set_option maxHeartbeats 1600000 in
theorem specInts_any (v v' : Value) (l l' : List Int) (S S' : Nat → Prop) (w : World) (h : RowV w S v (ints l)) (h' : RowV w S' v' (ints l')) :
    Calls Try.prog 56 #[v, v'] w fun e w' => e = .returned (.bool (decide (l = l'))) ∧ Below w.heap.size w w' := by
  obtain ⟨hl, A, c, rfl⟩ := h.ints_shape
  obtain ⟨hl', A', c', rfl⟩ := h'.ints_shape
  have HE := Lib.hid (fun j (hj : j < l.length) => h.intD hj)
  have HE' := Lib.hid (fun j (hj : j < l'.length) => h'.intD hj)
  clear h h'
  by_cases hlen : l.length = l'.length
  · have HLen := Lib.hid hlen
    have HYes : Hid ((∀ i, i < l.length → l.getD i 0 = l'.getD i 0) → decide (l = l') = true) := Lib.hid (fun h => decide_eq_true (list_eq_of 0 HLen.out h))
    have HNo : Hid (∀ i, l.getD i 0 ≠ l'.getD i 0 → decide (l = l') = false) := Lib.hid (fun i h => decide_eq_false (fun e => h (by rw [e])))
    obtain ⟨b, hb⟩ : ∃ b, b = decide (l = l') := ⟨_, rfl⟩
    rw [← hb] at HYes HNo ⊢
    obtain ⟨n, hn⟩ : ∃ n, n = l.length := ⟨_, rfl⟩
    rw [← hlen] at HE' hl' ⊢
    rw [← hn] at HE HE' hl HYes ⊢
    have HR : Hid (∀ j, j < n → ∃ ad ad', A = some ad ∧ A' = some ad' ∧ w.cell? (ad.add j) = some (.int .i64 (l.getD j 0)) ∧ w.cell? (ad'.add j) = some (.int .i64 (l'.getD j 0))) := Lib.hid (fun j hj => by
      obtain ⟨ad, e, -, hc⟩ := HE.out j hj
      obtain ⟨ad', e', -, hc'⟩ := HE'.out j hj
      exact ⟨ad, ad', e, e', hc, hc'⟩)
    clear hb hn hlen HE HE'
    have hne : ((n : Int) != (n : Int)) = false := by simp
    go_enter Try.func56, Try.ntmps56
    go_wp2_with fail
    clear hne
    go_loopw [5] (fun i wr => ∃ j m : Nat, i = .int .i64 j ∧ j ≤ n ∧ wr = w.drewN m ∧ Hid (∀ i, i < j → l.getD i 0 = l'.getD i 0)) (fun i _ => n - (intOf i).toNat)
    case atStart => exact ⟨0, 0, rfl, Nat.zero_le _, rfl, Lib.hid (fun i hi => absurd hi (Nat.not_lt_zero _))⟩
    case round =>
      obtain ⟨j, m, rfl, hj, rfl, hall⟩ := hrel
      by_cases hlt : j < n
      · obtain ⟨ad, ad', rfl, rfl, hc1, hc2⟩ := HR.out j hlt
        obtain ⟨x, hx⟩ : ∃ x, x = l.getD j 0 := ⟨_, rfl⟩
        obtain ⟨x', hx'⟩ : ∃ x', x' = l'.getD j 0 := ⟨_, rfl⟩
        rw [← hx] at hc1
        rw [← hx'] at hc2
        by_cases hxx : x = x'
        · subst hxx
          have HX : Hid (l.getD j 0 = l'.getD j 0) := Lib.hid (by rw [← hx, ← hx'])
          have hne : (x != x) = false := by simp
          clear hx hx'
          go_wp2_with fail
          go_quiet (fail)
          all_goals go_wp2
          all_goals
            go_roundw
            case rel => exact ⟨j + 1, _, by go_num, by omega, rfl, Lib.hid (fun i hi => by
              by_cases e : i = j
              · rw [e]; exact HX.out
              · exact hall.out i (by omega))⟩
            case measure => simp [intOf]; omega
        · have hne : (x != x') = true := by simpa using hxx
          have HF : Hid (b = false) := Lib.hid (HNo.out j (by rw [← hx, ← hx']; exact hxx))
          clear hx hx' hxx
          go_wp2_with fail
          go_quiet (fail)
          all_goals go_wp2
          all_goals
            go_ret
            exact ⟨congrArg (fun b : Bool => Ending.returned (.bool b)) HF.out.symm, below_draws (below_draws (Below.refl _ _) _) _⟩
      · obtain rfl : j = n := by omega
        have HF : Hid (b = true) := Lib.hid (HYes.out hall.out)
        go_wp2_with fail
        go_ret
        exact ⟨congrArg (fun b : Bool => Ending.returned (.bool b)) HF.out.symm, below_draws (Below.refl _ _) m⟩
  · have HF : Hid (decide (l = l') = false) := Lib.hid (decide_eq_false (fun e => hlen (by rw [e])))
    have hne : ((l.length : Int) != (l'.length : Int)) = true := by simp; omega
    clear hlen
    go_enter Try.func56, Try.ntmps56
    go_wp2_with fail
    go_ret
    exact ⟨congrArg (fun b : Bool => Ending.returned (.bool b)) HF.out.symm, Below.refl _ _⟩
theorem bool_ne {x y : Bool} (h : ¬ x = y) : (x = true ∧ y = false) ∨ (x = false ∧ y = true) := by cases x <;> cases y <;> simp at h ⊢
end Go.Proofs.Ythmfncklepkddaa

/-
  What spec.EqualDfa answers.
-/
namespace Go.Proofs.Ythmfncklepkddaa
open Go.RowKit

def sameD (d d' : Dx) : Bool := decide (d.acc = d'.acc ∧ d.nxt = d'.nxt)
theorem sameD_refl (d : Dx) : sameD d d = true := by simp [sameD]

set_option maxRecDepth 100000 in
set_option maxHeartbeats 3200000 in
theorem specEqD_any (va vn va' vn' : Value) (d d' : Dx) (S S' : Nat → Prop) (w : World) (h : DfaV w S va vn d) (h' : DfaV w S' va' vn' d') :
    Calls Try.prog 17 #[.agg #[va, vn], .agg #[va', vn']] w fun e w' => e = .returned (.bool (sameD d d')) ∧ Below w.heap.size w w' := by
  obtain ⟨⟨A, c, rfl⟩, A', c', rfl⟩ := h.shape
  obtain ⟨⟨B, e, rfl⟩, B', e', rfl⟩ := h'.shape
  obtain ⟨W0, hW0⟩ : ∃ W0, W0 = (w.alloc (.cells #[.slice A d.acc.length c, .slice A' d.nxt.length c'] 27)).alloc (.cells #[.slice B d'.acc.length e, .slice B' d'.nxt.length e'] 27) := ⟨_, rfl⟩
  have HB0 : Hid (Below w.heap.size w W0) := Lib.hid (by rw [hW0]; exact ((Below.refl _ _).alloc (Nat.le_refl _) _).alloc (by simp) _)
  have HX : Hid (Bx2 W0 w.heap.size (.slice A d.acc.length c) (.slice A' d.nxt.length c') ∧ Bx2 W0 (w.heap.size + 1) (.slice B d'.acc.length e) (.slice B' d'.nxt.length e')) := Lib.hid (by
    have k := box2_kept (w := w) (w1 := W0) (a := .slice A d.acc.length c) (b := .slice A' d.nxt.length c') (t := 27) (by rw [hW0]; exact (Below.refl _ _).alloc (by simp) _)
    have k' := box2_kept (w := w.alloc (.cells #[.slice A d.acc.length c, .slice A' d.nxt.length c'] 27)) (w1 := W0) (a := .slice B d'.acc.length e) (b := .slice B' d'.nxt.length e') (t := 27) (by rw [hW0]; exact Below.refl _ _)
    rw [World.size_alloc] at k'
    exact ⟨⟨k.2.1, k.2.2.1⟩, k'.2.1, k'.2.2.1⟩)
  have ha := h.1.kept HB0.out
  have ha' := h'.1.kept HB0.out
  have hr := h.2.kept HB0.out
  have hr' := h'.2.kept HB0.out
  have hl1 := h.1.1
  have hl2 := h.2.shape.1
  rw [bools_length] at hl1
  rw [intss_length] at hl2
  clear h h'
  by_cases hn : d.acc.length = d'.acc.length
  · by_cases hm : d.nxt.length = d'.nxt.length
    · have HYes : Hid ((∀ i, i < d.acc.length → d.acc.getD i false = d'.acc.getD i false) → (∀ i, i < d.nxt.length → d.nxt.getD i [] = d'.nxt.getD i []) → sameD d d' = true) := Lib.hid (fun h1 h2 => decide_eq_true ⟨list_eq_of false hn h1, list_eq_of [] hm h2⟩)
      have HNo1 : Hid (∀ i, d.acc.getD i false ≠ d'.acc.getD i false → sameD d d' = false) := Lib.hid (fun i h => decide_eq_false (fun e => h (by rw [e.1])))
      have HNo2 : Hid (∀ i, d.nxt.getD i [] ≠ d'.nxt.getD i [] → sameD d d' = false) := Lib.hid (fun i h => decide_eq_false (fun e => h (by rw [e.2])))
      obtain ⟨b, hb⟩ : ∃ b, b = sameD d d' := ⟨_, rfl⟩
      rw [← hb] at HYes HNo1 HNo2 ⊢
      obtain ⟨n, hne⟩ : ∃ n, n = d.acc.length := ⟨_, rfl⟩
      obtain ⟨m, hme⟩ : ∃ m, m = d.nxt.length := ⟨_, rfl⟩
      have HA : Hid (∀ j, j < n → ∃ ad ad', A = some ad ∧ B = some ad' ∧ W0.cell? (ad.add j) = some (.bool (d.acc.getD j false)) ∧ W0.cell? (ad'.add j) = some (.bool (d'.acc.getD j false))) := Lib.hid (fun j hj => by
        obtain ⟨ad, e1, -, hc⟩ := ha.boolD (j := j) (by omega)
        obtain ⟨ad', e2, -, hc'⟩ := ha'.boolD (j := j) (by omega)
        exact ⟨ad, ad', e1, e2, hc, hc'⟩)
      have HR : Hid (∀ j, j < m → ∃ ad ad' u u', A' = some ad ∧ B' = some ad' ∧ W0.cell? (ad.add j) = some u ∧ W0.cell? (ad'.add j) = some u' ∧ RowV W0 S u (ints (d.nxt.getD j [])) ∧ RowV W0 S' u' (ints (d'.nxt.getD j []))) := Lib.hid (fun j hj => by
        obtain ⟨ad, u, e1, -, hc, h1⟩ := hr.atD (j := j) (by omega)
        obtain ⟨ad', u', e2, -, hc', h2⟩ := hr'.atD (j := j) (by omega)
        exact ⟨ad, ad', u, u', e1, e2, hc, hc', h1, h2⟩)
      rw [← hn, ← hm] at HX hW0
      rw [← hne] at HX hW0 HYes hl1
      rw [← hme] at HX hW0 HYes hl2
      rw [← hn, ← hm, ← hne, ← hme]
      clear ha ha' hr hr' hb hn hm hne hme
      have hn1 : ((n : Int) != (n : Int)) = false := by simp
      have hm1 : ((m : Int) != (m : Int)) = false := by simp
      have hcc0 := HX.out.1
      have hcc1 := HX.out.2
      obtain ⟨c0, c1⟩ := hcc0
      obtain ⟨d0, d1⟩ := hcc1
      rw [hW0] at c0 c1 d0 d1
      go_enter Try.func17, Try.ntmps17
      go_wp2_with fail
      rw [← hW0]
      clear hW0 c0 c1 d0 d1 hn1 hm1
      go_loopw [5] (fun i wr => ∃ j : Nat, i = .int .i64 j ∧ j ≤ n ∧ Below W0.heap.size W0 wr ∧ Hid (∀ i, i < j → d.acc.getD i false = d'.acc.getD i false)) (fun i _ => n - (intOf i).toNat)
      case atStart => exact ⟨0, rfl, Nat.zero_le _, Below.refl _ _, Lib.hid (fun i hi => absurd hi (Nat.not_lt_zero _))⟩
      case round =>
        obtain ⟨j, rfl, hj, hb, hall⟩ := hrel
        have HBr := Lib.hid hb
        clear hb
        obtain ⟨c0, c1⟩ := HX.out.1.kept HBr.out
        obtain ⟨d0, d1⟩ := HX.out.2.kept HBr.out
        by_cases hlt : j < n
        · obtain ⟨ad, ad', rfl, rfl, hc1, hc2⟩ := HA.out j hlt
          obtain ⟨x, hx⟩ : ∃ x, x = d.acc.getD j false := ⟨_, rfl⟩
          obtain ⟨x', hx'⟩ : ∃ x', x' = d'.acc.getD j false := ⟨_, rfl⟩
          rw [← hx] at hc1
          rw [← hx'] at hc2
          have g1 := (HBr.out.cell (cell_in hc1)).trans hc1
          have g2 := (HBr.out.cell (cell_in hc2)).trans hc2
          clear hc1 hc2
          by_cases hxx : x = x'
          · subst hxx
            have HX2 : Hid (d.acc.getD j false = d'.acc.getD j false) := Lib.hid (by rw [← hx, ← hx'])
            have hne : (x != x) = false := by simp
            clear hx hx'
            go_wp2_with fail
            go_quiet (fail)
            all_goals go_wp2
            all_goals
              go_roundw
              case rel => exact ⟨j + 1, by go_num, by omega, below_draws HBr.out _, Lib.hid (fun i hi => by
                by_cases e : i = j
                · rw [e]; exact HX2.out
                · exact hall.out i (by omega))⟩
              case measure => simp [intOf]; omega
          · have HF : Hid (b = false) := Lib.hid (HNo1.out j (by rw [← hx, ← hx']; exact hxx))
            clear hx hx'
            rcases bool_ne hxx with ⟨rfl, rfl⟩ | ⟨rfl, rfl⟩
            all_goals
              clear hxx
              go_wp2_with fail
              go_quiet (fail)
              go_wp2
              go_ret
              exact ⟨congrArg (fun b : Bool => Ending.returned (.bool b)) HF.out.symm, HB0.out.trans ((below_draws HBr.out _).mono HB0.out.size)⟩
        · obtain rfl : j = n := by omega
          have HAll := Lib.hid hall.out
          clear hall
          go_wp2_with fail
          clear c0 c1 d0 d1
          go_loopw [6] (fun i wr' => ∃ k : Nat, i = .int .i64 k ∧ k ≤ m ∧ Below W0.heap.size W0 wr' ∧ Hid (∀ i, i < k → d.nxt.getD i [] = d'.nxt.getD i [])) (fun i _ => m - (intOf i).toNat)
          case atStart => exact ⟨0, rfl, Nat.zero_le _, HBr.out, Lib.hid (fun i hi => absurd hi (Nat.not_lt_zero _))⟩
          case round =>
            obtain ⟨k, rfl, hk, hb, hall⟩ := hrel
            have HBr := Lib.hid hb
            clear hb
            obtain ⟨c0, c1⟩ := HX.out.1.kept HBr.out
            obtain ⟨d0, d1⟩ := HX.out.2.kept HBr.out
            by_cases hlk : k < m
            · obtain ⟨ad, ad', u, u', rfl, rfl, hc1, hc2, hr1, hr2⟩ := HR.out k hlk
              have HC := Lib.hid (fun (V : World) (hV : Below W0.heap.size W0 V) => specInts_any u u' (d.nxt.getD k []) (d'.nxt.getD k []) S S' V (hr1.kept hV) (hr2.kept hV))
              have hbw : Below W0.heap.size W0 wr := HBr.out
              have HK := Lib.hid (fun (V : World) (hV : Below W0.heap.size W0 V) => (⟨(HX.out.1.kept hV).2, (HX.out.2.kept hV).2, (hV.cell (cell_in hc1)).trans hc1, (hV.cell (cell_in hc2)).trans hc2⟩ :
                V.cell? ⟨w.heap.size, 1, none⟩ = some (.slice (some ad) m c') ∧ V.cell? ⟨w.heap.size + 1, 1, none⟩ = some (.slice (some ad') m e') ∧ V.cell? (ad.add k) = some u ∧ V.cell? (ad'.add k) = some u'))
              obtain ⟨bb, hbb⟩ : ∃ bb, bb = decide (d.nxt.getD k [] = d'.nxt.getD k []) := ⟨_, rfl⟩
              rw [← hbb] at HC
              have HBB := Lib.hid hbb
              have s4 : (k : Int) < (m : Int) := by omega
              have s8 : (0 : Int) ≤ (k : Int) := by omega
              clear hbb hr1 hr2 hc1 hc2
              go_wp2_with fail
              clear c0 c1 d0 d1
              go_region_held3 (fun V => V.cell? ⟨w.heap.size, 1, none⟩ = some (.slice (some ad) m c') ∧ V.cell? ⟨w.heap.size + 1, 1, none⟩ = some (.slice (some ad') m e') ∧ V.cell? (ad.add k) = some u ∧ V.cell? (ad'.add k) = some u') (first | exact HK.out _ hbw.drew | exact HK.out _ hbw) (first | (go_at_call 56; (with_reducible refine (HC.out _ hbw.drew).mono ?_); rintro e w3 ⟨rfl, hb3⟩; have hbw := hbw.drew.trans (hb3.mono hbw.drew.size)))
              have HB3 := Lib.hid hbw
              clear hbw hb3
              cases bb with
              | true =>
                have HX2 : Hid (d.nxt.getD k [] = d'.nxt.getD k []) := Lib.hid (of_decide_eq_true HBB.out.symm)
                go_wp2_with fail
                go_roundw
                case rel => exact ⟨k + 1, by go_num, by omega, HB3.out, Lib.hid (fun i hi => by
                  by_cases e : i = k
                  · rw [e]; exact HX2.out
                  · exact hall.out i (by omega))⟩
                case measure => simp [intOf]; omega
              | false =>
                have HF : Hid (b = false) := Lib.hid (HNo2.out k (of_decide_eq_false HBB.out.symm))
                go_wp2_with fail
                go_ret
                exact ⟨congrArg (fun b : Bool => Ending.returned (.bool b)) HF.out.symm, HB0.out.trans (HB3.out.mono HB0.out.size)⟩
            · obtain rfl : k = m := by omega
              have HF : Hid (b = true) := Lib.hid (HYes.out HAll.out hall.out)
              go_wp2_with fail
              go_ret
              exact ⟨congrArg (fun b : Bool => Ending.returned (.bool b)) HF.out.symm, HB0.out.trans (HBr.out.mono HB0.out.size)⟩
    · have HF : Hid (sameD d d' = false) := Lib.hid (decide_eq_false (fun e => hm (by rw [e.2])))
      obtain ⟨n, hne⟩ : ∃ n, n = d.acc.length := ⟨_, rfl⟩
      rw [← hn] at HX hW0 ⊢
      rw [← hne] at HX hW0 ⊢ hl1
      have hn1 : ((n : Int) != (n : Int)) = false := by simp
      have hm1 : ((d.nxt.length : Int) != (d'.nxt.length : Int)) = true := by simp; omega
      obtain ⟨⟨c0, c1⟩, d0, d1⟩ := HX.out
      rw [hW0] at c0 c1 d0 d1
      clear ha ha' hr hr' hn hm hne
      go_enter Try.func17, Try.ntmps17
      go_wp2_with fail
      rw [← hW0]
      go_ret
      exact ⟨congrArg (fun b : Bool => Ending.returned (.bool b)) HF.out.symm, HB0.out⟩
  · have HF : Hid (sameD d d' = false) := Lib.hid (decide_eq_false (fun e => hn (by rw [e.1])))
    have hn1 : ((d.acc.length : Int) != (d'.acc.length : Int)) = true := by simp; omega
    obtain ⟨⟨c0, c1⟩, d0, d1⟩ := HX.out
    rw [hW0] at c0 c1 d0 d1
    clear ha ha' hr hr' hn
    go_enter Try.func17, Try.ntmps17
    go_wp2_with fail
    rw [← hW0]
    go_ret
    exact ⟨congrArg (fun b : Bool => Ending.returned (.bool b)) HF.out.symm, HB0.out⟩
end Go.Proofs.Ythmfncklepkddaa

/-
  Minimal automata, words that tell two apart, inclusion: what the laws compare. Of no function of the program.
-/
namespace Go.Proofs.Ythmfncklepkddaa
open Go.RowKit

theorem minR_bound {d y : Dx} (h : minR d y) {k : Nat} (hk : d.acc.length ≤ k) : y.acc.length ≤ k := by
  by_cases hv : validD d = true
  · obtain ⟨q1, q2, _⟩ := fieldsOf_au hv
    obtain ⟨m', h1, h2, h3⟩ := exists_min q1
    have h' : minR d (fieldsOf m') := by
      unfold minR
      rw [if_pos hv]
      exact ⟨m', h1, h2, rfl⟩
    rw [minR_one h h']
    show (accOf m').length ≤ k
    rw [accOf_length]
    have : (auD d).n = d.acc.length := rfl
    omega
  · unfold minR at h
    rw [if_neg hv] at h
    rw [h]
    exact Nat.zero_le _
theorem fields_eqv {m : Au} (h : m.wf) : Eqv (auD (fieldsOf m)) 0 m 0 := fun u hu => by
  have h1 := fields_run h u 0 hu h.1
  rw [h1]
  have h2 : m.run 0 u < m.n := Au.run_lt h u 0 hu h.1
  show (accOf m).getD (m.run 0 u) false = _
  rw [List.getD_eq_getElem?_getD, accOf_at m h2]
  rfl
theorem minR_self {d x : Dx} (h : minR d x) : minR x x := by
  by_cases hv : validD d = true
  · obtain ⟨m, h1, h2, rfl, h4⟩ := minR_au h hv
    unfold minR
    rw [if_pos (fields_valid h1.wf h4)]
    exact ⟨m, h1, (fields_eqv h1.wf).symm, rfl⟩
  · unfold minR at h
    rw [if_neg hv] at h
    subst h
    unfold minR
    rw [if_neg (by decide)]
/-- Letters of a word, as the program's. -/
theorem isW_wb {u : List Nat} (hu : W3 u) (hl : u.length ≤ 30) : isW (wbytes u).data.toList = true := by
  rw [wbytes_list]
  unfold isW
  rw [Bool.and_eq_true]
  refine ⟨List.all_eq_true.2 (fun b hb => ?_), by simpa using hl⟩
  obtain ⟨k, hk, rfl⟩ := List.mem_map.1 hb
  rcases (show k = 0 ∨ k = 1 ∨ k = 2 by have := hu k hk; omega) with rfl | rfl | rfl <;> decide
theorem idxs_wb {u : List Nat} (hu : W3 u) : idxs (wbytes u).data.toList = u := by
  rw [wbytes_list]
  unfold idxs
  rw [List.map_map]
  conv => rhs; rw [← List.map_id u]
  apply List.map_congr_left
  intro k hk
  rcases (show k = 0 ∨ k = 1 ∨ k = 2 by have := hu k hk; omega) with rfl | rfl | rfl <;> decide
theorem acc_wb {d : Dx} (hv : validD d = true) {u : List Nat} (hu : W3 u) (hl : u.length ≤ 30) : accR d (wbytes u).data.toList = (auD d).A ((auD d).run 0 u) := by
  rw [acc_of hv (isW_wb hu hl), idxs_wb hu]
/-- A word that tells two small automata apart is short, and accepted by one of them. -/
theorem tell_acc {a b : Dx} {s : ByteArray} (h : tellR true a b s true) (hs : a.acc.length * b.acc.length ≤ 31) : s.size ≤ 30 ∧ (accR a s.data.toList != accR b s.data.toList) = true := by
  by_cases hv : validD a = true ∧ validD b = true
  · obtain ⟨ha, hb⟩ := hv
    obtain ⟨r, hr, hbd⟩ := firstR_some (prd_wf (pairF true) (fieldsOf_au ha).1 (fieldsOf_au hb).1)
    have hr' := tell_pairs (fieldsOf_au hb).1 hr
    obtain ⟨h1, h2⟩ := tellR_yes h ha hb hr'
    cases r with
    | none => cases h2
    | some u =>
      have hl := hbd u rfl
      have hn : (prd (auD a) (auD b) (pairF true)).n = a.acc.length * b.acc.length := rfl
      obtain ⟨hu, hp, -⟩ := hr'
      have hl30 : u.length ≤ 30 := by omega
      subst h1
      refine ⟨by show (wbytes u).size ≤ 30; rw [wbytes_size]; exact hl30, ?_⟩
      show (accR a (wbytes u).data.toList != accR b (wbytes u).data.toList) = true
      rw [acc_wb ha hu hl30, acc_wb hb hu hl30]
      rw [pairF_differ] at hp
      exact hp
  · obtain ⟨-, h2⟩ := tellR_no h hv
    cases h2
/-- Where no word tells two automata apart, they have one minimal automaton. -/
theorem tell_same {a b x y : Dx} {s : ByteArray} (h : tellR true a b s false) (ha : validD a = true) (hb : validD b = true) (hx : minR a x) (hy : minR b y) : sameD x y = true := by
  obtain ⟨r, hr, -⟩ := firstR_some (prd_wf (pairF true) (fieldsOf_au ha).1 (fieldsOf_au hb).1)
  have hr' := tell_pairs (fieldsOf_au hb).1 hr
  obtain ⟨h1, h2⟩ := tellR_yes h ha hb hr'
  cases r with
  | some u => cases h2
  | none =>
    obtain ⟨m, m1, m2, rfl, -⟩ := minR_au hx ha
    obtain ⟨m', n1, n2, rfl, -⟩ := minR_au hy hb
    have he : Eqv (auD a) 0 (auD b) 0 := fun u hu => by
      have h3 : ¬ pairF true ((auD a).A ((auD a).run 0 u)) ((auD b).A ((auD b).run 0 u)) = true := hr' u hu
      rw [pairF_differ] at h3
      simpa using h3
    rw [fields_one m1 n1 ((m2.trans he).trans n2.symm)]
    exact sameD_refl _
/-- Inclusion means that the union changes nothing. -/
theorem inc_union {a b u y : Dx} {inc : Bool} (hu : proR a b 6 u true) (hi : incR a b inc) (hy : minR b y) : inc = sameD u y := by
  have hv : validD a = true ∧ validD b = true := by
    apply Classical.byContradiction
    intro hn
    obtain ⟨-, h2⟩ := proR_no hu (fun hh => hn ⟨hh.1, hh.2.1⟩)
    cases h2
  obtain ⟨ha, hb⟩ := hv
  unfold proR at hu
  rw [if_pos ⟨ha, hb, .inl rfl⟩] at hu
  obtain ⟨m, m1, m2, rfl, hm40⟩ := hu
  have hm40 : m.n ≤ 40 := by simpa using hm40.symm
  have hfit : fitD m = fieldsOf m := by unfold fitD; rw [if_pos hm40]
  rw [hfit]
  obtain ⟨m', n1, n2, rfl, -⟩ := minR_au hy hb
  obtain ⟨r, hr, -⟩ := firstR_some (prd_wf (pairF false) (fieldsOf_au ha).1 (fieldsOf_au hb).1)
  have hr' := tell_pairs (fieldsOf_au hb).1 hr
  rw [incR_yes hi ha hb hr']
  have hlang : ∀ w, W3 w → m.A (m.run 0 w) = ((auD a).A ((auD a).run 0 w) || (auD b).A ((auD b).run 0 w)) := fun w hw => by
    rw [m2 w hw, prd_lang (fieldsOf_au hb).1 _ hw]
    rfl
  cases r with
  | none =>
    have he : Eqv m 0 (auD b) 0 := fun w hw => by
      rw [hlang w hw]
      have h3 : ¬ pairF false ((auD a).A ((auD a).run 0 w)) ((auD b).A ((auD b).run 0 w)) = true := hr' w hw
      rw [pairF_less] at h3
      revert h3
      generalize (auD a).A ((auD a).run 0 w) = p
      generalize (auD b).A ((auD b).run 0 w) = q
      cases p <;> cases q <;> simp
    rw [fields_one m1 n1 (he.trans n2.symm), sameD_refl]
    rfl
  | some w =>
    obtain ⟨hw, hp, -⟩ := hr'
    rw [pairF_less] at hp
    symm
    show sameD (fieldsOf m) (fieldsOf m') = false
    rw [← Bool.not_eq_true]
    intro hs
    have hs' : fieldsOf m = fieldsOf m' := by
      unfold sameD at hs
      simp only [decide_eq_true_eq] at hs
      cases hf : fieldsOf m with
      | mk p q =>
        cases hg : fieldsOf m' with
        | mk p' q' =>
          rw [hf, hg] at hs
          simp only at hs
          rw [hs.1, hs.2]
    have h1 := fields_eqv m1.wf w hw
    have h2 := fields_eqv n1.wf w hw
    rw [hs'] at h1
    have h3 : m.A (m.run 0 w) = m'.A (m'.run 0 w) := h1.symm.trans h2
    rw [hlang w hw, n2 w hw] at h3
    revert h3 hp
    generalize (auD a).A ((auD a).run 0 w) = p
    generalize (auD b).A ((auD b).run 0 w) = q
    cases p <;> cases q <;> simp
end Go.Proofs.Ythmfncklepkddaa

/-
  What the draws of stage 7 answer: spec.DrawMinimizeDfa, spec.DrawShortestWord, spec.DrawDifferWord, spec.DrawIsIncluded.
-/
namespace Go.Proofs.Ythmfncklepkddaa
open Go.RowKit

/-- An automaton in new memory, of at most six states. -/
def AnyM (w : World) (e : Ending) (w' : World) : Prop := ∃ va vn d, e = .returned (.agg #[va, vn]) ∧ DfaV w' (FromB w) va vn d ∧ d.acc.length ≤ 6 ∧ Below w.heap.size w w'
/-- Two of them: at most four and six states. -/
def AnyT (w : World) (e : Ending) (w' : World) : Prop := ∃ va vn d vb vm d', e = .returned (.tuple #[.agg #[va, vn], .agg #[vb, vm]]) ∧ DfaV w' (FromB w) va vn d ∧ DfaV w' (FromB w) vb vm d' ∧ d.acc.length ≤ 4 ∧ d'.acc.length ≤ 6 ∧ Below w.heap.size w w'
def AnyU (w : World) (e : Ending) (w' : World) : Prop := ∃ va vn d vb vm d', e = .returned (.tuple #[.agg #[va, vn], .agg #[vb, vm]]) ∧ DfaV w' (FromB w) va vn d ∧ DfaV w' (FromB w) vb vm d' ∧ Below w.heap.size w w'

theorem one_endF {w w' W0 : World} {va vn x0 x1 : Value} {d : Dx} {S : Nat → Prop} (hb : Below W0.heap.size W0 w') (hw : W0 = w.alloc (.cells #[x0, x1] 27)) (hd : DfaV w' S va vn d) (hS : ∀ q, S q → W0.heap.size ≤ q) :
    ((∃ x, w'.cell? ⟨w.heap.size, 0, none⟩ = some x) ∧ (∃ x, w'.cell? ⟨w.heap.size, 1, none⟩ = some x) ∧ w'.frozen? ⟨w.heap.size, 0, none⟩ = false ∧ w'.frozen? ⟨w.heap.size, 1, none⟩ = false) ∧
    let W6 := (w'.setCell ⟨w.heap.size, 0, none⟩ va).setCell ⟨w.heap.size, 1, none⟩ vn
    (W6.cell? ⟨w.heap.size, 0, none⟩ = some va ∧ W6.cell? ⟨w.heap.size, 1, none⟩ = some vn) ∧ DfaV W6 (FromB w) va vn d ∧ Below w.heap.size w W6 := by
  have hz : W0.heap.size = w.heap.size + 1 := by rw [hw]; simp
  have hyb : w'.heap[w.heap.size]? = some (.cells #[x0, x1] 27 (0, 0)) := (hb.block _ (by rw [hw]; simp)).trans (by rw [hw]; exact heap_alloc_new w _)
  obtain ⟨c0, c1, k0, k1⟩ := box2_facts hyb
  obtain ⟨hcl, hsz, hot, hBl⟩ := put2 (k := va) (l := vn) c0 c1
  have hb0 : Below w.heap.size w w' := by
    have h1 : Below w.heap.size w W0 := by rw [hw]; exact (Below.refl _ _).alloc (Nat.le_refl _) _
    exact h1.trans (hb.mono h1.size)
  exact ⟨⟨⟨_, c0⟩, ⟨_, c1⟩, k0, k1⟩, hcl, hd.mono (fun q hq => hot q (by have := hS q hq; omega)) (fun q hq => by have := hS q hq; show w.heap.size ≤ q; omega), hBl _ _ hb0 (Nat.le_refl _)⟩

set_option maxRecDepth 100000 in
set_option maxHeartbeats 3200000 in
theorem drawMin_any (A : Option Addr) (n c : Nat) (w : World) (h : BL w w.heap.size A n) (hn : n ≤ 1048576) :
    Calls Try.prog 78 #[.slice A n c] w (AnyM w) := by
  obtain ⟨W0, hW0⟩ : ∃ W0, W0 = w.alloc (.cells #[.slice none 0 0, .slice none 0 0] 27) := ⟨_, rfl⟩
  have hb0 : Below w.heap.size w W0 := by rw [hW0]; exact (Below.refl w.heap.size w).alloc (Nat.le_refl _) _
  have HN := Lib.hid (l1New_any A n c W0 ((h.below hb0).more hb0.size) hn)
  have HW0 := Lib.hid hW0
  clear h hb0
  go_enter Try.func78, Try.ntmps78
  go_wp2_with fail
  rw [← hW0]
  clear hW0
  go_at_call 45
  refine HN.out.mono ?_
  rintro e w1 ⟨g, rfl, hc1, hb1⟩
  have HC1 := Lib.hid hc1
  have HB1 := Lib.hid hb1
  have HDr := Lib.hid (fun V (h : Cur V g W0.heap.size A n c) => (show Calls Try.prog 46 #[.pointer (some ⟨g, 0, none⟩), .int .i64 6] V (DrawnD 6 g W0.heap.size A n c V) from l5Draw_any 6 (by omega) (by omega) g W0.heap.size A n c V h hn))
  have HOn := Lib.hid (fun V (h : Cur V g W0.heap.size A n c) => (show Calls Try.prog 47 #[.pointer (some ⟨g, 0, none⟩), .int .i64 8] V (OnceM g W0.heap.size A n c V) from l1Once_m g W0.heap.size A n c 8 V h hn (by omega) (by omega)))
  clear hc1 hb1
  go_wp2_with fail
  go_at_call 47
  refine (HOn.out _ HC1.out).mono ?_
  rintro e w2 ⟨b, rfl, hc2, hg2⟩
  have HC2 := Lib.hid hc2
  have HB2 := Lib.hid (HB1.out.grown hg2 HB1.out.size (fun q e => by cases e; exact HC1.out.1))
  clear hc2 hg2
  cases b with
  | false =>
    go_wp2_with fail
    go_at_call 46
    refine (HDr.out _ HC2.out).mono ?_
    rintro e w3 ⟨va, vn, bo, accs, us, rs, K, rfl, hG, hl1, hl2, hul, hrl, -⟩
    have hd := (hG.dfa (by omega) (by omega)).dfa
    obtain ⟨d, hde⟩ : ∃ d : Dx, d = ⟨accs, rs⟩ := ⟨_, rfl⟩
    have HL6 : Hid (d.acc.length ≤ 6) := Lib.hid (by rw [hde]; exact hl2)
    rw [← hde] at hd
    obtain ⟨⟨Aa, qa, rfl⟩, An, qn, rfl⟩ := hd.shape
    have HF := Lib.hid (one_endF (HB2.out.grown hG.ds.2.2 HB2.out.size (fun q e => by cases e; exact HC1.out.1)) HW0.out hd (fun q hq => by have := hq.1; have := HB2.out.size; omega))
    obtain ⟨⟨⟨x0, k0⟩, ⟨x1, k1⟩, k2, k3⟩, -⟩ := HF.out
    clear hG hl1 hl2 hul hrl hd hde
    go_wp2_with fail
    obtain ⟨-, ⟨hc0, hc1⟩, hd, hb⟩ := HF.out
    refine bodyPost_ret (v := .agg #[.slice Aa d.acc.length qa, .slice An d.nxt.length qn]) (by simp [results, Try.results78, go_sem, hc0, hc1]) rfl ?_
    exact ⟨_, _, _, rfl, hd, HL6.out, hb⟩
  | true =>
    go_wp2_with fail
    go_at_call 48
    refine (l5Bent_any g _ A n c w2 HC2.out hn).mono ?_
    rintro e w3 ⟨va, vn, d, rfl, hd, hl, hc3, hg3⟩
    have HL6 := Lib.hid hl
    obtain ⟨⟨Aa, qa, rfl⟩, An, qn, rfl⟩ := hd.dfa.shape
    have HF := Lib.hid (one_endF (HB2.out.grown hg3 HB2.out.size (fun q e => by cases e; exact HC1.out.1)) HW0.out hd.dfa (fun q hq => by have := hq.1; have := HB2.out.size; omega))
    obtain ⟨⟨⟨x0, k0⟩, ⟨x1, k1⟩, k2, k3⟩, -⟩ := HF.out
    clear hd hl hc3 hg3
    go_wp2_with fail
    obtain ⟨-, ⟨hc0, hc1⟩, hd, hb⟩ := HF.out
    refine bodyPost_ret (v := .agg #[.slice Aa d.acc.length qa, .slice An d.nxt.length qn]) (by simp [results, Try.results78, go_sem, hc0, hc1]) rfl ?_
    exact ⟨_, _, _, rfl, hd, HL6.out, hb⟩

set_option maxRecDepth 100000 in
set_option maxHeartbeats 1600000 in
theorem drawSho_any (A : Option Addr) (n c : Nat) (w : World) (h : BL w w.heap.size A n) (hn : n ≤ 1048576) :
    Calls Try.prog 33 #[.slice A n c] w (AnyM w) := by
  obtain ⟨W0, hW0⟩ : ∃ W0, W0 = w.alloc (.cells #[.slice none 0 0, .slice none 0 0] 27) := ⟨_, rfl⟩
  have hb0 : Below w.heap.size w W0 := by rw [hW0]; exact (Below.refl w.heap.size w).alloc (Nat.le_refl _) _
  have HN := Lib.hid (drawMin_any A n c W0 ((h.below hb0).more hb0.size) hn)
  have HW0 := Lib.hid hW0
  clear h hb0
  go_enter Try.func33, Try.ntmps33
  go_wp2_with fail
  rw [← hW0]
  clear hW0
  go_at_call 78
  refine HN.out.mono ?_
  rintro e w1 ⟨va, vn, d, rfl, hd, hl, hb1⟩
  have HL6 := Lib.hid hl
  obtain ⟨⟨Aa, qa, rfl⟩, An, qn, rfl⟩ := hd.shape
  have HF := Lib.hid (one_endF hb1 HW0.out hd (fun q hq => hq))
  obtain ⟨⟨⟨x0, k0⟩, ⟨x1, k1⟩, k2, k3⟩, -⟩ := HF.out
  clear hd hl hb1
  go_wp2_with fail
  obtain ⟨-, ⟨hc0, hc1⟩, hd, hb⟩ := HF.out
  refine bodyPost_ret (v := .agg #[.slice Aa d.acc.length qa, .slice An d.nxt.length qn]) (by simp [results, Try.results33, go_sem, hc0, hc1]) rfl ?_
  exact ⟨_, _, _, rfl, hd, HL6.out, hb⟩
end Go.Proofs.Ythmfncklepkddaa

/-
  What spec.DrawDifferWord and spec.DrawIsIncluded answer: two automata in new memory.
-/
namespace Go.Proofs.Ythmfncklepkddaa
open Go.RowKit

theorem enters_bent (args : Array Value) (w : World) : (callFunc 48 args).run Try.prog w = .ok (.enter 48 args) w := enters_of Try.func48 (by kernel_rfl) rfl args w
theorem enters_minD (args : Array Value) (w : World) : (callFunc 18 args).run Try.prog w = .ok (.enter 18 args) w := enters_of Try.func18 (by kernel_rfl) rfl args w

set_option maxRecDepth 100000 in
set_option maxHeartbeats 6400000 in
theorem drawDif_any (A : Option Addr) (n c : Nat) (w : World) (h : BL w w.heap.size A n) (hn : n ≤ 1048576) :
    Calls Try.prog 13 #[.slice A n c] w (AnyT w) := by
  obtain ⟨W0, hW0⟩ : ∃ W0, W0 = (w.alloc (.cells #[.slice none 0 0, .slice none 0 0] 27)).alloc (.cells #[.slice none 0 0, .slice none 0 0] 27) := ⟨_, rfl⟩
  have hb0 : Below w.heap.size w W0 := by rw [hW0]; exact ((Below.refl w.heap.size w).alloc (Nat.le_refl _) _).alloc (by simp) _
  have HN := Lib.hid (l1New_any A n c W0 ((h.below hb0).more hb0.size) hn)
  have HW0 := Lib.hid hW0
  clear h hb0
  go_enter Try.func13, Try.ntmps13
  go_wp2_with fail
  rw [← hW0]
  clear hW0
  go_at_call 45
  refine HN.out.mono ?_
  rintro e w1 ⟨g, rfl, hc1, hb1⟩
  have HC1 := Lib.hid hc1
  have HB1 := Lib.hid hb1
  have HDr := Lib.hid (fun V (h : Cur V g W0.heap.size A n c) => (show Calls Try.prog 46 #[.pointer (some ⟨g, 0, none⟩), .int .i64 4] V (DrawnD 4 g W0.heap.size A n c V) from l5Draw_any 4 (by omega) (by omega) g W0.heap.size A n c V h hn))
  have HOn := Lib.hid (fun V (h : Cur V g W0.heap.size A n c) => (show Calls Try.prog 47 #[.pointer (some ⟨g, 0, none⟩), .int .i64 3] V (OnceM g W0.heap.size A n c V) from l1Once_m g W0.heap.size A n c 3 V h hn (by omega) (by omega)))
  clear hc1 hb1
  go_wp2_with fail
  go_at_call 46
  refine (HDr.out _ HC1.out).mono ?_
  rintro e w2 ⟨va, vn, bo, accs, us, rs, K, rfl, hG, hl1, hl2, hul, hrl, -⟩
  have hd2 := (hG.dfa (by omega) (by omega)).dfa
  obtain ⟨d, hde⟩ : ∃ d : Dx, d = ⟨accs, rs⟩ := ⟨_, rfl⟩
  have HL4 : Hid (d.acc.length ≤ 4) := Lib.hid (by rw [hde]; exact hl2)
  rw [← hde] at hd2
  obtain ⟨⟨Aa, qa, rfl⟩, An, qn, rfl⟩ := hd2.shape
  have HC2 := Lib.hid hG.ds.2.1
  have HG2 := Lib.hid hG.ds.2.2
  have hg1 : g < w1.heap.size := HC1.out.lt
  have HBX := Lib.hid (heap_alloc_new w2 (.cells #[.slice Aa d.acc.length qa, .slice An d.nxt.length qn] 27))
  have HGb := Lib.hid (World.grownBy_alloc w2 (.cells #[.slice Aa d.acc.length qa, .slice An d.nxt.length qn] 27) (some g))
  have HD2 := Lib.hid hd2
  have HCb := Lib.hid (HC2.out.alloc (.cells #[.slice Aa d.acc.length qa, .slice An d.nxt.length qn] 27))
  clear hG hl1 hl2 hul hrl hd2 hde
  go_wp2_with fail
  obtain ⟨w3, hw3⟩ : ∃ w3, w3 = w2.alloc (.cells #[.slice Aa d.acc.length qa, .slice An d.nxt.length qn] 27) := ⟨_, rfl⟩
  rw [← hw3] at HBX HGb HCb ⊢
  have HZ3 := Lib.hid hw3
  clear hw3
  go_at_call 47
  refine (HOn.out _ HCb.out).mono ?_
  rintro e w4 ⟨b, rfl, hc4, hg4⟩
  have HC4 := Lib.hid hc4
  have HG4 := Lib.hid hg4
  clear hc4 hg4
  have hz3 : w2.heap.size + 1 = w3.heap.size := by rw [HZ3.out]; simp
  have hz12 := HG2.out.size
  have hz34 := HG4.out.size
  have hz01 := HB1.out.size
  have HXa := Lib.hid ((HG4.out.block _ (blk_lt HBX.out) (by simp; omega)).trans HBX.out)
  have HDa := Lib.hid (dfa_call HD2.out (fun q hq => ⟨hq.2, by have := hq.1; omega⟩) (grown_comp HGb.out HG4.out))
  have HB4 := Lib.hid ((HB1.out.grown (grown_comp HG2.out (grown_comp HGb.out HG4.out)) HB1.out.size (fun q e => by cases e; exact HC1.out.1)))
  have HSa : Hid (∀ q, (fun q => w1.heap.size ≤ q ∧ q < w2.heap.size) q → W0.heap.size ≤ q ∧ q < w4.heap.size ∧ q ≠ g) := Lib.hid (fun q hq => by
    have h1 : w1.heap.size ≤ q := hq.1
    have h2 : q < w2.heap.size := hq.2
    omega)
  have HAfter := Lib.hid (fun (V : World) (S' : Nat → Prop) (vb vm : Value) (dd : Dx) (hV : w4.grownBy V (some g)) (hdd : DfaV V S' vb vm dd) (hS' : ∀ q, S' q → w4.heap.size ≤ q) => two_end (d := d) (va := .slice Aa d.acc.length qa) (vn := .slice An d.nxt.length qn) (d' := dd) (vb := vb) (vm := vm) (w' := V) (HB4.out.grown hV HB4.out.size (fun q e => by cases e; exact HC1.out.1)) HW0.out (dfa_call HDa.out (fun q hq => (HSa.out q hq).2) hV) (fun q hq => (HSa.out q hq).1) hdd (fun q hq => by have := hS' q hq; omega))
  have HBoxA := Lib.hid (fun (V : World) (hV : w4.grownBy V (some g)) => box2_facts ((hV.block _ (blk_lt HXa.out) (by simp; omega)).trans HXa.out))
  obtain ⟨e0, e1, -, -⟩ := HBoxA.out w4 (grown_refl _ _)
  have hs2 : w.heap.size + 1 < w2.heap.size := by
    have hz0 : W0.heap.size = w.heap.size + 2 := by rw [HW0.out]; simp
    omega
  have n1 : w.heap.size ≠ w2.heap.size := by omega
  have n3 : w.heap.size + 1 ≠ w2.heap.size := by omega
  have n5 := n1.symm
  have n7 := n3.symm
  have HGd : Hid (w4.grownBy w4.drew (some g)) := Lib.hid ⟨rfl, rfl, rfl, Nat.le_refl _, fun _ _ _ => rfl⟩
  clear hs2
  cases b with
  | true =>
    obtain ⟨y, hy⟩ := minR_some d
    have HLy : Hid (y.acc.length ≤ 6) := Lib.hid (Nat.le_trans (minR_bound hy HL4.out) (by omega))
    have HM := Lib.hid (specMinD_any (.slice Aa d.acc.length qa) (.slice An d.nxt.length qn) d y _ w4.drew (HDa.out.kept (Below.refl _ _).drew) hy)
    clear hy
    go_wp2_with fail
    first | go_region_law (refine step_call rfl _ _ _ rfl enters_minD #[.agg #[.slice Aa d.acc.length qa, .slice An d.nxt.length qn]] (by simp [Act.eval]) HM.out ?_; rintro e w9 hcd; obtain ⟨Ca, sa, Cn, sn, rfl, hoo, hb9⟩ := hcd.shape; have hg9 : w4.grownBy w9 (some g) := ⟨hb9.os, hb9.tape, hb9.output, hb9.size, fun k hk _ => hb9.block k hk⟩; have HF := Lib.hid (HAfter.out w9 _ _ _ y hg9 hoo.dfa (fun q hq => hq.1)); obtain ⟨t0, t1, -, -⟩ := HBoxA.out w9 hg9; obtain ⟨⟨⟨x0, k0⟩, ⟨x1, k1⟩, k2, k3⟩, ⟨⟨x4, k4⟩, ⟨x5, k5⟩, k6, k7⟩, -⟩ := HF.out; clear hcd hoo hb9 hg9; refine ⟨_, rfl, ?_⟩) | fail
    all_goals
      go_wp2_with fail
      obtain ⟨-, -, ⟨hc0, hc1⟩, ⟨hc2, hc3⟩, hd, hd', hb⟩ := HF.out
      refine bodyPost_ret (v := .tuple #[.agg #[.slice Aa d.acc.length qa, .slice An d.nxt.length qn], .agg #[.slice Ca y.acc.length sa, .slice Cn y.nxt.length sn]]) (by simp [results, Try.results13, go_sem, hc0, hc1, hc2, hc3]) rfl ?_
      first
        | exact ⟨_, _, _, _, _, _, rfl, hd, hd', HL4.out, HLy.out, hb⟩
        | exact ⟨_, _, _, _, _, _, rfl, hd.mono (fun _ _ => rfl) (fun _ h => h), hd'.mono (fun _ _ => rfl) (fun _ h => h), HL4.out, HLy.out, hb.drew⟩
  | false =>
    have HM := Lib.hid (l5Bent_any g W0.heap.size A n c w4.drew HC4.out hn)
    go_wp2_with fail
    first | go_region_law (refine step_call rfl _ _ _ rfl enters_bent #[.pointer (some ⟨g, 0, none⟩)] (by simp [Act.eval, Act.put]) HM.out ?_; rintro e w9 ⟨vb, vm, dd, rfl, hdd, hldd, hc9, hg9⟩; obtain ⟨⟨Ca, sa, rfl⟩, Cn, sn, rfl⟩ := hdd.dfa.shape; have hgc := grown_comp HGd.out hg9; have HF := Lib.hid (HAfter.out w9 _ _ _ dd hgc hdd.dfa (fun q hq => hq.1)); have HL6 := Lib.hid hldd; obtain ⟨t0, t1, -, -⟩ := HBoxA.out w9 hgc; obtain ⟨⟨⟨x0, k0⟩, ⟨x1, k1⟩, k2, k3⟩, ⟨⟨x4, k4⟩, ⟨x5, k5⟩, k6, k7⟩, -⟩ := HF.out; clear hdd hldd hc9 hg9 hgc; refine ⟨_, rfl, ?_⟩) | fail
    all_goals
      go_wp2_with fail
      obtain ⟨-, -, ⟨hc0, hc1⟩, ⟨hc2, hc3⟩, hd, hd', hb⟩ := HF.out
      refine bodyPost_ret (v := .tuple #[.agg #[.slice Aa d.acc.length qa, .slice An d.nxt.length qn], .agg #[.slice Ca dd.acc.length sa, .slice Cn dd.nxt.length sn]]) (by simp [results, Try.results13, go_sem, hc0, hc1, hc2, hc3]) rfl ?_
      first
        | exact ⟨_, _, _, _, _, _, rfl, hd, hd', HL4.out, HL6.out, hb⟩
        | exact ⟨_, _, _, _, _, _, rfl, hd.mono (fun _ _ => rfl) (fun _ h => h), hd'.mono (fun _ _ => rfl) (fun _ h => h), HL4.out, HL6.out, hb.drew⟩

set_option maxRecDepth 100000 in
set_option maxHeartbeats 6400000 in
theorem drawInc_any (A : Option Addr) (n c : Nat) (w : World) (h : BL w w.heap.size A n) (hn : n ≤ 1048576) :
    Calls Try.prog 37 #[.slice A n c] w (AnyU w) := by
  obtain ⟨W0, hW0⟩ : ∃ W0, W0 = (w.alloc (.cells #[.slice none 0 0, .slice none 0 0] 27)).alloc (.cells #[.slice none 0 0, .slice none 0 0] 27) := ⟨_, rfl⟩
  have hb0 : Below w.heap.size w W0 := by rw [hW0]; exact ((Below.refl w.heap.size w).alloc (Nat.le_refl _) _).alloc (by simp) _
  have HN := Lib.hid (l1New_any A n c W0 ((h.below hb0).more hb0.size) hn)
  have HW0 := Lib.hid hW0
  clear h hb0
  go_enter Try.func37, Try.ntmps37
  go_wp2_with fail
  rw [← hW0]
  clear hW0
  go_at_call 45
  refine HN.out.mono ?_
  rintro e w1 ⟨g, rfl, hc1, hb1⟩
  have HC1 := Lib.hid hc1
  have HB1 := Lib.hid hb1
  have HDr := Lib.hid (fun V (h : Cur V g W0.heap.size A n c) => (show Calls Try.prog 46 #[.pointer (some ⟨g, 0, none⟩), .int .i64 3] V (DrawnD 3 g W0.heap.size A n c V) from l5Draw_any 3 (by omega) (by omega) g W0.heap.size A n c V h hn))
  have HOn := Lib.hid (fun V (h : Cur V g W0.heap.size A n c) => (show Calls Try.prog 47 #[.pointer (some ⟨g, 0, none⟩), .int .i64 2] V (OnceM g W0.heap.size A n c V) from l1Once_m g W0.heap.size A n c 2 V h hn (by omega) (by omega)))
  clear hc1 hb1
  go_wp2_with fail
  go_at_call 46
  refine (HDr.out _ HC1.out).mono ?_
  rintro e w2 ⟨va, vn, bo, accs, us, rs, K, rfl, hG, hl1, hl2, hul, hrl, -⟩
  have hd2 := (hG.dfa (by omega) (by omega)).dfa
  obtain ⟨d, hde⟩ : ∃ d : Dx, d = ⟨accs, rs⟩ := ⟨_, rfl⟩
  rw [← hde] at hd2
  obtain ⟨⟨Aa, qa, rfl⟩, An, qn, rfl⟩ := hd2.shape
  have HC2 := Lib.hid hG.ds.2.1
  have HG2 := Lib.hid hG.ds.2.2
  have hg1 : g < w1.heap.size := HC1.out.lt
  have HBX := Lib.hid (heap_alloc_new w2 (.cells #[.slice Aa d.acc.length qa, .slice An d.nxt.length qn] 27))
  have HGb := Lib.hid (World.grownBy_alloc w2 (.cells #[.slice Aa d.acc.length qa, .slice An d.nxt.length qn] 27) (some g))
  have HD2 := Lib.hid hd2
  have HCb := Lib.hid (HC2.out.alloc (.cells #[.slice Aa d.acc.length qa, .slice An d.nxt.length qn] 27))
  clear hG hl1 hl2 hul hrl hd2 hde
  go_wp2_with fail
  obtain ⟨w3, hw3⟩ : ∃ w3, w3 = w2.alloc (.cells #[.slice Aa d.acc.length qa, .slice An d.nxt.length qn] 27) := ⟨_, rfl⟩
  rw [← hw3] at HBX HGb HCb ⊢
  have HZ3 := Lib.hid hw3
  clear hw3
  go_at_call 46
  refine (HDr.out _ HCb.out).mono ?_
  rintro e w4 ⟨vb, vm, bo', accs', us', rs', K', rfl, hG, hl1, hl2, hul, hrl, -⟩
  have hd4 := (hG.dfa (by omega) (by omega)).dfa
  obtain ⟨d', hde⟩ : ∃ d' : Dx, d' = ⟨accs', rs'⟩ := ⟨_, rfl⟩
  rw [← hde] at hd4
  obtain ⟨⟨Ba, pa, rfl⟩, Bn, pn, rfl⟩ := hd4.shape
  have HC4 := Lib.hid hG.ds.2.1
  have HG4 := Lib.hid hG.ds.2.2
  have HBY := Lib.hid (heap_alloc_new w4 (.cells #[.slice Ba d'.acc.length pa, .slice Bn d'.nxt.length pn] 27))
  have HGc := Lib.hid (World.grownBy_alloc w4 (.cells #[.slice Ba d'.acc.length pa, .slice Bn d'.nxt.length pn] 27) (some g))
  have HD4 := Lib.hid hd4
  have HCc := Lib.hid (HC4.out.alloc (.cells #[.slice Ba d'.acc.length pa, .slice Bn d'.nxt.length pn] 27))
  clear hG hl1 hl2 hul hrl hd4 hde
  go_wp2_with fail
  obtain ⟨w5, hw5⟩ : ∃ w5, w5 = w4.alloc (.cells #[.slice Ba d'.acc.length pa, .slice Bn d'.nxt.length pn] 27) := ⟨_, rfl⟩
  rw [← hw5] at HBY HGc HCc ⊢
  have HZ5 := Lib.hid hw5
  clear hw5
  go_at_call 47
  refine (HOn.out _ HCc.out).mono ?_
  rintro e w6 ⟨b, rfl, hc6, hg6⟩
  have HG6 := Lib.hid hg6
  have hg4 := HC4.out.lt
  clear hc6 hg6
  have hz3 : w2.heap.size + 1 = w3.heap.size := by rw [HZ3.out]; simp
  have hz5 : w4.heap.size + 1 = w5.heap.size := by rw [HZ5.out]; simp
  have hz12 := HG2.out.size
  have hz34 := HG4.out.size
  have hz56 := HG6.out.size
  have hz01 := HB1.out.size
  have G36 := Lib.hid (grown_comp (grown_comp HG4.out HGc.out) HG6.out)
  have G56 := Lib.hid (grown_comp HGc.out HG6.out)
  have HXa6 := Lib.hid ((G36.out.block _ (blk_lt HBX.out) (by simp; omega)).trans HBX.out)
  have HXb6 := Lib.hid ((HG6.out.block _ (blk_lt HBY.out) (by have := HC4.out.lt; simp; omega)).trans HBY.out)
  have HDa6 := Lib.hid (dfa_call HD2.out (fun q hq => ⟨hq.2, by have := hq.1; omega⟩) (grown_comp HGb.out G36.out))
  have HDb6 := Lib.hid (dfa_call HD4.out (fun q hq => ⟨hq.2, by have := hq.1; omega⟩) G56.out)
  have HB6 := Lib.hid ((HB1.out.grown (grown_comp HG2.out (grown_comp HGb.out G36.out)) HB1.out.size (fun q e => by cases e; exact HC1.out.1)))
  obtain ⟨hs2, hs4⟩ : w.heap.size + 1 < w2.heap.size ∧ w.heap.size + 1 < w4.heap.size := by
    have hz0 : W0.heap.size = w.heap.size + 2 := by rw [HW0.out]; simp
    omega
  have n1 : w.heap.size ≠ w2.heap.size := by omega
  have n2 : w.heap.size ≠ w4.heap.size := by omega
  have n3 : w.heap.size + 1 ≠ w2.heap.size := by omega
  have n4 : w.heap.size + 1 ≠ w4.heap.size := by omega
  have n5 := n1.symm
  have n6 := n2.symm
  have n7 := n3.symm
  have n8 := n4.symm
  have n9 : w2.heap.size ≠ w4.heap.size := by omega
  have n10 := n9.symm
  have HS : Hid (w.heap.size + 1 < w2.heap.size ∧ w.heap.size + 1 < w4.heap.size) := Lib.hid ⟨hs2, hs4⟩
  clear hs2 hs4
  cases b with
  | false =>
    obtain ⟨e0, e1, -, -⟩ := box2_facts HXa6.out
    obtain ⟨e2, e3, -, -⟩ := box2_facts HXb6.out
    have HF := Lib.hid (two_end HB6.out HW0.out HDa6.out (fun q hq => by have h1 : w1.heap.size ≤ q := hq.1; omega) HDb6.out (fun q hq => by have h1 : w3.heap.size ≤ q := hq.1; omega))
    obtain ⟨⟨⟨x0, k0⟩, ⟨x1, k1⟩, k2, k3⟩, ⟨⟨x4, k4⟩, ⟨x5, k5⟩, k6, k7⟩, -⟩ := HF.out
    go_wp2_with fail
    go_region_law fail
    all_goals
      go_wp2_with fail
      obtain ⟨-, -, ⟨hc0, hc1⟩, ⟨hc2, hc3⟩, hd, hd', hb⟩ := HF.out
      refine bodyPost_ret (v := .tuple #[.agg #[.slice Aa d.acc.length qa, .slice An d.nxt.length qn], .agg #[.slice Ba d'.acc.length pa, .slice Bn d'.nxt.length pn]]) (by simp [results, Try.results37, go_sem, hc0, hc1, hc2, hc3]) rfl ?_
      first
        | exact ⟨_, _, _, _, _, _, rfl, hd, hd', hb⟩
        | exact ⟨_, _, _, _, _, _, rfl, hd.mono (fun _ _ => rfl) (fun _ h => h), hd'.mono (fun _ _ => rfl) (fun _ h => h), hb.drew⟩
  | true =>
    obtain ⟨y, ok, hy⟩ := proR_some d d' 6
    have HP := Lib.hid (specPro_any (.slice Aa d.acc.length qa) (.slice An d.nxt.length qn) (.slice Ba d'.acc.length pa) (.slice Bn d'.nxt.length pn) d d' _ _ 6 y ok w6 HDa6.out HDb6.out hy)
    obtain ⟨e0, e1, -, -⟩ := box2_facts HXa6.out
    obtain ⟨e2, e3, -, -⟩ := box2_facts HXb6.out
    clear hy
    go_wp2_with fail
    go_at_call 24
    refine HP.out.mono ?_
    rintro e w7 hcd
    obtain ⟨Ca, sa, Cn, sn, rfl, hoo, hb7⟩ := hcd.shape
    have HXa7 := Lib.hid ((hb7.block _ (blk_lt HXa6.out)).trans HXa6.out)
    have hXb7 := (hb7.block _ (blk_lt HXb6.out)).trans HXb6.out
    have HDa7 := Lib.hid (HDa6.out.kept hb7)
    have HB7 := Lib.hid (HB6.out.trans (hb7.mono HB6.out.size))
    have hz67 := hb7.size
    clear e0 e1 e2 e3
    obtain ⟨y0, y1, y2, y3⟩ := box2_facts hXb7
    obtain ⟨w8, hw8⟩ : ∃ w8, w8 = (w7.setCell ⟨w4.heap.size, 0, none⟩ (.slice Ca y.acc.length sa)).setCell ⟨w4.heap.size, 1, none⟩ (.slice Cn y.nxt.length sn) := ⟨_, rfl⟩
    obtain ⟨hcl, hsz, hot, hBl⟩ := put2 (k := .slice Ca y.acc.length sa) (l := .slice Cn y.nxt.length sn) y0 y1
    have hx8 : w8.heap[w4.heap.size]? = some (.cells #[.slice Ca y.acc.length sa, .slice Cn y.nxt.length sn] 27 (0, 0)) := by
      rw [hw8]
      exact heap_setCell_same _ _ 1 _ _ _ (heap_setCell_same w7 _ 0 _ _ _ hXb7)
    rw [← hw8] at hsz hot hBl
    have hXa8 := (hot w2.heap.size (by omega)).trans HXa7.out
    have HDa := Lib.hid (HDa7.out.mono (w' := w8) (fun q hq => hot q (by have := hq.2; omega)) (fun _ h => h))
    have HDb := Lib.hid (hoo.dfa.mono (w' := w8) (fun q hq => hot q (by have := hq.1; omega)) (fun _ h => h))
    have HB8 := Lib.hid (hBl _ _ HB7.out (by omega))
    have HF := Lib.hid (two_end HB8.out HW0.out HDa.out (fun q hq => by have h1 : w1.heap.size ≤ q := hq.1; omega) HDb.out (fun q hq => by have h1 : w6.heap.size ≤ q := hq.1; omega))
    have HW8 := Lib.hid hw8
    clear hcd hoo hb7 hcl hsz hot hBl hXb7 hw8 hz67
    go_upto_region 6 with fail
    rw [← HW8.out]
    clear HW8 y0 y1 y2 y3
    obtain ⟨e0, e1, -, -⟩ := box2_facts hXa8
    obtain ⟨e2, e3, -, -⟩ := box2_facts hx8
    clear hXa8 hx8
    obtain ⟨⟨⟨x0, k0⟩, ⟨x1, k1⟩, k2, k3⟩, ⟨⟨x4, k4⟩, ⟨x5, k5⟩, k6, k7⟩, -⟩ := HF.out
    go_region_law fail
    all_goals
      go_wp2_with fail
      obtain ⟨-, -, ⟨hc0, hc1⟩, ⟨hc2, hc3⟩, hd, hd', hb⟩ := HF.out
      refine bodyPost_ret (v := .tuple #[.agg #[.slice Aa d.acc.length qa, .slice An d.nxt.length qn], .agg #[.slice Ca y.acc.length sa, .slice Cn y.nxt.length sn]]) (by simp [results, Try.results37, go_sem, hc0, hc1, hc2, hc3]) rfl ?_
      first
        | exact ⟨_, _, _, _, _, _, rfl, hd, hd', hb⟩
        | exact ⟨_, _, _, _, _, _, rfl, hd.mono (fun _ _ => rfl) (fun _ h => h), hd'.mono (fun _ _ => rfl) (fun _ h => h), hb.drew⟩
end Go.Proofs.Ythmfncklepkddaa

/-
  Automata in boxes. Of no function of the program.
-/
namespace Go.Proofs.Ythmfncklepkddaa
open Go.RowKit

/-- An automaton in its box. -/
structure BX (V : World) (g : Nat) (va vn : Value) (d : Dx) : Prop where
  c0 : V.cell? ⟨g, 0, none⟩ = some va
  c1 : V.cell? ⟨g, 1, none⟩ = some vn
  dfa : DfaV V AnyB va vn d
theorem BX.kept {V V' : World} {g : Nat} {va vn : Value} {d : Dx} (h : BX V g va vn d) (hb : Below V.heap.size V V') : BX V' g va vn d :=
  ⟨(hb.cell (cell_in h.c0)).trans h.c0, (hb.cell (cell_in h.c1)).trans h.c1, h.dfa.kept hb⟩
theorem BX.new {w : World} {S : Nat → Prop} {va vn : Value} {d : Dx} {t : TypeId} (h : DfaV w S va vn d) : BX (w.alloc (.cells #[va, vn] t)) w.heap.size va vn d := by
  have k := box2_kept (w := w) (a := va) (b := vn) (t := t) (Below.refl _ _)
  exact ⟨k.2.1, k.2.2.1, (h.kept ((Below.refl _ _).alloc (Nat.le_refl _) _)).mono (fun _ _ => rfl) (fun _ _ => trivial)⟩
theorem BL.upB {w : World} {B B' : Nat} {A : Option Addr} {n : Nat} (h : BL w B A n) (hB : B ≤ B') : BL w B' A n := fun k hk => by
  obtain ⟨ad, z, e, hlt, hc, hz⟩ := h k hk
  exact ⟨ad, z, e, Nat.lt_of_lt_of_le hlt hB, hc, hz⟩
end Go.Proofs.Ythmfncklepkddaa
