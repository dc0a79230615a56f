/-
  Concatenations and repetitions as searches over a state and a set of states: what a key accepts. Of no function of the program.
  The minimal automaton of a search that may meet too many keys, as an answer: concatenations, repetitions. Of no function of the program but the answers' names.
-/
import Derived.Test.YthmfncklepkddabDoorM5
import Derived.Test.YthmfncklepkddabDoorProR
namespace Go.Proofs.YthmfncklepkddabDoor

/-- A set of states, ascending: one more. -/
def putS : List Nat → Nat → List Nat
  | [], q => [q]
  | x :: s, q => if x < q then x :: putS s q else if x = q then x :: s else q :: x :: s
theorem mem_putS {x q : Nat} : ∀ {s : List Nat}, x ∈ putS s q ↔ x = q ∨ x ∈ s
  | [] => by simp [putS]
  | y :: s => by
    unfold putS
    by_cases h1 : y < q
    · rw [if_pos h1, List.mem_cons, mem_putS, List.mem_cons]
      constructor
      · rintro (h | h | h)
        · exact .inr (.inl h)
        · exact .inl h
        · exact .inr (.inr h)
      · rintro (h | h | h)
        · exact .inr (.inl h)
        · exact .inl h
        · exact .inr (.inr h)
    · rw [if_neg h1]
      by_cases h2 : y = q
      · subst h2
        rw [if_pos rfl]
        simp
      · rw [if_neg h2]
        simp
theorem putS_asc {q : Nat} : ∀ {s : List Nat}, s.Pairwise (· < ·) → (putS s q).Pairwise (· < ·)
  | [], _ => by simp [putS]
  | y :: s, h => by
    obtain ⟨h0, h'⟩ := List.pairwise_cons.1 h
    unfold putS
    by_cases h1 : y < q
    · rw [if_pos h1]
      refine List.pairwise_cons.2 ⟨fun z hz => ?_, putS_asc h'⟩
      rcases mem_putS.1 hz with rfl | hz
      · exact h1
      · exact h0 z hz
    · rw [if_neg h1]
      by_cases h2 : y = q
      · rw [if_pos h2]
        exact h
      · rw [if_neg h2]
        refine List.pairwise_cons.2 ⟨fun z hz => ?_, h⟩
        rcases List.mem_cons.1 hz with rfl | hz
        · omega
        · have := h0 z hz
          omega
/-- Two ascending lists with the same elements are the same. -/
theorem asc_eq : ∀ {s t : List Nat}, s.Pairwise (· < ·) → t.Pairwise (· < ·) → (∀ x, x ∈ s ↔ x ∈ t) → s = t
  | [], [], _, _, _ => rfl
  | [], y :: t, _, _, h => absurd ((h y).2 (List.mem_cons_self ..)) (by simp)
  | y :: s, [], _, _, h => absurd ((h y).1 (List.mem_cons_self ..)) (by simp)
  | x :: s, y :: t, hs, ht, h => by
    obtain ⟨hs0, hs'⟩ := List.pairwise_cons.1 hs
    obtain ⟨ht0, ht'⟩ := List.pairwise_cons.1 ht
    have e : x = y := by
      rcases List.mem_cons.1 ((h x).1 (List.mem_cons_self ..)) with e | hx
      · exact e
      · rcases List.mem_cons.1 ((h y).2 (List.mem_cons_self ..)) with e | hy
        · exact e.symm
        · have := ht0 x hx
          have := hs0 y hy
          omega
    subst e
    rw [asc_eq hs' ht' (fun z => ?_)]
    constructor
    · intro hz
      rcases List.mem_cons.1 ((h z).1 (List.mem_cons_of_mem _ hz)) with rfl | h2
      · have := hs0 z hz
        omega
      · exact h2
    · intro hz
      rcases List.mem_cons.1 ((h z).2 (List.mem_cons_of_mem _ hz)) with rfl | h2
      · have := ht0 z hz
        omega
      · exact h2
/-- The set after a letter. -/
def moveS (d : Au) (s : List Nat) (k : Nat) : List Nat := s.foldl (fun out q => putS out (d.T q k)) []
theorem mem_move_from {d : Au} {k x : Nat} : ∀ (s o : List Nat), x ∈ s.foldl (fun out q => putS out (d.T q k)) o ↔ x ∈ o ∨ ∃ q ∈ s, d.T q k = x
  | [], o => by simp
  | y :: s, o => by
    rw [List.foldl_cons, mem_move_from s, mem_putS]
    constructor
    · rintro ((rfl | h) | ⟨q, hq, e⟩)
      · exact .inr ⟨y, List.mem_cons_self .., rfl⟩
      · exact .inl h
      · exact .inr ⟨q, List.mem_cons_of_mem _ hq, e⟩
    · rintro (h | ⟨q, hq, e⟩)
      · exact .inl (.inr h)
      · rcases List.mem_cons.1 hq with rfl | hq
        · exact .inl (.inl e.symm)
        · exact .inr ⟨q, hq, e⟩
theorem mem_move {d : Au} {k x : Nat} {s : List Nat} : x ∈ moveS d s k ↔ ∃ q ∈ s, d.T q k = x := by
  unfold moveS
  rw [mem_move_from]
  simp
theorem move_from_asc {d : Au} {k : Nat} : ∀ (s o : List Nat), o.Pairwise (· < ·) → (s.foldl (fun out q => putS out (d.T q k)) o).Pairwise (· < ·)
  | [], _, h => h
  | _ :: s, _, h => move_from_asc s _ (putS_asc h)
theorem move_asc (d : Au) (s : List Nat) (k : Nat) : (moveS d s k).Pairwise (· < ·) := move_from_asc s [] List.Pairwise.nil
def anyS (d : Au) (s : List Nat) : Bool := s.any d.A
theorem anyS_iff {d : Au} {s : List Nat} : anyS d s = true ↔ ∃ q ∈ s, d.A q = true := by simp [anyS]

/-- The concatenation's search. -/
def catS (a : Au) : Nat × List Nat := (0, if a.A 0 then [0] else [])
def catG (a b : Au) (x : Nat × List Nat) (k : Nat) : Nat × List Nat := (a.T x.1 k, if a.A (a.T x.1 k) then putS (moveS b x.2 k) 0 else moveS b x.2 k)
/-- What a key accepts: a state of the set does, or the word is divided later on. -/
def catL (a b : Au) (x : Nat × List Nat) (w : List Nat) : Prop := (∃ q ∈ x.2, b.A (b.run q w) = true) ∨ ∃ u v, w = u ++ v ∧ u ≠ [] ∧ a.A (a.run x.1 u) = true ∧ b.A (b.run 0 v) = true
theorem catL_nil (a b : Au) (x : Nat × List Nat) : catL a b x [] ↔ anyS b x.2 = true := by
  rw [anyS_iff]
  unfold catL
  constructor
  · rintro (h | ⟨u, v, e, hu, _⟩)
    · exact h
    · exact absurd (List.append_eq_nil_iff.1 e.symm).1 hu
  · exact fun h => .inl h
theorem catL_step (a b : Au) (x : Nat × List Nat) (k : Nat) (w : List Nat) : catL a b (catG a b x k) w ↔ catL a b x (k :: w) := by
  have hm : ∀ q, q ∈ (catG a b x k).2 ↔ (a.A (a.T x.1 k) = true ∧ q = 0) ∨ ∃ p ∈ x.2, b.T p k = q := fun q => by
    unfold catG
    by_cases h : a.A (a.T x.1 k) = true
    · simp only [h, if_true]
      rw [mem_putS, mem_move]
      simp
    · simp only [h]
      simp only [Bool.false_eq_true, if_false, false_and, false_or]
      exact mem_move
  unfold catL
  constructor
  · rintro (⟨q, hq, hb⟩ | ⟨u, v, rfl, hu, ha, hb⟩)
    · rcases (hm q).1 hq with ⟨ha, rfl⟩ | ⟨p, hp, rfl⟩
      · exact .inr ⟨[k], w, rfl, by simp, ha, hb⟩
      · exact .inl ⟨p, hp, hb⟩
    · exact .inr ⟨k :: u, v, rfl, by simp, ha, hb⟩
  · rintro (⟨p, hp, hb⟩ | ⟨u, v, e, hu, ha, hb⟩)
    · exact .inl ⟨b.T p k, (hm _).2 (.inr ⟨p, hp, rfl⟩), hb⟩
    · cases u with
      | nil => exact absurd rfl hu
      | cons y u =>
        injection e with e1 e2
        subst e1
        cases u with
        | nil =>
          have e3 : w = v := e2
          subst e3
          exact .inl ⟨0, (hm 0).2 (.inl ⟨ha, rfl⟩), hb⟩
        | cons z u => exact .inr ⟨z :: u, v, e2, by simp, ha, hb⟩
theorem catL_start (a b : Au) (w : List Nat) : catL a b (catS a) w ↔ ∃ u v, w = u ++ v ∧ a.A (a.run 0 u) = true ∧ b.A (b.run 0 v) = true := by
  unfold catL catS
  constructor
  · rintro (⟨q, hq, hb⟩ | ⟨u, v, e, _, ha, hb⟩)
    · by_cases h : a.A 0 = true
      · simp only [h, if_true, List.mem_singleton] at hq
        subst hq
        exact ⟨[], w, rfl, h, hb⟩
      · simp only [h] at hq
        simp at hq
    · exact ⟨u, v, e, ha, hb⟩
  · rintro ⟨u, v, e, ha, hb⟩
    cases u with
    | nil =>
      have e3 : w = v := e
      subst e3
      have h : a.A 0 = true := ha
      exact .inl ⟨0, by simp [h], hb⟩
    | cons y u => exact .inr ⟨y :: u, v, e, by simp, ha, hb⟩

/-- A word that can be divided into words of d. -/
inductive StarW (d : Au) : List Nat → Prop
  | nil : StarW d []
  | app (u v : List Nat) : u ≠ [] → d.A (d.run 0 u) = true → StarW d v → StarW d (u ++ v)
theorem StarW.more {d : Au} {u v : List Nat} (ha : d.A (d.run 0 u) = true) (hv : StarW d v) : StarW d (u ++ v) := by
  by_cases hu : u = []
  · rw [hu]
    exact hv
  · exact .app u v hu ha hv
/-- The repetition's search: a mark for the first key, and a set. -/
def starS : Bool × List Nat := (true, [0])
def starG (d : Au) (x : Bool × List Nat) (k : Nat) : Bool × List Nat := (false, if anyS d (moveS d x.2 k) then putS (moveS d x.2 k) 0 else moveS d x.2 k)
def starA (d : Au) (x : Bool × List Nat) : Bool := x.1 || anyS d x.2
/-- With an accepting state the set holds the first state. -/
def StarC (d : Au) (x : Bool × List Nat) : Prop := (∃ q ∈ x.2, d.A q = true) → 0 ∈ x.2
theorem starC_start (d : Au) : StarC d starS := fun _ => by simp [starS]
theorem mem_starG {d : Au} {x : Bool × List Nat} {k q : Nat} : q ∈ (starG d x k).2 ↔ (∃ p ∈ x.2, d.T p k = q) ∨ ((∃ p ∈ x.2, d.A (d.T p k) = true) ∧ q = 0) := by
  have ha : anyS d (moveS d x.2 k) = true ↔ ∃ p ∈ x.2, d.A (d.T p k) = true := by
    rw [anyS_iff]
    constructor
    · rintro ⟨q, hq, h⟩
      obtain ⟨p, hp, rfl⟩ := mem_move.1 hq
      exact ⟨p, hp, h⟩
    · rintro ⟨p, hp, h⟩
      exact ⟨_, mem_move.2 ⟨p, hp, rfl⟩, h⟩
  unfold starG
  by_cases h : anyS d (moveS d x.2 k) = true
  · simp only [h, if_true]
    rw [mem_putS, mem_move]
    have := ha.1 h
    constructor
    · rintro (rfl | h2)
      · exact .inr ⟨this, rfl⟩
      · exact .inl h2
    · rintro (h2 | ⟨_, rfl⟩)
      · exact .inr h2
      · exact .inl rfl
  · have hn : ¬ ∃ p ∈ x.2, d.A (d.T p k) = true := fun h2 => h (ha.2 h2)
    simp only [h]
    simp only [Bool.false_eq_true, if_false]
    rw [mem_move]
    constructor
    · exact fun h2 => .inl h2
    · rintro (h2 | ⟨h2, _⟩)
      · exact h2
      · exact absurd h2 hn
theorem starC_step (d : Au) (x : Bool × List Nat) (k : Nat) : StarC d (starG d x k) := by
  rintro ⟨q, hq, h⟩
  rcases mem_starG.1 hq with ⟨p, hp, rfl⟩ | ⟨h2, _⟩
  · exact mem_starG.2 (.inr ⟨⟨p, hp, h⟩, rfl⟩)
  · exact mem_starG.2 (.inr ⟨h2, rfl⟩)
/-- What a key accepts. -/
def starL (d : Au) (x : Bool × List Nat) (w : List Nat) : Prop := (x.1 = true ∧ w = []) ∨ ∃ q ∈ x.2, ∃ u v, w = u ++ v ∧ d.A (d.run q u) = true ∧ StarW d v
theorem starL_nil (d : Au) (x : Bool × List Nat) : starL d x [] ↔ starA d x = true := by
  unfold starL starA
  rw [Bool.or_eq_true, anyS_iff]
  constructor
  · rintro (⟨h, _⟩ | ⟨q, hq, u, v, e, ha, _⟩)
    · exact .inl h
    · rw [(List.append_eq_nil_iff.1 e.symm).1] at ha
      exact .inr ⟨q, hq, ha⟩
  · rintro (h | ⟨q, hq, ha⟩)
    · exact .inl ⟨h, rfl⟩
    · exact .inr ⟨q, hq, [], [], rfl, ha, .nil⟩
theorem starL_step (d : Au) (x : Bool × List Nat) (hx : StarC d x) (k : Nat) (w : List Nat) : starL d (starG d x k) w ↔ starL d x (k :: w) := by
  unfold starL
  constructor
  · rintro (⟨h, _⟩ | ⟨q, hq, u, v, e, ha, hv⟩)
    · exact absurd h (by simp [starG])
    · subst e
      rcases mem_starG.1 hq with ⟨p, hp, rfl⟩ | ⟨⟨p, hp, hpa⟩, rfl⟩
      · exact .inr ⟨p, hp, k :: u, v, rfl, ha, hv⟩
      · exact .inr ⟨p, hp, [k], u ++ v, rfl, hpa, hv.more ha⟩
  · rintro (⟨_, h⟩ | ⟨q, hq, u, v, e, ha, hv⟩)
    · cases h
    · cases u with
      | nil =>
        have e3 : k :: w = v := e
        subst e3
        have h0 := hx ⟨q, hq, ha⟩
        generalize hy : k :: w = y at hv
        cases hv with
        | nil => cases hy
        | app u' v' hu' ha' hv' =>
          cases u' with
          | nil => exact absurd rfl hu'
          | cons z u' =>
            injection hy with e1 e2
            subst e1
            exact .inr ⟨d.T 0 k, mem_starG.2 (.inl ⟨0, h0, rfl⟩), u', v', e2, ha', hv'⟩
      | cons z u =>
        injection e with e1 e2
        subst e1
        exact .inr ⟨d.T q k, mem_starG.2 (.inl ⟨q, hq, rfl⟩), u, v, e2, ha, hv⟩
theorem starL_start (d : Au) (w : List Nat) : starL d starS w ↔ StarW d w := by
  unfold starL starS
  constructor
  · rintro (⟨_, rfl⟩ | ⟨q, hq, u, v, rfl, ha, hv⟩)
    · exact .nil
    · simp only [List.mem_singleton] at hq
      subst hq
      exact hv.more ha
  · intro h
    cases h with
    | nil => exact .inl ⟨rfl, rfl⟩
    | app u v _ ha hv => exact .inr ⟨0, by simp, u, v, rfl, ha, hv⟩
end Go.Proofs.YthmfncklepkddabDoor

namespace Go.Proofs.YthmfncklepkddabDoor
open Go.RowKit

section
variable {α : Type} [DecidableEq α] [Inhabited α] {s0 : α} {g : α → Nat → α} {M : Nat}
theorem Ends.one {N N' : Nat} (h : Ends s0 g N) (h' : Ends s0 g N') : N = N' := by
  rcases Nat.lt_trichotomy N N' with hl | e | hl
  · have := h'.on N hl
    have := h.stop
    omega
  · exact e
  · have := h.on N' hl
    have := h'.stop
    omega
/-- The search is alive at row i and has met too many: it does not end below. -/
theorem Ends.not_big {i N M : Nat} (ha : ∀ j, j ≤ i → j < (ords s0 g (3 * j)).length) (hb : M < (ords s0 g (3 * (i + 1))).length) (hN : N ≤ M) : ¬ Ends s0 g N := fun h => by
  have hi : i < N := by
    apply Nat.lt_of_not_le
    intro hle
    have := ha N hle
    have := h.stop
    omega
  have h1 := (ords_prefix (s0 := s0) (g := g) (show 3 * (i + 1) ≤ 3 * N by omega)).length_le
  have := h.stop
  omega
/-- The answer of a search: at most M keys, and the minimal automaton has not too many states. -/
def srchR (M : Nat) (s0 : α) (g : α → Nat → α) (acc : α → Bool) (y : Dx) (ok : Bool) : Prop :=
  (∃ N, N ≤ M ∧ Ends s0 g N ∧ ∃ m, Canon m ∧ Eqv m 0 (found s0 g acc N) 0 ∧ y = fitD m ∧ ok = decide (m.n ≤ 40)) ∨ ((∀ N, N ≤ M → ¬ Ends s0 g N) ∧ y = ⟨[], []⟩ ∧ ok = false)
theorem srchR_some (M : Nat) (s0 : α) (g : α → Nat → α) (acc : α → Bool) : ∃ y ok, srchR M s0 g acc y ok := by
  by_cases h : ∃ N, N ≤ M ∧ Ends s0 g N
  · obtain ⟨N, hN, hE⟩ := h
    obtain ⟨m, h1, h2, _⟩ := exists_min (hE.wf acc)
    exact ⟨_, _, .inl ⟨N, hN, hE, m, h1, h2, rfl, rfl⟩⟩
  · exact ⟨_, _, .inr ⟨fun N hN hE => h ⟨N, hN, hE⟩, rfl, rfl⟩⟩
theorem srchR_yes {acc : α → Bool} {y : Dx} {ok : Bool} (h : srchR M s0 g acc y ok) {N : Nat} (hN : N ≤ M) (hE : Ends s0 g N) {m : Au} (h1 : Canon m) (h2 : Eqv m 0 (found s0 g acc N) 0) : fitD m = y ∧ decide (m.n ≤ 40) = ok := by
  rcases h with ⟨N', _, hE', m', n1, n2, rfl, rfl⟩ | ⟨hn, _⟩
  · have e := hE.one hE'
    subst e
    exact fit_one h1 n1 (h2.swap n2)
  · exact absurd hE (hn N hN)
theorem srchR_no {acc : α → Bool} {y : Dx} {ok : Bool} (h : srchR M s0 g acc y ok) (hn : ∀ N, N ≤ M → ¬ Ends s0 g N) : y = ⟨[], []⟩ ∧ ok = false := by
  rcases h with ⟨N, hN, hE, _⟩ | ⟨_, h⟩
  · exact absurd hE (hn N hN)
  · exact h
theorem srchR_wt {acc : α → Bool} {y : Dx} {ok : Bool} (h : srchR M s0 g acc y ok) : wtD y ≤ 1048576 := by
  rcases h with ⟨_, _, _, m, _, _, rfl, _⟩ | ⟨_, rfl, _⟩
  · exact fitD_wt m
  · decide
/-- What the answer accepts. -/
theorem srchR_lang {acc : α → Bool} {y : Dx} (h : srchR M s0 g acc y true) {L : α → List Nat → Prop} (h0 : ∀ x, L x [] ↔ acc x = true) {I : α → Prop} (hI0 : I s0) (hIs : ∀ x k, I x → I (g x k)) (h1 : ∀ x, I x → ∀ k w, L (g x k) w ↔ L x (k :: w)) :
    ∃ m, Canon m ∧ m.n ≤ 40 ∧ y = fieldsOf m ∧ ∀ w, W3 w → (m.A (m.run 0 w) = true ↔ L s0 w) := by
  rcases h with ⟨N, _, hE, m, n1, n2, rfl, hok⟩ | ⟨_, _, hf⟩
  · have hn : m.n ≤ 40 := by simpa using hok.symm
    have hI : ∀ t, t ≤ 3 * N → ∀ x ∈ ords s0 g t, I x := by
      intro t
      induction t with
      | zero =>
        intro _ x hx
        rw [ords, List.mem_singleton] at hx
        rw [hx]
        exact hI0
      | succ t ih =>
        intro ht x hx
        have hk : I ((ords s0 g t).getD (t / 3) default) := by
          refine ih (by omega) _ (getD_mem ?_)
          have h1 := hE.on (t / 3) (by omega)
          have h2 := (ords_prefix (s0 := s0) (g := g) (show 3 * (t / 3) ≤ t by omega)).length_le
          omega
        rw [ords] at hx
        split at hx
        · exact ih (by omega) x hx
        · rcases List.mem_append.1 hx with h | h
          · exact ih (by omega) x h
          · rw [List.mem_singleton.1 h]
            exact hIs _ _ hk
    refine ⟨m, n1, hn, by unfold fitD; rw [if_pos hn], fun w hw => ?_⟩
    have hl := hE.lang (acc := acc) (L := fun x w => @decide (L x w) (Classical.propDecidable _)) (fun x => by
      have := h0 x
      cases ha : acc x <;> simp [ha] at this ⊢ <;> exact this) (fun x hx k _ w _ => by
      have := h1 x (hI _ (Nat.le_refl _) x hx) k w
      exact decide_eq_decide.2 this) w 0 hw hE.pos
    rw [ords_first] at hl
    rw [n2 w hw, hl]
    exact @decide_eq_true_iff _ (Classical.propDecidable _)
  · cases hf
end
/-- ConcatDfa's and StarDfa's answers. -/
def catR (a b y : Dx) (ok : Bool) : Prop := if validD a = true ∧ validD b = true then srchR 400 (catS (auD a)) (catG (auD a) (auD b)) (fun x => anyS (auD b) x.2) y ok else y = ⟨[], []⟩ ∧ ok = false
def starR (d y : Dx) (ok : Bool) : Prop := if validD d = true then srchR 400 starS (starG (auD d)) (starA (auD d)) y ok else y = ⟨[], []⟩ ∧ ok = false
theorem catR_some (a b : Dx) : ∃ y ok, catR a b y ok := by
  unfold catR
  by_cases h : validD a = true ∧ validD b = true
  · simp only [if_pos h]
    exact srchR_some _ _ _ _
  · simp only [if_neg h]
    exact ⟨_, _, rfl, rfl⟩
theorem starR_some (d : Dx) : ∃ y ok, starR d y ok := by
  unfold starR
  by_cases h : validD d = true
  · simp only [if_pos h]
    exact srchR_some _ _ _ _
  · simp only [if_neg h]
    exact ⟨_, _, rfl, rfl⟩
/-- What a concatenation and a repetition accept. -/
theorem catR_lang {a b y : Dx} (h : catR a b y true) : validD a = true ∧ validD b = true ∧ ∃ m, Canon m ∧ m.n ≤ 40 ∧ y = fieldsOf m ∧ ∀ w, W3 w → (m.A (m.run 0 w) = true ↔ ∃ u v, w = u ++ v ∧ (auD a).A ((auD a).run 0 u) = true ∧ (auD b).A ((auD b).run 0 v) = true) := by
  unfold catR at h
  by_cases hc : validD a = true ∧ validD b = true
  · rw [if_pos hc] at h
    obtain ⟨m, h1, h2, h3, h4⟩ := srchR_lang h (L := catL (auD a) (auD b)) (fun x => catL_nil _ _ x) (I := fun _ => True) trivial (fun _ _ _ => trivial) (fun x _ k w => catL_step _ _ x k w)
    exact ⟨hc.1, hc.2, m, h1, h2, h3, fun w hw => (h4 w hw).trans (catL_start _ _ w)⟩
  · rw [if_neg hc] at h
    exact absurd h.2 (by simp)
theorem starR_lang {d y : Dx} (h : starR d y true) : validD d = true ∧ ∃ m, Canon m ∧ m.n ≤ 40 ∧ y = fieldsOf m ∧ ∀ w, W3 w → (m.A (m.run 0 w) = true ↔ StarW (auD d) w) := by
  unfold starR at h
  by_cases hc : validD d = true
  · rw [if_pos hc] at h
    obtain ⟨m, h1, h2, h3, h4⟩ := srchR_lang h (L := starL (auD d)) (fun x => starL_nil _ x) (I := StarC (auD d)) (starC_start _) (fun x k _ => starC_step _ x k) (fun x hx k w => starL_step _ x hx k w)
    exact ⟨hc, m, h1, h2, h3, fun w hw => (h4 w hw).trans (starL_start _ w)⟩
  · rw [if_neg hc] at h
    exact absurd h.2 (by simp)
end Go.Proofs.YthmfncklepkddabDoor
