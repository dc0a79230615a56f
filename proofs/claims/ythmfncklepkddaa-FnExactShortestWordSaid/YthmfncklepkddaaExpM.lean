/-
  A search in breadth as the program goes it: what is met, in a row and in a map; the automaton that it lays, in a box. Of no function of the program.
  What a search with a limit answers: the minimal automaton of what it meets, or nothing.
-/
import Derived.Test.YthmfncklepkddaaMinzI
import Derived.Test.YthmfncklepkddaaSrchR
import Derived.Maps.OwnSet
import Derived.Maps.Own
import Derived.Maps.AppendAt
import Derived.WalkArith
import Derived.Deep.RegionLaw
namespace Go.Proofs.Ythmfncklepkddaa
open Go.RowKit Go.Maps

section
variable {α : Type} [DecidableEq α] [Inhabited α] {s0 : α} {g : α → Nat → α}
/-- The key of state i; where letter k leads from it. -/
def keyA (s0 : α) (g : α → Nat → α) (i : Nat) : α := (ords s0 g (3 * i)).getD i default
def toA (s0 : α) (g : α → Nat → α) (i k : Nat) : Nat := (ords s0 g (3 * i + k + 1)).idxOf (g (keyA s0 g i) k)
theorem keyA_at {i t : Nat} (hi : i < (ords s0 g (3 * i)).length) (ht : 3 * i ≤ t) : i < (ords s0 g t).length ∧ (ords s0 g t).getD i default = keyA s0 g i :=
  ⟨Nat.lt_of_lt_of_le hi (ords_prefix ht).length_le, ords_at ht hi⟩
theorem keyA_step {i k : Nat} (hi : i < (ords s0 g (3 * i)).length) (hk : k < 3) :
    (g (keyA s0 g i) k ∈ ords s0 g (3 * i + k) → ords s0 g (3 * i + (k + 1)) = ords s0 g (3 * i + k) ∧ toA s0 g i k = (ords s0 g (3 * i + k)).idxOf (g (keyA s0 g i) k)) ∧
    (g (keyA s0 g i) k ∉ ords s0 g (3 * i + k) → ords s0 g (3 * i + (k + 1)) = ords s0 g (3 * i + k) ++ [g (keyA s0 g i) k] ∧ toA s0 g i k = (ords s0 g (3 * i + k)).length) := by
  have e : (ords s0 g (3 * i + k)).getD i default = keyA s0 g i := ords_at (by omega) hi
  have hs : ords s0 g (3 * i + (k + 1)) = if g (keyA s0 g i) k ∈ ords s0 g (3 * i + k) then ords s0 g (3 * i + k) else ords s0 g (3 * i + k) ++ [g (keyA s0 g i) k] := by
    rw [show 3 * i + (k + 1) = 3 * i + k + 1 by omega, ords, show (3 * i + k) / 3 = i by omega, show (3 * i + k) % 3 = k by omega, e]
  have ht : toA s0 g i k = (ords s0 g (3 * i + (k + 1))).idxOf (g (keyA s0 g i) k) := rfl
  refine ⟨fun hx => ?_, fun hx => ?_⟩
  · rw [if_pos hx] at hs
    exact ⟨hs, by rw [ht, hs]⟩
  · rw [if_neg hx] at hs
    refine ⟨hs, ?_⟩
    rw [ht, hs, List.idxOf_append, if_neg hx]
    simp
theorem found_keyA {N : Nat} (h : Ends s0 g N) (acc : α → Bool) {i : Nat} (hi : i < N) : (found s0 g acc N).A i = acc (keyA s0 g i) ∧ ∀ k, k < 3 → (found s0 g acc N).T i k = toA s0 g i k := by
  have hk : (ords s0 g (3 * N)).getD i default = keyA s0 g i := ords_at (by omega) (h.on i hi)
  refine ⟨?_, fun k hk3 => ?_⟩
  · show acc _ = _
    rw [hk]
  · obtain ⟨h1, h2⟩ := h.key hi hk3
    show (ords s0 g (3 * N)).idxOf (g ((ords s0 g (3 * N)).getD i default) k) = _
    rw [hk] at h2 ⊢
    exact idx_prefix (ords_prefix (show 3 * i + k + 1 ≤ 3 * N by omega)) h2
/-- What lies in row i of the automaton. -/
def rowC (s0 : α) (g : α → Nat → α) (i : Nat) : List Value := [.int .i64 ((toA s0 g i 0 : Nat) : Int), .int .i64 ((toA s0 g i 1 : Nat) : Int), .int .i64 ((toA s0 g i 2 : Nat) : Int)]
theorem rowC_length (i : Nat) : (rowC s0 g i).length = 3 := rfl
def rowsC (s0 : α) (g : α → Nat → α) (n : Nat) : List Value := (List.range n).flatMap (rowC s0 g)
theorem rowsC_succ (n : Nat) : rowsC s0 g (n + 1) = rowsC s0 g n ++ rowC s0 g n := by simp [rowsC, List.range_succ, List.flatMap_append]
theorem rowsC_length : ∀ n, (rowsC s0 g n).length = n * 3
  | 0 => rfl
  | n + 1 => by rw [rowsC_succ, List.length_append, rowsC_length n, rowC_length]; omega
theorem rowsC_at : ∀ (n q k : Nat), q < n → k < 3 → (rowsC s0 g n)[q * 3 + k]? = some (.int .i64 ((toA s0 g q k : Nat) : Int))
  | 0, _, _, h, _ => absurd h (Nat.not_lt_zero _)
  | n + 1, q, k, h, hk => by
    rw [rowsC_succ]
    by_cases e : q = n
    · subst e
      rw [List.getElem?_append_right (by rw [rowsC_length]; omega), rowsC_length, Nat.add_sub_cancel_left]
      rcases (show k = 0 ∨ k = 1 ∨ k = 2 by omega) with rfl | rfl | rfl <;> rfl
    · rw [List.getElem?_append_left (by rw [rowsC_length]; omega)]
      exact rowsC_at n q k (by omega) hk

/-- A map that tells each met key's number. -/
def MapOf (kl : α → Lit) (Ok : α → Prop) (D : DataW Unit) (l : List α) : Prop :=
  IsMap D ∧ ∀ x, Ok x → Maps.has D (kl x) = decide (x ∈ l) ∧ (x ∈ l → ∀ z, D.atKey (kl x) z = .lit (.int .i64 ((l.idxOf x : Nat) : Int)))
omit [Inhabited α] in
theorem MapOf.nil (kl : α → Lit) (Ok : α → Prop) : MapOf kl Ok (.map []) [] := ⟨isMap_empty, fun x _ => ⟨by simp [Maps.has], fun h => by simp at h⟩⟩
omit [Inhabited α] in
theorem MapOf.put {kl : α → Lit} {Ok : α → Prop} {D : DataW Unit} {l : List α} (h : MapOf kl Ok D l) (hinj : ∀ x y, Ok x → Ok y → kl x = kl y → x = y) (hkey : ∀ x, Ok x → WideAt.IsKeyLit (kl x)) {x : α} (hx : Ok x) (hn : x ∉ l) :
    MapOf kl Ok (D.put (kl x) (.lit (.int .i64 ((l.length : Nat) : Int)))) (l ++ [x]) := by
  refine ⟨h.1.put _ _, fun y hy => ?_⟩
  by_cases e : y = x
  · subst e
    refine ⟨by rw [has_put_same h.1 (hkey y hy)]; simp, fun _ z => ?_⟩
    rw [atKey_put_same h.1 (hkey y hy), List.idxOf_append, if_neg hn]
    simp
  · have hne : kl y ≠ kl x := fun e2 => e (hinj y x hy hx e2)
    have hmem : y ∈ l ++ [x] ↔ y ∈ l := by simp [e]
    refine ⟨?_, fun hm z => ?_⟩
    · rw [has_put_other hne, (h.2 y hy).1]
      simp [e]
    · rw [atKey_put_other hne, (h.2 y hy).2 (hmem.1 hm) z, List.idxOf_append, if_pos (hmem.1 hm)]
end

theorem blk_ofz {w : World} {base sz : Nat} {e : TypeId} {v : Value} {n : Nat} {xs : List Value} (h : w.ownsRow base e sz v n xs) {g : Nat} (hg : v.ownBlock = some g) : ∃ cur, w.heap[g]? = some (.cells cur e (0, 0)) := by
  rcases h.2 with ⟨rfl, _⟩ | ⟨g', cap, cur, rfl, _, hh, _⟩
  · simp [Value.ownBlock] at hg
  · simp [Value.ownBlock] at hg
    subst hg
    exact ⟨cur, hh⟩
/-- A row stays where what turns is of another make. -/
theorem own_far {w w' : World} {B sz : Nat} {e : TypeId} {v : Value} {n : Nat} {xs : List Value} {row : Option Nat} (h : w.ownsRow B e sz v n xs) (hg : w.grownBy w' row) (hr : ∀ g, row = some g → ∃ o, w.heap[g]? = some o ∧ ∀ cur, o ≠ .cells cur e (0, 0)) : w'.ownsRow B e sz v n xs := by
  refine World.ownsRow.kept h hg ?_
  cases hv : v.ownBlock with
  | none => exact .inl rfl
  | some g =>
    obtain ⟨cur, hh⟩ := blk_ofz h hv
    exact .inr (fun er => by
      obtain ⟨o, ho, hne⟩ := hr g er.symm
      rw [hh] at ho
      cases ho
      exact hne _ rfl)
theorem own_setz {w : World} {B sz : Nat} {e : TypeId} {v : Value} {n : Nat} {xs : List Value} (h : w.ownsRow B e sz v n xs) {p : Addr} (hr : ∃ o, w.heap[p.block]? = some o ∧ ∀ cur, o ≠ .cells cur e (0, 0)) (u : Value) : (w.setCell p u).ownsRow B e sz v n xs := by
  refine ownsRow_setCell_other h (fun er => ?_) _
  obtain ⟨cur, hh⟩ := blk_ofz h er
  obtain ⟨o, ho, hne⟩ := hr
  rw [hh] at ho
  cases ho
  exact hne _ rfl
theorem own_cell {w : World} {B sz : Nat} {e : TypeId} {v : Value} {n : Nat} {xs : List Value} (h : w.ownsRow B e sz v n xs) (hn : 0 < n) : ∃ g c, v = .slice (some ⟨g, 0, none⟩) n c ∧ B ≤ g ∧ ∀ j, j < n * sz → w.cell? ⟨g, j, none⟩ = xs[j]? := by
  rcases h.2 with ⟨_, h0⟩ | ⟨g, cap, cur, rfl, hb, hh, h1, _, h2, h3⟩
  · omega
  · refine ⟨g, cap, rfl, hb, fun j hj => ?_⟩
    rw [cell_of_row w g j cur e (0, 0) hh, ← h3, List.getElem?_take_of_lt hj, Array.getElem?_toList]
theorem ne_cells {T T' : TypeId} {cur : Array Value} (h : T ≠ T') : ∀ cur', (Obj.cells cur T (0, 0)) ≠ .cells cur' T' (0, 0) := fun cur' e => by
  injection e with _ e2
  exact h e2
theorem ne_map {T' : TypeId} {es : Array MapEntry} {clock : Nat} : ∀ cur', (Obj.map es clock) ≠ .cells cur' T' (0, 0) := fun cur' e => by cases e

/-- The search so far: the automaton in its box, the row of what is met, the map of its numbers. -/
structure ExpS (tE sz B bM bR : Nat) (va vr vo : Value) (accs : List Bool) (i : Nat) (rows : List Value) (m : Nat) (xs : List Value) (mm : Nat) (D : DataW Unit) (w : World) : Prop where
  acc : w.ownsRow B 4 1 va accs.length (bools accs)
  row : w.ownsRow B 115 3 vr i rows
  ord : w.ownsRow B tE sz vo m xs
  map : w.ownsMap Try.prog tE (plainElem Try.prog 3) bM mm D
  box : w.heap[bR]? = some (.cells #[va, vr] 98 (0, 0))
  low : B ≤ bR ∧ B ≤ bM
  ne : tE ≠ 4 ∧ tE ≠ 115 ∧ tE ≠ 98
section
variable {tE sz B bM bR : Nat} {va vr vo : Value} {accs : List Bool} {i : Nat} {rows : List Value} {m : Nat} {xs : List Value} {mm : Nat} {D : DataW Unit} {w w' : World}
theorem ExpS.mapB (h : ExpS tE sz B bM bR va vr vo accs i rows m xs mm D w) : ∃ es clock, w.heap[bM]? = some (.map es clock) := by
  obtain ⟨es, clock, hb, _⟩ := h.map
  exact ⟨es, clock, hb⟩
theorem ExpS.below (h : ExpS tE sz B bM bR va vr vo accs i rows m xs mm D w) (hb : Below w.heap.size w w') : ExpS tE sz B bM bR va vr vo accs i rows m xs mm D w' := by
  have hg := grown_of hb
  exact ⟨own_far h.acc hg (fun g e => by cases e), own_far h.row hg (fun g e => by cases e), own_far h.ord hg (fun g e => by cases e), h.map.kept hg (by simp), (hb.block _ (blk_lt h.box)).trans h.box, h.low, h.ne⟩
theorem ExpS.base (h : ExpS tE sz B bM bR va vr vo accs i rows m xs mm D w) : B < w.heap.size := Nat.lt_of_le_of_lt h.low.1 (blk_lt h.box)
/-- One number more in the map. -/
theorem ExpS.map_put {D' : DataW Unit} (h : ExpS tE sz B bM bR va vr vo accs i rows m xs mm D w) (hm : w'.ownsMap Try.prog tE (plainElem Try.prog 3) bM (mm + 1) D') (hg : w.grownBy w' (some bM)) : ExpS tE sz B bM bR va vr vo accs i rows m xs (mm + 1) D' w' := by
  obtain ⟨es, clock, hb⟩ := h.mapB
  have hr : ∀ e g, some bM = some g → ∃ o, w.heap[g]? = some o ∧ ∀ cur, o ≠ .cells cur e (0, 0) := fun e g eg => by cases eg; exact ⟨_, hb, ne_map⟩
  exact ⟨own_far h.acc hg (hr _), own_far h.row hg (hr _), own_far h.ord hg (hr _), hm, (hg.block _ (blk_lt h.box) (fun e => by
    injection e with e
    have := h.box
    rw [e, hb] at this
    cases this)).trans h.box, h.low, h.ne⟩
/-- One key more is met. -/
theorem ExpS.ord_push {vo' : Value} {m' : Nat} {xs' : List Value} (h : ExpS tE sz B bM bR va vr vo accs i rows m xs mm D w) (ho : w'.ownsRow B tE sz vo' m' xs') (hg : w.grownBy w' vo.ownBlock) : ExpS tE sz B bM bR va vr vo' accs i rows m' xs' mm D w' := by
  have hr : ∀ e, tE ≠ e → ∀ g, vo.ownBlock = some g → ∃ o, w.heap[g]? = some o ∧ ∀ cur, o ≠ .cells cur e (0, 0) := fun e hne g eg => by
    obtain ⟨cur, hh⟩ := blk_ofz h.ord eg
    exact ⟨_, hh, ne_cells hne⟩
  obtain ⟨es, clock, hb⟩ := h.mapB
  refine ⟨own_far h.acc hg (hr _ h.ne.1), own_far h.row hg (hr _ h.ne.2.1), ho, h.map.kept hg (fun e => ?_), (hg.block _ (blk_lt h.box) (fun e => ?_)).trans h.box, h.low, h.ne⟩
  · obtain ⟨cur, hh⟩ := blk_ofz h.ord e.symm
    rw [hb] at hh
    cases hh
  · obtain ⟨cur, hh⟩ := blk_ofz h.ord e.symm
    rw [h.box] at hh
    cases hh
    exact h.ne.2.2 rfl
/-- A block that is none of these. -/
def ExpN (B bM bR : Nat) (va vr vo : Value) (g : Nat) : Prop := va.ownBlock ≠ some g ∧ vr.ownBlock ≠ some g ∧ vo.ownBlock ≠ some g ∧ bM ≠ g ∧ bR ≠ g ∧ B ≤ g
theorem ExpS.fresh (h : ExpS tE sz B bM bR va vr vo accs i rows m xs mm D w) {g : Nat} (hg : w.heap.size ≤ g) : ExpN B bM bR va vr vo g :=
  ⟨fun e => by have := (h.acc.lt g e).2; omega, fun e => by have := (h.row.lt g e).2; omega, fun e => by have := (h.ord.lt g e).2; omega, fun e => by have := h.map.lt; omega, fun e => by have := blk_lt h.box; omega, by have := h.base; omega⟩
theorem ExpS.set (h : ExpS tE sz B bM bR va vr vo accs i rows m xs mm D w) {g o : Nat} (hn : ExpN B bM bR va vr vo g) (u : Value) : ExpS tE sz B bM bR va vr vo accs i rows m xs mm D (w.setCell ⟨g, o, none⟩ u) :=
  ⟨ownsRow_setCell_other h.acc hn.1 _, ownsRow_setCell_other h.row hn.2.1 _, ownsRow_setCell_other h.ord hn.2.2.1 _, h.map.setCell hn.2.2.2.1 _, (Below.heap_setCell _ _ _ _ hn.2.2.2.2.1).trans h.box, h.low, h.ne⟩
theorem ExpS.notAcc (h : ExpS tE sz B bM bR va vr vo accs i rows m xs mm D w) : ∀ e, e ≠ 4 → ∀ g, va.ownBlock = some g → ∃ o, w.heap[g]? = some o ∧ ∀ cur, o ≠ .cells cur e (0, 0) := fun e hne g eg => by
  obtain ⟨cur, hh⟩ := blk_ofz h.acc eg
  exact ⟨_, hh, ne_cells hne.symm⟩
theorem ExpS.notRow (h : ExpS tE sz B bM bR va vr vo accs i rows m xs mm D w) : ∀ e, e ≠ 115 → ∀ g, vr.ownBlock = some g → ∃ o, w.heap[g]? = some o ∧ ∀ cur, o ≠ .cells cur e (0, 0) := fun e hne g eg => by
  obtain ⟨cur, hh⟩ := blk_ofz h.row eg
  exact ⟨_, hh, ne_cells hne.symm⟩
/-- One truth value more. -/
theorem ExpS.acc_push {va' : Value} {b : Bool} (h : ExpS tE sz B bM bR va vr vo accs i rows m xs mm D w) (hown : w'.ownsRow B 4 1 va' (accs.length + 1) (bools accs ++ [.bool b])) (hg : w.grownBy w' va.ownBlock) :
    (∃ x, w'.cell? ⟨bR, 0, none⟩ = some x) ∧ w'.frozen? ⟨bR, 0, none⟩ = false ∧ ExpS tE sz B bM bR va' vr vo (accs ++ [b]) i rows m xs mm D (w'.setCell ⟨bR, 0, none⟩ va') := by
  obtain ⟨es, clock, hb⟩ := h.mapB
  have hbox : w'.heap[bR]? = some (.cells #[va, vr] 98 (0, 0)) := (hg.block _ (blk_lt h.box) (fun e => by
    obtain ⟨cur, hh⟩ := blk_ofz h.acc e.symm
    rw [h.box] at hh
    cases hh)).trans h.box
  obtain ⟨c0, c1, f0, f1⟩ := box2_facts hbox
  have hs : ∀ e, e ≠ 98 → ∃ o, w'.heap[(⟨bR, 0, none⟩ : Addr).block]? = some o ∧ ∀ cur, o ≠ .cells cur e (0, 0) := fun e he => ⟨_, hbox, ne_cells he.symm⟩
  have hmk : w'.ownsMap Try.prog tE (plainElem Try.prog 3) bM mm D := h.map.kept hg (fun e => by
    obtain ⟨cur, hh⟩ := blk_ofz h.acc e.symm
    rw [hb] at hh
    cases hh)
  refine ⟨⟨_, c0⟩, f0, ?_, own_setz (own_far h.row hg (h.notAcc _ (by decide))) (hs _ (by decide)) _, own_setz (own_far h.ord hg (h.notAcc _ h.ne.1)) (hs _ h.ne.2.2) _, hmk.setCell (fun e => ?_) _, heap_setCell_same w' bR 0 _ _ va' hbox, h.low, h.ne⟩
  · have e : bools (accs ++ [b]) = bools accs ++ [.bool b] := by simp [bools]
    rw [e, List.length_append]
    exact own_setz hown (hs _ (by decide)) _
  · have e' : bM = bR := e
    obtain ⟨es', clock', hb', _⟩ := hmk
    rw [e', hbox] at hb'
    cases hb'
/-- One row more. -/
theorem ExpS.row_push {vr' : Value} {i' : Nat} {rows' : List Value} (h : ExpS tE sz B bM bR va vr vo accs i rows m xs mm D w) (hown : w'.ownsRow B 115 3 vr' i' rows') (hg : w.grownBy w' vr.ownBlock) :
    (∃ x, w'.cell? ⟨bR, 1, none⟩ = some x) ∧ w'.frozen? ⟨bR, 1, none⟩ = false ∧ ExpS tE sz B bM bR va vr' vo accs i' rows' m xs mm D (w'.setCell ⟨bR, 1, none⟩ vr') := by
  obtain ⟨es, clock, hb⟩ := h.mapB
  have hbox : w'.heap[bR]? = some (.cells #[va, vr] 98 (0, 0)) := (hg.block _ (blk_lt h.box) (fun e => by
    obtain ⟨cur, hh⟩ := blk_ofz h.row e.symm
    rw [h.box] at hh
    cases hh)).trans h.box
  obtain ⟨c0, c1, f0, f1⟩ := box2_facts hbox
  have hs : ∀ e, e ≠ 98 → ∃ o, w'.heap[(⟨bR, 1, none⟩ : Addr).block]? = some o ∧ ∀ cur, o ≠ .cells cur e (0, 0) := fun e he => ⟨_, hbox, ne_cells he.symm⟩
  have hmk : w'.ownsMap Try.prog tE (plainElem Try.prog 3) bM mm D := h.map.kept hg (fun e => by
    obtain ⟨cur, hh⟩ := blk_ofz h.row e.symm
    rw [hb] at hh
    cases hh)
  refine ⟨⟨_, c1⟩, f1, own_setz (own_far h.acc hg (h.notRow _ (by decide))) (hs _ (by decide)) _, own_setz hown (hs _ (by decide)) _, own_setz (own_far h.ord hg (h.notRow _ h.ne.2.1)) (hs _ h.ne.2.2) _, hmk.setCell (fun e => ?_) _, heap_setCell_same w' bR 1 _ _ vr' hbox, h.low, h.ne⟩
  have e' : bM = bR := e
  obtain ⟨es', clock', hb', _⟩ := hmk
  rw [e', hbox] at hb'
  cases hb'
end

/-! An array of three that is filled in a loop. -/
def Arr3 (w : World) (b : Nat) (f : Nat → Value) : Prop := w.heap[b]? = some (.cells #[f 0, f 1, f 2] 115 (0, 0))
theorem Arr3.same {w w' : World} {b : Nat} {f : Nat → Value} (h : Arr3 w b f) (hs : w'.heap[b]? = w.heap[b]?) : Arr3 w' b f := hs.trans h
theorem Arr3.facts {w : World} {b : Nat} {f : Nat → Value} (h : Arr3 w b f) {k : Nat} (hk : k < 3) : w.cell? ⟨b, k, none⟩ = some (f k) ∧ w.frozen? ⟨b, k, none⟩ = false := by
  refine ⟨(cell_of_row w _ k _ _ (0, 0) h).trans ?_, frozen_of_row w _ k _ _ h⟩
  rcases (show k = 0 ∨ k = 1 ∨ k = 2 by omega) with rfl | rfl | rfl <;> rfl
theorem Arr3.set {w : World} {b : Nat} {f : Nat → Value} (h : Arr3 w b f) {k : Nat} (hk : k < 3) {u : Value} {f' : Nat → Value} (hu : f' k = u) (ho : ∀ j, j < 3 → j ≠ k → f' j = f j) : Arr3 (w.setCell ⟨b, k, none⟩ u) b f' := by
  have h1 := heap_setCell_same w b k _ _ u h
  unfold Arr3
  rw [h1]
  rcases (show k = 0 ∨ k = 1 ∨ k = 2 by omega) with rfl | rfl | rfl
  · rw [hu, ho 1 (by omega) (by omega), ho 2 (by omega) (by omega)]; rfl
  · rw [hu, ho 0 (by omega) (by omega), ho 2 (by omega) (by omega)]; rfl
  · rw [hu, ho 0 (by omega) (by omega), ho 1 (by omega) (by omega)]; rfl
theorem Arr3.lt {w : World} {b : Nat} {f : Nat → Value} (h : Arr3 w b f) : b < w.heap.size := blk_lt h
/-- The first k are known. -/
def cutV (t : Nat → Nat) (k j : Nat) : Value := if j < k then .int .i64 ((t j : Nat) : Int) else .int .i64 0
theorem cutV_step (t : Nat → Nat) (k : Nat) : cutV t (k + 1) k = .int .i64 ((t k : Nat) : Int) ∧ ∀ j, j ≠ k → cutV t (k + 1) j = cutV t k j := by
  refine ⟨by simp [cutV], fun j hj => ?_⟩
  unfold cutV
  by_cases h : j < k
  · rw [if_pos h, if_pos (by omega)]
  · rw [if_neg h, if_neg (by omega)]

/-- A call of a function value, as one step of a region that draws. -/
theorem step_call_val {P : Program} {ops : Array Oper} {o : Oper} {a : Act} {w : World} {K : Act → World → Prop} {Q : Exit → Act → World → Prop} {E : Prop}
    (hg : o.guard = none) (fo : Operand) (args : Array Operand) (ts : Array TypeId) (hop : o.op = Op.call { callee := Callee.value fo, args := args, argTypes := ts }) (f : FuncId) (lb : Array Value) (hf : a.eval fo = .func (.func f) #[] lb) (hent : ∀ args w, (callFunc f args).run P w = .ok (.enter f args) w)
    (vs : Array Value) (hvs : args.map a.eval = vs) {R : Ending → World → Prop} (hC : Calls P f (vs ++ lb) w R) (hR : ∀ e w', R e w' → ∃ v, e = .returned v ∧ K (a.put o.dst v) w') :
    if Region.wanted o (yielded ops a.tmps) = true then Oper.wp P o a w K Q else E := by
  rw [if_pos (by simp [Region.wanted, hg])]
  unfold Oper.wp
  have hrun : (execOp a.eval o).run P w = .ok (.enter f (vs ++ lb)) w := by
    simp [execOp, hop, resolve, invoke, hf, Deferred.ofValue, hent, ← hvs]
  rw [hrun, Oper.upon_enter]
  refine hC.mono fun e w' h => ?_
  obtain ⟨v, rfl, hk⟩ := hR e w' h
  exact hk
/-- A map literal's entry. -/
theorem wpList_insert_own {H : Type} {P : Program} (w : World) {ops : Array Oper} {rest : List Oper} {o : Oper} {a : Act} {Q : Exit → Act → World → Prop}
    (hg : o.guard = none) (m x v : Operand) (t : TypeId) (hop : o.op = Op.insert t m x v)
    (k e : TypeId) (K : Keyed P k) (ht : P.underlying t = some (.map k e)) (R : Value → Option (DataW H × List MemPlace)) (b n : Nat) (D : DataW H)
    (hm : a.eval m = .map (some b)) (hown : w.ownsMap P k R b n D) (hn : n < maxLen) (key val : Value) (kl : Lit) (hx : a.eval x = key) (hv : a.eval v = val) (hkey : keyOf P k key = some kl)
    (d : DataW H) (ps : List MemPlace) (hval : R val = some (d, ps))
    (hK : ∀ w', w'.ownsMap P k R b (n + 1) (D.put kl d) → w.grownBy w' (some b) → wpList P ops Q rest (a.put o.dst undef) w') :
    wpList P ops Q (o :: rest) a w := by
  refine wpList_plain hg fun K' hK' => ?_
  obtain ⟨w', hrun, h1, h2⟩ := hown.update K ht hn hkey hval
  unfold Oper.wp
  simp [execOp, hop, hm, hx, hv, hrun, Result.andThen]
  exact hK' _ _ (hK w' h1 h2)

section
variable {α : Type} [DecidableEq α] [Inhabited α]
/-- The automaton that is found, or the word that too much was met. -/
def ExpPost (x0 : α) (T : α → Nat → α) (acc : α → Bool) (M : Nat) (w : World) (e : Ending) (w' : World) : Prop :=
  (∃ N va vr, Ends x0 T N ∧ N ≤ M ∧ e = .returned (.tuple #[.agg #[va, vr], .bool true]) ∧ AutoV w' va vr (found x0 T acc N) ∧ Below w.heap.size w w') ∨
  ((∀ N, N ≤ M → ¬ Ends x0 T N) ∧ e = .returned (.tuple #[.agg #[.slice none 0 0, .slice none 0 0], .bool false]) ∧ Below w.heap.size w w')
/-- What is met is of the kind that it began with. -/
theorem ords_ok {s0 : α} {g : α → Nat → α} {Ok : α → Prop} (h0 : Ok s0) (hg : ∀ x k, Ok x → k < 3 → Ok (g x k)) {i : Nat} (ha : ∀ j, j < i → j < (ords s0 g (3 * j)).length) : ∀ t, t ≤ 3 * i → ∀ x ∈ ords s0 g t, Ok x := by
  intro t
  induction t with
  | zero => intro _ x hx; simp [ords] at hx; rw [hx]; exact h0
  | succ t ih =>
    intro ht x hx
    have hd : Ok ((ords s0 g t).getD (t / 3) default) := by
      refine ih (by omega) _ (getD_mem ?_)
      have h1 := ha (t / 3) (by omega)
      have h2 := (ords_prefix (s0 := s0) (g := g) (show 3 * (t / 3) ≤ t by omega)).length_le
      omega
    rw [ords] at hx
    split at hx
    · exact ih (by omega) x hx
    · rcases List.mem_append.1 hx with hx | hx
      · exact ih (by omega) x hx
      · rw [List.mem_singleton] at hx
        rw [hx]
        exact hg _ _ hd (by omega)
/-- Too much is met. -/
theorem exp_big {s0 : α} {g : α → Nat → α} {i k M : Nat} (ha : ∀ j, j < i + 1 → j < (ords s0 g (3 * j)).length) (hk : k < 3) (hb : (ords s0 g (3 * i + (k + 1))).length = M + 1) : ∀ N, N ≤ M → ¬ Ends s0 g N := fun N hN => by
  refine Ends.not_big (M := M) (i := i) (fun j hj => ha j (by omega)) ?_ hN
  have := (ords_prefix (s0 := s0) (g := g) (show 3 * i + (k + 1) ≤ 3 * (i + 1) by omega)).length_le
  omega
end

theorem lawInt : Keyed Try.prog 3 := int_keyed Try.underlying3
theorem zeroInt (w : World) : (zeroValue 3).run Try.prog w = .ok (.int .i64 0) w := by kernel_rfl
def klN (x : Nat) : Lit := .int .i64 (x : Int)
theorem klN_inj (x y : Nat) (h : klN x = klN y) : x = y := by
  unfold klN at h
  injection h with _ h
  exact_mod_cast h
theorem klN_wf {x : Nat} (h : x < 9223372036854775807) : (Lit.int .i64 (x : Int)).wf = true := by
  exact WalkArith.wf_i64 (by omega)
theorem klN_key {x : Nat} (h : x < 9223372036854775807) : keyOf Try.prog 3 (.int .i64 (x : Int)) = some (klN x) := keyOf_int_mk Try.underlying3 (klN_wf h)

theorem newB3 (w : World) (x y z : Value) (t : TypeId) : ∀ (j : Nat) (u : Value), [x, y, z][j]? = some u → (w.alloc (.cells #[x, y, z] t)).cell? ((⟨w.heap.size, 0, none⟩ : Addr).add j) = some u := by
  intro j u h
  rw [Addr.add_lit]
  match j, h with
  | 0, h => cases h; simp
  | 1, h => cases h; simp
  | 2, h => cases h; simp
theorem newB2 (w : World) (x y : Value) (t : TypeId) : ∀ (j : Nat) (u : Value), [x, y][j]? = some u → (w.alloc (.cells #[x, y] t)).cell? ((⟨w.heap.size, 0, none⟩ : Addr).add j) = some u := by
  intro j u h
  rw [Addr.add_lit]
  match j, h with
  | 0, h => cases h; simp
  | 1, h => cases h; simp
end Go.Proofs.Ythmfncklepkddaa
