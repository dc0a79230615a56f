/-
  An automaton that grows in a box: its rows, and what stays of them where another row grows. Of no function of the program.
  An automaton that grows in a box, next to the list of what is met and to the row at hand. Of no function of the program.
-/
import Derived.Test.YthmfncklepkddabDoorDfaX
import Derived.OwnWalk
import Derived.Maps.AppendAt
import Derived.OneCell
namespace Go.Proofs.YthmfncklepkddabDoor
open Go.RowKit

theorem blk_of {w : World} {base : Nat} {e : TypeId} {v : Value} {n : Nat} {xs : List Value} (h : w.ownsRow base e 1 v n xs) {g : Nat} (hg : v.ownBlock = some g) : ∃ cur, w.heap[g]? = some (.cells cur e (0, 0)) := by
  rcases h.2 with ⟨rfl, _⟩ | ⟨g', cap, cur, rfl, _, hh, _⟩
  · simp [Value.ownBlock] at hg
  · simp [Value.ownBlock] at hg
    subst hg
    exact ⟨cur, hh⟩
theorem blk_ne {w : World} {g g' : Nat} {cur cur' : Array Value} {e e' : TypeId} (h : w.heap[g]? = some (.cells cur e (0, 0))) (h' : w.heap[g']? = some (.cells cur' e' (0, 0))) (hne : e ≠ e') : g ≠ g' := fun eq => by
  subst eq
  rw [h] at h'
  cases h'
  exact hne rfl
/-- A row of ints of the call's own. -/
def IR (w : World) (B : Nat) (v : Value) (l : List Int) : Prop := w.ownsRow B 3 1 v l.length (ints l)
theorem IR.kept {w w' : World} {B : Nat} {v : Value} {l : List Int} {row : Option Nat} (h : IR w B v l) (hg : w.grownBy w' row) (hne : ∀ g, v.ownBlock = some g → row ≠ some g) : IR w' B v l := by
  refine World.ownsRow.kept h hg ?_
  cases hv : v.ownBlock with
  | none => exact .inl rfl
  | some g => exact .inr (fun e => hne g hv e.symm)
theorem IR.row {w : World} {B : Nat} {v : Value} {l : List Int} (h : IR w B v l) (hl : l.length ≤ 9223372036854775807) : RowO w (fun g => v.ownBlock = some g) v (ints l) := RowO.of_owns h hl
theorem grown_of {w w' : World} (h : Below w.heap.size w w') : w.grownBy w' none := ⟨h.os, h.tape, h.output, h.size, fun k hk _ => h.block k hk⟩
/-- A row of one, just laid. -/
theorem IR.one (w : World) (x : Int) {B : Nat} (hB : B ≤ w.heap.size) : IR (w.alloc (.cells #[.int .i64 x] 3)) B (.slice (some ⟨w.heap.size, 0, none⟩) 1 1) [x] :=
  ⟨rfl, .inr ⟨w.heap.size, 1, #[.int .i64 x], rfl, hB, heap_alloc_new w _, Nat.le_refl _, by decide, rfl, rfl⟩⟩

/-- The automaton so far, in its box. -/
structure Out (B : Nat) (w : World) (bo : Nat) (va vn : Value) (accs : List Bool) (us : List Value) (rss : List (List Value)) (K : Nat → Nat → Prop) : Prop where
  acc : w.ownsRow B 4 1 va accs.length (bools accs)
  nxt : w.ownsRow B 38 1 vn us.length us
  rows : RowsP (fun g => B ≤ g) w us rss K
  kint : ∀ j g, K j g → ∃ cur, w.heap[g]? = some (.cells cur 3 (0, 0))
  box : w.heap[bo]? = some (.cells #[va, vn] 28 (0, 0))
  low : B ≤ bo
variable {B : Nat} {w w' : World} {bo : Nat} {va vn : Value} {accs : List Bool} {us : List Value} {rss : List (List Value)} {K : Nat → Nat → Prop}
/-- Where a row of ints grows that is none of its own. -/
theorem Out.kept {row : Option Nat} (h : Out B w bo va vn accs us rss K) (hg : w.grownBy w' row) (hrow : ∀ g, row = some g → (∃ cur, w.heap[g]? = some (.cells cur 3 (0, 0))) ∧ ∀ j, ¬ K j g) : Out B w' bo va vn accs us rss K := by
  have keep : ∀ (g : Nat) (cur : Array Value) (e : TypeId), w.heap[g]? = some (.cells cur e (0, 0)) → e ≠ 3 → w'.heap[g]? = w.heap[g]? := fun g cur e hh he =>
    hg.block g (Array.getElem?_eq_some_iff.1 hh).1 (fun er => by
      obtain ⟨⟨cur', hh'⟩, _⟩ := hrow g er.symm
      exact blk_ne hh hh' he rfl)
  refine ⟨h.acc.kept hg ?_, h.nxt.kept hg ?_, h.rows.keep (fun j g hk => ?_) h.rows.sub hg.size, fun j g hk => ?_, (keep bo _ _ h.box (by decide)).trans h.box, h.low⟩
  · cases hv : va.ownBlock with
    | none => exact .inl rfl
    | some g =>
      obtain ⟨cur, hh⟩ := blk_of h.acc hv
      exact .inr (fun er => by
        obtain ⟨⟨cur', hh'⟩, _⟩ := hrow g er.symm
        exact blk_ne hh hh' (by decide) rfl)
  · cases hv : vn.ownBlock with
    | none => exact .inl rfl
    | some g =>
      obtain ⟨cur, hh⟩ := blk_of h.nxt hv
      exact .inr (fun er => by
        obtain ⟨⟨cur', hh'⟩, _⟩ := hrow g er.symm
        exact blk_ne hh hh' (by decide) rfl)
  · exact hg.block g (h.rows.lt j g hk) (fun er => (hrow g er.symm).2 j hk)
  · obtain ⟨cur, hh⟩ := h.kint j g hk
    exact ⟨cur, (hg.block g (h.rows.lt j g hk) (fun er => (hrow g er.symm).2 j hk)).trans hh⟩
theorem Out.below (h : Out B w bo va vn accs us rss K) (hb : Below w.heap.size w w') : Out B w' bo va vn accs us rss K := h.kept (grown_of hb) (fun g e => by cases e)
/-- One truth value more. -/
theorem Out.acc_push {va' : Value} {b : Bool} (h : Out B w bo va vn accs us rss K) (hown : w'.ownsRow B 4 1 va' (accs.length + 1) (bools accs ++ [.bool b])) (hg : w.grownBy w' va.ownBlock) :
    (∃ x, w'.cell? ⟨bo, 0, none⟩ = some x) ∧ w'.frozen? ⟨bo, 0, none⟩ = false ∧ Out B (w'.setCell ⟨bo, 0, none⟩ va') bo va' vn (accs ++ [b]) us rss K := by
  have keep : ∀ (g : Nat) (cur : Array Value) (e : TypeId), w.heap[g]? = some (.cells cur e (0, 0)) → e ≠ 4 → w'.heap[g]? = w.heap[g]? := fun g cur e hh he =>
    hg.block g (Array.getElem?_eq_some_iff.1 hh).1 (fun er => by
      obtain ⟨cur', hh'⟩ := blk_of h.acc er.symm
      exact blk_ne hh hh' he rfl)
  have hbox := (keep bo _ _ h.box (by decide)).trans h.box
  obtain ⟨c0, c1, f0, f1⟩ := box2_facts hbox
  have far : ∀ (g : Nat) (cur : Array Value) (e : TypeId), w'.heap[g]? = some (.cells cur e (0, 0)) → e ≠ 28 → (w'.setCell ⟨bo, 0, none⟩ va').heap[g]? = w'.heap[g]? := fun g cur e hh he => Below.heap_setCell _ _ _ g (fun er => blk_ne hh hbox he er)
  refine ⟨⟨_, c0⟩, f0, ⟨?_, ?_, h.rows.keep (fun j g hk => ?_) h.rows.sub (by simpa [World.setCell] using hg.size), fun j g hk => ?_, heap_setCell_same w' bo 0 _ _ va' hbox, h.low⟩⟩
  · have e : bools (accs ++ [b]) = bools accs ++ [.bool b] := by simp [bools]
    rw [e, List.length_append]
    refine ownsRow_setCell_other hown (fun er => ?_) _
    obtain ⟨cur, hh⟩ := blk_of hown er
    exact blk_ne hh hbox (by decide) rfl
  · have h1 : w'.ownsRow B 38 1 vn us.length us := by
      refine h.nxt.kept hg ?_
      cases hv : vn.ownBlock with
      | none => exact .inl rfl
      | some g =>
        obtain ⟨cur, hh⟩ := blk_of h.nxt hv
        exact .inr (fun er => by
          obtain ⟨cur', hh'⟩ := blk_of h.acc er.symm
          exact blk_ne hh hh' (by decide) rfl)
    refine ownsRow_setCell_other h1 (fun er => ?_) _
    obtain ⟨cur, hh⟩ := blk_of h1 er
    exact blk_ne hh hbox (by decide) rfl
  · obtain ⟨cur, hh⟩ := h.kint j g hk
    have h1 := (keep g _ _ hh (by decide)).trans hh
    exact (far g _ _ h1 (by decide)).trans (keep g _ _ hh (by decide))
  · obtain ⟨cur, hh⟩ := h.kint j g hk
    have h1 := (keep g _ _ hh (by decide)).trans hh
    exact ⟨cur, (far g _ _ h1 (by decide)).trans h1⟩
/-- One row more. -/
theorem Out.nxt_push {vn' u : Value} {r : List Int} (h : Out B w bo va vn accs us rss K) (hr : IR w B u r) (hrl : r.length ≤ 9223372036854775807) (hrk : ∀ g, u.ownBlock = some g → ∀ j, ¬ K j g) (hown : w'.ownsRow B 38 1 vn' (us.length + 1) (us ++ [u])) (hg : w.grownBy w' vn.ownBlock) :
    (∃ x, w'.cell? ⟨bo, 1, none⟩ = some x) ∧ w'.frozen? ⟨bo, 1, none⟩ = false ∧ Out B (w'.setCell ⟨bo, 1, none⟩ vn') bo va vn' accs (us ++ [u]) (rss ++ [ints r]) (fun j g => if j < us.length then K j g else j = us.length ∧ u.ownBlock = some g) := by
  have keep : ∀ (g : Nat) (cur : Array Value) (e : TypeId), w.heap[g]? = some (.cells cur e (0, 0)) → e ≠ 38 → w'.heap[g]? = w.heap[g]? := fun g cur e hh he =>
    hg.block g (Array.getElem?_eq_some_iff.1 hh).1 (fun er => by
      obtain ⟨cur', hh'⟩ := blk_of h.nxt er.symm
      exact blk_ne hh hh' he rfl)
  have hbox := (keep bo _ _ h.box (by decide)).trans h.box
  obtain ⟨c0, c1, f0, f1⟩ := box2_facts hbox
  have far : ∀ (g : Nat) (cur : Array Value) (e : TypeId), w'.heap[g]? = some (.cells cur e (0, 0)) → e ≠ 28 → (w'.setCell ⟨bo, 1, none⟩ vn').heap[g]? = w'.heap[g]? := fun g cur e hh he => Below.heap_setCell _ _ _ g (fun er => blk_ne hh hbox he er)
  have int_keep : ∀ (g : Nat) (cur : Array Value), w.heap[g]? = some (.cells cur 3 (0, 0)) → (w'.setCell ⟨bo, 1, none⟩ vn').heap[g]? = w.heap[g]? := fun g cur hh => by
    have h1 := (keep g _ _ hh (by decide)).trans hh
    exact (far g _ _ h1 (by decide)).trans (keep g _ _ hh (by decide))
  have hsz : w.heap.size ≤ (w'.setCell ⟨bo, 1, none⟩ vn').heap.size := by simpa [World.setCell] using hg.size
  have hlen := h.rows.len
  refine ⟨⟨_, c1⟩, f1, ⟨?_, ?_, ⟨by simp [hlen], fun j u' r' hu hr' => ?_, fun j g hk => ?_, fun j g hk => ?_, fun i j g hi hj => ?_⟩, fun j g hk => ?_, heap_setCell_same w' bo 1 _ _ vn' hbox, h.low⟩⟩
  · have h1 : w'.ownsRow B 4 1 va accs.length (bools accs) := by
      refine h.acc.kept hg ?_
      cases hv : va.ownBlock with
      | none => exact .inl rfl
      | some g =>
        obtain ⟨cur, hh⟩ := blk_of h.acc hv
        exact .inr (fun er => by
          obtain ⟨cur', hh'⟩ := blk_of h.nxt er.symm
          exact blk_ne hh hh' (by decide) rfl)
    refine ownsRow_setCell_other h1 (fun er => ?_) _
    obtain ⟨cur, hh⟩ := blk_of h1 er
    exact blk_ne hh hbox (by decide) rfl
  · rw [List.length_append]
    refine ownsRow_setCell_other hown (fun er => ?_) _
    obtain ⟨cur, hh⟩ := blk_of hown er
    exact blk_ne hh hbox (by decide) rfl
  · by_cases hj : j < us.length
    · rw [List.getElem?_append_left hj] at hu
      rw [List.getElem?_append_left (by omega)] at hr'
      exact (h.rows.row j u' r' hu hr').mono (fun g hg => by
        obtain ⟨cur, hh⟩ := h.kint j g hg
        exact int_keep g cur hh) (fun g hg => by simpa [hj] using hg)
    · have e : j = us.length := by
        have := (List.getElem?_eq_some_iff.1 hu).1
        simp at this
        omega
      subst e
      rw [List.getElem?_append_right (Nat.le_refl _), Nat.sub_self] at hu
      rw [List.getElem?_append_right (by omega), hlen, Nat.sub_self] at hr'
      cases hu
      cases hr'
      exact (hr.row hrl).mono (fun g hg => by
        obtain ⟨cur, hh⟩ := blk_of hr hg
        exact int_keep g cur hh) (fun g hg => by simpa using hg)
  · by_cases hj : j < us.length
    · exact h.rows.sub j g (by simpa [hj] using hk)
    · simp only [hj, if_false] at hk
      exact (hr.lt g hk.2).1
  · by_cases hj : j < us.length
    · exact Nat.lt_of_lt_of_le (h.rows.lt j g (by simpa [hj] using hk)) hsz
    · simp only [hj, if_false] at hk
      exact Nat.lt_of_lt_of_le (hr.lt g hk.2).2 hsz
  · by_cases h1 : i < us.length <;> by_cases h2 : j < us.length <;> simp only [h1, h2, if_true, if_false] at hi hj
    · exact h.rows.sep i j g hi hj
    · exact absurd hi (hrk g hj.2 i)
    · exact absurd hj (hrk g hi.2 j)
    · omega
  · by_cases hj : j < us.length
    · obtain ⟨cur, hh⟩ := h.kint j g (by simpa [hj] using hk)
      exact ⟨cur, (int_keep g cur hh).trans hh⟩
    · simp only [hj, if_false] at hk
      obtain ⟨cur, hh⟩ := blk_of hr hk.2
      exact ⟨cur, (int_keep g cur hh).trans hh⟩
/-- The automaton is whole: it lies in memory of its own. -/
theorem Out.whole (h : Out B w bo va vn accs us rss K) {d : Dx} (ha : d.acc = accs) (hr : intss d.nxt = rss) (hl1 : accs.length ≤ 9223372036854775807) (hl2 : us.length ≤ 9223372036854775807) : DfaO w (fun g => B ≤ g ∧ g < w.heap.size) va vn d := by
  refine ⟨fun g => va.ownBlock = some g, fun g => B ≤ g ∧ g < w.heap.size ∧ va.ownBlock ≠ some g, ?_, ⟨us, fun g => vn.ownBlock = some g, K, RowO.of_owns h.nxt hl2, ?_, fun g hg => ?_⟩, fun g hg => ?_, fun g hg => ⟨hg.1, hg.2.1⟩⟩
  · rw [ha]
    exact RowO.of_owns h.acc hl1
  · rw [hr]
    exact h.rows.keep (fun _ _ _ => rfl) (fun j g hk => ⟨h.rows.sub j g hk, h.rows.lt j g hk, fun er => by
      obtain ⟨cur, hh⟩ := blk_of h.acc er
      obtain ⟨cur', hh'⟩ := h.kint j g hk
      exact blk_ne hh hh' (by decide) rfl⟩) (Nat.le_refl _)
  · refine ⟨⟨(h.nxt.lt g hg).1, (h.nxt.lt g hg).2, fun er => ?_⟩, fun j hk => ?_⟩
    · obtain ⟨cur, hh⟩ := blk_of h.acc er
      obtain ⟨cur', hh'⟩ := blk_of h.nxt hg
      exact blk_ne hh hh' (by decide) rfl
    · obtain ⟨cur, hh⟩ := blk_of h.nxt hg
      obtain ⟨cur', hh'⟩ := h.kint j g hk
      exact blk_ne hh hh' (by decide) rfl
  · exact ⟨h.acc.lt g hg, fun h2 => h2.2.2 hg⟩
/-- It begins with nothing. -/
theorem Out.start (w : World) {B : Nat} (hB : B ≤ w.heap.size) : Out B (w.alloc (.cells #[.slice none 0 0, .slice none 0 0] 28)) w.heap.size (.slice none 0 0) (.slice none 0 0) [] [] [] (fun _ _ => False) :=
  ⟨⟨rfl, .inl ⟨rfl, rfl⟩⟩, ⟨rfl, .inl ⟨rfl, rfl⟩⟩, RowsP.nil _ _, fun _ _ h => h.elim, heap_alloc_new w _, hB⟩
end Go.Proofs.YthmfncklepkddabDoor

namespace Go.Proofs.YthmfncklepkddabDoor
open Go.RowKit

theorem ints_snoc (l : List Int) (x : Int) : ints (l ++ [x]) = ints l ++ [.int .i64 x] := by simp [ints]
theorem ints_len (l : List Int) : (ints l).length = l.length := by simp [ints]
theorem IR.of_push {w : World} {B : Nat} {v : Value} {l : List Int} {x : Int} (h : w.ownsRow B 3 1 v (l.length + 1) (ints l ++ [.int .i64 x])) : IR w B v (l ++ [x]) := by
  unfold IR
  rw [ints_snoc, List.length_append]
  exact h
theorem own_succ {W : World} {base : Nat} {e : TypeId} {size : Nat} {v : Value} {k : Nat} {xs : List Value} (h : W.ownsRow base e size v (k + 1) xs) : ∃ g cap, v = .slice (some ⟨g, 0, none⟩) (k + 1) cap := by
  rcases h.2 with ⟨_, h0⟩ | ⟨g, cap, _, rfl, _⟩
  · omega
  · exact ⟨g, cap, rfl⟩
/-- A row of none, just laid. -/
theorem IR.none (w : World) {B : Nat} (hB : B ≤ w.heap.size) : IR (w.alloc (.cells #[] 3)) B (.slice (some ⟨w.heap.size, 0, none⟩) 0 0) [] :=
  ⟨rfl, .inr ⟨w.heap.size, 0, #[], rfl, hB, heap_alloc_new w _, Nat.le_refl _, by decide, rfl, rfl⟩⟩
theorem IR.below {w w' : World} {B : Nat} {v : Value} {l : List Int} (h : IR w B v l) (hb : Below w.heap.size w w') : IR w' B v l := h.kept (grown_of hb) (fun g _ e => by cases e)

structure One (B : Nat) (w : World) (bo : Nat) (va vn : Value) (accs : List Bool) (us : List Value) (rss : List (List Value)) (K : Nat → Nat → Prop) (vo : Value) (lo : List Int) : Prop where
  out : Out B w bo va vn accs us rss K
  ord : IR w B vo lo
  ordK : ∀ g, vo.ownBlock = some g → ∀ j, ¬ K j g
structure Two (B : Nat) (w : World) (bo : Nat) (va vn : Value) (accs : List Bool) (us : List Value) (rss : List (List Value)) (K : Nat → Nat → Prop) (vo : Value) (lo : List Int) (vr : Value) (lr : List Int) : Prop where
  one : One B w bo va vn accs us rss K vo lo
  row : IR w B vr lr
  rowK : ∀ g, vr.ownBlock = some g → ∀ j, ¬ K j g
  sep : ∀ g, vo.ownBlock = some g → vr.ownBlock ≠ some g
variable {B : Nat} {w w' : World} {bo : Nat} {va vn : Value} {accs : List Bool} {us : List Value} {rss : List (List Value)} {K : Nat → Nat → Prop} {vo vr : Value} {lo lr : List Int}
theorem One.below (h : One B w bo va vn accs us rss K vo lo) (hb : Below w.heap.size w w') : One B w' bo va vn accs us rss K vo lo := ⟨h.out.below hb, h.ord.below hb, h.ordK⟩
theorem Two.below (h : Two B w bo va vn accs us rss K vo lo vr lr) (hb : Below w.heap.size w w') : Two B w' bo va vn accs us rss K vo lo vr lr := ⟨h.one.below hb, h.row.below hb, h.rowK, h.sep⟩
theorem One.base (h : One B w bo va vn accs us rss K vo lo) : B < w.heap.size := Nat.lt_of_le_of_lt h.out.low (Array.getElem?_eq_some_iff.1 h.out.box).1
/-- A row of none beside it. -/
theorem One.two (h : One B w bo va vn accs us rss K vo lo) : Two B (w.alloc (.cells #[] 3)) bo va vn accs us rss K vo lo (.slice (some ⟨w.heap.size, 0, none⟩) 0 0) [] := by
  refine ⟨h.below ((Below.refl _ _).alloc (Nat.le_refl _) _), IR.none w (Nat.le_of_lt h.base), fun g hg j hk => ?_, fun g hg e => ?_⟩
  · simp [Value.ownBlock] at hg
    have := h.out.rows.lt j g hk
    omega
  · simp [Value.ownBlock] at e
    have := (h.ord.lt g hg).2
    omega
/-- One more is met. -/
theorem Two.ord_push {v' : Value} {x : Int} (h : Two B w bo va vn accs us rss K vo lo vr lr) (hown : w'.ownsRow B 3 1 v' (lo.length + 1) (ints lo ++ [.int .i64 x])) (hg : w.grownBy w' vo.ownBlock) (hat : v'.ownBlock = vo.ownBlock ∨ v'.ownBlock = some w.heap.size) : Two B w' bo va vn accs us rss K v' (lo ++ [x]) vr lr := by
  refine ⟨⟨h.one.out.kept hg (fun g e => ⟨blk_of h.one.ord e, h.one.ordK g e⟩), IR.of_push hown, fun g e j hk => ?_⟩, h.row.kept hg (fun g e er => h.sep g er e), h.rowK, fun g e er => ?_⟩
  · rcases hat with a | a
    · exact h.one.ordK g (a.symm.trans e) j hk
    · rw [a] at e
      cases e
      have := h.one.out.rows.lt j _ hk
      omega
  · rcases hat with a | a
    · exact h.sep g (a.symm.trans e) er
    · rw [a] at e
      cases e
      have := (h.row.lt _ er).2
      omega
/-- One more in the row. -/
theorem Two.row_push {v' : Value} {x : Int} (h : Two B w bo va vn accs us rss K vo lo vr lr) (hown : w'.ownsRow B 3 1 v' (lr.length + 1) (ints lr ++ [.int .i64 x])) (hg : w.grownBy w' vr.ownBlock) (hat : v'.ownBlock = vr.ownBlock ∨ v'.ownBlock = some w.heap.size) : Two B w' bo va vn accs us rss K vo lo v' (lr ++ [x]) := by
  refine ⟨⟨h.one.out.kept hg (fun g e => ⟨blk_of h.row e, h.rowK g e⟩), h.one.ord.kept hg (fun g e er => h.sep g e er), h.one.ordK⟩, IR.of_push hown, fun g e j hk => ?_, fun g e er => ?_⟩
  · rcases hat with a | a
    · exact h.rowK g (a.symm.trans e) j hk
    · rw [a] at e
      cases e
      have := h.one.out.rows.lt j _ hk
      omega
  · rcases hat with a | a
    · exact h.sep g e (a.symm.trans er)
    · rw [a] at er
      cases er
      have := (h.one.ord.lt _ e).2
      omega
/-- A row of ints stays where a row of another type grows and the box is stored into. -/
theorem IR.far {row : Option Nat} {p : Addr} {u : Value} {va vn : Value} {v : Value} {l : List Int} (h : IR w B v l) (hg : w.grownBy w' row) (hrow : ∀ g, row = some g → ∃ cur e, w.heap[g]? = some (.cells cur e (0, 0)) ∧ e ≠ 3) (hbox : w.heap[p.block]? = some (.cells #[va, vn] 28 (0, 0))) : IR (w'.setCell p u) B v l := by
  have h1 : IR w' B v l := h.kept hg (fun g e er => by
    obtain ⟨cur, hh⟩ := blk_of h e
    obtain ⟨cur', e', hh', hne⟩ := hrow g er
    exact blk_ne hh hh' (Ne.symm hne) rfl)
  refine ownsRow_setCell_other h1 (fun er => ?_) _
  obtain ⟨cur, hh⟩ := blk_of h er
  exact blk_ne hh hbox (by decide) rfl
theorem Two.acc_push {va' : Value} {b : Bool} (h : Two B w bo va vn accs us rss K vo lo vr lr) (hown : w'.ownsRow B 4 1 va' (accs.length + 1) (bools accs ++ [.bool b])) (hg : w.grownBy w' va.ownBlock) :
    (∃ x, w'.cell? ⟨bo, 0, none⟩ = some x) ∧ w'.frozen? ⟨bo, 0, none⟩ = false ∧ Two B (w'.setCell ⟨bo, 0, none⟩ va') bo va' vn (accs ++ [b]) us rss K vo lo vr lr := by
  obtain ⟨h1, h2, h3⟩ := h.one.out.acc_push hown hg
  have hrow : ∀ g, va.ownBlock = some g → ∃ cur e, w.heap[g]? = some (.cells cur e (0, 0)) ∧ e ≠ 3 := fun g e => by
    obtain ⟨cur, hh⟩ := blk_of h.one.out.acc e
    exact ⟨cur, _, hh, by decide⟩
  exact ⟨h1, h2, ⟨h3, h.one.ord.far hg hrow h.one.out.box, h.one.ordK⟩, h.row.far hg hrow h.one.out.box, h.rowK, h.sep⟩
theorem Two.nxt_push {vn' : Value} (h : Two B w bo va vn accs us rss K vo lo vr lr) (hrl : lr.length ≤ 9223372036854775807) (hown : w'.ownsRow B 38 1 vn' (us.length + 1) (us ++ [vr])) (hg : w.grownBy w' vn.ownBlock) :
    (∃ x, w'.cell? ⟨bo, 1, none⟩ = some x) ∧ w'.frozen? ⟨bo, 1, none⟩ = false ∧ One B (w'.setCell ⟨bo, 1, none⟩ vn') bo va vn' accs (us ++ [vr]) (rss ++ [ints lr]) (fun j g => if j < us.length then K j g else j = us.length ∧ vr.ownBlock = some g) vo lo := by
  obtain ⟨h1, h2, h3⟩ := h.one.out.nxt_push h.row hrl h.rowK hown hg
  have hrow : ∀ g, vn.ownBlock = some g → ∃ cur e, w.heap[g]? = some (.cells cur e (0, 0)) ∧ e ≠ 3 := fun g e => by
    obtain ⟨cur, hh⟩ := blk_of h.one.out.nxt e
    exact ⟨cur, _, hh, by decide⟩
  refine ⟨h1, h2, h3, h.one.ord.far hg hrow h.one.out.box, fun g e j hk => ?_⟩
  by_cases hj : j < us.length
  · exact h.one.ordK g e j (by simpa [hj] using hk)
  · simp only [hj, if_false] at hk
    exact h.sep g e hk.2
/-- The beginning: one is met, the box is empty. -/
theorem One.start (w1 : World) (x : Int) :
    let W3 := (w1.alloc (.cells #[.int .i64 x] 3)).alloc (.cells #[.slice none 0 0, .slice none 0 0] 28)
    One w1.heap.size W3 (w1.heap.size + 1) (.slice none 0 0) (.slice none 0 0) [] [] [] (fun _ _ => False) (.slice (some ⟨w1.heap.size, 0, none⟩) 1 1) [x] ∧ Below w1.heap.size w1 W3 := by
  intro W3
  have hb : W3.heap[w1.heap.size + 1]? = some (.cells #[.slice none 0 0, .slice none 0 0] 28 (0, 0)) := by
    have h := heap_alloc_new (w1.alloc (.cells #[.int .i64 x] 3)) (.cells #[.slice none 0 0, .slice none 0 0] 28)
    rwa [World.size_alloc] at h
  have h1 : IR W3 w1.heap.size (.slice (some ⟨w1.heap.size, 0, none⟩) 1 1) [x] := (IR.one w1 x (Nat.le_refl _)).below ((Below.refl _ _).alloc (Nat.le_refl _) _)
  exact ⟨⟨⟨⟨rfl, .inl ⟨rfl, rfl⟩⟩, ⟨rfl, .inl ⟨rfl, rfl⟩⟩, RowsP.nil _ _, fun _ _ h => h.elim, hb, Nat.le_succ _⟩, h1, fun _ _ _ h => h⟩, ((Below.refl _ _).alloc (Nat.le_refl _) _).alloc (by simp) _⟩
end Go.Proofs.YthmfncklepkddabDoor

namespace Go.Proofs.YthmfncklepkddabDoor
open Go.RowKit

theorem own_on {w w' : World} {B B' : Nat} {e : TypeId} {size : Nat} {v : Value} {k : Nat} {xs : List Value} (h : w.ownsRow B e size v k xs) (hs : ∀ q, v.ownBlock = some q → w'.heap[q]? = w.heap[q]?) (hB : B' ≤ B) : w'.ownsRow B' e size v k xs := by
  refine ⟨h.1, ?_⟩
  rcases h.2 with h0 | ⟨g, cap, cur, e1, e2, e3, rest⟩
  · exact .inl h0
  · exact .inr ⟨g, cap, cur, e1, Nat.le_trans hB e2, (hs g (by rw [e1]; simp [Value.ownBlock])).trans e3, rest⟩
theorem intss_snoc (rs : List (List Int)) (r : List Int) : intss (rs ++ [r]) = intss rs ++ [ints r] := by simp [intss]
variable {w w' W0 : World} {B : Nat} {bo : Nat} {va vn : Value} {accs : List Bool} {us : List Value} {rss : List (List Value)} {rs : List (List Int)} {K : Nat → Nat → Prop} {vo : Value} {lo : List Int}
theorem Out.off (h : Out B w bo va vn accs us rss K) (hs : ∀ q, B ≤ q → q < w.heap.size → w'.heap[q]? = w.heap[q]?) (hz : w.heap.size ≤ w'.heap.size) {B' : Nat} (hB : B' ≤ B) : Out B' w' bo va vn accs us rss K :=
  ⟨own_on h.acc (fun q e => hs q (h.acc.lt q e).1 (h.acc.lt q e).2) hB, own_on h.nxt (fun q e => hs q (h.nxt.lt q e).1 (h.nxt.lt q e).2) hB,
    h.rows.keep (fun j g hk => hs g (h.rows.sub j g hk) (h.rows.lt j g hk)) (fun j g hk => Nat.le_trans hB (h.rows.sub j g hk)) hz,
    fun j g hk => by
      obtain ⟨cur, hh⟩ := h.kint j g hk
      exact ⟨cur, (hs g (h.rows.sub j g hk) (h.rows.lt j g hk)).trans hh⟩,
    (hs bo h.low (blk_lt h.box)).trans h.box, Nat.le_trans hB h.low⟩
theorem Out.base (h : Out B w bo va vn accs us rss K) : B < w.heap.size := Nat.lt_of_le_of_lt h.low (blk_lt h.box)
/-- Every row is a row of the call's own, and its block is named. -/
def Ows (w : World) (B : Nat) (us : List Value) (rs : List (List Int)) (K : Nat → Nat → Prop) : Prop :=
  ∀ (j : Nat) (u : Value) (r : List Int), us[j]? = some u → rs[j]? = some r → IR w B u r ∧ ∀ q, u.ownBlock = some q → K j q
theorem Ows.keep (h : Ows w B us rs K) (hs : ∀ j q, K j q → w'.heap[q]? = w.heap[q]?) {B' : Nat} (hB : B' ≤ B) : Ows w' B' us rs K := fun j u r hu hr => by
  obtain ⟨h1, h2⟩ := h j u r hu hr
  exact ⟨own_on h1 (fun q e => hs j q (h2 q e)) hB, h2⟩
theorem Out.k_acc (h : Out B w bo va vn accs us rss K) (hg : w.grownBy w' va.ownBlock) (x : Value) : ∀ j q, K j q → (w'.setCell ⟨bo, 0, none⟩ x).heap[q]? = w.heap[q]? := fun j q hk => by
  obtain ⟨cur, hh⟩ := h.kint j q hk
  refine (Below.heap_setCell _ _ _ q (fun er => blk_ne hh h.box (by decide) er)).trans (hg.block q (blk_lt hh) (fun er => ?_))
  obtain ⟨cur', hh'⟩ := blk_of h.acc er.symm
  exact blk_ne hh hh' (by decide) rfl
theorem Out.k_nxt (h : Out B w bo va vn accs us rss K) (hg : w.grownBy w' vn.ownBlock) (x : Value) : ∀ j q, K j q → (w'.setCell ⟨bo, 1, none⟩ x).heap[q]? = w.heap[q]? := fun j q hk => by
  obtain ⟨cur, hh⟩ := h.kint j q hk
  refine (Below.heap_setCell _ _ _ q (fun er => blk_ne hh h.box (by decide) er)).trans (hg.block q (blk_lt hh) (fun er => ?_))
  obtain ⟨cur', hh'⟩ := blk_of h.nxt er.symm
  exact blk_ne hh hh' (by decide) rfl
theorem One.k_ord (h : One B w bo va vn accs us rss K vo lo) (hg : w.grownBy w' vo.ownBlock) : ∀ j q, K j q → w'.heap[q]? = w.heap[q]? := fun j q hk =>
  hg.block q (h.out.rows.lt j q hk) (fun er => h.ordK q er.symm j hk)
theorem One.ord_push {v' : Value} {x : Int} (h : One B w bo va vn accs us rss K vo lo) (hown : w'.ownsRow B 3 1 v' (lo.length + 1) (ints lo ++ [.int .i64 x])) (hg : w.grownBy w' vo.ownBlock) (hat : v'.ownBlock = vo.ownBlock ∨ v'.ownBlock = some w.heap.size) : One B w' bo va vn accs us rss K v' (lo ++ [x]) := by
  refine ⟨h.out.kept hg (fun g e => ⟨blk_of h.ord e, h.ordK g e⟩), IR.of_push hown, fun g e j hk => ?_⟩
  rcases hat with a | a
  · exact h.ordK g (a.symm.trans e) j hk
  · rw [a] at e
    cases e
    have := h.out.rows.lt j _ hk
    omega
theorem Out.one (h : Out B w bo va vn accs us rss K) : One B (w.alloc (.cells #[] 3)) bo va vn accs us rss K (.slice (some ⟨w.heap.size, 0, none⟩) 0 0) [] := by
  refine ⟨h.below ((Below.refl _ _).alloc (Nat.le_refl _) _), IR.none w (Nat.le_of_lt h.base), fun g hg j hk => ?_⟩
  simp [Value.ownBlock] at hg
  have := h.rows.lt j g hk
  omega
theorem One.acc_push {va' : Value} {b : Bool} (h : One B w bo va vn accs us rss K vo lo) (hown : w'.ownsRow B 4 1 va' (accs.length + 1) (bools accs ++ [.bool b])) (hg : w.grownBy w' va.ownBlock) :
    (∃ x, w'.cell? ⟨bo, 0, none⟩ = some x) ∧ w'.frozen? ⟨bo, 0, none⟩ = false ∧ One B (w'.setCell ⟨bo, 0, none⟩ va') bo va' vn (accs ++ [b]) us rss K vo lo := by
  obtain ⟨h1, h2, h3⟩ := h.out.acc_push hown hg
  have hrow : ∀ g, va.ownBlock = some g → ∃ cur e, w.heap[g]? = some (.cells cur e (0, 0)) ∧ e ≠ 3 := fun g e => by
    obtain ⟨cur, hh⟩ := blk_of h.out.acc e
    exact ⟨cur, _, hh, by decide⟩
  exact ⟨h1, h2, h3, h.ord.far hg hrow h.out.box, h.ordK⟩
theorem One.nxt_push {vn' : Value} (h : One B w bo va vn accs us rss K vo lo) (hrl : lo.length ≤ 9223372036854775807) (hown : w'.ownsRow B 38 1 vn' (us.length + 1) (us ++ [vo])) (hg : w.grownBy w' vn.ownBlock) :
    (∃ x, w'.cell? ⟨bo, 1, none⟩ = some x) ∧ w'.frozen? ⟨bo, 1, none⟩ = false ∧ Out B (w'.setCell ⟨bo, 1, none⟩ vn') bo va vn' accs (us ++ [vo]) (rss ++ [ints lo]) (fun j g => if j < us.length then K j g else j = us.length ∧ vo.ownBlock = some g) :=
  h.out.nxt_push h.ord hrl h.ordK hown hg
end Go.Proofs.YthmfncklepkddabDoor
