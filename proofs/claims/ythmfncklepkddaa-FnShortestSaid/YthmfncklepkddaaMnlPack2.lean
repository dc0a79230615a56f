/-
  Texts of one proof, one behind the other.
-/
import Derived.OwnWalk
import Derived.Maps.AppendAt
import Derived.OneCell
import Derived.Deep.RegionLaw
import Derived.WalkKit
import Derived.Deep.CutRange
import Derived.Shelf.Abstract
import Derived.IntWalk
import Derived.Test.YthmfncklepkddaaMnlPack1

/-
  An automaton that grows in a box: its rows, and what stays of them where another row grows. Of no function of the program.
  An automaton that grows in a box, next to the list of what is met and to the row at hand. Of no function of the program.
-/
namespace Go.Proofs.Ythmfncklepkddaa
open Go.RowKit

theorem blk_of {w : World} {base : Nat} {e : TypeId} {v : Value} {n : Nat} {xs : List Value} (h : w.ownsRow base e 1 v n xs) {g : Nat} (hg : v.ownBlock = some g) : ∃ cur, w.heap[g]? = some (.cells cur e (0, 0)) := by
  rcases h.2 with ⟨rfl, _⟩ | ⟨g', cap, cur, rfl, _, hh, _⟩
  · simp [Value.ownBlock] at hg
  · simp [Value.ownBlock] at hg
    subst hg
    exact ⟨cur, hh⟩
theorem blk_ne {w : World} {g g' : Nat} {cur cur' : Array Value} {e e' : TypeId} (h : w.heap[g]? = some (.cells cur e (0, 0))) (h' : w.heap[g']? = some (.cells cur' e' (0, 0))) (hne : e ≠ e') : g ≠ g' := fun eq => by
  subst eq
  rw [h] at h'
  cases h'
  exact hne rfl
/-- A row of ints of the call's own. -/
def IR (w : World) (B : Nat) (v : Value) (l : List Int) : Prop := w.ownsRow B 3 1 v l.length (ints l)
theorem IR.kept {w w' : World} {B : Nat} {v : Value} {l : List Int} {row : Option Nat} (h : IR w B v l) (hg : w.grownBy w' row) (hne : ∀ g, v.ownBlock = some g → row ≠ some g) : IR w' B v l := by
  refine World.ownsRow.kept h hg ?_
  cases hv : v.ownBlock with
  | none => exact .inl rfl
  | some g => exact .inr (fun e => hne g hv e.symm)
theorem IR.row {w : World} {B : Nat} {v : Value} {l : List Int} (h : IR w B v l) (hl : l.length ≤ 9223372036854775807) : RowO w (fun g => v.ownBlock = some g) v (ints l) := RowO.of_owns h hl
theorem grown_of {w w' : World} (h : Below w.heap.size w w') : w.grownBy w' none := ⟨h.os, h.tape, h.output, h.size, fun k hk _ => h.block k hk⟩
/-- A row of one, just laid. -/
theorem IR.one (w : World) (x : Int) {B : Nat} (hB : B ≤ w.heap.size) : IR (w.alloc (.cells #[.int .i64 x] 3)) B (.slice (some ⟨w.heap.size, 0, none⟩) 1 1) [x] :=
  ⟨rfl, .inr ⟨w.heap.size, 1, #[.int .i64 x], rfl, hB, heap_alloc_new w _, Nat.le_refl _, by decide, rfl, rfl⟩⟩

/-- The automaton so far, in its box. -/
structure Out (B : Nat) (w : World) (bo : Nat) (va vn : Value) (accs : List Bool) (us : List Value) (rss : List (List Value)) (K : Nat → Nat → Prop) : Prop where
  acc : w.ownsRow B 4 1 va accs.length (bools accs)
  nxt : w.ownsRow B 73 1 vn us.length us
  rows : RowsP (fun g => B ≤ g) w us rss K
  kint : ∀ j g, K j g → ∃ cur, w.heap[g]? = some (.cells cur 3 (0, 0))
  box : w.heap[bo]? = some (.cells #[va, vn] 27 (0, 0))
  low : B ≤ bo
variable {B : Nat} {w w' : World} {bo : Nat} {va vn : Value} {accs : List Bool} {us : List Value} {rss : List (List Value)} {K : Nat → Nat → Prop}
/-- Where a row of ints grows that is none of its own. -/
theorem Out.kept {row : Option Nat} (h : Out B w bo va vn accs us rss K) (hg : w.grownBy w' row) (hrow : ∀ g, row = some g → (∃ cur, w.heap[g]? = some (.cells cur 3 (0, 0))) ∧ ∀ j, ¬ K j g) : Out B w' bo va vn accs us rss K := by
  have keep : ∀ (g : Nat) (cur : Array Value) (e : TypeId), w.heap[g]? = some (.cells cur e (0, 0)) → e ≠ 3 → w'.heap[g]? = w.heap[g]? := fun g cur e hh he =>
    hg.block g (Array.getElem?_eq_some_iff.1 hh).1 (fun er => by
      obtain ⟨⟨cur', hh'⟩, _⟩ := hrow g er.symm
      exact blk_ne hh hh' he rfl)
  refine ⟨h.acc.kept hg ?_, h.nxt.kept hg ?_, h.rows.keep (fun j g hk => ?_) h.rows.sub hg.size, fun j g hk => ?_, (keep bo _ _ h.box (by decide)).trans h.box, h.low⟩
  · cases hv : va.ownBlock with
    | none => exact .inl rfl
    | some g =>
      obtain ⟨cur, hh⟩ := blk_of h.acc hv
      exact .inr (fun er => by
        obtain ⟨⟨cur', hh'⟩, _⟩ := hrow g er.symm
        exact blk_ne hh hh' (by decide) rfl)
  · cases hv : vn.ownBlock with
    | none => exact .inl rfl
    | some g =>
      obtain ⟨cur, hh⟩ := blk_of h.nxt hv
      exact .inr (fun er => by
        obtain ⟨⟨cur', hh'⟩, _⟩ := hrow g er.symm
        exact blk_ne hh hh' (by decide) rfl)
  · exact hg.block g (h.rows.lt j g hk) (fun er => (hrow g er.symm).2 j hk)
  · obtain ⟨cur, hh⟩ := h.kint j g hk
    exact ⟨cur, (hg.block g (h.rows.lt j g hk) (fun er => (hrow g er.symm).2 j hk)).trans hh⟩
theorem Out.below (h : Out B w bo va vn accs us rss K) (hb : Below w.heap.size w w') : Out B w' bo va vn accs us rss K := h.kept (grown_of hb) (fun g e => by cases e)
/-- One truth value more. -/
theorem Out.acc_push {va' : Value} {b : Bool} (h : Out B w bo va vn accs us rss K) (hown : w'.ownsRow B 4 1 va' (accs.length + 1) (bools accs ++ [.bool b])) (hg : w.grownBy w' va.ownBlock) :
    (∃ x, w'.cell? ⟨bo, 0, none⟩ = some x) ∧ w'.frozen? ⟨bo, 0, none⟩ = false ∧ Out B (w'.setCell ⟨bo, 0, none⟩ va') bo va' vn (accs ++ [b]) us rss K := by
  have keep : ∀ (g : Nat) (cur : Array Value) (e : TypeId), w.heap[g]? = some (.cells cur e (0, 0)) → e ≠ 4 → w'.heap[g]? = w.heap[g]? := fun g cur e hh he =>
    hg.block g (Array.getElem?_eq_some_iff.1 hh).1 (fun er => by
      obtain ⟨cur', hh'⟩ := blk_of h.acc er.symm
      exact blk_ne hh hh' he rfl)
  have hbox := (keep bo _ _ h.box (by decide)).trans h.box
  obtain ⟨c0, c1, f0, f1⟩ := box2_facts hbox
  have far : ∀ (g : Nat) (cur : Array Value) (e : TypeId), w'.heap[g]? = some (.cells cur e (0, 0)) → e ≠ 27 → (w'.setCell ⟨bo, 0, none⟩ va').heap[g]? = w'.heap[g]? := fun g cur e hh he => Below.heap_setCell _ _ _ g (fun er => blk_ne hh hbox he er)
  refine ⟨⟨_, c0⟩, f0, ⟨?_, ?_, h.rows.keep (fun j g hk => ?_) h.rows.sub (by simpa [World.setCell] using hg.size), fun j g hk => ?_, heap_setCell_same w' bo 0 _ _ va' hbox, h.low⟩⟩
  · have e : bools (accs ++ [b]) = bools accs ++ [.bool b] := by simp [bools]
    rw [e, List.length_append]
    refine ownsRow_setCell_other hown (fun er => ?_) _
    obtain ⟨cur, hh⟩ := blk_of hown er
    exact blk_ne hh hbox (by decide) rfl
  · have h1 : w'.ownsRow B 73 1 vn us.length us := by
      refine h.nxt.kept hg ?_
      cases hv : vn.ownBlock with
      | none => exact .inl rfl
      | some g =>
        obtain ⟨cur, hh⟩ := blk_of h.nxt hv
        exact .inr (fun er => by
          obtain ⟨cur', hh'⟩ := blk_of h.acc er.symm
          exact blk_ne hh hh' (by decide) rfl)
    refine ownsRow_setCell_other h1 (fun er => ?_) _
    obtain ⟨cur, hh⟩ := blk_of h1 er
    exact blk_ne hh hbox (by decide) rfl
  · obtain ⟨cur, hh⟩ := h.kint j g hk
    have h1 := (keep g _ _ hh (by decide)).trans hh
    exact (far g _ _ h1 (by decide)).trans (keep g _ _ hh (by decide))
  · obtain ⟨cur, hh⟩ := h.kint j g hk
    have h1 := (keep g _ _ hh (by decide)).trans hh
    exact ⟨cur, (far g _ _ h1 (by decide)).trans h1⟩
/-- One row more. -/
theorem Out.nxt_push {vn' u : Value} {r : List Int} (h : Out B w bo va vn accs us rss K) (hr : IR w B u r) (hrl : r.length ≤ 9223372036854775807) (hrk : ∀ g, u.ownBlock = some g → ∀ j, ¬ K j g) (hown : w'.ownsRow B 73 1 vn' (us.length + 1) (us ++ [u])) (hg : w.grownBy w' vn.ownBlock) :
    (∃ x, w'.cell? ⟨bo, 1, none⟩ = some x) ∧ w'.frozen? ⟨bo, 1, none⟩ = false ∧ Out B (w'.setCell ⟨bo, 1, none⟩ vn') bo va vn' accs (us ++ [u]) (rss ++ [ints r]) (fun j g => if j < us.length then K j g else j = us.length ∧ u.ownBlock = some g) := by
  have keep : ∀ (g : Nat) (cur : Array Value) (e : TypeId), w.heap[g]? = some (.cells cur e (0, 0)) → e ≠ 73 → w'.heap[g]? = w.heap[g]? := fun g cur e hh he =>
    hg.block g (Array.getElem?_eq_some_iff.1 hh).1 (fun er => by
      obtain ⟨cur', hh'⟩ := blk_of h.nxt er.symm
      exact blk_ne hh hh' he rfl)
  have hbox := (keep bo _ _ h.box (by decide)).trans h.box
  obtain ⟨c0, c1, f0, f1⟩ := box2_facts hbox
  have far : ∀ (g : Nat) (cur : Array Value) (e : TypeId), w'.heap[g]? = some (.cells cur e (0, 0)) → e ≠ 27 → (w'.setCell ⟨bo, 1, none⟩ vn').heap[g]? = w'.heap[g]? := fun g cur e hh he => Below.heap_setCell _ _ _ g (fun er => blk_ne hh hbox he er)
  have int_keep : ∀ (g : Nat) (cur : Array Value), w.heap[g]? = some (.cells cur 3 (0, 0)) → (w'.setCell ⟨bo, 1, none⟩ vn').heap[g]? = w.heap[g]? := fun g cur hh => by
    have h1 := (keep g _ _ hh (by decide)).trans hh
    exact (far g _ _ h1 (by decide)).trans (keep g _ _ hh (by decide))
  have hsz : w.heap.size ≤ (w'.setCell ⟨bo, 1, none⟩ vn').heap.size := by simpa [World.setCell] using hg.size
  have hlen := h.rows.len
  refine ⟨⟨_, c1⟩, f1, ⟨?_, ?_, ⟨by simp [hlen], fun j u' r' hu hr' => ?_, fun j g hk => ?_, fun j g hk => ?_, fun i j g hi hj => ?_⟩, fun j g hk => ?_, heap_setCell_same w' bo 1 _ _ vn' hbox, h.low⟩⟩
  · have h1 : w'.ownsRow B 4 1 va accs.length (bools accs) := by
      refine h.acc.kept hg ?_
      cases hv : va.ownBlock with
      | none => exact .inl rfl
      | some g =>
        obtain ⟨cur, hh⟩ := blk_of h.acc hv
        exact .inr (fun er => by
          obtain ⟨cur', hh'⟩ := blk_of h.nxt er.symm
          exact blk_ne hh hh' (by decide) rfl)
    refine ownsRow_setCell_other h1 (fun er => ?_) _
    obtain ⟨cur, hh⟩ := blk_of h1 er
    exact blk_ne hh hbox (by decide) rfl
  · rw [List.length_append]
    refine ownsRow_setCell_other hown (fun er => ?_) _
    obtain ⟨cur, hh⟩ := blk_of hown er
    exact blk_ne hh hbox (by decide) rfl
  · by_cases hj : j < us.length
    · rw [List.getElem?_append_left hj] at hu
      rw [List.getElem?_append_left (by omega)] at hr'
      exact (h.rows.row j u' r' hu hr').mono (fun g hg => by
        obtain ⟨cur, hh⟩ := h.kint j g hg
        exact int_keep g cur hh) (fun g hg => by simpa [hj] using hg)
    · have e : j = us.length := by
        have := (List.getElem?_eq_some_iff.1 hu).1
        simp at this
        omega
      subst e
      rw [List.getElem?_append_right (Nat.le_refl _), Nat.sub_self] at hu
      rw [List.getElem?_append_right (by omega), hlen, Nat.sub_self] at hr'
      cases hu
      cases hr'
      exact (hr.row hrl).mono (fun g hg => by
        obtain ⟨cur, hh⟩ := blk_of hr hg
        exact int_keep g cur hh) (fun g hg => by simpa using hg)
  · by_cases hj : j < us.length
    · exact h.rows.sub j g (by simpa [hj] using hk)
    · simp only [hj, if_false] at hk
      exact (hr.lt g hk.2).1
  · by_cases hj : j < us.length
    · exact Nat.lt_of_lt_of_le (h.rows.lt j g (by simpa [hj] using hk)) hsz
    · simp only [hj, if_false] at hk
      exact Nat.lt_of_lt_of_le (hr.lt g hk.2).2 hsz
  · by_cases h1 : i < us.length <;> by_cases h2 : j < us.length <;> simp only [h1, h2, if_true, if_false] at hi hj
    · exact h.rows.sep i j g hi hj
    · exact absurd hi (hrk g hj.2 i)
    · exact absurd hj (hrk g hi.2 j)
    · omega
  · by_cases hj : j < us.length
    · obtain ⟨cur, hh⟩ := h.kint j g (by simpa [hj] using hk)
      exact ⟨cur, (int_keep g cur hh).trans hh⟩
    · simp only [hj, if_false] at hk
      obtain ⟨cur, hh⟩ := blk_of hr hk.2
      exact ⟨cur, (int_keep g cur hh).trans hh⟩
/-- The automaton is whole: it lies in memory of its own. -/
theorem Out.whole (h : Out B w bo va vn accs us rss K) {d : Dx} (ha : d.acc = accs) (hr : intss d.nxt = rss) (hl1 : accs.length ≤ 9223372036854775807) (hl2 : us.length ≤ 9223372036854775807) : DfaO w (fun g => B ≤ g ∧ g < w.heap.size) va vn d := by
  refine ⟨fun g => va.ownBlock = some g, fun g => B ≤ g ∧ g < w.heap.size ∧ va.ownBlock ≠ some g, ?_, ⟨us, fun g => vn.ownBlock = some g, K, RowO.of_owns h.nxt hl2, ?_, fun g hg => ?_⟩, fun g hg => ?_, fun g hg => ⟨hg.1, hg.2.1⟩⟩
  · rw [ha]
    exact RowO.of_owns h.acc hl1
  · rw [hr]
    exact h.rows.keep (fun _ _ _ => rfl) (fun j g hk => ⟨h.rows.sub j g hk, h.rows.lt j g hk, fun er => by
      obtain ⟨cur, hh⟩ := blk_of h.acc er
      obtain ⟨cur', hh'⟩ := h.kint j g hk
      exact blk_ne hh hh' (by decide) rfl⟩) (Nat.le_refl _)
  · refine ⟨⟨(h.nxt.lt g hg).1, (h.nxt.lt g hg).2, fun er => ?_⟩, fun j hk => ?_⟩
    · obtain ⟨cur, hh⟩ := blk_of h.acc er
      obtain ⟨cur', hh'⟩ := blk_of h.nxt hg
      exact blk_ne hh hh' (by decide) rfl
    · obtain ⟨cur, hh⟩ := blk_of h.nxt hg
      obtain ⟨cur', hh'⟩ := h.kint j g hk
      exact blk_ne hh hh' (by decide) rfl
  · exact ⟨h.acc.lt g hg, fun h2 => h2.2.2 hg⟩
/-- It begins with nothing. -/
theorem Out.start (w : World) {B : Nat} (hB : B ≤ w.heap.size) : Out B (w.alloc (.cells #[.slice none 0 0, .slice none 0 0] 27)) w.heap.size (.slice none 0 0) (.slice none 0 0) [] [] [] (fun _ _ => False) :=
  ⟨⟨rfl, .inl ⟨rfl, rfl⟩⟩, ⟨rfl, .inl ⟨rfl, rfl⟩⟩, RowsP.nil _ _, fun _ _ h => h.elim, heap_alloc_new w _, hB⟩
end Go.Proofs.Ythmfncklepkddaa

namespace Go.Proofs.Ythmfncklepkddaa
open Go.RowKit

theorem ints_snoc (l : List Int) (x : Int) : ints (l ++ [x]) = ints l ++ [.int .i64 x] := by simp [ints]
theorem ints_len (l : List Int) : (ints l).length = l.length := by simp [ints]
theorem IR.of_push {w : World} {B : Nat} {v : Value} {l : List Int} {x : Int} (h : w.ownsRow B 3 1 v (l.length + 1) (ints l ++ [.int .i64 x])) : IR w B v (l ++ [x]) := by
  unfold IR
  rw [ints_snoc, List.length_append]
  exact h
theorem own_succ {W : World} {base : Nat} {e : TypeId} {size : Nat} {v : Value} {k : Nat} {xs : List Value} (h : W.ownsRow base e size v (k + 1) xs) : ∃ g cap, v = .slice (some ⟨g, 0, none⟩) (k + 1) cap := by
  rcases h.2 with ⟨_, h0⟩ | ⟨g, cap, _, rfl, _⟩
  · omega
  · exact ⟨g, cap, rfl⟩
/-- A row of none, just laid. -/
theorem IR.none (w : World) {B : Nat} (hB : B ≤ w.heap.size) : IR (w.alloc (.cells #[] 3)) B (.slice (some ⟨w.heap.size, 0, none⟩) 0 0) [] :=
  ⟨rfl, .inr ⟨w.heap.size, 0, #[], rfl, hB, heap_alloc_new w _, Nat.le_refl _, by decide, rfl, rfl⟩⟩
theorem IR.below {w w' : World} {B : Nat} {v : Value} {l : List Int} (h : IR w B v l) (hb : Below w.heap.size w w') : IR w' B v l := h.kept (grown_of hb) (fun g _ e => by cases e)

structure One (B : Nat) (w : World) (bo : Nat) (va vn : Value) (accs : List Bool) (us : List Value) (rss : List (List Value)) (K : Nat → Nat → Prop) (vo : Value) (lo : List Int) : Prop where
  out : Out B w bo va vn accs us rss K
  ord : IR w B vo lo
  ordK : ∀ g, vo.ownBlock = some g → ∀ j, ¬ K j g
structure Two (B : Nat) (w : World) (bo : Nat) (va vn : Value) (accs : List Bool) (us : List Value) (rss : List (List Value)) (K : Nat → Nat → Prop) (vo : Value) (lo : List Int) (vr : Value) (lr : List Int) : Prop where
  one : One B w bo va vn accs us rss K vo lo
  row : IR w B vr lr
  rowK : ∀ g, vr.ownBlock = some g → ∀ j, ¬ K j g
  sep : ∀ g, vo.ownBlock = some g → vr.ownBlock ≠ some g
variable {B : Nat} {w w' : World} {bo : Nat} {va vn : Value} {accs : List Bool} {us : List Value} {rss : List (List Value)} {K : Nat → Nat → Prop} {vo vr : Value} {lo lr : List Int}
theorem One.below (h : One B w bo va vn accs us rss K vo lo) (hb : Below w.heap.size w w') : One B w' bo va vn accs us rss K vo lo := ⟨h.out.below hb, h.ord.below hb, h.ordK⟩
theorem Two.below (h : Two B w bo va vn accs us rss K vo lo vr lr) (hb : Below w.heap.size w w') : Two B w' bo va vn accs us rss K vo lo vr lr := ⟨h.one.below hb, h.row.below hb, h.rowK, h.sep⟩
theorem One.base (h : One B w bo va vn accs us rss K vo lo) : B < w.heap.size := Nat.lt_of_le_of_lt h.out.low (Array.getElem?_eq_some_iff.1 h.out.box).1
/-- A row of none beside it. -/
theorem One.two (h : One B w bo va vn accs us rss K vo lo) : Two B (w.alloc (.cells #[] 3)) bo va vn accs us rss K vo lo (.slice (some ⟨w.heap.size, 0, none⟩) 0 0) [] := by
  refine ⟨h.below ((Below.refl _ _).alloc (Nat.le_refl _) _), IR.none w (Nat.le_of_lt h.base), fun g hg j hk => ?_, fun g hg e => ?_⟩
  · simp [Value.ownBlock] at hg
    have := h.out.rows.lt j g hk
    omega
  · simp [Value.ownBlock] at e
    have := (h.ord.lt g hg).2
    omega
/-- One more is met. -/
theorem Two.ord_push {v' : Value} {x : Int} (h : Two B w bo va vn accs us rss K vo lo vr lr) (hown : w'.ownsRow B 3 1 v' (lo.length + 1) (ints lo ++ [.int .i64 x])) (hg : w.grownBy w' vo.ownBlock) (hat : v'.ownBlock = vo.ownBlock ∨ v'.ownBlock = some w.heap.size) : Two B w' bo va vn accs us rss K v' (lo ++ [x]) vr lr := by
  refine ⟨⟨h.one.out.kept hg (fun g e => ⟨blk_of h.one.ord e, h.one.ordK g e⟩), IR.of_push hown, fun g e j hk => ?_⟩, h.row.kept hg (fun g e er => h.sep g er e), h.rowK, fun g e er => ?_⟩
  · rcases hat with a | a
    · exact h.one.ordK g (a.symm.trans e) j hk
    · rw [a] at e
      cases e
      have := h.one.out.rows.lt j _ hk
      omega
  · rcases hat with a | a
    · exact h.sep g (a.symm.trans e) er
    · rw [a] at e
      cases e
      have := (h.row.lt _ er).2
      omega
/-- One more in the row. -/
theorem Two.row_push {v' : Value} {x : Int} (h : Two B w bo va vn accs us rss K vo lo vr lr) (hown : w'.ownsRow B 3 1 v' (lr.length + 1) (ints lr ++ [.int .i64 x])) (hg : w.grownBy w' vr.ownBlock) (hat : v'.ownBlock = vr.ownBlock ∨ v'.ownBlock = some w.heap.size) : Two B w' bo va vn accs us rss K vo lo v' (lr ++ [x]) := by
  refine ⟨⟨h.one.out.kept hg (fun g e => ⟨blk_of h.row e, h.rowK g e⟩), h.one.ord.kept hg (fun g e er => h.sep g e er), h.one.ordK⟩, IR.of_push hown, fun g e j hk => ?_, fun g e er => ?_⟩
  · rcases hat with a | a
    · exact h.rowK g (a.symm.trans e) j hk
    · rw [a] at e
      cases e
      have := h.one.out.rows.lt j _ hk
      omega
  · rcases hat with a | a
    · exact h.sep g e (a.symm.trans er)
    · rw [a] at er
      cases er
      have := (h.one.ord.lt _ e).2
      omega
/-- A row of ints stays where a row of another type grows and the box is stored into. -/
theorem IR.far {row : Option Nat} {p : Addr} {u : Value} {va vn : Value} {v : Value} {l : List Int} (h : IR w B v l) (hg : w.grownBy w' row) (hrow : ∀ g, row = some g → ∃ cur e, w.heap[g]? = some (.cells cur e (0, 0)) ∧ e ≠ 3) (hbox : w.heap[p.block]? = some (.cells #[va, vn] 27 (0, 0))) : IR (w'.setCell p u) B v l := by
  have h1 : IR w' B v l := h.kept hg (fun g e er => by
    obtain ⟨cur, hh⟩ := blk_of h e
    obtain ⟨cur', e', hh', hne⟩ := hrow g er
    exact blk_ne hh hh' (Ne.symm hne) rfl)
  refine ownsRow_setCell_other h1 (fun er => ?_) _
  obtain ⟨cur, hh⟩ := blk_of h er
  exact blk_ne hh hbox (by decide) rfl
theorem Two.acc_push {va' : Value} {b : Bool} (h : Two B w bo va vn accs us rss K vo lo vr lr) (hown : w'.ownsRow B 4 1 va' (accs.length + 1) (bools accs ++ [.bool b])) (hg : w.grownBy w' va.ownBlock) :
    (∃ x, w'.cell? ⟨bo, 0, none⟩ = some x) ∧ w'.frozen? ⟨bo, 0, none⟩ = false ∧ Two B (w'.setCell ⟨bo, 0, none⟩ va') bo va' vn (accs ++ [b]) us rss K vo lo vr lr := by
  obtain ⟨h1, h2, h3⟩ := h.one.out.acc_push hown hg
  have hrow : ∀ g, va.ownBlock = some g → ∃ cur e, w.heap[g]? = some (.cells cur e (0, 0)) ∧ e ≠ 3 := fun g e => by
    obtain ⟨cur, hh⟩ := blk_of h.one.out.acc e
    exact ⟨cur, _, hh, by decide⟩
  exact ⟨h1, h2, ⟨h3, h.one.ord.far hg hrow h.one.out.box, h.one.ordK⟩, h.row.far hg hrow h.one.out.box, h.rowK, h.sep⟩
theorem Two.nxt_push {vn' : Value} (h : Two B w bo va vn accs us rss K vo lo vr lr) (hrl : lr.length ≤ 9223372036854775807) (hown : w'.ownsRow B 73 1 vn' (us.length + 1) (us ++ [vr])) (hg : w.grownBy w' vn.ownBlock) :
    (∃ x, w'.cell? ⟨bo, 1, none⟩ = some x) ∧ w'.frozen? ⟨bo, 1, none⟩ = false ∧ One B (w'.setCell ⟨bo, 1, none⟩ vn') bo va vn' accs (us ++ [vr]) (rss ++ [ints lr]) (fun j g => if j < us.length then K j g else j = us.length ∧ vr.ownBlock = some g) vo lo := by
  obtain ⟨h1, h2, h3⟩ := h.one.out.nxt_push h.row hrl h.rowK hown hg
  have hrow : ∀ g, vn.ownBlock = some g → ∃ cur e, w.heap[g]? = some (.cells cur e (0, 0)) ∧ e ≠ 3 := fun g e => by
    obtain ⟨cur, hh⟩ := blk_of h.one.out.nxt e
    exact ⟨cur, _, hh, by decide⟩
  refine ⟨h1, h2, h3, h.one.ord.far hg hrow h.one.out.box, fun g e j hk => ?_⟩
  by_cases hj : j < us.length
  · exact h.one.ordK g e j (by simpa [hj] using hk)
  · simp only [hj, if_false] at hk
    exact h.sep g e hk.2
/-- The beginning: one is met, the box is empty. -/
theorem One.start (w1 : World) (x : Int) :
    let W3 := (w1.alloc (.cells #[.int .i64 x] 3)).alloc (.cells #[.slice none 0 0, .slice none 0 0] 27)
    One w1.heap.size W3 (w1.heap.size + 1) (.slice none 0 0) (.slice none 0 0) [] [] [] (fun _ _ => False) (.slice (some ⟨w1.heap.size, 0, none⟩) 1 1) [x] ∧ Below w1.heap.size w1 W3 := by
  intro W3
  have hb : W3.heap[w1.heap.size + 1]? = some (.cells #[.slice none 0 0, .slice none 0 0] 27 (0, 0)) := by
    have h := heap_alloc_new (w1.alloc (.cells #[.int .i64 x] 3)) (.cells #[.slice none 0 0, .slice none 0 0] 27)
    rwa [World.size_alloc] at h
  have h1 : IR W3 w1.heap.size (.slice (some ⟨w1.heap.size, 0, none⟩) 1 1) [x] := (IR.one w1 x (Nat.le_refl _)).below ((Below.refl _ _).alloc (Nat.le_refl _) _)
  exact ⟨⟨⟨⟨rfl, .inl ⟨rfl, rfl⟩⟩, ⟨rfl, .inl ⟨rfl, rfl⟩⟩, RowsP.nil _ _, fun _ _ h => h.elim, hb, Nat.le_succ _⟩, h1, fun _ _ _ h => h⟩, ((Below.refl _ _).alloc (Nat.le_refl _) _).alloc (by simp) _⟩
end Go.Proofs.Ythmfncklepkddaa

namespace Go.Proofs.Ythmfncklepkddaa
open Go.RowKit

theorem own_on {w w' : World} {B B' : Nat} {e : TypeId} {size : Nat} {v : Value} {k : Nat} {xs : List Value} (h : w.ownsRow B e size v k xs) (hs : ∀ q, v.ownBlock = some q → w'.heap[q]? = w.heap[q]?) (hB : B' ≤ B) : w'.ownsRow B' e size v k xs := by
  refine ⟨h.1, ?_⟩
  rcases h.2 with h0 | ⟨g, cap, cur, e1, e2, e3, rest⟩
  · exact .inl h0
  · exact .inr ⟨g, cap, cur, e1, Nat.le_trans hB e2, (hs g (by rw [e1]; simp [Value.ownBlock])).trans e3, rest⟩
theorem intss_snoc (rs : List (List Int)) (r : List Int) : intss (rs ++ [r]) = intss rs ++ [ints r] := by simp [intss]
variable {w w' W0 : World} {B : Nat} {bo : Nat} {va vn : Value} {accs : List Bool} {us : List Value} {rss : List (List Value)} {rs : List (List Int)} {K : Nat → Nat → Prop} {vo : Value} {lo : List Int}
theorem Out.off (h : Out B w bo va vn accs us rss K) (hs : ∀ q, B ≤ q → q < w.heap.size → w'.heap[q]? = w.heap[q]?) (hz : w.heap.size ≤ w'.heap.size) {B' : Nat} (hB : B' ≤ B) : Out B' w' bo va vn accs us rss K :=
  ⟨own_on h.acc (fun q e => hs q (h.acc.lt q e).1 (h.acc.lt q e).2) hB, own_on h.nxt (fun q e => hs q (h.nxt.lt q e).1 (h.nxt.lt q e).2) hB,
    h.rows.keep (fun j g hk => hs g (h.rows.sub j g hk) (h.rows.lt j g hk)) (fun j g hk => Nat.le_trans hB (h.rows.sub j g hk)) hz,
    fun j g hk => by
      obtain ⟨cur, hh⟩ := h.kint j g hk
      exact ⟨cur, (hs g (h.rows.sub j g hk) (h.rows.lt j g hk)).trans hh⟩,
    (hs bo h.low (blk_lt h.box)).trans h.box, Nat.le_trans hB h.low⟩
theorem Out.base (h : Out B w bo va vn accs us rss K) : B < w.heap.size := Nat.lt_of_le_of_lt h.low (blk_lt h.box)
/-- Every row is a row of the call's own, and its block is named. -/
def Ows (w : World) (B : Nat) (us : List Value) (rs : List (List Int)) (K : Nat → Nat → Prop) : Prop :=
  ∀ (j : Nat) (u : Value) (r : List Int), us[j]? = some u → rs[j]? = some r → IR w B u r ∧ ∀ q, u.ownBlock = some q → K j q
theorem Ows.keep (h : Ows w B us rs K) (hs : ∀ j q, K j q → w'.heap[q]? = w.heap[q]?) {B' : Nat} (hB : B' ≤ B) : Ows w' B' us rs K := fun j u r hu hr => by
  obtain ⟨h1, h2⟩ := h j u r hu hr
  exact ⟨own_on h1 (fun q e => hs j q (h2 q e)) hB, h2⟩
theorem Out.k_acc (h : Out B w bo va vn accs us rss K) (hg : w.grownBy w' va.ownBlock) (x : Value) : ∀ j q, K j q → (w'.setCell ⟨bo, 0, none⟩ x).heap[q]? = w.heap[q]? := fun j q hk => by
  obtain ⟨cur, hh⟩ := h.kint j q hk
  refine (Below.heap_setCell _ _ _ q (fun er => blk_ne hh h.box (by decide) er)).trans (hg.block q (blk_lt hh) (fun er => ?_))
  obtain ⟨cur', hh'⟩ := blk_of h.acc er.symm
  exact blk_ne hh hh' (by decide) rfl
theorem Out.k_nxt (h : Out B w bo va vn accs us rss K) (hg : w.grownBy w' vn.ownBlock) (x : Value) : ∀ j q, K j q → (w'.setCell ⟨bo, 1, none⟩ x).heap[q]? = w.heap[q]? := fun j q hk => by
  obtain ⟨cur, hh⟩ := h.kint j q hk
  refine (Below.heap_setCell _ _ _ q (fun er => blk_ne hh h.box (by decide) er)).trans (hg.block q (blk_lt hh) (fun er => ?_))
  obtain ⟨cur', hh'⟩ := blk_of h.nxt er.symm
  exact blk_ne hh hh' (by decide) rfl
theorem One.k_ord (h : One B w bo va vn accs us rss K vo lo) (hg : w.grownBy w' vo.ownBlock) : ∀ j q, K j q → w'.heap[q]? = w.heap[q]? := fun j q hk =>
  hg.block q (h.out.rows.lt j q hk) (fun er => h.ordK q er.symm j hk)
theorem One.ord_push {v' : Value} {x : Int} (h : One B w bo va vn accs us rss K vo lo) (hown : w'.ownsRow B 3 1 v' (lo.length + 1) (ints lo ++ [.int .i64 x])) (hg : w.grownBy w' vo.ownBlock) (hat : v'.ownBlock = vo.ownBlock ∨ v'.ownBlock = some w.heap.size) : One B w' bo va vn accs us rss K v' (lo ++ [x]) := by
  refine ⟨h.out.kept hg (fun g e => ⟨blk_of h.ord e, h.ordK g e⟩), IR.of_push hown, fun g e j hk => ?_⟩
  rcases hat with a | a
  · exact h.ordK g (a.symm.trans e) j hk
  · rw [a] at e
    cases e
    have := h.out.rows.lt j _ hk
    omega
theorem Out.one (h : Out B w bo va vn accs us rss K) : One B (w.alloc (.cells #[] 3)) bo va vn accs us rss K (.slice (some ⟨w.heap.size, 0, none⟩) 0 0) [] := by
  refine ⟨h.below ((Below.refl _ _).alloc (Nat.le_refl _) _), IR.none w (Nat.le_of_lt h.base), fun g hg j hk => ?_⟩
  simp [Value.ownBlock] at hg
  have := h.rows.lt j g hk
  omega
theorem One.acc_push {va' : Value} {b : Bool} (h : One B w bo va vn accs us rss K vo lo) (hown : w'.ownsRow B 4 1 va' (accs.length + 1) (bools accs ++ [.bool b])) (hg : w.grownBy w' va.ownBlock) :
    (∃ x, w'.cell? ⟨bo, 0, none⟩ = some x) ∧ w'.frozen? ⟨bo, 0, none⟩ = false ∧ One B (w'.setCell ⟨bo, 0, none⟩ va') bo va' vn (accs ++ [b]) us rss K vo lo := by
  obtain ⟨h1, h2, h3⟩ := h.out.acc_push hown hg
  have hrow : ∀ g, va.ownBlock = some g → ∃ cur e, w.heap[g]? = some (.cells cur e (0, 0)) ∧ e ≠ 3 := fun g e => by
    obtain ⟨cur, hh⟩ := blk_of h.out.acc e
    exact ⟨cur, _, hh, by decide⟩
  exact ⟨h1, h2, h3, h.ord.far hg hrow h.out.box, h.ordK⟩
theorem One.nxt_push {vn' : Value} (h : One B w bo va vn accs us rss K vo lo) (hrl : lo.length ≤ 9223372036854775807) (hown : w'.ownsRow B 73 1 vn' (us.length + 1) (us ++ [vo])) (hg : w.grownBy w' vn.ownBlock) :
    (∃ x, w'.cell? ⟨bo, 1, none⟩ = some x) ∧ w'.frozen? ⟨bo, 1, none⟩ = false ∧ Out B (w'.setCell ⟨bo, 1, none⟩ vn') bo va vn' accs (us ++ [vo]) (rss ++ [ints lo]) (fun j g => if j < us.length then K j g else j = us.length ∧ vo.ownBlock = some g) :=
  h.out.nxt_push h.ord hrl h.ordK hown hg
end Go.Proofs.Ythmfncklepkddaa

/-
  A cell of a literal, behind a draw. Of no function of the program but the draws'.
-/
namespace Go.Proofs.Ythmfncklepkddaa
open Go.RowKit

/-- A cell of a literal, behind a draw. -/
theorem pick_cell {w w1 : World} {g gl x : Nat} {l : List Value} {T : TypeId} {v : Value} (hg : w.grownBy w1 (some g)) (hne : gl ≠ g) (hl : w.heap[gl]? = some (.cells l.toArray T (0, 0))) (hx : l[x]? = some v) : w1.cell? ⟨gl, x, none⟩ = some v := by
  have hlt := (Array.getElem?_eq_some_iff.1 hl).1
  have h1 : w1.heap[gl]? = some (.cells l.toArray T (0, 0)) := (hg.block gl hlt (by simpa using hne)).trans hl
  rw [cell_of_row w1 gl x _ _ (0, 0) h1]
  simpa using hx
end Go.Proofs.Ythmfncklepkddaa

/-
  The cursor of the draws over what is made beside it.
-/
namespace Go.Proofs.Ythmfncklepkddaa
open Go.RowKit

theorem Cur.lt {w : World} {g B : Nat} {A : Option Addr} {n c : Nat} (h : Cur w g B A n c) : g < w.heap.size := by
  obtain ⟨_, _, i, x, _, hh⟩ := h
  exact (Array.getElem?_eq_some_iff.1 hh).1
theorem Cur.alloc {w : World} {g B : Nat} {A : Option Addr} {n c : Nat} (h : Cur w g B A n c) (o : Obj) : Cur (w.alloc o) g B A n c := by
  have hlt := h.lt
  obtain ⟨hB, hb, i, x, hi, hh⟩ := h
  refine ⟨hB, hb.grown (g := g) ⟨rfl, rfl, rfl, by simp, fun k hk _ => Below.heap_alloc w o k hk⟩ hB, i, x, hi, (Below.heap_alloc w o g hlt).trans hh⟩
theorem grown_made {a w : World} {row : Option Nat} (h : a.grownBy w row) (o : Obj) : a.grownBy (w.alloc o) row :=
  ⟨h.os, h.tape, h.output, Nat.le_trans h.size (by simp), fun k hk hne => (Below.heap_alloc w o k (Nat.lt_of_lt_of_le hk h.size)).trans (h.block k hk hne)⟩
theorem grown_comp {a b c : World} {row : Option Nat} (h : a.grownBy b row) (k : b.grownBy c row) : a.grownBy c row :=
  ⟨k.os.trans h.os, k.tape.trans h.tape, k.output.trans h.output, Nat.le_trans h.size k.size, fun i hi hne => (k.block i (Nat.lt_of_lt_of_le hi h.size) hne).trans (h.block i hi hne)⟩
/-- Below the heap's old size nothing has turned: the cursor's block lies above. -/
theorem below_of_grown {w w1 w2 : World} {g : Nat} (hb : Below w.heap.size w w1) (hg : w1.grownBy w2 (some g)) (h : w.heap.size ≤ g) : Below w.heap.size w w2 :=
  hb.grown hg hb.size (fun k e => by cases e; exact h)
theorem BL.more {w : World} {B B' : Nat} {A : Option Addr} {n : Nat} (h : BL w B A n) (hB : B ≤ B') : BL w B' A n := fun k hk => by
  obtain ⟨ad, z, e, hlt, hc⟩ := h k hk
  exact ⟨ad, z, e, Nat.lt_of_lt_of_le hlt hB, hc⟩
theorem below_row {w w1 w2 : World} {g : Nat} (hb : Below w.heap.size w w1) (hg : w1.grownBy w2 (some g)) (h : w.heap.size ≤ g) : Below w.heap.size w w2 :=
  hb.grown hg hb.size (fun k e => by cases e; exact h)
end Go.Proofs.Ythmfncklepkddaa

/-
  'append' to a slice of the call's own, as one step of a region that draws its order. Of no program.
-/
namespace Go.Proofs.Ythmfncklepkddaa
open Go.RowKit

theorem step_append_own {P : Program} {ops : Array Oper} {o : Oper} {a : Act} {w : World} {K : Act → World → Prop} {Q : Exit → Act → World → Prop} {E : Prop}
    (hg : o.guard = none) (s x : Operand) (t : TypeId) (hop : o.op = Op.call { callee := Callee.builtin Builtin.append, args := #[s, x], argTypes := #[t, t] })
    (base : Nat) (e : TypeId) (i : TypeInfo) (z : Value) (size bytes : Nat) (h1 : P.underlying t = some (.slice e)) (h2 : P.info? e = some i) (h3 : i.zero = some z) (h4 : i.size = size) (h5 : i.bytes = bytes) (h6 : z.cells.size = size) (h7 : 0 < size)
    (v : Value) (n : Nat) (xs : List Value) (hs : a.eval s = v) (hown : w.ownsRow base e size v n xs) (ad : Addr) (m c : Nat) (news : List Value) (hx : a.eval x = .slice (some ad) m c) (hn : news.length = m * size)
    (hc : ∀ j u, news[j]? = some u → w.cell? (ad.add j) = some u) (h1c : ∀ u ∈ news, u.oneCell' = true) (b1 : n + m ≤ maxLen) (b2 : (n + m) * bytes ≤ 140737488355328) (hbase : base ≤ w.heap.size)
    (hK : ∀ v' w', w'.ownsRow base e size v' (n + m) (xs ++ news) → w.grownBy w' v.ownBlock → K (a.put o.dst v') w') :
    if Region.wanted o (yielded ops a.tmps) = true then Oper.wp P o a w K Q else E := by
  obtain ⟨v', w', hrun, ho, hgr, _⟩ := run_append_own (P := P) w base t o.type e i z size bytes h1 h2 h3 h4 h5 h6 h7 v n xs hown ad m c news hn hc h1c b1 b2 hbase
  rw [if_pos (by simp [Region.wanted, hg])]
  unfold Oper.wp
  simp [execOp, hop, resolve, invoke, builtin, hs, hx, hrun, Result.andThen]
  exact hK v' w' ho hgr
theorem step_append_own_at {P : Program} {ops : Array Oper} {o : Oper} {a : Act} {w : World} {K : Act → World → Prop} {Q : Exit → Act → World → Prop} {E : Prop}
    (hg : o.guard = none) (s x : Operand) (t : TypeId) (hop : o.op = Op.call { callee := Callee.builtin Builtin.append, args := #[s, x], argTypes := #[t, t] })
    (base : Nat) (e : TypeId) (i : TypeInfo) (z : Value) (size bytes : Nat) (h1 : P.underlying t = some (.slice e)) (h2 : P.info? e = some i) (h3 : i.zero = some z) (h4 : i.size = size) (h5 : i.bytes = bytes) (h6 : z.cells.size = size) (h7 : 0 < size)
    (v : Value) (n : Nat) (xs : List Value) (hs : a.eval s = v) (hown : w.ownsRow base e size v n xs) (ad : Addr) (m c : Nat) (news : List Value) (hx : a.eval x = .slice (some ad) m c) (hn : news.length = m * size)
    (hc : ∀ j u, news[j]? = some u → w.cell? (ad.add j) = some u) (h1c : ∀ u ∈ news, u.oneCell' = true) (b1 : n + m ≤ maxLen) (b2 : (n + m) * bytes ≤ 140737488355328) (hbase : base ≤ w.heap.size)
    (hK : ∀ v' w', w'.ownsRow base e size v' (n + m) (xs ++ news) → w.grownBy w' v.ownBlock → (v'.ownBlock = v.ownBlock ∨ v'.ownBlock = some w.heap.size) → K (a.put o.dst v') w') :
    if Region.wanted o (yielded ops a.tmps) = true then Oper.wp P o a w K Q else E := by
  obtain ⟨v', w', hrun, ho, hgr, _, hat⟩ := run_append_own_at (P := P) w base t o.type e i z size bytes h1 h2 h3 h4 h5 h6 h7 v n xs hown ad m c news hn hc h1c b1 b2 hbase
  rw [if_pos (by simp [Region.wanted, hg])]
  unfold Oper.wp
  simp [execOp, hop, resolve, invoke, builtin, hs, hx, hrun, Result.andThen]
  exact hK v' w' ho hgr hat
/-- A call of a Go function, as one step of a region that draws. -/
theorem step_call {P : Program} {ops : Array Oper} {o : Oper} {a : Act} {w : World} {K : Act → World → Prop} {Q : Exit → Act → World → Prop} {E : Prop}
    (hg : o.guard = none) (f : FuncId) (args : Array Operand) (ts : Array TypeId) (hop : o.op = Op.call { callee := Callee.value (.func f), args := args, argTypes := ts }) (hent : ∀ args w, (callFunc f args).run P w = .ok (.enter f args) w)
    (vs : Array Value) (hvs : args.map a.eval = vs) {R : Ending → World → Prop} (hC : Calls P f vs w R) (hR : ∀ e w', R e w' → ∃ v, e = .returned v ∧ K (a.put o.dst v) w') :
    if Region.wanted o (yielded ops a.tmps) = true then Oper.wp P o a w K Q else E := by
  rw [if_pos (by simp [Region.wanted, hg])]
  unfold Oper.wp
  have hrun : (execOp a.eval o).run P w = .ok (.enter f vs) w := by
    simp [execOp, hop, resolve, invoke, Act.eval, Deferred.ofValue, hent, ← hvs]
  rw [hrun, Oper.upon_enter]
  refine hC.mono fun e w' h => ?_
  obtain ⟨v, rfl, hk⟩ := hR e w' h
  exact hk
end Go.Proofs.Ythmfncklepkddaa

/-
  What the model's draw of an automaton answers: an automaton in rows of its own; of what was there the cursor's block alone has turned.
-/
namespace Go.Proofs.Ythmfncklepkddaa
open Go.RowKit

variable {w w' W0 : World} {B : Nat} {bo : Nat} {va vn : Value} {accs : List Bool} {us : List Value} {rss : List (List Value)} {rs : List (List Int)} {K : Nat → Nat → Prop} {vo : Value} {lo : List Int}
/-- The cursor's block g is older than W0; since W0 it alone has turned. -/
def DS (W0 w : World) (g C : Nat) (A : Option Addr) (n c : Nat) : Prop := g < W0.heap.size ∧ Cur w g C A n c ∧ W0.grownBy w (some g)
variable {g C : Nat} {A : Option Addr} {n c : Nat}
theorem DS.call (h : DS W0 w g C A n c) (hc : Cur w' g C A n c) (hg : w.grownBy w' (some g)) : DS W0 w' g C A n c := ⟨h.1, hc, grown_comp h.2.2 hg⟩
theorem DS.alloc (h : DS W0 w g C A n c) (o : Obj) : DS W0 (w.alloc o) g C A n c := ⟨h.1, h.2.1.alloc o, grown_made h.2.2 o⟩
theorem DS.drew (h : DS W0 w g C A n c) : DS W0 w.drew g C A n c := ⟨h.1, h.2.1, h.2.2.os, h.2.2.tape, h.2.2.output, h.2.2.size, h.2.2.block⟩
theorem DS.app {row : Option Nat} (h : DS W0 w g C A n c) (hg : w.grownBy w' row) (hr : ∀ q, row = some q → W0.heap.size ≤ q) : DS W0 w' g C A n c := by
  obtain ⟨h1, ⟨hB, hbl, i, x, hi, hh⟩, h3⟩ := h
  have hgl := blk_lt hh
  exact ⟨h1, ⟨hB, hbl.below ((Below.refl C w).grown hg (by omega) (fun q e => by have := hr q e; omega)), i, x, hi, (hg.block g hgl (fun e => by have := hr g e.symm; omega)).trans hh⟩,
    hg.os.trans h3.os, hg.tape.trans h3.tape, hg.output.trans h3.output, Nat.le_trans h3.size hg.size, fun k hk hne => (hg.block k (Nat.lt_of_lt_of_le hk h3.size) (fun e => by have := hr k e.symm; omega)).trans (h3.block k hk hne)⟩
theorem DS.set (h : DS W0 w g C A n c) {r o : Nat} {u : Value} (hr : W0.heap.size ≤ r) : DS W0 (w.setCell ⟨r, o, none⟩ u) g C A n c := by
  obtain ⟨h1, ⟨hB, hbl, i, x, hi, hh⟩, h3⟩ := h
  refine ⟨h1, ⟨hB, hbl.below ((Below.refl C w).setCell (p := ⟨r, o, none⟩) (by show C ≤ r; omega) u), i, x, hi, (Below.heap_setCell _ _ _ g (by show g ≠ r; omega)).trans hh⟩,
    h3.os, h3.tape, h3.output, by simpa [World.setCell] using h3.size, fun k hk hne => (Below.heap_setCell _ _ _ k (by show k ≠ r; omega)).trans (h3.block k hk hne)⟩
theorem DS.from (h : DS W0 w g C A n c) {w0 : World} (hw : w0.grownBy W0 (some g)) (hg : g < w0.heap.size) : DS w0 w g C A n c := ⟨hg, h.2.1, grown_comp hw h.2.2⟩

/-- The drawn automaton so far. -/
structure Gr (W0 w : World) (g C : Nat) (A : Option Addr) (n c bo : Nat) (va vn : Value) (accs : List Bool) (us : List Value) (rs : List (List Int)) (K : Nat → Nat → Prop) : Prop where
  ds : DS W0 w g C A n c
  out : Out W0.heap.size w bo va vn accs us (intss rs) K
  ows : Ows w W0.heap.size us rs K
structure Gr1 (W0 w : World) (g C : Nat) (A : Option Addr) (n c bo : Nat) (va vn : Value) (accs : List Bool) (us : List Value) (rs : List (List Int)) (K : Nat → Nat → Prop) (vo : Value) (lo : List Int) : Prop where
  ds : DS W0 w g C A n c
  one : One W0.heap.size w bo va vn accs us (intss rs) K vo lo
  ows : Ows w W0.heap.size us rs K
theorem Gr.call (h : Gr W0 w g C A n c bo va vn accs us rs K) (hc : Cur w' g C A n c) (hg : w.grownBy w' (some g)) : Gr W0 w' g C A n c bo va vn accs us rs K := by
  have hs : ∀ q, W0.heap.size ≤ q → q < w.heap.size → w'.heap[q]? = w.heap[q]? := fun q h1 h2 => hg.block q h2 (fun e => by cases e; have := h.ds.1; omega)
  exact ⟨h.ds.call hc hg, h.out.off hs hg.size (Nat.le_refl _), h.ows.keep (fun j q hk => hs q (h.out.rows.sub j q hk) (h.out.rows.lt j q hk)) (Nat.le_refl _)⟩
theorem Gr.drew (h : Gr W0 w g C A n c bo va vn accs us rs K) : Gr W0 w.drew g C A n c bo va vn accs us rs K := ⟨h.ds.drew, h.out.below (Below.refl _ _).drew, h.ows.keep (fun _ _ _ => rfl) (Nat.le_refl _)⟩
theorem Gr.alloc (h : Gr W0 w g C A n c bo va vn accs us rs K) (o : Obj) : Gr W0 (w.alloc o) g C A n c bo va vn accs us rs K :=
  ⟨h.ds.alloc o, h.out.below ((Below.refl _ _).alloc (Nat.le_refl _) o), h.ows.keep (fun j q hk => Below.heap_alloc _ _ _ (h.out.rows.lt j q hk)) (Nat.le_refl _)⟩
theorem Gr.acc_push {va' : Value} {b : Bool} (h : Gr W0 w g C A n c bo va vn accs us rs K) (hown : w'.ownsRow W0.heap.size 4 1 va' (accs.length + 1) (bools accs ++ [.bool b])) (hg : w.grownBy w' va.ownBlock) :
    (∃ x, w'.cell? ⟨bo, 0, none⟩ = some x) ∧ w'.frozen? ⟨bo, 0, none⟩ = false ∧ Gr W0 (w'.setCell ⟨bo, 0, none⟩ va') g C A n c bo va' vn (accs ++ [b]) us rs K := by
  obtain ⟨h1, h2, h3⟩ := h.out.acc_push hown hg
  exact ⟨h1, h2, (h.ds.app hg (fun q e => (h.out.acc.lt q e).1)).set h.out.low, h3, h.ows.keep (h.out.k_acc hg va') (Nat.le_refl _)⟩
theorem Gr.one (h : Gr W0 w g C A n c bo va vn accs us rs K) : Gr1 W0 (w.alloc (.cells #[] 3)) g C A n c bo va vn accs us rs K (.slice (some ⟨w.heap.size, 0, none⟩) 0 0) [] :=
  ⟨h.ds.alloc _, h.out.one, (h.alloc _).ows⟩
theorem Gr1.call (h : Gr1 W0 w g C A n c bo va vn accs us rs K vo lo) (hc : Cur w' g C A n c) (hg : w.grownBy w' (some g)) : Gr1 W0 w' g C A n c bo va vn accs us rs K vo lo := by
  have hs : ∀ q, W0.heap.size ≤ q → q < w.heap.size → w'.heap[q]? = w.heap[q]? := fun q h1 h2 => hg.block q h2 (fun e => by cases e; have := h.ds.1; omega)
  exact ⟨h.ds.call hc hg, ⟨h.one.out.off hs hg.size (Nat.le_refl _), own_on h.one.ord (fun q e => hs q (h.one.ord.lt q e).1 (h.one.ord.lt q e).2) (Nat.le_refl _), h.one.ordK⟩, h.ows.keep (fun j q hk => hs q (h.one.out.rows.sub j q hk) (h.one.out.rows.lt j q hk)) (Nat.le_refl _)⟩
theorem Gr1.alloc (h : Gr1 W0 w g C A n c bo va vn accs us rs K vo lo) (o : Obj) : Gr1 W0 (w.alloc o) g C A n c bo va vn accs us rs K vo lo :=
  ⟨h.ds.alloc o, h.one.below ((Below.refl _ _).alloc (Nat.le_refl _) o), h.ows.keep (fun j q hk => Below.heap_alloc _ _ _ (h.one.out.rows.lt j q hk)) (Nat.le_refl _)⟩
theorem Gr1.ord_push {v' : Value} {x : Int} (h : Gr1 W0 w g C A n c bo va vn accs us rs K vo lo) (hown : w'.ownsRow W0.heap.size 3 1 v' (lo.length + 1) (ints lo ++ [.int .i64 x])) (hg : w.grownBy w' vo.ownBlock) (hat : v'.ownBlock = vo.ownBlock ∨ v'.ownBlock = some w.heap.size) :
    Gr1 W0 w' g C A n c bo va vn accs us rs K v' (lo ++ [x]) :=
  ⟨h.ds.app hg (fun q e => (h.one.ord.lt q e).1), h.one.ord_push hown hg hat, h.ows.keep (h.one.k_ord hg) (Nat.le_refl _)⟩
theorem Gr1.nxt_push {vn' : Value} (h : Gr1 W0 w g C A n c bo va vn accs us rs K vo lo) (hrl : lo.length ≤ 9223372036854775807) (hul : us.length = rs.length) (hown : w'.ownsRow W0.heap.size 73 1 vn' (us.length + 1) (us ++ [vo])) (hg : w.grownBy w' vn.ownBlock) :
    (∃ x, w'.cell? ⟨bo, 1, none⟩ = some x) ∧ w'.frozen? ⟨bo, 1, none⟩ = false ∧ Gr W0 (w'.setCell ⟨bo, 1, none⟩ vn') g C A n c bo va vn' accs (us ++ [vo]) (rs ++ [lo]) (fun j g => if j < us.length then K j g else j = us.length ∧ vo.ownBlock = some g) := by
  obtain ⟨h1, h2, h3⟩ := h.one.out.nxt_push h.one.ord hrl h.one.ordK hown hg
  refine ⟨h1, h2, (h.ds.app hg (fun q e => (h.one.out.nxt.lt q e).1)).set h.one.out.low, by rw [intss_snoc]; exact h3, fun j u r hu hr => ?_⟩
  have hk := h.one.out.k_nxt hg vn'
  by_cases hj : j < us.length
  · rw [List.getElem?_append_left hj] at hu
    rw [List.getElem?_append_left (by omega)] at hr
    obtain ⟨q1, q2⟩ := (h.ows.keep hk (Nat.le_refl _)) j u r hu hr
    exact ⟨q1, fun q e => by simpa [hj] using q2 q e⟩
  · have e : j = us.length := by
      have := (List.getElem?_eq_some_iff.1 hu).1
      simp at this
      omega
    subst e
    rw [List.getElem?_append_right (Nat.le_refl _), Nat.sub_self] at hu
    rw [List.getElem?_append_right (by omega), hul, Nat.sub_self] at hr
    cases hu
    cases hr
    refine ⟨own_on h.one.ord (fun q e => ?_) (Nat.le_refl _), fun q e => by simpa using e⟩
    obtain ⟨cur, hh⟩ := blk_of h.one.ord e
    refine (Below.heap_setCell _ _ _ q (fun er => blk_ne hh h.one.out.box (by decide) er)).trans (hg.block q (blk_lt hh) (fun er => ?_))
    obtain ⟨cur', hh'⟩ := blk_of h.one.out.nxt er.symm
    exact blk_ne hh hh' (by decide) rfl
theorem Gr.start (h : DS W0 w g C A n c) : Gr W0 (w.alloc (.cells #[.slice none 0 0, .slice none 0 0] 27)) g C A n c w.heap.size (.slice none 0 0) (.slice none 0 0) [] [] [] (fun _ _ => False) :=
  ⟨h.alloc _, Out.start w h.2.2.size, fun j u r hu => by simp at hu⟩

def OnceM (g B : Nat) (A : Option Addr) (n c : Nat) (w : World) (e : Ending) (w' : World) : Prop :=
  ∃ b : Bool, e = .returned (.bool b) ∧ Cur w' g B A n c ∧ w.grownBy w' (some g)
set_option maxRecDepth 100000 in
set_option maxHeartbeats 800000 in
theorem l1Once_m (g B : Nat) (A : Option Addr) (n c m : Nat) (w : World) (hc : Cur w g B A n c) (hn : n ≤ 1048576) (h1 : 1 ≤ m) (h2 : m ≤ 256) :
    Calls Try.prog 47 #[.pointer (some ⟨g, 0, none⟩), .int .i64 m] w (OnceM g B A n c w) := by
  have H3 := Lib.hid (l1Below_small g B A n c m w hc hn h1 h2)
  go_enter Try.func47, Try.ntmps47
  go_wp2_with fail
  go_at_call 72
  refine H3.out.mono ?_
  rintro e w1 ⟨x, rfl, hx, hc1, hg1⟩
  have HC1 := Lib.hid hc1
  have HG1 := Lib.hid hg1
  clear hc1 hg1
  go_wp2_with fail
  go_ret
  exact ⟨_, rfl, HC1.out, HG1.out⟩
theorem enters_once : ∀ args w, (callFunc 47 args).run Try.prog w = .ok (.enter 47 args) w := enters_of Try.func47 (by kernel_rfl) rfl

/-- What the draw of an automaton answers. -/
def DrawnD (m g B : Nat) (A : Option Addr) (n c : Nat) (w : World) (e : Ending) (w' : World) : Prop :=
  ∃ (va vn : Value) (bo : Nat) (accs : List Bool) (us : List Value) (rs : List (List Int)) (K : Nat → Nat → Prop), e = .returned (.agg #[va, vn]) ∧ Gr w w' g B A n c bo va vn accs us rs K ∧
    1 ≤ accs.length ∧ accs.length ≤ m ∧ us.length = accs.length ∧ rs.length = accs.length ∧ ∀ r ∈ rs, r.length = 3

set_option maxRecDepth 100000 in
set_option maxHeartbeats 6400000 in
theorem l5Draw_any (m : Nat) (hm1 : 1 ≤ m) (hm : m ≤ 200) (g B : Nat) (A : Option Addr) (n c : Nat) (w : World) (hc : Cur w g B A n c) (hn : n ≤ 1048576) :
    Calls Try.prog 46 #[.pointer (some ⟨g, 0, none⟩), .int .i64 (m : Int)] w (DrawnD m g B A n c w) := by
  have hgl := hc.lt
  obtain ⟨W0, hW0⟩ : ∃ W0, W0 = w.alloc (.cells #[.slice none 0 0, .slice none 0 0] 27) := ⟨_, rfl⟩
  have hwz : W0.heap.size = w.heap.size + 1 := by rw [hW0]; simp
  have HD0 : Hid (DS W0 W0 g B A n c) := Lib.hid (by rw [hW0]; exact ⟨by simp; omega, hc.alloc _, grown_refl _ _⟩)
  have HY : Hid (W0.heap[w.heap.size]? = some (.cells #[.slice none 0 0, .slice none 0 0] 27 (0, 0))) := Lib.hid (by rw [hW0]; exact heap_alloc_new w _)
  have HGw : Hid (w.grownBy W0 (some g)) := Lib.hid (by rw [hW0]; exact World.grownBy_alloc w _ _)
  have HC1 := Lib.hid (fun V k (h1 : 1 ≤ k) (h2 : k ≤ 256) (h : Cur V g B A n c) => l1Below_small g B A n c k V h hn h1 h2)
  have HO := Lib.hid (fun V (h : Cur V g B A n c) => show Calls Try.prog 47 #[.pointer (some ⟨g, 0, none⟩), .int .i64 2] V (OnceM g B A n c V) from l1Once_m g B A n c 2 V h hn (by omega) (by omega))
  have HM := Lib.hid hm1
  obtain ⟨b0, hbi, hb0, hb1, hb2⟩ := info_parts boolInfo
  obtain ⟨i0, hi, hz0, hz1, hz2⟩ := info_parts intInfo
  obtain ⟨r0, hri, hr0, hr1, hr2⟩ := info_parts rowInfo
  have HWZ := Lib.hid hwz
  clear hc hwz
  go_enter Try.func46, Try.ntmps46
  go_wp2_with fail
  rw [← hW0]
  clear hW0
  go_at_call 72
  refine (HC1.out _ m HM.out (by omega) HD0.out.2.1).mono ?_
  rintro e w1 ⟨x, rfl, hx, hc1, hg1⟩
  have HD1 := Lib.hid (HD0.out.call hc1 hg1)
  have HS := Lib.hid (Gr.start HD1.out)
  clear hc1 hg1
  go_wp2_with fail
  go_loopw [7] (fun iv wr => ∃ (i : Nat) (va vn : Value) (accs : List Bool) (us : List Value) (rs : List (List Int)) (K : Nat → Nat → Prop), iv = .int .i64 i ∧ i ≤ 1 + x ∧ accs.length = i ∧ us.length = i ∧ rs.length = i ∧ (∀ r ∈ rs, r.length = 3) ∧ Hid (Gr W0 wr g B A n c w1.heap.size va vn accs us rs K)) (fun iv _ => 1 + x - (intOf iv).toNat)
  case atStart => exact ⟨0, _, _, [], [], [], _, rfl, Nat.zero_le _, rfl, rfl, rfl, by simp, HS⟩
  clear HS
  case round =>
    obtain ⟨i, va, vn, accs, us, rs, K, rfl, hin, hal, hul, hrl, hr3, HG⟩ := hrel
    have HR3 := Lib.hid hr3
    subst hal
    have HUL := Lib.hid hul
    have HRL := Lib.hid hrl
    clear hr3 hul hrl
    by_cases hlt : accs.length < 1 + x
    · have hd : decide ((accs.length : Int) < 1 + (x : Int)) = true := by simp; omega
      have HGd := Lib.hid HG.out.drew
      obtain ⟨e0, -, e2, -⟩ := box2_facts HG.out.out.box
      obtain ⟨e4, -, e6, -⟩ := box2_facts HGd.out.out.box
      obtain ⟨Aa, qa, hva⟩ := (RowO.of_owns HG.out.out.acc (by omega)).row.shape
      rw [bools_length] at hva
      subst hva
      have HOn := Lib.hid (HO.out wr.drew HGd.out.ds.2.1)
      go_upto_region 8 with fail
      go_cut [] from 20 to 26 (fun wc => ∃ va2 b, Hid (Gr W0 wc g B A n c w1.heap.size va2 vn (accs ++ [b]) us rs K))
      case first =>
        go_region_law (first
          | (refine step_call rfl _ _ _ rfl enters_once #[.pointer (some ⟨g, 0, none⟩), .int .i64 2] (by simp [Act.eval, Act.put]) HOn.out ?_; rintro e w2 ⟨b, rfl, hc2, hg2⟩; have HG2 := Lib.hid (HGd.out.call hc2 hg2); obtain ⟨l0, -, l2, -⟩ := box2_facts HG2.out.out.box; have HG2a := Lib.hid (HG2.out.alloc (.cells #[.bool b] 4)); obtain ⟨l4, -, l6, -⟩ := box2_facts HG2a.out.out.box; clear hc2 hg2; refine ⟨_, rfl, ?_⟩)
          | (refine step_append_own_at rfl (.tmp 21) (.tmp 24) 24 rfl W0.heap.size 4 b0 (.bool false) 1 1 Try.underlying24 hbi hb0 hb1 hb2 rfl (by decide) _ _ _ rfl HG2a.out.out.acc ⟨w2.heap.size, 0, none⟩ 1 1 [.bool b] rfl rfl (cell_one_new w2 _ _) (by simp [Value.oneCell']) (by unfold maxLen; omega) (by omega) (by have := HG2.out.ds.2.2.size; simp; omega) ?_; intro v' w9 hown' hgrow hat; obtain ⟨g', cap', rfl⟩ := own_succ hown'; obtain ⟨z1, z2, HQ9⟩ := HG2a.out.acc_push hown' hgrow; obtain ⟨z0, z1⟩ := z1; have HQ9 := Lib.hid HQ9))
        all_goals
          clear hown' hgrow hat z1 z2 l0 l2 l4 l6 e0 e2 e4 e6
          go_wp2_with fail
          go_meet
          exact ⟨_, _, HQ9⟩
      case rest =>
        obtain ⟨va2, b, HG9⟩ := hcut
        clear e0 e2 e4 e6 hd
        have HG1 := Lib.hid HG9.out.one
        go_wp2_with fail
        go_loopw [8, 9] (fun vr kv wq => ∃ (k : Nat) (lr : List Int), kv = .int .i64 k ∧ k ≤ 3 ∧ lr.length = k ∧ Hid (Gr1 W0 wq g B A n c w1.heap.size va2 vn (accs ++ [b]) us rs K vr lr)) (fun _ kv _ => 3 - (intOf kv).toNat)
        case atStart => exact ⟨0, [], rfl, Nat.zero_le _, rfl, HG1⟩
        clear HG1
        case round =>
          obtain ⟨k, lr, rfl, hk, hlr, HQ⟩ := hrel
          subst hlr
          obtain ⟨-, Ar, cr, rfl⟩ := (HQ.out.one.ord.row (by omega)).row.ints_shape
          by_cases hk3 : lr.length < 3
          · have hd : decide ((lr.length : Int) < 3) = true := by simp; omega
            have HCq := Lib.hid (HC1.out wr (1 + x) (by omega) (by omega) HQ.out.ds.2.1)
            rw [show (((1 + x : Nat) : Nat) : Int) = 1 + (x : Int) by omega] at HCq
            go_wp2_with fail
            go_at_call 72
            refine HCq.out.mono ?_
            rintro e w8 ⟨y, rfl, hy, hc8, hg8⟩
            have HQ8 := Lib.hid (HQ.out.call hc8 hg8)
            have hz8 : W0.heap.size ≤ w8.heap.size := HQ8.out.ds.2.2.size
            clear hc8 hg8
            go_wp2_with (at_builtin; refine wpList_append_own_at _ rfl (.tmp 32) (.tmp 36) 73 rfl W0.heap.size 3 i0 (.int .i64 0) 1 8 Try.underlying73 hi hz0 hz1 hz2 rfl (by decide) _ _ _ rfl (HQ8.out.one.ord.alloc _) ⟨w8.heap.size, 0, none⟩ 1 1 [.int .i64 (y : Int)] rfl rfl (cell_one_new _ _ _) (by simp [Value.oneCell']) (by unfold maxLen; omega) (by omega) (by simp; omega) ?_)
            intro v' w9 hown' hgrow hnil hat
            have HQ9 := Lib.hid ((HQ8.out.alloc (.cells #[.int .i64 (y : Int)] 3)).ord_push hown' hgrow (by simpa using hat))
            clear hown' hgrow hnil hat
            go_wp2_with fail
            go_roundw
            case rel => exact ⟨lr.length + 1, _, by go_num, by omega, by simp, HQ9⟩
            case measure => simp [intOf]; omega
          · have hd : decide ((lr.length : Int) < 3) = false := by simp; omega
            have hl3 : lr.length = 3 := by omega
            have HL3 := Lib.hid hl3
            have hul := HUL.out
            have hux : us.length ≤ 200 := by omega
            clear hl3 hul
            obtain ⟨-, e1, -, e3⟩ := box2_facts HQ.out.one.out.box
            have hz8 : W0.heap.size ≤ wr.heap.size := HQ.out.ds.2.2.size
            obtain ⟨An, cn, hvn⟩ := (RowO.of_owns HQ.out.one.out.nxt (by omega)).row.shape
            subst hvn
            go_wp2_with (at_builtin; refine wpList_append_own_at _ rfl (.tmp 39) (.tmp 41) 25 rfl W0.heap.size 73 r0 (.slice none 0 0) 1 24 Try.underlying25 hri hr0 hr1 hr2 rfl (by decide) _ _ _ rfl (HQ.out.one.out.nxt.alloc _) ⟨wr.heap.size, 0, none⟩ 1 1 [.slice Ar lr.length cr] rfl rfl (cell_one_new _ _ _) (by simp [Value.oneCell']) (by unfold maxLen; omega) (by omega) (by simp; omega) ?_)
            intro v' wa hown' hgrow hnil hat
            obtain ⟨gn, capn, rfl⟩ := own_succ hown'
            obtain ⟨⟨z0, z1⟩, z2, HQb⟩ := (HQ.out.alloc (.cells #[.slice Ar lr.length cr] 73)).nxt_push (by omega) (by rw [HUL.out, HRL.out]) hown' hgrow
            have HQb := Lib.hid HQb
            have HR4 : Hid (∀ r ∈ rs ++ [lr], r.length = 3) := Lib.hid (fun r hr => by
              rcases List.mem_append.1 hr with h | h
              · exact HR3.out r h
              · rw [List.mem_singleton.1 h]; exact HL3.out)
            clear hown' hgrow hnil hat
            go_wp2_with fail
            go_roundw
            case rel => exact ⟨accs.length + 1, _, _, accs ++ [b], us ++ [Value.slice Ar lr.length cr], rs ++ [lr], _, by go_num, by omega, by simp, by simp [HUL.out], by simp [HRL.out], HR4.out, HQb⟩
            case measure => simp [intOf]; omega
    · have hd : decide ((accs.length : Int) < 1 + (x : Int)) = false := by simp; omega
      obtain ⟨e0, e1, -, -⟩ := box2_facts HG.out.out.box
      have hyb := (HG.out.ds.2.2.block _ (blk_lt HY.out) (by simp; omega)).trans HY.out
      obtain ⟨c0, c1, k0, k1⟩ := box2_facts hyb
      obtain ⟨hcl, hsz, hot, hBl⟩ := put2 (k := va) (l := vn) c0 c1
      obtain ⟨hc0, hc1⟩ := hcl
      obtain ⟨Aa, qa, hva⟩ := (RowO.of_owns HG.out.out.acc (by omega)).row.shape
      rw [bools_length] at hva
      obtain ⟨An, qn, hvn⟩ := (RowO.of_owns HG.out.out.nxt (by rw [HUL.out]; omega)).row.shape
      subst hva
      subst hvn
      have HOt := Lib.hid (And.intro hsz hot)
      clear hsz hot hBl hyb
      go_wp2_with fail
      refine bodyPost_ret (v := .agg #[.slice Aa accs.length qa, .slice An us.length qn]) (by simp [results, Try.results46, go_sem, hc0, hc1]) rfl ?_
      refine ⟨_, _, w1.heap.size, accs, us, rs, K, rfl, ⟨((HG.out.ds.from HGw.out hgl).set (Nat.le_refl _)).set (Nat.le_refl _), HG.out.out.off (fun q h1 _ => HOt.out.2 q (by have := HWZ.out; omega)) (by rw [HOt.out.1]; exact Nat.le_refl _) (by have := HWZ.out; omega), HG.out.ows.keep (fun j q hk => HOt.out.2 q (by have := HG.out.out.rows.sub j q hk; have := HWZ.out; omega)) (by have := HWZ.out; omega)⟩, by omega, by omega, HUL.out, HRL.out, HR3.out⟩
end Go.Proofs.Ythmfncklepkddaa

/-
  What the model's bent draw of an automaton answers: some automaton in rows of its own, valid or not.
-/
namespace Go.Proofs.Ythmfncklepkddaa
open Go.RowKit

variable {w w' W0 : World} {B : Nat} {bo : Nat} {va vn u0 u1 : Value} {accs : List Bool} {us : List Value} {rs : List (List Int)} {r0 : List Int} {K : Nat → Nat → Prop} {g C : Nat} {A : Option Addr} {n c : Nat}

/-- A number of the first row is written over. -/
theorem Out.poke (h : Out B w bo va vn accs (u0 :: us) (intss (r0 :: rs)) K) (hr0 : 0 < r0.length) : ∃ g0 c0, u0 = .slice (some ⟨g0, 0, none⟩) r0.length c0 ∧ (∃ x, w.cell? ⟨g0, 0, none⟩ = some x) ∧ w.frozen? ⟨g0, 0, none⟩ = false ∧ B ≤ g0 ∧
    ∀ z, Out B (w.setCell ⟨g0, 0, none⟩ (.int .i64 z)) bo va vn accs (u0 :: us) (intss (r0.set 0 z :: rs)) K := by
  have h0 : RowO w (K 0) u0 (ints r0) := h.rows.row 0 u0 (ints r0) rfl rfl
  obtain ⟨A, c, hu⟩ := h0.shape
  rw [hu] at h0
  obtain ⟨g0, rfl, hK, hlt, H⟩ := h0.set (j := 0) (by rw [ints_length]; exact hr0)
  obtain ⟨hc, hf, hs⟩ := H w rfl
  rw [ints_length] at hu
  refine ⟨g0, c, hu, hc, hf, h.rows.sub 0 g0 hK, fun z => ?_⟩
  obtain ⟨cur0, hh0⟩ := h.kint 0 g0 hK
  have far : ∀ (q : Nat), q ≠ g0 → (w.setCell ⟨g0, 0, none⟩ (.int .i64 z)).heap[q]? = w.heap[q]? := fun q hq => Below.heap_setCell _ _ _ q hq
  refine ⟨own_on h.acc (fun q e => far q (fun er => ?_)) (Nat.le_refl _), own_on h.nxt (fun q e => far q (fun er => ?_)) (Nat.le_refl _), ⟨by have := h.rows.len; simpa [intss] using this, fun j u r hu' hr' => ?_, h.rows.sub, fun j q hk => by simpa [World.setCell] using h.rows.lt j q hk, h.rows.sep⟩, fun j q hk => ?_, (far bo (fun er => ?_)).trans h.box, h.low⟩
  · obtain ⟨cur, hh⟩ := blk_of h.acc e
    exact blk_ne hh hh0 (by decide) er
  · obtain ⟨cur, hh⟩ := blk_of h.nxt e
    exact blk_ne hh hh0 (by decide) er
  · cases j with
    | zero =>
      cases hu'
      have e : ints (r0.set 0 z) = (ints r0).set 0 (.int .i64 z) := by simp [ints, List.map_set]
      have hr2 : r = ints (r0.set 0 z) := by simpa [intss] using hr'.symm
      rw [hr2, e]
      have := hs (.int .i64 z)
      rw [ints_length] at this
      rw [hu]
      exact this
    | succ j =>
      have := h.rows.row (j + 1) u r hu' (by simpa [intss] using hr')
      exact this.mono (fun q hq => far q (fun er => by
        subst er
        have := h.rows.sep _ _ _ hq hK
        omega)) (fun _ hq => hq)
  · by_cases hq : q = g0
    · subst hq
      exact ⟨_, heap_setCell_same w q 0 _ _ (.int .i64 z) hh0⟩
    · obtain ⟨cur, hh⟩ := h.kint j q hk
      exact ⟨cur, (far q hq).trans hh⟩
  · exact blk_ne h.box hh0 (by decide) er
/-- The first row has grown by a number. -/
theorem Out.regrow {z : Int} (h : Out B w bo va vn accs (u0 :: us) (intss (r0 :: rs)) K) (hal : accs.length ≤ 9223372036854775807) (hrl : r0.length + 1 ≤ 9223372036854775807) (hul : us.length + 1 ≤ 9223372036854775807) (hk0 : ∀ q, u0.ownBlock = some q → K 0 q) (hown : w'.ownsRow B 3 1 u1 (r0.length + 1) (ints r0 ++ [.int .i64 z])) (hg : w.grownBy w' u0.ownBlock) (hat : u1.ownBlock = u0.ownBlock ∨ u1.ownBlock = some w.heap.size) :
    ∃ gn cn, vn = .slice (some ⟨gn, 0, none⟩) (us.length + 1) cn ∧ (∃ x, w'.cell? ⟨gn, 0, none⟩ = some x) ∧ w'.frozen? ⟨gn, 0, none⟩ = false ∧ B ≤ gn ∧ w'.heap[bo]? = some (.cells #[va, vn] 27 (0, 0)) ∧ (w'.setCell ⟨gn, 0, none⟩ u1).heap[bo]? = some (.cells #[va, vn] 27 (0, 0)) ∧
      DfaO (w'.setCell ⟨gn, 0, none⟩ u1) (fun q => B ≤ q ∧ q < (w'.setCell ⟨gn, 0, none⟩ u1).heap.size) va vn ⟨accs, (r0 ++ [z]) :: rs⟩ := by
  obtain ⟨gn, cn, hvn⟩ := own_succ h.nxt
  have hgn : vn.ownBlock = some gn := by rw [hvn]; simp [Value.ownBlock]
  obtain ⟨curn, hhn⟩ := blk_of h.nxt hgn
  have hn' : w'.heap[gn]? = w.heap[gn]? := hg.block gn (blk_lt hhn) (fun er => by
    obtain ⟨cur, hh⟩ := h.kint 0 gn (hk0 gn er.symm)
    exact blk_ne hhn hh (by decide) rfl)
  have hR : RowO w (fun q => vn.ownBlock = some q) vn (u0 :: us) := RowO.of_owns h.nxt (by simpa using hul)
  have hR0 := hR
  rw [hvn] at hR0
  obtain ⟨gn', e', hS, hlt, H⟩ := hR0.set (j := 0) (by simp)
  cases e'
  obtain ⟨hc, hf, hs⟩ := H w' hn'
  have hs := hs u1
  have hsz : (w'.setCell ⟨gn, 0, none⟩ u1).heap.size = w'.heap.size := by simp [World.setCell]
  have hbx : w'.heap[bo]? = some (.cells #[va, vn] 27 (0, 0)) := (hg.block bo (blk_lt h.box) (fun er => by
    obtain ⟨cur, hh⟩ := h.kint 0 bo (hk0 bo er.symm)
    exact blk_ne h.box hh (by decide) rfl)).trans h.box
  refine ⟨gn, cn, hvn, hc, hf, (h.nxt.lt gn hgn).1, hbx, (Below.heap_setCell _ _ _ bo (fun er => blk_ne h.box hhn (by decide) er)).trans hbx, ?_⟩
  have far : ∀ (q : Nat), q < w.heap.size → u0.ownBlock ≠ some q → q ≠ gn → (w'.setCell ⟨gn, 0, none⟩ u1).heap[q]? = w.heap[q]? := fun q hq h1 h2 => (Below.heap_setCell _ _ _ q h2).trans (hg.block q hq (fun er => h1 er.symm))
  have kint : ∀ j q, K j q → q ≠ gn := fun j q hk er => by
    obtain ⟨cur, hh⟩ := h.kint j q hk
    exact blk_ne hh hhn (by decide) er
  have own1 : ∀ q, u1.ownBlock = some q → q ≠ gn := fun q hq er => by
    obtain ⟨cur, hh⟩ := blk_of hown hq
    exact blk_ne hh (hn'.trans hhn) (by decide) er
  have own1k : ∀ q, u1.ownBlock = some q → ∀ j, K j q → j = 0 := fun q hq j hk => by
    rcases hat with a | a
    · exact h.rows.sep j 0 q hk (hk0 q (a.symm.trans hq))
    · rw [a] at hq
      cases hq
      have := h.rows.lt j _ hk
      omega
  have acc1 : ∀ q, va.ownBlock = some q → q < w.heap.size ∧ u0.ownBlock ≠ some q ∧ q ≠ gn ∧ u1.ownBlock ≠ some q ∧ ∀ j, ¬ K j q := fun q hq => by
    obtain ⟨cur, hh⟩ := blk_of h.acc hq
    have hlt := blk_lt hh
    have hka : ∀ j, ¬ K j q := fun j hk => by
      obtain ⟨cur', hh'⟩ := h.kint j q hk
      exact blk_ne hh hh' (by decide) rfl
    refine ⟨hlt, fun er => hka 0 (hk0 q er), fun er => blk_ne hh hhn (by decide) er, fun er => ?_, hka⟩
    rcases hat with a | a
    · exact hka 0 (hk0 q (a.symm.trans er))
    · rw [a] at er
      cases er
      omega
  refine ⟨fun q => va.ownBlock = some q, fun q => B ≤ q ∧ q < w'.heap.size ∧ va.ownBlock ≠ some q, ?_, ⟨u1 :: us, fun q => vn.ownBlock = some q, fun j q => if j = 0 then u1.ownBlock = some q else K j q, ?_, ⟨?_, fun j u r hu hr => ?_, fun j q hk => ?_, fun j q hk => ?_, fun i j q hi hj => ?_⟩, fun q hq => ?_⟩, fun q hq => ⟨⟨(h.acc.lt q hq).1, by rw [hsz]; exact Nat.lt_of_lt_of_le (h.acc.lt q hq).2 hg.size⟩, fun h2 => h2.2.2 hq⟩, fun q hq => ⟨hq.1, by rw [hsz]; exact hq.2.1⟩⟩
  · refine RowO.mono (RowO.of_owns h.acc hal) (fun q hq => ?_) (fun _ hq => hq)
    obtain ⟨a1, a2, a3, -, -⟩ := acc1 q hq
    exact far q a1 a2 a3
  · rw [hvn]
    simpa [hgn] using hs
  · have := h.rows.len
    simpa [intss] using this
  · cases j with
    | zero =>
      cases hu
      have hr2 : r = ints r0 ++ [.int .i64 z] := by
        have : r = ints (r0 ++ [z]) := by simpa [intss] using hr.symm
        rw [this, ints_snoc]
      rw [hr2]
      exact (RowO.of_owns hown (by omega)).mono (fun q hq => Below.heap_setCell _ _ _ q (own1 q hq)) (fun q hq => by simpa using hq)
    | succ j =>
      have := h.rows.row (j + 1) u r hu (by simpa [intss] using hr)
      exact this.mono (fun q hq => far q (h.rows.lt _ q hq) (fun er => by
        have := h.rows.sep _ _ _ hq (hk0 q er)
        omega) (kint _ q hq)) (fun q hq => by simpa using hq)
  · by_cases hj : j = 0
    · subst hj
      simp only [if_true] at hk
      refine ⟨(hown.lt q hk).1, (hown.lt q hk).2, fun er => (acc1 q er).2.2.2.1 hk⟩
    · simp only [hj, if_false] at hk
      exact ⟨h.rows.sub j q hk, Nat.lt_of_lt_of_le (h.rows.lt j q hk) hg.size, fun er => (acc1 q er).2.2.2.2 j hk⟩
  · rw [hsz]
    by_cases hj : j = 0
    · subst hj
      simp only [if_true] at hk
      exact (hown.lt q hk).2
    · simp only [hj, if_false] at hk
      exact Nat.lt_of_lt_of_le (h.rows.lt j q hk) hg.size
  · by_cases h1 : i = 0 <;> by_cases h2 : j = 0 <;> simp only [h1, h2, if_true, if_false] at hi hj
    · omega
    · exact absurd (own1k q hi j hj) h2
    · exact absurd (own1k q hj i hi) h1
    · exact h.rows.sep i j q hi hj
  · rw [hgn] at hq
    cases hq
    refine ⟨⟨(h.nxt.lt gn hgn).1, Nat.lt_of_lt_of_le (h.nxt.lt gn hgn).2 hg.size, fun er => (acc1 gn er).2.2.1 rfl⟩, fun j hk => ?_⟩
    by_cases hj : j = 0
    · subst hj
      simp only [if_true] at hk
      exact own1 gn hk rfl
    · simp only [hj, if_false] at hk
      exact kint j gn hk rfl
theorem Gr.dfa (h : Gr W0 w g C A n c bo va vn accs us rs K) (hl1 : accs.length ≤ 9223372036854775807) (hl2 : us.length ≤ 9223372036854775807) : DfaO w (fun q => W0.heap.size ≤ q ∧ q < w.heap.size) va vn ⟨accs, rs⟩ := h.out.whole rfl rfl hl1 hl2
/-- The automaton lies in another box. -/
theorem Gr.move (h : Gr W0 w g C A n c bo va vn accs us rs K) : Gr W0 (w.alloc (.cells #[va, vn] 27)) g C A n c w.heap.size va vn accs us rs K := by
  have h1 := h.alloc (.cells #[va, vn] 27)
  exact ⟨h1.ds, ⟨h1.out.acc, h1.out.nxt, h1.out.rows, h1.out.kint, heap_alloc_new w _, h.ds.2.2.size⟩, h1.ows⟩

/-- What the bent draw answers. -/
def BentD (g C : Nat) (A : Option Addr) (n c : Nat) (w : World) (e : Ending) (w' : World) : Prop :=
  ∃ (va vn : Value) (d : Dx), e = .returned (.agg #[va, vn]) ∧ DfaO w' (OwnB w w') va vn d ∧ d.acc.length ≤ 6 ∧ Cur w' g C A n c ∧ w.grownBy w' (some g)
theorem BentD.drew {e : Ending} (h : BentD g C A n c w e w') : BentD g C A n c w e w'.drew := by
  obtain ⟨va, vn, d, h1, h2, h3, h4, h5⟩ := h
  exact ⟨va, vn, d, h1, h2.mono (fun _ _ => rfl) (fun _ h => h) (Nat.le_refl _), h3, h4, h5.os, h5.tape, h5.output, h5.size, h5.block⟩
theorem bentd_end {x0 x1 : Value} {d : Dx} (hds : DS W0 w' g C A n c) (hw : w.grownBy W0 (some g)) (hgl : g < w.heap.size) (hz : W0.heap.size = w.heap.size + 1) (hY : W0.heap[w.heap.size]? = some (.cells #[x0, x1] 27 (0, 0)))
    (hd : DfaO w' (fun q => W0.heap.size ≤ q ∧ q < w'.heap.size) va vn d) (hl : d.acc.length ≤ 6) :
    ((∃ x, w'.cell? ⟨w.heap.size, 0, none⟩ = some x) ∧ (∃ x, w'.cell? ⟨w.heap.size, 1, none⟩ = some x) ∧ w'.frozen? ⟨w.heap.size, 0, none⟩ = false ∧ w'.frozen? ⟨w.heap.size, 1, none⟩ = false) ∧
    let W6 := (w'.setCell ⟨w.heap.size, 0, none⟩ va).setCell ⟨w.heap.size, 1, none⟩ vn
    (W6.cell? ⟨w.heap.size, 0, none⟩ = some va ∧ W6.cell? ⟨w.heap.size, 1, none⟩ = some vn) ∧ BentD g C A n c w (.returned (.agg #[va, vn])) W6 := by
  have hyb := (hds.2.2.block _ (blk_lt hY) (by simp; omega)).trans hY
  obtain ⟨c0, c1, k0, k1⟩ := box2_facts hyb
  obtain ⟨hcl, hsz, hot, hBl⟩ := put2 (k := va) (l := vn) c0 c1
  refine ⟨⟨⟨_, c0⟩, ⟨_, c1⟩, k0, k1⟩, hcl, va, vn, d, rfl, hd.mono (fun q hq => hot q (by have := hq.1; omega)) (fun q hq => ⟨by have := hq.1; omega, by rw [hsz]; exact hq.2⟩) (by rw [hsz]; exact Nat.le_refl _), hl, ?_⟩
  have h2 := ((hds.from hw hgl).set (r := w.heap.size) (o := 0) (u := va) (Nat.le_refl _)).set (r := w.heap.size) (o := 1) (u := vn) (Nat.le_refl _)
  exact ⟨h2.2.1, h2.2.2⟩

set_option maxRecDepth 100000 in
set_option maxHeartbeats 6400000 in
theorem l5Bent_any (g B : Nat) (A : Option Addr) (n c : Nat) (w : World) (hc : Cur w g B A n c) (hn : n ≤ 1048576) :
    Calls Try.prog 48 #[.pointer (some ⟨g, 0, none⟩)] w (BentD g B A n c w) := by
  have hgl := hc.lt
  obtain ⟨W0, hW0⟩ : ∃ W0, W0 = w.alloc (.cells #[.slice none 0 0, .slice none 0 0] 27) := ⟨_, rfl⟩
  have HWZ : Hid (W0.heap.size = w.heap.size + 1) := Lib.hid (by rw [hW0]; simp)
  have HD0 : Hid (DS W0 W0 g B A n c) := Lib.hid (by rw [hW0]; exact ⟨by simp; omega, hc.alloc _, grown_refl _ _⟩)
  have HY : Hid (W0.heap[w.heap.size]? = some (.cells #[.slice none 0 0, .slice none 0 0] 27 (0, 0))) := Lib.hid (by rw [hW0]; exact heap_alloc_new w _)
  have HGw : Hid (w.grownBy W0 (some g)) := Lib.hid (by rw [hW0]; exact World.grownBy_alloc w _ _)
  have HC := Lib.hid (show Calls Try.prog 46 #[.pointer (some ⟨g, 0, none⟩), .int .i64 5] W0 (DrawnD 5 g B A n c W0) from l5Draw_any 5 (by omega) (by omega) g B A n c W0 HD0.out.2.1 hn)
  have HC1 := Lib.hid (fun V (h : Cur V g B A n c) => (show Calls Try.prog 72 #[.pointer (some ⟨g, 0, none⟩), .int .i64 12] V (BelowPost 12 g B A n c V) from l1Below_small g B A n c 12 V h hn (by omega) (by omega)))
  obtain ⟨b0, hbi, hb0, hb1, hb2⟩ := info_parts boolInfo
  obtain ⟨i0, hi, hz0, hz1, hz2⟩ := info_parts intInfo
  clear hc
  go_enter Try.func48, Try.ntmps48
  go_wp2_with fail
  rw [← hW0]
  clear hW0
  go_at_call 46
  refine HC.out.mono ?_
  rintro e w1 ⟨va, vn, bo, accs, us, rs, K, rfl, hG, hl1, hl2, hul, hrl, hr3⟩
  have HG1 := Lib.hid hG.move
  obtain ⟨Aa, qa, hva⟩ := (RowO.of_owns hG.out.acc (by omega)).row.shape
  rw [bools_length] at hva
  obtain ⟨u0, us, rfl⟩ : ∃ u0 us', us = u0 :: us' := by
    cases us with
    | nil => simp at hul; omega
    | cons a b => exact ⟨a, b, rfl⟩
  obtain ⟨r0, rs, rfl⟩ : ∃ r0 rs', rs = r0 :: rs' := by
    cases rs with
    | nil => simp at hrl; omega
    | cons a b => exact ⟨a, b, rfl⟩
  obtain ⟨gn, cn, hvn⟩ := own_succ hG.out.nxt
  subst hva
  subst hvn
  have hr0 : r0.length = 3 := hr3 r0 (by simp)
  have HR0 := Lib.hid hr0
  have hull : us.length + 1 ≤ 5 := by simp at hul; omega
  clear hG hr3 hr0 hul hrl
  go_wp2_with fail
  go_at_call 72
  refine (HC1.out _ HG1.out.ds.2.1).mono ?_
  rintro e w3 ⟨y, rfl, hy, hc3, hg3⟩
  have HG := Lib.hid (HG1.out.call hc3 hg3)
  clear hc3 hg3
  by_cases h0 : y = 0
  · subst h0
    obtain ⟨g0, c0, hu0, ⟨z0, z1⟩, z2, hBg, hpk⟩ := HG.out.out.poke (by rw [HR0.out]; omega)
    rw [HR0.out] at hu0
    subst hu0
    obtain ⟨e0, e1, -, -⟩ := box2_facts HG.out.out.box
    obtain ⟨adn, hadn, -, n0⟩ := (RowO.of_owns HG.out.out.nxt (by simp; omega)).row.at (j := 0) (by simp)
    cases hadn
    have n1 : w3.cell? ⟨gn, 0, none⟩ = some (.slice (some ⟨g0, 0, none⟩) 3 c0) := n0
    clear n0
    have HP := Lib.hid (hpk (accs.length : Int))
    have HDs := Lib.hid (HG.out.ds.set (r := g0) (o := 0) (u := .int .i64 (accs.length : Int)) hBg)
    have HF := Lib.hid (bentd_end HDs.out HGw.out hgl HWZ.out HY.out (HP.out.whole (d := ⟨accs, r0.set 0 (accs.length : Int) :: rs⟩) rfl rfl (by omega) (by simp; omega)) (by show accs.length ≤ 6; omega))
    obtain ⟨p0, p1, -, -⟩ := box2_facts HP.out.box
    obtain ⟨⟨⟨x0, k0⟩, ⟨x1, k1⟩, k2, k3⟩, -⟩ := HF.out
    have s1 : (0 : Int) < (us.length : Int) + 1 := by omega
    clear hpk
    go_wp2_with fail
    go_region
    all_goals
      go_wp2_with fail
      obtain ⟨-, ⟨hc0, hc1⟩, hP⟩ := HF.out
      exact bodyPost_ret (v := .agg #[.slice Aa accs.length qa, .slice (some ⟨gn, 0, none⟩) (us.length + 1) cn]) (by simp [results, Try.results48, go_sem, hc0, hc1]) rfl hP.drew
  by_cases h1 : y = 1
  · subst h1
    obtain ⟨e0, -, e2, -⟩ := box2_facts HG.out.out.box
    have hz3 : W0.heap.size ≤ w3.heap.size := HG.out.ds.2.2.size
    go_wp2_with (at_builtin; refine wpList_append_own_at _ rfl (.tmp 21) (.tmp 22) 24 rfl W0.heap.size 4 b0 (.bool false) 1 1 Try.underlying24 hbi hb0 hb1 hb2 rfl (by decide) _ _ _ rfl (HG.out.out.acc.alloc _) ⟨w3.heap.size, 0, none⟩ 1 1 [.bool true] rfl rfl (cell_one_new _ _ _) (by simp [Value.oneCell']) (by unfold maxLen; omega) (by omega) (by simp; omega) ?_)
    intro v' w9 hown' hgrow hnil hat
    obtain ⟨g', cap', rfl⟩ := own_succ hown'
    obtain ⟨⟨z0, z1⟩, z2, HQ9⟩ := (HG.out.alloc (.cells #[.bool true] 4)).acc_push hown' hgrow
    have HF := Lib.hid (bentd_end HQ9.ds HGw.out hgl HWZ.out HY.out (HQ9.dfa (by simp; omega) (by simp; omega)) (by simp; omega))
    obtain ⟨p0, p1, -, -⟩ := box2_facts HQ9.out.box
    obtain ⟨⟨⟨x0, k0⟩, ⟨x1, k1⟩, k2, k3⟩, -⟩ := HF.out
    clear hown' hgrow hnil hat HQ9
    go_wp2_with fail
    obtain ⟨-, ⟨hc0, hc1⟩, hP⟩ := HF.out
    exact bodyPost_ret (v := .agg #[.slice (some ⟨g', 0, none⟩) (accs.length + 1) cap', .slice (some ⟨gn, 0, none⟩) (us.length + 1) cn]) (by simp [results, Try.results48, go_sem, hc0, hc1]) rfl hP
  by_cases h2 : y = 2
  · subst h2
    obtain ⟨e0, e1, -, -⟩ := box2_facts HG.out.out.box
    obtain ⟨adn, hadn, -, n0⟩ := (RowO.of_owns HG.out.out.nxt (by simp; omega)).row.at (j := 0) (by simp)
    cases hadn
    have n1 : w3.cell? ⟨gn, 0, none⟩ = some u0 := n0
    clear n0
    obtain ⟨hir, hk0⟩ := HG.out.ows 0 u0 r0 rfl rfl
    obtain ⟨-, A0, c0, rfl⟩ := (hir.row (by rw [HR0.out]; omega)).row.ints_shape
    rw [HR0.out] at n1
    have n2 := (((Below.refl w3.heap.size w3).alloc (Nat.le_refl _) (.cells #[.int .i64 0] 3)).cell (cell_in n1)).trans n1
    obtain ⟨y0, y1, -, -⟩ := box2_facts (HG.out.alloc (.cells #[.int .i64 0] 3)).out.box
    have HGa := Lib.hid ((HG.out.alloc (.cells #[.int .i64 0] 3)).drew)
    have hira := (HGa.out.ows 0 _ r0 rfl rfl).1
    unfold IR at hira
    rw [HR0.out] at hira
    have HIR := Lib.hid hira
    have HK0 := Lib.hid hk0
    have s1 : (0 : Int) < (us.length : Int) + 1 := by omega
    have hz3 : W0.heap.size ≤ w3.heap.size := HG.out.ds.2.2.size
    have HRG := Lib.hid (fun (V : World) (v' : Value) (ho : V.ownsRow W0.heap.size 3 1 v' (3 + 1) (ints r0 ++ [.int .i64 0])) (hg : ((w3.alloc (.cells #[.int .i64 0] 3)).drew).grownBy V (Value.slice A0 3 c0).ownBlock) (hat : v'.ownBlock = (Value.slice A0 3 c0).ownBlock ∨ v'.ownBlock = some ((w3.alloc (.cells #[.int .i64 0] 3)).drew).heap.size) => HGa.out.out.regrow (u1 := v') (z := 0) (by omega) (by rw [HR0.out]; omega) (by omega) HK0.out (by rw [HR0.out]; exact ho) (by rw [HR0.out]; exact hg) (by rw [HR0.out]; exact hat))
    have HDA := Lib.hid (fun (V : World) (v' : Value) (gx : Nat) (hx : W0.heap.size ≤ gx) (hg : ((w3.alloc (.cells #[.int .i64 0] 3)).drew).grownBy V (Value.slice A0 3 c0).ownBlock) => ((HGa.out.ds.app hg (fun q e => (HIR.out.lt q e).1)).set (r := gx) (o := 0) (u := v') hx))
    clear hir hira hk0
    go_wp2_with fail
    go_region_law (refine step_append_own_at rfl (.tmp 32) (.tmp 33) 73 rfl W0.heap.size 3 i0 (.int .i64 0) 1 8 Try.underlying73 hi hz0 hz1 hz2 rfl (by decide) _ _ _ rfl HIR.out ⟨w3.heap.size, 0, none⟩ 1 1 [.int .i64 0] rfl rfl (cell_one_new w3 _ _) (by simp [Value.oneCell']) (by unfold maxLen; omega) (by omega) (by simp; omega) ?_; intro v' w9 hown' hgrow hat; obtain ⟨g', cap', rfl⟩ := own_succ hown'; obtain ⟨gn', cn', e', ⟨z0, z1⟩, z2, hgn, hbx0, hbx, hD⟩ := HRG.out _ _ hown' hgrow hat; cases e'; have HF := Lib.hid (bentd_end (HDA.out _ (.slice (some ⟨g', 0, none⟩) (3 + 1) cap') _ hgn hgrow) HGw.out hgl HWZ.out HY.out hD (by show accs.length ≤ 6; omega)); obtain ⟨p0, p1, -, -⟩ := box2_facts hbx; obtain ⟨t0, t1, -, -⟩ := box2_facts hbx0; clear hbx0; obtain ⟨⟨⟨x0, k0⟩, ⟨x1, k1⟩, k2, k3⟩, -⟩ := HF.out; clear hD hbx hown' hgrow hat)
    all_goals
      go_wp2_with fail
      obtain ⟨-, ⟨hc0, hc1⟩, hP⟩ := HF.out
      exact bodyPost_ret (v := .agg #[.slice Aa accs.length qa, .slice (some ⟨gn, 0, none⟩) (us.length + 1) cn]) (by simp [results, Try.results48, go_sem, hc0, hc1]) rfl hP
  · have HF := Lib.hid (bentd_end HG.out.ds HGw.out hgl HWZ.out HY.out (HG.out.dfa (by omega) (by simp; omega)) (by show accs.length ≤ 6; omega))
    obtain ⟨p0, p1, -, -⟩ := box2_facts HG.out.out.box
    obtain ⟨⟨⟨x0, k0⟩, ⟨x1, k1⟩, k2, k3⟩, -⟩ := HF.out
    have d0 : ((y : Int) == 0) = false := by simp; omega
    have d1 : ((y : Int) == 1) = false := by simp; omega
    have d2 : ((y : Int) == 2) = false := by simp; omega
    go_wp2_with fail
    obtain ⟨-, ⟨hc0, hc1⟩, hP⟩ := HF.out
    exact bodyPost_ret (v := .agg #[.slice Aa accs.length qa, .slice (some ⟨gn, 0, none⟩) (us.length + 1) cn]) (by simp [results, Try.results48, go_sem, hc0, hc1]) rfl hP
end Go.Proofs.Ythmfncklepkddaa

/-
  What the model's picks of a number answer: an element of the list; the cursor's block alone has turned.
-/
namespace Go.Proofs.Ythmfncklepkddaa
open Go.RowKit

def l1PickIntPost (ps : List Int) (g B : Nat) (A : Option Addr) (n c : Nat) (w : World) (e : Ending) (w' : World) : Prop :=
  ∃ p ∈ ps, e = .returned (.int .i64 p) ∧ Cur w' g B A n c ∧ w.grownBy w' (some g)

set_option maxRecDepth 100000 in
set_option maxHeartbeats 800000 in
theorem l1PickInt_any (g B gl : Nat) (A : Option Addr) (n c m : Nat) (ps : List Int) (w : World) (hc : Cur w g B A n c) (hn : n ≤ 1048576) (h1 : 1 ≤ m) (h2 : m ≤ 256) (hm : ps.length = m) (hne : gl ≠ g)
    (hl : w.heap[gl]? = some (.cells (ps.map fun p => .int .i64 p).toArray 3 (0, 0))) :
    Calls Try.prog 62 #[.pointer (some ⟨g, 0, none⟩), .slice (some ⟨gl, 0, none⟩) m m] w (l1PickIntPost ps g B A n c w) := by
  have HC := Lib.hid (l1Below_small g B A n c m w hc hn h1 h2)
  have HL := Lib.hid hl
  have HM := Lib.hid hm
  clear hc hl hm
  go_enter Try.func62, Try.ntmps62
  go_wp2_with (go_at_call 72; refine HC.out.mono ?_; rintro e w1 ⟨x, rfl, hx, hcur, hgr⟩; obtain ⟨p, hp⟩ : ∃ p, ps[x]? = some p := ⟨_, List.getElem?_eq_getElem (by rw [HM.out]; exact hx)⟩; have hcell : w1.cell? ⟨gl, x, none⟩ = some (.int .i64 p) := pick_cell hgr hne HL.out (by rw [List.getElem?_map, hp]; rfl); have HP := Lib.hid hp; clear hp)
  go_ret
  exact ⟨p, List.mem_of_getElem? HP.out, rfl, hcur, hgr⟩

end Go.Proofs.Ythmfncklepkddaa

/-
  Automata that can be read, as a law's draws answer them; two drawn automata and a kind; nothing old has turned.
-/
namespace Go.Proofs.Ythmfncklepkddaa
open Go.RowKit

def AnyB (_ : Nat) : Prop := True
def AnyD (w : World) (e : Ending) (w' : World) : Prop := ∃ va vn d, e = .returned (.agg #[va, vn]) ∧ DfaV w' AnyB va vn d ∧ Below w.heap.size w w'
def AnyR (w : World) (e : Ending) (w' : World) : Prop := ∃ va vn d z p, e = .returned (.tuple #[.agg #[va, vn], .int .i64 z, .string p]) ∧ DfaV w' AnyB va vn d ∧ p.size ≤ 31 ∧ Below w.heap.size w w'
def AnyP (w : World) (e : Ending) (w' : World) : Prop := ∃ va vn d vb vm d' z, e = .returned (.tuple #[.agg #[va, vn], .agg #[vb, vm], .int .i64 z]) ∧ DfaV w' AnyB va vn d ∧ DfaV w' AnyB vb vm d' ∧ Below w.heap.size w w'

/-- Blocks that lie behind w. -/
def FromB (w : World) (q : Nat) : Prop := w.heap.size ≤ q
def AnyF (w : World) (e : Ending) (w' : World) : Prop := ∃ va vn d vb vm d' z, e = .returned (.tuple #[.agg #[va, vn], .agg #[vb, vm], .int .i64 z]) ∧ DfaV w' (FromB w) va vn d ∧ DfaV w' (FromB w) vb vm d' ∧ Below w.heap.size w w'

variable {w w' W0 : World} {g C : Nat} {A : Option Addr} {n c : Nat} {va vn : Value} {d : Dx}
/-- Over what turns the cursor's block alone. -/
theorem dfa_call {S : Nat → Prop} (h : DfaV w S va vn d) (hS : ∀ q, S q → q < w.heap.size ∧ q ≠ g) (hg : w.grownBy w' (some g)) : DfaV w' S va vn d :=
  h.mono (fun q hq => hg.block q (hS q hq).1 (fun e => by cases e; exact (hS g hq).2 rfl)) (fun _ h => h)
theorem dfa_off {S : Nat → Prop} (h : DfaV w S va vn d) {r o : Nat} {u : Value} (hS : ∀ q, S q → q ≠ r) : DfaV (w.setCell ⟨r, o, none⟩ u) S va vn d :=
  h.mono (fun q hq => Below.heap_setCell _ _ _ q (hS q hq)) (fun _ h => h)
/-- A result's box, and its end. -/
theorem one_end {x0 x1 : Value} {S : Nat → Prop} (hb : Below W0.heap.size W0 w') (hw : W0 = w.alloc (.cells #[x0, x1] 27)) (hd : DfaV w' S va vn d) (hS : ∀ q, S q → q ≠ w.heap.size) :
    ((∃ x, w'.cell? ⟨w.heap.size, 0, none⟩ = some x) ∧ (∃ x, w'.cell? ⟨w.heap.size, 1, none⟩ = some x) ∧ w'.frozen? ⟨w.heap.size, 0, none⟩ = false ∧ w'.frozen? ⟨w.heap.size, 1, none⟩ = false) ∧
    let W6 := (w'.setCell ⟨w.heap.size, 0, none⟩ va).setCell ⟨w.heap.size, 1, none⟩ vn
    (W6.cell? ⟨w.heap.size, 0, none⟩ = some va ∧ W6.cell? ⟨w.heap.size, 1, none⟩ = some vn) ∧ DfaV W6 AnyB va vn d ∧ Below w.heap.size w W6 := by
  have hyb : w'.heap[w.heap.size]? = some (.cells #[x0, x1] 27 (0, 0)) := (hb.block _ (by rw [hw]; simp)).trans (by rw [hw]; exact heap_alloc_new w _)
  obtain ⟨c0, c1, k0, k1⟩ := box2_facts hyb
  obtain ⟨hcl, hsz, hot, hBl⟩ := put2 (k := va) (l := vn) c0 c1
  have hb0 : Below w.heap.size w w' := by
    have h1 : Below w.heap.size w W0 := by rw [hw]; exact (Below.refl _ _).alloc (Nat.le_refl _) _
    exact h1.trans (hb.mono h1.size)
  exact ⟨⟨⟨_, c0⟩, ⟨_, c1⟩, k0, k1⟩, hcl, hd.mono (fun q hq => hot q (hS q hq)) (fun _ _ => trivial), hBl _ _ hb0 (Nat.le_refl _)⟩

theorem enters_pickInt : ∀ args w, (callFunc 62 args).run Try.prog w = .ok (.enter 62 args) w := enters_of Try.func62 (by kernel_rfl) rfl
theorem two_end {S S' : Nat → Prop} {vb vm : Value} {d' : Dx} (hb : Below W0.heap.size W0 w') (hw : W0 = (w.alloc (.cells #[.slice none 0 0, .slice none 0 0] 27)).alloc (.cells #[.slice none 0 0, .slice none 0 0] 27)) (hd : DfaV w' S va vn d) (hS : ∀ q, S q → W0.heap.size ≤ q) (hd' : DfaV w' S' vb vm d') (hS' : ∀ q, S' q → W0.heap.size ≤ q) :
    ((∃ x, w'.cell? ⟨w.heap.size, 0, none⟩ = some x) ∧ (∃ x, w'.cell? ⟨w.heap.size, 1, none⟩ = some x) ∧ w'.frozen? ⟨w.heap.size, 0, none⟩ = false ∧ w'.frozen? ⟨w.heap.size, 1, none⟩ = false) ∧
    ((∃ x, w'.cell? ⟨w.heap.size + 1, 0, none⟩ = some x) ∧ (∃ x, w'.cell? ⟨w.heap.size + 1, 1, none⟩ = some x) ∧ w'.frozen? ⟨w.heap.size + 1, 0, none⟩ = false ∧ w'.frozen? ⟨w.heap.size + 1, 1, none⟩ = false) ∧
    let W6 := (((w'.setCell ⟨w.heap.size, 0, none⟩ va).setCell ⟨w.heap.size, 1, none⟩ vn).setCell ⟨w.heap.size + 1, 0, none⟩ vb).setCell ⟨w.heap.size + 1, 1, none⟩ vm
    (W6.cell? ⟨w.heap.size, 0, none⟩ = some va ∧ W6.cell? ⟨w.heap.size, 1, none⟩ = some vn) ∧ (W6.cell? ⟨w.heap.size + 1, 0, none⟩ = some vb ∧ W6.cell? ⟨w.heap.size + 1, 1, none⟩ = some vm) ∧ DfaV W6 (FromB w) va vn d ∧ DfaV W6 (FromB w) vb vm d' ∧ Below w.heap.size w W6 := by
  have hz0 : W0.heap.size = w.heap.size + 2 := by rw [hw]; simp
  have hy0 : W0.heap[w.heap.size]? = some (.cells #[.slice none 0 0, .slice none 0 0] 27 (0, 0)) := by
    rw [hw]
    exact (Below.heap_alloc _ _ _ (by simp)).trans (heap_alloc_new w _)
  have hy1 : W0.heap[w.heap.size + 1]? = some (.cells #[.slice none 0 0, .slice none 0 0] 27 (0, 0)) := by
    rw [hw]
    exact three2 w _ _ _ _
  have hx0 := (hb.block _ (by omega)).trans hy0
  have hx1 := (hb.block _ (by omega)).trans hy1
  obtain ⟨c0, c1, k0, k1⟩ := box2_facts hx0
  obtain ⟨c2, c3, k2, k3⟩ := box2_facts hx1
  obtain ⟨hcl, hsz, hot, hBl⟩ := put2 (k := va) (l := vn) c0 c1
  have c4 := (World.cell?_of_block (a := ⟨w.heap.size + 1, 0, none⟩) (hot (w.heap.size + 1) (by omega))).trans c2
  have c5 := (World.cell?_of_block (a := ⟨w.heap.size + 1, 1, none⟩) (hot (w.heap.size + 1) (by omega))).trans c3
  obtain ⟨hcl2, hsz2, hot2, hBl2⟩ := put2 (k := vb) (l := vm) c4 c5
  have hb0 : Below w.heap.size w w' := by
    have h1 : Below w.heap.size w W0 := by rw [hw]; exact ((Below.refl _ _).alloc (Nat.le_refl _) _).alloc (by simp) _
    exact h1.trans (hb.mono h1.size)
  refine ⟨⟨⟨_, c0⟩, ⟨_, c1⟩, k0, k1⟩, ⟨⟨_, c2⟩, ⟨_, c3⟩, k2, k3⟩, ⟨?_, ?_⟩, hcl2, hd.mono (fun q hq => (hot2 q (by have := hS q hq; omega)).trans (hot q (by have := hS q hq; omega))) (fun q hq => by have := hS q hq; show w.heap.size ≤ q; omega), hd'.mono (fun q hq => (hot2 q (by have := hS' q hq; omega)).trans (hot q (by have := hS' q hq; omega))) (fun q hq => by have := hS' q hq; show w.heap.size ≤ q; omega), hBl2 _ _ (hBl _ _ hb0 (Nat.le_refl _)) (by omega)⟩
  · exact (World.cell?_of_block (a := ⟨w.heap.size, 0, none⟩) (hot2 w.heap.size (by omega))).trans hcl.1
  · exact (World.cell?_of_block (a := ⟨w.heap.size, 1, none⟩) (hot2 w.heap.size (by omega))).trans hcl.2

def kinds : List Int := [6, 7, 6, 7, 9]

set_option maxRecDepth 100000 in
set_option maxHeartbeats 6400000 in
theorem drawProF_any (A : Option Addr) (n c : Nat) (w : World) (h : BL w w.heap.size A n) (hn : n ≤ 1048576) :
    Calls Try.prog 22 #[.slice A n c] w (AnyF w) := by
  obtain ⟨W0, hW0⟩ : ∃ W0, W0 = (w.alloc (.cells #[.slice none 0 0, .slice none 0 0] 27)).alloc (.cells #[.slice none 0 0, .slice none 0 0] 27) := ⟨_, rfl⟩
  have hb0 : Below w.heap.size w W0 := by rw [hW0]; exact ((Below.refl w.heap.size w).alloc (Nat.le_refl _) _).alloc (by simp) _
  have HN := Lib.hid (l1New_any A n c W0 ((h.below hb0).more hb0.size) hn)
  have HW0 := Lib.hid hW0
  clear h hb0
  go_enter Try.func22, Try.ntmps22
  go_wp2_with fail
  rw [← hW0]
  clear hW0
  go_at_call 45
  refine HN.out.mono ?_
  rintro e w1 ⟨g, rfl, hc1, hb1⟩
  have HC1 := Lib.hid hc1
  have HB1 := Lib.hid hb1
  have HDr := Lib.hid (fun V (h : Cur V g W0.heap.size A n c) => (show Calls Try.prog 46 #[.pointer (some ⟨g, 0, none⟩), .int .i64 4] V (DrawnD 4 g W0.heap.size A n c V) from l5Draw_any 4 (by omega) (by omega) g W0.heap.size A n c V h hn))
  have HOn := Lib.hid (fun V (h : Cur V g W0.heap.size A n c) => (show Calls Try.prog 47 #[.pointer (some ⟨g, 0, none⟩), .int .i64 12] V (OnceM g W0.heap.size A n c V) from l1Once_m g W0.heap.size A n c 12 V h hn (by omega) (by omega)))
  clear hc1 hb1
  go_wp2_with fail
  go_at_call 46
  refine (HDr.out _ HC1.out).mono ?_
  rintro e w2 ⟨va, vn, bo, accs, us, rs, K, rfl, hG, hl1, hl2, hul, hrl, -⟩
  have hd2 := (hG.dfa (by omega) (by omega)).dfa
  obtain ⟨d, hde⟩ : ∃ d : Dx, d = ⟨accs, rs⟩ := ⟨_, rfl⟩
  rw [← hde] at hd2
  obtain ⟨⟨Aa, qa, rfl⟩, An, qn, rfl⟩ := hd2.shape
  have HC2 := Lib.hid hG.ds.2.1
  have HG2 := Lib.hid hG.ds.2.2
  have hg1 : g < w1.heap.size := HC1.out.lt
  have HBX := Lib.hid (heap_alloc_new w2 (.cells #[.slice Aa d.acc.length qa, .slice An d.nxt.length qn] 27))
  have HGb := Lib.hid (World.grownBy_alloc w2 (.cells #[.slice Aa d.acc.length qa, .slice An d.nxt.length qn] 27) (some g))
  have HD2 := Lib.hid hd2
  have HCb := Lib.hid (HC2.out.alloc (.cells #[.slice Aa d.acc.length qa, .slice An d.nxt.length qn] 27))
  clear hG hl1 hl2 hul hrl hd2 hde
  go_wp2_with fail
  obtain ⟨w3, hw3⟩ : ∃ w3, w3 = w2.alloc (.cells #[.slice Aa d.acc.length qa, .slice An d.nxt.length qn] 27) := ⟨_, rfl⟩
  rw [← hw3] at HBX HGb HCb ⊢
  have HZ3 := Lib.hid hw3
  clear hw3
  go_at_call 46
  refine (HDr.out _ HCb.out).mono ?_
  rintro e w4 ⟨vb, vm, bo', accs', us', rs', K', rfl, hG, hl1, hl2, hul, hrl, -⟩
  have hd4 := (hG.dfa (by omega) (by omega)).dfa
  obtain ⟨d', hde⟩ : ∃ d' : Dx, d' = ⟨accs', rs'⟩ := ⟨_, rfl⟩
  rw [← hde] at hd4
  obtain ⟨⟨Ba, pa, rfl⟩, Bn, pn, rfl⟩ := hd4.shape
  have HC4 := Lib.hid hG.ds.2.1
  have HG4 := Lib.hid hG.ds.2.2
  have HBY := Lib.hid (heap_alloc_new w4 (.cells #[.slice Ba d'.acc.length pa, .slice Bn d'.nxt.length pn] 27))
  have HGc := Lib.hid (World.grownBy_alloc w4 (.cells #[.slice Ba d'.acc.length pa, .slice Bn d'.nxt.length pn] 27) (some g))
  have HD4 := Lib.hid hd4
  have HCc := Lib.hid (HC4.out.alloc (.cells #[.slice Ba d'.acc.length pa, .slice Bn d'.nxt.length pn] 27))
  clear hG hl1 hl2 hul hrl hd4 hde
  go_wp2_with fail
  obtain ⟨w5, hw5⟩ : ∃ w5, w5 = w4.alloc (.cells #[.slice Ba d'.acc.length pa, .slice Bn d'.nxt.length pn] 27) := ⟨_, rfl⟩
  rw [← hw5] at HBY HGc HCc ⊢
  have HZ5 := Lib.hid hw5
  clear hw5
  go_at_call 47
  refine (HOn.out _ HCc.out).mono ?_
  rintro e w6 ⟨b, rfl, hc6, hg6⟩
  have HC6 := Lib.hid hc6
  have HG6 := Lib.hid hg6
  clear hc6 hg6
  have hz3 : w2.heap.size + 1 = w3.heap.size := by rw [HZ3.out]; simp
  have hz5 : w4.heap.size + 1 = w5.heap.size := by rw [HZ5.out]; simp
  have hz12 := HG2.out.size
  have hz34 := HG4.out.size
  have hz56 := HG6.out.size
  have hz01 := HB1.out.size
  have G36 := Lib.hid (grown_comp (grown_comp HG4.out HGc.out) HG6.out)
  have G56 := Lib.hid (grown_comp HGc.out HG6.out)
  have HXa6 := Lib.hid ((G36.out.block _ (blk_lt HBX.out) (by simp; omega)).trans HBX.out)
  have HXb6 := Lib.hid ((HG6.out.block _ (blk_lt HBY.out) (by have := HC4.out.lt; simp; omega)).trans HBY.out)
  have HDa6 := Lib.hid (dfa_call HD2.out (fun q hq => ⟨hq.2, by have := hq.1; omega⟩) (grown_comp HGb.out G36.out))
  have HDb6 := Lib.hid (dfa_call HD4.out (fun q hq => ⟨hq.2, by have := hq.1; omega⟩) G56.out)
  have HB6 := Lib.hid ((HB1.out.grown (grown_comp HG2.out (grown_comp HGb.out G36.out)) HB1.out.size (fun q e => by cases e; exact HC1.out.1)))
  cases b with
  | false =>
    obtain ⟨w8, hw8⟩ : ∃ w8, w8 = w6 := ⟨_, rfl⟩
    obtain ⟨dd, hdd⟩ : ∃ dd, dd = d' := ⟨_, rfl⟩
    obtain ⟨Ca, hCa⟩ : ∃ Ca, Ca = Ba := ⟨_, rfl⟩
    obtain ⟨Cn, hCn⟩ : ∃ Cn, Cn = Bn := ⟨_, rfl⟩
    obtain ⟨sa, hsa⟩ : ∃ sa, sa = pa := ⟨_, rfl⟩
    obtain ⟨sn, hsn⟩ : ∃ sn, sn = pn := ⟨_, rfl⟩
    have HXa := Lib.hid HXa6.out
    have HXb := Lib.hid HXb6.out
    have HDa := Lib.hid HDa6.out
    have HDb := Lib.hid HDb6.out
    have HC8 := Lib.hid HC6.out
    have HB8 := Lib.hid HB6.out
    have HSa : Hid (∀ q, (fun q => w1.heap.size ≤ q ∧ q < w2.heap.size) q → W0.heap.size ≤ q ∧ q < w6.heap.size ∧ q ≠ g) := Lib.hid (fun q hq => by
      have h1 : w1.heap.size ≤ q := hq.1
      have h2 : q < w2.heap.size := hq.2
      omega)
    have HSb : Hid (∀ q, (fun q => w3.heap.size ≤ q ∧ q < w4.heap.size) q → W0.heap.size ≤ q ∧ q < w6.heap.size ∧ q ≠ g) := Lib.hid (fun q hq => by
      have h1 : w3.heap.size ≤ q := hq.1
      have h2 : q < w4.heap.size := hq.2
      omega)
    rw [← hdd, ← hCa, ← hCn, ← hsa, ← hsn] at HXb HDb
    rw [← hw8] at HXa HXb HDa HDb HC8 HB8 HSa HSb ⊢
    clear HXa6 HXb6 HDa6 HDb6 HC6 HB6 HG6 G36 G56 hz56
    clear hw8 hdd hCa hCn hsa hsn
    have HLit := Lib.hid (World.grownBy_alloc w8 (.cells #[.int .i64 6, .int .i64 7, .int .i64 6, .int .i64 7, .int .i64 9] 3) (some g))
    have HLd : Hid (w8.grownBy (w8.alloc (.cells #[.int .i64 6, .int .i64 7, .int .i64 6, .int .i64 7, .int .i64 9] 3)).drew (some g)) := Lib.hid ⟨HLit.out.os, HLit.out.tape, HLit.out.output, HLit.out.size, HLit.out.block⟩
    have hg8 : g < w8.heap.size := HC8.out.lt
    have HPk := Lib.hid (l1PickInt_any g W0.heap.size w8.heap.size A n c 5 kinds (w8.alloc (.cells #[.int .i64 6, .int .i64 7, .int .i64 6, .int .i64 7, .int .i64 9] 3)).drew (HC8.out.alloc _) hn (by omega) (by omega) rfl (by omega) (heap_alloc_new w8 _))
    have HAfter := Lib.hid (fun (V : World) (hV : w8.grownBy V (some g)) => two_end (d := d) (va := .slice Aa d.acc.length qa) (vn := .slice An d.nxt.length qn) (d' := dd) (vb := .slice Ca dd.acc.length sa) (vm := .slice Cn dd.nxt.length sn) (w' := V) (HB8.out.grown hV HB8.out.size (fun q e => by cases e; exact HC1.out.1)) HW0.out (dfa_call HDa.out (fun q hq => (HSa.out q hq).2) hV) (fun q hq => (HSa.out q hq).1) (dfa_call HDb.out (fun q hq => (HSb.out q hq).2) hV) (fun q hq => (HSb.out q hq).1))
    have HBoxA := Lib.hid (fun (V : World) (hV : w8.grownBy V (some g)) => box2_facts ((hV.block _ (blk_lt HXa.out) (by simp; omega)).trans HXa.out))
    have HBoxB := Lib.hid (fun (V : World) (hV : w8.grownBy V (some g)) => box2_facts ((hV.block _ (blk_lt HXb.out) (by simp; omega)).trans HXb.out))
    obtain ⟨e0, e1, -, -⟩ := HBoxA.out w8 (grown_refl _ _)
    obtain ⟨e2, e3, -, -⟩ := HBoxB.out w8 (grown_refl _ _)
    obtain ⟨f0, f1, -, -⟩ := HBoxA.out _ HLit.out
    obtain ⟨f2, f3, -, -⟩ := HBoxB.out _ HLit.out
    obtain ⟨hs2, hs4⟩ : w.heap.size + 1 < w2.heap.size ∧ w.heap.size + 1 < w4.heap.size := by
      have hz0 : W0.heap.size = w.heap.size + 2 := by rw [HW0.out]; simp
      omega
    have n1 : w.heap.size ≠ w2.heap.size := by omega
    have n2 : w.heap.size ≠ w4.heap.size := by omega
    have n3 : w.heap.size + 1 ≠ w2.heap.size := by omega
    have n4 : w.heap.size + 1 ≠ w4.heap.size := by omega
    have n5 := n1.symm
    have n6 := n2.symm
    have n7 := n3.symm
    have n8 := n4.symm
    clear hs2 hs4
    go_wp2_with fail
    go_region_law (refine step_call rfl _ _ _ rfl enters_pickInt #[.pointer (some ⟨g, 0, none⟩), .slice (some ⟨w8.heap.size, 0, none⟩) 5 5] (by simp [Act.eval]) HPk.out ?_; rintro e w9 ⟨z, hz, rfl, hc9, hg9⟩; have HF := Lib.hid (HAfter.out w9 (grown_comp HLd.out hg9)); obtain ⟨t0, t1, -, -⟩ := HBoxA.out w9 (grown_comp HLd.out hg9); obtain ⟨t2, t3, -, -⟩ := HBoxB.out w9 (grown_comp HLd.out hg9); obtain ⟨⟨⟨x0, k0⟩, ⟨x1, k1⟩, k2, k3⟩, ⟨⟨x4, k4⟩, ⟨x5, k5⟩, k6, k7⟩, -⟩ := HF.out; clear hc9 hg9; refine ⟨_, rfl, ?_⟩)
    all_goals
      go_wp2_with fail
      obtain ⟨-, -, ⟨hc0, hc1⟩, ⟨hc2, hc3⟩, hd, hd', hb⟩ := HF.out
      refine bodyPost_ret (v := .tuple #[.agg #[.slice Aa d.acc.length qa, .slice An d.nxt.length qn], .agg #[.slice Ca dd.acc.length sa, .slice Cn dd.nxt.length sn], .int .i64 z]) (by simp [results, Try.results22, go_sem, hc0, hc1, hc2, hc3]) rfl ?_
      first
        | exact ⟨_, _, _, _, _, _, _, rfl, hd, hd', hb⟩
        | exact ⟨_, _, _, _, _, _, _, rfl, hd.mono (fun _ _ => rfl) (fun _ h => h), hd'.mono (fun _ _ => rfl) (fun _ h => h), hb.drew⟩
  | true =>
    go_wp2_with fail
    go_at_call 48
    refine (l5Bent_any g _ A n c w6 HC6.out hn).mono ?_
    rintro e w7 ⟨vb, vm, dd, rfl, hdd, hldd, hc7, hg7⟩
    obtain ⟨⟨Ca, sa, rfl⟩, Cn, sn, rfl⟩ := hdd.dfa.shape
    have hz67 := hg7.size
    have HXa7 := Lib.hid ((hg7.block _ (blk_lt HXa6.out) (by simp; omega)).trans HXa6.out)
    have hXb7 := (hg7.block _ (blk_lt HXb6.out) (by have := HC4.out.lt; simp; omega)).trans HXb6.out
    obtain ⟨y0, y1, y2, y3⟩ := box2_facts hXb7
    have HDa7 := Lib.hid (dfa_call HDa6.out (fun q hq => ⟨by have := hq.2; omega, by have := hq.1; omega⟩) hg7)
    have HB7 := Lib.hid (HB6.out.grown hg7 HB6.out.size (fun q e => by cases e; exact HC1.out.1))
    obtain ⟨w8, hw8⟩ : ∃ w8, w8 = (w7.setCell ⟨w4.heap.size, 0, none⟩ (.slice Ca dd.acc.length sa)).setCell ⟨w4.heap.size, 1, none⟩ (.slice Cn dd.nxt.length sn) := ⟨_, rfl⟩
    obtain ⟨hcl, hsz, hot, hBl⟩ := put2 (k := .slice Ca dd.acc.length sa) (l := .slice Cn dd.nxt.length sn) y0 y1
    have hx8 : w8.heap[w4.heap.size]? = some (.cells #[.slice Ca dd.acc.length sa, .slice Cn dd.nxt.length sn] 27 (0, 0)) := by
      rw [hw8]
      exact heap_setCell_same _ _ 1 _ _ _ (heap_setCell_same w7 _ 0 _ _ _ hXb7)
    rw [← hw8] at hsz hot hBl
    have hg4 := HC4.out.lt
    have HXa := Lib.hid ((hot w2.heap.size (by omega)).trans HXa7.out)
    have HXb := Lib.hid hx8
    have HDa := Lib.hid (HDa7.out.mono (w' := w8) (fun q hq => hot q (by have := hq.2; omega)) (fun _ h => h))
    have HDb := Lib.hid (hdd.dfa.mono (w' := w8) (fun q hq => hot q (by have := hq.1; omega)) (fun _ h => h))
    have HB8 := Lib.hid (hBl _ _ HB7.out (by omega))
    have HC8 : Hid (Cur w8 g W0.heap.size A n c) := Lib.hid (by
      have h2 : DS w6 w7 g W0.heap.size A n c := ⟨HC6.out.lt, hc7, hg7⟩
      obtain ⟨-, ⟨hB, hbl, i, x, hi, hh⟩, -⟩ := h2
      exact ⟨hB, hbl.below (hBl _ _ (Below.refl _ _) (by omega)), i, x, hi, (hot g (by omega)).trans hh⟩)
    have HSa : Hid (∀ q, (fun q => w1.heap.size ≤ q ∧ q < w2.heap.size) q → W0.heap.size ≤ q ∧ q < w8.heap.size ∧ q ≠ g) := Lib.hid (fun q hq => by
      have h1 : w1.heap.size ≤ q := hq.1
      have h2 : q < w2.heap.size := hq.2
      rw [hsz]
      omega)
    have HSb : Hid (∀ q, OwnB w6 w7 q → W0.heap.size ≤ q ∧ q < w8.heap.size ∧ q ≠ g) := Lib.hid (fun q hq => by
      have h1 : w6.heap.size ≤ q := hq.1
      have h2 : q < w7.heap.size := hq.2
      rw [hsz]
      omega)
    have HW8 := Lib.hid hw8
    clear hdd hldd hc7 hg7 hcl hsz hot hBl hx8 hXb7 HXa7 HDa7 HB7 hw8 hz67
    clear HXa6 HXb6 HDa6 HDb6 HC6 HB6 HG6 G36 G56 hz56
    go_upto_region 7 with fail
    rw [← HW8.out]
    clear HW8 y0 y1 y2 y3
    have HLit := Lib.hid (World.grownBy_alloc w8 (.cells #[.int .i64 6, .int .i64 7, .int .i64 6, .int .i64 7, .int .i64 9] 3) (some g))
    have HLd : Hid (w8.grownBy (w8.alloc (.cells #[.int .i64 6, .int .i64 7, .int .i64 6, .int .i64 7, .int .i64 9] 3)).drew (some g)) := Lib.hid ⟨HLit.out.os, HLit.out.tape, HLit.out.output, HLit.out.size, HLit.out.block⟩
    have hg8 : g < w8.heap.size := HC8.out.lt
    have HPk := Lib.hid (l1PickInt_any g W0.heap.size w8.heap.size A n c 5 kinds (w8.alloc (.cells #[.int .i64 6, .int .i64 7, .int .i64 6, .int .i64 7, .int .i64 9] 3)).drew (HC8.out.alloc _) hn (by omega) (by omega) rfl (by omega) (heap_alloc_new w8 _))
    have HAfter := Lib.hid (fun (V : World) (hV : w8.grownBy V (some g)) => two_end (d := d) (va := .slice Aa d.acc.length qa) (vn := .slice An d.nxt.length qn) (d' := dd) (vb := .slice Ca dd.acc.length sa) (vm := .slice Cn dd.nxt.length sn) (w' := V) (HB8.out.grown hV HB8.out.size (fun q e => by cases e; exact HC1.out.1)) HW0.out (dfa_call HDa.out (fun q hq => (HSa.out q hq).2) hV) (fun q hq => (HSa.out q hq).1) (dfa_call HDb.out (fun q hq => (HSb.out q hq).2) hV) (fun q hq => (HSb.out q hq).1))
    have HBoxA := Lib.hid (fun (V : World) (hV : w8.grownBy V (some g)) => box2_facts ((hV.block _ (blk_lt HXa.out) (by simp; omega)).trans HXa.out))
    have HBoxB := Lib.hid (fun (V : World) (hV : w8.grownBy V (some g)) => box2_facts ((hV.block _ (blk_lt HXb.out) (by simp; omega)).trans HXb.out))
    obtain ⟨e0, e1, -, -⟩ := HBoxA.out w8 (grown_refl _ _)
    obtain ⟨e2, e3, -, -⟩ := HBoxB.out w8 (grown_refl _ _)
    obtain ⟨f0, f1, -, -⟩ := HBoxA.out _ HLit.out
    obtain ⟨f2, f3, -, -⟩ := HBoxB.out _ HLit.out
    obtain ⟨hs2, hs4⟩ : w.heap.size + 1 < w2.heap.size ∧ w.heap.size + 1 < w4.heap.size := by
      have hz0 : W0.heap.size = w.heap.size + 2 := by rw [HW0.out]; simp
      omega
    have n1 : w.heap.size ≠ w2.heap.size := by omega
    have n2 : w.heap.size ≠ w4.heap.size := by omega
    have n3 : w.heap.size + 1 ≠ w2.heap.size := by omega
    have n4 : w.heap.size + 1 ≠ w4.heap.size := by omega
    have n5 := n1.symm
    have n6 := n2.symm
    have n7 := n3.symm
    have n8 := n4.symm
    clear hs2 hs4
    go_wp2_with fail
    go_region_law (refine step_call rfl _ _ _ rfl enters_pickInt #[.pointer (some ⟨g, 0, none⟩), .slice (some ⟨w8.heap.size, 0, none⟩) 5 5] (by simp [Act.eval]) HPk.out ?_; rintro e w9 ⟨z, hz, rfl, hc9, hg9⟩; have HF := Lib.hid (HAfter.out w9 (grown_comp HLd.out hg9)); obtain ⟨t0, t1, -, -⟩ := HBoxA.out w9 (grown_comp HLd.out hg9); obtain ⟨t2, t3, -, -⟩ := HBoxB.out w9 (grown_comp HLd.out hg9); obtain ⟨⟨⟨x0, k0⟩, ⟨x1, k1⟩, k2, k3⟩, ⟨⟨x4, k4⟩, ⟨x5, k5⟩, k6, k7⟩, -⟩ := HF.out; clear hc9 hg9; refine ⟨_, rfl, ?_⟩)
    all_goals
      go_wp2_with fail
      obtain ⟨-, -, ⟨hc0, hc1⟩, ⟨hc2, hc3⟩, hd, hd', hb⟩ := HF.out
      refine bodyPost_ret (v := .tuple #[.agg #[.slice Aa d.acc.length qa, .slice An d.nxt.length qn], .agg #[.slice Ca dd.acc.length sa, .slice Cn dd.nxt.length sn], .int .i64 z]) (by simp [results, Try.results22, go_sem, hc0, hc1, hc2, hc3]) rfl ?_
      first
        | exact ⟨_, _, _, _, _, _, _, rfl, hd, hd', hb⟩
        | exact ⟨_, _, _, _, _, _, _, rfl, hd.mono (fun _ _ => rfl) (fun _ h => h), hd'.mono (fun _ _ => rfl) (fun _ h => h), hb.drew⟩
theorem drawPro_any (A : Option Addr) (n c : Nat) (w : World) (h : BL w w.heap.size A n) (hn : n ≤ 1048576) :
    Calls Try.prog 22 #[.slice A n c] w (AnyP w) :=
  (drawProF_any A n c w h hn).mono fun _ _ ⟨va, vn, d, vb, vm, d', z, h1, h2, h3, h4⟩ => ⟨va, vn, d, vb, vm, d', z, h1, h2.mono (fun _ _ => rfl) (fun _ _ => trivial), h3.mono (fun _ _ => rfl) (fun _ _ => trivial), h4⟩
end Go.Proofs.Ythmfncklepkddaa
