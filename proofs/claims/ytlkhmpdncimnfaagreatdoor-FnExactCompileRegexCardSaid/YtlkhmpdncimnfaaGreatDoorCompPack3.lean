/-
  Texts of one proof, one behind the other.
-/
import Derived.OwnWalk
import Derived.Maps.AppendAt
import Derived.OneCell
import Derived.Deep.RegionLaw
import Derived.WalkKit
import Derived.Deep.RegionHeld3
import Derived.Test.YtlkhmpdncimnfaaGreatDoorRows
import Derived.WalkSpells
import Derived.WalkLawsBesides
import Derived.Lib.Hide
import Derived.KernelRfl
import Derived.Lib.Bytealg
import Derived.StillTailTactics
import Derived.Laws.BitsAllLaws
import Derived.Laws.Bits64
import Derived.Lib.TrailingZeros
import Derived.WalkArith
import Derived.Test.YtlkhmpdncimnfaaGreatDoorCompPack2

/-
  An automaton that grows in a box: its rows, and what stays of them where another row grows. Of no function of the program.
  An automaton that grows in a box, next to the list of what is met and to the row at hand. Of no function of the program.
-/
namespace Go.Proofs.YtlkhmpdncimnfaaGreatDoor
open Go.RowKit

theorem blk_of {w : World} {base : Nat} {e : TypeId} {v : Value} {n : Nat} {xs : List Value} (h : w.ownsRow base e 1 v n xs) {g : Nat} (hg : v.ownBlock = some g) : ∃ cur, w.heap[g]? = some (.cells cur e (0, 0)) := by
  rcases h.2 with ⟨rfl, _⟩ | ⟨g', cap, cur, rfl, _, hh, _⟩
  · simp [Value.ownBlock] at hg
  · simp [Value.ownBlock] at hg
    subst hg
    exact ⟨cur, hh⟩
theorem blk_ne {w : World} {g g' : Nat} {cur cur' : Array Value} {e e' : TypeId} (h : w.heap[g]? = some (.cells cur e (0, 0))) (h' : w.heap[g']? = some (.cells cur' e' (0, 0))) (hne : e ≠ e') : g ≠ g' := fun eq => by
  subst eq
  rw [h] at h'
  cases h'
  exact hne rfl
/-- A row of ints of the call's own. -/
def IR (w : World) (B : Nat) (v : Value) (l : List Int) : Prop := w.ownsRow B 3 1 v l.length (ints l)
theorem IR.kept {w w' : World} {B : Nat} {v : Value} {l : List Int} {row : Option Nat} (h : IR w B v l) (hg : w.grownBy w' row) (hne : ∀ g, v.ownBlock = some g → row ≠ some g) : IR w' B v l := by
  refine World.ownsRow.kept h hg ?_
  cases hv : v.ownBlock with
  | none => exact .inl rfl
  | some g => exact .inr (fun e => hne g hv e.symm)
theorem IR.row {w : World} {B : Nat} {v : Value} {l : List Int} (h : IR w B v l) (hl : l.length ≤ 9223372036854775807) : RowO w (fun g => v.ownBlock = some g) v (ints l) := RowO.of_owns h hl
theorem grown_of {w w' : World} (h : Below w.heap.size w w') : w.grownBy w' none := ⟨h.os, h.tape, h.output, h.size, fun k hk _ => h.block k hk⟩
/-- A row of one, just laid. -/
theorem IR.one (w : World) (x : Int) {B : Nat} (hB : B ≤ w.heap.size) : IR (w.alloc (.cells #[.int .i64 x] 3)) B (.slice (some ⟨w.heap.size, 0, none⟩) 1 1) [x] :=
  ⟨rfl, .inr ⟨w.heap.size, 1, #[.int .i64 x], rfl, hB, heap_alloc_new w _, Nat.le_refl _, by decide, rfl, rfl⟩⟩

/-- The automaton so far, in its box. -/
structure Out (B : Nat) (w : World) (bo : Nat) (va vn : Value) (accs : List Bool) (us : List Value) (rss : List (List Value)) (K : Nat → Nat → Prop) : Prop where
  acc : w.ownsRow B 4 1 va accs.length (bools accs)
  nxt : w.ownsRow B 68 1 vn us.length us
  rows : RowsP (fun g => B ≤ g) w us rss K
  kint : ∀ j g, K j g → ∃ cur, w.heap[g]? = some (.cells cur 3 (0, 0))
  box : w.heap[bo]? = some (.cells #[va, vn] 29 (0, 0))
  low : B ≤ bo
variable {B : Nat} {w w' : World} {bo : Nat} {va vn : Value} {accs : List Bool} {us : List Value} {rss : List (List Value)} {K : Nat → Nat → Prop}
/-- Where a row of ints grows that is none of its own. -/
theorem Out.kept {row : Option Nat} (h : Out B w bo va vn accs us rss K) (hg : w.grownBy w' row) (hrow : ∀ g, row = some g → (∃ cur, w.heap[g]? = some (.cells cur 3 (0, 0))) ∧ ∀ j, ¬ K j g) : Out B w' bo va vn accs us rss K := by
  have keep : ∀ (g : Nat) (cur : Array Value) (e : TypeId), w.heap[g]? = some (.cells cur e (0, 0)) → e ≠ 3 → w'.heap[g]? = w.heap[g]? := fun g cur e hh he =>
    hg.block g (Array.getElem?_eq_some_iff.1 hh).1 (fun er => by
      obtain ⟨⟨cur', hh'⟩, _⟩ := hrow g er.symm
      exact blk_ne hh hh' he rfl)
  refine ⟨h.acc.kept hg ?_, h.nxt.kept hg ?_, h.rows.keep (fun j g hk => ?_) h.rows.sub hg.size, fun j g hk => ?_, (keep bo _ _ h.box (by decide)).trans h.box, h.low⟩
  · cases hv : va.ownBlock with
    | none => exact .inl rfl
    | some g =>
      obtain ⟨cur, hh⟩ := blk_of h.acc hv
      exact .inr (fun er => by
        obtain ⟨⟨cur', hh'⟩, _⟩ := hrow g er.symm
        exact blk_ne hh hh' (by decide) rfl)
  · cases hv : vn.ownBlock with
    | none => exact .inl rfl
    | some g =>
      obtain ⟨cur, hh⟩ := blk_of h.nxt hv
      exact .inr (fun er => by
        obtain ⟨⟨cur', hh'⟩, _⟩ := hrow g er.symm
        exact blk_ne hh hh' (by decide) rfl)
  · exact hg.block g (h.rows.lt j g hk) (fun er => (hrow g er.symm).2 j hk)
  · obtain ⟨cur, hh⟩ := h.kint j g hk
    exact ⟨cur, (hg.block g (h.rows.lt j g hk) (fun er => (hrow g er.symm).2 j hk)).trans hh⟩
theorem Out.below (h : Out B w bo va vn accs us rss K) (hb : Below w.heap.size w w') : Out B w' bo va vn accs us rss K := h.kept (grown_of hb) (fun g e => by cases e)
/-- One truth value more. -/
theorem Out.acc_push {va' : Value} {b : Bool} (h : Out B w bo va vn accs us rss K) (hown : w'.ownsRow B 4 1 va' (accs.length + 1) (bools accs ++ [.bool b])) (hg : w.grownBy w' va.ownBlock) :
    (∃ x, w'.cell? ⟨bo, 0, none⟩ = some x) ∧ w'.frozen? ⟨bo, 0, none⟩ = false ∧ Out B (w'.setCell ⟨bo, 0, none⟩ va') bo va' vn (accs ++ [b]) us rss K := by
  have keep : ∀ (g : Nat) (cur : Array Value) (e : TypeId), w.heap[g]? = some (.cells cur e (0, 0)) → e ≠ 4 → w'.heap[g]? = w.heap[g]? := fun g cur e hh he =>
    hg.block g (Array.getElem?_eq_some_iff.1 hh).1 (fun er => by
      obtain ⟨cur', hh'⟩ := blk_of h.acc er.symm
      exact blk_ne hh hh' he rfl)
  have hbox := (keep bo _ _ h.box (by decide)).trans h.box
  obtain ⟨c0, c1, f0, f1⟩ := box2_facts hbox
  have far : ∀ (g : Nat) (cur : Array Value) (e : TypeId), w'.heap[g]? = some (.cells cur e (0, 0)) → e ≠ 29 → (w'.setCell ⟨bo, 0, none⟩ va').heap[g]? = w'.heap[g]? := fun g cur e hh he => Below.heap_setCell _ _ _ g (fun er => blk_ne hh hbox he er)
  refine ⟨⟨_, c0⟩, f0, ⟨?_, ?_, h.rows.keep (fun j g hk => ?_) h.rows.sub (by simpa [World.setCell] using hg.size), fun j g hk => ?_, heap_setCell_same w' bo 0 _ _ va' hbox, h.low⟩⟩
  · have e : bools (accs ++ [b]) = bools accs ++ [.bool b] := by simp [bools]
    rw [e, List.length_append]
    refine ownsRow_setCell_other hown (fun er => ?_) _
    obtain ⟨cur, hh⟩ := blk_of hown er
    exact blk_ne hh hbox (by decide) rfl
  · have h1 : w'.ownsRow B 68 1 vn us.length us := by
      refine h.nxt.kept hg ?_
      cases hv : vn.ownBlock with
      | none => exact .inl rfl
      | some g =>
        obtain ⟨cur, hh⟩ := blk_of h.nxt hv
        exact .inr (fun er => by
          obtain ⟨cur', hh'⟩ := blk_of h.acc er.symm
          exact blk_ne hh hh' (by decide) rfl)
    refine ownsRow_setCell_other h1 (fun er => ?_) _
    obtain ⟨cur, hh⟩ := blk_of h1 er
    exact blk_ne hh hbox (by decide) rfl
  · obtain ⟨cur, hh⟩ := h.kint j g hk
    have h1 := (keep g _ _ hh (by decide)).trans hh
    exact (far g _ _ h1 (by decide)).trans (keep g _ _ hh (by decide))
  · obtain ⟨cur, hh⟩ := h.kint j g hk
    have h1 := (keep g _ _ hh (by decide)).trans hh
    exact ⟨cur, (far g _ _ h1 (by decide)).trans h1⟩
/-- One row more. -/
theorem Out.nxt_push {vn' u : Value} {r : List Int} (h : Out B w bo va vn accs us rss K) (hr : IR w B u r) (hrl : r.length ≤ 9223372036854775807) (hrk : ∀ g, u.ownBlock = some g → ∀ j, ¬ K j g) (hown : w'.ownsRow B 68 1 vn' (us.length + 1) (us ++ [u])) (hg : w.grownBy w' vn.ownBlock) :
    (∃ x, w'.cell? ⟨bo, 1, none⟩ = some x) ∧ w'.frozen? ⟨bo, 1, none⟩ = false ∧ Out B (w'.setCell ⟨bo, 1, none⟩ vn') bo va vn' accs (us ++ [u]) (rss ++ [ints r]) (fun j g => if j < us.length then K j g else j = us.length ∧ u.ownBlock = some g) := by
  have keep : ∀ (g : Nat) (cur : Array Value) (e : TypeId), w.heap[g]? = some (.cells cur e (0, 0)) → e ≠ 68 → w'.heap[g]? = w.heap[g]? := fun g cur e hh he =>
    hg.block g (Array.getElem?_eq_some_iff.1 hh).1 (fun er => by
      obtain ⟨cur', hh'⟩ := blk_of h.nxt er.symm
      exact blk_ne hh hh' he rfl)
  have hbox := (keep bo _ _ h.box (by decide)).trans h.box
  obtain ⟨c0, c1, f0, f1⟩ := box2_facts hbox
  have far : ∀ (g : Nat) (cur : Array Value) (e : TypeId), w'.heap[g]? = some (.cells cur e (0, 0)) → e ≠ 29 → (w'.setCell ⟨bo, 1, none⟩ vn').heap[g]? = w'.heap[g]? := fun g cur e hh he => Below.heap_setCell _ _ _ g (fun er => blk_ne hh hbox he er)
  have int_keep : ∀ (g : Nat) (cur : Array Value), w.heap[g]? = some (.cells cur 3 (0, 0)) → (w'.setCell ⟨bo, 1, none⟩ vn').heap[g]? = w.heap[g]? := fun g cur hh => by
    have h1 := (keep g _ _ hh (by decide)).trans hh
    exact (far g _ _ h1 (by decide)).trans (keep g _ _ hh (by decide))
  have hsz : w.heap.size ≤ (w'.setCell ⟨bo, 1, none⟩ vn').heap.size := by simpa [World.setCell] using hg.size
  have hlen := h.rows.len
  refine ⟨⟨_, c1⟩, f1, ⟨?_, ?_, ⟨by simp [hlen], fun j u' r' hu hr' => ?_, fun j g hk => ?_, fun j g hk => ?_, fun i j g hi hj => ?_⟩, fun j g hk => ?_, heap_setCell_same w' bo 1 _ _ vn' hbox, h.low⟩⟩
  · have h1 : w'.ownsRow B 4 1 va accs.length (bools accs) := by
      refine h.acc.kept hg ?_
      cases hv : va.ownBlock with
      | none => exact .inl rfl
      | some g =>
        obtain ⟨cur, hh⟩ := blk_of h.acc hv
        exact .inr (fun er => by
          obtain ⟨cur', hh'⟩ := blk_of h.nxt er.symm
          exact blk_ne hh hh' (by decide) rfl)
    refine ownsRow_setCell_other h1 (fun er => ?_) _
    obtain ⟨cur, hh⟩ := blk_of h1 er
    exact blk_ne hh hbox (by decide) rfl
  · rw [List.length_append]
    refine ownsRow_setCell_other hown (fun er => ?_) _
    obtain ⟨cur, hh⟩ := blk_of hown er
    exact blk_ne hh hbox (by decide) rfl
  · by_cases hj : j < us.length
    · rw [List.getElem?_append_left hj] at hu
      rw [List.getElem?_append_left (by omega)] at hr'
      exact (h.rows.row j u' r' hu hr').mono (fun g hg => by
        obtain ⟨cur, hh⟩ := h.kint j g hg
        exact int_keep g cur hh) (fun g hg => by simpa [hj] using hg)
    · have e : j = us.length := by
        have := (List.getElem?_eq_some_iff.1 hu).1
        simp at this
        omega
      subst e
      rw [List.getElem?_append_right (Nat.le_refl _), Nat.sub_self] at hu
      rw [List.getElem?_append_right (by omega), hlen, Nat.sub_self] at hr'
      cases hu
      cases hr'
      exact (hr.row hrl).mono (fun g hg => by
        obtain ⟨cur, hh⟩ := blk_of hr hg
        exact int_keep g cur hh) (fun g hg => by simpa using hg)
  · by_cases hj : j < us.length
    · exact h.rows.sub j g (by simpa [hj] using hk)
    · simp only [hj, if_false] at hk
      exact (hr.lt g hk.2).1
  · by_cases hj : j < us.length
    · exact Nat.lt_of_lt_of_le (h.rows.lt j g (by simpa [hj] using hk)) hsz
    · simp only [hj, if_false] at hk
      exact Nat.lt_of_lt_of_le (hr.lt g hk.2).2 hsz
  · by_cases h1 : i < us.length <;> by_cases h2 : j < us.length <;> simp only [h1, h2, if_true, if_false] at hi hj
    · exact h.rows.sep i j g hi hj
    · exact absurd hi (hrk g hj.2 i)
    · exact absurd hj (hrk g hi.2 j)
    · omega
  · by_cases hj : j < us.length
    · obtain ⟨cur, hh⟩ := h.kint j g (by simpa [hj] using hk)
      exact ⟨cur, (int_keep g cur hh).trans hh⟩
    · simp only [hj, if_false] at hk
      obtain ⟨cur, hh⟩ := blk_of hr hk.2
      exact ⟨cur, (int_keep g cur hh).trans hh⟩
/-- The automaton is whole: it lies in memory of its own. -/
theorem Out.whole (h : Out B w bo va vn accs us rss K) {d : Dx} (ha : d.acc = accs) (hr : intss d.nxt = rss) (hl1 : accs.length ≤ 9223372036854775807) (hl2 : us.length ≤ 9223372036854775807) : DfaO w (fun g => B ≤ g ∧ g < w.heap.size) va vn d := by
  refine ⟨fun g => va.ownBlock = some g, fun g => B ≤ g ∧ g < w.heap.size ∧ va.ownBlock ≠ some g, ?_, ⟨us, fun g => vn.ownBlock = some g, K, RowO.of_owns h.nxt hl2, ?_, fun g hg => ?_⟩, fun g hg => ?_, fun g hg => ⟨hg.1, hg.2.1⟩⟩
  · rw [ha]
    exact RowO.of_owns h.acc hl1
  · rw [hr]
    exact h.rows.keep (fun _ _ _ => rfl) (fun j g hk => ⟨h.rows.sub j g hk, h.rows.lt j g hk, fun er => by
      obtain ⟨cur, hh⟩ := blk_of h.acc er
      obtain ⟨cur', hh'⟩ := h.kint j g hk
      exact blk_ne hh hh' (by decide) rfl⟩) (Nat.le_refl _)
  · refine ⟨⟨(h.nxt.lt g hg).1, (h.nxt.lt g hg).2, fun er => ?_⟩, fun j hk => ?_⟩
    · obtain ⟨cur, hh⟩ := blk_of h.acc er
      obtain ⟨cur', hh'⟩ := blk_of h.nxt hg
      exact blk_ne hh hh' (by decide) rfl
    · obtain ⟨cur, hh⟩ := blk_of h.nxt hg
      obtain ⟨cur', hh'⟩ := h.kint j g hk
      exact blk_ne hh hh' (by decide) rfl
  · exact ⟨h.acc.lt g hg, fun h2 => h2.2.2 hg⟩
/-- It begins with nothing. -/
theorem Out.start (w : World) {B : Nat} (hB : B ≤ w.heap.size) : Out B (w.alloc (.cells #[.slice none 0 0, .slice none 0 0] 29)) w.heap.size (.slice none 0 0) (.slice none 0 0) [] [] [] (fun _ _ => False) :=
  ⟨⟨rfl, .inl ⟨rfl, rfl⟩⟩, ⟨rfl, .inl ⟨rfl, rfl⟩⟩, RowsP.nil _ _, fun _ _ h => h.elim, heap_alloc_new w _, hB⟩
end Go.Proofs.YtlkhmpdncimnfaaGreatDoor

namespace Go.Proofs.YtlkhmpdncimnfaaGreatDoor
open Go.RowKit

theorem ints_snoc (l : List Int) (x : Int) : ints (l ++ [x]) = ints l ++ [.int .i64 x] := by simp [ints]
theorem ints_len (l : List Int) : (ints l).length = l.length := by simp [ints]
theorem IR.of_push {w : World} {B : Nat} {v : Value} {l : List Int} {x : Int} (h : w.ownsRow B 3 1 v (l.length + 1) (ints l ++ [.int .i64 x])) : IR w B v (l ++ [x]) := by
  unfold IR
  rw [ints_snoc, List.length_append]
  exact h
theorem own_succ {W : World} {base : Nat} {e : TypeId} {size : Nat} {v : Value} {k : Nat} {xs : List Value} (h : W.ownsRow base e size v (k + 1) xs) : ∃ g cap, v = .slice (some ⟨g, 0, none⟩) (k + 1) cap := by
  rcases h.2 with ⟨_, h0⟩ | ⟨g, cap, _, rfl, _⟩
  · omega
  · exact ⟨g, cap, rfl⟩
/-- A row of none, just laid. -/
theorem IR.none (w : World) {B : Nat} (hB : B ≤ w.heap.size) : IR (w.alloc (.cells #[] 3)) B (.slice (some ⟨w.heap.size, 0, none⟩) 0 0) [] :=
  ⟨rfl, .inr ⟨w.heap.size, 0, #[], rfl, hB, heap_alloc_new w _, Nat.le_refl _, by decide, rfl, rfl⟩⟩
theorem IR.below {w w' : World} {B : Nat} {v : Value} {l : List Int} (h : IR w B v l) (hb : Below w.heap.size w w') : IR w' B v l := h.kept (grown_of hb) (fun g _ e => by cases e)

structure One (B : Nat) (w : World) (bo : Nat) (va vn : Value) (accs : List Bool) (us : List Value) (rss : List (List Value)) (K : Nat → Nat → Prop) (vo : Value) (lo : List Int) : Prop where
  out : Out B w bo va vn accs us rss K
  ord : IR w B vo lo
  ordK : ∀ g, vo.ownBlock = some g → ∀ j, ¬ K j g
structure Two (B : Nat) (w : World) (bo : Nat) (va vn : Value) (accs : List Bool) (us : List Value) (rss : List (List Value)) (K : Nat → Nat → Prop) (vo : Value) (lo : List Int) (vr : Value) (lr : List Int) : Prop where
  one : One B w bo va vn accs us rss K vo lo
  row : IR w B vr lr
  rowK : ∀ g, vr.ownBlock = some g → ∀ j, ¬ K j g
  sep : ∀ g, vo.ownBlock = some g → vr.ownBlock ≠ some g
variable {B : Nat} {w w' : World} {bo : Nat} {va vn : Value} {accs : List Bool} {us : List Value} {rss : List (List Value)} {K : Nat → Nat → Prop} {vo vr : Value} {lo lr : List Int}
theorem One.below (h : One B w bo va vn accs us rss K vo lo) (hb : Below w.heap.size w w') : One B w' bo va vn accs us rss K vo lo := ⟨h.out.below hb, h.ord.below hb, h.ordK⟩
theorem Two.below (h : Two B w bo va vn accs us rss K vo lo vr lr) (hb : Below w.heap.size w w') : Two B w' bo va vn accs us rss K vo lo vr lr := ⟨h.one.below hb, h.row.below hb, h.rowK, h.sep⟩
theorem One.base (h : One B w bo va vn accs us rss K vo lo) : B < w.heap.size := Nat.lt_of_le_of_lt h.out.low (Array.getElem?_eq_some_iff.1 h.out.box).1
/-- A row of none beside it. -/
theorem One.two (h : One B w bo va vn accs us rss K vo lo) : Two B (w.alloc (.cells #[] 3)) bo va vn accs us rss K vo lo (.slice (some ⟨w.heap.size, 0, none⟩) 0 0) [] := by
  refine ⟨h.below ((Below.refl _ _).alloc (Nat.le_refl _) _), IR.none w (Nat.le_of_lt h.base), fun g hg j hk => ?_, fun g hg e => ?_⟩
  · simp [Value.ownBlock] at hg
    have := h.out.rows.lt j g hk
    omega
  · simp [Value.ownBlock] at e
    have := (h.ord.lt g hg).2
    omega
/-- One more is met. -/
theorem Two.ord_push {v' : Value} {x : Int} (h : Two B w bo va vn accs us rss K vo lo vr lr) (hown : w'.ownsRow B 3 1 v' (lo.length + 1) (ints lo ++ [.int .i64 x])) (hg : w.grownBy w' vo.ownBlock) (hat : v'.ownBlock = vo.ownBlock ∨ v'.ownBlock = some w.heap.size) : Two B w' bo va vn accs us rss K v' (lo ++ [x]) vr lr := by
  refine ⟨⟨h.one.out.kept hg (fun g e => ⟨blk_of h.one.ord e, h.one.ordK g e⟩), IR.of_push hown, fun g e j hk => ?_⟩, h.row.kept hg (fun g e er => h.sep g er e), h.rowK, fun g e er => ?_⟩
  · rcases hat with a | a
    · exact h.one.ordK g (a.symm.trans e) j hk
    · rw [a] at e
      cases e
      have := h.one.out.rows.lt j _ hk
      omega
  · rcases hat with a | a
    · exact h.sep g (a.symm.trans e) er
    · rw [a] at e
      cases e
      have := (h.row.lt _ er).2
      omega
/-- One more in the row. -/
theorem Two.row_push {v' : Value} {x : Int} (h : Two B w bo va vn accs us rss K vo lo vr lr) (hown : w'.ownsRow B 3 1 v' (lr.length + 1) (ints lr ++ [.int .i64 x])) (hg : w.grownBy w' vr.ownBlock) (hat : v'.ownBlock = vr.ownBlock ∨ v'.ownBlock = some w.heap.size) : Two B w' bo va vn accs us rss K vo lo v' (lr ++ [x]) := by
  refine ⟨⟨h.one.out.kept hg (fun g e => ⟨blk_of h.row e, h.rowK g e⟩), h.one.ord.kept hg (fun g e er => h.sep g e er), h.one.ordK⟩, IR.of_push hown, fun g e j hk => ?_, fun g e er => ?_⟩
  · rcases hat with a | a
    · exact h.rowK g (a.symm.trans e) j hk
    · rw [a] at e
      cases e
      have := h.one.out.rows.lt j _ hk
      omega
  · rcases hat with a | a
    · exact h.sep g e (a.symm.trans er)
    · rw [a] at er
      cases er
      have := (h.one.ord.lt _ e).2
      omega
/-- A row of ints stays where a row of another type grows and the box is stored into. -/
theorem IR.far {row : Option Nat} {p : Addr} {u : Value} {va vn : Value} {v : Value} {l : List Int} (h : IR w B v l) (hg : w.grownBy w' row) (hrow : ∀ g, row = some g → ∃ cur e, w.heap[g]? = some (.cells cur e (0, 0)) ∧ e ≠ 3) (hbox : w.heap[p.block]? = some (.cells #[va, vn] 29 (0, 0))) : IR (w'.setCell p u) B v l := by
  have h1 : IR w' B v l := h.kept hg (fun g e er => by
    obtain ⟨cur, hh⟩ := blk_of h e
    obtain ⟨cur', e', hh', hne⟩ := hrow g er
    exact blk_ne hh hh' (Ne.symm hne) rfl)
  refine ownsRow_setCell_other h1 (fun er => ?_) _
  obtain ⟨cur, hh⟩ := blk_of h er
  exact blk_ne hh hbox (by decide) rfl
theorem Two.acc_push {va' : Value} {b : Bool} (h : Two B w bo va vn accs us rss K vo lo vr lr) (hown : w'.ownsRow B 4 1 va' (accs.length + 1) (bools accs ++ [.bool b])) (hg : w.grownBy w' va.ownBlock) :
    (∃ x, w'.cell? ⟨bo, 0, none⟩ = some x) ∧ w'.frozen? ⟨bo, 0, none⟩ = false ∧ Two B (w'.setCell ⟨bo, 0, none⟩ va') bo va' vn (accs ++ [b]) us rss K vo lo vr lr := by
  obtain ⟨h1, h2, h3⟩ := h.one.out.acc_push hown hg
  have hrow : ∀ g, va.ownBlock = some g → ∃ cur e, w.heap[g]? = some (.cells cur e (0, 0)) ∧ e ≠ 3 := fun g e => by
    obtain ⟨cur, hh⟩ := blk_of h.one.out.acc e
    exact ⟨cur, _, hh, by decide⟩
  exact ⟨h1, h2, ⟨h3, h.one.ord.far hg hrow h.one.out.box, h.one.ordK⟩, h.row.far hg hrow h.one.out.box, h.rowK, h.sep⟩
theorem Two.nxt_push {vn' : Value} (h : Two B w bo va vn accs us rss K vo lo vr lr) (hrl : lr.length ≤ 9223372036854775807) (hown : w'.ownsRow B 68 1 vn' (us.length + 1) (us ++ [vr])) (hg : w.grownBy w' vn.ownBlock) :
    (∃ x, w'.cell? ⟨bo, 1, none⟩ = some x) ∧ w'.frozen? ⟨bo, 1, none⟩ = false ∧ One B (w'.setCell ⟨bo, 1, none⟩ vn') bo va vn' accs (us ++ [vr]) (rss ++ [ints lr]) (fun j g => if j < us.length then K j g else j = us.length ∧ vr.ownBlock = some g) vo lo := by
  obtain ⟨h1, h2, h3⟩ := h.one.out.nxt_push h.row hrl h.rowK hown hg
  have hrow : ∀ g, vn.ownBlock = some g → ∃ cur e, w.heap[g]? = some (.cells cur e (0, 0)) ∧ e ≠ 3 := fun g e => by
    obtain ⟨cur, hh⟩ := blk_of h.one.out.nxt e
    exact ⟨cur, _, hh, by decide⟩
  refine ⟨h1, h2, h3, h.one.ord.far hg hrow h.one.out.box, fun g e j hk => ?_⟩
  by_cases hj : j < us.length
  · exact h.one.ordK g e j (by simpa [hj] using hk)
  · simp only [hj, if_false] at hk
    exact h.sep g e hk.2
/-- The beginning: one is met, the box is empty. -/
theorem One.start (w1 : World) (x : Int) :
    let W3 := (w1.alloc (.cells #[.int .i64 x] 3)).alloc (.cells #[.slice none 0 0, .slice none 0 0] 29)
    One w1.heap.size W3 (w1.heap.size + 1) (.slice none 0 0) (.slice none 0 0) [] [] [] (fun _ _ => False) (.slice (some ⟨w1.heap.size, 0, none⟩) 1 1) [x] ∧ Below w1.heap.size w1 W3 := by
  intro W3
  have hb : W3.heap[w1.heap.size + 1]? = some (.cells #[.slice none 0 0, .slice none 0 0] 29 (0, 0)) := by
    have h := heap_alloc_new (w1.alloc (.cells #[.int .i64 x] 3)) (.cells #[.slice none 0 0, .slice none 0 0] 29)
    rwa [World.size_alloc] at h
  have h1 : IR W3 w1.heap.size (.slice (some ⟨w1.heap.size, 0, none⟩) 1 1) [x] := (IR.one w1 x (Nat.le_refl _)).below ((Below.refl _ _).alloc (Nat.le_refl _) _)
  exact ⟨⟨⟨⟨rfl, .inl ⟨rfl, rfl⟩⟩, ⟨rfl, .inl ⟨rfl, rfl⟩⟩, RowsP.nil _ _, fun _ _ h => h.elim, hb, Nat.le_succ _⟩, h1, fun _ _ _ h => h⟩, ((Below.refl _ _).alloc (Nat.le_refl _) _).alloc (by simp) _⟩
end Go.Proofs.YtlkhmpdncimnfaaGreatDoor

namespace Go.Proofs.YtlkhmpdncimnfaaGreatDoor
open Go.RowKit

theorem own_on {w w' : World} {B B' : Nat} {e : TypeId} {size : Nat} {v : Value} {k : Nat} {xs : List Value} (h : w.ownsRow B e size v k xs) (hs : ∀ q, v.ownBlock = some q → w'.heap[q]? = w.heap[q]?) (hB : B' ≤ B) : w'.ownsRow B' e size v k xs := by
  refine ⟨h.1, ?_⟩
  rcases h.2 with h0 | ⟨g, cap, cur, e1, e2, e3, rest⟩
  · exact .inl h0
  · exact .inr ⟨g, cap, cur, e1, Nat.le_trans hB e2, (hs g (by rw [e1]; simp [Value.ownBlock])).trans e3, rest⟩
theorem intss_snoc (rs : List (List Int)) (r : List Int) : intss (rs ++ [r]) = intss rs ++ [ints r] := by simp [intss]
variable {w w' W0 : World} {B : Nat} {bo : Nat} {va vn : Value} {accs : List Bool} {us : List Value} {rss : List (List Value)} {rs : List (List Int)} {K : Nat → Nat → Prop} {vo : Value} {lo : List Int}
theorem Out.off (h : Out B w bo va vn accs us rss K) (hs : ∀ q, B ≤ q → q < w.heap.size → w'.heap[q]? = w.heap[q]?) (hz : w.heap.size ≤ w'.heap.size) {B' : Nat} (hB : B' ≤ B) : Out B' w' bo va vn accs us rss K :=
  ⟨own_on h.acc (fun q e => hs q (h.acc.lt q e).1 (h.acc.lt q e).2) hB, own_on h.nxt (fun q e => hs q (h.nxt.lt q e).1 (h.nxt.lt q e).2) hB,
    h.rows.keep (fun j g hk => hs g (h.rows.sub j g hk) (h.rows.lt j g hk)) (fun j g hk => Nat.le_trans hB (h.rows.sub j g hk)) hz,
    fun j g hk => by
      obtain ⟨cur, hh⟩ := h.kint j g hk
      exact ⟨cur, (hs g (h.rows.sub j g hk) (h.rows.lt j g hk)).trans hh⟩,
    (hs bo h.low (blk_lt h.box)).trans h.box, Nat.le_trans hB h.low⟩
theorem Out.base (h : Out B w bo va vn accs us rss K) : B < w.heap.size := Nat.lt_of_le_of_lt h.low (blk_lt h.box)
/-- Every row is a row of the call's own, and its block is named. -/
def Ows (w : World) (B : Nat) (us : List Value) (rs : List (List Int)) (K : Nat → Nat → Prop) : Prop :=
  ∀ (j : Nat) (u : Value) (r : List Int), us[j]? = some u → rs[j]? = some r → IR w B u r ∧ ∀ q, u.ownBlock = some q → K j q
theorem Ows.keep (h : Ows w B us rs K) (hs : ∀ j q, K j q → w'.heap[q]? = w.heap[q]?) {B' : Nat} (hB : B' ≤ B) : Ows w' B' us rs K := fun j u r hu hr => by
  obtain ⟨h1, h2⟩ := h j u r hu hr
  exact ⟨own_on h1 (fun q e => hs j q (h2 q e)) hB, h2⟩
theorem Out.k_acc (h : Out B w bo va vn accs us rss K) (hg : w.grownBy w' va.ownBlock) (x : Value) : ∀ j q, K j q → (w'.setCell ⟨bo, 0, none⟩ x).heap[q]? = w.heap[q]? := fun j q hk => by
  obtain ⟨cur, hh⟩ := h.kint j q hk
  refine (Below.heap_setCell _ _ _ q (fun er => blk_ne hh h.box (by decide) er)).trans (hg.block q (blk_lt hh) (fun er => ?_))
  obtain ⟨cur', hh'⟩ := blk_of h.acc er.symm
  exact blk_ne hh hh' (by decide) rfl
theorem Out.k_nxt (h : Out B w bo va vn accs us rss K) (hg : w.grownBy w' vn.ownBlock) (x : Value) : ∀ j q, K j q → (w'.setCell ⟨bo, 1, none⟩ x).heap[q]? = w.heap[q]? := fun j q hk => by
  obtain ⟨cur, hh⟩ := h.kint j q hk
  refine (Below.heap_setCell _ _ _ q (fun er => blk_ne hh h.box (by decide) er)).trans (hg.block q (blk_lt hh) (fun er => ?_))
  obtain ⟨cur', hh'⟩ := blk_of h.nxt er.symm
  exact blk_ne hh hh' (by decide) rfl
theorem One.k_ord (h : One B w bo va vn accs us rss K vo lo) (hg : w.grownBy w' vo.ownBlock) : ∀ j q, K j q → w'.heap[q]? = w.heap[q]? := fun j q hk =>
  hg.block q (h.out.rows.lt j q hk) (fun er => h.ordK q er.symm j hk)
theorem One.ord_push {v' : Value} {x : Int} (h : One B w bo va vn accs us rss K vo lo) (hown : w'.ownsRow B 3 1 v' (lo.length + 1) (ints lo ++ [.int .i64 x])) (hg : w.grownBy w' vo.ownBlock) (hat : v'.ownBlock = vo.ownBlock ∨ v'.ownBlock = some w.heap.size) : One B w' bo va vn accs us rss K v' (lo ++ [x]) := by
  refine ⟨h.out.kept hg (fun g e => ⟨blk_of h.ord e, h.ordK g e⟩), IR.of_push hown, fun g e j hk => ?_⟩
  rcases hat with a | a
  · exact h.ordK g (a.symm.trans e) j hk
  · rw [a] at e
    cases e
    have := h.out.rows.lt j _ hk
    omega
theorem Out.one (h : Out B w bo va vn accs us rss K) : One B (w.alloc (.cells #[] 3)) bo va vn accs us rss K (.slice (some ⟨w.heap.size, 0, none⟩) 0 0) [] := by
  refine ⟨h.below ((Below.refl _ _).alloc (Nat.le_refl _) _), IR.none w (Nat.le_of_lt h.base), fun g hg j hk => ?_⟩
  simp [Value.ownBlock] at hg
  have := h.rows.lt j g hk
  omega
theorem One.acc_push {va' : Value} {b : Bool} (h : One B w bo va vn accs us rss K vo lo) (hown : w'.ownsRow B 4 1 va' (accs.length + 1) (bools accs ++ [.bool b])) (hg : w.grownBy w' va.ownBlock) :
    (∃ x, w'.cell? ⟨bo, 0, none⟩ = some x) ∧ w'.frozen? ⟨bo, 0, none⟩ = false ∧ One B (w'.setCell ⟨bo, 0, none⟩ va') bo va' vn (accs ++ [b]) us rss K vo lo := by
  obtain ⟨h1, h2, h3⟩ := h.out.acc_push hown hg
  have hrow : ∀ g, va.ownBlock = some g → ∃ cur e, w.heap[g]? = some (.cells cur e (0, 0)) ∧ e ≠ 3 := fun g e => by
    obtain ⟨cur, hh⟩ := blk_of h.out.acc e
    exact ⟨cur, _, hh, by decide⟩
  exact ⟨h1, h2, h3, h.ord.far hg hrow h.out.box, h.ordK⟩
theorem One.nxt_push {vn' : Value} (h : One B w bo va vn accs us rss K vo lo) (hrl : lo.length ≤ 9223372036854775807) (hown : w'.ownsRow B 68 1 vn' (us.length + 1) (us ++ [vo])) (hg : w.grownBy w' vn.ownBlock) :
    (∃ x, w'.cell? ⟨bo, 1, none⟩ = some x) ∧ w'.frozen? ⟨bo, 1, none⟩ = false ∧ Out B (w'.setCell ⟨bo, 1, none⟩ vn') bo va vn' accs (us ++ [vo]) (rss ++ [ints lo]) (fun j g => if j < us.length then K j g else j = us.length ∧ vo.ownBlock = some g) :=
  h.out.nxt_push h.ord hrl h.ordK hown hg
end Go.Proofs.YtlkhmpdncimnfaaGreatDoor

/-
  The search of a minimal automaton in the shape of a loop: what is met, the rows, step by step. Of no function of the program.
-/
namespace Go.Proofs.YtlkhmpdncimnfaaGreatDoor
open Go.RowKit

section
variable (s0 : Nat) (g : Nat → Nat → Nat)
/-- What is met, as numbers of the program. -/
def ordI (t : Nat) : List Int := (ords s0 g t).map fun x : Nat => (x : Int)
/-- The key of state i. -/
def keyI (i : Nat) : Nat := (ords s0 g (3 * i)).getD i default
/-- Where letter k leads from state i. -/
def toI (i k : Nat) : Nat := (ords s0 g (3 * i + k + 1)).idxOf (g (keyI s0 g i) k)
/-- State i's row so far. -/
def rowI (i k : Nat) : List Int := (List.range k).map fun j => (toI s0 g i j : Int)
end
variable {s0 : Nat} {g : Nat → Nat → Nat}
theorem ordI_length (t : Nat) : (ordI s0 g t).length = (ords s0 g t).length := by simp [ordI]
theorem rowI_length (i k : Nat) : (rowI s0 g i k).length = k := by simp [rowI]
theorem rowI_succ (i k : Nat) : rowI s0 g i (k + 1) = rowI s0 g i k ++ [(toI s0 g i k : Int)] := by simp [rowI, List.range_succ]
theorem findV_cast (l : List Nat) (x : Nat) : findV (l.map fun x : Nat => (x : Int)) (x : Int) = if x ∈ l then (l.idxOf x : Int) else -1 := by
  unfold findV
  have hm : ((x : Int) ∈ l.map fun x : Nat => (x : Int)) ↔ x ∈ l := by
    rw [List.mem_map]
    exact ⟨fun ⟨y, hy, e⟩ => by
      have : y = x := by exact_mod_cast e
      rw [← this]; exact hy, fun h => ⟨x, h, rfl⟩⟩
  by_cases h : x ∈ l
  · rw [if_pos h, if_pos (hm.2 h)]
    congr 1
    induction l with
    | nil => cases h
    | cons y r ih =>
      rw [List.map_cons, List.idxOf_cons, List.idxOf_cons]
      by_cases e : y = x
      · simp [e]
      · have e' : ((y : Int) == (x : Int)) = false := by simp; omega
        have e2 : (y == x) = false := by simp [e]
        have hr : x ∈ r := by
          rcases List.mem_cons.1 h with h | h
          · exact absurd h.symm e
          · exact h
        rw [e', e2]
        simp only [cond_false]
        rw [ih (by
          rw [List.mem_map]
          exact ⟨fun ⟨y, hy, e⟩ => by
            have : y = x := by exact_mod_cast e
            rw [← this]; exact hy, fun h => ⟨x, h, rfl⟩⟩) hr]
  · rw [if_neg h, if_neg (fun hh => h (hm.1 hh))]
/-- A state's key, later on. -/
theorem ordI_at {i t : Nat} (hi : i < (ords s0 g (3 * i)).length) (ht : 3 * i ≤ t) : i < (ordI s0 g t).length ∧ (ordI s0 g t).getD i 0 = (keyI s0 g i : Int) := by
  have h2 := (ords_prefix (s0 := s0) (g := g) ht).length_le
  have e : (ords s0 g t).getD i default = keyI s0 g i := ords_at ht hi
  refine ⟨by rw [ordI_length]; omega, ?_⟩
  rw [← e, ordI, List.getD_eq_getElem?_getD, List.getD_eq_getElem?_getD, List.getElem?_map, List.getElem?_eq_getElem (by omega)]
  rfl
/-- One step: met already, or met now. -/
theorem ordI_step {i k : Nat} (hi : i < (ords s0 g (3 * i)).length) (hk : k < 3) :
    (ordI s0 g (3 * i + k)).getD i 0 = (keyI s0 g i : Int) ∧
    ((findV (ordI s0 g (3 * i + k)) (g (keyI s0 g i) k : Int) < 0 → ordI s0 g (3 * i + (k + 1)) = ordI s0 g (3 * i + k) ++ [(g (keyI s0 g i) k : Int)]) ∧
     (¬ findV (ordI s0 g (3 * i + k)) (g (keyI s0 g i) k : Int) < 0 → ordI s0 g (3 * i + (k + 1)) = ordI s0 g (3 * i + k))) ∧
    findV (ordI s0 g (3 * i + (k + 1))) (g (keyI s0 g i) k : Int) = (toI s0 g i k : Int) := by
  have h2 := (ords_prefix (s0 := s0) (g := g) (show 3 * i ≤ 3 * i + k by omega)).length_le
  have e : (ords s0 g (3 * i + k)).getD i default = keyI s0 g i := ords_at (by omega) hi
  have hm := ords_mem (s0 := s0) (g := g) (3 * i + k)
  rw [show (3 * i + k) / 3 = i by omega, show (3 * i + k) % 3 = k by omega, e] at hm
  have hs : ords s0 g (3 * i + (k + 1)) = if g (keyI s0 g i) k ∈ ords s0 g (3 * i + k) then ords s0 g (3 * i + k) else ords s0 g (3 * i + k) ++ [g (keyI s0 g i) k] := by
    rw [show 3 * i + (k + 1) = 3 * i + k + 1 by omega, ords, show (3 * i + k) / 3 = i by omega, show (3 * i + k) % 3 = k by omega, e]
  refine ⟨?_, ⟨fun hn => ?_, fun hn => ?_⟩, ?_⟩
  · rw [← e, ordI, List.getD_eq_getElem?_getD, List.getD_eq_getElem?_getD, List.getElem?_map, List.getElem?_eq_getElem (by omega)]
    rfl
  · rw [ordI, findV_cast] at hn
    by_cases hx : g (keyI s0 g i) k ∈ ords s0 g (3 * i + k)
    · rw [if_pos hx] at hn
      omega
    · rw [ordI, hs, if_neg hx]
      simp [ordI]
  · rw [ordI, findV_cast] at hn
    by_cases hx : g (keyI s0 g i) k ∈ ords s0 g (3 * i + k)
    · rw [ordI, hs, if_pos hx]
      rfl
    · rw [if_neg hx] at hn
      omega
  · rw [ordI, findV_cast, show 3 * i + (k + 1) = 3 * i + k + 1 by omega, if_pos hm]
    rfl
/-- What has been laid when the search ends. -/
theorem ends_fields {N : Nat} (h : Ends s0 g N) (acc : Nat → Bool) : accOf (found s0 g acc N) = ((List.range N).map fun i => acc (keyI s0 g i)) ∧ nxtOf (found s0 g acc N) = (List.range N).map fun i => rowI s0 g i 3 := by
  have hk : ∀ i, i < N → (ords s0 g (3 * N)).getD i default = keyI s0 g i := fun i hi => ords_at (by omega) (h.on i hi)
  refine ⟨?_, ?_⟩
  · apply List.map_congr_left
    intro i hi
    have hi' : i < N := List.mem_range.1 hi
    show acc _ = _
    rw [hk i hi']
  · apply List.map_congr_left
    intro i hi
    have hi' : i < N := List.mem_range.1 hi
    apply List.map_congr_left
    intro k hk'
    have hk3 : k < 3 := List.mem_range.1 hk'
    obtain ⟨h1, h2⟩ := h.key hi' hk3
    show (((ords s0 g (3 * N)).idxOf (g ((ords s0 g (3 * N)).getD i default) k) : Nat) : Int) = _
    rw [hk i hi'] at h2 ⊢
    rw [idx_prefix (ords_prefix (show 3 * i + k + 1 ≤ 3 * N by omega)) h2]
    rfl
theorem ends_intro {N : Nat} (hon : ∀ i, i < N → i < (ords s0 g (3 * i)).length) (hstop : ¬ N < (ordI s0 g (3 * N)).length) : Ends s0 g N := ⟨hon, by rw [ordI_length] at hstop; omega⟩
end Go.Proofs.YtlkhmpdncimnfaaGreatDoor

/-
  'append' to a slice of the call's own, as one step of a region that draws its order. Of no program.
-/
namespace Go.Proofs.YtlkhmpdncimnfaaGreatDoor
open Go.RowKit

theorem step_append_own {P : Program} {ops : Array Oper} {o : Oper} {a : Act} {w : World} {K : Act → World → Prop} {Q : Exit → Act → World → Prop} {E : Prop}
    (hg : o.guard = none) (s x : Operand) (t : TypeId) (hop : o.op = Op.call { callee := Callee.builtin Builtin.append, args := #[s, x], argTypes := #[t, t] })
    (base : Nat) (e : TypeId) (i : TypeInfo) (z : Value) (size bytes : Nat) (h1 : P.underlying t = some (.slice e)) (h2 : P.info? e = some i) (h3 : i.zero = some z) (h4 : i.size = size) (h5 : i.bytes = bytes) (h6 : z.cells.size = size) (h7 : 0 < size)
    (v : Value) (n : Nat) (xs : List Value) (hs : a.eval s = v) (hown : w.ownsRow base e size v n xs) (ad : Addr) (m c : Nat) (news : List Value) (hx : a.eval x = .slice (some ad) m c) (hn : news.length = m * size)
    (hc : ∀ j u, news[j]? = some u → w.cell? (ad.add j) = some u) (h1c : ∀ u ∈ news, u.oneCell' = true) (b1 : n + m ≤ maxLen) (b2 : (n + m) * bytes ≤ 140737488355328) (hbase : base ≤ w.heap.size)
    (hK : ∀ v' w', w'.ownsRow base e size v' (n + m) (xs ++ news) → w.grownBy w' v.ownBlock → K (a.put o.dst v') w') :
    if Region.wanted o (yielded ops a.tmps) = true then Oper.wp P o a w K Q else E := by
  obtain ⟨v', w', hrun, ho, hgr, _⟩ := run_append_own (P := P) w base t o.type e i z size bytes h1 h2 h3 h4 h5 h6 h7 v n xs hown ad m c news hn hc h1c b1 b2 hbase
  rw [if_pos (by simp [Region.wanted, hg])]
  unfold Oper.wp
  simp [execOp, hop, resolve, invoke, builtin, hs, hx, hrun, Result.andThen]
  exact hK v' w' ho hgr
theorem step_append_own_at {P : Program} {ops : Array Oper} {o : Oper} {a : Act} {w : World} {K : Act → World → Prop} {Q : Exit → Act → World → Prop} {E : Prop}
    (hg : o.guard = none) (s x : Operand) (t : TypeId) (hop : o.op = Op.call { callee := Callee.builtin Builtin.append, args := #[s, x], argTypes := #[t, t] })
    (base : Nat) (e : TypeId) (i : TypeInfo) (z : Value) (size bytes : Nat) (h1 : P.underlying t = some (.slice e)) (h2 : P.info? e = some i) (h3 : i.zero = some z) (h4 : i.size = size) (h5 : i.bytes = bytes) (h6 : z.cells.size = size) (h7 : 0 < size)
    (v : Value) (n : Nat) (xs : List Value) (hs : a.eval s = v) (hown : w.ownsRow base e size v n xs) (ad : Addr) (m c : Nat) (news : List Value) (hx : a.eval x = .slice (some ad) m c) (hn : news.length = m * size)
    (hc : ∀ j u, news[j]? = some u → w.cell? (ad.add j) = some u) (h1c : ∀ u ∈ news, u.oneCell' = true) (b1 : n + m ≤ maxLen) (b2 : (n + m) * bytes ≤ 140737488355328) (hbase : base ≤ w.heap.size)
    (hK : ∀ v' w', w'.ownsRow base e size v' (n + m) (xs ++ news) → w.grownBy w' v.ownBlock → (v'.ownBlock = v.ownBlock ∨ v'.ownBlock = some w.heap.size) → K (a.put o.dst v') w') :
    if Region.wanted o (yielded ops a.tmps) = true then Oper.wp P o a w K Q else E := by
  obtain ⟨v', w', hrun, ho, hgr, _, hat⟩ := run_append_own_at (P := P) w base t o.type e i z size bytes h1 h2 h3 h4 h5 h6 h7 v n xs hown ad m c news hn hc h1c b1 b2 hbase
  rw [if_pos (by simp [Region.wanted, hg])]
  unfold Oper.wp
  simp [execOp, hop, resolve, invoke, builtin, hs, hx, hrun, Result.andThen]
  exact hK v' w' ho hgr hat
/-- A call of a Go function, as one step of a region that draws. -/
theorem step_call {P : Program} {ops : Array Oper} {o : Oper} {a : Act} {w : World} {K : Act → World → Prop} {Q : Exit → Act → World → Prop} {E : Prop}
    (hg : o.guard = none) (f : FuncId) (args : Array Operand) (ts : Array TypeId) (hop : o.op = Op.call { callee := Callee.value (.func f), args := args, argTypes := ts }) (hent : ∀ args w, (callFunc f args).run P w = .ok (.enter f args) w)
    (vs : Array Value) (hvs : args.map a.eval = vs) {R : Ending → World → Prop} (hC : Calls P f vs w R) (hR : ∀ e w', R e w' → ∃ v, e = .returned v ∧ K (a.put o.dst v) w') :
    if Region.wanted o (yielded ops a.tmps) = true then Oper.wp P o a w K Q else E := by
  rw [if_pos (by simp [Region.wanted, hg])]
  unfold Oper.wp
  have hrun : (execOp a.eval o).run P w = .ok (.enter f vs) w := by
    simp [execOp, hop, resolve, invoke, Act.eval, Deferred.ofValue, hent, ← hvs]
  rw [hrun, Oper.upon_enter]
  refine hC.mono fun e w' h => ?_
  obtain ⟨v, rfl, hk⟩ := hR e w' h
  exact hk
end Go.Proofs.YtlkhmpdncimnfaaGreatDoor

/-
  What spec.l5Minimal answers: the minimal automaton.
-/
namespace Go.Proofs.YtlkhmpdncimnfaaGreatDoor
open Go.RowKit

theorem Two.cell_row {B : Nat} {w : World} {v : Value} {l : List Int} (h : IR w B v l) (hl : l.length ≤ 9223372036854775807) {j : Nat} (hj : j < l.length) : ∃ ad c, v = .slice (some ad) l.length c ∧ w.cell? (ad.add j) = some (.int .i64 (l.getD j 0)) := by
  have h1 := (h.row hl).row
  obtain ⟨-, A, c, rfl⟩ := h1.ints_shape
  obtain ⟨ad, rfl, -, hc⟩ := h1.intD hj
  exact ⟨ad, c, rfl, hc⟩
theorem specFind_below {w V : World} {v : Value} {l : List Int} {B : Nat} (x : Int) (h : IR w B v l) (hl : l.length ≤ 9223372036854775807) (hV : Below w.heap.size w V) :
    Calls Tryz.prog 59 #[v, .int .i64 x] V fun e w' => e = .returned (.int .i64 (findV l x)) ∧ Below w.heap.size w w' :=
  (specFind_any v l _ x V ((h.row hl).row.kept hV)).mono (fun _ _ h => ⟨h.1, h.2 ▸ hV⟩)
theorem IR.alloc {w : World} {B : Nat} {v : Value} {l : List Int} (h : IR w B v l) (o : Obj) : IR (w.alloc o) B v l := h.below ((Below.refl _ _).alloc (Nat.le_refl _) _)

set_option maxRecDepth 100000 in
set_option maxHeartbeats 6400000 in
theorem specMin_any (va vn : Value) (a : Au) (S : Nat → Prop) (w : World) (hw : a.wf) (hn : a.n ≤ 2000) (h : DfaV w S va vn (fieldsOf a)) :
    Calls Tryz.prog 86 #[.agg #[va, vn]] w fun e w' => ∃ m, Canon m ∧ Eqv m 0 a 0 ∧ m.n ≤ a.n ∧ CopyD (fieldsOf m) w e w' := by
  obtain ⟨i0, hi, hz0, hz1, hz2⟩ := info_parts intInfo
  obtain ⟨b0, hbi, hb0, hb1, hb2⟩ := info_parts boolInfo
  obtain ⟨r0, hri, hr0, hr1, hr2⟩ := info_parts rowInfo
  obtain ⟨ad, cc, ad', cc', hva, hvn, hnl, hA, hT⟩ := h.cells hw.1
  subst hva
  subst hvn
  obtain ⟨W0, hW0⟩ : ∃ W0, W0 = (w.alloc (.cells #[.slice (some ad) a.n cc, .slice (some ad') a.n cc'] 29)).alloc (.cells #[.slice none 0 0, .slice none 0 0] 29) := ⟨_, rfl⟩
  have HB0 : Hid (Below w.heap.size w W0) := Lib.hid (by rw [hW0]; exact ((Below.refl _ _).alloc (Nat.le_refl _) _).alloc (by simp) _)
  have HX : Hid (Bx2 W0 w.heap.size (.slice (some ad) a.n cc) (.slice (some ad') a.n cc')) := Lib.hid (by
    have k := box2_kept (w := w) (w1 := W0) (a := .slice (some ad) a.n cc) (b := .slice (some ad') a.n cc') (t := 29) (by rw [hW0]; exact (Below.refl _ _).alloc (by simp) _)
    exact ⟨k.2.1, k.2.2.1⟩)
  have HY : Hid (W0.heap[w.heap.size + 1]? = some (.cells #[.slice none 0 0, .slice none 0 0] 29 (0, 0))) := Lib.hid (by rw [hW0]; exact three2 w _ _ _ _)
  have HCls := Lib.hid (specCls_any (.slice (some ad) a.n cc) (.slice (some ad') a.n cc') a S W0 hw hn (h.kept HB0.out))
  have HMath := Lib.hid hw
  have HKeys : Hid (∀ t, (∀ x ∈ ords (clsS a) (clsG a) t, x < a.n) ∧ (ords (clsS a) (clsG a) t).length ≤ a.n) := Lib.hid (fun t => ⟨fun x hx => (min_keys hw t x hx).1, nodup_len a.n _ (ords_nodup _) (fun x hx => (min_keys hw t x hx).1)⟩)
  obtain ⟨n, hne⟩ : ∃ n, n = a.n := ⟨_, rfl⟩
  have HA : Hid (∀ q, q < n → w.cell? (ad.add q) = some (.bool (a.A q))) := Lib.hid (by rw [hne]; exact hA)
  have HT : Hid (∀ x, x < n → ∃ ad2 c2, w.cell? (ad'.add x) = some (.slice (some ad2) 3 c2) ∧ ∀ k, k < 3 → w.cell? (ad2.add k) = some (.int .i64 ((a.T x k : Nat) : Int))) := Lib.hid (by rw [hne]; exact hT)
  have HWf : Hid (∀ x k, x < n → k < 3 → a.T x k < n) := Lib.hid (by rw [hne]; exact hw.2)
  have hn0 : 0 < n := by have := hw.1; omega
  rw [← hne] at hW0 HX hn hnl HCls HKeys
  rw [← hne]
  have HN := Lib.hid hne
  clear h hA hT hw hne
  have hc00 := (Lib.hid HX.out.1).out
  have hc01 := (Lib.hid HX.out.2).out
  rw [hW0] at hc00 hc01
  go_enter Tryz.func86, Tryz.ntmps86
  go_wp2_with fail
  go_at_call 99
  rw [← hW0]
  refine HCls.out.mono ?_
  rintro e w1 ⟨vc, rfl, hoc, hbc⟩
  obtain ⟨adc, mc, rfl, hcl⟩ := hoc.row.cls hn0
  have HC : Hid (∀ q, q < n → w1.cell? (adc.add q) = some (.int .i64 ((cls a (n + 1) q : Nat) : Int))) := Lib.hid hcl
  have HB1 := Lib.hid hbc
  have hcl0 := HC.out 0 hn0
  rw [show adc.add 0 = adc by cases adc; rfl] at hcl0
  obtain ⟨x0, hx0⟩ : ∃ x0 : Int, x0 = ((cls a (n + 1) 0 : Nat) : Int) := ⟨_, rfl⟩
  rw [← hx0] at hcl0
  have HX0 := Lib.hid hx0
  obtain ⟨HS, HSB⟩ := One.start w1 x0
  have HSt := Lib.hid HS
  have HStB := Lib.hid HSB
  have hs1 : w.heap.size + 1 < w1.heap.size := Nat.lt_of_lt_of_le (Array.getElem?_eq_some_iff.1 HY.out).1 HB1.out.size
  clear hoc hbc hcl hx0 HS HSB hc00 hc01
  go_wp2_with fail
  clear hcl0
  have HE0 : Hid (ordI (clsS a) (clsG a) (3 * 0) = [x0]) := Lib.hid (by rw [HX0.out, HN.out]; rfl)
  have HG : Hid (∀ x k, clsG a x k = cls a (n + 1) (a.T x k)) := Lib.hid (by rw [HN.out]; exact fun _ _ => rfl)
  obtain ⟨B, hBe⟩ : ∃ B, B = w1.heap.size := ⟨_, rfl⟩
  rw [← hBe] at hs1 HSt HStB
  have HBe := Lib.hid hBe
  go_loopw [4, 6] (fun vo iv wr => ∃ (i : Nat) (va' vn' : Value) (us : List Value) (K : Nat → Nat → Prop), iv = .int .i64 i ∧ i ≤ n ∧ us.length = i ∧ Hid (Below B w1 wr) ∧ Hid (∀ j, j < i → j < (ords (clsS a) (clsG a) (3 * j)).length) ∧ Hid (One B wr (B + 1) va' vn' ((List.range i).map fun j => a.A (keyI (clsS a) (clsG a) j)) us ((List.range i).map fun j => ints (rowI (clsS a) (clsG a) j 3)) K vo (ordI (clsS a) (clsG a) (3 * i)))) (fun _ iv _ => n + 1 - (intOf iv).toNat)
  case atStart => exact ⟨0, _, _, [], _, rfl, Nat.zero_le _, rfl, by rw [hBe] at HStB ⊢; exact HStB, Lib.hid (fun j hj => absurd hj (Nat.not_lt_zero _)), by rw [HE0.out]; rw [hBe] at HSt ⊢; exact HSt⟩
  clear HSt HStB hBe
  case round =>
    obtain ⟨i, va', vn', us, K, rfl, hin, hus, HBr, hon, ho⟩ := hrel
    obtain ⟨accs, hacc⟩ : ∃ accs, accs = (List.range i).map fun j => a.A (keyI (clsS a) (clsG a) j) := ⟨_, rfl⟩
    obtain ⟨rss, hrss⟩ : ∃ rss, rss = (List.range i).map fun j => ints (rowI (clsS a) (clsG a) j 3) := ⟨_, rfl⟩
    obtain ⟨lo, hlo⟩ : ∃ lo, lo = ordI (clsS a) (clsG a) (3 * i) := ⟨_, rfl⟩
    rw [← hacc, ← hrss, ← hlo] at ho
    have HAc := Lib.hid (And.intro hacc hrss)
    have hll : lo.length ≤ n := by rw [hlo, ordI_length]; exact (HKeys.out _).2
    have HLo := Lib.hid hlo
    clear hacc hrss hlo
    obtain ⟨-, Ao, co, rfl⟩ := (ho.out.ord.row (by omega)).row.ints_shape
    by_cases hlt : i < lo.length
    · have hd : decide ((i : Int) < (lo.length : Int)) = true := by simp; omega
      have HTwo := Lib.hid ho.out.two
      have HTw0 : Hid (Two B (wr.alloc (.cells #[] 3)) (B + 1) va' vn' accs us rss K (.slice Ao lo.length co) (ordI (clsS a) (clsG a) (3 * i + 0)) (.slice (some ⟨wr.heap.size, 0, none⟩) 0 0) (rowI (clsS a) (clsG a) i 0)) := by
        rw [show 3 * i + 0 = 3 * i from rfl, ← HLo.out]
        exact HTwo
      clear HTwo
      have HBa := Lib.hid (HBr.out.alloc (Nat.le_of_lt ho.out.base) (.cells #[] 3))
      go_wp2_with fail
      clear hd ho
      go_loopw [4, 7, 8] (fun vo vr kv wq => ∃ k : Nat, kv = .int .i64 k ∧ k ≤ 3 ∧ Hid (Below B w1 wq) ∧ Hid (Two B wq (B + 1) va' vn' accs us rss K vo (ordI (clsS a) (clsG a) (3 * i + k)) vr (rowI (clsS a) (clsG a) i k))) (fun _ _ kv _ => 3 - (intOf kv).toNat)
      case atStart => exact ⟨0, rfl, Nat.zero_le _, HBa, HTw0⟩
      case round =>
        obtain ⟨k, rfl, hk, HBq, HQ⟩ := hrel
        clear HTw0 HBa
        by_cases hk3 : k < 3
        · have hi1 : i < (ords (clsS a) (clsG a) (3 * i)).length := by rw [← ordI_length, ← HLo.out]; exact hlt
          obtain ⟨st1, st2, st3⟩ := ordI_step (s0 := clsS a) (g := clsG a) hi1 hk3
          have hxn : keyI (clsS a) (clsG a) i < n := (HKeys.out (3 * i)).1 _ (getD_mem hi1)
          have hln : (ordI (clsS a) (clsG a) (3 * i + k)).length ≤ n := by rw [ordI_length]; exact (HKeys.out _).2
          have hln' : (ordI (clsS a) (clsG a) (3 * i + (k + 1))).length ≤ n := by rw [ordI_length]; exact (HKeys.out _).2
          have hil : i < (ordI (clsS a) (clsG a) (3 * i + k)).length := by rw [ordI_length]; exact Nat.lt_of_lt_of_le hi1 (ords_prefix (by omega)).length_le
          obtain ⟨x, hx⟩ : ∃ x, x = keyI (clsS a) (clsG a) i := ⟨_, rfl⟩
          obtain ⟨lq, hlq⟩ : ∃ lq, lq = ordI (clsS a) (clsG a) (3 * i + k) := ⟨_, rfl⟩
          obtain ⟨lp, hlp⟩ : ∃ lp, lp = ordI (clsS a) (clsG a) (3 * i + (k + 1)) := ⟨_, rfl⟩
          rw [← hx, ← hlq] at st1
          rw [← hx, ← hlq, ← hlp, HG.out] at st2
          rw [← hx, ← hlp, HG.out] at st3
          rw [← hx] at hxn
          rw [← hlq] at hln hil HQ
          rw [← hlp] at hln'
          have HLp := Lib.hid hlp
          clear hx hlq hlp
          obtain ⟨ado, ca, rfl, hco⟩ := Two.cell_row HQ.out.one.ord (by omega) hil
          rw [st1] at hco
          obtain ⟨ad2, c2, hr2, hr3⟩ := HT.out x hxn
          have hr4 := hr3 k hk3
          have htn := HWf.out x k hxn hk3
          obtain ⟨y, hy⟩ : ∃ y, y = a.T x k := ⟨_, rfl⟩
          rw [← hy] at st2 st3 htn hr4
          have hq0 := HC.out y htn
          obtain ⟨q, hq⟩ : ∃ q : Int, q = ((cls a (n + 1) y : Nat) : Int) := ⟨_, rfl⟩
          rw [← hq] at st2 st3 hq0
          obtain ⟨z, hz⟩ : ∃ z, z = findV lq q := ⟨_, rfl⟩
          rw [← hz] at st2
          have HS2 := Lib.hid st2
          obtain ⟨tt, htt⟩ : ∃ tt : Int, tt = (toI (clsS a) (clsG a) i k : Int) := ⟨_, rfl⟩
          rw [← htt] at st3
          have HTt := Lib.hid htt
          have HS3 := Lib.hid st3
          have hrl : (rowI (clsS a) (clsG a) i k).length ≤ 3 := by rw [rowI_length]; omega
          have HFind := Lib.hid (fun V (hV : Below wr.heap.size wr V) => specFind_below q HQ.out.one.ord (by omega) hV)
          rw [← hz] at HFind
          clear hz
          have upw := fun {ad : Addr} {u : Value} (hc : w.cell? ad = some u) => ((HB0.out.trans ((HB1.out.trans (HBq.out.mono (by rw [HBe.out]; exact HB1.out.size))).mono HB0.out.size)).cell (cell_in hc)).trans hc
          have g2 := upw hr2
          have g3 := upw hr4
          have g4 := (HBq.out.cell (by rw [HBe.out]; exact cell_in hq0)).trans hq0
          have g5 := (HX.out.kept (HB1.out.trans (HBq.out.mono (by rw [HBe.out]; exact HB1.out.size)))).2
          have s1 : (x : Int) < (n : Int) := by omega
          have s2 : (0 : Int) ≤ (x : Int) := by omega
          have s3 : (y : Int) < (n : Int) := by omega
          have s4 : (0 : Int) ≤ (y : Int) := by omega
          have s5 : (i : Int) < (lq.length : Int) := by omega
          have s6 : (0 : Int) ≤ (i : Int) := by omega
          have s7 : (k : Int) < 3 := by omega
          have s8 : (0 : Int) ≤ (k : Int) := by omega
          have hd : decide ((k : Int) < 3) = true := by simp; omega
          clear htt st1 st2 st3 hr2 hr3 hr4 hq0 hq hy upw
          go_wp2_with fail
          go_quiet (fail)
          clear g2 g3 g4 g5 hco
          go_wp2_with fail
          go_at_call 59
          refine (HFind.out _ (below_draws (Below.refl _ _) _)).mono ?_
          rintro e w8 ⟨rfl, hb8⟩
          have HB8 := Lib.hid (HBq.out.grown (grown_of hb8) (Nat.le_of_lt HQ.out.one.base) (fun g e => by cases e))
          have HQ8 := Lib.hid (HQ.out.below hb8)
          clear hb8 hd
          by_cases hzz : z < 0
          · have hd : decide (z < 0) = true := by simp [hzz]
            have hap := HS2.out.1 hzz
            have HAp := Lib.hid hap
            have hbw : B ≤ w8.heap.size := Nat.le_of_lt HQ8.out.one.base
            clear hap hzz
            go_wp2_with (at_builtin; refine wpList_append_own_at _ rfl (.tmp 46) (.tmp 48) 68 rfl B 3 i0 (.int .i64 0) 1 8 Tryz.underlying68 hi hz0 hz1 hz2 rfl (by decide) _ _ _ rfl (HQ8.out.one.ord.alloc _) ⟨w8.heap.size, 0, none⟩ 1 1 [.int .i64 q] rfl rfl (cell_one_new _ _ _) (by simp [Value.oneCell']) (by unfold maxLen; omega) (by omega) (by simp; omega) ?_)
            intro v' w9 hown' hgrow hnil hat
            have HQ9 := Lib.hid ((HQ8.out.below ((Below.refl _ _).alloc (Nat.le_refl _) (.cells #[.int .i64 q] 3))).ord_push hown' hgrow (by simpa using hat))
            have HB9 := Lib.hid ((HB8.out.alloc hbw (.cells #[.int .i64 q] 3)).grown hgrow (by simp; omega) (fun g e => (HQ8.out.one.ord.lt g e).1))
            rw [← HAp.out] at HQ9
            clear hown' hgrow hnil hat hd
            have HF2 := Lib.hid (fun V (hV : Below w9.heap.size w9 V) => specFind_below q HQ9.out.one.ord (by omega) hV)
            rw [HS3.out] at HF2
            go_wp2_with fail
            go_at_call 59
            refine (HF2.out _ (Below.refl _ _)).mono ?_
            rintro e wd ⟨rfl, hbd⟩
            have HBd := Lib.hid (HB9.out.grown (grown_of hbd) (Nat.le_of_lt HQ9.out.one.base) (fun g e => by cases e))
            have HQd := Lib.hid (HQ9.out.below hbd)
            have hbw2 : B ≤ wd.heap.size := Nat.le_of_lt HQd.out.one.base
            clear hbd
            go_wp2_with (at_builtin; refine wpList_append_own_at _ rfl (.tmp 50) (.tmp 54) 68 rfl B 3 i0 (.int .i64 0) 1 8 Tryz.underlying68 hi hz0 hz1 hz2 rfl (by decide) _ _ _ rfl (HQd.out.row.alloc _) ⟨wd.heap.size, 0, none⟩ 1 1 [.int .i64 tt] rfl rfl (cell_one_new _ _ _) (by simp [Value.oneCell']) (by unfold maxLen; omega) (by omega) (by simp; omega) ?_)
            intro v2 wf hown2 hgrow2 hnil2 hat2
            have HQf := Lib.hid ((HQd.out.below ((Below.refl _ _).alloc (Nat.le_refl _) (.cells #[.int .i64 tt] 3))).row_push hown2 hgrow2 (by simpa using hat2))
            have HBf := Lib.hid ((HBd.out.alloc hbw2 (.cells #[.int .i64 tt] 3)).grown hgrow2 (by simp; omega) (fun g e => (HQd.out.row.lt g e).1))
            rw [HTt.out, ← rowI_succ] at HQf
            clear hown2 hgrow2 hnil2 hat2
            go_wp2_with fail
            go_roundw
            case rel => exact ⟨k + 1, by go_num, by omega, HBf, by rw [← HLp.out]; exact HQf⟩
            case measure => simp [intOf]; omega
          · have hd : decide (z < 0) = false := by simp; omega
            have hap := HS2.out.2 (by omega)
            subst hap
            have HQ9 := Lib.hid HQ8.out
            have HB9 := Lib.hid HB8.out
            clear hzz
            have HF2 := Lib.hid (fun V (hV : Below w8.heap.size w8 V) => specFind_below q HQ9.out.one.ord (by omega) hV)
            rw [HS3.out] at HF2
            go_wp2_with fail
            go_at_call 59
            refine (HF2.out _ (Below.refl _ _)).mono ?_
            rintro e wd ⟨rfl, hbd⟩
            have HBd := Lib.hid (HB9.out.grown (grown_of hbd) (Nat.le_of_lt HQ9.out.one.base) (fun g e => by cases e))
            have HQd := Lib.hid (HQ9.out.below hbd)
            have hbw2 : B ≤ wd.heap.size := Nat.le_of_lt HQd.out.one.base
            clear hbd
            go_wp2_with (at_builtin; refine wpList_append_own_at _ rfl (.tmp 50) (.tmp 54) 68 rfl B 3 i0 (.int .i64 0) 1 8 Tryz.underlying68 hi hz0 hz1 hz2 rfl (by decide) _ _ _ rfl (HQd.out.row.alloc _) ⟨wd.heap.size, 0, none⟩ 1 1 [.int .i64 tt] rfl rfl (cell_one_new _ _ _) (by simp [Value.oneCell']) (by unfold maxLen; omega) (by omega) (by simp; omega) ?_)
            intro v2 wf hown2 hgrow2 hnil2 hat2
            have HQf := Lib.hid ((HQd.out.below ((Below.refl _ _).alloc (Nat.le_refl _) (.cells #[.int .i64 tt] 3))).row_push hown2 hgrow2 (by simpa using hat2))
            have HBf := Lib.hid ((HBd.out.alloc hbw2 (.cells #[.int .i64 tt] 3)).grown hgrow2 (by simp; omega) (fun g e => (HQd.out.row.lt g e).1))
            rw [HTt.out, ← rowI_succ] at HQf
            clear hown2 hgrow2 hnil2 hat2
            go_wp2_with fail
            go_roundw
            case rel => exact ⟨k + 1, by go_num, by omega, HBf, by rw [← HLp.out]; exact HQf⟩
            case measure => simp [intOf]; omega
        · obtain rfl : k = 3 := by omega
          obtain ⟨-, Ar, cr, rfl⟩ := (HQ.out.row.row (by rw [rowI_length]; omega)).row.ints_shape
          have hi1 : i < (ords (clsS a) (clsG a) (3 * i)).length := by rw [← ordI_length, ← HLo.out]; exact hlt
          obtain ⟨hil, st1⟩ := ordI_at (s0 := clsS a) (g := clsG a) (t := 3 * i + 3) hi1 (by omega)
          have hxn : keyI (clsS a) (clsG a) i < n := (HKeys.out (3 * i)).1 _ (getD_mem hi1)
          have hln : (ordI (clsS a) (clsG a) (3 * i + 3)).length ≤ n := by rw [ordI_length]; exact (HKeys.out _).2
          obtain ⟨x, hx⟩ : ∃ x, x = keyI (clsS a) (clsG a) i := ⟨_, rfl⟩
          obtain ⟨lq, hlq⟩ : ∃ lq, lq = ordI (clsS a) (clsG a) (3 * i + 3) := ⟨_, rfl⟩
          rw [← hx, ← hlq] at st1
          rw [← hx] at hxn
          rw [← hlq] at hln hil HQ
          have HLq := Lib.hid hlq
          have HXx := Lib.hid hx
          clear hlq hx
          obtain ⟨ado, ca, rfl, hco⟩ := Two.cell_row HQ.out.one.ord (by omega) hil
          rw [st1] at hco
          have hax := HA.out x hxn
          obtain ⟨b, hb⟩ : ∃ b, b = a.A x := ⟨_, rfl⟩
          rw [← hb] at hax
          have HBx := Lib.hid hb
          have upw := fun {ad : Addr} {u : Value} (hc : w.cell? ad = some u) => ((HB0.out.trans ((HB1.out.trans (HBq.out.mono (by rw [HBe.out]; exact HB1.out.size))).mono HB0.out.size)).cell (cell_in hc)).trans hc
          have g2 := upw hax
          have g5 := (HX.out.kept (HB1.out.trans (HBq.out.mono (by rw [HBe.out]; exact HB1.out.size)))).1
          obtain ⟨e0, e1, f0, f1⟩ := box2_facts HQ.out.one.out.box
          rw [HBe.out] at e0 e1 f0 f1
          have HE1 := Lib.hid (And.intro e1 f1)
          have s1 : (x : Int) < (n : Int) := by omega
          have s2 : (0 : Int) ≤ (x : Int) := by omega
          have s5 : (i : Int) < (lq.length : Int) := by omega
          have s6 : (0 : Int) ≤ (i : Int) := by omega
          have hbw : B ≤ wr.heap.size := Nat.le_of_lt HQ.out.one.base
          clear hax hb st1 upw e1 f1
          have HQal := Lib.hid ((HQ.out.below ((Below.refl _ _).alloc (Nat.le_refl _) (.cells #[.bool b] 4))).below (Below.refl _ _).drew)
          have hbl : accs.length ≤ 2000 := by rw [HAc.out.1]; simp; omega
          obtain ⟨y1, -, y3, -⟩ := box2_facts (HQ.out.below ((Below.refl _ _).alloc (Nat.le_refl _) (.cells #[.bool b] 4))).one.out.box
          obtain ⟨y5, -, y7, -⟩ := box2_facts HQal.out.one.out.box
          rw [HBe.out] at y1 y3 y5 y7
          obtain ⟨Aa, qa, hva⟩ := (RowO.of_owns HQ.out.one.out.acc (by omega)).row.shape
          rw [bools_length] at hva
          subst hva
          go_upto_region 15 with fail
          go_cut [] from 17 to 74 (fun wc => ∃ va2, Hid (Two B wc (B + 1) va2 vn' (accs ++ [b]) us rss K (.slice (some ado) lq.length ca) lq (.slice Ar (rowI (clsS a) (clsG a) i 3).length cr) (rowI (clsS a) (clsG a) i 3)) ∧ Hid (Below B w1 wc))
          case first =>
            go_region_law (refine step_append_own_at rfl (.tmp 57) (.tmp 66) 26 rfl B 4 b0 (.bool false) 1 1 Tryz.underlying26 hbi hb0 hb1 hb2 rfl (by decide) _ _ _ rfl (HQ.out.one.out.acc.alloc _).drew ⟨wr.heap.size, 0, none⟩ 1 1 [.bool b] rfl rfl (cell_one_new wr _ _) (by simp [Value.oneCell']) (by unfold maxLen; omega) (by omega) (by simp; omega) ?_; intro v' w9 hown' hgrow hat; obtain ⟨g', cap', rfl⟩ := own_succ hown'; have HB9 := Lib.hid (((HBq.out.alloc hbw (.cells #[.bool b] 4)).drew.grown hgrow (by simp [World.drew]; omega) (fun g e => (HQal.out.one.out.acc.lt g e).1)).setCell (p := ⟨B + 1, 0, none⟩) (Nat.le_succ _) (.slice (some ⟨g', 0, none⟩) (accs.length + 1) cap')); obtain ⟨z1, z2, HQ9⟩ := HQal.out.acc_push hown' hgrow; obtain ⟨z0, z1⟩ := z1; have HQ9 := Lib.hid HQ9; rw [HBe.out] at z1 z2)
            all_goals
              clear hown' hgrow hat z1 z2
              go_wp2_with fail
              go_meet
              rw [← HBe.out]
              exact ⟨_, HQ9, HB9⟩
          case rest =>
            obtain ⟨va2, HQ9, HB9⟩ := hcut
            clear e0 f0 HE1 y1 y3 y5 y7 g2 g5 hco
            obtain ⟨e0, e1, f0, f1⟩ := box2_facts HQ9.out.one.out.box
            have hbw5 : B ≤ wc.heap.size := Nat.le_of_lt HQ9.out.one.base
            rw [HBe.out] at e1 f1
            clear e0 f0
            go_wp2_with (at_builtin; refine wpList_append_own_at _ rfl (.tmp 70) (.tmp 72) 27 rfl B 68 r0 (.slice none 0 0) 1 24 Tryz.underlying27 hri hr0 hr1 hr2 rfl (by decide) _ _ _ rfl (HQ9.out.one.out.nxt.alloc _) ⟨wc.heap.size, 0, none⟩ 1 1 [.slice Ar (rowI (clsS a) (clsG a) i 3).length cr] rfl rfl (cell_one_new _ _ _) (by simp [Value.oneCell']) (by unfold maxLen; omega) (by omega) (by simp; omega) ?_)
            intro v' wa hown' hgrow hnil hat
            obtain ⟨gn, capn, rfl⟩ := own_succ hown'
            have HQa := HQ9.out.below ((Below.refl _ _).alloc (Nat.le_refl _) (.cells #[.slice Ar (rowI (clsS a) (clsG a) i 3).length cr] 68))
            obtain ⟨⟨z0, z1⟩, z2, HQb⟩ := HQa.nxt_push (vn' := .slice (some ⟨gn, 0, none⟩) (i + 1) capn) (by rw [rowI_length]; omega) (by rw [hus]; exact hown') hgrow
            rw [HBe.out] at z1 z2
            have HBb := Lib.hid (((HB9.out.alloc hbw5 (.cells #[.slice Ar (rowI (clsS a) (clsG a) i 3).length cr] 68)).grown hgrow (by simp; omega) (fun g e => (HQ9.out.one.out.nxt.lt g e).1)).setCell (p := ⟨B + 1, 1, none⟩) (Nat.le_succ _) (.slice (some ⟨gn, 0, none⟩) (i + 1) capn))
            have HQb := Lib.hid HQb
            have HON : Hid (∀ j, j < i + 1 → j < (ords (clsS a) (clsG a) (3 * j)).length) := Lib.hid (fun j hj => by
              rcases Nat.lt_or_eq_of_le (Nat.le_of_lt_succ hj) with h | h
              · exact hon.out j h
              · rw [h]; exact hi1)
            have HA1 : Hid (accs ++ [b] = (List.range (i + 1)).map fun j => a.A (keyI (clsS a) (clsG a) j)) := Lib.hid (by rw [List.range_succ, List.map_append, HAc.out.1, HBx.out, HXx.out]; rfl)
            have HR1 : Hid (rss ++ [ints (rowI (clsS a) (clsG a) i 3)] = (List.range (i + 1)).map fun j => ints (rowI (clsS a) (clsG a) j 3)) := Lib.hid (by rw [List.range_succ, List.map_append, HAc.out.2]; rfl)
            have hul : (us ++ [Value.slice Ar (rowI (clsS a) (clsG a) i 3).length cr]).length = i + 1 := by simp [hus]
            rw [HA1.out, HR1.out] at HQb
            have HUl := Lib.hid hul
            clear hown' hgrow hnil hat HQa hul
            go_wp2_with fail
            go_roundw
            case rel => exact ⟨i + 1, _, _, us ++ [Value.slice Ar (rowI (clsS a) (clsG a) i 3).length cr], _, by go_num, by omega, HUl.out, by first | exact HBb | (rw [HBe.out] at HBb ⊢; exact HBb), HON, by rw [show 3 * (i + 1) = 3 * i + 3 by omega, ← HLq.out]; first | exact HQb | (rw [HBe.out] at HQb ⊢; exact HQb)⟩
            case measure => simp [intOf]; omega
    · have hE := ends_intro (s0 := clsS a) (g := clsG a) (N := i) hon.out (by rw [← HLo.out]; exact hlt)
      obtain ⟨m1, m2, m3⟩ := min_found HMath.out hE
      obtain ⟨f1, f2⟩ := ends_fields hE a.A
      have HM := Lib.hid (And.intro m1 (And.intro m2 m3))
      have hbl : accs.length ≤ 2000 := by rw [HAc.out.1]; simp; omega
      have HD : Hid (DfaO wr (fun g => B ≤ g ∧ g < wr.heap.size) va' vn' (fieldsOf (found (clsS a) (clsG a) a.A i))) := Lib.hid (ho.out.out.whole (by rw [HAc.out.1]; exact f1) (by
        rw [HAc.out.2]
        show intss (nxtOf (found (clsS a) (clsG a) a.A i)) = _
        rw [f2]
        simp [intss]) (by omega) (by omega))
      have hva := (RowO.of_owns ho.out.out.acc (by omega)).row.shape
      have hvn := (RowO.of_owns ho.out.out.nxt (by omega)).row.shape
      obtain ⟨A1, q1, rfl⟩ := hva
      obtain ⟨A2, q2, hvn2⟩ := hvn
      rw [hus] at hvn2
      subst hvn2
      obtain ⟨e0, e1, f0, f1⟩ := box2_facts ho.out.out.box
      have HBW := Lib.hid (HB1.out.trans (HBr.out.mono (by rw [HBe.out]; exact HB1.out.size)))
      have hyb := (HBW.out.block _ (Array.getElem?_eq_some_iff.1 HY.out).1).trans HY.out
      obtain ⟨c0, c1, k0, k1⟩ := box2_facts hyb
      have hd : decide ((i : Int) < (lo.length : Int)) = false := by simp; omega
      rw [HBe.out] at e0 e1
      obtain ⟨hcl, hsz, hot, hBl⟩ := put2 (k := .slice A1 (bools accs).length q1) (l := .slice A2 i q2) c0 c1
      obtain ⟨hc0, hc1⟩ := hcl
      have HOt := Lib.hid (And.intro hsz (And.intro hot hBl))
      clear m1 m2 m3 f0 f1 f2 hE hsz hot hBl hyb
      go_wp2_with fail
      refine bodyPost_ret (v := .agg #[.slice A1 (bools accs).length q1, .slice A2 i q2]) (by simp [results, Tryz.results86, go_sem, hc0, hc1]) rfl ?_
      exact ⟨_, HM.out.1, HM.out.2.1, by rw [HN.out]; exact HM.out.2.2, _, _, rfl, HD.out.mono (fun g hg => HOt.out.2.1 g (by have := hg.1; omega)) (fun g hg => ⟨by have := hg.1; omega, by rw [HOt.out.1]; exact hg.2⟩) (by rw [HOt.out.1]; exact Nat.le_refl _), HOt.out.2.2 _ _ (HB0.out.trans (HBW.out.mono HB0.out.size)) (Nat.le_succ _)⟩
end Go.Proofs.YtlkhmpdncimnfaaGreatDoor

/-
  Slices of strings in rows of the call's own: words and small steps that walks over such rows take.
-/
namespace Go.Proofs.YtlkhmpdncimnfaaGreatDoor
open Go.RowKit

/-- Strings as a row's cells. -/
def strs (ps : List (List UInt8)) : List Value := ps.map fun p => .string ⟨p.toArray⟩
theorem strs_append (a b : List (List UInt8)) : strs (a ++ b) = strs a ++ strs b := by simp [strs]
theorem strs_length (a : List (List UInt8)) : (strs a).length = a.length := by simp [strs]
theorem strInfo : (Tryz.prog.info? 9).map (fun i => (i.zero, i.size, i.bytes)) = some (some (.string ⟨#[]⟩), 1, 16) := by kernel_rfl

/-- A slice of strings in a row of its own, from block B on. -/
def SplPost (ps : List (List UInt8)) (w : World) (e : Ending) (w' : World) : Prop :=
  ∃ v, e = .returned v ∧ w'.ownsRow w.heap.size 9 1 v ps.length (strs ps) ∧ Below w.heap.size w w'

theorem newCell (wr : World) (t : TypeId) (x : ByteArray) : ∀ j u, [Value.string x][j]? = some u → (wr.alloc (.cells #[.string x] t)).cell? ((⟨wr.heap.size, 0, none⟩ : Addr).add j) = some u := by
  intro j u hj
  match j, hj with
  | 0, hj => simp at hj; subst hj; simp [Addr.add]
theorem oneCell_str (x : ByteArray) : ∀ u ∈ [Value.string x], u.oneCell' = true := by
  intro u hu
  simp at hu
  subst hu
  rfl
theorem extract_str (s : ByteArray) (f k : Nat) : s.extract f k = ⟨((s.data.toList.drop f).take (k - f)).toArray⟩ := by
  cases s with | mk d =>
  apply ByteArray.ext
  apply Array.toList_inj.1
  simp

/-- One piece more. -/
theorem grow_strs {wr w1 w : World} {B : Nat} {v v' : Value} {P : List (List UInt8)} {x : ByteArray} {p : List UInt8} {o : Obj} (hx : x = ⟨p.toArray⟩) (hown : wr.ownsRow B 9 1 v P.length (strs P)) (hb : Below B w wr) (hB : B ≤ wr.heap.size)
    (hown' : w1.ownsRow B 9 1 v' (P.length + 1) (strs P ++ [.string x])) (hg : (wr.alloc o).grownBy w1 v.ownBlock) :
    w1.ownsRow B 9 1 v' (P ++ [p]).length (strs (P ++ [p])) ∧ Below B w w1 := by
  refine ⟨?_, (hb.alloc hB o).grown hg (by simp; omega) (fun k hk => (hown.lt k hk).1)⟩
  rw [strs_append, List.length_append]
  subst hx
  exact hown'

/-- A row of the call's own: a slice without elements, or a row in a block. -/
theorem own_cases {w : World} {B : Nat} {v : Value} {n : Nat} {xs : List Value} (h : w.ownsRow B 9 1 v n xs) :
    (n = 0 ∧ ∃ A c, v = .slice A 0 c) ∨ ∃ g c, v = .slice (some ⟨g, 0, none⟩) n c := by
  rcases h.2 with ⟨rfl, h0⟩ | ⟨g, cap, cur, rfl, _⟩
  · exact .inl ⟨h0, none, 0, rfl⟩
  · exact .inr ⟨g, cap, rfl⟩
/-- A row of the call's own, from an earlier block on. -/
theorem own_lower {w : World} {B B' n : Nat} {e : TypeId} {size : Nat} {v : Value} {xs : List Value} (h : w.ownsRow B e size v n xs) (hB : B' ≤ B) : w.ownsRow B' e size v n xs := by
  refine ⟨h.1, ?_⟩
  rcases h.2 with h0 | ⟨g, cap, cur, h1, h2, h3⟩
  · exact .inl h0
  · exact .inr ⟨g, cap, cur, h1, Nat.le_trans hB h2, h3⟩
theorem grown_of_below {w w' : World} (h : Below w.heap.size w w') (row : Option Nat) : w.grownBy w' row := ⟨h.os, h.tape, h.output, h.size, fun k hk _ => h.block k hk⟩
theorem grown_trans {a b c : World} {row : Option Nat} (h : a.grownBy b row) (k : b.grownBy c row) : a.grownBy c row :=
  ⟨k.os.trans h.os, k.tape.trans h.tape, k.output.trans h.output, Nat.le_trans h.size k.size, fun i hi hne => (k.block i (Nat.lt_of_lt_of_le hi h.size) hne).trans (h.block i hi hne)⟩
/-- A row of the call's own over calls that turn nothing old, and over a writing into another block. -/
theorem owns_below {w w' : World} {B : Nat} {e : TypeId} {size n : Nat} {v : Value} {xs : List Value} (h : w.ownsRow B e size v n xs) (hb : Below w.heap.size w w') : w'.ownsRow B e size v n xs :=
  h.kept (grown_of_below hb none) (by cases hv : v.ownBlock <;> simp)
end Go.Proofs.YtlkhmpdncimnfaaGreatDoor

/-
  Plain facts on words over three letters, of no program: all words of a length, the next word, the order; each word is followed by its next one.
-/
namespace Go.Proofs.YtlkhmpdncimnfaaGreatDoor

def letters : List UInt8 := [97, 98, 99]
/-- All words of n letters, in order. -/
def wordsOf : Nat → List (List UInt8)
  | 0 => [[]]
  | n + 1 => (wordsOf n).flatMap fun w => letters.map fun b => w ++ [b]
/-- All words of at most n letters. -/
def wordsTo : Nat → List (List UInt8)
  | 0 => wordsOf 0
  | n + 1 => wordsTo n ++ wordsOf (n + 1)
def isLetter (b : UInt8) : Bool := decide (97 ≤ b.toNat) && decide (b.toNat ≤ 99)
def isW (l : List UInt8) : Bool := l.all isLetter && decide (l.length ≤ 30)
/-- The next word, the last letter ahead. -/
def bump : List UInt8 → Option (List UInt8)
  | [] => none
  | b :: r => if b.toNat < 99 then some (UInt8.ofNat (b.toNat + 1) :: r) else (bump r).map (97 :: ·)
def nextW (l : List UInt8) : List UInt8 :=
  if isW l then
    match bump l.reverse with
    | some r => r.reverse
    | none => if l.length + 1 ≤ 30 then List.replicate (l.length + 1) 97 else []
  else []
/-- The order: shorter first, then byte by byte. -/
def lessB : List UInt8 → List UInt8 → Bool
  | [], [] => false
  | [], _ :: _ => true
  | _ :: _, [] => false
  | a :: r, b :: s => if a.toNat < b.toNat then true else if b.toNat < a.toNat then false else lessB r s
def cmpW (a b : List UInt8) : Int :=
  if a.length < b.length then -1 else if b.length < a.length then 1 else if lessB a b then -1 else if lessB b a then 1 else 0

theorem lessB_asymm : ∀ a b, lessB a b = true → lessB b a = false
  | [], [], h => by simp [lessB] at h
  | [], _ :: _, _ => rfl
  | _ :: _, [], h => by simp [lessB] at h
  | a :: r, b :: s, h => by
    unfold lessB at h ⊢
    by_cases h1 : a.toNat < b.toNat
    · rw [if_neg (by omega), if_pos h1]
    · rw [if_neg h1] at h
      by_cases h2 : b.toNat < a.toNat
      · rw [if_pos h2] at h
        cases h
      · rw [if_neg h2] at h
        rw [if_neg h2, if_neg h1]
        exact lessB_asymm r s h
theorem less_eq : ∀ a b, Op.bytesLess a b = lessB a b
  | [], [] => rfl
  | [], _ :: _ => rfl
  | _ :: _, [] => rfl
  | a :: r, b :: s => by
    unfold Op.bytesLess lessB
    rw [less_eq r s]
    by_cases h1 : a.toNat < b.toNat
    · rw [if_pos h1]
      simp [UInt8.lt_iff_toNat_lt, h1]
    · rw [if_neg h1]
      by_cases h2 : b.toNat < a.toNat
      · rw [if_pos h2]
        have hne : a ≠ b := fun e => by rw [e] at h2; omega
        simp [UInt8.lt_iff_toNat_lt, h1, hne]
      · rw [if_neg h2]
        have he : a = b := UInt8.toNat_inj.1 (by omega)
        subst he
        simp
theorem lessB_total : ∀ a b, lessB a b = false → lessB b a = false → a = b
  | [], [], _, _ => rfl
  | [], _ :: _, h, _ => by simp [lessB] at h
  | _ :: _, [], _, h => by simp [lessB] at h
  | a :: r, b :: s, h, h' => by
    unfold lessB at h h'
    by_cases h1 : a.toNat < b.toNat
    · rw [if_pos h1] at h; cases h
    · by_cases h2 : b.toNat < a.toNat
      · rw [if_pos h2] at h'; cases h'
      · rw [if_neg h1, if_neg h2] at h
        rw [if_neg h2, if_neg h1] at h'
        have he : a = b := UInt8.toNat_inj.1 (by omega)
        rw [he, lessB_total r s h h']
theorem cmpW_neg (a b : List UInt8) : cmpW a b = 0 - cmpW b a := by
  unfold cmpW
  by_cases h1 : a.length < b.length
  · rw [if_pos h1, if_neg (by omega), if_pos h1]
    rfl
  · rw [if_neg h1]
    by_cases h2 : b.length < a.length
    · rw [if_pos h2, if_pos h2]
      rfl
    · rw [if_neg h2, if_neg h2, if_neg h1]
      cases ha : lessB a b with
      | true => rw [lessB_asymm a b ha]; rfl
      | false =>
        cases hb : lessB b a with
        | true => rfl
        | false => rfl

/-- Each word of the list comes before the one behind it, and is followed by it. -/
def stepsOk : List (List UInt8) → Bool
  | a :: b :: r => decide (cmpW a b = -1) && (nextW a == b) && stepsOk (b :: r)
  | _ => true
theorem stepsOk_at : ∀ (l : List (List UInt8)) (k : Nat) (a b : List UInt8), stepsOk l = true → l[k]? = some a → l[k + 1]? = some b → cmpW a b = -1 ∧ nextW a = b
  | x :: y :: r, 0, a, b, h, ha, hb => by
    simp at ha hb
    subst ha hb
    simp only [stepsOk, Bool.and_eq_true, decide_eq_true_eq, beq_iff_eq] at h
    exact ⟨h.1.1, h.1.2⟩
  | x :: y :: r, k + 1, a, b, h, ha, hb => by
    simp only [stepsOk, Bool.and_eq_true] at h
    exact stepsOk_at (y :: r) k a b h.2 (by simpa using ha) (by simpa using hb)
  | [x], k, a, b, _, ha, hb => by
    cases k <;> simp at hb
  | [], k, a, b, _, ha, _ => by simp at ha
theorem words_ok : ((List.range 6).all fun n => stepsOk (wordsTo n)) = true := by decide +kernel
theorem wordsOf_length : ∀ n, (wordsOf n).length = 3 ^ n
  | 0 => rfl
  | n + 1 => by
    unfold wordsOf
    rw [List.length_flatMap]
    simp [letters, Nat.pow_succ, List.map_const', wordsOf_length n]
end Go.Proofs.YtlkhmpdncimnfaaGreatDoor

/-
  Letters and words: places, and what makes a word. Of no function of the program.
-/
namespace Go.Proofs.YtlkhmpdncimnfaaGreatDoor
open Go.RowKit

/-- The place of a letter, or -1. -/
def letIdx (b : UInt8) : Int := if b = 97 then 0 else if b = 98 then 1 else if b = 99 then 2 else -1

theorem letIdx_lib (b : UInt8) : Lib.indexByte [97, 98, 99] b = letIdx b := by
  unfold letIdx
  by_cases h0 : b = 97
  · subst h0; rfl
  · by_cases h1 : b = 98
    · subst h1; rfl
    · by_cases h2 : b = 99
      · subst h2; rfl
      · rw [if_neg h0, if_neg h1, if_neg h2]
        have e0 : ¬ (97 = b) := fun e => h0 e.symm
        have e1 : ¬ (98 = b) := fun e => h1 e.symm
        have e2 : ¬ (99 = b) := fun e => h2 e.symm
        simp [Lib.indexByte, e0, e1, e2]


theorem letIdx_yes {b : UInt8} (h : isLetter b = true) : letIdx b = (b.toNat : Int) - 97 ∧ 97 ≤ b.toNat ∧ b.toNat ≤ 99 := by
  simp only [isLetter, Bool.and_eq_true, decide_eq_true_eq] at h
  refine ⟨?_, h.1, h.2⟩
  unfold letIdx
  by_cases h0 : b = 97
  · rw [if_pos h0, h0]; rfl
  · by_cases h1 : b = 98
    · rw [if_neg h0, if_pos h1, h1]; rfl
    · have h2 : b = 99 := by
        have n0 : b.toNat ≠ 97 := fun e => h0 (UInt8.toNat_inj.1 e)
        have n1 : b.toNat ≠ 98 := fun e => h1 (UInt8.toNat_inj.1 e)
        exact UInt8.toNat_inj.1 (show b.toNat = 99 by omega)
      rw [if_neg h0, if_neg h1, if_pos h2, h2]; rfl
theorem letIdx_no {b : UInt8} (h : isLetter b = false) : letIdx b = -1 := by
  have n : b.toNat ≠ 97 ∧ b.toNat ≠ 98 ∧ b.toNat ≠ 99 := by
    refine ⟨fun e => ?_, fun e => ?_, fun e => ?_⟩ <;> simp [isLetter, e] at h
  unfold letIdx
  rw [if_neg (fun e => n.1 (by rw [e]; rfl)), if_neg (fun e => n.2.1 (by rw [e]; rfl)), if_neg (fun e => n.2.2 (by rw [e]; rfl))]

theorem all_take_succ (s : ByteArray) (k : Nat) (h : k < s.size) : (s.data.toList.take (k + 1)).all isLetter = ((s.data.toList.take k).all isLetter && isLetter s[k]) := by
  rw [List.take_succ_eq_append_getElem (by simpa using h), List.all_append]
  simp
  rfl
theorem isW_bad {s : ByteArray} {k : Nat} (h : k < s.size) (hb : isLetter s[k] = false) : isW s.data.toList = false := by
  have : s.data.toList.all isLetter = false := by
    rw [List.all_eq_false]
    exact ⟨s[k], List.mem_iff_getElem.2 ⟨k, by simpa using h, rfl⟩, by simp [hb]⟩
  simp [isW, this]
theorem isW_all {s : ByteArray} (h : (s.data.toList.take s.size).all isLetter = true) : isW s.data.toList = decide ((s.size : Int) ≤ 30) := by
  have e : s.data.toList.take s.size = s.data.toList := List.take_of_length_le (by simp)
  rw [e] at h
  unfold isW
  rw [h, Bool.true_and]
  simp
  omega
theorem isW_long {s : ByteArray} (h : 30 < s.size) : isW s.data.toList = false := by
  unfold isW
  rw [Bool.and_eq_false_iff]
  right
  simp
  omega

end Go.Proofs.YtlkhmpdncimnfaaGreatDoor

/-
  Automata of values and what they read: the run of a word. Of no function of the program.
-/
namespace Go.Proofs.YtlkhmpdncimnfaaGreatDoor
open Go.RowKit

def auD (d : Dx) : Au := auOf d.acc d.nxt
def idxN (b : UInt8) : Nat := (letIdx b).toNat
/-- The letters' numbers. -/
def idxs (s : List UInt8) : List Nat := s.map idxN
theorem idxs_W3 {s : List UInt8} (h : s.all isLetter = true) : W3 (idxs s) := fun k hk => by
  obtain ⟨b, hb, rfl⟩ := List.mem_map.1 hk
  have := letIdx_yes (List.all_eq_true.1 h b hb)
  unfold idxN
  omega
theorem run_snoc (a : Au) (q : Nat) (u : List Nat) (k : Nat) : a.run q (u ++ [k]) = a.T (a.run q u) k := by rw [Au.run_append]; rfl
def runOk (d : Dx) (q : Int) (s : List UInt8) : Bool := validD d && decide (0 ≤ q) && decide (q ≤ (d.acc.length : Int) - 1) && isW s
def runV (d : Dx) (q : Int) (s : List UInt8) : Int := if runOk d q s then (((auD d).run q.toNat (idxs s) : Nat) : Int) else 0
def accR (d : Dx) (s : List UInt8) : Bool := runOk d 0 s && (auD d).A ((auD d).run 0 (idxs s))
/-- An automaton's cells, by its states. -/
theorem DfaV.au {w : World} {S : Nat → Prop} {va vn : Value} {d : Dx} (h : DfaV w S va vn d) (hv : validD d = true) :
    (auD d).wf ∧ (auD d).n ≤ 40 ∧ (auD d).n = d.acc.length ∧ d.nxt.length = d.acc.length ∧ ∃ ad c ad' c', va = .slice (some ad) d.acc.length c ∧ vn = .slice (some ad') d.acc.length c' ∧
      (∀ q, q < d.acc.length → w.cell? (ad.add q) = some (.bool ((auD d).A q))) ∧ ∀ q, q < d.acc.length → ∃ ad2 c2, w.cell? (ad'.add q) = some (.slice (some ad2) 3 c2) ∧ ∀ k, k < 3 → w.cell? (ad2.add k) = some (.int .i64 (((auD d).T q k : Nat) : Int)) := by
  obtain ⟨hw, hn, ha, hx⟩ := of_validF hv
  obtain ⟨⟨A, c, rfl⟩, A', c', rfl⟩ := h.shape
  have hpos : 0 < d.acc.length := hw.1
  have hl : d.nxt.length = d.acc.length := by rw [hx, nxtOf_length]; rfl
  obtain ⟨ad, rfl, -, -⟩ := h.1.boolD hpos
  obtain ⟨ad', -, rfl, -, -, -⟩ := h.2.atD (by rw [hl]; exact hpos)
  refine ⟨hw, hn, rfl, hl, ad, c, ad', c', rfl, by rw [hl], fun q hq => ?_, fun q hq => ?_⟩
  · obtain ⟨ad0, e, -, hc⟩ := h.1.boolD hq
    cases e
    exact hc
  · obtain ⟨ad0, u, e, -, hc, hr⟩ := h.2.atD (j := q) (by rw [hl]; exact hq)
    cases e
    have hrow : d.nxt.getD q [] = (List.range 3).map fun k => ((auD d).T q k : Int) := by
      have := nxtOf_at (auD d) (show q < (auD d).n from hq)
      rw [show nxtOf (auD d) = d.nxt from hx.symm] at this
      rw [List.getD_eq_getElem?_getD, this]
      rfl
    rw [hrow] at hr
    obtain ⟨-, A2, c2, rfl⟩ := hr.ints_shape
    simp only [List.length_map, List.length_range] at hr hc
    obtain ⟨ad2, rfl, -, -⟩ := hr.intD (j := 0) (by simp)
    refine ⟨ad2, c2, hc, fun k hk => ?_⟩
    obtain ⟨ad3, e, -, hc3⟩ := hr.intD (j := k) (by simpa using hk)
    cases e
    rw [hc3]
    simp [List.getD_eq_getElem?_getD, hk]
end Go.Proofs.YtlkhmpdncimnfaaGreatDoor

/-
  The minimal automaton of a valid one, as an answer; its complement. Of no function of the program.
  What spec.l5Fits answers: the minimal automaton, where it has not too many states.
  How large a minimal automaton and its complement are.
-/
namespace Go.Proofs.YtlkhmpdncimnfaaGreatDoor
open Go.RowKit

/-- The minimal automaton, or none. -/
def minR (d y : Dx) : Prop := if validD d = true then ∃ m, Canon m ∧ Eqv m 0 (auD d) 0 ∧ y = fieldsOf m else y = ⟨[], []⟩
theorem fieldsOf_au {d : Dx} (h : validD d = true) : (auD d).wf ∧ (auD d).n ≤ 40 ∧ d = fieldsOf (auD d) := by
  obtain ⟨h1, h2, h3, h4⟩ := of_validF h
  refine ⟨h1, h2, ?_⟩
  cases d
  simp only [fieldsOf, auD] at *
  rw [← h3, ← h4]
theorem minR_some (d : Dx) : ∃ y, minR d y := by
  unfold minR
  by_cases h : validD d = true
  · simp only [h, if_true]
    obtain ⟨m, h1, h2, _⟩ := exists_min (fieldsOf_au h).1
    exact ⟨_, m, h1, h2, rfl⟩
  · simp only [h]
    exact ⟨_, rfl⟩
theorem Eqv.swap {a b c : Au} {p q r : Nat} (h : Eqv a p c r) (h' : Eqv b q c r) : Eqv a p b q := fun w hw => (h w hw).trans (h' w hw).symm
theorem fields_one {m m' : Au} (h : Canon m) (h' : Canon m') (he : Eqv m 0 m' 0) : fieldsOf m = fieldsOf m' := by
  obtain ⟨h1, h2⟩ := min_fields h h' he
  unfold fieldsOf
  rw [h1, h2]
theorem minR_one {d y y' : Dx} (h : minR d y) (h' : minR d y') : y = y' := by
  unfold minR at h h'
  by_cases hv : validD d = true
  · simp only [hv, if_true] at h h'
    obtain ⟨m, h1, h2, rfl⟩ := h
    obtain ⟨m', h1', h2', rfl⟩ := h'
    exact fields_one h1 h1' (h2.swap h2')
  · simp only [hv] at h h'
    exact h.trans h'.symm
theorem RowO.empty (w : World) (S : Nat → Prop) : RowO w S (.slice none 0 0) [] :=
  (RowO.of_owns (base := 0) (e := 3) (n := 0) (xs := []) (v := .slice none 0 0) ⟨rfl, .inl ⟨rfl, rfl⟩⟩ (by omega)).mono (fun _ _ => rfl) (fun g hg => by simp [Value.ownBlock] at hg)
theorem DfaO.empty (w : World) (S : Nat → Prop) : DfaO w S (.slice none 0 0) (.slice none 0 0) ⟨[], []⟩ :=
  ⟨fun _ => False, fun _ => False, RowO.empty w _, ⟨[], fun _ => False, fun _ _ => False, RowO.empty w _, RowsP.nil _ _, fun _ h => h.elim⟩, fun _ h => h.elim, fun _ h => h.elim⟩
/-- The complement of an automaton's fields. -/
def comD (y : Dx) : Dx := ⟨y.acc.map (!·), y.nxt⟩
/-- Turned up to place i. -/
def turned (l : List Bool) (i : Nat) : List Bool := (l.take i).map (!·) ++ l.drop i
theorem turned_length (l : List Bool) (i : Nat) : (turned l i).length = l.length := by
  simp [turned]
  omega
theorem turned_at {l : List Bool} {i : Nat} (hi : i < l.length) : (turned l i).getD i false = l.getD i false := by
  have h1 : ((l.take i).map (!·)).length = i := by simp; omega
  rw [turned, List.getD_eq_getElem?_getD, List.getElem?_append_right (by omega), h1, Nat.sub_self, List.getElem?_drop, List.getD_eq_getElem?_getD, Nat.add_zero]
theorem turned_step {l : List Bool} {i : Nat} (hi : i < l.length) : (bools (turned l i)).set i (.bool (!(l.getD i false))) = bools (turned l (i + 1)) := by
  have e : l.drop i = l[i] :: l.drop (i + 1) := List.drop_eq_getElem_cons hi
  have h1 : ((l.take i).map (!·)).length = i := by simp; omega
  have h2 : turned l (i + 1) = (l.take i).map (!·) ++ (!l[i]) :: l.drop (i + 1) := by
    rw [turned, List.take_succ_eq_append_getElem hi, List.map_append, List.append_assoc]
    rfl
  rw [h2, turned, e, show l.getD i false = l[i] by rw [List.getD_eq_getElem?_getD, List.getElem?_eq_getElem hi]; rfl]
  simp only [bools, List.map_append, List.map_cons]
  rw [List.set_append_right _ _ (by simp; omega)]
  simp
  have : i - min i l.length = 0 := by omega
  rw [this]
  rfl
theorem turned_all (l : List Bool) : turned l l.length = l.map (!·) := by simp [turned]
theorem turned_zero (l : List Bool) : turned l 0 = l := by simp [turned]
end Go.Proofs.YtlkhmpdncimnfaaGreatDoor

namespace Go.Proofs.YtlkhmpdncimnfaaGreatDoor
open Go.RowKit

theorem validD_fields {m : Au} (h : m.wf) : validD (fieldsOf m) = decide (m.n ≤ 40) := by
  by_cases hn : m.n ≤ 40
  · rw [decide_eq_true hn]
    exact validF_of h hn
  · rw [decide_eq_false hn]
    exact validF_big (by omega)
/-- What fits. -/
def fitD (m : Au) : Dx := if m.n ≤ 40 then fieldsOf m else ⟨[], []⟩

set_option maxRecDepth 100000 in
set_option maxHeartbeats 3200000 in
theorem specFits_any (va vn : Value) (a : Au) (S : Nat → Prop) (w : World) (hw : a.wf) (hn : a.n ≤ 2000) (h : DfaV w S va vn (fieldsOf a)) :
    Calls Tryz.prog 58 #[.agg #[va, vn]] w fun e w' => ∃ m, Canon m ∧ Eqv m 0 a 0 ∧ CopyDB (fitD m) (decide (m.n ≤ 40)) w e w' := by
  obtain ⟨⟨A, c, hA⟩, A', c', hA'⟩ := h.shape
  subst hA
  subst hA'
  obtain ⟨p, hp⟩ : ∃ p, p = (fieldsOf a).acc.length := ⟨_, rfl⟩
  obtain ⟨p', hp'⟩ : ∃ p', p' = (fieldsOf a).nxt.length := ⟨_, rfl⟩
  rw [← hp, ← hp'] at h ⊢
  obtain ⟨W0, hW0⟩ : ∃ W0, W0 = (w.alloc (.cells #[.slice A p c, .slice A' p' c'] 29)).alloc (.cells #[.slice none 0 0, .slice none 0 0] 29) := ⟨_, rfl⟩
  have HB0 : Hid (Below w.heap.size w W0) := Lib.hid (by rw [hW0]; exact ((Below.refl _ _).alloc (Nat.le_refl _) _).alloc (by simp) _)
  have hx := (by
    have k := box2_kept (w := w) (w1 := W0) (a := .slice A p c) (b := .slice A' p' c') (t := 29) (by rw [hW0]; exact (Below.refl _ _).alloc (by simp) _)
    exact ⟨k.2.1, k.2.2.1⟩ : Bx2 W0 w.heap.size (.slice A p c) (.slice A' p' c'))
  have HY : Hid (W0.heap[w.heap.size + 1]? = some (.cells #[.slice none 0 0, .slice none 0 0] 29 (0, 0))) := Lib.hid (by rw [hW0]; exact three2 w _ _ _ _)
  have HM := Lib.hid (specMin_any (.slice A p c) (.slice A' p' c') a S W0 hw hn (h.kept HB0.out))
  obtain ⟨hc00, hc01⟩ := hx
  rw [hW0] at hc00 hc01
  clear h hp hp'
  go_enter Tryz.func58, Tryz.ntmps58
  go_wp2_with fail
  go_at_call 86
  rw [← hW0]
  refine HM.out.mono ?_
  rintro e w2 ⟨m, m1, m2, m3, hcd⟩
  obtain ⟨A1, q1, A2, q2, rfl, hoo, hb2⟩ := hcd.shape
  clear hc00 hc01 hcd hW0
  have hv := validD_fields m1.wf
  obtain ⟨n, hn⟩ : ∃ n, n = (fieldsOf m).acc.length := ⟨_, rfl⟩
  obtain ⟨n', hn'⟩ : ∃ n', n' = (fieldsOf m).nxt.length := ⟨_, rfl⟩
  rw [← hn] at hoo ⊢
  rw [← hn'] at hoo ⊢
  have h0 := hb2.size
  have h00 := HB0.out.size
  have hlt := (Array.getElem?_eq_some_iff.1 HY.out).1
  have HY2 : Hid (w2.heap[w.heap.size + 1]? = some (.cells #[.slice none 0 0, .slice none 0 0] 29 (0, 0))) := Lib.hid ((hb2.block _ hlt).trans HY.out)
  obtain ⟨Wx, hWx⟩ : ∃ Wx, Wx = w2.alloc (.cells #[.slice A1 n q1, .slice A2 n' q2] 29) := ⟨_, rfl⟩
  have HXB : Hid (Wx.heap[w2.heap.size]? = some (.cells #[.slice A1 n q1, .slice A2 n' q2] 29 (0, 0))) := Lib.hid (by
    rw [hWx]
    exact heap_alloc_new w2 _)
  have HXO : Hid (Below w2.heap.size w2 Wx) := Lib.hid (by
    rw [hWx]
    exact (Below.refl _ _).alloc (Nat.le_refl _) _)
  obtain ⟨b, hb⟩ : ∃ b, b = decide (m.n ≤ 40) := ⟨_, rfl⟩
  have HV := Lib.hid (specValidD_any (.slice A1 n q1) (.slice A2 n' q2) (fieldsOf m) _ Wx (hoo.dfa.kept HXO.out))
  rw [hv, ← hb] at HV
  have HBb := Lib.hid hb
  have HO := Lib.hid hoo
  have HB2 := Lib.hid hb2
  have HM1 := Lib.hid (And.intro m1 m2)
  obtain ⟨x0, x1, -, -⟩ := box2_facts HXB.out
  rw [hWx] at x0 x1
  clear hoo hn hn' hb2 hlt hb hv m1 m2 m3
  go_wp2_with fail
  go_at_call 53
  rw [← hWx]
  refine HV.out.mono ?_
  rintro e w3 ⟨rfl, hb3⟩
  clear x0 x1 hWx
  have HB3 := Lib.hid hb3
  have hxl := (Array.getElem?_eq_some_iff.1 HXB.out).1
  have hyl := (Array.getElem?_eq_some_iff.1 HY2.out).1
  obtain ⟨x0, x1, -, -⟩ := box2_facts ((hb3.block _ hxl).trans HXB.out)
  obtain ⟨e0, e1, k0, k1⟩ := box2_facts ((hb3.block _ (Nat.lt_of_lt_of_le hyl HXO.out.size)).trans ((HXO.out.block _ hyl).trans HY2.out))
  have HBW : Hid (Below w2.heap.size w2 w3) := Lib.hid (HXO.out.trans (hb3.mono HXO.out.size))
  have hyl0 := (Array.getElem?_eq_some_iff.1 HY.out).1
  clear hb3 hxl hyl
  cases b with
  | true =>
    obtain ⟨hcl, hsz, hot, hBl⟩ := put2 (k := .slice A1 n q1) (l := .slice A2 n' q2) e0 e1
    obtain ⟨hc0, hc1⟩ := hcl
    have HOt := Lib.hid (And.intro hsz (And.intro hot hBl))
    clear hsz hot hBl
    go_wp2_with fail
    refine bodyPost_ret (v := .tuple #[.agg #[.slice A1 n q1, .slice A2 n' q2], .bool true]) (by simp [results, Tryz.results58, go_sem, hc0, hc1]) rfl ?_
    have hb : m.n ≤ 40 := of_decide_eq_true HBb.out.symm
    refine ⟨m, HM1.out.1, HM1.out.2, ?_⟩
    rw [decide_eq_true hb, fitD, if_pos hb]
    exact ⟨_, _, rfl, HO.out.mono (fun g hg => (HOt.out.2.1 g (by have := hg.1; omega)).trans (HBW.out.block g hg.2)) (fun g hg => ⟨by have := hg.1; omega, by rw [HOt.out.1]; have := hg.2; have := HBW.out.size; omega⟩) (by rw [HOt.out.1]; exact HBW.out.size), HOt.out.2.2 _ _ (HB0.out.trans ((HB2.out.trans (HBW.out.mono h0)).mono h00)) (Nat.le_succ _)⟩
  | false =>
    obtain ⟨hcl, hsz, hot, hBl⟩ := put2 (k := .slice none 0 0) (l := .slice none 0 0) e0 e1
    obtain ⟨hc0, hc1⟩ := hcl
    have HOt := Lib.hid (And.intro hsz (And.intro hot hBl))
    clear hsz hot hBl
    go_wp2_with fail
    refine bodyPost_ret (v := .tuple #[.agg #[.slice none 0 0, .slice none 0 0], .bool false]) (by simp [results, Tryz.results58, go_sem, hc0, hc1]) rfl ?_
    have hb : ¬ m.n ≤ 40 := of_decide_eq_false HBb.out.symm
    refine ⟨m, HM1.out.1, HM1.out.2, ?_⟩
    rw [decide_eq_false hb, fitD, if_neg hb]
    exact ⟨_, _, rfl, DfaO.empty _ _, HOt.out.2.2 _ _ (HB0.out.trans ((HB2.out.trans (HBW.out.mono h0)).mono h00)) (Nat.le_succ _)⟩
end Go.Proofs.YtlkhmpdncimnfaaGreatDoor

namespace Go.Proofs.YtlkhmpdncimnfaaGreatDoor
open Go.RowKit

theorem tot_rows (f : Nat → List Int) (h : ∀ i, (f i).length = 3) : ∀ n, totR ((List.range n).map f) = n * 3
  | 0 => rfl
  | n + 1 => by
    have ih := tot_rows f h n
    unfold totR at ih ⊢
    rw [List.range_succ, List.map_append, List.map_append, List.sum_append, ih]
    simp [h]
    omega
theorem fieldsOf_wt {m : Au} (h : m.n ≤ 40) : wtD (fieldsOf m) ≤ 1048576 := by
  have h1 : (fieldsOf m).acc.length = m.n := accOf_length m
  have h2 : (fieldsOf m).nxt.length = m.n := nxtOf_length m
  have h3 : totR (fieldsOf m).nxt = m.n * 3 := tot_rows _ (fun i => by simp) m.n
  unfold wtD
  omega
theorem minR_au {d y : Dx} (h : minR d y) (hv : validD d = true) : ∃ m, Canon m ∧ Eqv m 0 (auD d) 0 ∧ y = fieldsOf m ∧ m.n ≤ 40 := by
  obtain ⟨q1, q2, _⟩ := fieldsOf_au hv
  obtain ⟨m', h1, h2, h3⟩ := exists_min q1
  have h' : minR d (fieldsOf m') := by
    unfold minR
    rw [if_pos hv]
    exact ⟨m', h1, h2, rfl⟩
  exact ⟨m', h1, h2, minR_one h h', by omega⟩
theorem minR_wt {d y : Dx} (h : minR d y) : wtD y ≤ 1048576 := by
  by_cases hv : validD d = true
  · obtain ⟨m, _, _, rfl, hm⟩ := minR_au h hv
    exact fieldsOf_wt hm
  · unfold minR at h
    rw [if_neg hv] at h
    subst h
    decide
theorem comD_wt {y : Dx} (h : wtD y ≤ 1048576) : wtD (comD y) ≤ 1048576 := by
  unfold wtD comD at *
  simpa using h
end Go.Proofs.YtlkhmpdncimnfaaGreatDoor

/-
  The product of two automata, as an answer. Of no function of the program.
  What spec.ProductDfa begins with.
-/
namespace Go.Proofs.YtlkhmpdncimnfaaGreatDoor
open Go.RowKit

def fK (kind : Int) : Bool → Bool → Bool := if kind = 6 then (· || ·) else (· && ·)
theorem fK_or : fK 6 = (· || ·) := rfl
theorem fK_and : fK 7 = (· && ·) := rfl
/-- The product's minimal automaton, where it has not too many states. -/
def proR (a b : Dx) (kind : Int) (y : Dx) (ok : Bool) : Prop :=
  if validD a = true ∧ validD b = true ∧ (kind = 6 ∨ kind = 7) then ∃ m, Canon m ∧ Eqv m 0 (prd (auD a) (auD b) (fK kind)) 0 ∧ y = fitD m ∧ ok = decide (m.n ≤ 40) else y = ⟨[], []⟩ ∧ ok = false
theorem proR_some (a b : Dx) (kind : Int) : ∃ y ok, proR a b kind y ok := by
  unfold proR
  by_cases h : validD a = true ∧ validD b = true ∧ (kind = 6 ∨ kind = 7)
  · obtain ⟨m, h1, h2, _⟩ := exists_min (prd_wf (fK kind) (fieldsOf_au h.1).1 (fieldsOf_au h.2.1).1)
    exact ⟨fitD m, decide (m.n ≤ 40), by rw [if_pos h]; exact ⟨m, h1, h2, rfl, rfl⟩⟩
  · exact ⟨⟨[], []⟩, false, by rw [if_neg h]; exact ⟨rfl, rfl⟩⟩
theorem fit_one {m m' : Au} (h : Canon m) (h' : Canon m') (he : Eqv m 0 m' 0) : fitD m = fitD m' ∧ decide (m.n ≤ 40) = decide (m'.n ≤ 40) := by
  have h1 := (canon_unique h h' he).1
  have h2 := fields_one h h' he
  unfold fitD
  rw [h1, h2]
  exact ⟨rfl, rfl⟩
theorem fitD_wt (m : Au) : wtD (fitD m) ≤ 1048576 := by
  unfold fitD
  by_cases h : m.n ≤ 40
  · rw [if_pos h]
    exact fieldsOf_wt h
  · rw [if_neg h]
    decide
theorem proR_wt {a b : Dx} {kind : Int} {y : Dx} {ok : Bool} (h : proR a b kind y ok) : wtD y ≤ 1048576 := by
  unfold proR at h
  by_cases hc : validD a = true ∧ validD b = true ∧ (kind = 6 ∨ kind = 7)
  · rw [if_pos hc] at h
    obtain ⟨m, _, _, rfl, _⟩ := h
    exact fitD_wt m
  · rw [if_neg hc] at h
    rw [h.1]
    decide
theorem proR_yes {a b : Dx} {kind : Int} {y : Dx} {ok : Bool} (h : proR a b kind y ok) (ha : validD a = true) (hb : validD b = true) (hk : kind = 6 ∨ kind = 7) {m : Au} (h1 : Canon m) (h2 : Eqv m 0 (prd (auD a) (auD b) (fK kind)) 0) : fitD m = y ∧ decide (m.n ≤ 40) = ok := by
  unfold proR at h
  rw [if_pos ⟨ha, hb, hk⟩] at h
  obtain ⟨m', n1, n2, rfl, rfl⟩ := h
  exact fit_one h1 n1 (h2.swap n2)
theorem proR_no {a b : Dx} {kind : Int} {y : Dx} {ok : Bool} (h : proR a b kind y ok) (hn : ¬ (validD a = true ∧ validD b = true ∧ (kind = 6 ∨ kind = 7))) : y = ⟨[], []⟩ ∧ ok = false := by
  unfold proR at h
  rwa [if_neg hn] at h
end Go.Proofs.YtlkhmpdncimnfaaGreatDoor

namespace Go.Proofs.YtlkhmpdncimnfaaGreatDoor
open Go.RowKit

theorem One.start2 (w1 : World) (x : Int) :
    let W3 := (w1.alloc (.cells #[.slice none 0 0, .slice none 0 0] 29)).alloc (.cells #[.int .i64 x] 3)
    One w1.heap.size W3 w1.heap.size (.slice none 0 0) (.slice none 0 0) [] [] [] (fun _ _ => False) (.slice (some ⟨w1.heap.size + 1, 0, none⟩) 1 1) [x] ∧ Below w1.heap.size w1 W3 := by
  intro W3
  have h0 := Out.start w1 (Nat.le_refl _)
  have h1 := IR.one (w1.alloc (.cells #[.slice none 0 0, .slice none 0 0] 29)) x (B := w1.heap.size) (by simp)
  rw [World.size_alloc] at h1
  exact ⟨⟨h0.below ((Below.refl _ _).alloc (Nat.le_refl _) _), h1, fun _ _ _ h => h⟩, ((Below.refl _ _).alloc (Nat.le_refl _) _).alloc (by simp) _⟩
theorem three_box' (w : World) (a b c : Obj) : let W := ((w.alloc a).alloc b).alloc c
    W.heap[w.heap.size]? = some a ∧ W.heap[w.heap.size + 1]? = some b ∧ W.heap[w.heap.size + 1 + 1]? = some c ∧ Below w.heap.size w W := by
  intro W
  have h1 := heap_alloc_new (w.alloc a) b
  have h2 := heap_alloc_new ((w.alloc a).alloc b) c
  rw [World.size_alloc] at h1 h2
  rw [World.size_alloc] at h2
  exact ⟨(Below.heap_alloc _ _ _ (by simp; omega)).trans ((Below.heap_alloc _ _ _ (by simp)).trans (heap_alloc_new w a)), (Below.heap_alloc _ _ _ (by simp)).trans h1, h2, (((Below.refl _ _).alloc (Nat.le_refl _) _).alloc (by simp) _).alloc (by simp; omega) _⟩
/-- What the product's code answers where both are valid. -/
def PrdPostS (a b : Au) (f : Bool → Bool → Bool) (w : World) (e : Ending) (w' : World) : Prop := ∃ m, Canon m ∧ Eqv m 0 (prd a b f) 0 ∧ CopyDB (fitD m) (decide (m.n ≤ 40)) w e w'

end Go.Proofs.YtlkhmpdncimnfaaGreatDoor

/-
  Concatenations and repetitions as searches over a state and a set of states: what a key accepts. Of no function of the program.
  The minimal automaton of a search that may meet too many keys, as an answer: concatenations, repetitions. Of no function of the program but the answers' names.
-/
namespace Go.Proofs.YtlkhmpdncimnfaaGreatDoor

/-- A set of states, ascending: one more. -/
def putS : List Nat → Nat → List Nat
  | [], q => [q]
  | x :: s, q => if x < q then x :: putS s q else if x = q then x :: s else q :: x :: s
theorem mem_putS {x q : Nat} : ∀ {s : List Nat}, x ∈ putS s q ↔ x = q ∨ x ∈ s
  | [] => by simp [putS]
  | y :: s => by
    unfold putS
    by_cases h1 : y < q
    · rw [if_pos h1, List.mem_cons, mem_putS, List.mem_cons]
      constructor
      · rintro (h | h | h)
        · exact .inr (.inl h)
        · exact .inl h
        · exact .inr (.inr h)
      · rintro (h | h | h)
        · exact .inr (.inl h)
        · exact .inl h
        · exact .inr (.inr h)
    · rw [if_neg h1]
      by_cases h2 : y = q
      · subst h2
        rw [if_pos rfl]
        simp
      · rw [if_neg h2]
        simp
theorem putS_asc {q : Nat} : ∀ {s : List Nat}, s.Pairwise (· < ·) → (putS s q).Pairwise (· < ·)
  | [], _ => by simp [putS]
  | y :: s, h => by
    obtain ⟨h0, h'⟩ := List.pairwise_cons.1 h
    unfold putS
    by_cases h1 : y < q
    · rw [if_pos h1]
      refine List.pairwise_cons.2 ⟨fun z hz => ?_, putS_asc h'⟩
      rcases mem_putS.1 hz with rfl | hz
      · exact h1
      · exact h0 z hz
    · rw [if_neg h1]
      by_cases h2 : y = q
      · rw [if_pos h2]
        exact h
      · rw [if_neg h2]
        refine List.pairwise_cons.2 ⟨fun z hz => ?_, h⟩
        rcases List.mem_cons.1 hz with rfl | hz
        · omega
        · have := h0 z hz
          omega
/-- Two ascending lists with the same elements are the same. -/
theorem asc_eq : ∀ {s t : List Nat}, s.Pairwise (· < ·) → t.Pairwise (· < ·) → (∀ x, x ∈ s ↔ x ∈ t) → s = t
  | [], [], _, _, _ => rfl
  | [], y :: t, _, _, h => absurd ((h y).2 (List.mem_cons_self ..)) (by simp)
  | y :: s, [], _, _, h => absurd ((h y).1 (List.mem_cons_self ..)) (by simp)
  | x :: s, y :: t, hs, ht, h => by
    obtain ⟨hs0, hs'⟩ := List.pairwise_cons.1 hs
    obtain ⟨ht0, ht'⟩ := List.pairwise_cons.1 ht
    have e : x = y := by
      rcases List.mem_cons.1 ((h x).1 (List.mem_cons_self ..)) with e | hx
      · exact e
      · rcases List.mem_cons.1 ((h y).2 (List.mem_cons_self ..)) with e | hy
        · exact e.symm
        · have := ht0 x hx
          have := hs0 y hy
          omega
    subst e
    rw [asc_eq hs' ht' (fun z => ?_)]
    constructor
    · intro hz
      rcases List.mem_cons.1 ((h z).1 (List.mem_cons_of_mem _ hz)) with rfl | h2
      · have := hs0 z hz
        omega
      · exact h2
    · intro hz
      rcases List.mem_cons.1 ((h z).2 (List.mem_cons_of_mem _ hz)) with rfl | h2
      · have := ht0 z hz
        omega
      · exact h2
/-- The set after a letter. -/
def moveS (d : Au) (s : List Nat) (k : Nat) : List Nat := s.foldl (fun out q => putS out (d.T q k)) []
theorem mem_move_from {d : Au} {k x : Nat} : ∀ (s o : List Nat), x ∈ s.foldl (fun out q => putS out (d.T q k)) o ↔ x ∈ o ∨ ∃ q ∈ s, d.T q k = x
  | [], o => by simp
  | y :: s, o => by
    rw [List.foldl_cons, mem_move_from s, mem_putS]
    constructor
    · rintro ((rfl | h) | ⟨q, hq, e⟩)
      · exact .inr ⟨y, List.mem_cons_self .., rfl⟩
      · exact .inl h
      · exact .inr ⟨q, List.mem_cons_of_mem _ hq, e⟩
    · rintro (h | ⟨q, hq, e⟩)
      · exact .inl (.inr h)
      · rcases List.mem_cons.1 hq with rfl | hq
        · exact .inl (.inl e.symm)
        · exact .inr ⟨q, hq, e⟩
theorem mem_move {d : Au} {k x : Nat} {s : List Nat} : x ∈ moveS d s k ↔ ∃ q ∈ s, d.T q k = x := by
  unfold moveS
  rw [mem_move_from]
  simp
theorem move_from_asc {d : Au} {k : Nat} : ∀ (s o : List Nat), o.Pairwise (· < ·) → (s.foldl (fun out q => putS out (d.T q k)) o).Pairwise (· < ·)
  | [], _, h => h
  | _ :: s, _, h => move_from_asc s _ (putS_asc h)
theorem move_asc (d : Au) (s : List Nat) (k : Nat) : (moveS d s k).Pairwise (· < ·) := move_from_asc s [] List.Pairwise.nil
def anyS (d : Au) (s : List Nat) : Bool := s.any d.A
theorem anyS_iff {d : Au} {s : List Nat} : anyS d s = true ↔ ∃ q ∈ s, d.A q = true := by simp [anyS]

/-- The concatenation's search. -/
def catS (a : Au) : Nat × List Nat := (0, if a.A 0 then [0] else [])
def catG (a b : Au) (x : Nat × List Nat) (k : Nat) : Nat × List Nat := (a.T x.1 k, if a.A (a.T x.1 k) then putS (moveS b x.2 k) 0 else moveS b x.2 k)
/-- What a key accepts: a state of the set does, or the word is divided later on. -/
def catL (a b : Au) (x : Nat × List Nat) (w : List Nat) : Prop := (∃ q ∈ x.2, b.A (b.run q w) = true) ∨ ∃ u v, w = u ++ v ∧ u ≠ [] ∧ a.A (a.run x.1 u) = true ∧ b.A (b.run 0 v) = true
theorem catL_nil (a b : Au) (x : Nat × List Nat) : catL a b x [] ↔ anyS b x.2 = true := by
  rw [anyS_iff]
  unfold catL
  constructor
  · rintro (h | ⟨u, v, e, hu, _⟩)
    · exact h
    · exact absurd (List.append_eq_nil_iff.1 e.symm).1 hu
  · exact fun h => .inl h
theorem catL_step (a b : Au) (x : Nat × List Nat) (k : Nat) (w : List Nat) : catL a b (catG a b x k) w ↔ catL a b x (k :: w) := by
  have hm : ∀ q, q ∈ (catG a b x k).2 ↔ (a.A (a.T x.1 k) = true ∧ q = 0) ∨ ∃ p ∈ x.2, b.T p k = q := fun q => by
    unfold catG
    by_cases h : a.A (a.T x.1 k) = true
    · simp only [h, if_true]
      rw [mem_putS, mem_move]
      simp
    · simp only [h]
      simp only [Bool.false_eq_true, if_false, false_and, false_or]
      exact mem_move
  unfold catL
  constructor
  · rintro (⟨q, hq, hb⟩ | ⟨u, v, rfl, hu, ha, hb⟩)
    · rcases (hm q).1 hq with ⟨ha, rfl⟩ | ⟨p, hp, rfl⟩
      · exact .inr ⟨[k], w, rfl, by simp, ha, hb⟩
      · exact .inl ⟨p, hp, hb⟩
    · exact .inr ⟨k :: u, v, rfl, by simp, ha, hb⟩
  · rintro (⟨p, hp, hb⟩ | ⟨u, v, e, hu, ha, hb⟩)
    · exact .inl ⟨b.T p k, (hm _).2 (.inr ⟨p, hp, rfl⟩), hb⟩
    · cases u with
      | nil => exact absurd rfl hu
      | cons y u =>
        injection e with e1 e2
        subst e1
        cases u with
        | nil =>
          have e3 : w = v := e2
          subst e3
          exact .inl ⟨0, (hm 0).2 (.inl ⟨ha, rfl⟩), hb⟩
        | cons z u => exact .inr ⟨z :: u, v, e2, by simp, ha, hb⟩
theorem catL_start (a b : Au) (w : List Nat) : catL a b (catS a) w ↔ ∃ u v, w = u ++ v ∧ a.A (a.run 0 u) = true ∧ b.A (b.run 0 v) = true := by
  unfold catL catS
  constructor
  · rintro (⟨q, hq, hb⟩ | ⟨u, v, e, _, ha, hb⟩)
    · by_cases h : a.A 0 = true
      · simp only [h, if_true, List.mem_singleton] at hq
        subst hq
        exact ⟨[], w, rfl, h, hb⟩
      · simp only [h] at hq
        simp at hq
    · exact ⟨u, v, e, ha, hb⟩
  · rintro ⟨u, v, e, ha, hb⟩
    cases u with
    | nil =>
      have e3 : w = v := e
      subst e3
      have h : a.A 0 = true := ha
      exact .inl ⟨0, by simp [h], hb⟩
    | cons y u => exact .inr ⟨y :: u, v, e, by simp, ha, hb⟩

/-- A word that can be divided into words of d. -/
inductive StarW (d : Au) : List Nat → Prop
  | nil : StarW d []
  | app (u v : List Nat) : u ≠ [] → d.A (d.run 0 u) = true → StarW d v → StarW d (u ++ v)
theorem StarW.more {d : Au} {u v : List Nat} (ha : d.A (d.run 0 u) = true) (hv : StarW d v) : StarW d (u ++ v) := by
  by_cases hu : u = []
  · rw [hu]
    exact hv
  · exact .app u v hu ha hv
/-- The repetition's search: a mark for the first key, and a set. -/
def starS : Bool × List Nat := (true, [0])
def starG (d : Au) (x : Bool × List Nat) (k : Nat) : Bool × List Nat := (false, if anyS d (moveS d x.2 k) then putS (moveS d x.2 k) 0 else moveS d x.2 k)
def starA (d : Au) (x : Bool × List Nat) : Bool := x.1 || anyS d x.2
/-- With an accepting state the set holds the first state. -/
def StarC (d : Au) (x : Bool × List Nat) : Prop := (∃ q ∈ x.2, d.A q = true) → 0 ∈ x.2
theorem starC_start (d : Au) : StarC d starS := fun _ => by simp [starS]
theorem mem_starG {d : Au} {x : Bool × List Nat} {k q : Nat} : q ∈ (starG d x k).2 ↔ (∃ p ∈ x.2, d.T p k = q) ∨ ((∃ p ∈ x.2, d.A (d.T p k) = true) ∧ q = 0) := by
  have ha : anyS d (moveS d x.2 k) = true ↔ ∃ p ∈ x.2, d.A (d.T p k) = true := by
    rw [anyS_iff]
    constructor
    · rintro ⟨q, hq, h⟩
      obtain ⟨p, hp, rfl⟩ := mem_move.1 hq
      exact ⟨p, hp, h⟩
    · rintro ⟨p, hp, h⟩
      exact ⟨_, mem_move.2 ⟨p, hp, rfl⟩, h⟩
  unfold starG
  by_cases h : anyS d (moveS d x.2 k) = true
  · simp only [h, if_true]
    rw [mem_putS, mem_move]
    have := ha.1 h
    constructor
    · rintro (rfl | h2)
      · exact .inr ⟨this, rfl⟩
      · exact .inl h2
    · rintro (h2 | ⟨_, rfl⟩)
      · exact .inr h2
      · exact .inl rfl
  · have hn : ¬ ∃ p ∈ x.2, d.A (d.T p k) = true := fun h2 => h (ha.2 h2)
    simp only [h]
    simp only [Bool.false_eq_true, if_false]
    rw [mem_move]
    constructor
    · exact fun h2 => .inl h2
    · rintro (h2 | ⟨h2, _⟩)
      · exact h2
      · exact absurd h2 hn
theorem starC_step (d : Au) (x : Bool × List Nat) (k : Nat) : StarC d (starG d x k) := by
  rintro ⟨q, hq, h⟩
  rcases mem_starG.1 hq with ⟨p, hp, rfl⟩ | ⟨h2, _⟩
  · exact mem_starG.2 (.inr ⟨⟨p, hp, h⟩, rfl⟩)
  · exact mem_starG.2 (.inr ⟨h2, rfl⟩)
/-- What a key accepts. -/
def starL (d : Au) (x : Bool × List Nat) (w : List Nat) : Prop := (x.1 = true ∧ w = []) ∨ ∃ q ∈ x.2, ∃ u v, w = u ++ v ∧ d.A (d.run q u) = true ∧ StarW d v
theorem starL_nil (d : Au) (x : Bool × List Nat) : starL d x [] ↔ starA d x = true := by
  unfold starL starA
  rw [Bool.or_eq_true, anyS_iff]
  constructor
  · rintro (⟨h, _⟩ | ⟨q, hq, u, v, e, ha, _⟩)
    · exact .inl h
    · rw [(List.append_eq_nil_iff.1 e.symm).1] at ha
      exact .inr ⟨q, hq, ha⟩
  · rintro (h | ⟨q, hq, ha⟩)
    · exact .inl ⟨h, rfl⟩
    · exact .inr ⟨q, hq, [], [], rfl, ha, .nil⟩
theorem starL_step (d : Au) (x : Bool × List Nat) (hx : StarC d x) (k : Nat) (w : List Nat) : starL d (starG d x k) w ↔ starL d x (k :: w) := by
  unfold starL
  constructor
  · rintro (⟨h, _⟩ | ⟨q, hq, u, v, e, ha, hv⟩)
    · exact absurd h (by simp [starG])
    · subst e
      rcases mem_starG.1 hq with ⟨p, hp, rfl⟩ | ⟨⟨p, hp, hpa⟩, rfl⟩
      · exact .inr ⟨p, hp, k :: u, v, rfl, ha, hv⟩
      · exact .inr ⟨p, hp, [k], u ++ v, rfl, hpa, hv.more ha⟩
  · rintro (⟨_, h⟩ | ⟨q, hq, u, v, e, ha, hv⟩)
    · cases h
    · cases u with
      | nil =>
        have e3 : k :: w = v := e
        subst e3
        have h0 := hx ⟨q, hq, ha⟩
        generalize hy : k :: w = y at hv
        cases hv with
        | nil => cases hy
        | app u' v' hu' ha' hv' =>
          cases u' with
          | nil => exact absurd rfl hu'
          | cons z u' =>
            injection hy with e1 e2
            subst e1
            exact .inr ⟨d.T 0 k, mem_starG.2 (.inl ⟨0, h0, rfl⟩), u', v', e2, ha', hv'⟩
      | cons z u =>
        injection e with e1 e2
        subst e1
        exact .inr ⟨d.T q k, mem_starG.2 (.inl ⟨q, hq, rfl⟩), u, v, e2, ha, hv⟩
theorem starL_start (d : Au) (w : List Nat) : starL d starS w ↔ StarW d w := by
  unfold starL starS
  constructor
  · rintro (⟨_, rfl⟩ | ⟨q, hq, u, v, rfl, ha, hv⟩)
    · exact .nil
    · simp only [List.mem_singleton] at hq
      subst hq
      exact hv.more ha
  · intro h
    cases h with
    | nil => exact .inl ⟨rfl, rfl⟩
    | app u v _ ha hv => exact .inr ⟨0, by simp, u, v, rfl, ha, hv⟩
end Go.Proofs.YtlkhmpdncimnfaaGreatDoor

namespace Go.Proofs.YtlkhmpdncimnfaaGreatDoor
open Go.RowKit

section
variable {α : Type} [DecidableEq α] [Inhabited α] {s0 : α} {g : α → Nat → α} {M : Nat}
theorem Ends.one {N N' : Nat} (h : Ends s0 g N) (h' : Ends s0 g N') : N = N' := by
  rcases Nat.lt_trichotomy N N' with hl | e | hl
  · have := h'.on N hl
    have := h.stop
    omega
  · exact e
  · have := h.on N' hl
    have := h'.stop
    omega
/-- The search is alive at row i and has met too many: it does not end below. -/
theorem Ends.not_big {i N M : Nat} (ha : ∀ j, j ≤ i → j < (ords s0 g (3 * j)).length) (hb : M < (ords s0 g (3 * (i + 1))).length) (hN : N ≤ M) : ¬ Ends s0 g N := fun h => by
  have hi : i < N := by
    apply Nat.lt_of_not_le
    intro hle
    have := ha N hle
    have := h.stop
    omega
  have h1 := (ords_prefix (s0 := s0) (g := g) (show 3 * (i + 1) ≤ 3 * N by omega)).length_le
  have := h.stop
  omega
/-- The answer of a search: at most M keys, and the minimal automaton has not too many states. -/
def srchR (M : Nat) (s0 : α) (g : α → Nat → α) (acc : α → Bool) (y : Dx) (ok : Bool) : Prop :=
  (∃ N, N ≤ M ∧ Ends s0 g N ∧ ∃ m, Canon m ∧ Eqv m 0 (found s0 g acc N) 0 ∧ y = fitD m ∧ ok = decide (m.n ≤ 40)) ∨ ((∀ N, N ≤ M → ¬ Ends s0 g N) ∧ y = ⟨[], []⟩ ∧ ok = false)
theorem srchR_some (M : Nat) (s0 : α) (g : α → Nat → α) (acc : α → Bool) : ∃ y ok, srchR M s0 g acc y ok := by
  by_cases h : ∃ N, N ≤ M ∧ Ends s0 g N
  · obtain ⟨N, hN, hE⟩ := h
    obtain ⟨m, h1, h2, _⟩ := exists_min (hE.wf acc)
    exact ⟨_, _, .inl ⟨N, hN, hE, m, h1, h2, rfl, rfl⟩⟩
  · exact ⟨_, _, .inr ⟨fun N hN hE => h ⟨N, hN, hE⟩, rfl, rfl⟩⟩
theorem srchR_yes {acc : α → Bool} {y : Dx} {ok : Bool} (h : srchR M s0 g acc y ok) {N : Nat} (hN : N ≤ M) (hE : Ends s0 g N) {m : Au} (h1 : Canon m) (h2 : Eqv m 0 (found s0 g acc N) 0) : fitD m = y ∧ decide (m.n ≤ 40) = ok := by
  rcases h with ⟨N', _, hE', m', n1, n2, rfl, rfl⟩ | ⟨hn, _⟩
  · have e := hE.one hE'
    subst e
    exact fit_one h1 n1 (h2.swap n2)
  · exact absurd hE (hn N hN)
theorem srchR_no {acc : α → Bool} {y : Dx} {ok : Bool} (h : srchR M s0 g acc y ok) (hn : ∀ N, N ≤ M → ¬ Ends s0 g N) : y = ⟨[], []⟩ ∧ ok = false := by
  rcases h with ⟨N, hN, hE, _⟩ | ⟨_, h⟩
  · exact absurd hE (hn N hN)
  · exact h
theorem srchR_wt {acc : α → Bool} {y : Dx} {ok : Bool} (h : srchR M s0 g acc y ok) : wtD y ≤ 1048576 := by
  rcases h with ⟨_, _, _, m, _, _, rfl, _⟩ | ⟨_, rfl, _⟩
  · exact fitD_wt m
  · decide
/-- What the answer accepts. -/
theorem srchR_lang {acc : α → Bool} {y : Dx} (h : srchR M s0 g acc y true) {L : α → List Nat → Prop} (h0 : ∀ x, L x [] ↔ acc x = true) {I : α → Prop} (hI0 : I s0) (hIs : ∀ x k, I x → I (g x k)) (h1 : ∀ x, I x → ∀ k w, L (g x k) w ↔ L x (k :: w)) :
    ∃ m, Canon m ∧ m.n ≤ 40 ∧ y = fieldsOf m ∧ ∀ w, W3 w → (m.A (m.run 0 w) = true ↔ L s0 w) := by
  rcases h with ⟨N, _, hE, m, n1, n2, rfl, hok⟩ | ⟨_, _, hf⟩
  · have hn : m.n ≤ 40 := by simpa using hok.symm
    have hI : ∀ t, t ≤ 3 * N → ∀ x ∈ ords s0 g t, I x := by
      intro t
      induction t with
      | zero =>
        intro _ x hx
        rw [ords, List.mem_singleton] at hx
        rw [hx]
        exact hI0
      | succ t ih =>
        intro ht x hx
        have hk : I ((ords s0 g t).getD (t / 3) default) := by
          refine ih (by omega) _ (getD_mem ?_)
          have h1 := hE.on (t / 3) (by omega)
          have h2 := (ords_prefix (s0 := s0) (g := g) (show 3 * (t / 3) ≤ t by omega)).length_le
          omega
        rw [ords] at hx
        split at hx
        · exact ih (by omega) x hx
        · rcases List.mem_append.1 hx with h | h
          · exact ih (by omega) x h
          · rw [List.mem_singleton.1 h]
            exact hIs _ _ hk
    refine ⟨m, n1, hn, by unfold fitD; rw [if_pos hn], fun w hw => ?_⟩
    have hl := hE.lang (acc := acc) (L := fun x w => @decide (L x w) (Classical.propDecidable _)) (fun x => by
      have := h0 x
      cases ha : acc x <;> simp [ha] at this ⊢ <;> exact this) (fun x hx k _ w _ => by
      have := h1 x (hI _ (Nat.le_refl _) x hx) k w
      exact decide_eq_decide.2 this) w 0 hw hE.pos
    rw [ords_first] at hl
    rw [n2 w hw, hl]
    exact @decide_eq_true_iff _ (Classical.propDecidable _)
  · cases hf
end
/-- ConcatDfa's and StarDfa's answers. -/
def catR (a b y : Dx) (ok : Bool) : Prop := if validD a = true ∧ validD b = true then srchR 400 (catS (auD a)) (catG (auD a) (auD b)) (fun x => anyS (auD b) x.2) y ok else y = ⟨[], []⟩ ∧ ok = false
def starR (d y : Dx) (ok : Bool) : Prop := if validD d = true then srchR 400 starS (starG (auD d)) (starA (auD d)) y ok else y = ⟨[], []⟩ ∧ ok = false
theorem catR_some (a b : Dx) : ∃ y ok, catR a b y ok := by
  unfold catR
  by_cases h : validD a = true ∧ validD b = true
  · simp only [if_pos h]
    exact srchR_some _ _ _ _
  · simp only [if_neg h]
    exact ⟨_, _, rfl, rfl⟩
theorem starR_some (d : Dx) : ∃ y ok, starR d y ok := by
  unfold starR
  by_cases h : validD d = true
  · simp only [if_pos h]
    exact srchR_some _ _ _ _
  · simp only [if_neg h]
    exact ⟨_, _, rfl, rfl⟩
/-- What a concatenation and a repetition accept. -/
theorem catR_lang {a b y : Dx} (h : catR a b y true) : validD a = true ∧ validD b = true ∧ ∃ m, Canon m ∧ m.n ≤ 40 ∧ y = fieldsOf m ∧ ∀ w, W3 w → (m.A (m.run 0 w) = true ↔ ∃ u v, w = u ++ v ∧ (auD a).A ((auD a).run 0 u) = true ∧ (auD b).A ((auD b).run 0 v) = true) := by
  unfold catR at h
  by_cases hc : validD a = true ∧ validD b = true
  · rw [if_pos hc] at h
    obtain ⟨m, h1, h2, h3, h4⟩ := srchR_lang h (L := catL (auD a) (auD b)) (fun x => catL_nil _ _ x) (I := fun _ => True) trivial (fun _ _ _ => trivial) (fun x _ k w => catL_step _ _ x k w)
    exact ⟨hc.1, hc.2, m, h1, h2, h3, fun w hw => (h4 w hw).trans (catL_start _ _ w)⟩
  · rw [if_neg hc] at h
    exact absurd h.2 (by simp)
theorem starR_lang {d y : Dx} (h : starR d y true) : validD d = true ∧ ∃ m, Canon m ∧ m.n ≤ 40 ∧ y = fieldsOf m ∧ ∀ w, W3 w → (m.A (m.run 0 w) = true ↔ StarW (auD d) w) := by
  unfold starR at h
  by_cases hc : validD d = true
  · rw [if_pos hc] at h
    obtain ⟨m, h1, h2, h3, h4⟩ := srchR_lang h (L := starL (auD d)) (fun x => starL_nil _ x) (I := StarC (auD d)) (starC_start _) (fun x k _ => starC_step _ x k) (fun x hx k w => starL_step _ x hx k w)
    exact ⟨hc, m, h1, h2, h3, fun w hw => (h4 w hw).trans (starL_start _ w)⟩
  · rw [if_neg hc] at h
    exact absurd h.2 (by simp)
end Go.Proofs.YtlkhmpdncimnfaaGreatDoor

/-
  Sets of states as numbers: a bit for each. Of no function of the program.
-/
namespace Go.Proofs.YtlkhmpdncimnfaaGreatDoor
open Go.RowKit

/-- The number of a set. -/
def mskS (s : List Nat) : Nat := s.foldl (fun m q => m ||| 2 ^ q) 0
theorem msk_from (i : Nat) : ∀ (s : List Nat) (m : Nat), (s.foldl (fun m q => m ||| 2 ^ q) m).testBit i = (m.testBit i || decide (i ∈ s))
  | [], m => by simp
  | q :: s, m => by
    rw [List.foldl_cons, msk_from i s, Nat.testBit_or, Nat.testBit_two_pow, Bool.or_assoc]
    congr 1
    by_cases h : q = i
    · subst h; simp
    · have h' : ¬ i = q := fun e => h e.symm
      simp [h, h']
theorem mskS_bit (s : List Nat) (i : Nat) : (mskS s).testBit i = decide (i ∈ s) := by
  unfold mskS
  rw [msk_from]
  simp
theorem mskS_lt {s : List Nat} {n : Nat} (h : ∀ q ∈ s, q < n) : mskS s < 2 ^ n := Nat.lt_pow_two_of_testBit _ (fun i hi => by
  rw [mskS_bit]
  simp only [decide_eq_false_iff_not]
  intro hm
  have := h i hm
  omega)
theorem mskS_64 {s : List Nat} (h : ∀ q ∈ s, q < 40) : mskS s < 1099511627776 := mskS_lt (n := 40) h
theorem msk_wf {s : List Nat} (h : ∀ q ∈ s, q < 40) : (Lit.int .u64 ((mskS s : Nat) : Int)).wf = true := by
  have := mskS_64 h
  simp [Lit.wf, IntKind.min, IntKind.max, IntKind.signed, IntKind.bits]
  omega
theorem msk_eq {s : List Nat} {m : Nat} (h : ∀ i, m.testBit i = decide (i ∈ s)) : m = mskS s := Nat.eq_of_testBit_eq (fun i => by rw [h, mskS_bit])
theorem msk_inj {s t : List Nat} (hs : s.Pairwise (· < ·)) (ht : t.Pairwise (· < ·)) (h : mskS s = mskS t) : s = t := asc_eq hs ht (fun x => by
  have h1 := mskS_bit s x
  rw [h, mskS_bit] at h1
  exact ⟨fun hx => by simpa [hx] using h1, fun hx => by simpa [hx] using h1.symm⟩)
theorem msk_nil : mskS [] = 0 := rfl
theorem msk_zero : mskS [0] = 1 := rfl
theorem msk_put (s : List Nat) (q : Nat) : mskS s ||| 2 ^ q = mskS (putS s q) := msk_eq (fun i => by
  rw [Nat.testBit_or, mskS_bit, Nat.testBit_two_pow]
  by_cases h : q = i
  · subst h; simp [mem_putS]
  · have h' : ¬ i = q := fun e => h e.symm
    simp [h, mem_putS, h'])
theorem msk_put0 (s : List Nat) : mskS s ||| 1 = mskS (putS s 0) := msk_put s 0
/-- Whether two sets meet. -/
theorem msk_meets (s t : List Nat) : (mskS s &&& mskS t ≠ 0) ↔ ∃ q ∈ s, q ∈ t := by
  constructor
  · intro h
    apply Classical.byContradiction
    intro hn
    apply h
    refine Nat.eq_of_testBit_eq (fun i => ?_)
    rw [Nat.testBit_and, mskS_bit, mskS_bit, Nat.zero_testBit]
    by_cases h1 : i ∈ s
    · have h2 : i ∉ t := fun h2 => hn ⟨i, h1, h2⟩
      simp [h2]
    · simp [h1]
  · rintro ⟨q, h1, h2⟩ h
    have h3 : (mskS s &&& mskS t).testBit q = true := by rw [Nat.testBit_and, mskS_bit, mskS_bit]; simp [h1, h2]
    rw [h, Nat.zero_testBit] at h3
    cases h3
/-- The accepting states below n. -/
def accS (d : Au) (n : Nat) : List Nat := (List.range n).filter d.A
theorem accS_succ_yes {d : Au} {n : Nat} (h : d.A n = true) : mskS (accS d n) ||| 2 ^ n = mskS (accS d (n + 1)) := msk_eq (fun i => by
  rw [Nat.testBit_or, mskS_bit, Nat.testBit_two_pow]
  by_cases e : n = i
  · subst e; simp [accS, h]
  · have h1 : (i < n + 1) = (i < n) := propext ⟨fun h => by omega, fun h => by omega⟩
    simp [e, accS, h1])
theorem accS_succ_no {d : Au} {n : Nat} (h : d.A n = false) : accS d (n + 1) = accS d n := by simp [accS, List.range_succ, h]
theorem accS_lt {d : Au} {n q : Nat} (h : q ∈ accS d n) : q < n := by simp [accS] at h; exact h.1
theorem any_meets {d : Au} {s : List Nat} (hs : ∀ q ∈ s, q < d.n) : anyS d s = decide (mskS s &&& mskS (accS d d.n) ≠ 0) := by
  rw [Bool.eq_iff_iff, anyS_iff, decide_eq_true_iff, msk_meets]
  constructor
  · rintro ⟨q, h1, h2⟩
    exact ⟨q, h1, by simp [accS, h2]; exact hs q h1⟩
  · rintro ⟨q, h1, h2⟩
    exact ⟨q, h1, by simp [accS] at h2; exact h2.2⟩

/-! One state after the other: the lowest bit, and what is left. -/
theorem ctz_bit {x : Nat} (h0 : x ≠ 0) (h : x < 18446744073709551616) : Lib.ctz 64 x < 64 ∧ x.testBit (Lib.ctz 64 x) = true := by
  obtain ⟨h1, h2⟩ := Lib.lowest_bit 64 x h0 h
  refine ⟨h2, ?_⟩
  have h3 : (x &&& (2 ^ 64 - x)).testBit (Lib.ctz 64 x) = true := by rw [h1, Nat.testBit_two_pow]; simp
  rw [Nat.testBit_and] at h3
  simp only [Bool.and_eq_true] at h3
  exact h3.1
/-- One bit less. -/
def dropB (x q : Nat) : Nat := x &&& (18446744073709551615 - 2 ^ q)
theorem dropB_bit {x q i : Nat} (hx : x < 18446744073709551616) (hq : q < 64) : (dropB x q).testBit i = (x.testBit i && !decide (q = i)) := by
  unfold dropB
  have h1 : (18446744073709551615 - 2 ^ q).testBit i = (decide (i < 64) && !(2 ^ q).testBit i) := by
    have h2 := Nat.testBit_two_pow_sub_succ (x := 2 ^ q) (n := 64) (Nat.pow_lt_pow_right (by decide) hq) i
    rw [← h2]
    congr 1
    show 18446744073709551615 - 2 ^ q = 18446744073709551616 - (2 ^ q + 1)
    omega
  rw [Nat.testBit_and, h1, Nat.testBit_two_pow]
  by_cases hi : i < 64
  · simp [hi]
  · have h3 : x.testBit i = false := Nat.testBit_lt_two_pow (Nat.lt_of_lt_of_le hx (Nat.pow_le_pow_right (n := 2) (by decide) (show 64 ≤ i by omega)))
    simp [h3]
theorem dropB_lt {x q : Nat} (hx : x < 18446744073709551616) (hq : q < 64) (h : x.testBit q = true) : dropB x q < x := by
  have hle : dropB x q ≤ x := Nat.and_le_left
  rcases Nat.lt_or_eq_of_le hle with h1 | h1
  · exact h1
  · have h2 := dropB_bit (i := q) hx hq
    rw [h1, h] at h2
    simp at h2
/-- What is done and what is left of a set, and the states that the letter leads to from what is done. -/
def MoveOf (d : Au) (k : Nat) (s : List Nat) (x m : Nat) : Prop := (∀ i, x.testBit i = true → i ∈ s) ∧ ∀ i, m.testBit i = true ↔ ∃ q ∈ s, x.testBit q = false ∧ d.T q k = i
theorem moveOf_start (d : Au) (k : Nat) (s : List Nat) : MoveOf d k s (mskS s) 0 := by
  refine ⟨fun i h => by rw [mskS_bit] at h; simpa using h, fun i => ?_⟩
  rw [Nat.zero_testBit]
  constructor
  · intro h; cases h
  · rintro ⟨q, h1, h2, _⟩
    rw [mskS_bit] at h2
    simp [h1] at h2
theorem moveOf_step {d : Au} {k : Nat} {s : List Nat} {x m q : Nat} (h : MoveOf d k s x m) (hx : x < 18446744073709551616) (hq : q < 64) (hb : x.testBit q = true) : MoveOf d k s (dropB x q) (m ||| 2 ^ d.T q k) := by
  refine ⟨fun i hi => ?_, fun i => ?_⟩
  · rw [dropB_bit hx hq] at hi
    simp only [Bool.and_eq_true] at hi
    exact h.1 i hi.1
  · rw [Nat.testBit_or, Nat.testBit_two_pow, Bool.or_eq_true, decide_eq_true_iff]
    constructor
    · rintro (h1 | h1)
      · obtain ⟨p, p1, p2, p3⟩ := (h.2 i).1 h1
        exact ⟨p, p1, by rw [dropB_bit hx hq, p2]; rfl, p3⟩
      · exact ⟨q, h.1 q hb, by rw [dropB_bit hx hq]; simp, h1⟩
    · rintro ⟨p, p1, p2, p3⟩
      rw [dropB_bit hx hq] at p2
      by_cases e : q = p
      · subst e
        exact .inr p3
      · refine .inl ((h.2 i).2 ⟨p, p1, ?_, p3⟩)
        simpa [e] using p2
theorem moveOf_end {d : Au} {k : Nat} {s : List Nat} {m : Nat} (h : MoveOf d k s 0 m) : m = mskS (moveS d s k) := msk_eq (fun i => by
  rw [Bool.eq_iff_iff, h.2 i, decide_eq_true_iff, mem_move]
  constructor
  · rintro ⟨q, h1, _, h3⟩
    exact ⟨q, h1, h3⟩
  · rintro ⟨q, h1, h3⟩
    exact ⟨q, h1, Nat.zero_testBit _, h3⟩)
theorem moveOf_lt {d : Au} {k : Nat} {s : List Nat} {x m n : Nat} (h : MoveOf d k s x m) (hs : ∀ q ∈ s, d.T q k < n) : m < 2 ^ n := Nat.lt_pow_two_of_testBit _ (fun i hi => by
  cases hb : m.testBit i with
  | false => rfl
  | true =>
    obtain ⟨q, h1, _, h3⟩ := (h.2 i).1 hb
    have := hs q h1
    omega)
end Go.Proofs.YtlkhmpdncimnfaaGreatDoor
