/- Texts of one proof. -/
import Derived.OwnWalk
import Derived.Maps.AppendAt
import Derived.OneCell
import Derived.Laws.Bits64
import Derived.Lib.TrailingZeros
import Derived.WalkArith
import Derived.Shelf.Spec.TrailingZeros
import Derived.LaidSub
import Derived.Test.YtiijlpmdnokjfaaGreatDoorCplZPack2
set_option maxRecDepth 100000
set_option maxHeartbeats 20000000
namespace Go.Proofs.YtiijlpmdnokjfaaGreatDoor
open Go.RowKit
theorem blk_of {w : World} {base : Nat} {e : TypeId} {v : Value} {n : Nat} {xs : List Value} (h : w.ownsRow base e 1 v n xs) {g : Nat} (hg : v.ownBlock = some g) : ∃ cur, w.heap[g]? = some (.cells cur e (0, 0)) := by
  rcases h.2 with ⟨rfl, _⟩ | ⟨g', cap, cur, rfl, _, hh, _⟩
  . simp [Value.ownBlock] at hg
  . simp [Value.ownBlock] at hg
    subst hg
    exact ⟨cur, hh⟩
theorem blk_ne {w : World} {g g' : Nat} {cur cur' : Array Value} {e e' : TypeId} (h : w.heap[g]? = some (.cells cur e (0, 0))) (h' : w.heap[g']? = some (.cells cur' e' (0, 0))) (hne : e ≠ e') : g ≠ g' := λ eq => by
  subst eq
  rw [h] at h'
  cases h'
  exact hne rfl
def IR (w : World) (B : Nat) (v : Value) (l : List Int) : Prop := w.ownsRow B 3 1 v l.length (ints l)
theorem IR.kept {w w' : World} {B : Nat} {v : Value} {l : List Int} {row : Option Nat} (h : IR w B v l) (hg : w.grownBy w' row) (hne : ∀ g, v.ownBlock = some g -> row ≠ some g) : IR w' B v l := by
  refine World.ownsRow.kept h hg ?_
  cases hv : v.ownBlock with
  | none => exact .inl rfl
  | some g => exact .inr (λ e => hne g hv e.symm)
theorem IR.row {w : World} {B : Nat} {v : Value} {l : List Int} (h : IR w B v l) (hl : l.length <= 9223372036854775807) : RowO w (λ g => v.ownBlock = some g) v (ints l) := RowO.of_owns h hl
theorem grown_of {w w' : World} (h : Below w.heap.size w w') : w.grownBy w' none := ⟨h.os, h.tape, h.output, h.size, λ k hk _ => h.block k hk⟩
theorem IR.one (w : World) (x : Int) {B : Nat} (hB : B <= w.heap.size) : IR (w.alloc (.cells #[.int .i64 x] 3)) B (.slice (some ⟨w.heap.size, 0, none⟩) 1 1) [x] :=
  ⟨rfl, .inr ⟨w.heap.size, 1, #[.int .i64 x], rfl, hB, heap_alloc_new w _, Nat.le_refl _, by decide, rfl, rfl⟩⟩
structure Out (B : Nat) (w : World) (bo : Nat) (va vn : Value) (accs : List Bool) (us : List Value) (rss : List (List Value)) (K : Nat -> Nat -> Prop) : Prop where
  acc : w.ownsRow B 4 1 va accs.length (bools accs)
  nxt : w.ownsRow B 49 1 vn us.length us
  rows : RowsP (λ g => B <= g) w us rss K
  kint : ∀ j g, K j g -> ∃ cur, w.heap[g]? = some (.cells cur 3 (0, 0))
  box : w.heap[bo]? = some (.cells #[va, vn] 31 (0, 0))
  low : B <= bo
variable {B : Nat} {w w' : World} {bo : Nat} {va vn : Value} {accs : List Bool} {us : List Value} {rss : List (List Value)} {K : Nat -> Nat -> Prop}
theorem Out.kept {row : Option Nat} (h : Out B w bo va vn accs us rss K) (hg : w.grownBy w' row) (hrow : ∀ g, row = some g -> (∃ cur, w.heap[g]? = some (.cells cur 3 (0, 0))) /\ ∀ j, ¬ K j g) : Out B w' bo va vn accs us rss K := by
  have keep : ∀ (g : Nat) (cur : Array Value) (e : TypeId), w.heap[g]? = some (.cells cur e (0, 0)) -> e ≠ 3 -> w'.heap[g]? = w.heap[g]? := λ g cur e hh he =>
    hg.block g (Array.getElem?_eq_some_iff.1 hh).1 (λ er => by
      obtain ⟨⟨cur', hh'⟩, _⟩ := hrow g er.symm
      exact blk_ne hh hh' he rfl)
  refine ⟨h.acc.kept hg ?_, h.nxt.kept hg ?_, h.rows.keep (λ j g hk => ?_) h.rows.sub hg.size, λ j g hk => ?_, (keep bo _ _ h.box (by decide)).trans h.box, h.low⟩
  . cases hv : va.ownBlock with
    | none => exact .inl rfl
    | some g =>
      obtain ⟨cur, hh⟩ := blk_of h.acc hv
      exact .inr (λ er => by
        obtain ⟨⟨cur', hh'⟩, _⟩ := hrow g er.symm
        exact blk_ne hh hh' (by decide) rfl)
  . cases hv : vn.ownBlock with
    | none => exact .inl rfl
    | some g =>
      obtain ⟨cur, hh⟩ := blk_of h.nxt hv
      exact .inr (λ er => by
        obtain ⟨⟨cur', hh'⟩, _⟩ := hrow g er.symm
        exact blk_ne hh hh' (by decide) rfl)
  . exact hg.block g (h.rows.lt j g hk) (λ er => (hrow g er.symm).2 j hk)
  . obtain ⟨cur, hh⟩ := h.kint j g hk
    exact ⟨cur, (hg.block g (h.rows.lt j g hk) (λ er => (hrow g er.symm).2 j hk)).trans hh⟩
theorem Out.below (h : Out B w bo va vn accs us rss K) (hb : Below w.heap.size w w') : Out B w' bo va vn accs us rss K := h.kept (grown_of hb) (λ g e => by cases e)
theorem Out.acc_push {va' : Value} {b : Bool} (h : Out B w bo va vn accs us rss K) (hown : w'.ownsRow B 4 1 va' (accs.length + 1) (bools accs ++ [.bool b])) (hg : w.grownBy w' va.ownBlock) :
    (∃ x, w'.cell? ⟨bo, 0, none⟩ = some x) /\ w'.frozen? ⟨bo, 0, none⟩ = false /\ Out B (w'.setCell ⟨bo, 0, none⟩ va') bo va' vn (accs ++ [b]) us rss K := by
  have keep : ∀ (g : Nat) (cur : Array Value) (e : TypeId), w.heap[g]? = some (.cells cur e (0, 0)) -> e ≠ 4 -> w'.heap[g]? = w.heap[g]? := λ g cur e hh he =>
    hg.block g (Array.getElem?_eq_some_iff.1 hh).1 (λ er => by
      obtain ⟨cur', hh'⟩ := blk_of h.acc er.symm
      exact blk_ne hh hh' he rfl)
  have hbox := (keep bo _ _ h.box (by decide)).trans h.box
  obtain ⟨c0, c1, f0, f1⟩ := box2_facts hbox
  have far : ∀ (g : Nat) (cur : Array Value) (e : TypeId), w'.heap[g]? = some (.cells cur e (0, 0)) -> e ≠ 31 -> (w'.setCell ⟨bo, 0, none⟩ va').heap[g]? = w'.heap[g]? := λ g cur e hh he => Below.heap_setCell _ _ _ g (λ er => blk_ne hh hbox he er)
  refine ⟨⟨_, c0⟩, f0, ⟨?_, ?_, h.rows.keep (λ j g hk => ?_) h.rows.sub (by simpa [World.setCell] using hg.size), λ j g hk => ?_, heap_setCell_same w' bo 0 _ _ va' hbox, h.low⟩⟩
  . have e : bools (accs ++ [b]) = bools accs ++ [.bool b] := by simp [bools]
    rw [e, List.length_append]
    refine ownsRow_setCell_other hown (λ er => ?_) _
    obtain ⟨cur, hh⟩ := blk_of hown er
    exact blk_ne hh hbox (by decide) rfl
  . have h1 : w'.ownsRow B 49 1 vn us.length us := by
      refine h.nxt.kept hg ?_
      cases hv : vn.ownBlock with
      | none => exact .inl rfl
      | some g =>
        obtain ⟨cur, hh⟩ := blk_of h.nxt hv
        exact .inr (λ er => by
          obtain ⟨cur', hh'⟩ := blk_of h.acc er.symm
          exact blk_ne hh hh' (by decide) rfl)
    refine ownsRow_setCell_other h1 (λ er => ?_) _
    obtain ⟨cur, hh⟩ := blk_of h1 er
    exact blk_ne hh hbox (by decide) rfl
  . obtain ⟨cur, hh⟩ := h.kint j g hk
    have h1 := (keep g _ _ hh (by decide)).trans hh
    exact (far g _ _ h1 (by decide)).trans (keep g _ _ hh (by decide))
  . obtain ⟨cur, hh⟩ := h.kint j g hk
    have h1 := (keep g _ _ hh (by decide)).trans hh
    exact ⟨cur, (far g _ _ h1 (by decide)).trans h1⟩
theorem Out.nxt_push {vn' u : Value} {r : List Int} (h : Out B w bo va vn accs us rss K) (hr : IR w B u r) (hrl : r.length <= 9223372036854775807) (hrk : ∀ g, u.ownBlock = some g -> ∀ j, ¬ K j g) (hown : w'.ownsRow B 49 1 vn' (us.length + 1) (us ++ [u])) (hg : w.grownBy w' vn.ownBlock) :
    (∃ x, w'.cell? ⟨bo, 1, none⟩ = some x) /\ w'.frozen? ⟨bo, 1, none⟩ = false /\ Out B (w'.setCell ⟨bo, 1, none⟩ vn') bo va vn' accs (us ++ [u]) (rss ++ [ints r]) (λ j g => if j < us.length then K j g else j = us.length /\ u.ownBlock = some g) := by
  have keep : ∀ (g : Nat) (cur : Array Value) (e : TypeId), w.heap[g]? = some (.cells cur e (0, 0)) -> e ≠ 49 -> w'.heap[g]? = w.heap[g]? := λ g cur e hh he =>
    hg.block g (Array.getElem?_eq_some_iff.1 hh).1 (λ er => by
      obtain ⟨cur', hh'⟩ := blk_of h.nxt er.symm
      exact blk_ne hh hh' he rfl)
  have hbox := (keep bo _ _ h.box (by decide)).trans h.box
  obtain ⟨c0, c1, f0, f1⟩ := box2_facts hbox
  have far : ∀ (g : Nat) (cur : Array Value) (e : TypeId), w'.heap[g]? = some (.cells cur e (0, 0)) -> e ≠ 31 -> (w'.setCell ⟨bo, 1, none⟩ vn').heap[g]? = w'.heap[g]? := λ g cur e hh he => Below.heap_setCell _ _ _ g (λ er => blk_ne hh hbox he er)
  have int_keep : ∀ (g : Nat) (cur : Array Value), w.heap[g]? = some (.cells cur 3 (0, 0)) -> (w'.setCell ⟨bo, 1, none⟩ vn').heap[g]? = w.heap[g]? := λ g cur hh => by
    have h1 := (keep g _ _ hh (by decide)).trans hh
    exact (far g _ _ h1 (by decide)).trans (keep g _ _ hh (by decide))
  have hsz : w.heap.size <= (w'.setCell ⟨bo, 1, none⟩ vn').heap.size := by simpa [World.setCell] using hg.size
  have hlen := h.rows.len
  refine ⟨⟨_, c1⟩, f1, ⟨?_, ?_, ⟨by simp [hlen], λ j u' r' hu hr' => ?_, λ j g hk => ?_, λ j g hk => ?_, λ i j g hi hj => ?_⟩, λ j g hk => ?_, heap_setCell_same w' bo 1 _ _ vn' hbox, h.low⟩⟩
  . have h1 : w'.ownsRow B 4 1 va accs.length (bools accs) := by
      refine h.acc.kept hg ?_
      cases hv : va.ownBlock with
      | none => exact .inl rfl
      | some g =>
        obtain ⟨cur, hh⟩ := blk_of h.acc hv
        exact .inr (λ er => by
          obtain ⟨cur', hh'⟩ := blk_of h.nxt er.symm
          exact blk_ne hh hh' (by decide) rfl)
    refine ownsRow_setCell_other h1 (λ er => ?_) _
    obtain ⟨cur, hh⟩ := blk_of h1 er
    exact blk_ne hh hbox (by decide) rfl
  . rw [List.length_append]
    refine ownsRow_setCell_other hown (λ er => ?_) _
    obtain ⟨cur, hh⟩ := blk_of hown er
    exact blk_ne hh hbox (by decide) rfl
  . by_cases hj : j < us.length
    . rw [List.getElem?_append_left hj] at hu
      rw [List.getElem?_append_left (by omega)] at hr'
      exact (h.rows.row j u' r' hu hr').mono (λ g hg => by
        obtain ⟨cur, hh⟩ := h.kint j g hg
        exact int_keep g cur hh) (λ g hg => by simpa [hj] using hg)
    . have e : j = us.length := by
        have := (List.getElem?_eq_some_iff.1 hu).1
        simp at this
        omega
      subst e
      rw [List.getElem?_append_right (Nat.le_refl _), Nat.sub_self] at hu
      rw [List.getElem?_append_right (by omega), hlen, Nat.sub_self] at hr'
      cases hu
      cases hr'
      exact (hr.row hrl).mono (λ g hg => by
        obtain ⟨cur, hh⟩ := blk_of hr hg
        exact int_keep g cur hh) (λ g hg => by simpa using hg)
  . by_cases hj : j < us.length
    . exact h.rows.sub j g (by simpa [hj] using hk)
    . simp only [hj, if_false] at hk
      exact (hr.lt g hk.2).1
  . by_cases hj : j < us.length
    . exact Nat.lt_of_lt_of_le (h.rows.lt j g (by simpa [hj] using hk)) hsz
    . simp only [hj, if_false] at hk
      exact Nat.lt_of_lt_of_le (hr.lt g hk.2).2 hsz
  . by_cases h1 : i < us.length <;> by_cases h2 : j < us.length <;> simp only [h1, h2, if_true, if_false] at hi hj
    . exact h.rows.sep i j g hi hj
    . exact absurd hi (hrk g hj.2 i)
    . exact absurd hj (hrk g hi.2 j)
    . omega
  . by_cases hj : j < us.length
    . obtain ⟨cur, hh⟩ := h.kint j g (by simpa [hj] using hk)
      exact ⟨cur, (int_keep g cur hh).trans hh⟩
    . simp only [hj, if_false] at hk
      obtain ⟨cur, hh⟩ := blk_of hr hk.2
      exact ⟨cur, (int_keep g cur hh).trans hh⟩
theorem Out.whole (h : Out B w bo va vn accs us rss K) {d : Dx} (ha : d.acc = accs) (hr : intss d.nxt = rss) (hl1 : accs.length <= 9223372036854775807) (hl2 : us.length <= 9223372036854775807) : DfaO w (λ g => B <= g /\ g < w.heap.size) va vn d := by
  refine ⟨λ g => va.ownBlock = some g, λ g => B <= g /\ g < w.heap.size /\ va.ownBlock ≠ some g, ?_, ⟨us, λ g => vn.ownBlock = some g, K, RowO.of_owns h.nxt hl2, ?_, λ g hg => ?_⟩, λ g hg => ?_, λ g hg => ⟨hg.1, hg.2.1⟩⟩
  . rw [ha]
    exact RowO.of_owns h.acc hl1
  . rw [hr]
    exact h.rows.keep (λ _ _ _ => rfl) (λ j g hk => ⟨h.rows.sub j g hk, h.rows.lt j g hk, λ er => by
      obtain ⟨cur, hh⟩ := blk_of h.acc er
      obtain ⟨cur', hh'⟩ := h.kint j g hk
      exact blk_ne hh hh' (by decide) rfl⟩) (Nat.le_refl _)
  . refine ⟨⟨(h.nxt.lt g hg).1, (h.nxt.lt g hg).2, λ er => ?_⟩, λ j hk => ?_⟩
    . obtain ⟨cur, hh⟩ := blk_of h.acc er
      obtain ⟨cur', hh'⟩ := blk_of h.nxt hg
      exact blk_ne hh hh' (by decide) rfl
    . obtain ⟨cur, hh⟩ := blk_of h.nxt hg
      obtain ⟨cur', hh'⟩ := h.kint j g hk
      exact blk_ne hh hh' (by decide) rfl
  . exact ⟨h.acc.lt g hg, λ h2 => h2.2.2 hg⟩
theorem Out.start (w : World) {B : Nat} (hB : B <= w.heap.size) : Out B (w.alloc (.cells #[.slice none 0 0, .slice none 0 0] 31)) w.heap.size (.slice none 0 0) (.slice none 0 0) [] [] [] (λ _ _ => False) :=
  ⟨⟨rfl, .inl ⟨rfl, rfl⟩⟩, ⟨rfl, .inl ⟨rfl, rfl⟩⟩, RowsP.nil _ _, λ _ _ h => h.elim, heap_alloc_new w _, hB⟩
end Go.Proofs.YtiijlpmdnokjfaaGreatDoor
namespace Go.Proofs.YtiijlpmdnokjfaaGreatDoor
open Go.RowKit
theorem ints_snoc (l : List Int) (x : Int) : ints (l ++ [x]) = ints l ++ [.int .i64 x] := by simp [ints]
theorem IR.of_push {w : World} {B : Nat} {v : Value} {l : List Int} {x : Int} (h : w.ownsRow B 3 1 v (l.length + 1) (ints l ++ [.int .i64 x])) : IR w B v (l ++ [x]) := by
  unfold IR
  rw [ints_snoc, List.length_append]
  exact h
theorem own_succ {W : World} {base : Nat} {e : TypeId} {size : Nat} {v : Value} {k : Nat} {xs : List Value} (h : W.ownsRow base e size v (k + 1) xs) : ∃ g cap, v = .slice (some ⟨g, 0, none⟩) (k + 1) cap := by
  rcases h.2 with ⟨_, h0⟩ | ⟨g, cap, _, rfl, _⟩
  . omega
  . exact ⟨g, cap, rfl⟩
theorem IR.none (w : World) {B : Nat} (hB : B <= w.heap.size) : IR (w.alloc (.cells #[] 3)) B (.slice (some ⟨w.heap.size, 0, none⟩) 0 0) [] :=
  ⟨rfl, .inr ⟨w.heap.size, 0, #[], rfl, hB, heap_alloc_new w _, Nat.le_refl _, by decide, rfl, rfl⟩⟩
theorem IR.below {w w' : World} {B : Nat} {v : Value} {l : List Int} (h : IR w B v l) (hb : Below w.heap.size w w') : IR w' B v l := h.kept (grown_of hb) (λ g _ e => by cases e)
structure One (B : Nat) (w : World) (bo : Nat) (va vn : Value) (accs : List Bool) (us : List Value) (rss : List (List Value)) (K : Nat -> Nat -> Prop) (vo : Value) (lo : List Int) : Prop where
  out : Out B w bo va vn accs us rss K
  ord : IR w B vo lo
  ordK : ∀ g, vo.ownBlock = some g -> ∀ j, ¬ K j g
structure Two (B : Nat) (w : World) (bo : Nat) (va vn : Value) (accs : List Bool) (us : List Value) (rss : List (List Value)) (K : Nat -> Nat -> Prop) (vo : Value) (lo : List Int) (vr : Value) (lr : List Int) : Prop where
  one : One B w bo va vn accs us rss K vo lo
  row : IR w B vr lr
  rowK : ∀ g, vr.ownBlock = some g -> ∀ j, ¬ K j g
  sep : ∀ g, vo.ownBlock = some g -> vr.ownBlock ≠ some g
variable {B : Nat} {w w' : World} {bo : Nat} {va vn : Value} {accs : List Bool} {us : List Value} {rss : List (List Value)} {K : Nat -> Nat -> Prop} {vo vr : Value} {lo lr : List Int}
theorem One.below (h : One B w bo va vn accs us rss K vo lo) (hb : Below w.heap.size w w') : One B w' bo va vn accs us rss K vo lo := ⟨h.out.below hb, h.ord.below hb, h.ordK⟩
theorem Two.below (h : Two B w bo va vn accs us rss K vo lo vr lr) (hb : Below w.heap.size w w') : Two B w' bo va vn accs us rss K vo lo vr lr := ⟨h.one.below hb, h.row.below hb, h.rowK, h.sep⟩
theorem One.base (h : One B w bo va vn accs us rss K vo lo) : B < w.heap.size := Nat.lt_of_le_of_lt h.out.low (Array.getElem?_eq_some_iff.1 h.out.box).1
theorem One.two (h : One B w bo va vn accs us rss K vo lo) : Two B (w.alloc (.cells #[] 3)) bo va vn accs us rss K vo lo (.slice (some ⟨w.heap.size, 0, none⟩) 0 0) [] := by
  refine ⟨h.below ((Below.refl _ _).alloc (Nat.le_refl _) _), IR.none w (Nat.le_of_lt h.base), λ g hg j hk => ?_, λ g hg e => ?_⟩
  . simp [Value.ownBlock] at hg
    have := h.out.rows.lt j g hk
    omega
  . simp [Value.ownBlock] at e
    have := (h.ord.lt g hg).2
    omega
theorem Two.ord_push {v' : Value} {x : Int} (h : Two B w bo va vn accs us rss K vo lo vr lr) (hown : w'.ownsRow B 3 1 v' (lo.length + 1) (ints lo ++ [.int .i64 x])) (hg : w.grownBy w' vo.ownBlock) (hat : v'.ownBlock = vo.ownBlock \/ v'.ownBlock = some w.heap.size) : Two B w' bo va vn accs us rss K v' (lo ++ [x]) vr lr := by
  refine ⟨⟨h.one.out.kept hg (λ g e => ⟨blk_of h.one.ord e, h.one.ordK g e⟩), IR.of_push hown, λ g e j hk => ?_⟩, h.row.kept hg (λ g e er => h.sep g er e), h.rowK, λ g e er => ?_⟩
  . rcases hat with a | a
    . exact h.one.ordK g (a.symm.trans e) j hk
    . rw [a] at e
      cases e
      have := h.one.out.rows.lt j _ hk
      omega
  . rcases hat with a | a
    . exact h.sep g (a.symm.trans e) er
    . rw [a] at e
      cases e
      have := (h.row.lt _ er).2
      omega
theorem Two.row_push {v' : Value} {x : Int} (h : Two B w bo va vn accs us rss K vo lo vr lr) (hown : w'.ownsRow B 3 1 v' (lr.length + 1) (ints lr ++ [.int .i64 x])) (hg : w.grownBy w' vr.ownBlock) (hat : v'.ownBlock = vr.ownBlock \/ v'.ownBlock = some w.heap.size) : Two B w' bo va vn accs us rss K vo lo v' (lr ++ [x]) := by
  refine ⟨⟨h.one.out.kept hg (λ g e => ⟨blk_of h.row e, h.rowK g e⟩), h.one.ord.kept hg (λ g e er => h.sep g e er), h.one.ordK⟩, IR.of_push hown, λ g e j hk => ?_, λ g e er => ?_⟩
  . rcases hat with a | a
    . exact h.rowK g (a.symm.trans e) j hk
    . rw [a] at e
      cases e
      have := h.one.out.rows.lt j _ hk
      omega
  . rcases hat with a | a
    . exact h.sep g e (a.symm.trans er)
    . rw [a] at er
      cases er
      have := (h.one.ord.lt _ e).2
      omega
theorem IR.far {row : Option Nat} {p : Addr} {u : Value} {va vn : Value} {v : Value} {l : List Int} (h : IR w B v l) (hg : w.grownBy w' row) (hrow : ∀ g, row = some g -> ∃ cur e, w.heap[g]? = some (.cells cur e (0, 0)) /\ e ≠ 3) (hbox : w.heap[p.block]? = some (.cells #[va, vn] 31 (0, 0))) : IR (w'.setCell p u) B v l := by
  have h1 : IR w' B v l := h.kept hg (λ g e er => by
    obtain ⟨cur, hh⟩ := blk_of h e
    obtain ⟨cur', e', hh', hne⟩ := hrow g er
    exact blk_ne hh hh' (Ne.symm hne) rfl)
  refine ownsRow_setCell_other h1 (λ er => ?_) _
  obtain ⟨cur, hh⟩ := blk_of h er
  exact blk_ne hh hbox (by decide) rfl
theorem Two.acc_push {va' : Value} {b : Bool} (h : Two B w bo va vn accs us rss K vo lo vr lr) (hown : w'.ownsRow B 4 1 va' (accs.length + 1) (bools accs ++ [.bool b])) (hg : w.grownBy w' va.ownBlock) :
    (∃ x, w'.cell? ⟨bo, 0, none⟩ = some x) /\ w'.frozen? ⟨bo, 0, none⟩ = false /\ Two B (w'.setCell ⟨bo, 0, none⟩ va') bo va' vn (accs ++ [b]) us rss K vo lo vr lr := by
  obtain ⟨h1, h2, h3⟩ := h.one.out.acc_push hown hg
  have hrow : ∀ g, va.ownBlock = some g -> ∃ cur e, w.heap[g]? = some (.cells cur e (0, 0)) /\ e ≠ 3 := λ g e => by
    obtain ⟨cur, hh⟩ := blk_of h.one.out.acc e
    exact ⟨cur, _, hh, by decide⟩
  exact ⟨h1, h2, ⟨h3, h.one.ord.far hg hrow h.one.out.box, h.one.ordK⟩, h.row.far hg hrow h.one.out.box, h.rowK, h.sep⟩
theorem Two.nxt_push {vn' : Value} (h : Two B w bo va vn accs us rss K vo lo vr lr) (hrl : lr.length <= 9223372036854775807) (hown : w'.ownsRow B 49 1 vn' (us.length + 1) (us ++ [vr])) (hg : w.grownBy w' vn.ownBlock) :
    (∃ x, w'.cell? ⟨bo, 1, none⟩ = some x) /\ w'.frozen? ⟨bo, 1, none⟩ = false /\ One B (w'.setCell ⟨bo, 1, none⟩ vn') bo va vn' accs (us ++ [vr]) (rss ++ [ints lr]) (λ j g => if j < us.length then K j g else j = us.length /\ vr.ownBlock = some g) vo lo := by
  obtain ⟨h1, h2, h3⟩ := h.one.out.nxt_push h.row hrl h.rowK hown hg
  have hrow : ∀ g, vn.ownBlock = some g -> ∃ cur e, w.heap[g]? = some (.cells cur e (0, 0)) /\ e ≠ 3 := λ g e => by
    obtain ⟨cur, hh⟩ := blk_of h.one.out.nxt e
    exact ⟨cur, _, hh, by decide⟩
  refine ⟨h1, h2, h3, h.one.ord.far hg hrow h.one.out.box, λ g e j hk => ?_⟩
  by_cases hj : j < us.length
  . exact h.one.ordK g e j (by simpa [hj] using hk)
  . simp only [hj, if_false] at hk
    exact h.sep g e hk.2
theorem One.start (w1 : World) (x : Int) :
    let W3 := (w1.alloc (.cells #[.int .i64 x] 3)).alloc (.cells #[.slice none 0 0, .slice none 0 0] 31)
    One w1.heap.size W3 (w1.heap.size + 1) (.slice none 0 0) (.slice none 0 0) [] [] [] (λ _ _ => False) (.slice (some ⟨w1.heap.size, 0, none⟩) 1 1) [x] /\ Below w1.heap.size w1 W3 := by
  intro W3
  have hb : W3.heap[w1.heap.size + 1]? = some (.cells #[.slice none 0 0, .slice none 0 0] 31 (0, 0)) := by
    have h := heap_alloc_new (w1.alloc (.cells #[.int .i64 x] 3)) (.cells #[.slice none 0 0, .slice none 0 0] 31)
    rwa [World.size_alloc] at h
  have h1 : IR W3 w1.heap.size (.slice (some ⟨w1.heap.size, 0, none⟩) 1 1) [x] := (IR.one w1 x (Nat.le_refl _)).below ((Below.refl _ _).alloc (Nat.le_refl _) _)
  exact ⟨⟨⟨⟨rfl, .inl ⟨rfl, rfl⟩⟩, ⟨rfl, .inl ⟨rfl, rfl⟩⟩, RowsP.nil _ _, λ _ _ h => h.elim, hb, Nat.le_succ _⟩, h1, λ _ _ _ h => h⟩, ((Below.refl _ _).alloc (Nat.le_refl _) _).alloc (by simp) _⟩
end Go.Proofs.YtiijlpmdnokjfaaGreatDoor
namespace Go.Proofs.YtiijlpmdnokjfaaGreatDoor
open Go.RowKit
theorem own_on {w w' : World} {B B' : Nat} {e : TypeId} {size : Nat} {v : Value} {k : Nat} {xs : List Value} (h : w.ownsRow B e size v k xs) (hs : ∀ q, v.ownBlock = some q -> w'.heap[q]? = w.heap[q]?) (hB : B' <= B) : w'.ownsRow B' e size v k xs := by
  refine ⟨h.1, ?_⟩
  rcases h.2 with h0 | ⟨g, cap, cur, e1, e2, e3, rest⟩
  . exact .inl h0
  . exact .inr ⟨g, cap, cur, e1, Nat.le_trans hB e2, (hs g (by rw [e1]; simp [Value.ownBlock])).trans e3, rest⟩
variable {w w' W0 : World} {B : Nat} {bo : Nat} {va vn : Value} {accs : List Bool} {us : List Value} {rss : List (List Value)} {rs : List (List Int)} {K : Nat -> Nat -> Prop} {vo : Value} {lo : List Int}
theorem Out.base (h : Out B w bo va vn accs us rss K) : B < w.heap.size := Nat.lt_of_le_of_lt h.low (blk_lt h.box)
def Ows (w : World) (B : Nat) (us : List Value) (rs : List (List Int)) (K : Nat -> Nat -> Prop) : Prop :=
  ∀ (j : Nat) (u : Value) (r : List Int), us[j]? = some u -> rs[j]? = some r -> IR w B u r /\ ∀ q, u.ownBlock = some q -> K j q
theorem Ows.keep (h : Ows w B us rs K) (hs : ∀ j q, K j q -> w'.heap[q]? = w.heap[q]?) {B' : Nat} (hB : B' <= B) : Ows w' B' us rs K := λ j u r hu hr => by
  obtain ⟨h1, h2⟩ := h j u r hu hr
  exact ⟨own_on h1 (λ q e => hs j q (h2 q e)) hB, h2⟩
theorem One.ord_push {v' : Value} {x : Int} (h : One B w bo va vn accs us rss K vo lo) (hown : w'.ownsRow B 3 1 v' (lo.length + 1) (ints lo ++ [.int .i64 x])) (hg : w.grownBy w' vo.ownBlock) (hat : v'.ownBlock = vo.ownBlock \/ v'.ownBlock = some w.heap.size) : One B w' bo va vn accs us rss K v' (lo ++ [x]) := by
  refine ⟨h.out.kept hg (λ g e => ⟨blk_of h.ord e, h.ordK g e⟩), IR.of_push hown, λ g e j hk => ?_⟩
  rcases hat with a | a
  . exact h.ordK g (a.symm.trans e) j hk
  . rw [a] at e
    cases e
    have := h.out.rows.lt j _ hk
    omega
theorem Out.one (h : Out B w bo va vn accs us rss K) : One B (w.alloc (.cells #[] 3)) bo va vn accs us rss K (.slice (some ⟨w.heap.size, 0, none⟩) 0 0) [] := by
  refine ⟨h.below ((Below.refl _ _).alloc (Nat.le_refl _) _), IR.none w (Nat.le_of_lt h.base), λ g hg j hk => ?_⟩
  simp [Value.ownBlock] at hg
  have := h.rows.lt j g hk
  omega
theorem One.acc_push {va' : Value} {b : Bool} (h : One B w bo va vn accs us rss K vo lo) (hown : w'.ownsRow B 4 1 va' (accs.length + 1) (bools accs ++ [.bool b])) (hg : w.grownBy w' va.ownBlock) :
    (∃ x, w'.cell? ⟨bo, 0, none⟩ = some x) /\ w'.frozen? ⟨bo, 0, none⟩ = false /\ One B (w'.setCell ⟨bo, 0, none⟩ va') bo va' vn (accs ++ [b]) us rss K vo lo := by
  obtain ⟨h1, h2, h3⟩ := h.out.acc_push hown hg
  have hrow : ∀ g, va.ownBlock = some g -> ∃ cur e, w.heap[g]? = some (.cells cur e (0, 0)) /\ e ≠ 3 := λ g e => by
    obtain ⟨cur, hh⟩ := blk_of h.out.acc e
    exact ⟨cur, _, hh, by decide⟩
  exact ⟨h1, h2, h3, h.ord.far hg hrow h.out.box, h.ordK⟩
theorem One.nxt_push {vn' : Value} (h : One B w bo va vn accs us rss K vo lo) (hrl : lo.length <= 9223372036854775807) (hown : w'.ownsRow B 49 1 vn' (us.length + 1) (us ++ [vo])) (hg : w.grownBy w' vn.ownBlock) :
    (∃ x, w'.cell? ⟨bo, 1, none⟩ = some x) /\ w'.frozen? ⟨bo, 1, none⟩ = false /\ Out B (w'.setCell ⟨bo, 1, none⟩ vn') bo va vn' accs (us ++ [vo]) (rss ++ [ints lo]) (λ j g => if j < us.length then K j g else j = us.length /\ vo.ownBlock = some g) :=
  h.out.nxt_push h.ord hrl h.ordK hown hg
end Go.Proofs.YtiijlpmdnokjfaaGreatDoor
namespace Go.Proofs.YtiijlpmdnokjfaaGreatDoor
open Go.RowKit
def fK (kind : Int) : Bool -> Bool -> Bool := if kind = 6 then (· || ·) else (· && ·)
theorem fK_or : fK 6 = (· || ·) := rfl
theorem fK_and : fK 7 = (· && ·) := rfl
def proR (a b : Dx) (kind : Int) (y : Dx) (ok : Bool) : Prop :=
  if validD a = true /\ validD b = true /\ (kind = 6 \/ kind = 7) then ∃ m, Canon m /\ Eqv m 0 (prd (auD a) (auD b) (fK kind)) 0 /\ y = fitD m /\ ok = decide (m.n <= 40) else y = ⟨[], []⟩ /\ ok = false
theorem proR_some (a b : Dx) (kind : Int) : ∃ y ok, proR a b kind y ok := by
  unfold proR
  by_cases h : validD a = true /\ validD b = true /\ (kind = 6 \/ kind = 7)
  . obtain ⟨m, h1, h2, _⟩ := exists_min (prd_wf (fK kind) (fieldsOf_au h.1).1 (fieldsOf_au h.2.1).1)
    exact ⟨fitD m, decide (m.n <= 40), by rw [if_pos h]; exact ⟨m, h1, h2, rfl, rfl⟩⟩
  . exact ⟨⟨[], []⟩, false, by rw [if_neg h]; exact ⟨rfl, rfl⟩⟩
theorem fit_one {m m' : Au} (h : Canon m) (h' : Canon m') (he : Eqv m 0 m' 0) : fitD m = fitD m' /\ decide (m.n <= 40) = decide (m'.n <= 40) := by
  have h1 := (canon_unique h h' he).1
  have h2 := fields_one h h' he
  unfold fitD
  rw [h1, h2]
  exact ⟨rfl, rfl⟩
theorem proR_yes {a b : Dx} {kind : Int} {y : Dx} {ok : Bool} (h : proR a b kind y ok) (ha : validD a = true) (hb : validD b = true) (hk : kind = 6 \/ kind = 7) {m : Au} (h1 : Canon m) (h2 : Eqv m 0 (prd (auD a) (auD b) (fK kind)) 0) : fitD m = y /\ decide (m.n <= 40) = ok := by
  unfold proR at h
  rw [if_pos ⟨ha, hb, hk⟩] at h
  obtain ⟨m', n1, n2, rfl, rfl⟩ := h
  exact fit_one h1 n1 (h2.swap n2)
theorem proR_no {a b : Dx} {kind : Int} {y : Dx} {ok : Bool} (h : proR a b kind y ok) (hn : ¬ (validD a = true /\ validD b = true /\ (kind = 6 \/ kind = 7))) : y = ⟨[], []⟩ /\ ok = false := by
  unfold proR at h
  rwa [if_neg hn] at h
end Go.Proofs.YtiijlpmdnokjfaaGreatDoor
namespace Go.Proofs.YtiijlpmdnokjfaaGreatDoor
open Go.RowKit
theorem One.start2 (w1 : World) (x : Int) :
    let W3 := (w1.alloc (.cells #[.slice none 0 0, .slice none 0 0] 31)).alloc (.cells #[.int .i64 x] 3)
    One w1.heap.size W3 w1.heap.size (.slice none 0 0) (.slice none 0 0) [] [] [] (λ _ _ => False) (.slice (some ⟨w1.heap.size + 1, 0, none⟩) 1 1) [x] /\ Below w1.heap.size w1 W3 := by
  intro W3
  have h0 := Out.start w1 (Nat.le_refl _)
  have h1 := IR.one (w1.alloc (.cells #[.slice none 0 0, .slice none 0 0] 31)) x (B := w1.heap.size) (by simp)
  rw [World.size_alloc] at h1
  exact ⟨⟨h0.below ((Below.refl _ _).alloc (Nat.le_refl _) _), h1, λ _ _ _ h => h⟩, ((Below.refl _ _).alloc (Nat.le_refl _) _).alloc (by simp) _⟩
theorem three_box' (w : World) (a b c : Obj) : let W := ((w.alloc a).alloc b).alloc c
    W.heap[w.heap.size]? = some a /\ W.heap[w.heap.size + 1]? = some b /\ W.heap[w.heap.size + 1 + 1]? = some c /\ Below w.heap.size w W := by
  intro W
  have h1 := heap_alloc_new (w.alloc a) b
  have h2 := heap_alloc_new ((w.alloc a).alloc b) c
  rw [World.size_alloc] at h1 h2
  rw [World.size_alloc] at h2
  exact ⟨(Below.heap_alloc _ _ _ (by simp; omega)).trans ((Below.heap_alloc _ _ _ (by simp)).trans (heap_alloc_new w a)), (Below.heap_alloc _ _ _ (by simp)).trans h1, h2, (((Below.refl _ _).alloc (Nat.le_refl _) _).alloc (by simp) _).alloc (by simp; omega) _⟩
def PrdPostS (a b : Au) (f : Bool -> Bool -> Bool) (w : World) (e : Ending) (w' : World) : Prop := ∃ m, Canon m /\ Eqv m 0 (prd a b f) 0 /\ CopyDB (fitD m) (decide (m.n <= 40)) w e w'
end Go.Proofs.YtiijlpmdnokjfaaGreatDoor
namespace Go.Proofs.YtiijlpmdnokjfaaGreatDoor
def putS : List Nat -> Nat -> List Nat
  | [], q => [q]
  | x :: s, q => if x < q then x :: putS s q else if x = q then x :: s else q :: x :: s
theorem mem_putS {x q : Nat} : ∀ {s : List Nat}, x ∈ putS s q ↔ x = q \/ x ∈ s
  | [] => by simp [putS]
  | y :: s => by
    unfold putS
    by_cases h1 : y < q
    . rw [if_pos h1, List.mem_cons, mem_putS, List.mem_cons]
      constructor
      . rintro (h | h | h)
        . exact .inr (.inl h)
        . exact .inl h
        . exact .inr (.inr h)
      . rintro (h | h | h)
        . exact .inr (.inl h)
        . exact .inl h
        . exact .inr (.inr h)
    . rw [if_neg h1]
      by_cases h2 : y = q
      . subst h2
        rw [if_pos rfl]
        simp
      . rw [if_neg h2]
        simp
theorem putS_asc {q : Nat} : ∀ {s : List Nat}, s.Pairwise (· < ·) -> (putS s q).Pairwise (· < ·)
  | [], _ => by simp [putS]
  | y :: s, h => by
    obtain ⟨h0, h'⟩ := List.pairwise_cons.1 h
    unfold putS
    by_cases h1 : y < q
    . rw [if_pos h1]
      refine List.pairwise_cons.2 ⟨λ z hz => ?_, putS_asc h'⟩
      rcases mem_putS.1 hz with rfl | hz
      . exact h1
      . exact h0 z hz
    . rw [if_neg h1]
      by_cases h2 : y = q
      . rw [if_pos h2]
        exact h
      . rw [if_neg h2]
        refine List.pairwise_cons.2 ⟨λ z hz => ?_, h⟩
        rcases List.mem_cons.1 hz with rfl | hz
        . omega
        . have := h0 z hz
          omega
theorem asc_eq : ∀ {s t : List Nat}, s.Pairwise (· < ·) -> t.Pairwise (· < ·) -> (∀ x, x ∈ s ↔ x ∈ t) -> s = t
  | [], [], _, _, _ => rfl
  | [], y :: t, _, _, h => absurd ((h y).2 (List.mem_cons_self ..)) (by simp)
  | y :: s, [], _, _, h => absurd ((h y).1 (List.mem_cons_self ..)) (by simp)
  | x :: s, y :: t, hs, ht, h => by
    obtain ⟨hs0, hs'⟩ := List.pairwise_cons.1 hs
    obtain ⟨ht0, ht'⟩ := List.pairwise_cons.1 ht
    have e : x = y := by
      rcases List.mem_cons.1 ((h x).1 (List.mem_cons_self ..)) with e | hx
      . exact e
      . rcases List.mem_cons.1 ((h y).2 (List.mem_cons_self ..)) with e | hy
        . exact e.symm
        . have := ht0 x hx
          have := hs0 y hy
          omega
    subst e
    rw [asc_eq hs' ht' (λ z => ?_)]
    constructor
    . intro hz
      rcases List.mem_cons.1 ((h z).1 (List.mem_cons_of_mem _ hz)) with rfl | h2
      . have := hs0 z hz
        omega
      . exact h2
    . intro hz
      rcases List.mem_cons.1 ((h z).2 (List.mem_cons_of_mem _ hz)) with rfl | h2
      . have := ht0 z hz
        omega
      . exact h2
def moveS (d : Au) (s : List Nat) (k : Nat) : List Nat := s.foldl (λ out q => putS out (d.T q k)) []
theorem mem_move_from {d : Au} {k x : Nat} : ∀ (s o : List Nat), x ∈ s.foldl (λ out q => putS out (d.T q k)) o ↔ x ∈ o \/ ∃ q ∈ s, d.T q k = x
  | [], o => by simp
  | y :: s, o => by
    rw [List.foldl_cons, mem_move_from s, mem_putS]
    constructor
    . rintro ((rfl | h) | ⟨q, hq, e⟩)
      . exact .inr ⟨y, List.mem_cons_self .., rfl⟩
      . exact .inl h
      . exact .inr ⟨q, List.mem_cons_of_mem _ hq, e⟩
    . rintro (h | ⟨q, hq, e⟩)
      . exact .inl (.inr h)
      . rcases List.mem_cons.1 hq with rfl | hq
        . exact .inl (.inl e.symm)
        . exact .inr ⟨q, hq, e⟩
theorem mem_move {d : Au} {k x : Nat} {s : List Nat} : x ∈ moveS d s k ↔ ∃ q ∈ s, d.T q k = x := by
  unfold moveS
  rw [mem_move_from]
  simp
theorem move_from_asc {d : Au} {k : Nat} : ∀ (s o : List Nat), o.Pairwise (· < ·) -> (s.foldl (λ out q => putS out (d.T q k)) o).Pairwise (· < ·)
  | [], _, h => h
  | _ :: s, _, h => move_from_asc s _ (putS_asc h)
theorem move_asc (d : Au) (s : List Nat) (k : Nat) : (moveS d s k).Pairwise (· < ·) := move_from_asc s [] List.Pairwise.nil
def anyS (d : Au) (s : List Nat) : Bool := s.any d.A
theorem anyS_iff {d : Au} {s : List Nat} : anyS d s = true ↔ ∃ q ∈ s, d.A q = true := by simp [anyS]
def catS (a : Au) : Nat × List Nat := (0, if a.A 0 then [0] else [])
def catG (a b : Au) (x : Nat × List Nat) (k : Nat) : Nat × List Nat := (a.T x.1 k, if a.A (a.T x.1 k) then putS (moveS b x.2 k) 0 else moveS b x.2 k)
def catL (a b : Au) (x : Nat × List Nat) (w : List Nat) : Prop := (∃ q ∈ x.2, b.A (b.run q w) = true) \/ ∃ u v, w = u ++ v /\ u ≠ [] /\ a.A (a.run x.1 u) = true /\ b.A (b.run 0 v) = true
theorem catL_nil (a b : Au) (x : Nat × List Nat) : catL a b x [] ↔ anyS b x.2 = true := by
  rw [anyS_iff]
  unfold catL
  constructor
  . rintro (h | ⟨u, v, e, hu, _⟩)
    . exact h
    . exact absurd (List.append_eq_nil_iff.1 e.symm).1 hu
  . exact λ h => .inl h
theorem catL_step (a b : Au) (x : Nat × List Nat) (k : Nat) (w : List Nat) : catL a b (catG a b x k) w ↔ catL a b x (k :: w) := by
  have hm : ∀ q, q ∈ (catG a b x k).2 ↔ (a.A (a.T x.1 k) = true /\ q = 0) \/ ∃ p ∈ x.2, b.T p k = q := λ q => by
    unfold catG
    by_cases h : a.A (a.T x.1 k) = true
    . simp only [h, if_true]
      rw [mem_putS, mem_move]
      simp
    . simp only [h]
      simp only [Bool.false_eq_true, if_false, false_and, false_or]
      exact mem_move
  unfold catL
  constructor
  . rintro (⟨q, hq, hb⟩ | ⟨u, v, rfl, hu, ha, hb⟩)
    . rcases (hm q).1 hq with ⟨ha, rfl⟩ | ⟨p, hp, rfl⟩
      . exact .inr ⟨[k], w, rfl, by simp, ha, hb⟩
      . exact .inl ⟨p, hp, hb⟩
    . exact .inr ⟨k :: u, v, rfl, by simp, ha, hb⟩
  . rintro (⟨p, hp, hb⟩ | ⟨u, v, e, hu, ha, hb⟩)
    . exact .inl ⟨b.T p k, (hm _).2 (.inr ⟨p, hp, rfl⟩), hb⟩
    . cases u with
      | nil => exact absurd rfl hu
      | cons y u =>
        injection e with e1 e2
        subst e1
        cases u with
        | nil =>
          have e3 : w = v := e2
          subst e3
          exact .inl ⟨0, (hm 0).2 (.inl ⟨ha, rfl⟩), hb⟩
        | cons z u => exact .inr ⟨z :: u, v, e2, by simp, ha, hb⟩
theorem catL_start (a b : Au) (w : List Nat) : catL a b (catS a) w ↔ ∃ u v, w = u ++ v /\ a.A (a.run 0 u) = true /\ b.A (b.run 0 v) = true := by
  unfold catL catS
  constructor
  . rintro (⟨q, hq, hb⟩ | ⟨u, v, e, _, ha, hb⟩)
    . by_cases h : a.A 0 = true
      . simp only [h, if_true, List.mem_singleton] at hq
        subst hq
        exact ⟨[], w, rfl, h, hb⟩
      . simp only [h] at hq
        simp at hq
    . exact ⟨u, v, e, ha, hb⟩
  . rintro ⟨u, v, e, ha, hb⟩
    cases u with
    | nil =>
      have e3 : w = v := e
      subst e3
      have h : a.A 0 = true := ha
      exact .inl ⟨0, by simp [h], hb⟩
    | cons y u => exact .inr ⟨y :: u, v, e, by simp, ha, hb⟩
inductive StarW (d : Au) : List Nat -> Prop
  | nil : StarW d []
  | app (u v : List Nat) : u ≠ [] -> d.A (d.run 0 u) = true -> StarW d v -> StarW d (u ++ v)
theorem StarW.more {d : Au} {u v : List Nat} (ha : d.A (d.run 0 u) = true) (hv : StarW d v) : StarW d (u ++ v) := by
  by_cases hu : u = []
  . rw [hu]
    exact hv
  . exact .app u v hu ha hv
def starS : Bool × List Nat := (true, [0])
def starG (d : Au) (x : Bool × List Nat) (k : Nat) : Bool × List Nat := (false, if anyS d (moveS d x.2 k) then putS (moveS d x.2 k) 0 else moveS d x.2 k)
def starA (d : Au) (x : Bool × List Nat) : Bool := x.1 || anyS d x.2
def StarC (d : Au) (x : Bool × List Nat) : Prop := (∃ q ∈ x.2, d.A q = true) -> 0 ∈ x.2
theorem starC_start (d : Au) : StarC d starS := λ _ => by simp [starS]
theorem mem_starG {d : Au} {x : Bool × List Nat} {k q : Nat} : q ∈ (starG d x k).2 ↔ (∃ p ∈ x.2, d.T p k = q) \/ ((∃ p ∈ x.2, d.A (d.T p k) = true) /\ q = 0) := by
  have ha : anyS d (moveS d x.2 k) = true ↔ ∃ p ∈ x.2, d.A (d.T p k) = true := by
    rw [anyS_iff]
    constructor
    . rintro ⟨q, hq, h⟩
      obtain ⟨p, hp, rfl⟩ := mem_move.1 hq
      exact ⟨p, hp, h⟩
    . rintro ⟨p, hp, h⟩
      exact ⟨_, mem_move.2 ⟨p, hp, rfl⟩, h⟩
  unfold starG
  by_cases h : anyS d (moveS d x.2 k) = true
  . simp only [h, if_true]
    rw [mem_putS, mem_move]
    have := ha.1 h
    constructor
    . rintro (rfl | h2)
      . exact .inr ⟨this, rfl⟩
      . exact .inl h2
    . rintro (h2 | ⟨_, rfl⟩)
      . exact .inr h2
      . exact .inl rfl
  . have hn : ¬ ∃ p ∈ x.2, d.A (d.T p k) = true := λ h2 => h (ha.2 h2)
    simp only [h]
    simp only [Bool.false_eq_true, if_false]
    rw [mem_move]
    constructor
    . exact λ h2 => .inl h2
    . rintro (h2 | ⟨h2, _⟩)
      . exact h2
      . exact absurd h2 hn
theorem starC_step (d : Au) (x : Bool × List Nat) (k : Nat) : StarC d (starG d x k) := by
  rintro ⟨q, hq, h⟩
  rcases mem_starG.1 hq with ⟨p, hp, rfl⟩ | ⟨h2, _⟩
  . exact mem_starG.2 (.inr ⟨⟨p, hp, h⟩, rfl⟩)
  . exact mem_starG.2 (.inr ⟨h2, rfl⟩)
def starL (d : Au) (x : Bool × List Nat) (w : List Nat) : Prop := (x.1 = true /\ w = []) \/ ∃ q ∈ x.2, ∃ u v, w = u ++ v /\ d.A (d.run q u) = true /\ StarW d v
theorem starL_nil (d : Au) (x : Bool × List Nat) : starL d x [] ↔ starA d x = true := by
  unfold starL starA
  rw [Bool.or_eq_true, anyS_iff]
  constructor
  . rintro (⟨h, _⟩ | ⟨q, hq, u, v, e, ha, _⟩)
    . exact .inl h
    . rw [(List.append_eq_nil_iff.1 e.symm).1] at ha
      exact .inr ⟨q, hq, ha⟩
  . rintro (h | ⟨q, hq, ha⟩)
    . exact .inl ⟨h, rfl⟩
    . exact .inr ⟨q, hq, [], [], rfl, ha, .nil⟩
theorem starL_step (d : Au) (x : Bool × List Nat) (hx : StarC d x) (k : Nat) (w : List Nat) : starL d (starG d x k) w ↔ starL d x (k :: w) := by
  unfold starL
  constructor
  . rintro (⟨h, _⟩ | ⟨q, hq, u, v, e, ha, hv⟩)
    . exact absurd h (by simp [starG])
    . subst e
      rcases mem_starG.1 hq with ⟨p, hp, rfl⟩ | ⟨⟨p, hp, hpa⟩, rfl⟩
      . exact .inr ⟨p, hp, k :: u, v, rfl, ha, hv⟩
      . exact .inr ⟨p, hp, [k], u ++ v, rfl, hpa, hv.more ha⟩
  . rintro (⟨_, h⟩ | ⟨q, hq, u, v, e, ha, hv⟩)
    . cases h
    . cases u with
      | nil =>
        have e3 : k :: w = v := e
        subst e3
        have h0 := hx ⟨q, hq, ha⟩
        generalize hy : k :: w = y at hv
        cases hv with
        | nil => cases hy
        | app u' v' hu' ha' hv' =>
          cases u' with
          | nil => exact absurd rfl hu'
          | cons z u' =>
            injection hy with e1 e2
            subst e1
            exact .inr ⟨d.T 0 k, mem_starG.2 (.inl ⟨0, h0, rfl⟩), u', v', e2, ha', hv'⟩
      | cons z u =>
        injection e with e1 e2
        subst e1
        exact .inr ⟨d.T q k, mem_starG.2 (.inl ⟨q, hq, rfl⟩), u, v, e2, ha, hv⟩
theorem starL_start (d : Au) (w : List Nat) : starL d starS w ↔ StarW d w := by
  unfold starL starS
  constructor
  . rintro (⟨_, rfl⟩ | ⟨q, hq, u, v, rfl, ha, hv⟩)
    . exact .nil
    . simp only [List.mem_singleton] at hq
      subst hq
      exact hv.more ha
  . intro h
    cases h with
    | nil => exact .inl ⟨rfl, rfl⟩
    | app u v _ ha hv => exact .inr ⟨0, by simp, u, v, rfl, ha, hv⟩
end Go.Proofs.YtiijlpmdnokjfaaGreatDoor
namespace Go.Proofs.YtiijlpmdnokjfaaGreatDoor
open Go.RowKit
section
variable {α : Type} [DecidableEq α] [Inhabited α] {s0 : α} {g : α -> Nat -> α} {M : Nat}
theorem Ends.one {N N' : Nat} (h : Ends s0 g N) (h' : Ends s0 g N') : N = N' := by
  rcases Nat.lt_trichotomy N N' with hl | e | hl
  . have := h'.on N hl
    have := h.stop
    omega
  . exact e
  . have := h.on N' hl
    have := h'.stop
    omega
theorem Ends.not_big {i N M : Nat} (ha : ∀ j, j <= i -> j < (ords s0 g (3 * j)).length) (hb : M < (ords s0 g (3 * (i + 1))).length) (hN : N <= M) : ¬ Ends s0 g N := λ h => by
  have hi : i < N := by
    apply Nat.lt_of_not_le
    intro hle
    have := ha N hle
    have := h.stop
    omega
  have h1 := (ords_prefix (s0 := s0) (g := g) (show 3 * (i + 1) <= 3 * N by omega)).length_le
  have := h.stop
  omega
def srchR (M : Nat) (s0 : α) (g : α -> Nat -> α) (acc : α -> Bool) (y : Dx) (ok : Bool) : Prop :=
  (∃ N, N <= M /\ Ends s0 g N /\ ∃ m, Canon m /\ Eqv m 0 (found s0 g acc N) 0 /\ y = fitD m /\ ok = decide (m.n <= 40)) \/ ((∀ N, N <= M -> ¬ Ends s0 g N) /\ y = ⟨[], []⟩ /\ ok = false)
theorem srchR_some (M : Nat) (s0 : α) (g : α -> Nat -> α) (acc : α -> Bool) : ∃ y ok, srchR M s0 g acc y ok := by
  by_cases h : ∃ N, N <= M /\ Ends s0 g N
  . obtain ⟨N, hN, hE⟩ := h
    obtain ⟨m, h1, h2, _⟩ := exists_min (hE.wf acc)
    exact ⟨_, _, .inl ⟨N, hN, hE, m, h1, h2, rfl, rfl⟩⟩
  . exact ⟨_, _, .inr ⟨λ N hN hE => h ⟨N, hN, hE⟩, rfl, rfl⟩⟩
theorem srchR_yes {acc : α -> Bool} {y : Dx} {ok : Bool} (h : srchR M s0 g acc y ok) {N : Nat} (hN : N <= M) (hE : Ends s0 g N) {m : Au} (h1 : Canon m) (h2 : Eqv m 0 (found s0 g acc N) 0) : fitD m = y /\ decide (m.n <= 40) = ok := by
  rcases h with ⟨N', _, hE', m', n1, n2, rfl, rfl⟩ | ⟨hn, _⟩
  . have e := hE.one hE'
    subst e
    exact fit_one h1 n1 (h2.swap n2)
  . exact absurd hE (hn N hN)
theorem srchR_no {acc : α -> Bool} {y : Dx} {ok : Bool} (h : srchR M s0 g acc y ok) (hn : ∀ N, N <= M -> ¬ Ends s0 g N) : y = ⟨[], []⟩ /\ ok = false := by
  rcases h with ⟨N, hN, hE, _⟩ | ⟨_, h⟩
  . exact absurd hE (hn N hN)
  . exact h
theorem srchR_lang {acc : α -> Bool} {y : Dx} (h : srchR M s0 g acc y true) {L : α -> List Nat -> Prop} (h0 : ∀ x, L x [] ↔ acc x = true) {I : α -> Prop} (hI0 : I s0) (hIs : ∀ x k, I x -> I (g x k)) (h1 : ∀ x, I x -> ∀ k w, L (g x k) w ↔ L x (k :: w)) :
    ∃ m, Canon m /\ m.n <= 40 /\ y = fieldsOf m /\ ∀ w, W3 w -> (m.A (m.run 0 w) = true ↔ L s0 w) := by
  rcases h with ⟨N, _, hE, m, n1, n2, rfl, hok⟩ | ⟨_, _, hf⟩
  . have hn : m.n <= 40 := by simpa using hok.symm
    have hI : ∀ t, t <= 3 * N -> ∀ x ∈ ords s0 g t, I x := by
      intro t
      induction t with
      | zero =>
        intro _ x hx
        rw [ords, List.mem_singleton] at hx
        rw [hx]
        exact hI0
      | succ t ih =>
        intro ht x hx
        have hk : I ((ords s0 g t).getD (t / 3) default) := by
          refine ih (by omega) _ (getD_mem ?_)
          have h1 := hE.on (t / 3) (by omega)
          have h2 := (ords_prefix (s0 := s0) (g := g) (show 3 * (t / 3) <= t by omega)).length_le
          omega
        rw [ords] at hx
        split at hx
        . exact ih (by omega) x hx
        . rcases List.mem_append.1 hx with h | h
          . exact ih (by omega) x h
          . rw [List.mem_singleton.1 h]
            exact hIs _ _ hk
    refine ⟨m, n1, hn, by unfold fitD; rw [if_pos hn], λ w hw => ?_⟩
    have hl := hE.lang (acc := acc) (L := λ x w => @decide (L x w) (Classical.propDecidable _)) (λ x => by
      have := h0 x
      cases ha : acc x <;> simp [ha] at this ⊢ <;> exact this) (λ x hx k _ w _ => by
      have := h1 x (hI _ (Nat.le_refl _) x hx) k w
      exact decide_eq_decide.2 this) w 0 hw hE.pos
    rw [ords_first] at hl
    rw [n2 w hw, hl]
    exact @decide_eq_true_iff _ (Classical.propDecidable _)
  . cases hf
end
def catR (a b y : Dx) (ok : Bool) : Prop := if validD a = true /\ validD b = true then srchR 400 (catS (auD a)) (catG (auD a) (auD b)) (λ x => anyS (auD b) x.2) y ok else y = ⟨[], []⟩ /\ ok = false
def starR (d y : Dx) (ok : Bool) : Prop := if validD d = true then srchR 400 starS (starG (auD d)) (starA (auD d)) y ok else y = ⟨[], []⟩ /\ ok = false
theorem catR_some (a b : Dx) : ∃ y ok, catR a b y ok := by
  unfold catR
  by_cases h : validD a = true /\ validD b = true
  . simp only [if_pos h]
    exact srchR_some _ _ _ _
  . simp only [if_neg h]
    exact ⟨_, _, rfl, rfl⟩
theorem starR_some (d : Dx) : ∃ y ok, starR d y ok := by
  unfold starR
  by_cases h : validD d = true
  . simp only [if_pos h]
    exact srchR_some _ _ _ _
  . simp only [if_neg h]
    exact ⟨_, _, rfl, rfl⟩
theorem catR_lang {a b y : Dx} (h : catR a b y true) : validD a = true /\ validD b = true /\ ∃ m, Canon m /\ m.n <= 40 /\ y = fieldsOf m /\ ∀ w, W3 w -> (m.A (m.run 0 w) = true ↔ ∃ u v, w = u ++ v /\ (auD a).A ((auD a).run 0 u) = true /\ (auD b).A ((auD b).run 0 v) = true) := by
  unfold catR at h
  by_cases hc : validD a = true /\ validD b = true
  . rw [if_pos hc] at h
    obtain ⟨m, h1, h2, h3, h4⟩ := srchR_lang h (L := catL (auD a) (auD b)) (λ x => catL_nil _ _ x) (I := λ _ => True) trivial (λ _ _ _ => trivial) (λ x _ k w => catL_step _ _ x k w)
    exact ⟨hc.1, hc.2, m, h1, h2, h3, λ w hw => (h4 w hw).trans (catL_start _ _ w)⟩
  . rw [if_neg hc] at h
    exact absurd h.2 (by simp)
theorem starR_lang {d y : Dx} (h : starR d y true) : validD d = true /\ ∃ m, Canon m /\ m.n <= 40 /\ y = fieldsOf m /\ ∀ w, W3 w -> (m.A (m.run 0 w) = true ↔ StarW (auD d) w) := by
  unfold starR at h
  by_cases hc : validD d = true
  . rw [if_pos hc] at h
    obtain ⟨m, h1, h2, h3, h4⟩ := srchR_lang h (L := starL (auD d)) (λ x => starL_nil _ x) (I := StarC (auD d)) (starC_start _) (λ x k _ => starC_step _ x k) (λ x hx k w => starL_step _ x hx k w)
    exact ⟨hc, m, h1, h2, h3, λ w hw => (h4 w hw).trans (starL_start _ w)⟩
  . rw [if_neg hc] at h
    exact absurd h.2 (by simp)
end Go.Proofs.YtiijlpmdnokjfaaGreatDoor
namespace Go.Proofs.YtiijlpmdnokjfaaGreatDoor
open Go.RowKit
def mskS (s : List Nat) : Nat := s.foldl (λ m q => m ||| 2 ^ q) 0
theorem msk_from (i : Nat) : ∀ (s : List Nat) (m : Nat), (s.foldl (λ m q => m ||| 2 ^ q) m).testBit i = (m.testBit i || decide (i ∈ s))
  | [], m => by simp
  | q :: s, m => by
    rw [List.foldl_cons, msk_from i s, Nat.testBit_or, Nat.testBit_two_pow, Bool.or_assoc]
    congr 1
    by_cases h : q = i
    . subst h; simp
    . have h' : ¬ i = q := λ e => h e.symm
      simp [h, h']
theorem mskS_bit (s : List Nat) (i : Nat) : (mskS s).testBit i = decide (i ∈ s) := by
  unfold mskS
  rw [msk_from]
  simp
theorem mskS_lt {s : List Nat} {n : Nat} (h : ∀ q ∈ s, q < n) : mskS s < 2 ^ n := Nat.lt_pow_two_of_testBit _ (λ i hi => by
  rw [mskS_bit]
  simp only [decide_eq_false_iff_not]
  intro hm
  have := h i hm
  omega)
theorem mskS_64 {s : List Nat} (h : ∀ q ∈ s, q < 40) : mskS s < 1099511627776 := mskS_lt (n := 40) h
theorem msk_wf {s : List Nat} (h : ∀ q ∈ s, q < 40) : (Lit.int .u64 ((mskS s : Nat) : Int)).wf = true := by
  have := mskS_64 h
  simp [Lit.wf, IntKind.min, IntKind.max, IntKind.signed, IntKind.bits]
  omega
theorem msk_eq {s : List Nat} {m : Nat} (h : ∀ i, m.testBit i = decide (i ∈ s)) : m = mskS s := Nat.eq_of_testBit_eq (λ i => by rw [h, mskS_bit])
theorem msk_inj {s t : List Nat} (hs : s.Pairwise (· < ·)) (ht : t.Pairwise (· < ·)) (h : mskS s = mskS t) : s = t := asc_eq hs ht (λ x => by
  have h1 := mskS_bit s x
  rw [h, mskS_bit] at h1
  exact ⟨λ hx => by simpa [hx] using h1, λ hx => by simpa [hx] using h1.symm⟩)
theorem msk_put (s : List Nat) (q : Nat) : mskS s ||| 2 ^ q = mskS (putS s q) := msk_eq (λ i => by
  rw [Nat.testBit_or, mskS_bit, Nat.testBit_two_pow]
  by_cases h : q = i
  . subst h; simp [mem_putS]
  . have h' : ¬ i = q := λ e => h e.symm
    simp [h, mem_putS, h'])
theorem msk_put0 (s : List Nat) : mskS s ||| 1 = mskS (putS s 0) := msk_put s 0
theorem msk_meets (s t : List Nat) : (mskS s &&& mskS t ≠ 0) ↔ ∃ q ∈ s, q ∈ t := by
  constructor
  . intro h
    apply Classical.byContradiction
    intro hn
    apply h
    refine Nat.eq_of_testBit_eq (λ i => ?_)
    rw [Nat.testBit_and, mskS_bit, mskS_bit, Nat.zero_testBit]
    by_cases h1 : i ∈ s
    . have h2 : i ∉ t := λ h2 => hn ⟨i, h1, h2⟩
      simp [h2]
    . simp [h1]
  . rintro ⟨q, h1, h2⟩ h
    have h3 : (mskS s &&& mskS t).testBit q = true := by rw [Nat.testBit_and, mskS_bit, mskS_bit]; simp [h1, h2]
    rw [h, Nat.zero_testBit] at h3
    cases h3
def accS (d : Au) (n : Nat) : List Nat := (List.range n).filter d.A
theorem accS_succ_yes {d : Au} {n : Nat} (h : d.A n = true) : mskS (accS d n) ||| 2 ^ n = mskS (accS d (n + 1)) := msk_eq (λ i => by
  rw [Nat.testBit_or, mskS_bit, Nat.testBit_two_pow]
  by_cases e : n = i
  . subst e; simp [accS, h]
  . have h1 : (i < n + 1) = (i < n) := propext ⟨λ h => by omega, λ h => by omega⟩
    simp [e, accS, h1])
theorem accS_succ_no {d : Au} {n : Nat} (h : d.A n = false) : accS d (n + 1) = accS d n := by simp [accS, List.range_succ, h]
theorem accS_lt {d : Au} {n q : Nat} (h : q ∈ accS d n) : q < n := by simp [accS] at h; exact h.1
theorem any_meets {d : Au} {s : List Nat} (hs : ∀ q ∈ s, q < d.n) : anyS d s = decide (mskS s &&& mskS (accS d d.n) ≠ 0) := by
  rw [Bool.eq_iff_iff, anyS_iff, decide_eq_true_iff, msk_meets]
  constructor
  . rintro ⟨q, h1, h2⟩
    exact ⟨q, h1, by simp [accS, h2]; exact hs q h1⟩
  . rintro ⟨q, h1, h2⟩
    exact ⟨q, h1, by simp [accS] at h2; exact h2.2⟩
theorem ctz_bit {x : Nat} (h0 : x ≠ 0) (h : x < 18446744073709551616) : Lib.ctz 64 x < 64 /\ x.testBit (Lib.ctz 64 x) = true := by
  obtain ⟨h1, h2⟩ := Lib.lowest_bit 64 x h0 h
  refine ⟨h2, ?_⟩
  have h3 : (x &&& (2 ^ 64 - x)).testBit (Lib.ctz 64 x) = true := by rw [h1, Nat.testBit_two_pow]; simp
  rw [Nat.testBit_and] at h3
  simp only [Bool.and_eq_true] at h3
  exact h3.1
def dropB (x q : Nat) : Nat := x &&& (18446744073709551615 - 2 ^ q)
theorem dropB_bit {x q i : Nat} (hx : x < 18446744073709551616) (hq : q < 64) : (dropB x q).testBit i = (x.testBit i && !decide (q = i)) := by
  unfold dropB
  have h1 : (18446744073709551615 - 2 ^ q).testBit i = (decide (i < 64) && !(2 ^ q).testBit i) := by
    have h2 := Nat.testBit_two_pow_sub_succ (x := 2 ^ q) (n := 64) (Nat.pow_lt_pow_right (by decide) hq) i
    rw [<- h2]
    congr 1
    show 18446744073709551615 - 2 ^ q = 18446744073709551616 - (2 ^ q + 1)
    omega
  rw [Nat.testBit_and, h1, Nat.testBit_two_pow]
  by_cases hi : i < 64
  . simp [hi]
  . have h3 : x.testBit i = false := Nat.testBit_lt_two_pow (Nat.lt_of_lt_of_le hx (Nat.pow_le_pow_right (n := 2) (by decide) (show 64 <= i by omega)))
    simp [h3]
theorem dropB_lt {x q : Nat} (hx : x < 18446744073709551616) (hq : q < 64) (h : x.testBit q = true) : dropB x q < x := by
  have hle : dropB x q <= x := Nat.and_le_left
  rcases Nat.lt_or_eq_of_le hle with h1 | h1
  . exact h1
  . have h2 := dropB_bit (i := q) hx hq
    rw [h1, h] at h2
    simp at h2
def MoveOf (d : Au) (k : Nat) (s : List Nat) (x m : Nat) : Prop := (∀ i, x.testBit i = true -> i ∈ s) /\ ∀ i, m.testBit i = true ↔ ∃ q ∈ s, x.testBit q = false /\ d.T q k = i
theorem moveOf_start (d : Au) (k : Nat) (s : List Nat) : MoveOf d k s (mskS s) 0 := by
  refine ⟨λ i h => by rw [mskS_bit] at h; simpa using h, λ i => ?_⟩
  rw [Nat.zero_testBit]
  constructor
  . intro h; cases h
  . rintro ⟨q, h1, h2, _⟩
    rw [mskS_bit] at h2
    simp [h1] at h2
theorem moveOf_step {d : Au} {k : Nat} {s : List Nat} {x m q : Nat} (h : MoveOf d k s x m) (hx : x < 18446744073709551616) (hq : q < 64) (hb : x.testBit q = true) : MoveOf d k s (dropB x q) (m ||| 2 ^ d.T q k) := by
  refine ⟨λ i hi => ?_, λ i => ?_⟩
  . rw [dropB_bit hx hq] at hi
    simp only [Bool.and_eq_true] at hi
    exact h.1 i hi.1
  . rw [Nat.testBit_or, Nat.testBit_two_pow, Bool.or_eq_true, decide_eq_true_iff]
    constructor
    . rintro (h1 | h1)
      . obtain ⟨p, p1, p2, p3⟩ := (h.2 i).1 h1
        exact ⟨p, p1, by rw [dropB_bit hx hq, p2]; rfl, p3⟩
      . exact ⟨q, h.1 q hb, by rw [dropB_bit hx hq]; simp, h1⟩
    . rintro ⟨p, p1, p2, p3⟩
      rw [dropB_bit hx hq] at p2
      by_cases e : q = p
      . subst e
        exact .inr p3
      . refine .inl ((h.2 i).2 ⟨p, p1, ?_, p3⟩)
        simpa [e] using p2
theorem moveOf_end {d : Au} {k : Nat} {s : List Nat} {m : Nat} (h : MoveOf d k s 0 m) : m = mskS (moveS d s k) := msk_eq (λ i => by
  rw [Bool.eq_iff_iff, h.2 i, decide_eq_true_iff, mem_move]
  constructor
  . rintro ⟨q, h1, _, h3⟩
    exact ⟨q, h1, h3⟩
  . rintro ⟨q, h1, h3⟩
    exact ⟨q, h1, Nat.zero_testBit _, h3⟩)
theorem moveOf_lt {d : Au} {k : Nat} {s : List Nat} {x m n : Nat} (h : MoveOf d k s x m) (hs : ∀ q ∈ s, d.T q k < n) : m < 2 ^ n := Nat.lt_pow_two_of_testBit _ (λ i hi => by
  cases hb : m.testBit i with
  | false => rfl
  | true =>
    obtain ⟨q, h1, _, h3⟩ := (h.2 i).1 hb
    have := hs q h1
    omega)
def Tab (w : World) : Prop := TabAt 0 Lib.deBruijn64tab w
theorem Tab.kept {w w' : World} (h : Tab w) (hb : Below w.heap.size w w') : Tab w' := λ j hj => (hb.cell (cell_in (h j hj))).trans (h j hj)
theorem implTz_core (x k idx : Nat) (w : World) (hx0 : ((x : Int) == 0) = false)
    (key : IntKind.u64.wrap (bits BinOp.and IntKind.u64 (x : Int) (IntKind.u64.wrap (-(x : Int))) * 285870213051353865) / 288230376151711744 = (idx : Int))
    (hi : idx < 64) (hk : k < 64) (hcell : w.cell? ⟨0, idx, none⟩ = some (.int .u8 k)) :
    Calls Tryz.prog 117 #[.int .u64 x] w λ e w' => e = .returned (.int .i64 k) /\ w = w' := by
  go_enter Tryz.func117, Tryz.ntmps117
  go_wp2_with (simp only [key])
  go_ret
  exact ⟨rfl, rfl⟩
theorem implTz_any (x : Nat) (h0 : x ≠ 0) (hx : x < 18446744073709551616) (w : World) (hT : Tab w) :
    Calls Tryz.prog 117 #[.int .u64 x] w λ e w' => e = .returned (.int .i64 (Lib.ctz 64 x)) /\ w = w' := by
  obtain ⟨hlow, hk⟩ := Lib.lowest_bit 64 x h0 hx
  obtain ⟨hi, htab⟩ := Lib.deBruijn64_at _ hk
  have hcell := hT _ hi
  rw [htab] at hcell
  exact implTz_core x _ _ w (by simp; omega) (tz64_key x _ hx h0 hlow) hi hk hcell
theorem pow_cast (q : Nat) : ((2 ^ q : Nat) : Int) = (2 : Int) ^ q := by push_cast; rfl
theorem pow_small {q : Nat} (h : q < 64) : 2 ^ q < 18446744073709551616 := by
  have h1 : 2 ^ q < 2 ^ 64 := Nat.pow_lt_pow_right (by decide) h
  omega
theorem shl_u64 {q : Nat} (h : q < 64) : IntKind.u64.wrap (2 ^ q) = (2 : Int) ^ q := by
  have h1 := pow_small h
  rw [IntKind.wrap_u64, <- pow_cast]
  exact Int.emod_eq_of_lt (Int.natCast_nonneg _) (Int.ofNat_lt.2 h1)
theorem or_pow {a q : Nat} (ha : a < 18446744073709551616) (h : q < 64) : bits .or .u64 (a : Int) ((2 : Int) ^ q) = ((a ||| 2 ^ q : Nat) : Int) := by
  rw [<- pow_cast]
  exact u64_or_nat a (2 ^ q) ha (pow_small h)
theorem or_one {a : Nat} (ha : a < 18446744073709551616) : bits .or .u64 (a : Int) 1 = ((a ||| 1 : Nat) : Int) := u64_or_nat a 1 ha (by decide)
theorem drop_pow {a q : Nat} (ha : a < 18446744073709551616) (h : q < 64) : bits .andNot .u64 (a : Int) ((2 : Int) ^ q) = ((dropB a q : Nat) : Int) := by
  rw [<- pow_cast]
  exact u64_andNot_nat a (2 ^ q) ha (pow_small h)
theorem implAccSt_any (ad : Addr) (n c : Nat) (vn : Value) (a : Au) (w : World) (hn : n <= 40) (hA : ∀ q, q < n -> w.cell? (ad.add q) = some (.bool (a.A q))) :
    Calls Tryz.prog 82 #[.agg #[.slice (some ad) n c, vn]] w λ e w' => e = .returned (.int .u64 ((mskS (accS a n) : Nat) : Int)) /\ Below w.heap.size w w' := by
  obtain ⟨W0, hW0⟩ : ∃ W0, W0 = w.alloc (.cells #[.slice (some ad) n c, vn] 31) := ⟨_, rfl⟩
  have HB0 : Hid (Below w.heap.size w W0) := Lib.hid (by rw [hW0]; exact (Below.refl _ _).alloc (Nat.le_refl _) _)
  obtain ⟨c0, -, -, -⟩ := box2_facts (show W0.heap[w.heap.size]? = some (.cells #[.slice (some ad) n c, vn] 31 (0, 0)) by rw [hW0]; exact heap_alloc_new w _)
  have HA := Lib.hid (λ q (hq : q < n) => (HB0.out.cell (cell_in (hA q hq))).trans (hA q hq))
  have h0 : mskS (accS a 0) = 0 := rfl
  clear hA
  rw [hW0] at c0
  go_enter Tryz.func82, Tryz.ntmps82
  go_wp2_with fail
  rw [<- hW0]
  clear c0 hW0
  go_loopw [3, 9] (λ sv iv wr => ∃ q : Nat, sv = .int .u64 ((mskS (accS a q) : Nat) : Int) /\ iv = .int .i64 q /\ q <= n /\ W0 = wr) (λ _ iv _ => n - (intOf iv).toNat)
  case atStart => exact ⟨0, by rw [h0]; rfl, rfl, Nat.zero_le _, rfl⟩
  case round =>
    obtain ⟨q, rfl, rfl, hq, rfl⟩ := hrel
    by_cases hlt : q < n
    . have hc := HA.out q hlt
      have hd : decide ((q : Int) < (n : Int)) = true := by simp; omega
      have s1 : (0 : Int) <= (q : Int) := by omega
      have s2 : (q : Int) < (n : Int) := by omega
      obtain ⟨b, hb⟩ : ∃ b, b = a.A q := ⟨_, rfl⟩
      rw [<- hb] at hc
      cases b with
      | true =>
        have hm1 : mskS (accS a q) < 1099511627776 := mskS_64 (λ p hp => by have := accS_lt hp; omega)
        have hor := or_pow (a := mskS (accS a q)) (q := q) (by omega) (by omega)
        rw [accS_succ_yes hb.symm] at hor
        have hsh := shl_u64 (q := q) (by omega)
        obtain ⟨m, hm⟩ : ∃ m, m = mskS (accS a q) := ⟨_, rfl⟩
        obtain ⟨m2, hm2'⟩ : ∃ m, m = mskS (accS a (q + 1)) := ⟨_, rfl⟩
        rw [<- hm, <- hm2'] at hor
        have HE := Lib.hid hm2'
        rw [<- hm]
        clear hm1 hm hm2' hb
        go_wp2_with fail
        go_roundw
        case rel => exact ⟨q + 1, by rw [HE.out], by go_num, by omega, trivial⟩
        case measure => simp [intOf]; omega
      | false =>
        have HE := Lib.hid (accS_succ_no hb.symm)
        obtain ⟨m, hm⟩ : ∃ m, m = mskS (accS a q) := ⟨_, rfl⟩
        rw [<- hm]
        have HM := Lib.hid hm
        clear hm hb
        go_wp2_with fail
        go_roundw
        case rel => exact ⟨q + 1, by rw [HE.out, HM.out], by go_num, by omega, trivial⟩
        case measure => simp [intOf]; omega
    . obtain rfl : q = n := by omega
      have hd : decide ((q : Int) < (q : Int)) = false := by simp
      go_wp2_with fail
      go_ret
      exact ⟨rfl, HB0.out⟩
theorem implMeets_any (x y : Nat) (hx : x < 18446744073709551616) (hy : y < 18446744073709551616) (w : World) :
    Calls Tryz.prog 84 #[.int .u64 (x : Int), .int .u64 (y : Int)] w λ e w' => e = .returned (.bool (decide (x &&& y ≠ 0))) /\ w = w' := by
  have hand := u64_and_nat x y hx hy
  obtain ⟨z, hz⟩ : ∃ z, z = x &&& y := ⟨_, rfl⟩
  rw [<- hz] at hand ⊢
  have HR : Hid (decide (z ≠ 0) = ((z : Int) != 0)) := Lib.hid (by
    by_cases h : z = 0
    . subst h; rfl
    . simp [h])
  clear hz
  go_enter Tryz.func84, Tryz.ntmps84
  go_wp2_with fail
  go_ret
  exact ⟨congrArg (λ b : Bool => Ending.returned (.bool b)) HR.out.symm, rfl⟩
theorem implMove_any (va : Value) (aN : Addr) (n c k : Nat) (a : Au) (s : List Nat) (w : World) (hn : n <= 40) (hk : k < 3) (hs : ∀ q ∈ s, q < n) (hw : ∀ q, q < n -> a.T q k < n) (hT : ∀ q, q < n -> ∃ r q', w.cell? (aN.add q) = some (.slice (some r) 3 q') /\ w.cell? (r.add k) = some (.int .i64 ((a.T q k : Nat) : Int))) (hTab : Tab w) :
    Calls Tryz.prog 81 #[.int .u64 ((mskS s : Nat) : Int), .agg #[va, .slice (some aN) n c], .int .i64 (k : Int)] w λ e w' => e = .returned (.int .u64 ((mskS (moveS a s k) : Nat) : Int)) /\ Below w.heap.size w w' := by
  obtain ⟨W0, hW0⟩ : ∃ W0, W0 = w.alloc (.cells #[va, .slice (some aN) n c] 31) := ⟨_, rfl⟩
  have HB0 : Hid (Below w.heap.size w W0) := Lib.hid (by rw [hW0]; exact (Below.refl _ _).alloc (Nat.le_refl _) _)
  obtain ⟨-, c1, -, -⟩ := box2_facts (show W0.heap[w.heap.size]? = some (.cells #[va, .slice (some aN) n c] 31 (0, 0)) by rw [hW0]; exact heap_alloc_new w _)
  have HT := Lib.hid (λ q (hq : q < n) => (by
    obtain ⟨r, q', h1, h2⟩ := hT q hq
    exact ⟨r, q', (HB0.out.cell (cell_in h1)).trans h1, (HB0.out.cell (cell_in h2)).trans h2⟩ : ∃ r q', W0.cell? (aN.add q) = some (.slice (some r) 3 q') /\ W0.cell? (r.add k) = some (.int .i64 ((a.T q k : Nat) : Int))))
  have HTab := Lib.hid (hTab.kept HB0.out)
  have HS := Lib.hid hs
  have HW := Lib.hid hw
  have hm0 := mskS_64 (s := s) (λ q hq => by have := hs q hq; omega)
  have HM0 := Lib.hid (moveOf_start a k s)
  obtain ⟨x0, hx0⟩ : ∃ x, x = mskS s := ⟨_, rfl⟩
  rw [<- hx0] at HM0 hm0 ⊢
  have hx64 : x0 < 18446744073709551616 := by omega
  clear hT hTab hs hw hx0 hm0
  go_enter Tryz.func81, Tryz.ntmps81
  go_wp2_with fail
  rw [<- hW0]
  clear hW0
  go_loopw [0, 7] (λ sv mv wr => ∃ x m : Nat, sv = .int .u64 (x : Int) /\ mv = .int .u64 (m : Int) /\ x < 18446744073709551616 /\ Hid (MoveOf a k s x m) /\ W0 = wr) (λ sv _ _ => (intOf sv).toNat)
  case atStart => exact ⟨x0, 0, rfl, rfl, hx64, HM0, rfl⟩
  case round =>
    obtain ⟨x, m, rfl, rfl, hx, HM, rfl⟩ := hrel
    clear HM0 hx64
    by_cases hne : x = 0
    . have HE := Lib.hid (moveOf_end (d := a) (k := k) (s := s) (m := m) (by rw [<- hne]; exact HM.out))
      have hd : ((x : Int) != 0) = false := by simp [hne]
      clear hne
      go_wp2_with fail
      go_ret
      exact ⟨congrArg (λ z : Nat => Ending.returned (.int .u64 (z : Int))) HE.out, HB0.out⟩
    . have hd : ((x : Int) != 0) = true := by simp; omega
      obtain ⟨hq64, hbit⟩ := ctz_bit hne hx
      have HTz := Lib.hid (implTz_any x hne hx W0 HTab.out)
      obtain ⟨q, hqe⟩ : ∃ q, q = Lib.ctz 64 x := ⟨_, rfl⟩
      rw [<- hqe] at HTz hq64 hbit
      have hqn := HS.out q (HM.out.1 q hbit)
      have hy := HW.out q hqn
      obtain ⟨r, q', h1, h2⟩ := HT.out q hqn
      have hmlt : m < 1099511627776 := Nat.lt_of_lt_of_le (moveOf_lt HM.out (λ p hp => HW.out p (HS.out p hp))) (Nat.pow_le_pow_right (n := 2) (by decide) hn)
      have HM2 := Lib.hid (moveOf_step HM.out hx hq64 hbit)
      have hdl := dropB_lt hx hq64 hbit
      obtain ⟨y, hye⟩ : ∃ y, y = a.T q k := ⟨_, rfl⟩
      rw [<- hye] at hy h2 HM2
      have hor := or_pow (a := m) (q := y) (by omega) (by omega)
      have hdr := drop_pow hx hq64
      have hsh1 := shl_u64 (q := y) (by omega)
      have hsh2 := shl_u64 hq64
      obtain ⟨m2, hm2⟩ : ∃ z, z = m ||| 2 ^ y := ⟨_, rfl⟩
      obtain ⟨x2, hx2⟩ : ∃ z, z = dropB x q := ⟨_, rfl⟩
      rw [<- hm2] at hor HM2
      rw [<- hx2] at hdr HM2 hdl
      have s1 : (0 : Int) <= (q : Int) := by omega
      have s2 : (q : Int) < (n : Int) := by omega
      have s3 : (0 : Int) <= (k : Int) := by omega
      have s4 : (k : Int) < 3 := by omega
      have s5 : (0 : Int) <= (y : Int) := by omega
      clear hqe hye hm2 hx2 hbit hne
      go_wp2_with (go_at_call 117; refine HTz.out.mono ?_; rintro e w' ⟨rfl, rfl⟩)
      go_roundw
      case rel => exact ⟨x2, m2, rfl, rfl, by omega, HM2, trivial⟩
      case measure => simp [intOf]; omega
theorem gTab : Tryz.prog.globalNamed "math/bits.deBruijn64tab" = some 0 := by kernel_rfl
theorem tab_of_laid {l : List (String × DataW Unit)} {W : World} (hp : (l.all λ x => x.2.handleName?.isNone) = true)
    (hf : (l.filter λ x => x.1 == "math/bits.deBruijn64tab") = [("math/bits.deBruijn64tab", Rows.laid_math_bits_deBruijn64tab)])
    (h : laidMetH Tryz.prog l W) : Tab W := by
  rw [MakeChecks.laidMetH_plain _ _ _ hp] at h
  have h1 := h.filter λ x => x.1 == "math/bits.deBruijn64tab"
  rw [hf] at h1
  have h2 : Lib.TabIs Tryz.prog W "math/bits.deBruijn64tab" .u8 (Lib.deBruijn64tab.map λ x : Nat => (x : Int)) :=
    Lib.tabIs_of_head (t := 173) (e := 5) (n := 64) gTab (by kernel_rfl) Tryz.underlying173 Tryz.underlying5 (by kernel_rfl) (by kernel_rfl) h1
  intro j hj
  have h3 := Lib.TabIs.cell h2 gTab j (by rw [List.length_map]; exact hj)
  rw [h3]
  simp [List.getD_eq_getElem?_getD, hj]
end Go.Proofs.YtiijlpmdnokjfaaGreatDoor
