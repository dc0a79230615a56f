/- Texts of one proof. -/
import Derived.OwnWalk
import Derived.Maps.AppendAt
import Derived.OneCell
import Derived.Laws.Bits64
import Derived.Lib.TrailingZeros
import Derived.WalkArith
import Derived.Shelf.Spec.TrailingZeros
import Derived.LaidSub
import Derived.Test.YtiijlpmdnokjfaaDoorCountsZPack2
set_option maxRecDepth 100000
set_option maxHeartbeats 20000000
namespace Go.Proofs.YtiijlpmdnokjfaaDoor
open Go.RowKit
theorem blk_of {w : World} {base : Nat} {e : TypeId} {v : Value} {n : Nat} {xs : List Value} (h : w.ownsRow base e 1 v n xs) {g : Nat} (hg : v.ownBlock = some g) : ∃ cur, w.heap[g]? = some (.cells cur e (0, 0)) := by
  rcases h.2 with ⟨rfl, _⟩ | ⟨g', cap, cur, rfl, _, hh, _⟩
  . simp [Value.ownBlock] at hg
  . simp [Value.ownBlock] at hg
    subst hg
    exact ⟨cur, hh⟩
theorem blk_ne {w : World} {g g' : Nat} {cur cur' : Array Value} {e e' : TypeId} (h : w.heap[g]? = some (.cells cur e (0, 0))) (h' : w.heap[g']? = some (.cells cur' e' (0, 0))) (hne : e ≠ e') : g ≠ g' := λ eq => by
  subst eq
  rw [h] at h'
  cases h'
  exact hne rfl
def IR (w : World) (B : Nat) (v : Value) (l : List Int) : Prop := w.ownsRow B 3 1 v l.length (ints l)
theorem IR.kept {w w' : World} {B : Nat} {v : Value} {l : List Int} {row : Option Nat} (h : IR w B v l) (hg : w.grownBy w' row) (hne : ∀ g, v.ownBlock = some g -> row ≠ some g) : IR w' B v l := by
  refine World.ownsRow.kept h hg ?_
  cases hv : v.ownBlock with
  | none => exact .inl rfl
  | some g => exact .inr (λ e => hne g hv e.symm)
theorem IR.row {w : World} {B : Nat} {v : Value} {l : List Int} (h : IR w B v l) (hl : l.length <= 9223372036854775807) : RowO w (λ g => v.ownBlock = some g) v (ints l) := RowO.of_owns h hl
theorem grown_of {w w' : World} (h : Below w.heap.size w w') : w.grownBy w' none := ⟨h.os, h.tape, h.output, h.size, λ k hk _ => h.block k hk⟩
theorem IR.one (w : World) (x : Int) {B : Nat} (hB : B <= w.heap.size) : IR (w.alloc (.cells #[.int .i64 x] 3)) B (.slice (some ⟨w.heap.size, 0, none⟩) 1 1) [x] :=
  ⟨rfl, .inr ⟨w.heap.size, 1, #[.int .i64 x], rfl, hB, heap_alloc_new w _, Nat.le_refl _, by decide, rfl, rfl⟩⟩
structure Out (B : Nat) (w : World) (bo : Nat) (va vn : Value) (accs : List Bool) (us : List Value) (rss : List (List Value)) (K : Nat -> Nat -> Prop) : Prop where
  acc : w.ownsRow B 4 1 va accs.length (bools accs)
  nxt : w.ownsRow B 53 1 vn us.length us
  rows : RowsP (λ g => B <= g) w us rss K
  kint : ∀ j g, K j g -> ∃ cur, w.heap[g]? = some (.cells cur 3 (0, 0))
  box : w.heap[bo]? = some (.cells #[va, vn] 27 (0, 0))
  low : B <= bo
variable {B : Nat} {w w' : World} {bo : Nat} {va vn : Value} {accs : List Bool} {us : List Value} {rss : List (List Value)} {K : Nat -> Nat -> Prop}
theorem Out.kept {row : Option Nat} (h : Out B w bo va vn accs us rss K) (hg : w.grownBy w' row) (hrow : ∀ g, row = some g -> (∃ cur, w.heap[g]? = some (.cells cur 3 (0, 0))) /\ ∀ j, ¬ K j g) : Out B w' bo va vn accs us rss K := by
  have keep : ∀ (g : Nat) (cur : Array Value) (e : TypeId), w.heap[g]? = some (.cells cur e (0, 0)) -> e ≠ 3 -> w'.heap[g]? = w.heap[g]? := λ g cur e hh he =>
    hg.block g (Array.getElem?_eq_some_iff.1 hh).1 (λ er => by
      obtain ⟨⟨cur', hh'⟩, _⟩ := hrow g er.symm
      exact blk_ne hh hh' he rfl)
  refine ⟨h.acc.kept hg ?_, h.nxt.kept hg ?_, h.rows.keep (λ j g hk => ?_) h.rows.sub hg.size, λ j g hk => ?_, (keep bo _ _ h.box (by decide)).trans h.box, h.low⟩
  . cases hv : va.ownBlock with
    | none => exact .inl rfl
    | some g =>
      obtain ⟨cur, hh⟩ := blk_of h.acc hv
      exact .inr (λ er => by
        obtain ⟨⟨cur', hh'⟩, _⟩ := hrow g er.symm
        exact blk_ne hh hh' (by decide) rfl)
  . cases hv : vn.ownBlock with
    | none => exact .inl rfl
    | some g =>
      obtain ⟨cur, hh⟩ := blk_of h.nxt hv
      exact .inr (λ er => by
        obtain ⟨⟨cur', hh'⟩, _⟩ := hrow g er.symm
        exact blk_ne hh hh' (by decide) rfl)
  . exact hg.block g (h.rows.lt j g hk) (λ er => (hrow g er.symm).2 j hk)
  . obtain ⟨cur, hh⟩ := h.kint j g hk
    exact ⟨cur, (hg.block g (h.rows.lt j g hk) (λ er => (hrow g er.symm).2 j hk)).trans hh⟩
theorem Out.below (h : Out B w bo va vn accs us rss K) (hb : Below w.heap.size w w') : Out B w' bo va vn accs us rss K := h.kept (grown_of hb) (λ g e => by cases e)
theorem Out.acc_push {va' : Value} {b : Bool} (h : Out B w bo va vn accs us rss K) (hown : w'.ownsRow B 4 1 va' (accs.length + 1) (bools accs ++ [.bool b])) (hg : w.grownBy w' va.ownBlock) :
    (∃ x, w'.cell? ⟨bo, 0, none⟩ = some x) /\ w'.frozen? ⟨bo, 0, none⟩ = false /\ Out B (w'.setCell ⟨bo, 0, none⟩ va') bo va' vn (accs ++ [b]) us rss K := by
  have keep : ∀ (g : Nat) (cur : Array Value) (e : TypeId), w.heap[g]? = some (.cells cur e (0, 0)) -> e ≠ 4 -> w'.heap[g]? = w.heap[g]? := λ g cur e hh he =>
    hg.block g (Array.getElem?_eq_some_iff.1 hh).1 (λ er => by
      obtain ⟨cur', hh'⟩ := blk_of h.acc er.symm
      exact blk_ne hh hh' he rfl)
  have hbox := (keep bo _ _ h.box (by decide)).trans h.box
  obtain ⟨c0, c1, f0, f1⟩ := box2_facts hbox
  have far : ∀ (g : Nat) (cur : Array Value) (e : TypeId), w'.heap[g]? = some (.cells cur e (0, 0)) -> e ≠ 27 -> (w'.setCell ⟨bo, 0, none⟩ va').heap[g]? = w'.heap[g]? := λ g cur e hh he => Below.heap_setCell _ _ _ g (λ er => blk_ne hh hbox he er)
  refine ⟨⟨_, c0⟩, f0, ⟨?_, ?_, h.rows.keep (λ j g hk => ?_) h.rows.sub (by simpa [World.setCell] using hg.size), λ j g hk => ?_, heap_setCell_same w' bo 0 _ _ va' hbox, h.low⟩⟩
  . have e : bools (accs ++ [b]) = bools accs ++ [.bool b] := by simp [bools]
    rw [e, List.length_append]
    refine ownsRow_setCell_other hown (λ er => ?_) _
    obtain ⟨cur, hh⟩ := blk_of hown er
    exact blk_ne hh hbox (by decide) rfl
  . have h1 : w'.ownsRow B 53 1 vn us.length us := by
      refine h.nxt.kept hg ?_
      cases hv : vn.ownBlock with
      | none => exact .inl rfl
      | some g =>
        obtain ⟨cur, hh⟩ := blk_of h.nxt hv
        exact .inr (λ er => by
          obtain ⟨cur', hh'⟩ := blk_of h.acc er.symm
          exact blk_ne hh hh' (by decide) rfl)
    refine ownsRow_setCell_other h1 (λ er => ?_) _
    obtain ⟨cur, hh⟩ := blk_of h1 er
    exact blk_ne hh hbox (by decide) rfl
  . obtain ⟨cur, hh⟩ := h.kint j g hk
    have h1 := (keep g _ _ hh (by decide)).trans hh
    exact (far g _ _ h1 (by decide)).trans (keep g _ _ hh (by decide))
  . obtain ⟨cur, hh⟩ := h.kint j g hk
    have h1 := (keep g _ _ hh (by decide)).trans hh
    exact ⟨cur, (far g _ _ h1 (by decide)).trans h1⟩
theorem Out.nxt_push {vn' u : Value} {r : List Int} (h : Out B w bo va vn accs us rss K) (hr : IR w B u r) (hrl : r.length <= 9223372036854775807) (hrk : ∀ g, u.ownBlock = some g -> ∀ j, ¬ K j g) (hown : w'.ownsRow B 53 1 vn' (us.length + 1) (us ++ [u])) (hg : w.grownBy w' vn.ownBlock) :
    (∃ x, w'.cell? ⟨bo, 1, none⟩ = some x) /\ w'.frozen? ⟨bo, 1, none⟩ = false /\ Out B (w'.setCell ⟨bo, 1, none⟩ vn') bo va vn' accs (us ++ [u]) (rss ++ [ints r]) (λ j g => if j < us.length then K j g else j = us.length /\ u.ownBlock = some g) := by
  have keep : ∀ (g : Nat) (cur : Array Value) (e : TypeId), w.heap[g]? = some (.cells cur e (0, 0)) -> e ≠ 53 -> w'.heap[g]? = w.heap[g]? := λ g cur e hh he =>
    hg.block g (Array.getElem?_eq_some_iff.1 hh).1 (λ er => by
      obtain ⟨cur', hh'⟩ := blk_of h.nxt er.symm
      exact blk_ne hh hh' he rfl)
  have hbox := (keep bo _ _ h.box (by decide)).trans h.box
  obtain ⟨c0, c1, f0, f1⟩ := box2_facts hbox
  have far : ∀ (g : Nat) (cur : Array Value) (e : TypeId), w'.heap[g]? = some (.cells cur e (0, 0)) -> e ≠ 27 -> (w'.setCell ⟨bo, 1, none⟩ vn').heap[g]? = w'.heap[g]? := λ g cur e hh he => Below.heap_setCell _ _ _ g (λ er => blk_ne hh hbox he er)
  have int_keep : ∀ (g : Nat) (cur : Array Value), w.heap[g]? = some (.cells cur 3 (0, 0)) -> (w'.setCell ⟨bo, 1, none⟩ vn').heap[g]? = w.heap[g]? := λ g cur hh => by
    have h1 := (keep g _ _ hh (by decide)).trans hh
    exact (far g _ _ h1 (by decide)).trans (keep g _ _ hh (by decide))
  have hsz : w.heap.size <= (w'.setCell ⟨bo, 1, none⟩ vn').heap.size := by simpa [World.setCell] using hg.size
  have hlen := h.rows.len
  refine ⟨⟨_, c1⟩, f1, ⟨?_, ?_, ⟨by simp [hlen], λ j u' r' hu hr' => ?_, λ j g hk => ?_, λ j g hk => ?_, λ i j g hi hj => ?_⟩, λ j g hk => ?_, heap_setCell_same w' bo 1 _ _ vn' hbox, h.low⟩⟩
  . have h1 : w'.ownsRow B 4 1 va accs.length (bools accs) := by
      refine h.acc.kept hg ?_
      cases hv : va.ownBlock with
      | none => exact .inl rfl
      | some g =>
        obtain ⟨cur, hh⟩ := blk_of h.acc hv
        exact .inr (λ er => by
          obtain ⟨cur', hh'⟩ := blk_of h.nxt er.symm
          exact blk_ne hh hh' (by decide) rfl)
    refine ownsRow_setCell_other h1 (λ er => ?_) _
    obtain ⟨cur, hh⟩ := blk_of h1 er
    exact blk_ne hh hbox (by decide) rfl
  . rw [List.length_append]
    refine ownsRow_setCell_other hown (λ er => ?_) _
    obtain ⟨cur, hh⟩ := blk_of hown er
    exact blk_ne hh hbox (by decide) rfl
  . by_cases hj : j < us.length
    . rw [List.getElem?_append_left hj] at hu
      rw [List.getElem?_append_left (by omega)] at hr'
      exact (h.rows.row j u' r' hu hr').mono (λ g hg => by
        obtain ⟨cur, hh⟩ := h.kint j g hg
        exact int_keep g cur hh) (λ g hg => by simpa [hj] using hg)
    . have e : j = us.length := by
        have := (List.getElem?_eq_some_iff.1 hu).1
        simp at this
        omega
      subst e
      rw [List.getElem?_append_right (Nat.le_refl _), Nat.sub_self] at hu
      rw [List.getElem?_append_right (by omega), hlen, Nat.sub_self] at hr'
      cases hu
      cases hr'
      exact (hr.row hrl).mono (λ g hg => by
        obtain ⟨cur, hh⟩ := blk_of hr hg
        exact int_keep g cur hh) (λ g hg => by simpa using hg)
  . by_cases hj : j < us.length
    . exact h.rows.sub j g (by simpa [hj] using hk)
    . simp only [hj, if_false] at hk
      exact (hr.lt g hk.2).1
  . by_cases hj : j < us.length
    . exact Nat.lt_of_lt_of_le (h.rows.lt j g (by simpa [hj] using hk)) hsz
    . simp only [hj, if_false] at hk
      exact Nat.lt_of_lt_of_le (hr.lt g hk.2).2 hsz
  . by_cases h1 : i < us.length <;> by_cases h2 : j < us.length <;> simp only [h1, h2, if_true, if_false] at hi hj
    . exact h.rows.sep i j g hi hj
    . exact absurd hi (hrk g hj.2 i)
    . exact absurd hj (hrk g hi.2 j)
    . omega
  . by_cases hj : j < us.length
    . obtain ⟨cur, hh⟩ := h.kint j g (by simpa [hj] using hk)
      exact ⟨cur, (int_keep g cur hh).trans hh⟩
    . simp only [hj, if_false] at hk
      obtain ⟨cur, hh⟩ := blk_of hr hk.2
      exact ⟨cur, (int_keep g cur hh).trans hh⟩
theorem Out.whole (h : Out B w bo va vn accs us rss K) {d : Dx} (ha : d.acc = accs) (hr : intss d.nxt = rss) (hl1 : accs.length <= 9223372036854775807) (hl2 : us.length <= 9223372036854775807) : DfaO w (λ g => B <= g /\ g < w.heap.size) va vn d := by
  refine ⟨λ g => va.ownBlock = some g, λ g => B <= g /\ g < w.heap.size /\ va.ownBlock ≠ some g, ?_, ⟨us, λ g => vn.ownBlock = some g, K, RowO.of_owns h.nxt hl2, ?_, λ g hg => ?_⟩, λ g hg => ?_, λ g hg => ⟨hg.1, hg.2.1⟩⟩
  . rw [ha]
    exact RowO.of_owns h.acc hl1
  . rw [hr]
    exact h.rows.keep (λ _ _ _ => rfl) (λ j g hk => ⟨h.rows.sub j g hk, h.rows.lt j g hk, λ er => by
      obtain ⟨cur, hh⟩ := blk_of h.acc er
      obtain ⟨cur', hh'⟩ := h.kint j g hk
      exact blk_ne hh hh' (by decide) rfl⟩) (Nat.le_refl _)
  . refine ⟨⟨(h.nxt.lt g hg).1, (h.nxt.lt g hg).2, λ er => ?_⟩, λ j hk => ?_⟩
    . obtain ⟨cur, hh⟩ := blk_of h.acc er
      obtain ⟨cur', hh'⟩ := blk_of h.nxt hg
      exact blk_ne hh hh' (by decide) rfl
    . obtain ⟨cur, hh⟩ := blk_of h.nxt hg
      obtain ⟨cur', hh'⟩ := h.kint j g hk
      exact blk_ne hh hh' (by decide) rfl
  . exact ⟨h.acc.lt g hg, λ h2 => h2.2.2 hg⟩
theorem Out.start (w : World) {B : Nat} (hB : B <= w.heap.size) : Out B (w.alloc (.cells #[.slice none 0 0, .slice none 0 0] 27)) w.heap.size (.slice none 0 0) (.slice none 0 0) [] [] [] (λ _ _ => False) :=
  ⟨⟨rfl, .inl ⟨rfl, rfl⟩⟩, ⟨rfl, .inl ⟨rfl, rfl⟩⟩, RowsP.nil _ _, λ _ _ h => h.elim, heap_alloc_new w _, hB⟩
end Go.Proofs.YtiijlpmdnokjfaaDoor
namespace Go.Proofs.YtiijlpmdnokjfaaDoor
open Go.RowKit
theorem ints_snoc (l : List Int) (x : Int) : ints (l ++ [x]) = ints l ++ [.int .i64 x] := by simp [ints]
theorem IR.of_push {w : World} {B : Nat} {v : Value} {l : List Int} {x : Int} (h : w.ownsRow B 3 1 v (l.length + 1) (ints l ++ [.int .i64 x])) : IR w B v (l ++ [x]) := by
  unfold IR
  rw [ints_snoc, List.length_append]
  exact h
theorem own_succ {W : World} {base : Nat} {e : TypeId} {size : Nat} {v : Value} {k : Nat} {xs : List Value} (h : W.ownsRow base e size v (k + 1) xs) : ∃ g cap, v = .slice (some ⟨g, 0, none⟩) (k + 1) cap := by
  rcases h.2 with ⟨_, h0⟩ | ⟨g, cap, _, rfl, _⟩
  . omega
  . exact ⟨g, cap, rfl⟩
theorem IR.none (w : World) {B : Nat} (hB : B <= w.heap.size) : IR (w.alloc (.cells #[] 3)) B (.slice (some ⟨w.heap.size, 0, none⟩) 0 0) [] :=
  ⟨rfl, .inr ⟨w.heap.size, 0, #[], rfl, hB, heap_alloc_new w _, Nat.le_refl _, by decide, rfl, rfl⟩⟩
theorem IR.below {w w' : World} {B : Nat} {v : Value} {l : List Int} (h : IR w B v l) (hb : Below w.heap.size w w') : IR w' B v l := h.kept (grown_of hb) (λ g _ e => by cases e)
structure One (B : Nat) (w : World) (bo : Nat) (va vn : Value) (accs : List Bool) (us : List Value) (rss : List (List Value)) (K : Nat -> Nat -> Prop) (vo : Value) (lo : List Int) : Prop where
  out : Out B w bo va vn accs us rss K
  ord : IR w B vo lo
  ordK : ∀ g, vo.ownBlock = some g -> ∀ j, ¬ K j g
structure Two (B : Nat) (w : World) (bo : Nat) (va vn : Value) (accs : List Bool) (us : List Value) (rss : List (List Value)) (K : Nat -> Nat -> Prop) (vo : Value) (lo : List Int) (vr : Value) (lr : List Int) : Prop where
  one : One B w bo va vn accs us rss K vo lo
  row : IR w B vr lr
  rowK : ∀ g, vr.ownBlock = some g -> ∀ j, ¬ K j g
  sep : ∀ g, vo.ownBlock = some g -> vr.ownBlock ≠ some g
variable {B : Nat} {w w' : World} {bo : Nat} {va vn : Value} {accs : List Bool} {us : List Value} {rss : List (List Value)} {K : Nat -> Nat -> Prop} {vo vr : Value} {lo lr : List Int}
theorem One.below (h : One B w bo va vn accs us rss K vo lo) (hb : Below w.heap.size w w') : One B w' bo va vn accs us rss K vo lo := ⟨h.out.below hb, h.ord.below hb, h.ordK⟩
theorem Two.below (h : Two B w bo va vn accs us rss K vo lo vr lr) (hb : Below w.heap.size w w') : Two B w' bo va vn accs us rss K vo lo vr lr := ⟨h.one.below hb, h.row.below hb, h.rowK, h.sep⟩
theorem One.base (h : One B w bo va vn accs us rss K vo lo) : B < w.heap.size := Nat.lt_of_le_of_lt h.out.low (Array.getElem?_eq_some_iff.1 h.out.box).1
theorem One.two (h : One B w bo va vn accs us rss K vo lo) : Two B (w.alloc (.cells #[] 3)) bo va vn accs us rss K vo lo (.slice (some ⟨w.heap.size, 0, none⟩) 0 0) [] := by
  refine ⟨h.below ((Below.refl _ _).alloc (Nat.le_refl _) _), IR.none w (Nat.le_of_lt h.base), λ g hg j hk => ?_, λ g hg e => ?_⟩
  . simp [Value.ownBlock] at hg
    have := h.out.rows.lt j g hk
    omega
  . simp [Value.ownBlock] at e
    have := (h.ord.lt g hg).2
    omega
theorem Two.ord_push {v' : Value} {x : Int} (h : Two B w bo va vn accs us rss K vo lo vr lr) (hown : w'.ownsRow B 3 1 v' (lo.length + 1) (ints lo ++ [.int .i64 x])) (hg : w.grownBy w' vo.ownBlock) (hat : v'.ownBlock = vo.ownBlock \/ v'.ownBlock = some w.heap.size) : Two B w' bo va vn accs us rss K v' (lo ++ [x]) vr lr := by
  refine ⟨⟨h.one.out.kept hg (λ g e => ⟨blk_of h.one.ord e, h.one.ordK g e⟩), IR.of_push hown, λ g e j hk => ?_⟩, h.row.kept hg (λ g e er => h.sep g er e), h.rowK, λ g e er => ?_⟩
  . rcases hat with a | a
    . exact h.one.ordK g (a.symm.trans e) j hk
    . rw [a] at e
      cases e
      have := h.one.out.rows.lt j _ hk
      omega
  . rcases hat with a | a
    . exact h.sep g (a.symm.trans e) er
    . rw [a] at e
      cases e
      have := (h.row.lt _ er).2
      omega
theorem Two.row_push {v' : Value} {x : Int} (h : Two B w bo va vn accs us rss K vo lo vr lr) (hown : w'.ownsRow B 3 1 v' (lr.length + 1) (ints lr ++ [.int .i64 x])) (hg : w.grownBy w' vr.ownBlock) (hat : v'.ownBlock = vr.ownBlock \/ v'.ownBlock = some w.heap.size) : Two B w' bo va vn accs us rss K vo lo v' (lr ++ [x]) := by
  refine ⟨⟨h.one.out.kept hg (λ g e => ⟨blk_of h.row e, h.rowK g e⟩), h.one.ord.kept hg (λ g e er => h.sep g e er), h.one.ordK⟩, IR.of_push hown, λ g e j hk => ?_, λ g e er => ?_⟩
  . rcases hat with a | a
    . exact h.rowK g (a.symm.trans e) j hk
    . rw [a] at e
      cases e
      have := h.one.out.rows.lt j _ hk
      omega
  . rcases hat with a | a
    . exact h.sep g e (a.symm.trans er)
    . rw [a] at er
      cases er
      have := (h.one.ord.lt _ e).2
      omega
theorem IR.far {row : Option Nat} {p : Addr} {u : Value} {va vn : Value} {v : Value} {l : List Int} (h : IR w B v l) (hg : w.grownBy w' row) (hrow : ∀ g, row = some g -> ∃ cur e, w.heap[g]? = some (.cells cur e (0, 0)) /\ e ≠ 3) (hbox : w.heap[p.block]? = some (.cells #[va, vn] 27 (0, 0))) : IR (w'.setCell p u) B v l := by
  have h1 : IR w' B v l := h.kept hg (λ g e er => by
    obtain ⟨cur, hh⟩ := blk_of h e
    obtain ⟨cur', e', hh', hne⟩ := hrow g er
    exact blk_ne hh hh' (Ne.symm hne) rfl)
  refine ownsRow_setCell_other h1 (λ er => ?_) _
  obtain ⟨cur, hh⟩ := blk_of h er
  exact blk_ne hh hbox (by decide) rfl
theorem Two.acc_push {va' : Value} {b : Bool} (h : Two B w bo va vn accs us rss K vo lo vr lr) (hown : w'.ownsRow B 4 1 va' (accs.length + 1) (bools accs ++ [.bool b])) (hg : w.grownBy w' va.ownBlock) :
    (∃ x, w'.cell? ⟨bo, 0, none⟩ = some x) /\ w'.frozen? ⟨bo, 0, none⟩ = false /\ Two B (w'.setCell ⟨bo, 0, none⟩ va') bo va' vn (accs ++ [b]) us rss K vo lo vr lr := by
  obtain ⟨h1, h2, h3⟩ := h.one.out.acc_push hown hg
  have hrow : ∀ g, va.ownBlock = some g -> ∃ cur e, w.heap[g]? = some (.cells cur e (0, 0)) /\ e ≠ 3 := λ g e => by
    obtain ⟨cur, hh⟩ := blk_of h.one.out.acc e
    exact ⟨cur, _, hh, by decide⟩
  exact ⟨h1, h2, ⟨h3, h.one.ord.far hg hrow h.one.out.box, h.one.ordK⟩, h.row.far hg hrow h.one.out.box, h.rowK, h.sep⟩
theorem Two.nxt_push {vn' : Value} (h : Two B w bo va vn accs us rss K vo lo vr lr) (hrl : lr.length <= 9223372036854775807) (hown : w'.ownsRow B 53 1 vn' (us.length + 1) (us ++ [vr])) (hg : w.grownBy w' vn.ownBlock) :
    (∃ x, w'.cell? ⟨bo, 1, none⟩ = some x) /\ w'.frozen? ⟨bo, 1, none⟩ = false /\ One B (w'.setCell ⟨bo, 1, none⟩ vn') bo va vn' accs (us ++ [vr]) (rss ++ [ints lr]) (λ j g => if j < us.length then K j g else j = us.length /\ vr.ownBlock = some g) vo lo := by
  obtain ⟨h1, h2, h3⟩ := h.one.out.nxt_push h.row hrl h.rowK hown hg
  have hrow : ∀ g, vn.ownBlock = some g -> ∃ cur e, w.heap[g]? = some (.cells cur e (0, 0)) /\ e ≠ 3 := λ g e => by
    obtain ⟨cur, hh⟩ := blk_of h.one.out.nxt e
    exact ⟨cur, _, hh, by decide⟩
  refine ⟨h1, h2, h3, h.one.ord.far hg hrow h.one.out.box, λ g e j hk => ?_⟩
  by_cases hj : j < us.length
  . exact h.one.ordK g e j (by simpa [hj] using hk)
  . simp only [hj, if_false] at hk
    exact h.sep g e hk.2
theorem One.start (w1 : World) (x : Int) :
    let W3 := (w1.alloc (.cells #[.int .i64 x] 3)).alloc (.cells #[.slice none 0 0, .slice none 0 0] 27)
    One w1.heap.size W3 (w1.heap.size + 1) (.slice none 0 0) (.slice none 0 0) [] [] [] (λ _ _ => False) (.slice (some ⟨w1.heap.size, 0, none⟩) 1 1) [x] /\ Below w1.heap.size w1 W3 := by
  intro W3
  have hb : W3.heap[w1.heap.size + 1]? = some (.cells #[.slice none 0 0, .slice none 0 0] 27 (0, 0)) := by
    have h := heap_alloc_new (w1.alloc (.cells #[.int .i64 x] 3)) (.cells #[.slice none 0 0, .slice none 0 0] 27)
    rwa [World.size_alloc] at h
  have h1 : IR W3 w1.heap.size (.slice (some ⟨w1.heap.size, 0, none⟩) 1 1) [x] := (IR.one w1 x (Nat.le_refl _)).below ((Below.refl _ _).alloc (Nat.le_refl _) _)
  exact ⟨⟨⟨⟨rfl, .inl ⟨rfl, rfl⟩⟩, ⟨rfl, .inl ⟨rfl, rfl⟩⟩, RowsP.nil _ _, λ _ _ h => h.elim, hb, Nat.le_succ _⟩, h1, λ _ _ _ h => h⟩, ((Below.refl _ _).alloc (Nat.le_refl _) _).alloc (by simp) _⟩
end Go.Proofs.YtiijlpmdnokjfaaDoor
namespace Go.Proofs.YtiijlpmdnokjfaaDoor
open Go.RowKit
theorem own_on {w w' : World} {B B' : Nat} {e : TypeId} {size : Nat} {v : Value} {k : Nat} {xs : List Value} (h : w.ownsRow B e size v k xs) (hs : ∀ q, v.ownBlock = some q -> w'.heap[q]? = w.heap[q]?) (hB : B' <= B) : w'.ownsRow B' e size v k xs := by
  refine ⟨h.1, ?_⟩
  rcases h.2 with h0 | ⟨g, cap, cur, e1, e2, e3, rest⟩
  . exact .inl h0
  . exact .inr ⟨g, cap, cur, e1, Nat.le_trans hB e2, (hs g (by rw [e1]; simp [Value.ownBlock])).trans e3, rest⟩
theorem intss_snoc (rs : List (List Int)) (r : List Int) : intss (rs ++ [r]) = intss rs ++ [ints r] := by simp [intss]
variable {w w' W0 : World} {B : Nat} {bo : Nat} {va vn : Value} {accs : List Bool} {us : List Value} {rss : List (List Value)} {rs : List (List Int)} {K : Nat -> Nat -> Prop} {vo : Value} {lo : List Int}
theorem Out.off (h : Out B w bo va vn accs us rss K) (hs : ∀ q, B <= q -> q < w.heap.size -> w'.heap[q]? = w.heap[q]?) (hz : w.heap.size <= w'.heap.size) {B' : Nat} (hB : B' <= B) : Out B' w' bo va vn accs us rss K :=
  ⟨own_on h.acc (λ q e => hs q (h.acc.lt q e).1 (h.acc.lt q e).2) hB, own_on h.nxt (λ q e => hs q (h.nxt.lt q e).1 (h.nxt.lt q e).2) hB,
    h.rows.keep (λ j g hk => hs g (h.rows.sub j g hk) (h.rows.lt j g hk)) (λ j g hk => Nat.le_trans hB (h.rows.sub j g hk)) hz,
    λ j g hk => by
      obtain ⟨cur, hh⟩ := h.kint j g hk
      exact ⟨cur, (hs g (h.rows.sub j g hk) (h.rows.lt j g hk)).trans hh⟩,
    (hs bo h.low (blk_lt h.box)).trans h.box, Nat.le_trans hB h.low⟩
theorem Out.base (h : Out B w bo va vn accs us rss K) : B < w.heap.size := Nat.lt_of_le_of_lt h.low (blk_lt h.box)
def Ows (w : World) (B : Nat) (us : List Value) (rs : List (List Int)) (K : Nat -> Nat -> Prop) : Prop :=
  ∀ (j : Nat) (u : Value) (r : List Int), us[j]? = some u -> rs[j]? = some r -> IR w B u r /\ ∀ q, u.ownBlock = some q -> K j q
theorem Ows.keep (h : Ows w B us rs K) (hs : ∀ j q, K j q -> w'.heap[q]? = w.heap[q]?) {B' : Nat} (hB : B' <= B) : Ows w' B' us rs K := λ j u r hu hr => by
  obtain ⟨h1, h2⟩ := h j u r hu hr
  exact ⟨own_on h1 (λ q e => hs j q (h2 q e)) hB, h2⟩
theorem Out.k_acc (h : Out B w bo va vn accs us rss K) (hg : w.grownBy w' va.ownBlock) (x : Value) : ∀ j q, K j q -> (w'.setCell ⟨bo, 0, none⟩ x).heap[q]? = w.heap[q]? := λ j q hk => by
  obtain ⟨cur, hh⟩ := h.kint j q hk
  refine (Below.heap_setCell _ _ _ q (λ er => blk_ne hh h.box (by decide) er)).trans (hg.block q (blk_lt hh) (λ er => ?_))
  obtain ⟨cur', hh'⟩ := blk_of h.acc er.symm
  exact blk_ne hh hh' (by decide) rfl
theorem Out.k_nxt (h : Out B w bo va vn accs us rss K) (hg : w.grownBy w' vn.ownBlock) (x : Value) : ∀ j q, K j q -> (w'.setCell ⟨bo, 1, none⟩ x).heap[q]? = w.heap[q]? := λ j q hk => by
  obtain ⟨cur, hh⟩ := h.kint j q hk
  refine (Below.heap_setCell _ _ _ q (λ er => blk_ne hh h.box (by decide) er)).trans (hg.block q (blk_lt hh) (λ er => ?_))
  obtain ⟨cur', hh'⟩ := blk_of h.nxt er.symm
  exact blk_ne hh hh' (by decide) rfl
theorem One.k_ord (h : One B w bo va vn accs us rss K vo lo) (hg : w.grownBy w' vo.ownBlock) : ∀ j q, K j q -> w'.heap[q]? = w.heap[q]? := λ j q hk =>
  hg.block q (h.out.rows.lt j q hk) (λ er => h.ordK q er.symm j hk)
theorem One.ord_push {v' : Value} {x : Int} (h : One B w bo va vn accs us rss K vo lo) (hown : w'.ownsRow B 3 1 v' (lo.length + 1) (ints lo ++ [.int .i64 x])) (hg : w.grownBy w' vo.ownBlock) (hat : v'.ownBlock = vo.ownBlock \/ v'.ownBlock = some w.heap.size) : One B w' bo va vn accs us rss K v' (lo ++ [x]) := by
  refine ⟨h.out.kept hg (λ g e => ⟨blk_of h.ord e, h.ordK g e⟩), IR.of_push hown, λ g e j hk => ?_⟩
  rcases hat with a | a
  . exact h.ordK g (a.symm.trans e) j hk
  . rw [a] at e
    cases e
    have := h.out.rows.lt j _ hk
    omega
theorem Out.one (h : Out B w bo va vn accs us rss K) : One B (w.alloc (.cells #[] 3)) bo va vn accs us rss K (.slice (some ⟨w.heap.size, 0, none⟩) 0 0) [] := by
  refine ⟨h.below ((Below.refl _ _).alloc (Nat.le_refl _) _), IR.none w (Nat.le_of_lt h.base), λ g hg j hk => ?_⟩
  simp [Value.ownBlock] at hg
  have := h.rows.lt j g hk
  omega
theorem One.acc_push {va' : Value} {b : Bool} (h : One B w bo va vn accs us rss K vo lo) (hown : w'.ownsRow B 4 1 va' (accs.length + 1) (bools accs ++ [.bool b])) (hg : w.grownBy w' va.ownBlock) :
    (∃ x, w'.cell? ⟨bo, 0, none⟩ = some x) /\ w'.frozen? ⟨bo, 0, none⟩ = false /\ One B (w'.setCell ⟨bo, 0, none⟩ va') bo va' vn (accs ++ [b]) us rss K vo lo := by
  obtain ⟨h1, h2, h3⟩ := h.out.acc_push hown hg
  have hrow : ∀ g, va.ownBlock = some g -> ∃ cur e, w.heap[g]? = some (.cells cur e (0, 0)) /\ e ≠ 3 := λ g e => by
    obtain ⟨cur, hh⟩ := blk_of h.out.acc e
    exact ⟨cur, _, hh, by decide⟩
  exact ⟨h1, h2, h3, h.ord.far hg hrow h.out.box, h.ordK⟩
theorem One.nxt_push {vn' : Value} (h : One B w bo va vn accs us rss K vo lo) (hrl : lo.length <= 9223372036854775807) (hown : w'.ownsRow B 53 1 vn' (us.length + 1) (us ++ [vo])) (hg : w.grownBy w' vn.ownBlock) :
    (∃ x, w'.cell? ⟨bo, 1, none⟩ = some x) /\ w'.frozen? ⟨bo, 1, none⟩ = false /\ Out B (w'.setCell ⟨bo, 1, none⟩ vn') bo va vn' accs (us ++ [vo]) (rss ++ [ints lo]) (λ j g => if j < us.length then K j g else j = us.length /\ vo.ownBlock = some g) :=
  h.out.nxt_push h.ord hrl h.ordK hown hg
end Go.Proofs.YtiijlpmdnokjfaaDoor
namespace Go.Proofs.YtiijlpmdnokjfaaDoor
open Go.RowKit
def fK (kind : Int) : Bool -> Bool -> Bool := if kind = 6 then (· || ·) else (· && ·)
def proR (a b : Dx) (kind : Int) (y : Dx) (ok : Bool) : Prop :=
  if validD a = true /\ validD b = true /\ (kind = 6 \/ kind = 7) then ∃ m, Canon m /\ Eqv m 0 (prd (auD a) (auD b) (fK kind)) 0 /\ y = fitD m /\ ok = decide (m.n <= 40) else y = ⟨[], []⟩ /\ ok = false
theorem proR_some (a b : Dx) (kind : Int) : ∃ y ok, proR a b kind y ok := by
  unfold proR
  by_cases h : validD a = true /\ validD b = true /\ (kind = 6 \/ kind = 7)
  . obtain ⟨m, h1, h2, _⟩ := exists_min (prd_wf (fK kind) (fieldsOf_au h.1).1 (fieldsOf_au h.2.1).1)
    exact ⟨fitD m, decide (m.n <= 40), by rw [if_pos h]; exact ⟨m, h1, h2, rfl, rfl⟩⟩
  . exact ⟨⟨[], []⟩, false, by rw [if_neg h]; exact ⟨rfl, rfl⟩⟩
theorem fit_one {m m' : Au} (h : Canon m) (h' : Canon m') (he : Eqv m 0 m' 0) : fitD m = fitD m' /\ decide (m.n <= 40) = decide (m'.n <= 40) := by
  have h1 := (canon_unique h h' he).1
  have h2 := fields_one h h' he
  unfold fitD
  rw [h1, h2]
  exact ⟨rfl, rfl⟩
theorem proR_yes {a b : Dx} {kind : Int} {y : Dx} {ok : Bool} (h : proR a b kind y ok) (ha : validD a = true) (hb : validD b = true) (hk : kind = 6 \/ kind = 7) {m : Au} (h1 : Canon m) (h2 : Eqv m 0 (prd (auD a) (auD b) (fK kind)) 0) : fitD m = y /\ decide (m.n <= 40) = ok := by
  unfold proR at h
  rw [if_pos ⟨ha, hb, hk⟩] at h
  obtain ⟨m', n1, n2, rfl, rfl⟩ := h
  exact fit_one h1 n1 (h2.swap n2)
theorem proR_no {a b : Dx} {kind : Int} {y : Dx} {ok : Bool} (h : proR a b kind y ok) (hn : ¬ (validD a = true /\ validD b = true /\ (kind = 6 \/ kind = 7))) : y = ⟨[], []⟩ /\ ok = false := by
  unfold proR at h
  rwa [if_neg hn] at h
end Go.Proofs.YtiijlpmdnokjfaaDoor
namespace Go.Proofs.YtiijlpmdnokjfaaDoor
open Go.RowKit
theorem One.start2 (w1 : World) (x : Int) :
    let W3 := (w1.alloc (.cells #[.slice none 0 0, .slice none 0 0] 27)).alloc (.cells #[.int .i64 x] 3)
    One w1.heap.size W3 w1.heap.size (.slice none 0 0) (.slice none 0 0) [] [] [] (λ _ _ => False) (.slice (some ⟨w1.heap.size + 1, 0, none⟩) 1 1) [x] /\ Below w1.heap.size w1 W3 := by
  intro W3
  have h0 := Out.start w1 (Nat.le_refl _)
  have h1 := IR.one (w1.alloc (.cells #[.slice none 0 0, .slice none 0 0] 27)) x (B := w1.heap.size) (by simp)
  rw [World.size_alloc] at h1
  exact ⟨⟨h0.below ((Below.refl _ _).alloc (Nat.le_refl _) _), h1, λ _ _ _ h => h⟩, ((Below.refl _ _).alloc (Nat.le_refl _) _).alloc (by simp) _⟩
theorem three_box' (w : World) (a b c : Obj) : let W := ((w.alloc a).alloc b).alloc c
    W.heap[w.heap.size]? = some a /\ W.heap[w.heap.size + 1]? = some b /\ W.heap[w.heap.size + 1 + 1]? = some c /\ Below w.heap.size w W := by
  intro W
  have h1 := heap_alloc_new (w.alloc a) b
  have h2 := heap_alloc_new ((w.alloc a).alloc b) c
  rw [World.size_alloc] at h1 h2
  rw [World.size_alloc] at h2
  exact ⟨(Below.heap_alloc _ _ _ (by simp; omega)).trans ((Below.heap_alloc _ _ _ (by simp)).trans (heap_alloc_new w a)), (Below.heap_alloc _ _ _ (by simp)).trans h1, h2, (((Below.refl _ _).alloc (Nat.le_refl _) _).alloc (by simp) _).alloc (by simp; omega) _⟩
def PrdPostS (a b : Au) (f : Bool -> Bool -> Bool) (w : World) (e : Ending) (w' : World) : Prop := ∃ m, Canon m /\ Eqv m 0 (prd a b f) 0 /\ CopyDB (fitD m) (decide (m.n <= 40)) w e w'
end Go.Proofs.YtiijlpmdnokjfaaDoor
namespace Go.Proofs.YtiijlpmdnokjfaaDoor
def putS : List Nat -> Nat -> List Nat
  | [], q => [q]
  | x :: s, q => if x < q then x :: putS s q else if x = q then x :: s else q :: x :: s
theorem mem_putS {x q : Nat} : ∀ {s : List Nat}, x ∈ putS s q ↔ x = q \/ x ∈ s
  | [] => by simp [putS]
  | y :: s => by
    unfold putS
    by_cases h1 : y < q
    . rw [if_pos h1, List.mem_cons, mem_putS, List.mem_cons]
      constructor
      . rintro (h | h | h)
        . exact .inr (.inl h)
        . exact .inl h
        . exact .inr (.inr h)
      . rintro (h | h | h)
        . exact .inr (.inl h)
        . exact .inl h
        . exact .inr (.inr h)
    . rw [if_neg h1]
      by_cases h2 : y = q
      . subst h2
        rw [if_pos rfl]
        simp
      . rw [if_neg h2]
        simp
theorem putS_asc {q : Nat} : ∀ {s : List Nat}, s.Pairwise (· < ·) -> (putS s q).Pairwise (· < ·)
  | [], _ => by simp [putS]
  | y :: s, h => by
    obtain ⟨h0, h'⟩ := List.pairwise_cons.1 h
    unfold putS
    by_cases h1 : y < q
    . rw [if_pos h1]
      refine List.pairwise_cons.2 ⟨λ z hz => ?_, putS_asc h'⟩
      rcases mem_putS.1 hz with rfl | hz
      . exact h1
      . exact h0 z hz
    . rw [if_neg h1]
      by_cases h2 : y = q
      . rw [if_pos h2]
        exact h
      . rw [if_neg h2]
        refine List.pairwise_cons.2 ⟨λ z hz => ?_, h⟩
        rcases List.mem_cons.1 hz with rfl | hz
        . omega
        . have := h0 z hz
          omega
theorem asc_eq : ∀ {s t : List Nat}, s.Pairwise (· < ·) -> t.Pairwise (· < ·) -> (∀ x, x ∈ s ↔ x ∈ t) -> s = t
  | [], [], _, _, _ => rfl
  | [], y :: t, _, _, h => absurd ((h y).2 (List.mem_cons_self ..)) (by simp)
  | y :: s, [], _, _, h => absurd ((h y).1 (List.mem_cons_self ..)) (by simp)
  | x :: s, y :: t, hs, ht, h => by
    obtain ⟨hs0, hs'⟩ := List.pairwise_cons.1 hs
    obtain ⟨ht0, ht'⟩ := List.pairwise_cons.1 ht
    have e : x = y := by
      rcases List.mem_cons.1 ((h x).1 (List.mem_cons_self ..)) with e | hx
      . exact e
      . rcases List.mem_cons.1 ((h y).2 (List.mem_cons_self ..)) with e | hy
        . exact e.symm
        . have := ht0 x hx
          have := hs0 y hy
          omega
    subst e
    rw [asc_eq hs' ht' (λ z => ?_)]
    constructor
    . intro hz
      rcases List.mem_cons.1 ((h z).1 (List.mem_cons_of_mem _ hz)) with rfl | h2
      . have := hs0 z hz
        omega
      . exact h2
    . intro hz
      rcases List.mem_cons.1 ((h z).2 (List.mem_cons_of_mem _ hz)) with rfl | h2
      . have := ht0 z hz
        omega
      . exact h2
def moveS (d : Au) (s : List Nat) (k : Nat) : List Nat := s.foldl (λ out q => putS out (d.T q k)) []
theorem mem_move_from {d : Au} {k x : Nat} : ∀ (s o : List Nat), x ∈ s.foldl (λ out q => putS out (d.T q k)) o ↔ x ∈ o \/ ∃ q ∈ s, d.T q k = x
  | [], o => by simp
  | y :: s, o => by
    rw [List.foldl_cons, mem_move_from s, mem_putS]
    constructor
    . rintro ((rfl | h) | ⟨q, hq, e⟩)
      . exact .inr ⟨y, List.mem_cons_self .., rfl⟩
      . exact .inl h
      . exact .inr ⟨q, List.mem_cons_of_mem _ hq, e⟩
    . rintro (h | ⟨q, hq, e⟩)
      . exact .inl (.inr h)
      . rcases List.mem_cons.1 hq with rfl | hq
        . exact .inl (.inl e.symm)
        . exact .inr ⟨q, hq, e⟩
theorem mem_move {d : Au} {k x : Nat} {s : List Nat} : x ∈ moveS d s k ↔ ∃ q ∈ s, d.T q k = x := by
  unfold moveS
  rw [mem_move_from]
  simp
theorem move_from_asc {d : Au} {k : Nat} : ∀ (s o : List Nat), o.Pairwise (· < ·) -> (s.foldl (λ out q => putS out (d.T q k)) o).Pairwise (· < ·)
  | [], _, h => h
  | _ :: s, _, h => move_from_asc s _ (putS_asc h)
theorem move_asc (d : Au) (s : List Nat) (k : Nat) : (moveS d s k).Pairwise (· < ·) := move_from_asc s [] List.Pairwise.nil
def anyS (d : Au) (s : List Nat) : Bool := s.any d.A
theorem anyS_iff {d : Au} {s : List Nat} : anyS d s = true ↔ ∃ q ∈ s, d.A q = true := by simp [anyS]
def catS (a : Au) : Nat × List Nat := (0, if a.A 0 then [0] else [])
def catG (a b : Au) (x : Nat × List Nat) (k : Nat) : Nat × List Nat := (a.T x.1 k, if a.A (a.T x.1 k) then putS (moveS b x.2 k) 0 else moveS b x.2 k)
inductive StarW (d : Au) : List Nat -> Prop
  | nil : StarW d []
  | app (u v : List Nat) : u ≠ [] -> d.A (d.run 0 u) = true -> StarW d v -> StarW d (u ++ v)
theorem StarW.more {d : Au} {u v : List Nat} (ha : d.A (d.run 0 u) = true) (hv : StarW d v) : StarW d (u ++ v) := by
  by_cases hu : u = []
  . rw [hu]
    exact hv
  . exact .app u v hu ha hv
def starS : Bool × List Nat := (true, [0])
def starG (d : Au) (x : Bool × List Nat) (k : Nat) : Bool × List Nat := (false, if anyS d (moveS d x.2 k) then putS (moveS d x.2 k) 0 else moveS d x.2 k)
def starA (d : Au) (x : Bool × List Nat) : Bool := x.1 || anyS d x.2
end Go.Proofs.YtiijlpmdnokjfaaDoor
namespace Go.Proofs.YtiijlpmdnokjfaaDoor
open Go.RowKit
section
variable {α : Type} [DecidableEq α] [Inhabited α] {s0 : α} {g : α -> Nat -> α} {M : Nat}
theorem Ends.one {N N' : Nat} (h : Ends s0 g N) (h' : Ends s0 g N') : N = N' := by
  rcases Nat.lt_trichotomy N N' with hl | e | hl
  . have := h'.on N hl
    have := h.stop
    omega
  . exact e
  . have := h.on N' hl
    have := h'.stop
    omega
theorem Ends.not_big {i N M : Nat} (ha : ∀ j, j <= i -> j < (ords s0 g (3 * j)).length) (hb : M < (ords s0 g (3 * (i + 1))).length) (hN : N <= M) : ¬ Ends s0 g N := λ h => by
  have hi : i < N := by
    apply Nat.lt_of_not_le
    intro hle
    have := ha N hle
    have := h.stop
    omega
  have h1 := (ords_prefix (s0 := s0) (g := g) (show 3 * (i + 1) <= 3 * N by omega)).length_le
  have := h.stop
  omega
def srchR (M : Nat) (s0 : α) (g : α -> Nat -> α) (acc : α -> Bool) (y : Dx) (ok : Bool) : Prop :=
  (∃ N, N <= M /\ Ends s0 g N /\ ∃ m, Canon m /\ Eqv m 0 (found s0 g acc N) 0 /\ y = fitD m /\ ok = decide (m.n <= 40)) \/ ((∀ N, N <= M -> ¬ Ends s0 g N) /\ y = ⟨[], []⟩ /\ ok = false)
theorem srchR_some (M : Nat) (s0 : α) (g : α -> Nat -> α) (acc : α -> Bool) : ∃ y ok, srchR M s0 g acc y ok := by
  by_cases h : ∃ N, N <= M /\ Ends s0 g N
  . obtain ⟨N, hN, hE⟩ := h
    obtain ⟨m, h1, h2, _⟩ := exists_min (hE.wf acc)
    exact ⟨_, _, .inl ⟨N, hN, hE, m, h1, h2, rfl, rfl⟩⟩
  . exact ⟨_, _, .inr ⟨λ N hN hE => h ⟨N, hN, hE⟩, rfl, rfl⟩⟩
theorem srchR_yes {acc : α -> Bool} {y : Dx} {ok : Bool} (h : srchR M s0 g acc y ok) {N : Nat} (hN : N <= M) (hE : Ends s0 g N) {m : Au} (h1 : Canon m) (h2 : Eqv m 0 (found s0 g acc N) 0) : fitD m = y /\ decide (m.n <= 40) = ok := by
  rcases h with ⟨N', _, hE', m', n1, n2, rfl, rfl⟩ | ⟨hn, _⟩
  . have e := hE.one hE'
    subst e
    exact fit_one h1 n1 (h2.swap n2)
  . exact absurd hE (hn N hN)
theorem srchR_no {acc : α -> Bool} {y : Dx} {ok : Bool} (h : srchR M s0 g acc y ok) (hn : ∀ N, N <= M -> ¬ Ends s0 g N) : y = ⟨[], []⟩ /\ ok = false := by
  rcases h with ⟨N, hN, hE, _⟩ | ⟨_, h⟩
  . exact absurd hE (hn N hN)
  . exact h
end
def catR (a b y : Dx) (ok : Bool) : Prop := if validD a = true /\ validD b = true then srchR 400 (catS (auD a)) (catG (auD a) (auD b)) (λ x => anyS (auD b) x.2) y ok else y = ⟨[], []⟩ /\ ok = false
def starR (d y : Dx) (ok : Bool) : Prop := if validD d = true then srchR 400 starS (starG (auD d)) (starA (auD d)) y ok else y = ⟨[], []⟩ /\ ok = false
theorem catR_some (a b : Dx) : ∃ y ok, catR a b y ok := by
  unfold catR
  by_cases h : validD a = true /\ validD b = true
  . simp only [if_pos h]
    exact srchR_some _ _ _ _
  . simp only [if_neg h]
    exact ⟨_, _, rfl, rfl⟩
theorem starR_some (d : Dx) : ∃ y ok, starR d y ok := by
  unfold starR
  by_cases h : validD d = true
  . simp only [if_pos h]
    exact srchR_some _ _ _ _
  . simp only [if_neg h]
    exact ⟨_, _, rfl, rfl⟩
end Go.Proofs.YtiijlpmdnokjfaaDoor
namespace Go.Proofs.YtiijlpmdnokjfaaDoor
open Go.RowKit
def mskS (s : List Nat) : Nat := s.foldl (λ m q => m ||| 2 ^ q) 0
theorem msk_from (i : Nat) : ∀ (s : List Nat) (m : Nat), (s.foldl (λ m q => m ||| 2 ^ q) m).testBit i = (m.testBit i || decide (i ∈ s))
  | [], m => by simp
  | q :: s, m => by
    rw [List.foldl_cons, msk_from i s, Nat.testBit_or, Nat.testBit_two_pow, Bool.or_assoc]
    congr 1
    by_cases h : q = i
    . subst h; simp
    . have h' : ¬ i = q := λ e => h e.symm
      simp [h, h']
theorem mskS_bit (s : List Nat) (i : Nat) : (mskS s).testBit i = decide (i ∈ s) := by
  unfold mskS
  rw [msk_from]
  simp
theorem mskS_lt {s : List Nat} {n : Nat} (h : ∀ q ∈ s, q < n) : mskS s < 2 ^ n := Nat.lt_pow_two_of_testBit _ (λ i hi => by
  rw [mskS_bit]
  simp only [decide_eq_false_iff_not]
  intro hm
  have := h i hm
  omega)
theorem mskS_64 {s : List Nat} (h : ∀ q ∈ s, q < 40) : mskS s < 1099511627776 := mskS_lt (n := 40) h
theorem msk_eq {s : List Nat} {m : Nat} (h : ∀ i, m.testBit i = decide (i ∈ s)) : m = mskS s := Nat.eq_of_testBit_eq (λ i => by rw [h, mskS_bit])
theorem msk_inj {s t : List Nat} (hs : s.Pairwise (· < ·)) (ht : t.Pairwise (· < ·)) (h : mskS s = mskS t) : s = t := asc_eq hs ht (λ x => by
  have h1 := mskS_bit s x
  rw [h, mskS_bit] at h1
  exact ⟨λ hx => by simpa [hx] using h1, λ hx => by simpa [hx] using h1.symm⟩)
theorem msk_meets (s t : List Nat) : (mskS s &&& mskS t ≠ 0) ↔ ∃ q ∈ s, q ∈ t := by
  constructor
  . intro h
    apply Classical.byContradiction
    intro hn
    apply h
    refine Nat.eq_of_testBit_eq (λ i => ?_)
    rw [Nat.testBit_and, mskS_bit, mskS_bit, Nat.zero_testBit]
    by_cases h1 : i ∈ s
    . have h2 : i ∉ t := λ h2 => hn ⟨i, h1, h2⟩
      simp [h2]
    . simp [h1]
  . rintro ⟨q, h1, h2⟩ h
    have h3 : (mskS s &&& mskS t).testBit q = true := by rw [Nat.testBit_and, mskS_bit, mskS_bit]; simp [h1, h2]
    rw [h, Nat.zero_testBit] at h3
    cases h3
def accS (d : Au) (n : Nat) : List Nat := (List.range n).filter d.A
theorem accS_succ_yes {d : Au} {n : Nat} (h : d.A n = true) : mskS (accS d n) ||| 2 ^ n = mskS (accS d (n + 1)) := msk_eq (λ i => by
  rw [Nat.testBit_or, mskS_bit, Nat.testBit_two_pow]
  by_cases e : n = i
  . subst e; simp [accS, h]
  . have h1 : (i < n + 1) = (i < n) := propext ⟨λ h => by omega, λ h => by omega⟩
    simp [e, accS, h1])
theorem accS_succ_no {d : Au} {n : Nat} (h : d.A n = false) : accS d (n + 1) = accS d n := by simp [accS, List.range_succ, h]
theorem accS_lt {d : Au} {n q : Nat} (h : q ∈ accS d n) : q < n := by simp [accS] at h; exact h.1
theorem any_meets {d : Au} {s : List Nat} (hs : ∀ q ∈ s, q < d.n) : anyS d s = decide (mskS s &&& mskS (accS d d.n) ≠ 0) := by
  rw [Bool.eq_iff_iff, anyS_iff, decide_eq_true_iff, msk_meets]
  constructor
  . rintro ⟨q, h1, h2⟩
    exact ⟨q, h1, by simp [accS, h2]; exact hs q h1⟩
  . rintro ⟨q, h1, h2⟩
    exact ⟨q, h1, by simp [accS] at h2; exact h2.2⟩
theorem ctz_bit {x : Nat} (h0 : x ≠ 0) (h : x < 18446744073709551616) : Lib.ctz 64 x < 64 /\ x.testBit (Lib.ctz 64 x) = true := by
  obtain ⟨h1, h2⟩ := Lib.lowest_bit 64 x h0 h
  refine ⟨h2, ?_⟩
  have h3 : (x &&& (2 ^ 64 - x)).testBit (Lib.ctz 64 x) = true := by rw [h1, Nat.testBit_two_pow]; simp
  rw [Nat.testBit_and] at h3
  simp only [Bool.and_eq_true] at h3
  exact h3.1
def dropB (x q : Nat) : Nat := x &&& (18446744073709551615 - 2 ^ q)
theorem dropB_bit {x q i : Nat} (hx : x < 18446744073709551616) (hq : q < 64) : (dropB x q).testBit i = (x.testBit i && !decide (q = i)) := by
  unfold dropB
  have h1 : (18446744073709551615 - 2 ^ q).testBit i = (decide (i < 64) && !(2 ^ q).testBit i) := by
    have h2 := Nat.testBit_two_pow_sub_succ (x := 2 ^ q) (n := 64) (Nat.pow_lt_pow_right (by decide) hq) i
    rw [<- h2]
    congr 1
    show 18446744073709551615 - 2 ^ q = 18446744073709551616 - (2 ^ q + 1)
    omega
  rw [Nat.testBit_and, h1, Nat.testBit_two_pow]
  by_cases hi : i < 64
  . simp [hi]
  . have h3 : x.testBit i = false := Nat.testBit_lt_two_pow (Nat.lt_of_lt_of_le hx (Nat.pow_le_pow_right (n := 2) (by decide) (show 64 <= i by omega)))
    simp [h3]
theorem dropB_lt {x q : Nat} (hx : x < 18446744073709551616) (hq : q < 64) (h : x.testBit q = true) : dropB x q < x := by
  have hle : dropB x q <= x := Nat.and_le_left
  rcases Nat.lt_or_eq_of_le hle with h1 | h1
  . exact h1
  . have h2 := dropB_bit (i := q) hx hq
    rw [h1, h] at h2
    simp at h2
def MoveOf (d : Au) (k : Nat) (s : List Nat) (x m : Nat) : Prop := (∀ i, x.testBit i = true -> i ∈ s) /\ ∀ i, m.testBit i = true ↔ ∃ q ∈ s, x.testBit q = false /\ d.T q k = i
theorem moveOf_start (d : Au) (k : Nat) (s : List Nat) : MoveOf d k s (mskS s) 0 := by
  refine ⟨λ i h => by rw [mskS_bit] at h; simpa using h, λ i => ?_⟩
  rw [Nat.zero_testBit]
  constructor
  . intro h; cases h
  . rintro ⟨q, h1, h2, _⟩
    rw [mskS_bit] at h2
    simp [h1] at h2
theorem moveOf_step {d : Au} {k : Nat} {s : List Nat} {x m q : Nat} (h : MoveOf d k s x m) (hx : x < 18446744073709551616) (hq : q < 64) (hb : x.testBit q = true) : MoveOf d k s (dropB x q) (m ||| 2 ^ d.T q k) := by
  refine ⟨λ i hi => ?_, λ i => ?_⟩
  . rw [dropB_bit hx hq] at hi
    simp only [Bool.and_eq_true] at hi
    exact h.1 i hi.1
  . rw [Nat.testBit_or, Nat.testBit_two_pow, Bool.or_eq_true, decide_eq_true_iff]
    constructor
    . rintro (h1 | h1)
      . obtain ⟨p, p1, p2, p3⟩ := (h.2 i).1 h1
        exact ⟨p, p1, by rw [dropB_bit hx hq, p2]; rfl, p3⟩
      . exact ⟨q, h.1 q hb, by rw [dropB_bit hx hq]; simp, h1⟩
    . rintro ⟨p, p1, p2, p3⟩
      rw [dropB_bit hx hq] at p2
      by_cases e : q = p
      . subst e
        exact .inr p3
      . refine .inl ((h.2 i).2 ⟨p, p1, ?_, p3⟩)
        simpa [e] using p2
theorem moveOf_end {d : Au} {k : Nat} {s : List Nat} {m : Nat} (h : MoveOf d k s 0 m) : m = mskS (moveS d s k) := msk_eq (λ i => by
  rw [Bool.eq_iff_iff, h.2 i, decide_eq_true_iff, mem_move]
  constructor
  . rintro ⟨q, h1, _, h3⟩
    exact ⟨q, h1, h3⟩
  . rintro ⟨q, h1, h3⟩
    exact ⟨q, h1, Nat.zero_testBit _, h3⟩)
theorem moveOf_lt {d : Au} {k : Nat} {s : List Nat} {x m n : Nat} (h : MoveOf d k s x m) (hs : ∀ q ∈ s, d.T q k < n) : m < 2 ^ n := Nat.lt_pow_two_of_testBit _ (λ i hi => by
  cases hb : m.testBit i with
  | false => rfl
  | true =>
    obtain ⟨q, h1, _, h3⟩ := (h.2 i).1 hb
    have := hs q h1
    omega)
def Tab (w : World) : Prop := TabAt 0 Lib.deBruijn64tab w
theorem Tab.kept {w w' : World} (h : Tab w) (hb : Below w.heap.size w w') : Tab w' := λ j hj => (hb.cell (cell_in (h j hj))).trans (h j hj)
theorem implTz_core (x k idx : Nat) (w : World) (hx0 : ((x : Int) == 0) = false)
    (key : IntKind.u64.wrap (bits BinOp.and IntKind.u64 (x : Int) (IntKind.u64.wrap (-(x : Int))) * 285870213051353865) / 288230376151711744 = (idx : Int))
    (hi : idx < 64) (hk : k < 64) (hcell : w.cell? ⟨0, idx, none⟩ = some (.int .u8 k)) :
    Calls Tryd.prog 86 #[.int .u64 x] w λ e w' => e = .returned (.int .i64 k) /\ w = w' := by
  go_enter Tryd.func86, Tryd.ntmps86
  go_wp2_with (simp only [key])
  go_ret
  exact ⟨rfl, rfl⟩
theorem implTz_any (x : Nat) (h0 : x ≠ 0) (hx : x < 18446744073709551616) (w : World) (hT : Tab w) :
    Calls Tryd.prog 86 #[.int .u64 x] w λ e w' => e = .returned (.int .i64 (Lib.ctz 64 x)) /\ w = w' := by
  obtain ⟨hlow, hk⟩ := Lib.lowest_bit 64 x h0 hx
  obtain ⟨hi, htab⟩ := Lib.deBruijn64_at _ hk
  have hcell := hT _ hi
  rw [htab] at hcell
  exact implTz_core x _ _ w (by simp; omega) (tz64_key x _ hx h0 hlow) hi hk hcell
theorem pow_cast (q : Nat) : ((2 ^ q : Nat) : Int) = (2 : Int) ^ q := by push_cast; rfl
theorem pow_small {q : Nat} (h : q < 64) : 2 ^ q < 18446744073709551616 := by
  have h1 : 2 ^ q < 2 ^ 64 := Nat.pow_lt_pow_right (by decide) h
  omega
theorem shl_u64 {q : Nat} (h : q < 64) : IntKind.u64.wrap (2 ^ q) = (2 : Int) ^ q := by
  have h1 := pow_small h
  rw [IntKind.wrap_u64, <- pow_cast]
  exact Int.emod_eq_of_lt (Int.natCast_nonneg _) (Int.ofNat_lt.2 h1)
theorem or_pow {a q : Nat} (ha : a < 18446744073709551616) (h : q < 64) : bits .or .u64 (a : Int) ((2 : Int) ^ q) = ((a ||| 2 ^ q : Nat) : Int) := by
  rw [<- pow_cast]
  exact u64_or_nat a (2 ^ q) ha (pow_small h)
theorem drop_pow {a q : Nat} (ha : a < 18446744073709551616) (h : q < 64) : bits .andNot .u64 (a : Int) ((2 : Int) ^ q) = ((dropB a q : Nat) : Int) := by
  rw [<- pow_cast]
  exact u64_andNot_nat a (2 ^ q) ha (pow_small h)
theorem implAccSt_any (ad : Addr) (n c : Nat) (vn : Value) (a : Au) (w : World) (hn : n <= 40) (hA : ∀ q, q < n -> w.cell? (ad.add q) = some (.bool (a.A q))) :
    Calls Tryd.prog 30 #[.agg #[.slice (some ad) n c, vn]] w λ e w' => e = .returned (.int .u64 ((mskS (accS a n) : Nat) : Int)) /\ Below w.heap.size w w' := by
  obtain ⟨W0, hW0⟩ : ∃ W0, W0 = w.alloc (.cells #[.slice (some ad) n c, vn] 27) := ⟨_, rfl⟩
  have HB0 : Hid (Below w.heap.size w W0) := Lib.hid (by rw [hW0]; exact (Below.refl _ _).alloc (Nat.le_refl _) _)
  obtain ⟨c0, -, -, -⟩ := box2_facts (show W0.heap[w.heap.size]? = some (.cells #[.slice (some ad) n c, vn] 27 (0, 0)) by rw [hW0]; exact heap_alloc_new w _)
  have HA := Lib.hid (λ q (hq : q < n) => (HB0.out.cell (cell_in (hA q hq))).trans (hA q hq))
  have h0 : mskS (accS a 0) = 0 := rfl
  clear hA
  rw [hW0] at c0
  go_enter Tryd.func30, Tryd.ntmps30
  go_wp2_with fail
  rw [<- hW0]
  clear c0 hW0
  go_loopw [3, 9] (λ sv iv wr => ∃ q : Nat, sv = .int .u64 ((mskS (accS a q) : Nat) : Int) /\ iv = .int .i64 q /\ q <= n /\ W0 = wr) (λ _ iv _ => n - (intOf iv).toNat)
  case atStart => exact ⟨0, by rw [h0]; rfl, rfl, Nat.zero_le _, rfl⟩
  case round =>
    obtain ⟨q, rfl, rfl, hq, rfl⟩ := hrel
    by_cases hlt : q < n
    . have hc := HA.out q hlt
      have hd : decide ((q : Int) < (n : Int)) = true := by simp; omega
      have s1 : (0 : Int) <= (q : Int) := by omega
      have s2 : (q : Int) < (n : Int) := by omega
      obtain ⟨b, hb⟩ : ∃ b, b = a.A q := ⟨_, rfl⟩
      rw [<- hb] at hc
      cases b with
      | true =>
        have hm1 : mskS (accS a q) < 1099511627776 := mskS_64 (λ p hp => by have := accS_lt hp; omega)
        have hor := or_pow (a := mskS (accS a q)) (q := q) (by omega) (by omega)
        rw [accS_succ_yes hb.symm] at hor
        have hsh := shl_u64 (q := q) (by omega)
        obtain ⟨m, hm⟩ : ∃ m, m = mskS (accS a q) := ⟨_, rfl⟩
        obtain ⟨m2, hm2'⟩ : ∃ m, m = mskS (accS a (q + 1)) := ⟨_, rfl⟩
        rw [<- hm, <- hm2'] at hor
        have HE := Lib.hid hm2'
        rw [<- hm]
        clear hm1 hm hm2' hb
        go_wp2_with fail
        go_roundw
        case rel => exact ⟨q + 1, by rw [HE.out], by go_num, by omega, trivial⟩
        case measure => simp [intOf]; omega
      | false =>
        have HE := Lib.hid (accS_succ_no hb.symm)
        obtain ⟨m, hm⟩ : ∃ m, m = mskS (accS a q) := ⟨_, rfl⟩
        rw [<- hm]
        have HM := Lib.hid hm
        clear hm hb
        go_wp2_with fail
        go_roundw
        case rel => exact ⟨q + 1, by rw [HE.out, HM.out], by go_num, by omega, trivial⟩
        case measure => simp [intOf]; omega
    . obtain rfl : q = n := by omega
      have hd : decide ((q : Int) < (q : Int)) = false := by simp
      go_wp2_with fail
      go_ret
      exact ⟨rfl, HB0.out⟩
theorem implMeets_any (x y : Nat) (hx : x < 18446744073709551616) (hy : y < 18446744073709551616) (w : World) :
    Calls Tryd.prog 31 #[.int .u64 (x : Int), .int .u64 (y : Int)] w λ e w' => e = .returned (.bool (decide (x &&& y ≠ 0))) /\ w = w' := by
  have hand := u64_and_nat x y hx hy
  obtain ⟨z, hz⟩ : ∃ z, z = x &&& y := ⟨_, rfl⟩
  rw [<- hz] at hand ⊢
  have HR : Hid (decide (z ≠ 0) = ((z : Int) != 0)) := Lib.hid (by
    by_cases h : z = 0
    . subst h; rfl
    . simp [h])
  clear hz
  go_enter Tryd.func31, Tryd.ntmps31
  go_wp2_with fail
  go_ret
  exact ⟨congrArg (λ b : Bool => Ending.returned (.bool b)) HR.out.symm, rfl⟩
theorem implMove_any (va : Value) (aN : Addr) (n c k : Nat) (a : Au) (s : List Nat) (w : World) (hn : n <= 40) (hk : k < 3) (hs : ∀ q ∈ s, q < n) (hw : ∀ q, q < n -> a.T q k < n) (hT : ∀ q, q < n -> ∃ r q', w.cell? (aN.add q) = some (.slice (some r) 3 q') /\ w.cell? (r.add k) = some (.int .i64 ((a.T q k : Nat) : Int))) (hTab : Tab w) :
    Calls Tryd.prog 68 #[.int .u64 ((mskS s : Nat) : Int), .agg #[va, .slice (some aN) n c], .int .i64 (k : Int)] w λ e w' => e = .returned (.int .u64 ((mskS (moveS a s k) : Nat) : Int)) /\ Below w.heap.size w w' := by
  obtain ⟨W0, hW0⟩ : ∃ W0, W0 = w.alloc (.cells #[va, .slice (some aN) n c] 27) := ⟨_, rfl⟩
  have HB0 : Hid (Below w.heap.size w W0) := Lib.hid (by rw [hW0]; exact (Below.refl _ _).alloc (Nat.le_refl _) _)
  obtain ⟨-, c1, -, -⟩ := box2_facts (show W0.heap[w.heap.size]? = some (.cells #[va, .slice (some aN) n c] 27 (0, 0)) by rw [hW0]; exact heap_alloc_new w _)
  have HT := Lib.hid (λ q (hq : q < n) => (by
    obtain ⟨r, q', h1, h2⟩ := hT q hq
    exact ⟨r, q', (HB0.out.cell (cell_in h1)).trans h1, (HB0.out.cell (cell_in h2)).trans h2⟩ : ∃ r q', W0.cell? (aN.add q) = some (.slice (some r) 3 q') /\ W0.cell? (r.add k) = some (.int .i64 ((a.T q k : Nat) : Int))))
  have HTab := Lib.hid (hTab.kept HB0.out)
  have HS := Lib.hid hs
  have HW := Lib.hid hw
  have hm0 := mskS_64 (s := s) (λ q hq => by have := hs q hq; omega)
  have HM0 := Lib.hid (moveOf_start a k s)
  obtain ⟨x0, hx0⟩ : ∃ x, x = mskS s := ⟨_, rfl⟩
  rw [<- hx0] at HM0 hm0 ⊢
  have hx64 : x0 < 18446744073709551616 := by omega
  clear hT hTab hs hw hx0 hm0
  go_enter Tryd.func68, Tryd.ntmps68
  go_wp2_with fail
  rw [<- hW0]
  clear hW0
  go_loopw [0, 7] (λ sv mv wr => ∃ x m : Nat, sv = .int .u64 (x : Int) /\ mv = .int .u64 (m : Int) /\ x < 18446744073709551616 /\ Hid (MoveOf a k s x m) /\ W0 = wr) (λ sv _ _ => (intOf sv).toNat)
  case atStart => exact ⟨x0, 0, rfl, rfl, hx64, HM0, rfl⟩
  case round =>
    obtain ⟨x, m, rfl, rfl, hx, HM, rfl⟩ := hrel
    clear HM0 hx64
    by_cases hne : x = 0
    . have HE := Lib.hid (moveOf_end (d := a) (k := k) (s := s) (m := m) (by rw [<- hne]; exact HM.out))
      have hd : ((x : Int) != 0) = false := by simp [hne]
      clear hne
      go_wp2_with fail
      go_ret
      exact ⟨congrArg (λ z : Nat => Ending.returned (.int .u64 (z : Int))) HE.out, HB0.out⟩
    . have hd : ((x : Int) != 0) = true := by simp; omega
      obtain ⟨hq64, hbit⟩ := ctz_bit hne hx
      have HTz := Lib.hid (implTz_any x hne hx W0 HTab.out)
      obtain ⟨q, hqe⟩ : ∃ q, q = Lib.ctz 64 x := ⟨_, rfl⟩
      rw [<- hqe] at HTz hq64 hbit
      have hqn := HS.out q (HM.out.1 q hbit)
      have hy := HW.out q hqn
      obtain ⟨r, q', h1, h2⟩ := HT.out q hqn
      have hmlt : m < 1099511627776 := Nat.lt_of_lt_of_le (moveOf_lt HM.out (λ p hp => HW.out p (HS.out p hp))) (Nat.pow_le_pow_right (n := 2) (by decide) hn)
      have HM2 := Lib.hid (moveOf_step HM.out hx hq64 hbit)
      have hdl := dropB_lt hx hq64 hbit
      obtain ⟨y, hye⟩ : ∃ y, y = a.T q k := ⟨_, rfl⟩
      rw [<- hye] at hy h2 HM2
      have hor := or_pow (a := m) (q := y) (by omega) (by omega)
      have hdr := drop_pow hx hq64
      have hsh1 := shl_u64 (q := y) (by omega)
      have hsh2 := shl_u64 hq64
      obtain ⟨m2, hm2⟩ : ∃ z, z = m ||| 2 ^ y := ⟨_, rfl⟩
      obtain ⟨x2, hx2⟩ : ∃ z, z = dropB x q := ⟨_, rfl⟩
      rw [<- hm2] at hor HM2
      rw [<- hx2] at hdr HM2 hdl
      have s1 : (0 : Int) <= (q : Int) := by omega
      have s2 : (q : Int) < (n : Int) := by omega
      have s3 : (0 : Int) <= (k : Int) := by omega
      have s4 : (k : Int) < 3 := by omega
      have s5 : (0 : Int) <= (y : Int) := by omega
      clear hqe hye hm2 hx2 hbit hne
      go_wp2_with (go_at_call 86; refine HTz.out.mono ?_; rintro e w' ⟨rfl, rfl⟩)
      go_roundw
      case rel => exact ⟨x2, m2, rfl, rfl, by omega, HM2, trivial⟩
      case measure => simp [intOf]; omega
theorem gTab : Tryd.prog.globalNamed "math/bits.deBruijn64tab" = some 0 := by kernel_rfl
theorem tab_of_laid {l : List (String × DataW Unit)} {W : World} (hp : (l.all λ x => x.2.handleName?.isNone) = true)
    (hf : (l.filter λ x => x.1 == "math/bits.deBruijn64tab") = [("math/bits.deBruijn64tab", Rows.laid_math_bits_deBruijn64tab)])
    (h : laidMetH Tryd.prog l W) : Tab W := by
  rw [MakeChecks.laidMetH_plain _ _ _ hp] at h
  have h1 := h.filter λ x => x.1 == "math/bits.deBruijn64tab"
  rw [hf] at h1
  have h2 : Lib.TabIs Tryd.prog W "math/bits.deBruijn64tab" .u8 (Lib.deBruijn64tab.map λ x : Nat => (x : Int)) :=
    Lib.tabIs_of_head (t := 131) (e := 5) (n := 64) gTab (by kernel_rfl) Tryd.underlying131 Tryd.underlying5 (by kernel_rfl) (by kernel_rfl) h1
  intro j hj
  have h3 := Lib.TabIs.cell h2 gTab j (by rw [List.length_map]; exact hj)
  rw [h3]
  simp [List.getD_eq_getElem?_getD, hj]
end Go.Proofs.YtiijlpmdnokjfaaDoor
namespace Go.Proofs.YtiijlpmdnokjfaaDoor
def lexL : List Nat -> List Nat -> Prop
  | a :: u, b :: v => a < b \/ (a = b /\ lexL u v)
  | _, _ => False
theorem lexL_irrefl : ∀ u, ¬ lexL u u
  | [] => id
  | a :: u => λ h => by
    rcases h with h | ⟨_, h⟩
    . omega
    . exact lexL_irrefl u h
theorem lexL_trans : ∀ {u v w : List Nat}, lexL u v -> lexL v w -> lexL u w
  | [], _, _, h, _ => h.elim
  | _ :: _, [], _, h, _ => h.elim
  | _ :: _, _ :: _, [], _, h => h.elim
  | a :: u, b :: v, c :: w, h, h' => by
    rcases h with h | ⟨rfl, h⟩
    . rcases h' with h' | ⟨rfl, _⟩
      . exact .inl (by omega)
      . exact .inl h
    . rcases h' with h' | ⟨rfl, h'⟩
      . exact .inl h'
      . exact .inr ⟨rfl, lexL_trans h h'⟩
theorem lexL_tri : ∀ {u v : List Nat}, u.length = v.length -> lexL u v \/ u = v \/ lexL v u
  | [], [], _ => .inr (.inl rfl)
  | [], _ :: _, h => by simp at h
  | _ :: _, [], h => by simp at h
  | a :: u, b :: v, h => by
    rcases Nat.lt_trichotomy a b with hl | rfl | hl
    . exact .inl (.inl hl)
    . rcases lexL_tri (u := u) (v := v) (by simpa using h) with h1 | rfl | h1
      . exact .inl (.inr ⟨rfl, h1⟩)
      . exact .inr (.inl rfl)
      . exact .inr (.inr (.inr ⟨rfl, h1⟩))
    . exact .inr (.inr (.inl hl))
theorem lexL_snoc {x y : List Nat} : ∀ {u v : List Nat}, lexL u v -> lexL (u ++ x) (v ++ y)
  | [], _, h => h.elim
  | _ :: _, [], h => h.elim
  | a :: u, b :: v, h => by
    rcases h with h | ⟨rfl, h⟩
    . exact .inl h
    . exact .inr ⟨rfl, lexL_snoc h⟩
theorem lexL_last {a b : Nat} (h : a < b) : ∀ u : List Nat, lexL (u ++ [a]) (u ++ [b])
  | [] => .inl h
  | _ :: u => .inr ⟨rfl, lexL_last h u⟩
def befW (u v : List Nat) : Prop := u.length < v.length \/ (u.length = v.length /\ lexL u v)
theorem befW_irrefl (u : List Nat) : ¬ befW u u := λ h => by
  rcases h with h | ⟨_, h⟩
  . omega
  . exact lexL_irrefl u h
theorem befW_trans {u v w : List Nat} (h : befW u v) (h' : befW v w) : befW u w := by
  rcases h with h | ⟨e, h⟩ <;> rcases h' with h' | ⟨e', h'⟩
  . exact .inl (by omega)
  . exact .inl (by omega)
  . exact .inl (by omega)
  . exact .inr ⟨by omega, lexL_trans h h'⟩
theorem befW_tri (u v : List Nat) : befW u v \/ u = v \/ befW v u := by
  rcases Nat.lt_trichotomy u.length v.length with h | h | h
  . exact .inl (.inl h)
  . rcases lexL_tri h with h1 | h1 | h1
    . exact .inl (.inr ⟨h, h1⟩)
    . exact .inr (.inl h1)
    . exact .inr (.inr (.inr ⟨h.symm, h1⟩))
  . exact .inr (.inr (.inl h))
theorem befW_snoc {u v : List Nat} (h : befW u v) (a b : Nat) : befW (u ++ [a]) (v ++ [b]) := by
  rcases h with h | ⟨e, h⟩
  . exact .inl (by simp; omega)
  . exact .inr ⟨by simp; omega, lexL_snoc h⟩
theorem befW_last {a b : Nat} (h : a < b) (u : List Nat) : befW (u ++ [a]) (u ++ [b]) := .inr ⟨by simp, lexL_last h u⟩
theorem befW_nil (u : List Nat) (a : Nat) : befW [] (u ++ [a]) := .inl (by simp)
def befE (u v : List Nat) : Prop := u = v \/ befW u v
theorem befE.trans {u v w : List Nat} (h : befE u v) (h' : befE v w) : befE u w := by
  rcases h with rfl | h
  . exact h'
  . rcases h' with rfl | h'
    . exact .inr h
    . exact .inr (befW_trans h h')
theorem befE.snoc {u v : List Nat} (h : befE u v) (a : Nat) : befE (u ++ [a]) (v ++ [a]) := by
  rcases h with rfl | h
  . exact .inl rfl
  . exact .inr (befW_snoc h a a)
theorem befE.not {u v : List Nat} (h : befE u v) : ¬ befW v u := λ h' => by
  rcases h with rfl | h
  . exact befW_irrefl _ h'
  . exact befW_irrefl _ (befW_trans h h')
def runG {α : Type} (g : α -> Nat -> α) (x : α) (w : List Nat) : α := w.foldl g x
theorem runG_snoc {α : Type} {g : α -> Nat -> α} (x : α) (w : List Nat) (k : Nat) : runG g x (w ++ [k]) = g (runG g x w) k := by simp [runG]
section
variable {α : Type} [DecidableEq α] [Inhabited α] (s0 : α) (g : α -> Nat -> α)
def wds : Nat -> List (List Nat)
  | 0 => [[]]
  | t + 1 => if g ((ords s0 g t).getD (t / 3) default) (t % 3) ∈ ords s0 g t then wds t else wds t ++ [(wds t).getD (t / 3) [] ++ [t % 3]]
def Alive (t : Nat) : Prop := ∀ s, s < t -> s / 3 < (ords s0 g s).length
variable {s0 g}
theorem Alive.less {s t : Nat} (h : Alive s0 g t) (hs : s <= t) : Alive s0 g s := λ r hr => h r (by omega)
theorem Ends.alive {N : Nat} (h : Ends s0 g N) : Alive s0 g (3 * N) := λ s hs => by
  have h1 := h.on (s / 3) (by omega)
  have h2 := (ords_prefix (s0 := s0) (g := g) (show 3 * (s / 3) <= s by omega)).length_le
  omega
theorem wds_len : ∀ t, (wds s0 g t).length = (ords s0 g t).length
  | 0 => rfl
  | t + 1 => by
    rw [wds, ords]
    split
    . exact wds_len t
    . simp [wds_len t]
theorem wds_step_prefix (t : Nat) : wds s0 g t <+: wds s0 g (t + 1) := by
  rw [wds]
  split
  . exact List.prefix_refl _
  . exact List.prefix_append _ _
theorem wds_prefix {s t : Nat} (h : s <= t) : wds s0 g s <+: wds s0 g t := by
  induction t with
  | zero =>
    obtain rfl : s = 0 := by omega
    exact List.prefix_refl _
  | succ t ih =>
    by_cases e : s = t + 1
    . rw [e]
      exact List.prefix_refl _
    . exact (ih (by omega)).trans (wds_step_prefix t)
theorem pre_getD {β : Type} {l l' : List β} (h : l <+: l') {i : Nat} (hi : i < l.length) (x : β) : l'.getD i x = l.getD i x := by
  obtain ⟨r, rfl⟩ := h
  rw [List.getD_eq_getElem?_getD, List.getD_eq_getElem?_getD, List.getElem?_append_left hi]
theorem wds_at {s t i : Nat} (h : s <= t) (hi : i < (ords s0 g s).length) : (wds s0 g t).getD i [] = (wds s0 g s).getD i [] := pre_getD (wds_prefix h) (by rw [wds_len]; exact hi) []
theorem getD_mem' {β : Type} {l : List β} {i : Nat} (h : i < l.length) (x : β) : l.getD i x ∈ l := by
  rw [List.getD_eq_getElem?_getD, List.getElem?_eq_getElem h]
  exact List.getElem_mem h
theorem wds_facts : ∀ t, Alive s0 g t -> ∀ i, i < (ords s0 g t).length -> runG g s0 ((wds s0 g t).getD i []) = (ords s0 g t).getD i default /\ W3 ((wds s0 g t).getD i []) /\ ((wds s0 g t).getD i []).length <= i
  | 0, _, i, hi => by
    have h0 : i = 0 := by simp only [ords, List.length_singleton] at hi; omega
    subst h0
    exact ⟨rfl, W3.nil, Nat.le_refl _⟩
  | t + 1, ha, i, hi => by
    have ih := wds_facts t (ha.less (Nat.le_succ t))
    by_cases hl : i < (ords s0 g t).length
    . rw [wds_at (Nat.le_succ t) hl, ords_at (Nat.le_succ t) hl]
      exact ih i hl
    . have ht := ha t (Nat.lt_succ_self t)
      have hl2 := wds_len (s0 := s0) (g := g) t
      by_cases hm : g ((ords s0 g t).getD (t / 3) default) (t % 3) ∈ ords s0 g t
      . rw [ords, if_pos hm] at hi
        omega
      . have e : i = (ords s0 g t).length := by
          rw [ords, if_neg hm, List.length_append, List.length_singleton] at hi
          omega
        subst e
        obtain ⟨h1, h2, h3⟩ := ih (t / 3) ht
        have e1 : (wds s0 g (t + 1)).getD (ords s0 g t).length [] = (wds s0 g t).getD (t / 3) [] ++ [t % 3] := by
          rw [wds, if_neg hm, List.getD_eq_getElem?_getD, List.getElem?_append_right (by omega), hl2]
          simp
        have e2 : (ords s0 g (t + 1)).getD (ords s0 g t).length default = g ((ords s0 g t).getD (t / 3) default) (t % 3) := by
          rw [ords, if_neg hm, List.getD_eq_getElem?_getD, List.getElem?_append_right (Nat.le_refl _)]
          simp
        rw [e1, e2, runG_snoc, h1]
        refine ⟨rfl, λ k hk => ?_, by rw [List.length_append, List.length_singleton]; omega⟩
        rcases List.mem_append.1 hk with hk | hk
        . exact h2 k hk
        . rw [List.mem_singleton.1 hk]
          exact Nat.mod_lt _ (by omega)
def cand (s0 : α) (g : α -> Nat -> α) (t : Nat) : List Nat := (wds s0 g t).getD (t / 3) [] ++ [t % 3]
theorem wds_sorted : ∀ t, Alive s0 g t -> (wds s0 g t).Pairwise befW /\ (t / 3 < (ords s0 g t).length -> ∀ w ∈ wds s0 g t, befW w (cand s0 g t))
  | 0, _ => ⟨by simp [wds], λ _ w hw => by
    rw [wds, List.mem_singleton] at hw
    rw [hw]
    exact befW_nil _ _⟩
  | t + 1, ha => by
    obtain ⟨h1, h2⟩ := wds_sorted t (ha.less (Nat.le_succ t))
    have ht := ha t (Nat.lt_succ_self t)
    have h2 := h2 ht
    have hl := wds_len (s0 := s0) (g := g) t
    have hl1 := wds_len (s0 := s0) (g := g) (t + 1)
    have hp : (wds s0 g (t + 1)).Pairwise befW := by
      rw [wds]
      split
      . exact h1
      . exact List.pairwise_append.2 ⟨h1, by simp, λ a ha b hb => by
          rw [List.mem_singleton.1 hb]
          exact h2 a ha⟩
    refine ⟨hp, λ hlt w hw => ?_⟩
    have hc : befE w (cand s0 g t) := by
      rw [wds] at hw
      split at hw
      . exact .inr (h2 w hw)
      . rcases List.mem_append.1 hw with hw | hw
        . exact .inr (h2 w hw)
        . exact .inl (List.mem_singleton.1 hw)
    have hn : befW (cand s0 g t) (cand s0 g (t + 1)) := by
      unfold cand
      by_cases h3 : t % 3 < 2
      . rw [show (t + 1) / 3 = t / 3 by omega, show (t + 1) % 3 = t % 3 + 1 by omega, wds_at (Nat.le_succ t) ht]
        exact befW_last (Nat.lt_succ_self _) _
      . rw [show (t + 1) / 3 = t / 3 + 1 by omega] at hlt ⊢
        have hq : t / 3 < (wds s0 g (t + 1)).length := by omega
        have hq1 : t / 3 + 1 < (wds s0 g (t + 1)).length := by omega
        rw [<- wds_at (show t <= t + 1 by omega) ht]
        refine befW_snoc ?_ _ _
        rw [List.getD_eq_getElem?_getD, List.getD_eq_getElem?_getD, List.getElem?_eq_getElem hq, List.getElem?_eq_getElem hq1]
        exact List.pairwise_iff_getElem.1 hp _ _ _ _ (by omega)
    rcases hc with rfl | hc
    . exact hn
    . exact befW_trans hc hn
theorem wds_least {N : Nat} (h : Ends s0 g N) : ∀ (n : Nat) (w : List Nat), w.length = n -> W3 w -> ∃ i, i < N /\ (ords s0 g (3 * N)).getD i default = runG g s0 w /\ befE ((wds s0 g (3 * N)).getD i []) w
  | 0, w, hn, _ => by
    have e : w = [] := List.length_eq_zero_iff.1 hn
    subst e
    refine ⟨0, h.pos, ords_first _, .inl ?_⟩
    rw [wds_at (Nat.zero_le _) (by simp [ords])]
    rfl
  | n + 1, w, hn, hw => by
    have hne : w ≠ [] := λ e => by rw [e] at hn; simp at hn
    obtain ⟨u, k, rfl⟩ : ∃ u k, w = u ++ [k] := ⟨w.dropLast, w.getLast hne, (List.dropLast_concat_getLast hne).symm⟩
    obtain ⟨i, hi, h1, h2⟩ := wds_least h n u (by simpa using hn) (λ x hx => hw x (List.mem_append_left _ hx))
    have hk : k < 3 := hw k (List.mem_append_right _ (List.mem_singleton.2 rfl))
    have ht : 3 * i + k < 3 * N := by omega
    have hd : (3 * i + k) / 3 = i := by omega
    have hm3 : (3 * i + k) % 3 = k := by omega
    have hal := h.alive
    have hlt := hal (3 * i + k) ht
    rw [hd] at hlt
    have hlN := h.length
    have hll := wds_len (s0 := s0) (g := g) (3 * i + k)
    have hc : befE (cand s0 g (3 * i + k)) (u ++ [k]) := by
      unfold cand
      rw [hd, hm3, <- wds_at (show 3 * i + k <= 3 * N by omega) hlt]
      exact h2.snoc k
    have e1 : g ((ords s0 g (3 * i + k)).getD i default) k = runG g s0 (u ++ [k]) := by rw [runG_snoc, <- h1, ords_at (show 3 * i + k <= 3 * N by omega) hlt]
    by_cases hm : g ((ords s0 g (3 * i + k)).getD i default) k ∈ ords s0 g (3 * i + k)
    . obtain ⟨j, hj, hje⟩ := List.mem_iff_getElem.1 hm
      have hpl := (ords_prefix (s0 := s0) (g := g) (show 3 * i + k <= 3 * N by omega)).length_le
      refine ⟨j, by omega, ?_, .trans (.inr ?_) hc⟩
      . rw [ords_at (show 3 * i + k <= 3 * N by omega) hj, List.getD_eq_getElem?_getD, List.getElem?_eq_getElem hj, <- e1]
        exact hje
      . rw [wds_at (show 3 * i + k <= 3 * N by omega) hj]
        exact (wds_sorted _ (hal.less (show 3 * i + k <= 3 * N by omega))).2 (by rw [hd]; exact hlt) _ (getD_mem' (by omega) [])
    . have hs : ords s0 g (3 * i + k + 1) = ords s0 g (3 * i + k) ++ [g ((ords s0 g (3 * i + k)).getD i default) k] := by
        rw [ords, hd, hm3, if_neg hm]
      have hsw : wds s0 g (3 * i + k + 1) = wds s0 g (3 * i + k) ++ [cand s0 g (3 * i + k)] := by
        rw [wds, hd, hm3, if_neg hm, cand, hd, hm3]
      have hpl := (ords_prefix (s0 := s0) (g := g) (show 3 * i + k + 1 <= 3 * N by omega)).length_le
      rw [hs, List.length_append, List.length_singleton] at hpl
      have hj : (ords s0 g (3 * i + k)).length < (ords s0 g (3 * i + k + 1)).length := by rw [hs, List.length_append, List.length_singleton]; omega
      refine ⟨(ords s0 g (3 * i + k)).length, by omega, ?_, ?_⟩
      . rw [ords_at (show 3 * i + k + 1 <= 3 * N by omega) hj, hs, List.getD_eq_getElem?_getD, List.getElem?_append_right (Nat.le_refl _), <- e1]
        simp
      . rw [wds_at (show 3 * i + k + 1 <= 3 * N by omega) hj, hsw, List.getD_eq_getElem?_getD, List.getElem?_append_right (by omega), hll]
        simpa using hc
def FirstR (P : List Nat -> Prop) : Option (List Nat) -> Prop
  | some w => W3 w /\ P w /\ ∀ v, W3 v -> P v -> ¬ befW v w
  | none => ∀ w, W3 w -> ¬ P w
theorem firstR_one {P : List Nat -> Prop} : ∀ {r r' : Option (List Nat)}, FirstR P r -> FirstR P r' -> r = r'
  | none, none, _, _ => rfl
  | none, some w, h, h' => absurd h'.2.1 (h w h'.1)
  | some w, none, h, h' => absurd h.2.1 (h' w h.1)
  | some u, some v, h, h' => by
    rcases befW_tri u v with h1 | h1 | h1
    . exact absurd h1 (h'.2.2 u h.1 h.2.1)
    . rw [h1]
    . exact absurd h1 (h.2.2 v h'.1 h'.2.1)
theorem first_found {N : Nat} (h : Ends s0 g N) {goal : α -> Bool} {i : Nat} (hi : i < N) (hg : goal ((ords s0 g (3 * N)).getD i default) = true) (hn : ∀ j, j < i -> goal ((ords s0 g (3 * N)).getD j default) = false) :
    FirstR (λ w => goal (runG g s0 w) = true) (some ((wds s0 g (3 * N)).getD i [])) := by
  have hl := h.length
  obtain ⟨h1, h2, -⟩ := wds_facts _ h.alive i (by omega)
  refine ⟨h2, by show goal (runG g s0 _) = true; rw [h1]; exact hg, λ v hv hp => ?_⟩
  have hp : goal (runG g s0 v) = true := hp
  obtain ⟨j, hj, h3, h4⟩ := wds_least h _ v rfl hv
  have hij : i <= j := by
    apply Nat.le_of_not_lt
    intro hlt
    have := hn j hlt
    rw [h3, hp] at this
    cases this
  refine (befE.trans ?_ h4).not
  by_cases e : i = j
  . exact .inl (by rw [e])
  . have hll := wds_len (s0 := s0) (g := g) (3 * N)
    refine .inr ?_
    rw [List.getD_eq_getElem?_getD, List.getD_eq_getElem?_getD, List.getElem?_eq_getElem (show i < _ by omega), List.getElem?_eq_getElem (show j < _ by omega)]
    exact List.pairwise_iff_getElem.1 (wds_sorted _ h.alive).1 _ _ _ _ (by omega)
theorem first_none {N : Nat} (h : Ends s0 g N) {goal : α -> Bool} (hn : ∀ j, j < N -> goal ((ords s0 g (3 * N)).getD j default) = false) : FirstR (λ w => goal (runG g s0 w) = true) none := λ w hw hp => by
  obtain ⟨j, hj, h3, -⟩ := wds_least h _ w rfl hw
  have hp : goal (runG g s0 w) = true := hp
  have := hn j hj
  rw [h3] at this
  rw [this] at hp
  cases hp
end
end Go.Proofs.YtiijlpmdnokjfaaDoor
