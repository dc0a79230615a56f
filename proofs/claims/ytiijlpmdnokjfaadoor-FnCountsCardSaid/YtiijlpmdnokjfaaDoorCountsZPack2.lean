/- Texts of one proof. -/
import Derived.Lib.Builder
import Derived.Deep.RegionHeld3
import Derived.IntWalk
import Derived.Deep.CutRange
import Derived.Outline
import Derived.Lib.Bytealg
import Derived.StillTailTactics
import Derived.Test.YtiijlpmdnokjfaaDoorCountsZPack1
set_option maxRecDepth 100000
set_option maxHeartbeats 20000000
namespace Go.Proofs.YtiijlpmdnokjfaaDoor
open Go.RowKit
def RowV (w : World) (S : Nat -> Prop) (v : Value) (xs : List Value) : Prop :=
  xs.length <= 9223372036854775807 /\ ∃ A c, v = .slice A xs.length c /\ ∀ (j : Nat) (x : Value), xs[j]? = some x -> ∃ ad, A = some ad /\ S ad.block /\ w.cell? (ad.add j) = some x
theorem add_block (a : Addr) (n : Nat) : (a.add n).block = a.block := by unfold Addr.add; split <;> rfl
theorem RowV.mono {w w' : World} {S S' : Nat -> Prop} {v : Value} {xs : List Value} (h : RowV w S v xs) (hs : ∀ g, S g -> w'.heap[g]? = w.heap[g]?) (hS : ∀ g, S g -> S' g) : RowV w' S' v xs := by
  obtain ⟨hl, A, c, rfl, hc⟩ := h
  refine ⟨hl, A, c, rfl, λ j x hx => ?_⟩
  obtain ⟨ad, rfl, hb, hce⟩ := hc j x hx
  exact ⟨ad, rfl, hS _ hb, (World.cell?_of_block (by rw [add_block]; exact hs _ hb)).trans hce⟩
theorem RowV.below {w w' : World} {B B' : Nat} {v : Value} {xs : List Value} (h : RowV w (· < B) v xs) (hb : Below B w w') (hB : B <= B') : RowV w' (· < B') v xs :=
  h.mono (λ g hg => hb.block g hg) (λ _ hg => Nat.lt_of_lt_of_le hg hB)
theorem cell_in {w : World} {p : Addr} {u : Value} (h : w.cell? p = some u) : p.block < w.heap.size := by
  by_cases hl : p.block < w.heap.size
  . exact hl
  . have : w.heap[p.block]? = none := Array.getElem?_eq_none (by omega)
    simp [World.cell?, this] at h
theorem RowV.kept {w w' : World} {S : Nat -> Prop} {v : Value} {xs : List Value} (h : RowV w S v xs) (hb : Below w.heap.size w w') : RowV w' S v xs := by
  obtain ⟨hl, A, c, rfl, hc⟩ := h
  refine ⟨hl, A, c, rfl, λ j x hx => ?_⟩
  obtain ⟨ad, rfl, hS, hce⟩ := hc j x hx
  have hlt := cell_in hce
  exact ⟨ad, rfl, hS, (hb.cell hlt).trans hce⟩
theorem RowV.shape {w : World} {S : Nat -> Prop} {v : Value} {xs : List Value} (h : RowV w S v xs) : ∃ A c, v = .slice A xs.length c := by
  obtain ⟨_, A, c, h, _⟩ := h
  exact ⟨A, c, h⟩
theorem RowV.at {w : World} {S : Nat -> Prop} {A : Option Addr} {n c : Nat} {xs : List Value} (h : RowV w S (.slice A n c) xs) {j : Nat} (hj : j < xs.length) : ∃ ad, A = some ad /\ S ad.block /\ w.cell? (ad.add j) = some xs[j] := by
  obtain ⟨_, A', c', e, hc⟩ := h
  cases e
  exact hc j _ (List.getElem?_eq_getElem hj)
def RowO (w : World) (S : Nat -> Prop) (v : Value) (xs : List Value) : Prop :=
  xs.length <= 9223372036854775807 /\ ∃ A c, v = .slice A xs.length c /\ (xs = [] \/ ∃ (g : Nat) (cur : Array Value) (T : TypeId), A = some ⟨g, 0, none⟩ /\ S g /\ w.heap[g]? = some (.cells cur T (0, 0)) /\ ∀ (j : Nat) (x : Value), xs[j]? = some x -> cur[j]? = some x)
theorem RowO.row {w : World} {S : Nat -> Prop} {v : Value} {xs : List Value} (h : RowO w S v xs) : RowV w S v xs := by
  obtain ⟨hl, A, c, rfl, hc⟩ := h
  refine ⟨hl, A, c, rfl, λ j x hx => ?_⟩
  rcases hc with rfl | ⟨g, cur, T, rfl, hg, hh, hx'⟩
  . simp at hx
  . exact ⟨_, rfl, hg, by rw [Addr.add_lit, Nat.zero_add, cell_of_row w g j cur T (0, 0) hh]; exact hx' j x hx⟩
theorem RowO.mono {w w' : World} {S S' : Nat -> Prop} {v : Value} {xs : List Value} (h : RowO w S v xs) (hs : ∀ g, S g -> w'.heap[g]? = w.heap[g]?) (hS : ∀ g, S g -> S' g) : RowO w' S' v xs := by
  obtain ⟨hl, A, c, rfl, hc⟩ := h
  refine ⟨hl, A, c, rfl, ?_⟩
  rcases hc with rfl | ⟨g, cur, T, rfl, hg, hh, hx'⟩
  . exact .inl rfl
  . exact .inr ⟨g, cur, T, rfl, hS g hg, (hs g hg).trans hh, hx'⟩
theorem RowO.shape {w : World} {S : Nat -> Prop} {v : Value} {xs : List Value} (h : RowO w S v xs) : ∃ A c, v = .slice A xs.length c := h.row.shape
theorem RowO.nil (w : World) (S : Nat -> Prop) (A : Option Addr) (c : Nat) : RowO w S (.slice A 0 c) [] := ⟨Nat.zero_le _, A, c, rfl, .inl rfl⟩
theorem RowO.of_owns {w : World} {base : Nat} {e : TypeId} {v : Value} {n : Nat} {xs : List Value} (h : w.ownsRow base e 1 v n xs) (hn : n <= 9223372036854775807) : RowO w (λ g => v.ownBlock = some g) v xs := by
  obtain ⟨hx, hc⟩ := h
  rw [Nat.mul_one] at hx
  refine ⟨by omega, ?_⟩
  rcases hc with ⟨rfl, h0⟩ | ⟨g, cap, cur, rfl, _, hh, _, _, _, ht⟩
  . rw [hx, h0]
    exact ⟨none, 0, rfl, .inl (List.length_eq_zero_iff.1 (by omega))⟩
  . rw [hx]
    refine ⟨_, cap, rfl, .inr ⟨g, cur, e, rfl, rfl, hh, λ j x hj => ?_⟩⟩
    rw [Nat.mul_one] at ht
    have hjn : j < n := by have := (List.getElem?_eq_some_iff.1 hj).1; omega
    rw [<- ht, List.getElem?_take_of_lt hjn, Array.getElem?_toList] at hj
    exact hj
theorem RowO.set {w : World} {S : Nat -> Prop} {A : Option Addr} {n c : Nat} {xs : List Value} (h : RowO w S (.slice A n c) xs) {j : Nat} (hj : j < xs.length) :
    ∃ g, A = some ⟨g, 0, none⟩ /\ S g /\ g < w.heap.size /\ (∀ w1 : World, w1.heap[g]? = w.heap[g]? -> (∃ x, w1.cell? ⟨g, j, none⟩ = some x) /\ w1.frozen? ⟨g, j, none⟩ = false /\
      ∀ u, RowO (w1.setCell ⟨g, j, none⟩ u) S (.slice A n c) (xs.set j u)) := by
  obtain ⟨hl, A', c', e, hc⟩ := h
  cases e
  rcases hc with rfl | ⟨g, cur, T, rfl, hg, hh, hx⟩
  . simp at hj
  . have hlt : g < w.heap.size := (Array.getElem?_eq_some_iff.1 hh).1
    have hcj : cur[j]? = some xs[j] := hx j _ (List.getElem?_eq_getElem hj)
    refine ⟨g, rfl, hg, hlt, λ w1 h1 => ?_⟩
    have hh1 := h1.trans hh
    refine ⟨⟨_, (cell_of_row w1 g j cur T (0, 0) hh1).trans hcj⟩, frozen_of_row w1 g j cur T hh1, λ u => ?_⟩
    have h2 := heap_setCell_same w1 g j cur T u hh1
    refine ⟨by simpa using hl, _, c, by simp, .inr ⟨g, _, T, rfl, hg, h2, λ i x hi => ?_⟩⟩
    have hjc : j < cur.size := (Array.getElem?_eq_some_iff.1 hcj).1
    rw [Array.getElem?_setIfInBounds]
    rw [List.getElem?_set] at hi
    by_cases e : j = i
    . subst e
      rw [if_pos rfl] at hi
      rw [if_pos hj] at hi
      rw [if_pos rfl, if_pos hjc]
      exact hi
    . rw [if_neg e] at hi
      rw [if_neg e]
      exact hx i x hi
theorem set_step {α : Type} (f : Nat -> α) (xs : List α) (j : Nat) (hj : j < xs.length) : ((List.range j).map f ++ xs.drop j).set j (f j) = (List.range (j + 1)).map f ++ xs.drop (j + 1) := by
  have hl : ((List.range j).map f).length = j := by simp
  rw [List.set_append_right _ _ (by omega), hl, Nat.sub_self, List.drop_eq_getElem_cons hj, List.set_cons_zero, List.range_succ, List.map_append, List.append_assoc]
  rfl
end Go.Proofs.YtiijlpmdnokjfaaDoor
namespace Go.Proofs.YtiijlpmdnokjfaaDoor
open Go.RowKit
def bools (l : List Bool) : List Value := l.map λ x => .bool x
theorem bools_length (l : List Bool) : (bools l).length = l.length := by simp [bools]
theorem bools_at {l : List Bool} {j : Nat} (h : j < l.length) : (bools l)[j]'(by rw [bools_length]; exact h) = .bool (l[j]) := by simp [bools]
theorem boolInfo : (Tryd.prog.info? 4).map (λ i => (i.zero, i.size, i.bytes)) = some (some (.bool false), 1, 1) := by kernel_rfl
def Copy (xs : List Value) (w : World) (e : Ending) (w' : World) : Prop := ∃ v, e = .returned v /\ RowO w' (OwnB w w') v xs /\ Below w.heap.size w w'
end Go.Proofs.YtiijlpmdnokjfaaDoor
namespace Go.Proofs.YtiijlpmdnokjfaaDoor
open Go.RowKit
def ints (l : List Int) : List Value := l.map λ x => .int .i64 x
theorem ints_length (l : List Int) : (ints l).length = l.length := by simp [ints]
theorem ints_at {l : List Int} {j : Nat} (h : j < l.length) : (ints l)[j]'(by rw [ints_length]; exact h) = .int .i64 (l[j]) := by simp [ints]
theorem intInfo : (Tryd.prog.info? 3).map (λ i => (i.zero, i.size, i.bytes)) = some (some (.int .i64 0), 1, 8) := by kernel_rfl
end Go.Proofs.YtiijlpmdnokjfaaDoor
namespace Go.Proofs.YtiijlpmdnokjfaaDoor
open Go.RowKit
def RowVV (w : World) (S : Nat -> Prop) (v : Value) (rss : List (List Value)) : Prop :=
  ∃ us : List Value, us.length = rss.length /\ RowV w S v us /\ ∀ (j : Nat) (u : Value) (r : List Value), us[j]? = some u -> rss[j]? = some r -> RowV w S u r
theorem RowVV.mono {w w' : World} {S S' : Nat -> Prop} {v : Value} {rss : List (List Value)} (h : RowVV w S v rss) (hs : ∀ g, S g -> w'.heap[g]? = w.heap[g]?) (hS : ∀ g, S g -> S' g) : RowVV w' S' v rss := by
  obtain ⟨us, hl, hv, hr⟩ := h
  exact ⟨us, hl, hv.mono hs hS, λ j u r hu hx => (hr j u r hu hx).mono hs hS⟩
theorem RowVV.kept {w w' : World} {S : Nat -> Prop} {v : Value} {rss : List (List Value)} (h : RowVV w S v rss) (hb : Below w.heap.size w w') : RowVV w' S v rss := by
  obtain ⟨us, hl, hv, hr⟩ := h
  exact ⟨us, hl, hv.kept hb, λ j u r hu hx => (hr j u r hu hx).kept hb⟩
theorem RowVV.shape {w : World} {S : Nat -> Prop} {v : Value} {rss : List (List Value)} (h : RowVV w S v rss) : rss.length <= 9223372036854775807 /\ ∃ A c, v = .slice A rss.length c := by
  obtain ⟨us, hl, hv, _⟩ := h
  obtain ⟨A, c, e⟩ := hv.shape
  rw [hl] at e
  exact ⟨by rw [<- hl]; exact hv.1, A, c, e⟩
theorem RowVV.at {w : World} {S : Nat -> Prop} {A : Option Addr} {n c : Nat} {rss : List (List Value)} (h : RowVV w S (.slice A n c) rss) {j : Nat} (hj : j < rss.length) :
    ∃ ad u, A = some ad /\ S ad.block /\ w.cell? (ad.add j) = some u /\ RowV w S u rss[j] := by
  obtain ⟨us, hl, hv, hr⟩ := h
  obtain ⟨ad, e, hS, hc⟩ := hv.at (j := j) (by omega)
  exact ⟨ad, _, e, hS, hc, hr j _ _ (List.getElem?_eq_getElem (by omega)) (List.getElem?_eq_getElem hj)⟩
structure RowsP (S : Nat -> Prop) (w : World) (us : List Value) (rss : List (List Value)) (K : Nat -> Nat -> Prop) : Prop where
  len : us.length = rss.length
  row : ∀ (j : Nat) (u : Value) (r : List Value), us[j]? = some u -> rss[j]? = some r -> RowO w (K j) u r
  sub : ∀ j g, K j g -> S g
  lt : ∀ j g, K j g -> g < w.heap.size
  sep : ∀ i j g, K i g -> K j g -> i = j
theorem RowsP.nil (S : Nat -> Prop) (w : World) : RowsP S w [] [] (λ _ _ => False) := ⟨rfl, λ j u r h => by simp at h, λ _ _ h => h.elim, λ _ _ h => h.elim, λ _ _ _ h => h.elim⟩
theorem RowsP.keep {S S' : Nat -> Prop} {w w' : World} {us : List Value} {rss : List (List Value)} {K : Nat -> Nat -> Prop} (h : RowsP S w us rss K) (hs : ∀ j g, K j g -> w'.heap[g]? = w.heap[g]?) (hS : ∀ j g, K j g -> S' g) (hz : w.heap.size <= w'.heap.size) : RowsP S' w' us rss K :=
  ⟨h.len, λ j u r hu hr => (h.row j u r hu hr).mono (λ g hg => hs j g hg) (λ _ hg => hg), hS, λ j g hg => Nat.lt_of_lt_of_le (h.lt j g hg) hz, h.sep⟩
def RowOO (w : World) (S : Nat -> Prop) (v : Value) (rss : List (List Value)) : Prop :=
  ∃ us K0 K, RowO w K0 v us /\ RowsP S w us rss K /\ ∀ g, K0 g -> S g /\ ∀ j, ¬ K j g
theorem RowOO.rows {w : World} {S : Nat -> Prop} {v : Value} {rss : List (List Value)} (h : RowOO w S v rss) : RowVV w S v rss := by
  obtain ⟨us, K0, K, ho, hp, hk⟩ := h
  exact ⟨us, hp.len, ho.row.mono (λ _ _ => rfl) (λ g hg => (hk g hg).1), λ j u r hu hr => (hp.row j u r hu hr).row.mono (λ _ _ => rfl) (λ g hg => hp.sub j g hg)⟩
theorem RowOO.mono {w w' : World} {S S' : Nat -> Prop} {v : Value} {rss : List (List Value)} (h : RowOO w S v rss) (hs : ∀ g, S g -> w'.heap[g]? = w.heap[g]?) (hS : ∀ g, S g -> S' g) (hz : w.heap.size <= w'.heap.size) : RowOO w' S' v rss := by
  obtain ⟨us, K0, K, ho, hp, hk⟩ := h
  exact ⟨us, K0, K, ho.mono (λ g hg => hs g (hk g hg).1) (λ _ hg => hg), hp.keep (λ j g hg => hs g (hp.sub j g hg)) (λ j g hg => hS g (hp.sub j g hg)) hz, λ g hg => ⟨hS g (hk g hg).1, (hk g hg).2⟩⟩
theorem RowOO.nil (w : World) (S : Nat -> Prop) (A : Option Addr) (c : Nat) : RowOO w S (.slice A 0 c) [] := ⟨[], λ _ => False, λ _ _ => False, RowO.nil _ _ _ _, RowsP.nil _ _, λ _ h => h.elim⟩
theorem RowOO.shape {w : World} {S : Nat -> Prop} {v : Value} {rss : List (List Value)} (h : RowOO w S v rss) : ∃ A c, v = .slice A rss.length c := h.rows.shape.2
end Go.Proofs.YtiijlpmdnokjfaaDoor
namespace Go.Proofs.YtiijlpmdnokjfaaDoor
open Go.RowKit
def intss (rs : List (List Int)) : List (List Value) := rs.map ints
theorem intss_length (rs : List (List Int)) : (intss rs).length = rs.length := by simp [intss]
theorem intss_at {rs : List (List Int)} {j : Nat} (h : j < rs.length) : (intss rs)[j]'(by rw [intss_length]; exact h) = ints (rs[j]) := by simp [intss]
theorem RowVV.atD {w : World} {S : Nat -> Prop} {A : Option Addr} {n c : Nat} {rs : List (List Int)} (h : RowVV w S (.slice A n c) (intss rs)) {j : Nat} (hj : j < rs.length) :
    ∃ ad u, A = some ad /\ S ad.block /\ w.cell? (ad.add j) = some u /\ RowV w S u (ints (rs.getD j [])) := by
  obtain ⟨ad, u, h1, h2, h3, h4⟩ := h.at (j := j) (by rw [intss_length]; exact hj)
  rw [intss_at hj] at h4
  refine ⟨ad, u, h1, h2, h3, ?_⟩
  rw [List.getD_eq_getElem?_getD, List.getElem?_eq_getElem hj]
  exact h4
theorem RowV.intD {w : World} {S : Nat -> Prop} {A : Option Addr} {n c : Nat} {r : List Int} (h : RowV w S (.slice A n c) (ints r)) {j : Nat} (hj : j < r.length) : ∃ ad, A = some ad /\ S ad.block /\ w.cell? (ad.add j) = some (.int .i64 (r.getD j 0)) := by
  obtain ⟨ad, h1, h2, h3⟩ := h.at (j := j) (by rw [ints_length]; exact hj)
  rw [ints_at hj] at h3
  refine ⟨ad, h1, h2, ?_⟩
  rw [List.getD_eq_getElem?_getD, List.getElem?_eq_getElem hj]
  exact h3
theorem RowV.boolD {w : World} {S : Nat -> Prop} {A : Option Addr} {n c : Nat} {r : List Bool} (h : RowV w S (.slice A n c) (bools r)) {j : Nat} (hj : j < r.length) : ∃ ad, A = some ad /\ S ad.block /\ w.cell? (ad.add j) = some (.bool (r.getD j false)) := by
  obtain ⟨ad, h1, h2, h3⟩ := h.at (j := j) (by rw [bools_length]; exact hj)
  rw [bools_at hj] at h3
  refine ⟨ad, h1, h2, ?_⟩
  rw [List.getD_eq_getElem?_getD, List.getElem?_eq_getElem hj]
  exact h3
theorem RowV.ints_shape {w : World} {S : Nat -> Prop} {v : Value} {r : List Int} (h : RowV w S v (ints r)) : r.length <= 9223372036854775807 /\ ∃ A c, v = .slice A r.length c := by
  obtain ⟨A, c, e⟩ := h.shape
  have hl := h.1
  rw [ints_length] at e hl
  exact ⟨hl, A, c, e⟩
theorem rowInfo : (Tryd.prog.info? 53).map (λ i => (i.zero, i.size, i.bytes)) = some (some (.slice none 0 0), 1, 24) := by kernel_rfl
end Go.Proofs.YtiijlpmdnokjfaaDoor
namespace Go.Proofs.YtiijlpmdnokjfaaDoor
open Go.RowKit
def Bx2 (w : World) (g : Nat) (x y : Value) : Prop := w.cell? ⟨g, 0, none⟩ = some x /\ w.cell? ⟨g, 1, none⟩ = some y
theorem Bx2.below {w w' : World} {g B : Nat} {x y : Value} (h : Bx2 w g x y) (hb : Below B w w') (hg : g < B) : Bx2 w' g x y :=
  ⟨(hb.cell (p := ⟨g, 0, none⟩) hg).trans h.1, (hb.cell (p := ⟨g, 1, none⟩) hg).trans h.2⟩
theorem Bx2.kept {w w' : World} {g : Nat} {x y : Value} (h : Bx2 w g x y) (hb : Below w.heap.size w w') : Bx2 w' g x y := h.below hb (by
  by_cases hl : g < w.heap.size
  . exact hl
  . have e : w.heap[g]? = none := Array.getElem?_eq_none (by omega)
    have := h.1
    simp [World.cell?, e] at this)
theorem Bx2.lt {w : World} {g : Nat} {x y : Value} (h : Bx2 w g x y) : g < w.heap.size := by
  by_cases hl : g < w.heap.size
  . exact hl
  . have e : w.heap[g]? = none := Array.getElem?_eq_none (by omega)
    have := h.1
    simp [World.cell?, e] at this
theorem box2_kept {w w1 : World} {a b : Value} {t : TypeId} (hb : Below (w.heap.size + 1) (w.alloc (.cells #[a, b] t)) w1) :
    w1.heap[w.heap.size]? = some (.cells #[a, b] t (0, 0)) /\ w1.cell? ⟨w.heap.size, 0, none⟩ = some a /\ w1.cell? ⟨w.heap.size, 1, none⟩ = some b /\ w1.frozen? ⟨w.heap.size, 0, none⟩ = false /\ w1.frozen? ⟨w.heap.size, 1, none⟩ = false := by
  have h := (hb.block w.heap.size (Nat.lt_succ_self _)).trans (heap_alloc_new w _)
  exact ⟨h, (cell_of_row w1 _ 0 _ _ (0, 0) h).trans rfl, (cell_of_row w1 _ 1 _ _ (0, 0) h).trans rfl, frozen_of_row w1 _ 0 _ _ h, frozen_of_row w1 _ 1 _ _ h⟩
theorem put2 {w1 : World} {g : Nat} {x0 x1 k l : Value} (b0 : w1.cell? ⟨g, 0, none⟩ = some x0) (b1 : w1.cell? ⟨g, 1, none⟩ = some x1) :
    let W4 := (w1.setCell ⟨g, 0, none⟩ k).setCell ⟨g, 1, none⟩ l
    (W4.cell? ⟨g, 0, none⟩ = some k /\ W4.cell? ⟨g, 1, none⟩ = some l) /\ W4.heap.size = w1.heap.size /\ (∀ h, h ≠ g -> W4.heap[h]? = w1.heap[h]?) /\ ∀ B a, Below B a w1 -> B <= g -> Below B a W4 := by
  intro W4
  have ne : (⟨g, 0, none⟩ : Addr) ≠ ⟨g, 1, none⟩ := λ e => by injection e with _ e2; cases e2
  have d1 : (w1.setCell ⟨g, 0, none⟩ k).cell? ⟨g, 1, none⟩ = some x1 := (World.cell?_setCell_other _ _ _ _ ne).trans b1
  refine ⟨⟨(World.cell?_setCell_other _ _ _ _ ne.symm).trans (World.cell?_setCell_same _ _ _ b0), World.cell?_setCell_same _ _ _ d1⟩, by simp [W4, World.setCell], λ h hne => (Below.heap_setCell _ _ _ h hne).trans (Below.heap_setCell _ _ _ h hne), λ B a hb hg => (hb.setCell (p := ⟨g, 0, none⟩) hg k).setCell (p := ⟨g, 1, none⟩) hg l⟩
end Go.Proofs.YtiijlpmdnokjfaaDoor
namespace Go.Proofs.YtiijlpmdnokjfaaDoor
open Go.RowKit
structure Dx where
  acc : List Bool
  nxt : List (List Int)
def zeroD : Dx := ⟨[], []⟩
def DfaV (w : World) (S : Nat -> Prop) (va vn : Value) (d : Dx) : Prop := RowV w S va (bools d.acc) /\ RowVV w S vn (intss d.nxt)
theorem DfaV.mono {w w' : World} {S S' : Nat -> Prop} {va vn : Value} {d : Dx} (h : DfaV w S va vn d) (hs : ∀ g, S g -> w'.heap[g]? = w.heap[g]?) (hS : ∀ g, S g -> S' g) : DfaV w' S' va vn d := ⟨h.1.mono hs hS, h.2.mono hs hS⟩
theorem DfaV.kept {w w' : World} {S : Nat -> Prop} {va vn : Value} {d : Dx} (h : DfaV w S va vn d) (hb : Below w.heap.size w w') : DfaV w' S va vn d := ⟨h.1.kept hb, h.2.kept hb⟩
theorem DfaV.shape {w : World} {S : Nat -> Prop} {va vn : Value} {d : Dx} (h : DfaV w S va vn d) : (∃ A c, va = .slice A d.acc.length c) /\ ∃ A c, vn = .slice A d.nxt.length c := by
  obtain ⟨A, c, e⟩ := h.1.shape
  obtain ⟨A', c', e'⟩ := h.2.shape.2
  rw [bools_length] at e
  rw [intss_length] at e'
  exact ⟨⟨A, c, e⟩, A', c', e'⟩
def DfaO (w : World) (S : Nat -> Prop) (va vn : Value) (d : Dx) : Prop :=
  ∃ Sa Sn : Nat -> Prop, RowO w Sa va (bools d.acc) /\ RowOO w Sn vn (intss d.nxt) /\ (∀ g, Sa g -> S g /\ ¬ Sn g) /\ ∀ g, Sn g -> S g
theorem DfaO.dfa {w : World} {S : Nat -> Prop} {va vn : Value} {d : Dx} (h : DfaO w S va vn d) : DfaV w S va vn d := by
  obtain ⟨Sa, Sn, h1, h2, h3, h4⟩ := h
  exact ⟨h1.row.mono (λ _ _ => rfl) (λ g hg => (h3 g hg).1), h2.rows.mono (λ _ _ => rfl) h4⟩
theorem DfaO.mono {w w' : World} {S S' : Nat -> Prop} {va vn : Value} {d : Dx} (h : DfaO w S va vn d) (hs : ∀ g, S g -> w'.heap[g]? = w.heap[g]?) (hS : ∀ g, S g -> S' g) (hz : w.heap.size <= w'.heap.size) : DfaO w' S' va vn d := by
  obtain ⟨Sa, Sn, h1, h2, h3, h4⟩ := h
  exact ⟨Sa, Sn, h1.mono (λ g hg => hs g (h3 g hg).1) (λ _ h => h), h2.mono (λ g hg => hs g (h4 g hg)) (λ _ h => h) hz, λ g hg => ⟨hS g (h3 g hg).1, (h3 g hg).2⟩, λ g hg => hS g (h4 g hg)⟩
theorem DfaO.zero (w : World) (S : Nat -> Prop) : DfaO w S (.slice none 0 0) (.slice none 0 0) zeroD :=
  ⟨λ _ => False, λ _ => False, RowO.nil _ _ _ _, RowOO.nil _ _ _ _, λ _ h => h.elim, λ _ h => h.elim⟩
def CopyD (d : Dx) (w : World) (e : Ending) (w' : World) : Prop := ∃ va vn, e = .returned (.agg #[va, vn]) /\ DfaO w' (OwnB w w') va vn d /\ Below w.heap.size w w'
theorem CopyD.shape {d : Dx} {w w' : World} {e : Ending} (h : CopyD d w e w') : ∃ A c A' c', e = .returned (.agg #[.slice A d.acc.length c, .slice A' d.nxt.length c']) /\ DfaO w' (OwnB w w') (.slice A d.acc.length c) (.slice A' d.nxt.length c') d /\ Below w.heap.size w w' := by
  obtain ⟨va, vn, rfl, ho, hb⟩ := h
  obtain ⟨⟨A, c, rfl⟩, A', c', rfl⟩ := ho.dfa.shape
  exact ⟨A, c, A', c', rfl, ho, hb⟩
theorem three2 (w : World) (o1 : Obj) (x y : Value) (t : TypeId) : ((w.alloc o1).alloc (.cells #[x, y] t)).heap[w.heap.size + 1]? = some (.cells #[x, y] t (0, 0)) := by
  have h := heap_alloc_new (w.alloc o1) (.cells #[x, y] t)
  rw [World.size_alloc] at h
  exact h
end Go.Proofs.YtiijlpmdnokjfaaDoor
namespace Go.Proofs.YtiijlpmdnokjfaaDoor
open Go.RowKit
theorem DfaO.kept {w w' : World} {S : Nat -> Prop} {va vn : Value} {d : Dx} (h : DfaO w S va vn d) (hS : ∀ g, S g -> g < w.heap.size) (hb : Below w.heap.size w w') : DfaO w' S va vn d :=
  h.mono (λ g hg => hb.block g (hS g hg)) (λ _ h => h) hb.size
def CopyDB (d : Dx) (b : Bool) (w : World) (e : Ending) (w' : World) : Prop := ∃ va vn, e = .returned (.tuple #[.agg #[va, vn], .bool b]) /\ DfaO w' (OwnB w w') va vn d /\ Below w.heap.size w w'
theorem CopyDB.shape {d : Dx} {b : Bool} {w w' : World} {e : Ending} (h : CopyDB d b w e w') : ∃ A c A' c', e = .returned (.tuple #[.agg #[.slice A d.acc.length c, .slice A' d.nxt.length c'], .bool b]) /\ DfaO w' (OwnB w w') (.slice A d.acc.length c) (.slice A' d.nxt.length c') d /\ Below w.heap.size w w' := by
  obtain ⟨va, vn, rfl, ho, hb⟩ := h
  obtain ⟨⟨A, c, rfl⟩, A', c', rfl⟩ := ho.dfa.shape
  exact ⟨A, c, A', c', rfl, ho, hb⟩
theorem box2_facts {V : World} {b : Nat} {x y : Value} {T : TypeId} (h : V.heap[b]? = some (.cells #[x, y] T (0, 0))) :
    V.cell? ⟨b, 0, none⟩ = some x /\ V.cell? ⟨b, 1, none⟩ = some y /\ V.frozen? ⟨b, 0, none⟩ = false /\ V.frozen? ⟨b, 1, none⟩ = false :=
  ⟨(cell_of_row V _ 0 _ _ (0, 0) h).trans rfl, (cell_of_row V _ 1 _ _ (0, 0) h).trans rfl, frozen_of_row V _ 0 _ _ h, frozen_of_row V _ 1 _ _ h⟩
theorem blk_lt {V : World} {b : Nat} {o : Obj} (h : V.heap[b]? = some o) : b < V.heap.size := (Array.getElem?_eq_some_iff.1 h).1
end Go.Proofs.YtiijlpmdnokjfaaDoor
namespace Go.Proofs.YtiijlpmdnokjfaaDoor
open Go.RowKit
theorem l1In_any (x lo hi : Int) (w : World) : Calls Tryd.prog 41 #[.int .i64 x, .int .i64 lo, .int .i64 hi] w λ e w' => e = .returned (.bool (decide (lo <= x) && decide (x <= hi))) /\ w = w' := by
  by_cases h1 : lo <= x
  . by_cases h2 : x <= hi
    . go_enter Tryd.func41, Tryd.ntmps41
      go_wp2
      go_ret
      exact ⟨by simp [h1, h2], rfl⟩
    . go_enter Tryd.func41, Tryd.ntmps41
      go_wp2
      go_ret
      exact ⟨by simp [h2], rfl⟩
  . have h1' : decide (lo <= x) = false := by simpa using h1
    go_enter Tryd.func41, Tryd.ntmps41
    go_wp2
    go_ret
    exact ⟨by simp, rfl⟩
theorem l1In_yes (x lo hi : Int) (w : World) (h : lo <= x /\ x <= hi) : Calls Tryd.prog 41 #[.int .i64 x, .int .i64 lo, .int .i64 hi] w λ e w' => e = .returned (.bool true) /\ w = w' :=
  (l1In_any x lo hi w).mono λ _ _ ⟨he, hw⟩ => ⟨by rw [he]; simp [h.1, h.2], hw⟩
theorem l1In_no (x lo hi : Int) (w : World) (h : ¬ (lo <= x /\ x <= hi)) : Calls Tryd.prog 41 #[.int .i64 x, .int .i64 lo, .int .i64 hi] w λ e w' => e = .returned (.bool false) /\ w = w' :=
  (l1In_any x lo hi w).mono λ _ _ ⟨he, hw⟩ => ⟨by rw [he]; congr 2; simpa using h, hw⟩
def validD (d : Dx) : Bool := validF d.acc d.nxt
theorem getD_at {α : Type} {l : List α} {x : α} {j : Nat} (hj : j < l.length) : l.getD j x = l[j] := by rw [List.getD_eq_getElem?_getD, List.getElem?_eq_getElem hj]; rfl
theorem validD_no {d : Dx} {j : Nat} (hj : j < d.nxt.length) (h : rowOk d.acc.length (d.nxt.getD j []) = false) : validD d = false := by
  rw [getD_at hj] at h
  have : d.nxt.all (rowOk d.acc.length) = false := by
    rw [Bool.eq_false_iff]
    intro ht
    have := List.all_eq_true.1 ht _ (List.getElem_mem hj)
    rw [h] at this
    cases this
  simp [validD, validF, this]
theorem validD_yes {d : Dx} (h1 : 1 <= d.acc.length) (h2 : d.acc.length <= 40) (h3 : d.nxt.length = d.acc.length) (h : ∀ j, j < d.nxt.length -> rowOk d.acc.length (d.nxt.getD j []) = true) : validD d = true := by
  have : d.nxt.all (rowOk d.acc.length) = true := by
    rw [List.all_eq_true]
    intro r hr
    obtain ⟨j, hj, rfl⟩ := List.getElem_of_mem hr
    have := h j hj
    rwa [getD_at hj] at this
  simp [validD, validF, this, h1, h2, h3]
theorem rowOk_no {n : Nat} {r : List Int} (h : r.length ≠ 3) : rowOk n r = false := by simp [rowOk, h]
theorem rowOk_bad {n : Nat} {r : List Int} {k : Nat} (hk : k < r.length) (h : ¬ (0 <= r.getD k 0 /\ r.getD k 0 <= (n : Int) - 1)) : rowOk n r = false := by
  rw [getD_at hk] at h
  have : (r.all λ x => decide (0 <= x) && decide (x <= (n : Int) - 1)) = false := by
    rw [Bool.eq_false_iff]
    intro ht
    have := List.all_eq_true.1 ht _ (List.getElem_mem hk)
    simp at this
    exact h this
  simp only [rowOk, this, Bool.and_false]
theorem rowOk_yes {n : Nat} {r : List Int} (h : r.length = 3) (h' : ∀ k, k < r.length -> 0 <= r.getD k 0 /\ r.getD k 0 <= (n : Int) - 1) : rowOk n r = true := by
  simp only [rowOk, h, decide_true, Bool.true_and, List.all_eq_true, Bool.and_eq_true, decide_eq_true_eq]
  intro x hx
  obtain ⟨k, hk, rfl⟩ := List.getElem_of_mem hx
  have := h' k hk
  rwa [getD_at hk] at this
theorem specValidD_any (va vn : Value) (d : Dx) (S : Nat -> Prop) (w : World) (h : DfaV w S va vn d) :
    Calls Tryd.prog 13 #[.agg #[va, vn]] w λ e w' => e = .returned (.bool (validD d)) /\ Below w.heap.size w w' := by
  obtain ⟨⟨A, c, rfl⟩, A', c', rfl⟩ := h.shape
  obtain ⟨W0, hW0⟩ : ∃ W0, W0 = w.alloc (.cells #[.slice A d.acc.length c, .slice A' d.nxt.length c'] 27) := ⟨_, rfl⟩
  have HB : Hid (Below w.heap.size w W0) := Lib.hid (by rw [hW0]; exact (Below.refl _ _).alloc (Nat.le_refl _) _)
  have hx := box2_kept (w := w) (w1 := W0) (a := .slice A d.acc.length c) (b := .slice A' d.nxt.length c') (t := 27) (by rw [hW0]; exact Below.refl _ _)
  obtain ⟨-, c0, c1, -, -⟩ := hx
  have HE := Lib.hid (h.2.kept (w' := W0) (by rw [hW0]; exact (Below.refl _ _).alloc (Nat.le_refl _) _))
  have hln := h.1.1
  rw [bools_length] at hln
  clear h
  obtain ⟨n, hn⟩ : ∃ n, n = d.acc.length := ⟨_, rfl⟩
  obtain ⟨m, hm⟩ : ∃ m, m = d.nxt.length := ⟨_, rfl⟩
  obtain ⟨R, hR⟩ : ∃ R : Nat -> List Int, R = λ j => d.nxt.getD j [] := ⟨_, rfl⟩
  have HNo : Hid (∀ j, j < m -> rowOk n (R j) = false -> validD d = false) := Lib.hid (λ j hj h => validD_no (j := j) (by rw [<- hm]; exact hj) (by rw [<- hn]; rw [hR] at h; exact h))
  have HYes : Hid (1 <= n -> n <= 40 -> m <= n -> n <= m -> (∀ j, j < m -> rowOk n (R j) = true) -> validD d = true) := Lib.hid (λ h1 h2 h3 h4 h => validD_yes (by omega) (by omega) (by omega) (λ j hj => by rw [<- hn]; have := h j (by omega); rw [hR] at this; exact this))
  have HAt : Hid (∀ j, j < m -> ∃ ad u, A' = some ad /\ S ad.block /\ W0.cell? (ad.add j) = some u /\ RowV W0 S u (ints (R j))) := Lib.hid (λ j hj => by rw [hR]; exact HE.out.atD (j := j) (by rw [<- hm]; exact hj))
  rw [<- hn] at hW0 c0 hln
  rw [<- hm] at hW0 c1
  rw [<- hn, <- hm]
  have HV1 : Hid (¬ (1 <= n /\ n <= 40) -> validD d = false) := Lib.hid (λ h => by
    have : ¬ (1 <= d.acc.length /\ d.acc.length <= 40) := by rw [<- hn]; exact h
    simp only [validD, validF]
    by_cases h1 : 1 <= d.acc.length
    . have h2 : decide (d.acc.length <= 40) = false := decide_eq_false (by omega)
      simp [h2]
    . have h2 : decide (1 <= d.acc.length) = false := decide_eq_false (by omega)
      simp [h2])
  have HV2 : Hid (m ≠ n -> validD d = false) := Lib.hid (λ h => by
    have h2 : decide (d.nxt.length = d.acc.length) = false := decide_eq_false (by omega)
    simp [validD, validF, h2])
  obtain ⟨vd, hvd⟩ : ∃ vd, vd = validD d := ⟨_, rfl⟩
  rw [<- hvd] at HNo HYes HV1 HV2 ⊢
  clear hn hm hR hvd HE
  go_enter Tryd.func13, Tryd.ntmps13
  by_cases h1 : 1 <= n /\ n <= 40
  . have HI := Lib.hid (l1In_yes (n : Int) 1 40 W0 (by omega))
    go_wp2_with fail
    rw [<- hW0]
    go_at_call 41
    refine HI.out.mono ?_
    rintro e w1 ⟨rfl, rfl⟩
    clear hW0
    by_cases h2 : m = n
    . subst h2
      have hne : ((m : Int) != (m : Int)) = false := by simp
      go_wp2_with fail
      clear hne
      go_loopw [4] (λ i wr => ∃ q : Nat, i = .int .i64 q /\ q <= m /\ wr = W0 /\ ∀ j, j < q -> rowOk m (R j) = true) (λ i _ => m - (intOf i).toNat)
      case atStart => exact ⟨0, rfl, Nat.zero_le _, rfl, λ j hj => absurd hj (Nat.not_lt_zero _)⟩
      case round =>
        obtain ⟨q, rfl, hq, rfl, hall⟩ := hrel
        have HAll := Lib.hid hall
        clear hall
        by_cases hlt : q < m
        . obtain ⟨ad, u, rfl, -, hc, hr⟩ := HAt.out q hlt
          obtain ⟨hrl, Ar, cr, rfl⟩ := hr.ints_shape
          have HR := Lib.hid hr
          obtain ⟨r, hr⟩ : ∃ r, r = R q := ⟨_, rfl⟩
          rw [<- hr] at HR hc hrl
          have HRe := Lib.hid hr
          clear hr
          by_cases h3 : r.length = 3
          . have h3i : ((r.length : Int) != 3) = false := by simp; omega
            have H3 := Lib.hid h3
            clear h3
            go_wp2_with fail
            clear h3i
            go_loopw [5] (λ i wr' => ∃ k : Nat, i = .int .i64 k /\ k <= r.length /\ wr' = wr /\ ∀ j, j < k -> 0 <= r.getD j 0 /\ r.getD j 0 <= (m : Int) - 1) (λ i _ => r.length - (intOf i).toNat)
            case atStart => exact ⟨0, rfl, Nat.zero_le _, rfl, λ j hj => absurd hj (Nat.not_lt_zero _)⟩
            case round =>
              obtain ⟨k, rfl, hk, rfl, hall⟩ := hrel
              have HAl2 := Lib.hid hall
              clear hall
              by_cases hlk : k < r.length
              . obtain ⟨ad2, rfl, -, hc2⟩ := HR.out.intD hlk
                obtain ⟨x, hx⟩ : ∃ x, x = r.getD k 0 := ⟨_, rfl⟩
                rw [<- hx] at hc2
                by_cases hin : 0 <= x /\ x <= (m : Int) - 1
                . have HI2 := Lib.hid (λ w => l1In_yes x 0 ((m : Int) - 1) w hin)
                  have HX : Hid (0 <= r.getD k 0 /\ r.getD k 0 <= (m : Int) - 1) := Lib.hid (by rw [<- hx]; exact hin)
                  clear hx hin
                  go_wp2_with fail
                  go_at_call 41
                  refine (HI2.out _).mono ?_
                  rintro e w2 ⟨rfl, rfl⟩
                  go_wp2_with fail
                  go_roundw
                  case rel => exact ⟨k + 1, by go_num, by omega, by first | rfl | trivial, λ j hj => by
                    by_cases e : j = k
                    . rw [e]; exact HX.out
                    . exact HAl2.out j (by omega)⟩
                  case measure => simp [intOf]; omega
                . have HI2 := Lib.hid (λ w => l1In_no x 0 ((m : Int) - 1) w hin)
                  have HF : Hid (vd = false) := Lib.hid (HNo.out q hlt (rowOk_bad (k := k) (by rw [<- HRe.out]; exact hlk) (by rw [<- HRe.out, <- hx]; exact hin)))
                  clear hx hin
                  go_wp2_with fail
                  go_at_call 41
                  refine (HI2.out _).mono ?_
                  rintro e w2 ⟨rfl, rfl⟩
                  go_wp2_with fail
                  go_ret
                  exact ⟨congrArg (λ b : Bool => Ending.returned (.bool b)) HF.out.symm, HB.out⟩
              . have hd : decide ((k : Int) < (r.length : Int)) = false := by simp; omega
                have HOk : Hid (rowOk m (R q) = true) := Lib.hid (by rw [<- HRe.out]; exact rowOk_yes H3.out (λ j hj => HAl2.out j (by omega)))
                go_wp2_with fail
                go_roundw
                case rel => exact ⟨q + 1, by go_num, by omega, by first | rfl | trivial, λ j hj => by
                  by_cases e : j = q
                  . rw [e]; exact HOk.out
                  . exact HAll.out j (by omega)⟩
                case measure => simp [intOf]; omega
          . have h3i : ((r.length : Int) != 3) = true := by simp; omega
            have HF : Hid (vd = false) := Lib.hid (HNo.out q hlt (rowOk_no (by rw [<- HRe.out]; exact h3)))
            clear h3
            go_wp2_with fail
            go_ret
            exact ⟨congrArg (λ b : Bool => Ending.returned (.bool b)) HF.out.symm, HB.out⟩
        . obtain rfl : q = m := by omega
          have hd : decide ((q : Int) < (q : Int)) = false := by simp
          have HF : Hid (vd = true) := Lib.hid (HYes.out h1.1 h1.2 (Nat.le_refl _) (Nat.le_refl _) HAll.out)
          go_wp2_with fail
          go_ret
          exact ⟨congrArg (λ b : Bool => Ending.returned (.bool b)) HF.out.symm, HB.out⟩
    . have hne : ((m : Int) != (n : Int)) = true := by simp; omega
      have HF : Hid (vd = false) := Lib.hid (HV2.out h2)
      clear h2
      go_wp2_with fail
      go_ret
      exact ⟨congrArg (λ b : Bool => Ending.returned (.bool b)) HF.out.symm, HB.out⟩
  . have HI := Lib.hid (l1In_no (n : Int) 1 40 W0 (by omega))
    have HF : Hid (vd = false) := Lib.hid (HV1.out h1)
    clear h1
    go_wp2_with fail
    rw [<- hW0]
    go_at_call 41
    refine HI.out.mono ?_
    rintro e w1 ⟨rfl, rfl⟩
    clear hW0
    go_wp2_with fail
    go_ret
    exact ⟨congrArg (λ b : Bool => Ending.returned (.bool b)) HF.out.symm, HB.out⟩
end Go.Proofs.YtiijlpmdnokjfaaDoor
namespace Go.Proofs.YtiijlpmdnokjfaaDoor
open Go.RowKit
def findV (l : List Int) (x : Int) : Int := if x ∈ l then ((l.idxOf x : Nat) : Int) else -1
theorem findV_no {l : List Int} {x : Int} (h : ∀ j, j < l.length -> l.getD j 0 ≠ x) : findV l x = -1 := by
  unfold findV
  rw [if_neg]
  intro hx
  obtain ⟨j, hj, rfl⟩ := List.getElem_of_mem hx
  exact h j hj (getD_at hj)
theorem findV_at {l : List Int} {x : Int} {j : Nat} (hj : j < l.length) (h : l.getD j 0 = x) (hlt : ∀ i, i < j -> l.getD i 0 ≠ x) : findV l x = (j : Int) := by
  rw [getD_at hj] at h
  unfold findV
  have hm : x ∈ l := by rw [<- h]; exact List.getElem_mem hj
  rw [if_pos hm]
  have h1 := List.idxOf_lt_length_of_mem hm
  have h2 : l[l.idxOf x] = x := List.getElem_idxOf h1
  have h3 : l.idxOf x <= j := by
    apply Classical.byContradiction
    intro hn
    have : l.take (j + 1) ++ l.drop (j + 1) = l := List.take_append_drop _ _
    have hmem : x ∈ l.take (j + 1) := by
      rw [<- h]
      exact List.mem_take_iff_getElem.2 ⟨j, by omega, rfl⟩
    have h4 : l.idxOf x = (l.take (j + 1)).idxOf x := by
      conv => lhs; rw [<- this]
      rw [List.idxOf_append, if_pos hmem]
    have h5 := List.idxOf_lt_length_of_mem hmem
    rw [List.length_take] at h5
    omega
  rcases Nat.lt_or_eq_of_le h3 with hl | he
  . have := hlt _ hl
    rw [getD_at h1] at this
    exact absurd h2 this
  . rw [he]
def fieldsOf (a : Au) : Dx := ⟨accOf a, nxtOf a⟩
theorem DfaV.cells {w : World} {S : Nat -> Prop} {va vn : Value} {a : Au} (h : DfaV w S va vn (fieldsOf a)) (hp : 0 < a.n) :
    ∃ ad c ad' c', va = .slice (some ad) a.n c /\ vn = .slice (some ad') a.n c' /\ a.n <= 9223372036854775807 /\
      (∀ q, q < a.n -> w.cell? (ad.add q) = some (.bool (a.A q))) /\ ∀ q, q < a.n -> ∃ ad2 c2, w.cell? (ad'.add q) = some (.slice (some ad2) 3 c2) /\ ∀ k, k < 3 -> w.cell? (ad2.add k) = some (.int .i64 ((a.T q k : Nat) : Int)) := by
  have hl := h.1.1
  rw [bools_length] at hl
  obtain ⟨⟨A, c, rfl⟩, A', c', rfl⟩ := h.shape
  have e1 : (fieldsOf a).acc.length = a.n := accOf_length a
  have e2 : (fieldsOf a).nxt.length = a.n := nxtOf_length a
  obtain ⟨ad, rfl, -, -⟩ := h.1.boolD (j := 0) (by rw [e1]; exact hp)
  obtain ⟨ad', -, rfl, -, -, -⟩ := h.2.atD (j := 0) (by rw [e2]; exact hp)
  refine ⟨ad, c, ad', c', by rw [e1], by rw [e2], by rw [<- e1]; exact hl, λ q hq => ?_, λ q hq => ?_⟩
  . obtain ⟨ad0, e, -, hc⟩ := h.1.boolD (j := q) (by rw [e1]; exact hq)
    cases e
    rw [hc]
    simp [fieldsOf, List.getD_eq_getElem?_getD, accOf_at a hq]
  . obtain ⟨ad0, u, e, -, hc, hr⟩ := h.2.atD (j := q) (by rw [e2]; exact hq)
    cases e
    have hrow : (fieldsOf a).nxt.getD q [] = (List.range 3).map λ k => (a.T q k : Int) := by
      simp [fieldsOf, List.getD_eq_getElem?_getD, nxtOf_at a hq]
    rw [hrow] at hr
    obtain ⟨-, A2, c2, rfl⟩ := hr.ints_shape
    simp only [List.length_map, List.length_range] at hr hc
    obtain ⟨ad2, rfl, -, -⟩ := hr.intD (j := 0) (by simp)
    refine ⟨ad2, c2, hc, λ k hk => ?_⟩
    obtain ⟨ad3, e, -, hc3⟩ := hr.intD (j := k) (by simpa using hk)
    cases e
    rw [hc3]
    simp [List.getD_eq_getElem?_getD, hk]
def clsRow (n : Nat) (c : Nat -> Nat) : List Int := (List.range n).map λ q => (c q : Int)
theorem clsRow_length (n : Nat) (c : Nat -> Nat) : (clsRow n c).length = n := by simp [clsRow]
theorem RowV.cls {w : World} {S : Nat -> Prop} {v : Value} {n : Nat} {c : Nat -> Nat} (h : RowV w S v (ints (clsRow n c))) (hn : 0 < n) : ∃ ad m, v = .slice (some ad) n m /\ ∀ q, q < n -> w.cell? (ad.add q) = some (.int .i64 (c q : Int)) := by
  obtain ⟨-, A, m, rfl⟩ := h.ints_shape
  obtain ⟨ad, rfl, -, -⟩ := h.intD (j := 0) (by rw [clsRow_length]; exact hn)
  refine ⟨ad, m, by rw [clsRow_length], λ q hq => ?_⟩
  obtain ⟨ad2, e, -, hc⟩ := h.intD (j := q) (by rw [clsRow_length]; exact hq)
  cases e
  rw [hc]
  simp [clsRow, List.getD_eq_getElem?_getD, hq]
def sameK (a : Au) (c : Nat -> Nat) (p q : Nat) (j : Nat) : Bool := decide (c p = c q) && ((List.range j).all λ k => decide (c (a.T p k) = c (a.T q k)))
theorem sameK_zero (a : Au) (c : Nat -> Nat) (p q : Nat) : sameK a c p q 0 = decide (c p = c q) := by simp [sameK]
theorem sameK_succ (a : Au) (c : Nat -> Nat) (p q j : Nat) : sameK a c p q (j + 1) = (sameK a c p q j && decide (c (a.T p j) = c (a.T q j))) := by simp [sameK, List.range_succ, List.all_append, Bool.and_assoc]
theorem eq_cast (x y : Nat) : ((x : Int) == (y : Int)) = decide (x = y) := by
  rw [Bool.eq_iff_iff]
  simp
  omega
end Go.Proofs.YtiijlpmdnokjfaaDoor
namespace Go.Proofs.YtiijlpmdnokjfaaDoor
open Go.RowKit
def clsV (a : Au) (r : Nat) : Nat -> Value := λ q => .int .i64 ((cls a r q : Nat) : Int)
theorem ints_cls (a : Au) (r n : Nat) : ints (clsRow n (cls a r)) = (List.range n).map (clsV a r) := by simp [ints, clsRow, clsV, Function.comp_def]
theorem made_ints (n : Nat) : (madeCells (Value.cells (.int .i64 0)) (n * 1)).toList = List.replicate n (.int .i64 0) := by
  unfold madeCells
  apply List.ext_getElem
  . simp
  . intro i h1 h2
    simp
    simp [Value.cells, Nat.mod_one]
theorem made_row_o {w w1 : World} {n : Nat} {T : TypeId} (hown : w1.ownsRow w.heap.size T 1 (.slice (some ⟨w.heap.size, 0, none⟩) n n) n (madeCells (Value.cells (.int .i64 0)) (n * 1)).toList) (hgr : w.grownBy w1 none) (hn : n <= 9223372036854775807) (f : Nat -> Value) :
    RowO w1 (λ g => g = w.heap.size) (.slice (some ⟨w.heap.size, 0, none⟩) n n) ((List.range 0).map f ++ (List.replicate n (.int .i64 0 : Value)).drop 0) /\ Below w.heap.size w w1 /\ w.heap.size < w1.heap.size := by
  have hlt : w.heap.size < w1.heap.size := by
    rcases hown.2 with ⟨e, _⟩ | ⟨g, cap, cur, e, _, hh, _⟩
    . cases e
    . cases e
      exact (Array.getElem?_eq_some_iff.1 hh).1
  refine ⟨?_, ⟨hgr.os, hgr.tape, hgr.output, hgr.size, λ k hk => hgr.block k hk (λ e => by cases e)⟩, hlt⟩
  have h1 := RowO.of_owns hown hn
  rw [made_ints] at h1
  exact h1.mono (λ _ _ => rfl) (λ g hg => by simp [Value.ownBlock] at hg; exact hg.symm)
theorem set_zero (f : Nat -> Value) (n j : Nat) (hj : j < n) : ((List.range j).map f ++ (List.replicate n (.int .i64 0 : Value)).drop j).set j (f j) = (List.range (j + 1)).map f ++ (List.replicate n (.int .i64 0 : Value)).drop (j + 1) := set_step f _ j (by simpa using hj)
theorem zero_step (f : Nat -> Value) (n j : Nat) (hj : j < n) (h : f j = .int .i64 0) : (List.range j).map f ++ (List.replicate n (.int .i64 0 : Value)).drop j = (List.range (j + 1)).map f ++ (List.replicate n (.int .i64 0 : Value)).drop (j + 1) := by
  have e := List.drop_eq_getElem_cons (l := List.replicate n (.int .i64 0 : Value)) (i := j) (by simpa using hj)
  rw [e, List.range_succ, List.map_append, List.append_assoc]
  simp [h]
theorem zero_all (f : Nat -> Value) (n : Nat) : (List.range n).map f ++ (List.replicate n (.int .i64 0 : Value)).drop n = (List.range n).map f := by
  rw [List.drop_eq_nil_of_le (by simp), List.append_nil]
end Go.Proofs.YtiijlpmdnokjfaaDoor
namespace Go.Proofs.YtiijlpmdnokjfaaDoor
open Go.RowKit
def strs (ps : List (List UInt8)) : List Value := ps.map λ p => .string ⟨p.toArray⟩
theorem strs_append (a b : List (List UInt8)) : strs (a ++ b) = strs a ++ strs b := by simp [strs]
theorem strs_length (a : List (List UInt8)) : (strs a).length = a.length := by simp [strs]
theorem strInfo : (Tryd.prog.info? 9).map (λ i => (i.zero, i.size, i.bytes)) = some (some (.string ⟨#[]⟩), 1, 16) := by kernel_rfl
def SplPost (ps : List (List UInt8)) (w : World) (e : Ending) (w' : World) : Prop :=
  ∃ v, e = .returned v /\ w'.ownsRow w.heap.size 9 1 v ps.length (strs ps) /\ Below w.heap.size w w'
theorem own_cases {w : World} {B : Nat} {v : Value} {n : Nat} {xs : List Value} (h : w.ownsRow B 9 1 v n xs) :
    (n = 0 /\ ∃ A c, v = .slice A 0 c) \/ ∃ g c, v = .slice (some ⟨g, 0, none⟩) n c := by
  rcases h.2 with ⟨rfl, h0⟩ | ⟨g, cap, cur, rfl, _⟩
  . exact .inl ⟨h0, none, 0, rfl⟩
  . exact .inr ⟨g, cap, rfl⟩
theorem own_lower {w : World} {B B' n : Nat} {e : TypeId} {size : Nat} {v : Value} {xs : List Value} (h : w.ownsRow B e size v n xs) (hB : B' <= B) : w.ownsRow B' e size v n xs := by
  refine ⟨h.1, ?_⟩
  rcases h.2 with h0 | ⟨g, cap, cur, h1, h2, h3⟩
  . exact .inl h0
  . exact .inr ⟨g, cap, cur, h1, Nat.le_trans hB h2, h3⟩
theorem grown_of_below {w w' : World} (h : Below w.heap.size w w') (row : Option Nat) : w.grownBy w' row := ⟨h.os, h.tape, h.output, h.size, λ k hk _ => h.block k hk⟩
theorem owns_below {w w' : World} {B : Nat} {e : TypeId} {size n : Nat} {v : Value} {xs : List Value} (h : w.ownsRow B e size v n xs) (hb : Below w.heap.size w w') : w'.ownsRow B e size v n xs :=
  h.kept (grown_of_below hb none) (by cases hv : v.ownBlock <;> simp)
end Go.Proofs.YtiijlpmdnokjfaaDoor
namespace Go.Proofs.YtiijlpmdnokjfaaDoor
def letters : List UInt8 := [97, 98, 99]
def wordsOf : Nat -> List (List UInt8)
  | 0 => [[]]
  | n + 1 => (wordsOf n).flatMap λ w => letters.map λ b => w ++ [b]
def wordsTo : Nat -> List (List UInt8)
  | 0 => wordsOf 0
  | n + 1 => wordsTo n ++ wordsOf (n + 1)
def isLetter (b : UInt8) : Bool := decide (97 <= b.toNat) && decide (b.toNat <= 99)
def isW (l : List UInt8) : Bool := l.all isLetter && decide (l.length <= 30)
def bump : List UInt8 -> Option (List UInt8)
  | [] => none
  | b :: r => if b.toNat < 99 then some (UInt8.ofNat (b.toNat + 1) :: r) else (bump r).map (97 :: ·)
def nextW (l : List UInt8) : List UInt8 :=
  if isW l then
    match bump l.reverse with
    | some r => r.reverse
    | none => if l.length + 1 <= 30 then List.replicate (l.length + 1) 97 else []
  else []
theorem wordsOf_length : ∀ n, (wordsOf n).length = 3 ^ n
  | 0 => rfl
  | n + 1 => by
    unfold wordsOf
    rw [List.length_flatMap]
    simp [letters, Nat.pow_succ, List.map_const', wordsOf_length n]
end Go.Proofs.YtiijlpmdnokjfaaDoor
namespace Go.Proofs.YtiijlpmdnokjfaaDoor
open Go.RowKit
def letIdx (b : UInt8) : Int := if b = 97 then 0 else if b = 98 then 1 else if b = 99 then 2 else -1
theorem letIdx_lib (b : UInt8) : Lib.indexByte [97, 98, 99] b = letIdx b := by
  unfold letIdx
  by_cases h0 : b = 97
  . subst h0; rfl
  . by_cases h1 : b = 98
    . subst h1; rfl
    . by_cases h2 : b = 99
      . subst h2; rfl
      . rw [if_neg h0, if_neg h1, if_neg h2]
        have e0 : ¬ (97 = b) := λ e => h0 e.symm
        have e1 : ¬ (98 = b) := λ e => h1 e.symm
        have e2 : ¬ (99 = b) := λ e => h2 e.symm
        simp [Lib.indexByte, e0, e1, e2]
theorem letIdx_yes {b : UInt8} (h : isLetter b = true) : letIdx b = (b.toNat : Int) - 97 /\ 97 <= b.toNat /\ b.toNat <= 99 := by
  simp only [isLetter, Bool.and_eq_true, decide_eq_true_eq] at h
  refine ⟨?_, h.1, h.2⟩
  unfold letIdx
  by_cases h0 : b = 97
  . rw [if_pos h0, h0]; rfl
  . by_cases h1 : b = 98
    . rw [if_neg h0, if_pos h1, h1]; rfl
    . have h2 : b = 99 := by
        have n0 : b.toNat ≠ 97 := λ e => h0 (UInt8.toNat_inj.1 e)
        have n1 : b.toNat ≠ 98 := λ e => h1 (UInt8.toNat_inj.1 e)
        exact UInt8.toNat_inj.1 (show b.toNat = 99 by omega)
      rw [if_neg h0, if_neg h1, if_pos h2, h2]; rfl
theorem letIdx_no {b : UInt8} (h : isLetter b = false) : letIdx b = -1 := by
  have n : b.toNat ≠ 97 /\ b.toNat ≠ 98 /\ b.toNat ≠ 99 := by
    refine ⟨λ e => ?_, λ e => ?_, λ e => ?_⟩ <;> simp [isLetter, e] at h
  unfold letIdx
  rw [if_neg (λ e => n.1 (by rw [e]; rfl)), if_neg (λ e => n.2.1 (by rw [e]; rfl)), if_neg (λ e => n.2.2 (by rw [e]; rfl))]
theorem all_take_succ (s : ByteArray) (k : Nat) (h : k < s.size) : (s.data.toList.take (k + 1)).all isLetter = ((s.data.toList.take k).all isLetter && isLetter s[k]) := by
  rw [List.take_succ_eq_append_getElem (by simpa using h), List.all_append]
  simp
  rfl
theorem isW_bad {s : ByteArray} {k : Nat} (h : k < s.size) (hb : isLetter s[k] = false) : isW s.data.toList = false := by
  have : s.data.toList.all isLetter = false := by
    rw [List.all_eq_false]
    exact ⟨s[k], List.mem_iff_getElem.2 ⟨k, by simpa using h, rfl⟩, by simp [hb]⟩
  simp [isW, this]
theorem isW_all {s : ByteArray} (h : (s.data.toList.take s.size).all isLetter = true) : isW s.data.toList = decide ((s.size : Int) <= 30) := by
  have e : s.data.toList.take s.size = s.data.toList := List.take_of_length_le (by simp)
  rw [e] at h
  unfold isW
  rw [h, Bool.true_and]
  simp
  omega
theorem isW_long {s : ByteArray} (h : 30 < s.size) : isW s.data.toList = false := by
  unfold isW
  rw [Bool.and_eq_false_iff]
  right
  simp
  omega
def auD (d : Dx) : Au := auOf d.acc d.nxt
def idxN (b : UInt8) : Nat := (letIdx b).toNat
def idxs (s : List UInt8) : List Nat := s.map idxN
theorem idxs_W3 {s : List UInt8} (h : s.all isLetter = true) : W3 (idxs s) := λ k hk => by
  obtain ⟨b, hb, rfl⟩ := List.mem_map.1 hk
  have := letIdx_yes (List.all_eq_true.1 h b hb)
  unfold idxN
  omega
theorem run_snoc (a : Au) (q : Nat) (u : List Nat) (k : Nat) : a.run q (u ++ [k]) = a.T (a.run q u) k := by rw [Au.run_append]; rfl
def runOk (d : Dx) (q : Int) (s : List UInt8) : Bool := validD d && decide (0 <= q) && decide (q <= (d.acc.length : Int) - 1) && isW s
def runV (d : Dx) (q : Int) (s : List UInt8) : Int := if runOk d q s then (((auD d).run q.toNat (idxs s) : Nat) : Int) else 0
def accR (d : Dx) (s : List UInt8) : Bool := runOk d 0 s && (auD d).A ((auD d).run 0 (idxs s))
theorem DfaV.au {w : World} {S : Nat -> Prop} {va vn : Value} {d : Dx} (h : DfaV w S va vn d) (hv : validD d = true) :
    (auD d).wf /\ (auD d).n <= 40 /\ (auD d).n = d.acc.length /\ d.nxt.length = d.acc.length /\ ∃ ad c ad' c', va = .slice (some ad) d.acc.length c /\ vn = .slice (some ad') d.acc.length c' /\
      (∀ q, q < d.acc.length -> w.cell? (ad.add q) = some (.bool ((auD d).A q))) /\ ∀ q, q < d.acc.length -> ∃ ad2 c2, w.cell? (ad'.add q) = some (.slice (some ad2) 3 c2) /\ ∀ k, k < 3 -> w.cell? (ad2.add k) = some (.int .i64 (((auD d).T q k : Nat) : Int)) := by
  obtain ⟨hw, hn, ha, hx⟩ := of_validF hv
  obtain ⟨⟨A, c, rfl⟩, A', c', rfl⟩ := h.shape
  have hpos : 0 < d.acc.length := hw.1
  have hl : d.nxt.length = d.acc.length := by rw [hx, nxtOf_length]; rfl
  obtain ⟨ad, rfl, -, -⟩ := h.1.boolD hpos
  obtain ⟨ad', -, rfl, -, -, -⟩ := h.2.atD (by rw [hl]; exact hpos)
  refine ⟨hw, hn, rfl, hl, ad, c, ad', c', rfl, by rw [hl], λ q hq => ?_, λ q hq => ?_⟩
  . obtain ⟨ad0, e, -, hc⟩ := h.1.boolD hq
    cases e
    exact hc
  . obtain ⟨ad0, u, e, -, hc, hr⟩ := h.2.atD (j := q) (by rw [hl]; exact hq)
    cases e
    have hrow : d.nxt.getD q [] = (List.range 3).map λ k => ((auD d).T q k : Int) := by
      have := nxtOf_at (auD d) (show q < (auD d).n from hq)
      rw [show nxtOf (auD d) = d.nxt from hx.symm] at this
      rw [List.getD_eq_getElem?_getD, this]
      rfl
    rw [hrow] at hr
    obtain ⟨-, A2, c2, rfl⟩ := hr.ints_shape
    simp only [List.length_map, List.length_range] at hr hc
    obtain ⟨ad2, rfl, -, -⟩ := hr.intD (j := 0) (by simp)
    refine ⟨ad2, c2, hc, λ k hk => ?_⟩
    obtain ⟨ad3, e, -, hc3⟩ := hr.intD (j := k) (by simpa using hk)
    cases e
    rw [hc3]
    simp [List.getD_eq_getElem?_getD, hk]
end Go.Proofs.YtiijlpmdnokjfaaDoor
namespace Go.Proofs.YtiijlpmdnokjfaaDoor
open Go.RowKit
def minR (d y : Dx) : Prop := if validD d = true then ∃ m, Canon m /\ Eqv m 0 (auD d) 0 /\ y = fieldsOf m else y = ⟨[], []⟩
theorem fieldsOf_au {d : Dx} (h : validD d = true) : (auD d).wf /\ (auD d).n <= 40 /\ d = fieldsOf (auD d) := by
  obtain ⟨h1, h2, h3, h4⟩ := of_validF h
  refine ⟨h1, h2, ?_⟩
  cases d
  simp only [fieldsOf, auD] at *
  rw [<- h3, <- h4]
theorem minR_some (d : Dx) : ∃ y, minR d y := by
  unfold minR
  by_cases h : validD d = true
  . simp only [h, if_true]
    obtain ⟨m, h1, h2, _⟩ := exists_min (fieldsOf_au h).1
    exact ⟨_, m, h1, h2, rfl⟩
  . simp only [h]
    exact ⟨_, rfl⟩
theorem Eqv.swap {a b c : Au} {p q r : Nat} (h : Eqv a p c r) (h' : Eqv b q c r) : Eqv a p b q := λ w hw => (h w hw).trans (h' w hw).symm
theorem fields_one {m m' : Au} (h : Canon m) (h' : Canon m') (he : Eqv m 0 m' 0) : fieldsOf m = fieldsOf m' := by
  obtain ⟨h1, h2⟩ := min_fields h h' he
  unfold fieldsOf
  rw [h1, h2]
theorem RowO.empty (w : World) (S : Nat -> Prop) : RowO w S (.slice none 0 0) [] :=
  (RowO.of_owns (base := 0) (e := 3) (n := 0) (xs := []) (v := .slice none 0 0) ⟨rfl, .inl ⟨rfl, rfl⟩⟩ (by omega)).mono (λ _ _ => rfl) (λ g hg => by simp [Value.ownBlock] at hg)
theorem DfaO.empty (w : World) (S : Nat -> Prop) : DfaO w S (.slice none 0 0) (.slice none 0 0) ⟨[], []⟩ :=
  ⟨λ _ => False, λ _ => False, RowO.empty w _, ⟨[], λ _ => False, λ _ _ => False, RowO.empty w _, RowsP.nil _ _, λ _ h => h.elim⟩, λ _ h => h.elim, λ _ h => h.elim⟩
def comD (y : Dx) : Dx := ⟨y.acc.map (!·), y.nxt⟩
def turned (l : List Bool) (i : Nat) : List Bool := (l.take i).map (!·) ++ l.drop i
theorem turned_length (l : List Bool) (i : Nat) : (turned l i).length = l.length := by
  simp [turned]
  omega
theorem turned_at {l : List Bool} {i : Nat} (hi : i < l.length) : (turned l i).getD i false = l.getD i false := by
  have h1 : ((l.take i).map (!·)).length = i := by simp; omega
  rw [turned, List.getD_eq_getElem?_getD, List.getElem?_append_right (by omega), h1, Nat.sub_self, List.getElem?_drop, List.getD_eq_getElem?_getD, Nat.add_zero]
theorem turned_step {l : List Bool} {i : Nat} (hi : i < l.length) : (bools (turned l i)).set i (.bool (!(l.getD i false))) = bools (turned l (i + 1)) := by
  have e : l.drop i = l[i] :: l.drop (i + 1) := List.drop_eq_getElem_cons hi
  have h1 : ((l.take i).map (!·)).length = i := by simp; omega
  have h2 : turned l (i + 1) = (l.take i).map (!·) ++ (!l[i]) :: l.drop (i + 1) := by
    rw [turned, List.take_succ_eq_append_getElem hi, List.map_append, List.append_assoc]
    rfl
  rw [h2, turned, e, show l.getD i false = l[i] by rw [List.getD_eq_getElem?_getD, List.getElem?_eq_getElem hi]; rfl]
  simp only [bools, List.map_append, List.map_cons]
  rw [List.set_append_right _ _ (by simp; omega)]
  simp
  have : i - min i l.length = 0 := by omega
  rw [this]
  rfl
theorem turned_all (l : List Bool) : turned l l.length = l.map (!·) := by simp [turned]
theorem turned_zero (l : List Bool) : turned l 0 = l := by simp [turned]
end Go.Proofs.YtiijlpmdnokjfaaDoor
namespace Go.Proofs.YtiijlpmdnokjfaaDoor
open Go.RowKit
theorem validD_fields {m : Au} (h : m.wf) : validD (fieldsOf m) = decide (m.n <= 40) := by
  by_cases hn : m.n <= 40
  . rw [decide_eq_true hn]
    exact validF_of h hn
  . rw [decide_eq_false hn]
    exact validF_big (by omega)
def fitD (m : Au) : Dx := if m.n <= 40 then fieldsOf m else ⟨[], []⟩
end Go.Proofs.YtiijlpmdnokjfaaDoor
namespace Go.Proofs.YtiijlpmdnokjfaaDoor
open Go.RowKit
end Go.Proofs.YtiijlpmdnokjfaaDoor
