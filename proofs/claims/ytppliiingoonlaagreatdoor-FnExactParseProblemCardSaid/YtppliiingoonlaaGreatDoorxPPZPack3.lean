/- Texts of one proof. -/
import Derived.Lib.Builder
import Derived.StillTailTactics
import Derived.OwnWalk
import Derived.Deep.RegionLaw
import Derived.Maps.AppendAt
import Derived.Test.YtppliiingoonlaaGreatDoorxPPZPack2
set_option maxRecDepth 100000
set_option maxHeartbeats 20000000
namespace Go.Proofs.YtppliiingoonlaaGreatDoor
open Go.RowKit
structure Chg (S : Nat -> Prop) (w w' : World) : Prop where
  os : w'.os = w.os
  tape : w'.tape = w.tape
  output : w'.output = w.output
  size : w.heap.size <= w'.heap.size
  block : ∀ g, g < w.heap.size -> ¬ S g -> w'.heap[g]? = w.heap[g]?
theorem Chg.refl (S : Nat -> Prop) (w : World) : Chg S w w := ⟨rfl, rfl, rfl, Nat.le_refl _, λ _ _ _ => rfl⟩
theorem Chg.trans {S : Nat -> Prop} {a b c : World} (h : Chg S a b) (k : Chg S b c) : Chg S a c :=
  ⟨k.os.trans h.os, k.tape.trans h.tape, k.output.trans h.output, Nat.le_trans h.size k.size, λ g hg hs => (k.block g (Nat.lt_of_lt_of_le hg h.size) hs).trans (h.block g hg hs)⟩
theorem Chg.more {S S' : Nat -> Prop} {w w' : World} (h : Chg S w w') (hS : ∀ g, S g -> S' g) : Chg S' w w' := ⟨h.os, h.tape, h.output, h.size, λ g hg hs => h.block g hg (λ e => hs (hS g e))⟩
theorem Chg.set {S : Nat -> Prop} {w w' : World} (h : Chg S w w') {a : Addr} (ha : S a.block) (v : Value) : Chg S w (w'.setCell a v) :=
  ⟨h.os, h.tape, h.output, by simpa [World.setCell] using h.size, λ g hg hs => (Below.heap_setCell _ _ _ g (λ e => hs (by rw [e]; exact ha))).trans (h.block g hg hs)⟩
theorem Chg.below {S : Nat -> Prop} {w w' w2 : World} (h : Chg S w w') (hb : Below w'.heap.size w' w2) : Chg S w w2 :=
  ⟨hb.os.trans h.os, hb.tape.trans h.tape, hb.output.trans h.output, Nat.le_trans h.size hb.size, λ g hg hs => (hb.block g (Nat.lt_of_lt_of_le hg h.size)).trans (h.block g hg hs)⟩
def OwnB (w w' : World) (g : Nat) : Prop := w.heap.size <= g /\ g < w'.heap.size
theorem Chg.cell {S : Nat -> Prop} {w w' : World} (h : Chg S w w') {p : Addr} (hp : p.block < w.heap.size) (hn : ¬ S p.block) : w'.cell? p = w.cell? p := World.cell?_of_block (h.block p.block hp hn)
theorem Chg.old {S : Nat -> Prop} {w w' : World} (h : Chg S w w') {B : Nat} (hS : ∀ g, S g -> B <= g) (hB : B <= w.heap.size) : Below B w w' :=
  ⟨h.os, h.tape, h.output, h.size, λ g hg => h.block g (Nat.lt_of_lt_of_le hg hB) (λ hs => Nat.lt_irrefl _ (Nat.lt_of_lt_of_le hg (hS g hs)))⟩
end Go.Proofs.YtppliiingoonlaaGreatDoor
namespace Go.Proofs.YtppliiingoonlaaGreatDoor
open Go.RowKit
def RowV (w : World) (S : Nat -> Prop) (v : Value) (xs : List Value) : Prop :=
  xs.length <= 9223372036854775807 /\ ∃ A c, v = .slice A xs.length c /\ ∀ (j : Nat) (x : Value), xs[j]? = some x -> ∃ ad, A = some ad /\ S ad.block /\ w.cell? (ad.add j) = some x
theorem add_block (a : Addr) (n : Nat) : (a.add n).block = a.block := by unfold Addr.add; split <;> rfl
theorem RowV.mono {w w' : World} {S S' : Nat -> Prop} {v : Value} {xs : List Value} (h : RowV w S v xs) (hs : ∀ g, S g -> w'.heap[g]? = w.heap[g]?) (hS : ∀ g, S g -> S' g) : RowV w' S' v xs := by
  obtain ⟨hl, A, c, rfl, hc⟩ := h
  refine ⟨hl, A, c, rfl, λ j x hx => ?_⟩
  obtain ⟨ad, rfl, hb, hce⟩ := hc j x hx
  exact ⟨ad, rfl, hS _ hb, (World.cell?_of_block (by rw [add_block]; exact hs _ hb)).trans hce⟩
theorem RowV.below {w w' : World} {B B' : Nat} {v : Value} {xs : List Value} (h : RowV w (· < B) v xs) (hb : Below B w w') (hB : B <= B') : RowV w' (· < B') v xs :=
  h.mono (λ g hg => hb.block g hg) (λ _ hg => Nat.lt_of_lt_of_le hg hB)
theorem cell_in {w : World} {p : Addr} {u : Value} (h : w.cell? p = some u) : p.block < w.heap.size := by
  by_cases hl : p.block < w.heap.size
  . exact hl
  . have : w.heap[p.block]? = none := Array.getElem?_eq_none (by omega)
    simp [World.cell?, this] at h
theorem RowV.kept {w w' : World} {S : Nat -> Prop} {v : Value} {xs : List Value} (h : RowV w S v xs) (hb : Below w.heap.size w w') : RowV w' S v xs := by
  obtain ⟨hl, A, c, rfl, hc⟩ := h
  refine ⟨hl, A, c, rfl, λ j x hx => ?_⟩
  obtain ⟨ad, rfl, hS, hce⟩ := hc j x hx
  have hlt := cell_in hce
  exact ⟨ad, rfl, hS, (hb.cell hlt).trans hce⟩
theorem RowV.shape {w : World} {S : Nat -> Prop} {v : Value} {xs : List Value} (h : RowV w S v xs) : ∃ A c, v = .slice A xs.length c := by
  obtain ⟨_, A, c, h, _⟩ := h
  exact ⟨A, c, h⟩
theorem RowV.at {w : World} {S : Nat -> Prop} {A : Option Addr} {n c : Nat} {xs : List Value} (h : RowV w S (.slice A n c) xs) {j : Nat} (hj : j < xs.length) : ∃ ad, A = some ad /\ S ad.block /\ w.cell? (ad.add j) = some xs[j] := by
  obtain ⟨_, A', c', e, hc⟩ := h
  cases e
  exact hc j _ (List.getElem?_eq_getElem hj)
def RowO (w : World) (S : Nat -> Prop) (v : Value) (xs : List Value) : Prop :=
  xs.length <= 9223372036854775807 /\ ∃ A c, v = .slice A xs.length c /\ (xs = [] \/ ∃ (g : Nat) (cur : Array Value) (T : TypeId), A = some ⟨g, 0, none⟩ /\ S g /\ w.heap[g]? = some (.cells cur T (0, 0)) /\ ∀ (j : Nat) (x : Value), xs[j]? = some x -> cur[j]? = some x)
theorem RowO.row {w : World} {S : Nat -> Prop} {v : Value} {xs : List Value} (h : RowO w S v xs) : RowV w S v xs := by
  obtain ⟨hl, A, c, rfl, hc⟩ := h
  refine ⟨hl, A, c, rfl, λ j x hx => ?_⟩
  rcases hc with rfl | ⟨g, cur, T, rfl, hg, hh, hx'⟩
  . simp at hx
  . exact ⟨_, rfl, hg, by rw [Addr.add_lit, Nat.zero_add, cell_of_row w g j cur T (0, 0) hh]; exact hx' j x hx⟩
theorem RowO.mono {w w' : World} {S S' : Nat -> Prop} {v : Value} {xs : List Value} (h : RowO w S v xs) (hs : ∀ g, S g -> w'.heap[g]? = w.heap[g]?) (hS : ∀ g, S g -> S' g) : RowO w' S' v xs := by
  obtain ⟨hl, A, c, rfl, hc⟩ := h
  refine ⟨hl, A, c, rfl, ?_⟩
  rcases hc with rfl | ⟨g, cur, T, rfl, hg, hh, hx'⟩
  . exact .inl rfl
  . exact .inr ⟨g, cur, T, rfl, hS g hg, (hs g hg).trans hh, hx'⟩
theorem RowO.shape {w : World} {S : Nat -> Prop} {v : Value} {xs : List Value} (h : RowO w S v xs) : ∃ A c, v = .slice A xs.length c := h.row.shape
theorem RowO.nil (w : World) (S : Nat -> Prop) (A : Option Addr) (c : Nat) : RowO w S (.slice A 0 c) [] := ⟨Nat.zero_le _, A, c, rfl, .inl rfl⟩
theorem RowO.of_owns {w : World} {base : Nat} {e : TypeId} {v : Value} {n : Nat} {xs : List Value} (h : w.ownsRow base e 1 v n xs) (hn : n <= 9223372036854775807) : RowO w (λ g => v.ownBlock = some g) v xs := by
  obtain ⟨hx, hc⟩ := h
  rw [Nat.mul_one] at hx
  refine ⟨by omega, ?_⟩
  rcases hc with ⟨rfl, h0⟩ | ⟨g, cap, cur, rfl, _, hh, _, _, _, ht⟩
  . rw [hx, h0]
    exact ⟨none, 0, rfl, .inl (List.length_eq_zero_iff.1 (by omega))⟩
  . rw [hx]
    refine ⟨_, cap, rfl, .inr ⟨g, cur, e, rfl, rfl, hh, λ j x hj => ?_⟩⟩
    rw [Nat.mul_one] at ht
    have hjn : j < n := by have := (List.getElem?_eq_some_iff.1 hj).1; omega
    rw [<- ht, List.getElem?_take_of_lt hjn, Array.getElem?_toList] at hj
    exact hj
theorem RowO.set {w : World} {S : Nat -> Prop} {A : Option Addr} {n c : Nat} {xs : List Value} (h : RowO w S (.slice A n c) xs) {j : Nat} (hj : j < xs.length) :
    ∃ g, A = some ⟨g, 0, none⟩ /\ S g /\ g < w.heap.size /\ (∀ w1 : World, w1.heap[g]? = w.heap[g]? -> (∃ x, w1.cell? ⟨g, j, none⟩ = some x) /\ w1.frozen? ⟨g, j, none⟩ = false /\
      ∀ u, RowO (w1.setCell ⟨g, j, none⟩ u) S (.slice A n c) (xs.set j u)) := by
  obtain ⟨hl, A', c', e, hc⟩ := h
  cases e
  rcases hc with rfl | ⟨g, cur, T, rfl, hg, hh, hx⟩
  . simp at hj
  . have hlt : g < w.heap.size := (Array.getElem?_eq_some_iff.1 hh).1
    have hcj : cur[j]? = some xs[j] := hx j _ (List.getElem?_eq_getElem hj)
    refine ⟨g, rfl, hg, hlt, λ w1 h1 => ?_⟩
    have hh1 := h1.trans hh
    refine ⟨⟨_, (cell_of_row w1 g j cur T (0, 0) hh1).trans hcj⟩, frozen_of_row w1 g j cur T hh1, λ u => ?_⟩
    have h2 := heap_setCell_same w1 g j cur T u hh1
    refine ⟨by simpa using hl, _, c, by simp, .inr ⟨g, _, T, rfl, hg, h2, λ i x hi => ?_⟩⟩
    have hjc : j < cur.size := (Array.getElem?_eq_some_iff.1 hcj).1
    rw [Array.getElem?_setIfInBounds]
    rw [List.getElem?_set] at hi
    by_cases e : j = i
    . subst e
      rw [if_pos rfl] at hi
      rw [if_pos hj] at hi
      rw [if_pos rfl, if_pos hjc]
      exact hi
    . rw [if_neg e] at hi
      rw [if_neg e]
      exact hx i x hi
theorem set_step {α : Type} (f : Nat -> α) (xs : List α) (j : Nat) (hj : j < xs.length) : ((List.range j).map f ++ xs.drop j).set j (f j) = (List.range (j + 1)).map f ++ xs.drop (j + 1) := by
  have hl : ((List.range j).map f).length = j := by simp
  rw [List.set_append_right _ _ (by omega), hl, Nat.sub_self, List.drop_eq_getElem_cons hj, List.set_cons_zero, List.range_succ, List.map_append, List.append_assoc]
  rfl
end Go.Proofs.YtppliiingoonlaaGreatDoor
namespace Go.Proofs.YtppliiingoonlaaGreatDoor
open Go.RowKit
def bools (l : List Bool) : List Value := l.map λ x => .bool x
theorem bools_length (l : List Bool) : (bools l).length = l.length := by simp [bools]
end Go.Proofs.YtppliiingoonlaaGreatDoor
namespace Go.Proofs.YtppliiingoonlaaGreatDoor
open Go.RowKit
def ints (l : List Int) : List Value := l.map λ x => .int .i64 x
theorem ints_length (l : List Int) : (ints l).length = l.length := by simp [ints]
theorem ints_at {l : List Int} {j : Nat} (h : j < l.length) : (ints l)[j]'(by rw [ints_length]; exact h) = .int .i64 (l[j]) := by simp [ints]
theorem intInfo : (Tryz.prog.info? 3).map (λ i => (i.zero, i.size, i.bytes)) = some (some (.int .i64 0), 1, 8) := by kernel_rfl
def intMark (k n : Nat) : List Int := (List.range n).map λ (j : Nat) => ((k + j : Nat) : Int)
theorem intMark_length (k n : Nat) : (intMark k n).length = n := by simp [intMark]
theorem intMark_at {k n j : Nat} (h : j < n) : (intMark k n)[j]'(by rw [intMark_length]; exact h) = ((k + j : Nat) : Int) := by simp [intMark]
end Go.Proofs.YtppliiingoonlaaGreatDoor
namespace Go.Proofs.YtppliiingoonlaaGreatDoor
open Go.RowKit
def RowVV (w : World) (S : Nat -> Prop) (v : Value) (rss : List (List Value)) : Prop :=
  ∃ us : List Value, us.length = rss.length /\ RowV w S v us /\ ∀ (j : Nat) (u : Value) (r : List Value), us[j]? = some u -> rss[j]? = some r -> RowV w S u r
theorem RowVV.mono {w w' : World} {S S' : Nat -> Prop} {v : Value} {rss : List (List Value)} (h : RowVV w S v rss) (hs : ∀ g, S g -> w'.heap[g]? = w.heap[g]?) (hS : ∀ g, S g -> S' g) : RowVV w' S' v rss := by
  obtain ⟨us, hl, hv, hr⟩ := h
  exact ⟨us, hl, hv.mono hs hS, λ j u r hu hx => (hr j u r hu hx).mono hs hS⟩
theorem RowVV.kept {w w' : World} {S : Nat -> Prop} {v : Value} {rss : List (List Value)} (h : RowVV w S v rss) (hb : Below w.heap.size w w') : RowVV w' S v rss := by
  obtain ⟨us, hl, hv, hr⟩ := h
  exact ⟨us, hl, hv.kept hb, λ j u r hu hx => (hr j u r hu hx).kept hb⟩
theorem RowVV.shape {w : World} {S : Nat -> Prop} {v : Value} {rss : List (List Value)} (h : RowVV w S v rss) : rss.length <= 9223372036854775807 /\ ∃ A c, v = .slice A rss.length c := by
  obtain ⟨us, hl, hv, _⟩ := h
  obtain ⟨A, c, e⟩ := hv.shape
  rw [hl] at e
  exact ⟨by rw [<- hl]; exact hv.1, A, c, e⟩
theorem RowVV.at {w : World} {S : Nat -> Prop} {A : Option Addr} {n c : Nat} {rss : List (List Value)} (h : RowVV w S (.slice A n c) rss) {j : Nat} (hj : j < rss.length) :
    ∃ ad u, A = some ad /\ S ad.block /\ w.cell? (ad.add j) = some u /\ RowV w S u rss[j] := by
  obtain ⟨us, hl, hv, hr⟩ := h
  obtain ⟨ad, e, hS, hc⟩ := hv.at (j := j) (by omega)
  exact ⟨ad, _, e, hS, hc, hr j _ _ (List.getElem?_eq_getElem (by omega)) (List.getElem?_eq_getElem hj)⟩
structure RowsP (S : Nat -> Prop) (w : World) (us : List Value) (rss : List (List Value)) (K : Nat -> Nat -> Prop) : Prop where
  len : us.length = rss.length
  row : ∀ (j : Nat) (u : Value) (r : List Value), us[j]? = some u -> rss[j]? = some r -> RowO w (K j) u r
  sub : ∀ j g, K j g -> S g
  lt : ∀ j g, K j g -> g < w.heap.size
  sep : ∀ i j g, K i g -> K j g -> i = j
theorem RowsP.nil (S : Nat -> Prop) (w : World) : RowsP S w [] [] (λ _ _ => False) := ⟨rfl, λ j u r h => by simp at h, λ _ _ h => h.elim, λ _ _ h => h.elim, λ _ _ _ h => h.elim⟩
theorem RowsP.keep {S S' : Nat -> Prop} {w w' : World} {us : List Value} {rss : List (List Value)} {K : Nat -> Nat -> Prop} (h : RowsP S w us rss K) (hs : ∀ j g, K j g -> w'.heap[g]? = w.heap[g]?) (hS : ∀ j g, K j g -> S' g) (hz : w.heap.size <= w'.heap.size) : RowsP S' w' us rss K :=
  ⟨h.len, λ j u r hu hr => (h.row j u r hu hr).mono (λ g hg => hs j g hg) (λ _ hg => hg), hS, λ j g hg => Nat.lt_of_lt_of_le (h.lt j g hg) hz, h.sep⟩
def RowOO (w : World) (S : Nat -> Prop) (v : Value) (rss : List (List Value)) : Prop :=
  ∃ us K0 K, RowO w K0 v us /\ RowsP S w us rss K /\ ∀ g, K0 g -> S g /\ ∀ j, ¬ K j g
theorem RowOO.rows {w : World} {S : Nat -> Prop} {v : Value} {rss : List (List Value)} (h : RowOO w S v rss) : RowVV w S v rss := by
  obtain ⟨us, K0, K, ho, hp, hk⟩ := h
  exact ⟨us, hp.len, ho.row.mono (λ _ _ => rfl) (λ g hg => (hk g hg).1), λ j u r hu hr => (hp.row j u r hu hr).row.mono (λ _ _ => rfl) (λ g hg => hp.sub j g hg)⟩
theorem RowOO.mono {w w' : World} {S S' : Nat -> Prop} {v : Value} {rss : List (List Value)} (h : RowOO w S v rss) (hs : ∀ g, S g -> w'.heap[g]? = w.heap[g]?) (hS : ∀ g, S g -> S' g) (hz : w.heap.size <= w'.heap.size) : RowOO w' S' v rss := by
  obtain ⟨us, K0, K, ho, hp, hk⟩ := h
  exact ⟨us, K0, K, ho.mono (λ g hg => hs g (hk g hg).1) (λ _ hg => hg), hp.keep (λ j g hg => hs g (hp.sub j g hg)) (λ j g hg => hS g (hp.sub j g hg)) hz, λ g hg => ⟨hS g (hk g hg).1, (hk g hg).2⟩⟩
theorem RowOO.nil (w : World) (S : Nat -> Prop) (A : Option Addr) (c : Nat) : RowOO w S (.slice A 0 c) [] := ⟨[], λ _ => False, λ _ _ => False, RowO.nil _ _ _ _, RowsP.nil _ _, λ _ h => h.elim⟩
theorem RowOO.shape {w : World} {S : Nat -> Prop} {v : Value} {rss : List (List Value)} (h : RowOO w S v rss) : ∃ A c, v = .slice A rss.length c := h.rows.shape.2
end Go.Proofs.YtppliiingoonlaaGreatDoor
namespace Go.Proofs.YtppliiingoonlaaGreatDoor
open Go.RowKit
def intss (rs : List (List Int)) : List (List Value) := rs.map ints
theorem intss_length (rs : List (List Int)) : (intss rs).length = rs.length := by simp [intss]
theorem RowV.ints_shape {w : World} {S : Nat -> Prop} {v : Value} {r : List Int} (h : RowV w S v (ints r)) : r.length <= 9223372036854775807 /\ ∃ A c, v = .slice A r.length c := by
  obtain ⟨A, c, e⟩ := h.shape
  have hl := h.1
  rw [ints_length] at e hl
  exact ⟨hl, A, c, e⟩
end Go.Proofs.YtppliiingoonlaaGreatDoor
namespace Go.Proofs.YtppliiingoonlaaGreatDoor
open Go.RowKit
def Bx2 (w : World) (g : Nat) (x y : Value) : Prop := w.cell? ⟨g, 0, none⟩ = some x /\ w.cell? ⟨g, 1, none⟩ = some y
theorem Bx2.below {w w' : World} {g B : Nat} {x y : Value} (h : Bx2 w g x y) (hb : Below B w w') (hg : g < B) : Bx2 w' g x y :=
  ⟨(hb.cell (p := ⟨g, 0, none⟩) hg).trans h.1, (hb.cell (p := ⟨g, 1, none⟩) hg).trans h.2⟩
theorem Bx2.kept {w w' : World} {g : Nat} {x y : Value} (h : Bx2 w g x y) (hb : Below w.heap.size w w') : Bx2 w' g x y := h.below hb (by
  by_cases hl : g < w.heap.size
  . exact hl
  . have e : w.heap[g]? = none := Array.getElem?_eq_none (by omega)
    have := h.1
    simp [World.cell?, e] at this)
theorem Bx2.lt {w : World} {g : Nat} {x y : Value} (h : Bx2 w g x y) : g < w.heap.size := by
  by_cases hl : g < w.heap.size
  . exact hl
  . have e : w.heap[g]? = none := Array.getElem?_eq_none (by omega)
    have := h.1
    simp [World.cell?, e] at this
theorem Bx2.chg {w w' : World} {S : Nat -> Prop} {g : Nat} {x y : Value} (h : Bx2 w g x y) (hc : Chg S w w') (hn : ¬ S g) : Bx2 w' g x y :=
  ⟨(hc.cell (p := ⟨g, 0, none⟩) h.lt hn).trans h.1, (hc.cell (p := ⟨g, 1, none⟩) h.lt hn).trans h.2⟩
end Go.Proofs.YtppliiingoonlaaGreatDoor
namespace Go.Proofs.YtppliiingoonlaaGreatDoor
open Go.RowKit
structure Dx where
  acc : List Bool
  nxt : List (List Int)
def zeroD : Dx := ⟨[], []⟩
def DfaV (w : World) (S : Nat -> Prop) (va vn : Value) (d : Dx) : Prop := RowV w S va (bools d.acc) /\ RowVV w S vn (intss d.nxt)
theorem DfaV.mono {w w' : World} {S S' : Nat -> Prop} {va vn : Value} {d : Dx} (h : DfaV w S va vn d) (hs : ∀ g, S g -> w'.heap[g]? = w.heap[g]?) (hS : ∀ g, S g -> S' g) : DfaV w' S' va vn d := ⟨h.1.mono hs hS, h.2.mono hs hS⟩
theorem DfaV.kept {w w' : World} {S : Nat -> Prop} {va vn : Value} {d : Dx} (h : DfaV w S va vn d) (hb : Below w.heap.size w w') : DfaV w' S va vn d := ⟨h.1.kept hb, h.2.kept hb⟩
theorem DfaV.shape {w : World} {S : Nat -> Prop} {va vn : Value} {d : Dx} (h : DfaV w S va vn d) : (∃ A c, va = .slice A d.acc.length c) /\ ∃ A c, vn = .slice A d.nxt.length c := by
  obtain ⟨A, c, e⟩ := h.1.shape
  obtain ⟨A', c', e'⟩ := h.2.shape.2
  rw [bools_length] at e
  rw [intss_length] at e'
  exact ⟨⟨A, c, e⟩, A', c', e'⟩
def DfaO (w : World) (S : Nat -> Prop) (va vn : Value) (d : Dx) : Prop :=
  ∃ Sa Sn : Nat -> Prop, RowO w Sa va (bools d.acc) /\ RowOO w Sn vn (intss d.nxt) /\ (∀ g, Sa g -> S g /\ ¬ Sn g) /\ ∀ g, Sn g -> S g
theorem DfaO.dfa {w : World} {S : Nat -> Prop} {va vn : Value} {d : Dx} (h : DfaO w S va vn d) : DfaV w S va vn d := by
  obtain ⟨Sa, Sn, h1, h2, h3, h4⟩ := h
  exact ⟨h1.row.mono (λ _ _ => rfl) (λ g hg => (h3 g hg).1), h2.rows.mono (λ _ _ => rfl) h4⟩
theorem DfaO.mono {w w' : World} {S S' : Nat -> Prop} {va vn : Value} {d : Dx} (h : DfaO w S va vn d) (hs : ∀ g, S g -> w'.heap[g]? = w.heap[g]?) (hS : ∀ g, S g -> S' g) (hz : w.heap.size <= w'.heap.size) : DfaO w' S' va vn d := by
  obtain ⟨Sa, Sn, h1, h2, h3, h4⟩ := h
  exact ⟨Sa, Sn, h1.mono (λ g hg => hs g (h3 g hg).1) (λ _ h => h), h2.mono (λ g hg => hs g (h4 g hg)) (λ _ h => h) hz, λ g hg => ⟨hS g (h3 g hg).1, (h3 g hg).2⟩, λ g hg => hS g (h4 g hg)⟩
theorem DfaO.zero (w : World) (S : Nat -> Prop) : DfaO w S (.slice none 0 0) (.slice none 0 0) zeroD :=
  ⟨λ _ => False, λ _ => False, RowO.nil _ _ _ _, RowOO.nil _ _ _ _, λ _ h => h.elim, λ _ h => h.elim⟩
def CopyD (d : Dx) (w : World) (e : Ending) (w' : World) : Prop := ∃ va vn, e = .returned (.agg #[va, vn]) /\ DfaO w' (OwnB w w') va vn d /\ Below w.heap.size w w'
theorem CopyD.shape {d : Dx} {w w' : World} {e : Ending} (h : CopyD d w e w') : ∃ A c A' c', e = .returned (.agg #[.slice A d.acc.length c, .slice A' d.nxt.length c']) /\ DfaO w' (OwnB w w') (.slice A d.acc.length c) (.slice A' d.nxt.length c') d /\ Below w.heap.size w w' := by
  obtain ⟨va, vn, rfl, ho, hb⟩ := h
  obtain ⟨⟨A, c, rfl⟩, A', c', rfl⟩ := ho.dfa.shape
  exact ⟨A, c, A', c', rfl, ho, hb⟩
end Go.Proofs.YtppliiingoonlaaGreatDoor
namespace Go.Proofs.YtppliiingoonlaaGreatDoor
open Go.RowKit
theorem DfaO.kept {w w' : World} {S : Nat -> Prop} {va vn : Value} {d : Dx} (h : DfaO w S va vn d) (hS : ∀ g, S g -> g < w.heap.size) (hb : Below w.heap.size w w') : DfaO w' S va vn d :=
  h.mono (λ g hg => hb.block g (hS g hg)) (λ _ h => h) hb.size
theorem DfaO.chg {w w' : World} {S S' : Nat -> Prop} {va vn : Value} {d : Dx} (h : DfaO w S va vn d) (hS : ∀ g, S g -> g < w.heap.size) (hc : Chg S' w w') (hn : ∀ g, S g -> ¬ S' g) : DfaO w' S va vn d :=
  h.mono (λ g hg => hc.block g (hS g hg) (hn g hg)) (λ _ h => h) hc.size
def CopyDB (d : Dx) (b : Bool) (w : World) (e : Ending) (w' : World) : Prop := ∃ va vn, e = .returned (.tuple #[.agg #[va, vn], .bool b]) /\ DfaO w' (OwnB w w') va vn d /\ Below w.heap.size w w'
theorem CopyDB.shape {d : Dx} {b : Bool} {w w' : World} {e : Ending} (h : CopyDB d b w e w') : ∃ A c A' c', e = .returned (.tuple #[.agg #[.slice A d.acc.length c, .slice A' d.nxt.length c'], .bool b]) /\ DfaO w' (OwnB w w') (.slice A d.acc.length c) (.slice A' d.nxt.length c') d /\ Below w.heap.size w w' := by
  obtain ⟨va, vn, rfl, ho, hb⟩ := h
  obtain ⟨⟨A, c, rfl⟩, A', c', rfl⟩ := ho.dfa.shape
  exact ⟨A, c, A', c', rfl, ho, hb⟩
end Go.Proofs.YtppliiingoonlaaGreatDoor
namespace Go.Proofs.YtppliiingoonlaaGreatDoor
open Go.RowKit
end Go.Proofs.YtppliiingoonlaaGreatDoor
namespace Go.Proofs.YtppliiingoonlaaGreatDoor
open Go.RowKit
theorem eqNode_of {n m : Nat} (ih : ∀ (B : Nat) (u u' : Value) (f : Fr) (w : World), Sl w B n u f -> Sl w B m u' f -> B <= w.heap.size -> Calls Tryz.prog 225 #[u, u'] w λ e w' => e = .returned (.bool true) /\ Below w.heap.size w w')
    (B : Nat) (k : Int) (l : ByteArray) (u u' : Value) (a : Fr) (w : World) (hS : Sl w B n u a) (hS' : Sl w B m u' a) (hB : B <= w.heap.size) :
    Calls Tryz.prog 190 #[.agg #[.int .i64 k, .string l, u], .agg #[.int .i64 k, .string l, u']] w λ e w' => e = .returned (.bool true) /\ Below w.heap.size w w' := by
  have HB0 := Lib.hid (((Below.refl w.heap.size w).alloc (Nat.le_refl _) (.cells #[.int .i64 k, .string l, u] 26)).alloc (by simp) (.cells #[.int .i64 k, .string l, u'] 26))
  have HI := Lib.hid (λ wr (hb : Below w.heap.size w wr) => ih B u u' a wr (hS.mono (hb.mono hB) (Nat.le_refl _)) (hS'.mono (hb.mono hB) (Nat.le_refl _)) (Nat.le_trans hB hb.size))
  clear hS hS'
  go_enter Tryz.func190, Tryz.ntmps190
  go_wp2_with fail
  refine (HI.out _ HB0.out).mono ?_
  rintro e w1 ⟨rfl, hb1⟩
  have HW1 := Lib.hid (HB0.out.trans (hb1.mono HB0.out.size))
  clear hb1
  go_wp2_with fail
  go_ret
  exact ⟨rfl, HW1.out⟩
theorem eqS_any (n : Nat) : ∀ (m B : Nat) (v v' : Value) (f : Fr) (w : World), Sl w B n v f -> Sl w B m v' f -> B <= w.heap.size -> Calls Tryz.prog 225 #[v, v'] w λ e w' => e = .returned (.bool true) /\ Below w.heap.size w w' := by
  induction n with
  | zero => intro m B v v' f w h; exact h.zero.elim
  | succ n ih =>
    intro m B v v' f w hS hS' hB
    cases m with
    | zero => exact hS'.zero.elim
    | succ m =>
      obtain ⟨hl, A, c, rfl, hE⟩ := hS.open
      obtain ⟨_, A', c', rfl, hE'⟩ := hS'.open
      have HE := Lib.hid hE
      have HE' := Lib.hid hE'
      clear hE hE' hS hS'
      go_enter Tryz.func225, Tryz.ntmps225
      go_wp2_with fail
      go_loopw [5] (λ i wr => ∃ j : Nat, i = .int .i64 j /\ j <= f.items.length /\ Below w.heap.size w wr) (λ i _ => f.items.length - (intOf i).toNat)
      case atStart => exact ⟨0, rfl, Nat.zero_le _, Below.refl _ _⟩
      case round =>
        obtain ⟨j, rfl, hj, hb⟩ := hrel
        have HB := Lib.hid hb
        have hwz := hb.size
        clear hb
        by_cases hlt : j < f.items.length
        . obtain ⟨g, o, rfl, hg, k, l, a, u, hx, hls, he, h4⟩ := HE.out j hlt
          obtain ⟨g', o', rfl, hg', k2, l2, a2, u', hx', _, he', h4'⟩ := HE'.out j hlt
          rw [hx] at hx'
          cases hx'
          obtain ⟨hc0, hc1, hc2⟩ := he.below HB.out (Nat.lt_of_lt_of_le hg hB)
          obtain ⟨hd0, hd1, hd2⟩ := he'.below HB.out (Nat.lt_of_lt_of_le hg' hB)
          have HI := Lib.hid (eqNode_of (λ B u u' f w => ih m B u u' f w) B k l u u' a wr.drew (h4.mono ((HB.out.drew).mono hB) (Nat.le_refl _)) (h4'.mono ((HB.out.drew).mono hB) (Nat.le_refl _)) (by show B <= wr.heap.size; omega))
          have HBd := Lib.hid HB.out.drew
          clear he he' h4 h4' hx
          go_wp2_with fail
          go_still_tail 8, (by kernel_rfl)
          go_wp2_with fail
          refine HI.out.mono ?_
          rintro e w1 ⟨rfl, hb1⟩
          have HB1 := Lib.hid (HBd.out.trans (hb1.mono hwz))
          clear hb1
          go_wp2_with fail
          go_roundw
          case rel => exact ⟨j + 1, by go_num, by omega, HB1.out⟩
          case measure => simp [intOf]; omega
        . have hd : decide ((j : Int) < (f.items.length : Int)) = false := by simp; omega
          go_wp2_with fail
          go_ret
          exact ⟨rfl, HB.out⟩
end Go.Proofs.YtppliiingoonlaaGreatDoor
namespace Go.Proofs.YtppliiingoonlaaGreatDoor
open Go.RowKit
def three (w : World) (o1 o2 o3 : Obj) : World := ((w.alloc o1).alloc o2).alloc o3
def Filled (wr : World) (g n : Nat) (f : Fr) (j m : Nat) : Prop :=
  (∃ cur : Array Value, wr.heap[g]? = some (.cells cur 26 (0, 0)) /\ cur.size = f.items.length * 3) /\
    ∃ s : Nat -> Nat, g < s 0 /\ (∀ i, s i <= s (i + 1)) /\ s j <= m /\ m <= wr.heap.size /\ ∀ i k l a, i < j -> f.items[i]? = some (k, l, a) -> ∃ u, ElAt wr g (i * 3) k l u /\ SlT wr n (λ h => s i <= h /\ h < s (i + 1)) u a
def cutAt (s : Nat -> Nat) (j z i : Nat) : Nat := if i <= j then s i else z
theorem cutAt_le {s : Nat -> Nat} {j z i : Nat} (h : i <= j) : cutAt s j z i = s i := if_pos h
theorem cutAt_gt {s : Nat -> Nat} {j z i : Nat} (h : j < i) : cutAt s j z i = z := if_neg (by omega)
theorem rising {s : Nat -> Nat} (h : ∀ i, s i <= s (i + 1)) {i j : Nat} (hij : i <= j) : s i <= s j := by
  induction j with
  | zero => rw [Nat.le_zero.1 hij]; exact Nat.le_refl _
  | succ j ih =>
    by_cases e : i = j + 1
    . rw [e]; exact Nat.le_refl _
    . exact Nat.le_trans (ih (by omega)) (h j)
theorem Filled.cells {wr : World} {g n : Nat} {f : Fr} {j m : Nat} (h : Filled wr g n f j m) (hj : j < f.items.length) :
    (∃ x, wr.cell? ⟨g, j * 3, none⟩ = some x) /\ (∃ x, wr.cell? ⟨g, j * 3 + 1, none⟩ = some x) /\ (∃ x, wr.cell? ⟨g, j * 3 + 2, none⟩ = some x) /\ ∀ o, wr.frozen? ⟨g, o, none⟩ = false := by
  obtain ⟨⟨cur, hh, hs⟩, _⟩ := h
  have at_ : ∀ o, o < cur.size -> ∃ x, wr.cell? ⟨g, o, none⟩ = some x := λ o ho => ⟨_, (cell_of_row wr g o _ _ (0, 0) hh).trans (Array.getElem?_eq_getElem ho)⟩
  exact ⟨at_ _ (by omega), at_ _ (by omega), at_ _ (by omega), λ o => frozen_of_row wr g o _ _ hh⟩
theorem Filled.lt {wr : World} {g n : Nat} {f : Fr} {j m : Nat} (h : Filled wr g n f j m) : g < wr.heap.size := by
  obtain ⟨⟨cur, hh, _⟩, _⟩ := h
  exact (Array.getElem?_eq_some_iff.1 hh).1
theorem Filled.below {wr w1 : World} {g n : Nat} {f : Fr} {j m : Nat} (h : Filled wr g n f j m) (hb : Below wr.heap.size wr w1) : Filled w1 g n f j m := by
  have hg := h.lt
  obtain ⟨⟨cur, hh, hs⟩, s, h0, hr, hj, hm, hE⟩ := h
  refine ⟨⟨cur, (hb.block g hg).trans hh, hs⟩, s, h0, hr, hj, Nat.le_trans hm hb.size, λ i k l a hi hx => ?_⟩
  obtain ⟨u, he, hsl⟩ := hE i k l a hi hx
  exact ⟨u, he.below hb hg, hsl.mono (λ g' hg' => hb.block g' (Nat.lt_of_lt_of_le hg'.2 (Nat.le_trans (rising hr hi) (Nat.le_trans hj hm)))) (λ _ hg' => hg')⟩
theorem Filled.step {w1 : World} {g n m : Nat} {f : Fr} {j : Nat} {k : Int} {l : ByteArray} {u : Value} {a : Fr} (h : Filled w1 g n f j m) (hx : f.items[j]? = some (k, l, a)) (hs : SlT w1 n (λ h => m <= h /\ h < w1.heap.size) u a) :
    let W2 := ((w1.setCell ⟨g, j * 3, none⟩ (.int .i64 k)).setCell ⟨g, j * 3 + 1, none⟩ (.string l)).setCell ⟨g, j * 3 + 2, none⟩ u
    Filled W2 g n f (j + 1) W2.heap.size := by
  intro W2
  have hlt := (List.getElem?_eq_some_iff.1 hx).1
  obtain ⟨⟨x0, b0⟩, ⟨x1, b1⟩, ⟨x2, b2⟩, _⟩ := h.cells hlt
  have hsz : W2.heap.size = w1.heap.size := by simp [W2, World.setCell]
  have ne : ∀ {o o' : Nat}, o ≠ o' -> (⟨g, o, none⟩ : Addr) ≠ ⟨g, o', none⟩ := λ h e => by
    injection e with _ e2
    exact h e2
  have far : ∀ o, o < j * 3 \/ j * 3 + 2 < o -> W2.cell? ⟨g, o, none⟩ = w1.cell? ⟨g, o, none⟩ := λ o ho =>
    (World.cell?_setCell_other _ _ _ _ (ne (by omega))).trans ((World.cell?_setCell_other _ _ _ _ (ne (by omega))).trans (World.cell?_setCell_other _ _ _ _ (ne (by omega))))
  have hother : ∀ h, g ≠ h -> W2.heap[h]? = w1.heap[h]? := λ h hne =>
    (Below.heap_setCell _ _ _ h (λ e => hne e.symm)).trans ((Below.heap_setCell _ _ _ h (λ e => hne e.symm)).trans (Below.heap_setCell _ _ _ h (λ e => hne e.symm)))
  have d1 : (w1.setCell ⟨g, j * 3, none⟩ (.int .i64 k)).cell? ⟨g, j * 3 + 1, none⟩ = some x1 := (World.cell?_setCell_other _ _ _ _ (ne (by omega))).trans b1
  have d2 : ((w1.setCell ⟨g, j * 3, none⟩ (.int .i64 k)).setCell ⟨g, j * 3 + 1, none⟩ (.string l)).cell? ⟨g, j * 3 + 2, none⟩ = some x2 :=
    (World.cell?_setCell_other _ _ _ _ (ne (by omega))).trans ((World.cell?_setCell_other _ _ _ _ (ne (by omega))).trans b2)
  obtain ⟨⟨cur, hh, hcs⟩, s, h0, hr, hsj, hm, hE⟩ := h
  have hgs : ∀ i, g < s i := λ i => Nat.lt_of_lt_of_le h0 (rising hr (Nat.zero_le i))
  refine ⟨⟨_, heap_setCell_same _ g (j * 3 + 2) _ _ u (heap_setCell_same _ g (j * 3 + 1) _ _ (.string l) (heap_setCell_same w1 g (j * 3) _ _ (.int .i64 k) hh)), by simpa using hcs⟩,
    cutAt s j w1.heap.size, by rw [cutAt_le (Nat.zero_le _)]; exact h0, λ i => ?_, by rw [cutAt_gt (Nat.lt_succ_self _), hsz]; exact Nat.le_refl _, Nat.le_refl _, λ i k' l' a' hi hx' => ?_⟩
  . have := hr i
    by_cases e1 : i + 1 <= j
    . rw [cutAt_le (by omega), cutAt_le e1]; exact this
    . rw [cutAt_gt (by omega : j < i + 1)]
      by_cases e2 : i <= j
      . rw [cutAt_le e2]
        have := rising hr e2
        omega
      . rw [cutAt_gt (by omega)]; exact Nat.le_refl _
  by_cases e : i = j
  . subst e
    rw [hx] at hx'
    cases hx'
    refine ⟨u, ⟨?_, ?_, World.cell?_setCell_same _ _ _ d2⟩, hs.mono (λ h hh => hother h (by have := hgs i; omega)) (λ h hh => ⟨by rw [cutAt_le (Nat.le_refl _)]; omega, by rw [cutAt_gt (Nat.lt_succ_self _)]; exact hh.2⟩)⟩
    . exact (World.cell?_setCell_other _ _ _ _ (ne (by omega))).trans ((World.cell?_setCell_other _ _ _ _ (ne (by omega))).trans (World.cell?_setCell_same _ _ _ b0))
    . exact (World.cell?_setCell_other _ _ _ _ (ne (by omega))).trans (World.cell?_setCell_same _ _ _ d1)
  . obtain ⟨u', he, hsl⟩ := hE i k' l' a' (by omega) hx'
    refine ⟨u', ⟨(far _ (by omega)).trans he.1, (far _ (by omega)).trans he.2.1, (far _ (by omega)).trans he.2.2⟩, hsl.mono (λ h hh => hother h (by have := hgs i; omega)) (λ h hh => ⟨by rw [cutAt_le (by omega)]; exact hh.1, by rw [cutAt_le (by omega)]; exact hh.2⟩)⟩
theorem SlP.inside {w : World} {S : Nat -> Prop} : ∀ {n : Nat} {v : Value} {f : Fr}, SlP w S n v f -> SlP w (λ g => g < w.heap.size) n v f
  | 0, _, _, h => h
  | n + 1, v, f, ⟨hl, h⟩ => by
    refine ⟨hl, ?_⟩
    rcases h with h | ⟨g, o, c, hv, hg, hc⟩
    . exact .inl h
    . cases hf : f.items with
      | nil => exact .inl ⟨rfl, some ⟨g, o, none⟩, c, by rw [hv, hf]; rfl⟩
      | cons x r =>
        obtain ⟨k, l, a⟩ := x
        obtain ⟨_, u, he, _⟩ := hc 0 k l a (by rw [hf]; rfl)
        have hgl : g < w.heap.size := World.block_lt_of_cell? w _ he.1
        rw [<- hf]
        exact .inr ⟨g, o, c, hv, hgl, λ j k l a hj => by
          obtain ⟨hl', u, he, h4⟩ := hc j k l a hj
          exact ⟨hl', u, he, h4.inside⟩⟩
theorem SlP.len {w : World} {S : Nat -> Prop} : ∀ {n : Nat} {v : Value} {f : Fr}, SlP w S n v f -> f.items.length <= 9223372036854775807
  | 0, _, _, h => h.elim
  | _ + 1, _, _, h => h.1
theorem RowO.kept {w w' : World} {S : Nat -> Prop} {v : Value} {xs : List Value} (h : RowO w S v xs) (hb : Below w.heap.size w w') : RowO w' S v xs := by
  obtain ⟨hl, A, c, rfl, hc⟩ := h
  refine ⟨hl, A, c, rfl, ?_⟩
  rcases hc with h | ⟨g, cur, T, rfl, hg, hh, hx⟩
  . exact .inl h
  . exact .inr ⟨g, cur, T, rfl, hg, (hb.block g (Array.getElem?_eq_some_iff.1 hh).1).trans hh, hx⟩
theorem RowO.any {w : World} {S S' : Nat -> Prop} {v : Value} {xs : List Value} (h : RowO w S v xs) (hS : ∀ g, S g -> S' g) : RowO w S' v xs := h.mono (λ _ _ => rfl) hS
theorem three_ints {w : World} {S : Nat -> Prop} {A : Option Addr} {c : Nat} {a d e : Int} (h : RowO w S (.slice A 3 c) (ints [a, d, e])) :
    ∃ g, A = some ⟨g, 0, none⟩ /\ w.cell? ⟨g, 0, none⟩ = some (.int .i64 a) /\ w.cell? ⟨g, 1, none⟩ = some (.int .i64 d) /\ w.cell? ⟨g, 2, none⟩ = some (.int .i64 e) := by
  obtain ⟨_, A', c', e1, hc⟩ := h
  cases e1
  rcases hc with h | ⟨g, cur, T, rfl, _, hh, hx⟩
  . simp [ints] at h
  . exact ⟨g, rfl, (cell_of_row w g 0 cur T (0, 0) hh).trans (hx 0 _ rfl), (cell_of_row w g 1 cur T (0, 0) hh).trans (hx 1 _ rfl), (cell_of_row w g 2 cur T (0, 0) hh).trans (hx 2 _ rfl)⟩
def maxI : Nat := 9223372036854775807
def CnV (w : World) (xu vc : Value) (c : Cx) : Prop :=
  (c.l.size <= maxI /\ c.r.size <= maxI /\ c.xl.size <= maxI) /\ (∃ n, Sl w w.heap.size n xu c.xa) /\ RowV w (· < w.heap.size) vc (ints c.cs)
def CnO (w : World) (xu vc : Value) (c : Cx) : Prop :=
  (c.l.size <= maxI /\ c.r.size <= maxI /\ c.xl.size <= maxI) /\ (∃ n S, SlT w n S xu c.xa /\ ∀ g, S g -> g < w.heap.size) /\ RowO w (λ _ => True) vc (ints c.cs)
theorem CnO.read {w : World} {xu vc : Value} {c : Cx} (h : CnO w xu vc c) : (c.l.size <= maxI /\ c.r.size <= maxI /\ c.xl.size <= maxI) /\ (∃ n, Sl w w.heap.size n xu c.xa) /\ RowO w (λ _ => True) vc (ints c.cs) := by
  obtain ⟨h1, ⟨n, S, h2, h4⟩, h3⟩ := h
  exact ⟨h1, ⟨n, h2.sl.mono (λ _ _ => rfl) h4⟩, h3⟩
theorem SlT.inside {w : World} : ∀ {n : Nat} {S : Nat -> Prop} {v : Value} {f : Fr}, SlT w n S v f -> SlT w n (λ g => S g /\ g < w.heap.size) v f
  | 0, _, _, _, h => h
  | n + 1, S, v, f, ⟨hl, h⟩ => by
    refine ⟨hl, ?_⟩
    rcases h with h | ⟨g, o, c, K, hv, hg, hp, hK, hd, hc⟩
    . exact .inl h
    . have hgl : g < w.heap.size := by
        obtain ⟨cur, T, hh⟩ := hp
        exact (Array.getElem?_eq_some_iff.1 hh).1
      refine .inr ⟨g, o, c, λ j h => K j h /\ h < w.heap.size, hv, ⟨hg, hgl⟩, hp, λ j h hj => ⟨⟨(hK j h hj.1).1, hj.2⟩, (hK j h hj.1).2⟩, λ i j h hi hj => hd i j h hi.1 hj.1, λ j k l a hj => ?_⟩
      obtain ⟨hl', u, he, h4⟩ := hc j k l a hj
      exact ⟨hl', u, he, h4.inside⟩
theorem CnV.kept {w w' : World} {xu vc : Value} {c : Cx} (h : CnV w xu vc c) (hb : Below w.heap.size w w') : CnV w' xu vc c := by
  obtain ⟨h1, ⟨n, h2⟩, h3⟩ := h
  exact ⟨h1, ⟨n, h2.mono hb hb.size⟩, h3.below hb hb.size⟩
theorem CnO.kept {w w' : World} {xu vc : Value} {c : Cx} (h : CnO w xu vc c) (hb : Below w.heap.size w w') : CnO w' xu vc c := by
  obtain ⟨h1, ⟨n, S, h2, h4⟩, h3⟩ := h
  exact ⟨h1, ⟨n, S, h2.mono (λ g hg => hb.block g (h4 g hg)) (λ _ h => h), λ g hg => Nat.lt_of_lt_of_le (h4 g hg) hb.size⟩, h3.kept hb⟩
theorem CnO.shape {w : World} {xu vc : Value} {c : Cx} (h : CnO w xu vc c) : ∃ A m B r, xu = .slice A c.xa.items.length m /\ vc = .slice B c.cs.length r := by
  obtain ⟨_, ⟨n, h2⟩, h3⟩ := h.read
  obtain ⟨A, m, e1⟩ := SlP.shape h2
  obtain ⟨B, r, e2⟩ := h3.shape
  rw [ints_length] at e2
  exact ⟨A, m, B, r, e1, e2⟩
theorem CnV.shape {w : World} {xu vc : Value} {c : Cx} (h : CnV w xu vc c) : ∃ A m B r, xu = .slice A c.xa.items.length m /\ vc = .slice B c.cs.length r := by
  obtain ⟨_, ⟨n, h2⟩, h3⟩ := h
  obtain ⟨A, m, e1⟩ := SlP.shape h2
  obtain ⟨B, r, e2⟩ := h3.shape
  rw [ints_length] at e2
  exact ⟨A, m, B, r, e1, e2⟩
def CnT (w : World) (S : Nat -> Prop) (xu vc : Value) (c : Cx) : Prop :=
  (c.l.size <= maxI /\ c.r.size <= maxI /\ c.xl.size <= maxI) /\ ∃ n SX SC, SlT w n SX xu c.xa /\ RowO w SC vc (ints c.cs) /\ (∀ g, SX g -> S g /\ ¬ SC g) /\ (∀ g, SC g -> S g)
theorem CnT.con {w : World} {S : Nat -> Prop} {xu vc : Value} {c : Cx} (h : CnT w S xu vc c) : CnO w xu vc c := by
  obtain ⟨h1, n, SX, SC, h2, h3, _, _⟩ := h
  exact ⟨h1, ⟨n, _, h2.inside, λ g hg => hg.2⟩, h3.any λ _ _ => trivial⟩
theorem CnT.mono {w w' : World} {S S' : Nat -> Prop} {xu vc : Value} {c : Cx} (h : CnT w S xu vc c) (hs : ∀ g, S g -> w'.heap[g]? = w.heap[g]?) (hS : ∀ g, S g -> S' g) : CnT w' S' xu vc c := by
  obtain ⟨h1, n, SX, SC, h2, h3, h4, h5⟩ := h
  exact ⟨h1, n, SX, SC, h2.mono (λ g hg => hs g (h4 g hg).1) (λ _ h => h), h3.mono (λ g hg => hs g (h5 g hg)) (λ _ h => h), λ g hg => ⟨hS g (h4 g hg).1, (h4 g hg).2⟩, λ g hg => hS g (h5 g hg)⟩
theorem CnT.kept {w w' : World} {S : Nat -> Prop} {xu vc : Value} {c : Cx} (h : CnT w S xu vc c) (hS : ∀ g, S g -> g < w.heap.size) (hb : Below w.heap.size w w') : CnT w' S xu vc c :=
  h.mono (λ g hg => hb.block g (hS g hg)) (λ _ h => h)
theorem CnT.chg {w w' : World} {S S' : Nat -> Prop} {xu vc : Value} {c : Cx} (h : CnT w S xu vc c) (hS : ∀ g, S g -> g < w.heap.size) (hc : Chg S' w w') (hn : ∀ g, S g -> ¬ S' g) : CnT w' S xu vc c :=
  h.mono (λ g hg => hc.block g (hS g hg) (hn g hg)) (λ _ h => h)
theorem CnT.shape {w : World} {S : Nat -> Prop} {xu vc : Value} {c : Cx} (h : CnT w S xu vc c) : ∃ A m B r, xu = .slice A c.xa.items.length m /\ vc = .slice B c.cs.length r := h.con.shape
theorem CnT.leaf (w : World) (S : Nat -> Prop) (A B : Option Addr) (m r : Nat) (c : Cx) (hl : c.l.size <= maxI) (hr : c.r.size <= maxI) (hx : c.xl.size <= maxI) (ha : c.xa = .nil) (hc : c.cs = []) : CnT w S (.slice A 0 m) (.slice B 0 r) c := by
  refine ⟨⟨hl, hr, hx⟩, 1, λ _ => False, λ _ => False, ?_, ?_, λ _ h => h.elim, λ _ h => h.elim⟩
  . rw [ha]
    exact SlT.none w 0 _ A m
  . rw [hc]
    exact RowO.nil w _ B r
def cxA (c : Cx) (xu vc : Value) : Array Value := #[.int .i64 c.k, .string c.l, .string c.r, .int .i64 c.xk, .string c.xl, xu, vc, .int .i64 c.b]
def BoxC (w : World) (g : Nat) (c : Cx) (xu vc : Value) : Prop := ∃ t, w.heap[g]? = some (.cells (cxA c xu vc) t (0, 0))
def CellC (w : World) (g : Nat) (c : Cx) (xu vc : Value) : Prop :=
  w.cell? ⟨g, 0, none⟩ = some (.int .i64 c.k) /\ w.cell? ⟨g, 1, none⟩ = some (.string c.l) /\ w.cell? ⟨g, 2, none⟩ = some (.string c.r) /\ w.cell? ⟨g, 3, none⟩ = some (.int .i64 c.xk) /\
  w.cell? ⟨g, 4, none⟩ = some (.string c.xl) /\ w.cell? ⟨g, 5, none⟩ = some xu /\ w.cell? ⟨g, 6, none⟩ = some vc /\ w.cell? ⟨g, 7, none⟩ = some (.int .i64 c.b)
theorem BoxC.cells {w : World} {g : Nat} {c : Cx} {xu vc : Value} (h : BoxC w g c xu vc) : CellC w g c xu vc := by
  obtain ⟨t, h⟩ := h
  have k := λ j => cell_of_row w g j _ t (0, 0) h
  exact ⟨(k 0).trans rfl, (k 1).trans rfl, (k 2).trans rfl, (k 3).trans rfl, (k 4).trans rfl, (k 5).trans rfl, (k 6).trans rfl, (k 7).trans rfl⟩
theorem BoxC.frozen {w : World} {g : Nat} {c : Cx} {xu vc : Value} (h : BoxC w g c xu vc) (j : Nat) : w.frozen? ⟨g, j, none⟩ = false := by
  obtain ⟨t, h⟩ := h
  exact frozen_of_row w g j _ t h
theorem BoxC.lt {w : World} {g : Nat} {c : Cx} {xu vc : Value} (h : BoxC w g c xu vc) : g < w.heap.size := by
  obtain ⟨t, h⟩ := h
  exact (Array.getElem?_eq_some_iff.1 h).1
theorem BoxC.below {w w' : World} {g B : Nat} {c : Cx} {xu vc : Value} (h : BoxC w g c xu vc) (hb : Below B w w') (hg : g < B) : BoxC w' g c xu vc := by
  obtain ⟨t, h⟩ := h
  exact ⟨t, (hb.block g hg).trans h⟩
theorem BoxC.kept {w w' : World} {g : Nat} {c : Cx} {xu vc : Value} (h : BoxC w g c xu vc) (hb : Below w.heap.size w w') : BoxC w' g c xu vc := h.below hb h.lt
theorem BoxC.chg {w w' : World} {S : Nat -> Prop} {g : Nat} {c : Cx} {xu vc : Value} (h : BoxC w g c xu vc) (hc : Chg S w w') (hn : ¬ S g) : BoxC w' g c xu vc := by
  have hl := h.lt
  obtain ⟨t, h⟩ := h
  exact ⟨t, (hc.block g hl hn).trans h⟩
theorem boxC_new (w : World) (c : Cx) (xu vc : Value) (t : TypeId) : BoxC (w.alloc (.cells #[.int .i64 c.k, .string c.l, .string c.r, .int .i64 c.xk, .string c.xl, xu, vc, .int .i64 c.b] t)) w.heap.size c xu vc :=
  ⟨t, heap_alloc_new w _⟩
def CopyC (c : Cx) (w : World) (e : Ending) (w' : World) : Prop :=
  ∃ xu vc, e = .returned (.agg #[.int .i64 c.k, .string c.l, .string c.r, .int .i64 c.xk, .string c.xl, xu, vc, .int .i64 c.b]) /\ CnT w' (OwnB w w') xu vc c /\ Below w.heap.size w w'
theorem CopyC.shape {c : Cx} {w w' : World} {e : Ending} (h : CopyC c w e w') : ∃ A m B r, e = .returned (.agg #[.int .i64 c.k, .string c.l, .string c.r, .int .i64 c.xk, .string c.xl, .slice A c.xa.items.length m, .slice B c.cs.length r, .int .i64 c.b]) /\ CnT w' (OwnB w w') (.slice A c.xa.items.length m) (.slice B c.cs.length r) c /\ Below w.heap.size w w' := by
  obtain ⟨xu, vc, rfl, h2, h3⟩ := h
  obtain ⟨A, m, B, r, rfl, rfl⟩ := h2.shape
  exact ⟨A, m, B, r, rfl, h2, h3⟩
def CopyCB (c : Cx) (b : Bool) (w : World) (e : Ending) (w' : World) : Prop :=
  ∃ xu vc, e = .returned (.tuple #[.agg #[.int .i64 c.k, .string c.l, .string c.r, .int .i64 c.xk, .string c.xl, xu, vc, .int .i64 c.b], .bool b]) /\ CnT w' (OwnB w w') xu vc c /\ Below w.heap.size w w'
theorem CopyCB.shape {c : Cx} {b : Bool} {w w' : World} {e : Ending} (h : CopyCB c b w e w') : ∃ A m B r, e = .returned (.tuple #[.agg #[.int .i64 c.k, .string c.l, .string c.r, .int .i64 c.xk, .string c.xl, .slice A c.xa.items.length m, .slice B c.cs.length r, .int .i64 c.b], .bool b]) /\ CnT w' (OwnB w w') (.slice A c.xa.items.length m) (.slice B c.cs.length r) c /\ Below w.heap.size w w' := by
  obtain ⟨xu, vc, rfl, h2, h3⟩ := h
  obtain ⟨A, m, B, r, rfl, rfl⟩ := h2.shape
  exact ⟨A, m, B, r, rfl, h2, h3⟩
end Go.Proofs.YtppliiingoonlaaGreatDoor
namespace Go.Proofs.YtppliiingoonlaaGreatDoor
open Go.RowKit
theorem list8 {α : Type} : ∀ (l : List α), l.length = 8 -> ∃ a b c d e f g h, l = [a, b, c, d, e, f, g, h]
  | [a, b, c, d, e, f, g, h], _ => ⟨a, b, c, d, e, f, g, h, rfl⟩
theorem set8 {α : Type} (y : Array α) (hy : y.size = 8) (k0 k1 k2 k3 k4 k5 k6 k7 : α) :
    (((((((y.setIfInBounds 0 k0).setIfInBounds 1 k1).setIfInBounds 2 k2).setIfInBounds 3 k3).setIfInBounds 4 k4).setIfInBounds 5 k5).setIfInBounds 6 k6).setIfInBounds 7 k7 = #[k0, k1, k2, k3, k4, k5, k6, k7] := by
  obtain ⟨l⟩ := y
  obtain ⟨a, b, c, d, e, f, g, h, hl⟩ := list8 l hy
  rw [hl]
  simp only [List.setIfInBounds_toArray, List.set_cons_zero, List.set_cons_succ]
def put8 (w1 : World) (g : Nat) (k0 k1 k2 k3 k4 k5 k6 k7 : Value) : World :=
  (((((((w1.setCell ⟨g, 0, none⟩ k0).setCell ⟨g, 1, none⟩ k1).setCell ⟨g, 2, none⟩ k2).setCell ⟨g, 3, none⟩ k3).setCell ⟨g, 4, none⟩ k4).setCell ⟨g, 5, none⟩ k5).setCell ⟨g, 6, none⟩ k6).setCell ⟨g, 7, none⟩ k7
section
variable {w1 : World} {g : Nat} {y : Array Value} {t : TypeId} {k0 k1 k2 k3 k4 k5 k6 k7 : Value}
theorem put8_box (hb : w1.heap[g]? = some (.cells y t (0, 0))) (hy : y.size = 8) : (put8 w1 g k0 k1 k2 k3 k4 k5 k6 k7).heap[g]? = some (.cells #[k0, k1, k2, k3, k4, k5, k6, k7] t (0, 0)) := by
  have h0 := heap_setCell_same w1 g 0 _ _ k0 hb
  have h1 := heap_setCell_same _ g 1 _ _ k1 h0
  have h2 := heap_setCell_same _ g 2 _ _ k2 h1
  have h3 := heap_setCell_same _ g 3 _ _ k3 h2
  have h4 := heap_setCell_same _ g 4 _ _ k4 h3
  have h5 := heap_setCell_same _ g 5 _ _ k5 h4
  have h6 := heap_setCell_same _ g 6 _ _ k6 h5
  have h7 := heap_setCell_same _ g 7 _ _ k7 h6
  rw [set8 y hy] at h7
  exact h7
theorem put8_size : (put8 w1 g k0 k1 k2 k3 k4 k5 k6 k7).heap.size = w1.heap.size := by simp [put8, World.setCell]
theorem put8_other {h : Nat} (hh : h ≠ g) : (put8 w1 g k0 k1 k2 k3 k4 k5 k6 k7).heap[h]? = w1.heap[h]? :=
  (Below.heap_setCell _ _ _ h hh).trans ((Below.heap_setCell _ _ _ h hh).trans ((Below.heap_setCell _ _ _ h hh).trans ((Below.heap_setCell _ _ _ h hh).trans ((Below.heap_setCell _ _ _ h hh).trans ((Below.heap_setCell _ _ _ h hh).trans ((Below.heap_setCell _ _ _ h hh).trans (Below.heap_setCell _ _ _ h hh)))))))
theorem put8_below {B : Nat} {w : World} (hb : Below B w w1) (hB : B <= g) : Below B w (put8 w1 g k0 k1 k2 k3 k4 k5 k6 k7) :=
  (((((((hb.setCell (p := ⟨g, 0, none⟩) hB _).setCell (p := ⟨g, 1, none⟩) hB _).setCell (p := ⟨g, 2, none⟩) hB _).setCell (p := ⟨g, 3, none⟩) hB _).setCell (p := ⟨g, 4, none⟩) hB _).setCell (p := ⟨g, 5, none⟩) hB _).setCell (p := ⟨g, 6, none⟩) hB _).setCell (p := ⟨g, 7, none⟩) hB _
end
theorem copyC_end {w X : World} {y : Array Value} {t : TypeId} {c : Cx} {xu vc : Value} (hb : X.heap[w.heap.size]? = some (.cells y t (0, 0))) (hy : y.size = 8) (ht : CnT X (λ h => w.heap.size < h /\ h < X.heap.size) xu vc c) (hbx : Below w.heap.size w X) :
    CellC (put8 X w.heap.size (.int .i64 c.k) (.string c.l) (.string c.r) (.int .i64 c.xk) (.string c.xl) xu vc (.int .i64 c.b)) w.heap.size c xu vc /\
    CopyC c w (.returned (.agg #[.int .i64 c.k, .string c.l, .string c.r, .int .i64 c.xk, .string c.xl, xu, vc, .int .i64 c.b])) (put8 X w.heap.size (.int .i64 c.k) (.string c.l) (.string c.r) (.int .i64 c.xk) (.string c.xl) xu vc (.int .i64 c.b)) := by
  have h1 := put8_box (k0 := .int .i64 c.k) (k1 := .string c.l) (k2 := .string c.r) (k3 := .int .i64 c.xk) (k4 := .string c.xl) (k5 := xu) (k6 := vc) (k7 := .int .i64 c.b) hb hy
  refine ⟨BoxC.cells ⟨t, h1⟩, xu, vc, rfl, ht.mono (λ g hg => put8_other (by omega)) (λ g hg => ⟨by omega, by rw [put8_size]; exact hg.2⟩), put8_below hbx (Nat.le_refl _)⟩
theorem CnT.num {w : World} {S SC : Nat -> Prop} {vc : Value} {c : Cx} {A : Option Addr} {m : Nat} (hl : c.l.size <= maxI) (hr : c.r.size <= maxI) (hx : c.xl.size <= maxI) (ha : c.xa = .nil) (hc : RowO w SC vc (ints c.cs)) (hS : ∀ g, SC g -> S g) : CnT w S (.slice A 0 m) vc c := by
  refine ⟨⟨hl, hr, hx⟩, 1, λ _ => False, SC, ?_, hc, λ _ h => h.elim, hS⟩
  rw [ha]
  exact SlT.none w 0 _ A m
end Go.Proofs.YtppliiingoonlaaGreatDoor
namespace Go.Proofs.YtppliiingoonlaaGreatDoor
open Go.RowKit
def CxAt (w : World) (g o : Nat) (c : Cx) (xu vc : Value) : Prop :=
  w.cell? ⟨g, o, none⟩ = some (.int .i64 c.k) /\ w.cell? ⟨g, o + 1, none⟩ = some (.string c.l) /\ w.cell? ⟨g, o + 2, none⟩ = some (.string c.r) /\ w.cell? ⟨g, o + 3, none⟩ = some (.int .i64 c.xk) /\
  w.cell? ⟨g, o + 4, none⟩ = some (.string c.xl) /\ w.cell? ⟨g, o + 5, none⟩ = some xu /\ w.cell? ⟨g, o + 6, none⟩ = some vc /\ w.cell? ⟨g, o + 7, none⟩ = some (.int .i64 c.b)
theorem CxAt.same {w w' : World} {g o : Nat} {c : Cx} {xu vc : Value} (h : CxAt w g o c xu vc) (hs : w'.heap[g]? = w.heap[g]?) : CxAt w' g o c xu vc := by
  have k : ∀ j v, w.cell? ⟨g, j, none⟩ = some v -> w'.cell? ⟨g, j, none⟩ = some v := λ j v h => (World.cell?_of_block (a := ⟨g, j, none⟩) hs).trans h
  exact ⟨k _ _ h.1, k _ _ h.2.1, k _ _ h.2.2.1, k _ _ h.2.2.2.1, k _ _ h.2.2.2.2.1, k _ _ h.2.2.2.2.2.1, k _ _ h.2.2.2.2.2.2.1, k _ _ h.2.2.2.2.2.2.2⟩
theorem CxAt.below {w w' : World} {B g o : Nat} {c : Cx} {xu vc : Value} (h : CxAt w g o c xu vc) (hb : Below B w w') (hg : g < B) : CxAt w' g o c xu vc := h.same (hb.block g hg)
theorem CxAt.lt {w : World} {g o : Nat} {c : Cx} {xu vc : Value} (h : CxAt w g o c xu vc) : g < w.heap.size := World.block_lt_of_cell? w _ h.1
def PrR (Q : World -> Value -> Value -> Cx -> Prop) (w : World) (v : Value) (ps : List Cx) : Prop :=
  ps.length <= maxI /\ ((ps.length = 0 /\ ∃ A m, v = .slice A 0 m) \/ ∃ g o m, v = .slice (some ⟨g, o, none⟩) ps.length m /\ ∀ (j : Nat) (c : Cx), ps[j]? = some c -> ∃ xu vc, CxAt w g (o + j * 8) c xu vc /\ Q w xu vc c)
theorem PrR.kept {Q : World -> Value -> Value -> Cx -> Prop} {w w' : World} {v : Value} {ps : List Cx} (h : PrR Q w v ps) (hb : Below w.heap.size w w') (hQ : ∀ xu vc c, Q w xu vc c -> Q w' xu vc c) : PrR Q w' v ps := by
  obtain ⟨hl, h⟩ := h
  refine ⟨hl, h.imp id ?_⟩
  rintro ⟨g, o, m, hv, hc⟩
  refine ⟨g, o, m, hv, λ j c hj => ?_⟩
  obtain ⟨xu, vc, ha, hq⟩ := hc j c hj
  exact ⟨xu, vc, ha.below hb ha.lt, hQ _ _ _ hq⟩
theorem PrR.shape {Q : World -> Value -> Value -> Cx -> Prop} {w : World} {v : Value} {ps : List Cx} (h : PrR Q w v ps) : ∃ A m, v = .slice A ps.length m := by
  rcases h.2 with ⟨h0, A, m, hv⟩ | ⟨g, o, m, hv, _⟩
  . exact ⟨A, m, by rw [hv, h0]⟩
  . exact ⟨_, m, hv⟩
theorem PrR.at {Q : World -> Value -> Value -> Cx -> Prop} {w : World} {A : Option Addr} {n m : Nat} {ps : List Cx} (h : PrR Q w (.slice A n m) ps) {j : Nat} (hj : j < ps.length) :
    ∃ g o, A = some ⟨g, o, none⟩ /\ ∃ c xu vc, ps[j]? = some c /\ CxAt w g (o + j * 8) c xu vc /\ Q w xu vc c := by
  rcases h.2 with ⟨h0, _⟩ | ⟨g, o, m', hv, hc⟩
  . omega
  . cases hv
    have hx := List.getElem?_eq_getElem hj
    obtain ⟨xu, vc, ha, hq⟩ := hc j _ hx
    exact ⟨g, o, rfl, _, xu, vc, hx, ha, hq⟩
def PrV : World -> Value -> List Cx -> Prop := PrR CnV
def PrO : World -> Value -> List Cx -> Prop := PrR CnO
theorem PrV.kept {w w' : World} {v : Value} {ps : List Cx} (h : PrV w v ps) (hb : Below w.heap.size w w') : PrV w' v ps := PrR.kept h hb (λ _ _ _ h => CnV.kept h hb)
theorem PrO.kept {w w' : World} {v : Value} {ps : List Cx} (h : PrO w v ps) (hb : Below w.heap.size w w') : PrO w' v ps := PrR.kept h hb (λ _ _ _ h => CnO.kept h hb)
theorem PrV.shape {w : World} {v : Value} {ps : List Cx} (h : PrV w v ps) : ps.length <= maxI /\ ∃ A m, v = .slice A ps.length m := ⟨h.1, PrR.shape h⟩
theorem PrO.shape {w : World} {v : Value} {ps : List Cx} (h : PrO w v ps) : ps.length <= maxI /\ ∃ A m, v = .slice A ps.length m := ⟨h.1, PrR.shape h⟩
def PrT (w : World) (S : Nat -> Prop) (v : Value) (ps : List Cx) : Prop :=
  ps.length <= maxI /\ ((ps.length = 0 /\ ∃ A m, v = .slice A 0 m) \/ ∃ (g o m : Nat) (K : Nat -> Nat -> Prop), v = .slice (some ⟨g, o, none⟩) ps.length m /\ S g /\ Plain w g /\
    (∀ j h, K j h -> S h /\ h ≠ g) /\ (∀ i j h, K i h -> K j h -> i = j) /\ ∀ (j : Nat) (c : Cx), ps[j]? = some c -> ∃ xu vc, CxAt w g (o + j * 8) c xu vc /\ CnT w (K j) xu vc c)
theorem PrT.own {w : World} {S : Nat -> Prop} {v : Value} {ps : List Cx} (h : PrT w S v ps) : PrO w v ps := by
  obtain ⟨hl, h⟩ := h
  refine ⟨hl, h.imp id ?_⟩
  rintro ⟨g, o, m, K, hv, _, _, _, _, hc⟩
  refine ⟨g, o, m, hv, λ j c hj => ?_⟩
  obtain ⟨xu, vc, ha, hq⟩ := hc j c hj
  exact ⟨xu, vc, ha, hq.con⟩
theorem PrT.mono {w w' : World} {S S' : Nat -> Prop} {v : Value} {ps : List Cx} (h : PrT w S v ps) (hs : ∀ g, S g -> w'.heap[g]? = w.heap[g]?) (hS : ∀ g, S g -> S' g) : PrT w' S' v ps := by
  obtain ⟨hl, h⟩ := h
  refine ⟨hl, h.imp id ?_⟩
  rintro ⟨g, o, m, K, hv, hg, hp, hK, hd, hc⟩
  refine ⟨g, o, m, K, hv, hS g hg, hp.same (hs g hg), λ j h hj => ⟨hS h (hK j h hj).1, (hK j h hj).2⟩, hd, λ j c hj => ?_⟩
  obtain ⟨xu, vc, ha, hq⟩ := hc j c hj
  exact ⟨xu, vc, ha.same (hs g hg), hq.mono (λ h hh => hs h (hK j h hh).1) (λ _ h => h)⟩
theorem PrT.kept {w w' : World} {S : Nat -> Prop} {v : Value} {ps : List Cx} (h : PrT w S v ps) (hS : ∀ g, S g -> g < w.heap.size) (hb : Below w.heap.size w w') : PrT w' S v ps :=
  h.mono (λ g hg => hb.block g (hS g hg)) (λ _ h => h)
theorem PrT.chg {w w' : World} {S S' : Nat -> Prop} {v : Value} {ps : List Cx} (h : PrT w S v ps) (hS : ∀ g, S g -> g < w.heap.size) (hc : Chg S' w w') (hn : ∀ g, S g -> ¬ S' g) : PrT w' S v ps :=
  h.mono (λ g hg => hc.block g (hS g hg) (hn g hg)) (λ _ h => h)
theorem PrT.shape {w : World} {S : Nat -> Prop} {v : Value} {ps : List Cx} (h : PrT w S v ps) : ps.length <= maxI /\ ∃ A m, v = .slice A ps.length m := h.own.shape
theorem PrT.none (w : World) (S : Nat -> Prop) (A : Option Addr) (m : Nat) : PrT w S (.slice A 0 m) [] := ⟨Nat.zero_le _, .inl ⟨rfl, A, m, rfl⟩⟩
def CopyPI (ps : List Cx) (n : Int) (w : World) (e : Ending) (w' : World) : Prop :=
  ∃ A m, e = .returned (.tuple #[.agg #[.slice A ps.length m], .int .i64 n]) /\ PrT w' (OwnB w w') (.slice A ps.length m) ps /\ Below w.heap.size w w'
theorem eqIntS_any (v v' : Value) (l : List Int) (S S' : Nat -> Prop) (w : World) (h : RowV w S v (ints l)) (h' : RowV w S' v' (ints l)) :
    Calls Tryz.prog 191 #[v, v'] w λ e w' => e = .returned (.bool true) /\ ∃ m, w' = w.drewN m := by
  have hl := h.1
  rw [ints_length] at hl
  obtain ⟨A, c, rfl⟩ := h.shape
  obtain ⟨A', c', rfl⟩ := h'.shape
  have HE := Lib.hid (λ j (hj : j < l.length) => h.at (j := j) (by rw [ints_length]; exact hj))
  have HE' := Lib.hid (λ j (hj : j < l.length) => h'.at (j := j) (by rw [ints_length]; exact hj))
  clear h h'
  rw [ints_length]
  go_enter Tryz.func191, Tryz.ntmps191
  go_wp2_with fail
  go_loopw [5] (λ i wr => ∃ j m : Nat, i = .int .i64 j /\ j <= l.length /\ wr = w.drewN m) (λ i _ => l.length - (intOf i).toNat)
  case atStart => exact ⟨0, 0, rfl, Nat.zero_le _, rfl⟩
  case round =>
    obtain ⟨j, m, rfl, hj, rfl⟩ := hrel
    by_cases hlt : j < l.length
    . obtain ⟨ad, rfl, -, hc1⟩ := HE.out j hlt
      obtain ⟨ad', rfl, -, hc2⟩ := HE'.out j hlt
      rw [ints_at hlt] at hc1 hc2
      obtain ⟨x, hx⟩ : ∃ x, x = l[j] := ⟨_, rfl⟩
      rw [<- hx] at hc1 hc2
      clear hx
      have hne : (x != x) = false := by simp
      go_wp2_with fail
      go_quiet (fail)
      all_goals go_wp2
      all_goals
        go_roundw
        case rel => exact ⟨j + 1, _, by go_num, by omega, rfl⟩
        case measure => simp [intOf]; omega
    . go_wp2_with fail
      go_ret
      exact ⟨rfl, m, rfl⟩
theorem eqIntS_b (v v' : Value) (l : List Int) (S S' : Nat -> Prop) (w : World) (h : RowV w S v (ints l)) (h' : RowV w S' v' (ints l)) :
    Calls Tryz.prog 191 #[v, v'] w λ e w' => e = .returned (.bool true) /\ Below w.heap.size w w' :=
  (eqIntS_any v v' l S S' w h h').mono λ _ _ ⟨he, m, hm⟩ => ⟨he, by rw [hm]; exact below_draws (Below.refl _ _) m⟩
theorem markIntS_any (k0 : Nat) (v : Value) (l : List Int) (S : Nat -> Prop) (w : World) (h : RowO w S v (ints l)) (hn : l.length <= 2097152) (hk : k0 <= 16777216) :
    Calls Tryz.prog 148 #[v, .int .i64 (k0 : Int)] w λ e w' => e = .returned (.int .i64 ((k0 + l.length : Nat) : Int)) /\ RowO w' S v (ints (intMark k0 l.length)) /\ Chg S w w' /\ w'.heap.size = w.heap.size := by
  obtain ⟨A, c, rfl⟩ := h.shape
  rw [ints_length] at h ⊢
  have HL := Lib.hid (ints_length l)
  obtain ⟨xs, hxs⟩ : ∃ xs, xs = ints l := ⟨_, rfl⟩
  obtain ⟨n, hne⟩ : ∃ n, n = l.length := ⟨_, rfl⟩
  rw [<- hxs] at h HL
  rw [<- hne] at h HL hn ⊢
  clear hxs hne
  go_enter Tryz.func148, Tryz.ntmps148
  go_wp2_with fail
  go_loopw [1, 5] (λ y i wr => ∃ j : Nat, i = .int .i64 j /\ y = .int .i64 ((k0 + j : Nat) : Int) /\ j <= n /\ RowO wr S (.slice A n c) ((List.range j).map (λ (j : Nat) => .int .i64 (((k0 + j : Nat) : Int))) ++ xs.drop j) /\ Chg S w wr /\ wr.heap.size = w.heap.size) (λ _ i _ => n - (intOf i).toNat)
  case atStart => exact ⟨0, rfl, rfl, Nat.zero_le _, h, Chg.refl _ _, rfl⟩
  case round =>
    obtain ⟨j, rfl, rfl, hj, ho, hc, hzs⟩ := hrel
    by_cases hlt : j < n
    . obtain ⟨g, rfl, hS, hgl, hst⟩ := ho.set (j := j) (by have := HL.out; simp; omega)
      obtain ⟨⟨x0, hx0⟩, hf0, hset⟩ := hst wr rfl
      have HS := Lib.hid (hset (.int .i64 (((k0 + j : Nat) : Int))))
      have HC := Lib.hid (hc.set (a := ⟨g, j, none⟩) hS (.int .i64 (((k0 + j : Nat) : Int))))
      have hzs' : (wr.setCell ⟨g, j, none⟩ (.int .i64 (((k0 + j : Nat) : Int)))).heap.size = w.heap.size := by simpa [World.setCell] using hzs
      have HZ := Lib.hid hzs'
      clear h hset hst ho hc hzs'
      go_wp2_with fail
      go_roundw
      case rel =>
        refine ⟨j + 1, by go_num, by go_num, by omega, ?_, HC.out, HZ.out⟩
        have := HS.out
        rw [set_step (λ j => (.int .i64 (((k0 + j : Nat) : Int)) : Value)) xs j (by rw [HL.out]; exact hlt)] at this
        exact this
      case measure => simp [intOf]; omega
    . obtain rfl : j = n := by omega
      have h1 : RowO wr S (.slice A j c) (ints (intMark k0 j)) := by
        rw [List.drop_eq_nil_of_le (by rw [HL.out]; exact Nat.le_refl _), List.append_nil] at ho
        have e : ints (intMark k0 j) = (List.range j).map (λ (j : Nat) => (.int .i64 (((k0 + j : Nat) : Int)) : Value)) := by simp [ints, intMark, Function.comp_def]
        rw [e]
        exact ho
      have H1 := Lib.hid (And.intro h1 hc)
      clear h h1 ho hc
      go_wp2_with fail
      go_ret
      exact ⟨rfl, H1.out.1, H1.out.2, hzs⟩
theorem eqC_any (c : Cx) (xu vc xu' vc' : Value) (w : World) (h : CnO w xu vc c) (h' : CnO w xu' vc' c) :
    Calls Tryz.prog 144 #[.agg #[.int .i64 c.k, .string c.l, .string c.r, .int .i64 c.xk, .string c.xl, xu, vc, .int .i64 c.b], .agg #[.int .i64 c.k, .string c.l, .string c.r, .int .i64 c.xk, .string c.xl, xu', vc', .int .i64 c.b]] w λ e w' => e = .returned (.bool true) /\ Below w.heap.size w w' := by
  obtain ⟨A, m, B, r, rfl, rfl⟩ := h.shape
  obtain ⟨A', m', B', r', rfl, rfl⟩ := h'.shape
  obtain ⟨W, hW⟩ : ∃ W, W = (w.alloc (.cells #[.int .i64 c.k, .string c.l, .string c.r, .int .i64 c.xk, .string c.xl, .slice A c.xa.items.length m, .slice B c.cs.length r, .int .i64 c.b] 29)).alloc (.cells #[.int .i64 c.k, .string c.l, .string c.r, .int .i64 c.xk, .string c.xl, .slice A' c.xa.items.length m', .slice B' c.cs.length r', .int .i64 c.b] 29) := ⟨_, rfl⟩
  have hb0 : Below w.heap.size w W := by rw [hW]; exact ((Below.refl _ _).alloc (Nat.le_refl _) _).alloc (by simp) _
  have hbx : BoxC W w.heap.size c (.slice A c.xa.items.length m) (.slice B c.cs.length r) := by
    rw [hW]
    exact (boxC_new w c _ _ _).kept ((Below.refl _ _).alloc (Nat.le_refl _) _)
  have hby : BoxC W (w.heap.size + 1) c (.slice A' c.xa.items.length m') (.slice B' c.cs.length r') := by
    rw [hW]
    have := boxC_new (w.alloc (.cells #[.int .i64 c.k, .string c.l, .string c.r, .int .i64 c.xk, .string c.xl, .slice A c.xa.items.length m, .slice B c.cs.length r, .int .i64 c.b] 29)) c (.slice A' c.xa.items.length m') (.slice B' c.cs.length r') 29
    rw [World.size_alloc] at this
    exact this
  have HWE := Lib.hid hW
  have HB0 := Lib.hid hb0
  have HCX := Lib.hid (λ (V : World) (hb : Below W.heap.size W V) => (hbx.kept hb).cells)
  have HCY := Lib.hid (λ (V : World) (hb : Below W.heap.size W V) => (hby.kept hb).cells)
  have HEX := Lib.hid (by
    obtain ⟨_, ⟨n, hS⟩, _⟩ := (h.kept hb0).read
    obtain ⟨_, ⟨n', hS'⟩, _⟩ := (h'.kept hb0).read
    exact eqNode_of (n := n) (m := n') (λ B u u' f w => eqS_any n n' B u u' f w) W.heap.size c.xk c.xl (.slice A c.xa.items.length m) (.slice A' c.xa.items.length m') c.xa W hS hS' (Nat.le_refl _))
  have HEI := Lib.hid (λ (V : World) (hb : Below W.heap.size W V) => eqIntS_b _ _ c.cs _ _ V ((h.kept (hb0.trans (hb.mono hb0.size))).2.2).row ((h'.kept (hb0.trans (hb.mono hb0.size))).2.2).row)
  have hcx := hbx.cells
  have hcy := hby.cells
  rw [hW] at hcx hcy
  obtain ⟨c0, c1, c2, c3, c4, c5, c6, c7⟩ := hcx
  obtain ⟨d0, d1, d2, d3, d4, d5, d6, d7⟩ := hcy
  have n1 : (c.k != c.k) = false := bne_self_eq_false _
  have n2 : (c.l.toList != c.l.toList) = false := bne_self_eq_false _
  have n3 : (c.r.toList != c.r.toList) = false := bne_self_eq_false _
  have n4 : (c.b != c.b) = false := bne_self_eq_false _
  clear hW hb0 hbx hby h h'
  go_enter Tryz.func144, Tryz.ntmps144
  go_wp2_with fail
  rw [<- HWE.out]
  refine HEX.out.mono ?_
  rintro e w1 ⟨rfl, hb1⟩
  have HB1 := Lib.hid hb1
  clear hb1 c0 c1 c2 c3 c4 c5 c6 c7 d0 d1 d2 d3 d4 d5 d6 d7
  obtain ⟨c0, c1, c2, c3, c4, c5, c6, c7⟩ := HCX.out w1 HB1.out
  obtain ⟨d0, d1, d2, d3, d4, d5, d6, d7⟩ := HCY.out w1 HB1.out
  go_wp2_with fail
  refine (HEI.out w1 HB1.out).mono ?_
  rintro e w2 ⟨rfl, hb2⟩
  have HB2 := Lib.hid (HB1.out.trans (hb2.mono HB1.out.size))
  clear hb2 c0 c1 c2 c3 c4 c5 c6 c7 d0 d1 d2 d3 d4 d5 d6 d7
  obtain ⟨c0, c1, c2, c3, c4, c5, c6, c7⟩ := HCX.out w2 HB2.out
  obtain ⟨d0, d1, d2, d3, d4, d5, d6, d7⟩ := HCY.out w2 HB2.out
  go_wp2_with fail
  go_ret
  exact ⟨rfl, HB0.out.trans (HB2.out.mono HB0.out.size)⟩
end Go.Proofs.YtppliiingoonlaaGreatDoor
namespace Go.Proofs.YtppliiingoonlaaGreatDoor
open Go.RowKit
theorem cxInfo : (Tryz.prog.info? 29).map (λ i => (i.zero, i.size, i.bytes)) = some (some (.agg #[.int .i64 0, .string ⟨#[]⟩, .string ⟨#[]⟩, .int .i64 0, .string ⟨#[]⟩, .slice none 0 0, .slice none 0 0, .int .i64 0]), 8, 120) := by kernel_rfl
def put8o (w1 : World) (g o : Nat) (k0 k1 k2 k3 k4 k5 k6 k7 : Value) : World :=
  (((((((w1.setCell ⟨g, o, none⟩ k0).setCell ⟨g, o + 1, none⟩ k1).setCell ⟨g, o + 2, none⟩ k2).setCell ⟨g, o + 3, none⟩ k3).setCell ⟨g, o + 4, none⟩ k4).setCell ⟨g, o + 5, none⟩ k5).setCell ⟨g, o + 6, none⟩ k6).setCell ⟨g, o + 7, none⟩ k7
section
variable {w1 : World} {g o : Nat} {y : Array Value} {t : TypeId} {k0 k1 k2 k3 k4 k5 k6 k7 : Value}
theorem put8o_box (hb : w1.heap[g]? = some (.cells y t (0, 0))) : (put8o w1 g o k0 k1 k2 k3 k4 k5 k6 k7).heap[g]? = some (.cells ((((((((y.setIfInBounds o k0).setIfInBounds (o + 1) k1).setIfInBounds (o + 2) k2).setIfInBounds (o + 3) k3).setIfInBounds (o + 4) k4).setIfInBounds (o + 5) k5).setIfInBounds (o + 6) k6).setIfInBounds (o + 7) k7) t (0, 0)) := by
  have h0 := heap_setCell_same w1 g o _ _ k0 hb
  have h1 := heap_setCell_same _ g (o + 1) _ _ k1 h0
  have h2 := heap_setCell_same _ g (o + 2) _ _ k2 h1
  have h3 := heap_setCell_same _ g (o + 3) _ _ k3 h2
  have h4 := heap_setCell_same _ g (o + 4) _ _ k4 h3
  have h5 := heap_setCell_same _ g (o + 5) _ _ k5 h4
  have h6 := heap_setCell_same _ g (o + 6) _ _ k6 h5
  exact heap_setCell_same _ g (o + 7) _ _ k7 h6
theorem put8o_size : (put8o w1 g o k0 k1 k2 k3 k4 k5 k6 k7).heap.size = w1.heap.size := by simp [put8o, World.setCell]
theorem put8o_other {h : Nat} (hh : h ≠ g) : (put8o w1 g o k0 k1 k2 k3 k4 k5 k6 k7).heap[h]? = w1.heap[h]? :=
  (Below.heap_setCell _ _ _ h hh).trans ((Below.heap_setCell _ _ _ h hh).trans ((Below.heap_setCell _ _ _ h hh).trans ((Below.heap_setCell _ _ _ h hh).trans ((Below.heap_setCell _ _ _ h hh).trans ((Below.heap_setCell _ _ _ h hh).trans ((Below.heap_setCell _ _ _ h hh).trans (Below.heap_setCell _ _ _ h hh)))))))
theorem put8o_far (hb : w1.heap[g]? = some (.cells y t (0, 0))) {p : Nat} (hp : p < o \/ o + 7 < p) : (put8o w1 g o k0 k1 k2 k3 k4 k5 k6 k7).cell? ⟨g, p, none⟩ = w1.cell? ⟨g, p, none⟩ := by
  rw [cell_of_row _ g p _ t (0, 0) (put8o_box hb), cell_of_row _ g p _ t (0, 0) hb]
  simp only [Array.getElem?_setIfInBounds]
  repeat rw [if_neg (by omega)]
end
theorem sib_ne {y : Array Value} {i j : Nat} {x : Value} (h : i ≠ j) : (y.setIfInBounds i x)[j]? = y[j]? := Array.getElem?_setIfInBounds_ne h
theorem sib_eq {y : Array Value} {i : Nat} {x : Value} (h : i < y.size) : (y.setIfInBounds i x)[i]? = some x := by simp [h]
theorem put8o_at {w1 : World} {g o : Nat} {y : Array Value} {t : TypeId} (c : Cx) (xu vc : Value) (hb : w1.heap[g]? = some (.cells y t (0, 0))) (hy : o + 8 <= y.size) :
    CxAt (put8o w1 g o (.int .i64 c.k) (.string c.l) (.string c.r) (.int .i64 c.xk) (.string c.xl) xu vc (.int .i64 c.b)) g o c xu vc := by
  have k := λ p => cell_of_row _ g p _ t (0, 0) (put8o_box (o := o) (k0 := .int .i64 c.k) (k1 := .string c.l) (k2 := .string c.r) (k3 := .int .i64 c.xk) (k4 := .string c.xl) (k5 := xu) (k6 := vc) (k7 := .int .i64 c.b) hb)
  refine ⟨(k o).trans ?_, (k (o + 1)).trans ?_, (k (o + 2)).trans ?_, (k (o + 3)).trans ?_, (k (o + 4)).trans ?_, (k (o + 5)).trans ?_, (k (o + 6)).trans ?_, (k (o + 7)).trans ?_⟩
  all_goals
    repeat rw [sib_ne (by omega)]
    exact sib_eq (by first | omega | (simp only [Array.size_setIfInBounds]; omega))
def FilledP (wr : World) (g : Nat) (ps : List Cx) (j m : Nat) : Prop :=
  (∃ cur : Array Value, wr.heap[g]? = some (.cells cur 29 (0, 0)) /\ cur.size = ps.length * 8) /\
    ∃ s : Nat -> Nat, g < s 0 /\ (∀ i, s i <= s (i + 1)) /\ s j <= m /\ m <= wr.heap.size /\ ∀ (i : Nat) (c : Cx), i < j -> ps[i]? = some c -> ∃ xu vc, CxAt wr g (i * 8) c xu vc /\ CnT wr (λ h => s i <= h /\ h < s (i + 1)) xu vc c
theorem FilledP.cells {wr : World} {g : Nat} {ps : List Cx} {j m : Nat} (h : FilledP wr g ps j m) (hj : j < ps.length) :
    (∀ i, i < 8 -> ∃ x, wr.cell? ⟨g, j * 8 + i, none⟩ = some x) /\ ∀ o, wr.frozen? ⟨g, o, none⟩ = false := by
  obtain ⟨⟨cur, hh, hs⟩, _⟩ := h
  exact ⟨λ i hi => ⟨_, (cell_of_row wr g (j * 8 + i) _ _ (0, 0) hh).trans (Array.getElem?_eq_getElem (by omega))⟩, λ o => frozen_of_row wr g o _ _ hh⟩
theorem FilledP.lt {wr : World} {g : Nat} {ps : List Cx} {j m : Nat} (h : FilledP wr g ps j m) : g < wr.heap.size := by
  obtain ⟨⟨cur, hh, _⟩, _⟩ := h
  exact (Array.getElem?_eq_some_iff.1 hh).1
theorem FilledP.below {wr w1 : World} {g : Nat} {ps : List Cx} {j m : Nat} (h : FilledP wr g ps j m) (hb : Below wr.heap.size wr w1) : FilledP w1 g ps j m := by
  have hg := h.lt
  obtain ⟨⟨cur, hh, hs⟩, s, h0, hr, hj, hm, hE⟩ := h
  refine ⟨⟨cur, (hb.block g hg).trans hh, hs⟩, s, h0, hr, hj, Nat.le_trans hm hb.size, λ i c hi hx => ?_⟩
  obtain ⟨xu, vc, ha, ht⟩ := hE i c hi hx
  exact ⟨xu, vc, ha.below hb hg, ht.mono (λ g' hg' => hb.block g' (Nat.lt_of_lt_of_le hg'.2 (Nat.le_trans (rising hr hi) (Nat.le_trans hj hm)))) (λ _ h => h)⟩
theorem FilledP.step {w1 : World} {g m : Nat} {ps : List Cx} {j : Nat} {c : Cx} {xu vc : Value} (h : FilledP w1 g ps j m) (hx : ps[j]? = some c) (ht : CnT w1 (λ h => m <= h /\ h < w1.heap.size) xu vc c) :
    FilledP (put8o w1 g (j * 8) (.int .i64 c.k) (.string c.l) (.string c.r) (.int .i64 c.xk) (.string c.xl) xu vc (.int .i64 c.b)) g ps (j + 1) (put8o w1 g (j * 8) (.int .i64 c.k) (.string c.l) (.string c.r) (.int .i64 c.xk) (.string c.xl) xu vc (.int .i64 c.b)).heap.size := by
  have hlt := (List.getElem?_eq_some_iff.1 hx).1
  obtain ⟨⟨cur, hh, hcs⟩, s, h0, hr, hsj, hm, hE⟩ := h
  have hgs : ∀ i, g < s i := λ i => Nat.lt_of_lt_of_le h0 (rising hr (Nat.zero_le i))
  have hsz := put8o_size (w1 := w1) (g := g) (o := j * 8) (k0 := .int .i64 c.k) (k1 := .string c.l) (k2 := .string c.r) (k3 := .int .i64 c.xk) (k4 := .string c.xl) (k5 := xu) (k6 := vc) (k7 := .int .i64 c.b)
  refine ⟨⟨_, put8o_box hh, by simpa using hcs⟩, cutAt s j w1.heap.size, by rw [cutAt_le (Nat.zero_le _)]; exact h0, λ i => ?_, by rw [cutAt_gt (Nat.lt_succ_self _), hsz]; exact Nat.le_refl _, Nat.le_refl _, λ i c' hi hx' => ?_⟩
  . have := hr i
    by_cases e1 : i + 1 <= j
    . rw [cutAt_le (by omega), cutAt_le e1]; exact this
    . rw [cutAt_gt (by omega : j < i + 1)]
      by_cases e2 : i <= j
      . rw [cutAt_le e2]
        have := rising hr e2
        omega
      . rw [cutAt_gt (by omega)]; exact Nat.le_refl _
  by_cases e : i = j
  . subst e
    rw [hx] at hx'
    cases hx'
    exact ⟨xu, vc, put8o_at c xu vc hh (by omega), ht.mono (λ h hh => put8o_other (by have := hgs i; omega)) (λ h hh => ⟨by rw [cutAt_le (Nat.le_refl _)]; omega, by rw [cutAt_gt (Nat.lt_succ_self _)]; exact hh.2⟩)⟩
  . obtain ⟨xu', vc', ha, ht'⟩ := hE i c' (by omega) hx'
    have f : ∀ p, p < 8 -> ∀ v, w1.cell? ⟨g, i * 8 + p, none⟩ = some v -> (put8o w1 g (j * 8) (.int .i64 c.k) (.string c.l) (.string c.r) (.int .i64 c.xk) (.string c.xl) xu vc (.int .i64 c.b)).cell? ⟨g, i * 8 + p, none⟩ = some v := λ p hp v hv => (put8o_far hh (by omega)).trans hv
    obtain ⟨a0, a1, a2, a3, a4, a5, a6, a7⟩ := ha
    exact ⟨xu', vc', ⟨f 0 (by omega) _ a0, f 1 (by omega) _ a1, f 2 (by omega) _ a2, f 3 (by omega) _ a3, f 4 (by omega) _ a4, f 5 (by omega) _ a5, f 6 (by omega) _ a6, f 7 (by omega) _ a7⟩,
      ht'.mono (λ h hh => put8o_other (by have := hgs i; omega)) (λ h hh => ⟨by rw [cutAt_le (by omega)]; exact hh.1, by rw [cutAt_le (by omega)]; exact hh.2⟩)⟩
theorem copyP_end {w X : World} {r : Nat} {y : Array Value} {t : TypeId} {ps : List Cx} {A : Option Addr} {m : Nat} (hr : w.heap.size <= r) (hb : X.heap[r]? = some (.cells y t (0, 0))) (hy : y.size = 1) (ht : PrT X (λ h => w.heap.size <= h /\ h < X.heap.size /\ h ≠ r) (.slice A ps.length m) ps) (hbx : Below w.heap.size w X) :
    (X.setCell ⟨r, 0, none⟩ (.slice A ps.length m)).cell? ⟨r, 0, none⟩ = some (.slice A ps.length m) /\ PrT (X.setCell ⟨r, 0, none⟩ (.slice A ps.length m)) (OwnB w (X.setCell ⟨r, 0, none⟩ (.slice A ps.length m))) (.slice A ps.length m) ps /\ Below w.heap.size w (X.setCell ⟨r, 0, none⟩ (.slice A ps.length m)) := by
  have hc := cell_of_row X r 0 y t (0, 0) hb
  rw [Array.getElem?_eq_getElem (by omega)] at hc
  refine ⟨World.cell?_setCell_same _ _ _ hc, ht.mono (λ g hg => Below.heap_setCell _ _ _ g (by simp; exact hg.2.2)) (λ g hg => ⟨hg.1, by simpa [World.setCell] using hg.2.1⟩), hbx.setCell (p := ⟨r, 0, none⟩) hr _⟩
end Go.Proofs.YtppliiingoonlaaGreatDoor
namespace Go.Proofs.YtppliiingoonlaaGreatDoor
open Go.RowKit
def Bx (w : World) (g : Nat) (k : Int) (b : ByteArray) (v : Value) : Prop := w.cell? ⟨g, 0, none⟩ = some (.int .i64 k) /\ w.cell? ⟨g, 1, none⟩ = some (.string b) /\ w.cell? ⟨g, 2, none⟩ = some v
theorem Bx.below {w w' : World} {g B : Nat} {k : Int} {b : ByteArray} {v : Value} (h : Bx w g k b v) (hb : Below B w w') (hg : g < B) : Bx w' g k b v :=
  ⟨(hb.cell (p := ⟨g, 0, none⟩) hg).trans h.1, (hb.cell (p := ⟨g, 1, none⟩) hg).trans h.2.1, (hb.cell (p := ⟨g, 2, none⟩) hg).trans h.2.2⟩
theorem Bx.chg {w w' : World} {S : Nat -> Prop} {g : Nat} {k : Int} {b : ByteArray} {v : Value} (h : Bx w g k b v) (hc : Chg S w w') (hg : g < w.heap.size) (hn : ¬ S g) : Bx w' g k b v :=
  ⟨(hc.cell (p := ⟨g, 0, none⟩) hg hn).trans h.1, (hc.cell (p := ⟨g, 1, none⟩) hg hn).trans h.2.1, (hc.cell (p := ⟨g, 2, none⟩) hg hn).trans h.2.2⟩
theorem put3 {w1 : World} {g : Nat} {x0 x1 x2 k l u : Value} (b0 : w1.cell? ⟨g, 0, none⟩ = some x0) (b1 : w1.cell? ⟨g, 1, none⟩ = some x1) (b2 : w1.cell? ⟨g, 2, none⟩ = some x2) :
    let W4 := ((w1.setCell ⟨g, 0, none⟩ k).setCell ⟨g, 1, none⟩ l).setCell ⟨g, 2, none⟩ u
    (W4.cell? ⟨g, 0, none⟩ = some k /\ W4.cell? ⟨g, 1, none⟩ = some l /\ W4.cell? ⟨g, 2, none⟩ = some u) /\ W4.heap.size = w1.heap.size /\ (∀ h, h ≠ g -> W4.heap[h]? = w1.heap[h]?) /\ ∀ B w, Below B w w1 -> B <= g -> Below B w W4 := by
  intro W4
  have ne : ∀ {o o' : Nat}, o ≠ o' -> (⟨g, o, none⟩ : Addr) ≠ ⟨g, o', none⟩ := λ h e => by
    injection e with _ e2
    exact h e2
  have d1 : (w1.setCell ⟨g, 0, none⟩ k).cell? ⟨g, 1, none⟩ = some x1 := (World.cell?_setCell_other _ _ _ _ (ne (by omega))).trans b1
  have d2 : ((w1.setCell ⟨g, 0, none⟩ k).setCell ⟨g, 1, none⟩ l).cell? ⟨g, 2, none⟩ = some x2 := (World.cell?_setCell_other _ _ _ _ (ne (by omega))).trans ((World.cell?_setCell_other _ _ _ _ (ne (by omega))).trans b2)
  refine ⟨⟨?_, ?_, World.cell?_setCell_same _ _ _ d2⟩, by simp [W4, World.setCell], λ h hh => ?_, λ B w hb hB => ?_⟩
  . exact (World.cell?_setCell_other _ _ _ _ (ne (by omega))).trans ((World.cell?_setCell_other _ _ _ _ (ne (by omega))).trans (World.cell?_setCell_same _ _ _ b0))
  . exact (World.cell?_setCell_other _ _ _ _ (ne (by omega))).trans (World.cell?_setCell_same _ _ _ d1)
  . exact (Below.heap_setCell _ _ _ h hh).trans ((Below.heap_setCell _ _ _ h hh).trans (Below.heap_setCell _ _ _ h hh))
  . exact ((hb.setCell (p := ⟨g, 0, none⟩) hB _).setCell (p := ⟨g, 1, none⟩) hB _).setCell (p := ⟨g, 2, none⟩) hB _
theorem slt_one {w : World} {n g c : Nat} {S S' : Nat -> Prop} {k : Int} {l : ByteArray} {u : Value} {a : Fr} (hg : S g) (hp : Plain w g) (he : ElAt w g 0 k l u) (hl : l.size <= 9223372036854775807) (h : SlT w n S' u a) (hs : ∀ h, S' h -> S h /\ h ≠ g) :
    SlT w (n + 1) S (.slice (some ⟨g, 0, none⟩) 1 c) (.cons k l a .nil) := by
  refine ⟨by simp [Fr.items], .inr ⟨g, 0, c, λ j h => j = 0 /\ S' h, rfl, hg, hp, λ j h hj => hs h hj.2, λ i j h hi hj => hi.1.trans hj.1.symm, λ j k' l' a' hj => ?_⟩⟩
  match j, hj with
  | 0, hj =>
    simp [Fr.items] at hj
    obtain ⟨rfl, rfl, rfl⟩ := hj
    exact ⟨hl, u, by simpa using he, h.mono (λ _ _ => rfl) (λ _ hh => ⟨rfl, hh⟩)⟩
  | j + 1, hj => simp [Fr.items] at hj
theorem slt_two {w : World} {n g c : Nat} {S S1 S2 : Nat -> Prop} {k1 k2 : Int} {l1 l2 : ByteArray} {u1 u2 : Value} {a1 a2 : Fr} (hg : S g) (hp : Plain w g) (he1 : ElAt w g 0 k1 l1 u1) (he2 : ElAt w g 3 k2 l2 u2) (hl1 : l1.size <= 9223372036854775807) (hl2 : l2.size <= 9223372036854775807)
    (h1 : SlT w n S1 u1 a1) (h2 : SlT w n S2 u2 a2) (hs1 : ∀ h, S1 h -> S h /\ h ≠ g) (hs2 : ∀ h, S2 h -> S h /\ h ≠ g) (hd : ∀ h, S1 h -> ¬ S2 h) :
    SlT w (n + 1) S (.slice (some ⟨g, 0, none⟩) 2 c) (.cons k1 l1 a1 (.cons k2 l2 a2 .nil)) := by
  refine ⟨by simp [Fr.items], .inr ⟨g, 0, c, λ j h => (j = 0 /\ S1 h) \/ (j = 1 /\ S2 h), rfl, hg, hp, λ j h hj => hj.elim (λ q => hs1 h q.2) (λ q => hs2 h q.2), λ i j h hi hj => ?_, λ j k' l' a' hj => ?_⟩⟩
  . rcases hi with hi | hi <;> rcases hj with hj | hj
    . exact hi.1.trans hj.1.symm
    . exact absurd hj.2 (hd h hi.2)
    . exact absurd hi.2 (hd h hj.2)
    . exact hi.1.trans hj.1.symm
  . match j, hj with
    | 0, hj =>
      simp [Fr.items] at hj
      obtain ⟨rfl, rfl, rfl⟩ := hj
      exact ⟨hl1, u1, by simpa using he1, h1.mono (λ _ _ => rfl) (λ _ hh => .inl ⟨rfl, hh⟩)⟩
    | 1, hj =>
      simp [Fr.items] at hj
      obtain ⟨rfl, rfl, rfl⟩ := hj
      exact ⟨hl2, u2, by simpa using he2, h2.mono (λ _ _ => rfl) (λ _ hh => .inr ⟨rfl, hh⟩)⟩
    | j + 2, hj => simp [Fr.items] at hj
theorem two_new (w : World) (o1 o2 : Obj) : ((w.alloc o1).alloc o2).heap[w.heap.size]? = some o1 /\ ((w.alloc o1).alloc o2).heap[w.heap.size + 1]? = some o2 := by
  refine ⟨(Below.heap_alloc _ o2 _ (by simp)).trans (heap_alloc_new w o1), ?_⟩
  have := heap_alloc_new (w.alloc o1) o2
  rwa [World.size_alloc] at this
theorem step_append_own {P : Program} {ops : Array Oper} {o : Oper} {a : Act} {w : World} {K : Act -> World -> Prop} {Q : Exit -> Act -> World -> Prop} {E : Prop}
    (hg : o.guard = none) (s x : Operand) (t : TypeId) (hop : o.op = Op.call { callee := Callee.builtin Builtin.append, args := #[s, x], argTypes := #[t, t] })
    (base : Nat) (e : TypeId) (i : TypeInfo) (z : Value) (size bytes : Nat) (h1 : P.underlying t = some (.slice e)) (h2 : P.info? e = some i) (h3 : i.zero = some z) (h4 : i.size = size) (h5 : i.bytes = bytes) (h6 : z.cells.size = size) (h7 : 0 < size)
    (v : Value) (n : Nat) (xs : List Value) (hs : a.eval s = v) (hown : w.ownsRow base e size v n xs) (ad : Addr) (m c : Nat) (news : List Value) (hx : a.eval x = .slice (some ad) m c) (hn : news.length = m * size)
    (hc : ∀ j u, news[j]? = some u -> w.cell? (ad.add j) = some u) (h1c : ∀ u ∈ news, u.oneCell' = true) (b1 : n + m <= maxLen) (b2 : (n + m) * bytes <= 140737488355328) (hbase : base <= w.heap.size)
    (hK : ∀ v' w', w'.ownsRow base e size v' (n + m) (xs ++ news) -> w.grownBy w' v.ownBlock -> K (a.put o.dst v') w') :
    if Region.wanted o (yielded ops a.tmps) = true then Oper.wp P o a w K Q else E := by
  obtain ⟨v', w', hrun, ho, hgr, _⟩ := run_append_own (P := P) w base t o.type e i z size bytes h1 h2 h3 h4 h5 h6 h7 v n xs hown ad m c news hn hc h1c b1 b2 hbase
  rw [if_pos (by simp [Region.wanted, hg])]
  unfold Oper.wp
  simp [execOp, hop, resolve, invoke, builtin, hs, hx, hrun, Result.andThen]
  exact hK v' w' ho hgr
end Go.Proofs.YtppliiingoonlaaGreatDoor
namespace Go.Proofs.YtppliiingoonlaaGreatDoor
open Go.RowKit
abbrev Nx := Int × ByteArray × Fr
def rowOf : List Nx -> Fr
  | [] => .nil
  | x :: r => .cons x.1 x.2.1 x.2.2 (rowOf r)
theorem rowOf_items : ∀ L : List Nx, (rowOf L).items = L
  | [] => rfl
  | x :: r => by simp [rowOf, Fr.items, rowOf_items r]
theorem slt_le {w : World} {S : Nat -> Prop} {v : Value} {f : Fr} {n : Nat} (h : SlT w n S v f) : ∀ {m : Nat}, n <= m -> SlT w m S v f := λ {m} hm => by
  induction m with
  | zero => rw [Nat.le_zero.1 hm] at h; exact h
  | succ m ih =>
    by_cases e : n = m + 1
    . rw [<- e]; exact h
    . exact (ih (by omega)).more
theorem row_cells {w : World} {base : Nat} {T : TypeId} {size n : Nat} {v : Value} {xs : List Value} (h : w.ownsRow base T size v n xs) : (v = .slice none 0 0 /\ n = 0) \/ ∃ b c cur, v = .slice (some ⟨b, 0, none⟩) n c /\ base <= b /\ w.heap[b]? = some (.cells cur T (0, 0)) /\ ∀ j u, j < n * size -> xs[j]? = some u -> w.cell? ⟨b, j, none⟩ = some u := by
  obtain ⟨hl, h | ⟨g, cap, cur, hv, hb, hg, hnc, hcm, hcs, hx⟩⟩ := h
  . exact .inl ⟨h.1, h.2⟩
  . refine .inr ⟨g, cap, cur, hv, hb, hg, λ j u hj hu => ?_⟩
    rw [cell_of_row w g j _ _ (0, 0) hg, <- hu, <- hx, List.getElem?_take_of_lt hj]
    simp
theorem row_same {w w' : World} {base : Nat} {T : TypeId} {size n : Nat} {v : Value} {xs : List Value} (h : w.ownsRow base T size v n xs) (hs : ∀ b, v.ownBlock = some b -> w'.heap[b]? = w.heap[b]?) : w'.ownsRow base T size v n xs := by
  obtain ⟨hl, h | ⟨g, cap, cur, rfl, hb, hg, r⟩⟩ := h
  . exact ⟨hl, .inl h⟩
  . exact ⟨hl, .inr ⟨g, cap, cur, rfl, hb, (hs g rfl).trans hg, r⟩⟩
structure RowT (base : Nat) (w : World) (n : Nat) (v : Value) (L : List Nx) (xs : List Value) (K : Nat -> Nat -> Prop) : Prop where
  own : w.ownsRow base 26 3 v L.length xs
  el : ∀ (j : Nat) (x : Nx), L[j]? = some x -> x.2.1.size <= 9223372036854775807 /\ ∃ u, xs[j * 3]? = some (.int .i64 x.1) /\ xs[j * 3 + 1]? = some (.string x.2.1) /\ xs[j * 3 + 2]? = some u /\ SlT w n (K j) u x.2.2
  kin : ∀ j h, K j h -> base <= h /\ h < w.heap.size /\ v.ownBlock ≠ some h
  apart : ∀ i j h, K i h -> K j h -> i = j
theorem RowT.start (base : Nat) (w : World) (n : Nat) : RowT base w n (.slice none 0 0) [] [] (λ _ _ => False) :=
  ⟨World.ownsRow_nil _ _ _ _, λ j x h => by simp at h, λ _ _ h => h.elim, λ _ _ _ h => h.elim⟩
section
variable {base n : Nat} {w : World} {v : Value} {L : List Nx} {xs : List Value} {K : Nat -> Nat -> Prop}
theorem RowT.same {w' : World} (h : RowT base w n v L xs K) (hz : w.heap.size <= w'.heap.size) (hs : ∀ g, (v.ownBlock = some g \/ ∃ j, K j g) -> w'.heap[g]? = w.heap[g]?) : RowT base w' n v L xs K :=
  ⟨row_same h.own λ b hb => hs b (.inl hb), λ j x hx => by
    obtain ⟨h1, u, h2, h3, h4, h5⟩ := h.el j x hx
    exact ⟨h1, u, h2, h3, h4, h5.mono (λ g hg => hs g (.inr ⟨j, hg⟩)) (λ _ h => h)⟩, λ j g hg => by
    obtain ⟨h1, h2, h3⟩ := h.kin j g hg
    exact ⟨h1, Nat.lt_of_lt_of_le h2 hz, h3⟩, h.apart⟩
theorem RowT.lt (h : RowT base w n v L xs K) {g : Nat} (hg : v.ownBlock = some g \/ ∃ j, K j g) : base <= g /\ g < w.heap.size := by
  rcases hg with hg | ⟨j, hg⟩
  . exact h.own.lt g hg
  . exact ⟨(h.kin j g hg).1, (h.kin j g hg).2.1⟩
theorem RowT.below {w' : World} (h : RowT base w n v L xs K) (hb : Below w.heap.size w w') : RowT base w' n v L xs K := h.same hb.size λ g hg => hb.block g (h.lt hg).2
theorem RowT.set (h : RowT base w n v L xs K) {p : Addr} {u : Value} (h1 : v.ownBlock ≠ some p.block) (h2 : ∀ j, ¬ K j p.block) : RowT base (w.setCell p u) n v L xs K :=
  h.same (by simp [World.setCell]) λ g hg => Below.heap_setCell _ _ _ g (λ e => by
    subst e
    exact hg.elim h1 (λ ⟨j, hj⟩ => h2 j hj))
theorem RowT.tree (h : RowT base w n v L xs K) {S : Nat -> Prop} (hS : ∀ g, (v.ownBlock = some g \/ ∃ j, K j g) -> S g) (hL : L.length <= 9223372036854775807) : SlT w (n + 1) S v (rowOf L) := by
  refine ⟨by rw [rowOf_items]; exact hL, ?_⟩
  rw [rowOf_items]
  rcases row_cells h.own with ⟨hv, h0⟩ | ⟨b, c, cur, hv, hb, hblk, hc⟩
  . exact .inl ⟨h0, none, 0, hv⟩
  . refine .inr ⟨b, 0, c, K, hv, hS b (.inl (by rw [hv]; rfl)), ⟨cur, _, hblk⟩, λ j g hj => ⟨hS g (.inr ⟨j, hj⟩), λ e => ?_⟩, h.apart, λ j k l a hx => ?_⟩
    . subst e
      exact (h.kin j g hj).2.2 (by rw [hv]; rfl)
    . obtain ⟨h1, u, h2, h3, h4, h5⟩ := h.el j _ hx
      have hj := (List.getElem?_eq_some_iff.1 hx).1
      refine ⟨h1, u, ?_, h5⟩
      rw [Nat.zero_add]
      exact ⟨hc _ _ (by omega) h2, hc _ _ (by omega) h3, hc _ _ (by omega) h4⟩
end
def NdT (n : Nat) (x : Nx) (w : World) (e : Ending) (w' : World) : Prop := ∃ u, e = .returned (.agg #[.int .i64 x.1, .string x.2.1, u]) /\ SlT w' n (OwnB w w') u x.2.2 /\ Below w.heap.size w w'
theorem NdT.up {n m : Nat} {x : Nx} {w w' : World} {e : Ending} (h : NdT n x w e w') (hm : n <= m) : NdT m x w e w' := by
  obtain ⟨u, h1, h2, h3⟩ := h
  exact ⟨u, h1, slt_le h2 hm, h3⟩
end Go.Proofs.YtppliiingoonlaaGreatDoor
