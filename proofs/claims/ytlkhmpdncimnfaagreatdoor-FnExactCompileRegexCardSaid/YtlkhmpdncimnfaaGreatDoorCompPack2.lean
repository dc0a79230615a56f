/-
  Texts of one proof, one behind the other.
-/
import Derived.Test.YtlkhmpdncimnfaaGreatDoorRows
import Derived.RegionTactic
import Derived.Deep.QuietTactic
import Derived.BigQuiet
import Derived.Lib.Builder
import Derived.Deep.RegionHeld3
import Derived.WalkKit
import Derived.WalkSpells
import Derived.WalkLawsBesides
import Derived.Lib.Hide
import Derived.IntWalk
import Derived.Deep.CutRange
import Derived.Outline
import Derived.Test.YtlkhmpdncimnfaaGreatDoorCompPack1

/-
  Rows of one-cell elements behind a slice: as they came in, and in blocks of the call's own. Of no function of the program.
  What the laws' own helpers answer over slices of bools: szBoolS, toBoolS, eqBoolS, markBoolS, heldBoolS.
  What the laws' own helpers answer over slices of ints: szIntS, toIntS, eqIntS, markIntS, heldIntS.
  Rows of rows behind a slice: as they came in, and in blocks of the call's own. Of no function of the program.
  What the laws' own helpers answer over slices of slices of ints: szIntSS, toIntSS, eqIntSS, markIntSS, heldIntSS.
  Boxes of two cells. Of no function of the program.
  What the laws' own helpers answer over automata: szDfa, toDfa, eqDfa, markDfa, heldDfa.
  What stays of automata and boxes over calls, for the walks of exact laws. Of no function of the program.
-/
namespace Go.Proofs.YtlkhmpdncimnfaaGreatDoor
open Go.RowKit

/-- What lies behind a slice; its block is in S. -/
def RowV (w : World) (S : Nat → Prop) (v : Value) (xs : List Value) : Prop :=
  xs.length ≤ 9223372036854775807 ∧ ∃ A c, v = .slice A xs.length c ∧ ∀ (j : Nat) (x : Value), xs[j]? = some x → ∃ ad, A = some ad ∧ S ad.block ∧ w.cell? (ad.add j) = some x
theorem add_block (a : Addr) (n : Nat) : (a.add n).block = a.block := by unfold Addr.add; split <;> rfl
theorem RowV.mono {w w' : World} {S S' : Nat → Prop} {v : Value} {xs : List Value} (h : RowV w S v xs) (hs : ∀ g, S g → w'.heap[g]? = w.heap[g]?) (hS : ∀ g, S g → S' g) : RowV w' S' v xs := by
  obtain ⟨hl, A, c, rfl, hc⟩ := h
  refine ⟨hl, A, c, rfl, fun j x hx => ?_⟩
  obtain ⟨ad, rfl, hb, hce⟩ := hc j x hx
  exact ⟨ad, rfl, hS _ hb, (World.cell?_of_block (by rw [add_block]; exact hs _ hb)).trans hce⟩
theorem RowV.below {w w' : World} {B B' : Nat} {v : Value} {xs : List Value} (h : RowV w (· < B) v xs) (hb : Below B w w') (hB : B ≤ B') : RowV w' (· < B') v xs :=
  h.mono (fun g hg => hb.block g hg) (fun _ hg => Nat.lt_of_lt_of_le hg hB)
theorem cell_in {w : World} {p : Addr} {u : Value} (h : w.cell? p = some u) : p.block < w.heap.size := by
  by_cases hl : p.block < w.heap.size
  · exact hl
  · have : w.heap[p.block]? = none := Array.getElem?_eq_none (by omega)
    simp [World.cell?, this] at h
/-- Over a call that turns nothing old. -/
theorem RowV.kept {w w' : World} {S : Nat → Prop} {v : Value} {xs : List Value} (h : RowV w S v xs) (hb : Below w.heap.size w w') : RowV w' S v xs := by
  obtain ⟨hl, A, c, rfl, hc⟩ := h
  refine ⟨hl, A, c, rfl, fun j x hx => ?_⟩
  obtain ⟨ad, rfl, hS, hce⟩ := hc j x hx
  have hlt := cell_in hce
  exact ⟨ad, rfl, hS, (hb.cell hlt).trans hce⟩
theorem RowV.shape {w : World} {S : Nat → Prop} {v : Value} {xs : List Value} (h : RowV w S v xs) : ∃ A c, v = .slice A xs.length c := by
  obtain ⟨_, A, c, h, _⟩ := h
  exact ⟨A, c, h⟩
/-- One element's cell. -/
theorem RowV.at {w : World} {S : Nat → Prop} {A : Option Addr} {n c : Nat} {xs : List Value} (h : RowV w S (.slice A n c) xs) {j : Nat} (hj : j < xs.length) : ∃ ad, A = some ad ∧ S ad.block ∧ w.cell? (ad.add j) = some xs[j] := by
  obtain ⟨_, A', c', e, hc⟩ := h
  cases e
  exact hc j _ (List.getElem?_eq_getElem hj)

/-- .. in a block of its own. -/
def RowO (w : World) (S : Nat → Prop) (v : Value) (xs : List Value) : Prop :=
  xs.length ≤ 9223372036854775807 ∧ ∃ A c, v = .slice A xs.length c ∧ (xs = [] ∨ ∃ (g : Nat) (cur : Array Value) (T : TypeId), A = some ⟨g, 0, none⟩ ∧ S g ∧ w.heap[g]? = some (.cells cur T (0, 0)) ∧ ∀ (j : Nat) (x : Value), xs[j]? = some x → cur[j]? = some x)
theorem RowO.row {w : World} {S : Nat → Prop} {v : Value} {xs : List Value} (h : RowO w S v xs) : RowV w S v xs := by
  obtain ⟨hl, A, c, rfl, hc⟩ := h
  refine ⟨hl, A, c, rfl, fun j x hx => ?_⟩
  rcases hc with rfl | ⟨g, cur, T, rfl, hg, hh, hx'⟩
  · simp at hx
  · exact ⟨_, rfl, hg, by rw [Addr.add_lit, Nat.zero_add, cell_of_row w g j cur T (0, 0) hh]; exact hx' j x hx⟩
theorem RowO.mono {w w' : World} {S S' : Nat → Prop} {v : Value} {xs : List Value} (h : RowO w S v xs) (hs : ∀ g, S g → w'.heap[g]? = w.heap[g]?) (hS : ∀ g, S g → S' g) : RowO w' S' v xs := by
  obtain ⟨hl, A, c, rfl, hc⟩ := h
  refine ⟨hl, A, c, rfl, ?_⟩
  rcases hc with rfl | ⟨g, cur, T, rfl, hg, hh, hx'⟩
  · exact .inl rfl
  · exact .inr ⟨g, cur, T, rfl, hS g hg, (hs g hg).trans hh, hx'⟩
theorem RowO.shape {w : World} {S : Nat → Prop} {v : Value} {xs : List Value} (h : RowO w S v xs) : ∃ A c, v = .slice A xs.length c := h.row.shape
theorem RowO.nil (w : World) (S : Nat → Prop) (A : Option Addr) (c : Nat) : RowO w S (.slice A 0 c) [] := ⟨Nat.zero_le _, A, c, rfl, .inl rfl⟩
/-- The library's own rows. -/
theorem RowO.of_owns {w : World} {base : Nat} {e : TypeId} {v : Value} {n : Nat} {xs : List Value} (h : w.ownsRow base e 1 v n xs) (hn : n ≤ 9223372036854775807) : RowO w (fun g => v.ownBlock = some g) v xs := by
  obtain ⟨hx, hc⟩ := h
  rw [Nat.mul_one] at hx
  refine ⟨by omega, ?_⟩
  rcases hc with ⟨rfl, h0⟩ | ⟨g, cap, cur, rfl, _, hh, _, _, _, ht⟩
  · rw [hx, h0]
    exact ⟨none, 0, rfl, .inl (List.length_eq_zero_iff.1 (by omega))⟩
  · rw [hx]
    refine ⟨_, cap, rfl, .inr ⟨g, cur, e, rfl, rfl, hh, fun j x hj => ?_⟩⟩
    rw [Nat.mul_one] at ht
    have hjn : j < n := by have := (List.getElem?_eq_some_iff.1 hj).1; omega
    rw [← ht, List.getElem?_take_of_lt hjn, Array.getElem?_toList] at hj
    exact hj
/-- A store into it. -/
theorem RowO.set {w : World} {S : Nat → Prop} {A : Option Addr} {n c : Nat} {xs : List Value} (h : RowO w S (.slice A n c) xs) {j : Nat} (hj : j < xs.length) :
    ∃ g, A = some ⟨g, 0, none⟩ ∧ S g ∧ g < w.heap.size ∧ (∀ w1 : World, w1.heap[g]? = w.heap[g]? → (∃ x, w1.cell? ⟨g, j, none⟩ = some x) ∧ w1.frozen? ⟨g, j, none⟩ = false ∧
      ∀ u, RowO (w1.setCell ⟨g, j, none⟩ u) S (.slice A n c) (xs.set j u)) := by
  obtain ⟨hl, A', c', e, hc⟩ := h
  cases e
  rcases hc with rfl | ⟨g, cur, T, rfl, hg, hh, hx⟩
  · simp at hj
  · have hlt : g < w.heap.size := (Array.getElem?_eq_some_iff.1 hh).1
    have hcj : cur[j]? = some xs[j] := hx j _ (List.getElem?_eq_getElem hj)
    refine ⟨g, rfl, hg, hlt, fun w1 h1 => ?_⟩
    have hh1 := h1.trans hh
    refine ⟨⟨_, (cell_of_row w1 g j cur T (0, 0) hh1).trans hcj⟩, frozen_of_row w1 g j cur T hh1, fun u => ?_⟩
    have h2 := heap_setCell_same w1 g j cur T u hh1
    refine ⟨by simpa using hl, _, c, by simp, .inr ⟨g, _, T, rfl, hg, h2, fun i x hi => ?_⟩⟩
    have hjc : j < cur.size := (Array.getElem?_eq_some_iff.1 hcj).1
    rw [Array.getElem?_setIfInBounds]
    rw [List.getElem?_set] at hi
    by_cases e : j = i
    · subst e
      rw [if_pos rfl] at hi
      rw [if_pos hj] at hi
      rw [if_pos rfl, if_pos hjc]
      exact hi
    · rw [if_neg e] at hi
      rw [if_neg e]
      exact hx i x hi
/-- A store of what is to come in its place. -/
theorem set_step {α : Type} (f : Nat → α) (xs : List α) (j : Nat) (hj : j < xs.length) : ((List.range j).map f ++ xs.drop j).set j (f j) = (List.range (j + 1)).map f ++ xs.drop (j + 1) := by
  have hl : ((List.range j).map f).length = j := by simp
  rw [List.set_append_right _ _ (by omega), hl, Nat.sub_self, List.drop_eq_getElem_cons hj, List.set_cons_zero, List.range_succ, List.map_append, List.append_assoc]
  rfl
end Go.Proofs.YtlkhmpdncimnfaaGreatDoor

namespace Go.Proofs.YtlkhmpdncimnfaaGreatDoor
open Go.RowKit

/-- Bools as a row's cells. -/
def bools (l : List Bool) : List Value := l.map fun x => .bool x
theorem bools_length (l : List Bool) : (bools l).length = l.length := by simp [bools]
theorem bools_at {l : List Bool} {j : Nat} (h : j < l.length) : (bools l)[j]'(by rw [bools_length]; exact h) = .bool (l[j]) := by simp [bools]
theorem boolInfo : (Tryz.prog.info? 4).map (fun i => (i.zero, i.size, i.bytes)) = some (some (.bool false), 1, 1) := by kernel_rfl

/-- A copy of its own. -/
def Copy (xs : List Value) (w : World) (e : Ending) (w' : World) : Prop := ∃ v, e = .returned v ∧ RowO w' (OwnB w w') v xs ∧ Below w.heap.size w w'
set_option maxRecDepth 100000 in
set_option maxHeartbeats 800000 in
theorem eqBoolS_any (v v' : Value) (l : List Bool) (S S' : Nat → Prop) (w : World) (h : RowV w S v (bools l)) (h' : RowV w S' v' (bools l)) :
    Calls Tryz.prog 19 #[v, v'] w fun e w' => e = .returned (.bool true) ∧ ∃ m, w' = w.drewN m := by
  have hl := h.1
  rw [bools_length] at hl
  obtain ⟨A, c, rfl⟩ := h.shape
  obtain ⟨A', c', rfl⟩ := h'.shape
  have HE := Lib.hid (fun j (hj : j < l.length) => h.at (j := j) (by rw [bools_length]; exact hj))
  have HE' := Lib.hid (fun j (hj : j < l.length) => h'.at (j := j) (by rw [bools_length]; exact hj))
  clear h h'
  rw [bools_length]
  go_enter Tryz.func19, Tryz.ntmps19
  go_wp2_with fail
  go_loopw [5] (fun i wr => ∃ j m : Nat, i = .int .i64 j ∧ j ≤ l.length ∧ wr = w.drewN m) (fun i _ => l.length - (intOf i).toNat)
  case atStart => exact ⟨0, 0, rfl, Nat.zero_le _, rfl⟩
  case round =>
    obtain ⟨j, m, rfl, hj, rfl⟩ := hrel
    by_cases hlt : j < l.length
    · obtain ⟨ad, rfl, -, hc1⟩ := HE.out j hlt
      obtain ⟨ad', rfl, -, hc2⟩ := HE'.out j hlt
      rw [bools_at hlt] at hc1 hc2
      obtain ⟨x, hx⟩ : ∃ x, x = l[j] := ⟨_, rfl⟩
      rw [← hx] at hc1 hc2
      clear hx
      have hne : (x != x) = false := by simp
      go_wp2_with fail
      go_quiet (fail)
      all_goals go_wp2
      all_goals
        go_roundw
        case rel => exact ⟨j + 1, _, by go_num, by omega, rfl⟩
        case measure => simp [intOf]; omega
    · go_wp2_with fail
      go_ret
      exact ⟨rfl, m, rfl⟩

theorem eqBoolS_b (v v' : Value) (l : List Bool) (S S' : Nat → Prop) (w : World) (h : RowV w S v (bools l)) (h' : RowV w S' v' (bools l)) :
    Calls Tryz.prog 19 #[v, v'] w fun e w' => e = .returned (.bool true) ∧ Below w.heap.size w w' :=
  (eqBoolS_any v v' l S S' w h h').mono fun _ _ ⟨he, m, hm⟩ => ⟨he, by rw [hm]; exact below_draws (Below.refl _ _) m⟩

/-- The marks from k on. -/
def boolMark (k n : Nat) : List Bool := (List.range n).map fun (j : Nat) => (((k : Int) + (j : Int)) % 3 == 0)
theorem boolMark_length (k n : Nat) : (boolMark k n).length = n := by simp [boolMark]
theorem boolMark_at {k n j : Nat} (h : j < n) : (boolMark k n)[j]'(by rw [boolMark_length]; exact h) = (((k : Int) + (j : Int)) % 3 == 0) := by simp [boolMark]

set_option maxRecDepth 100000 in
set_option maxHeartbeats 800000 in
theorem markBoolS_any (k0 : Nat) (v : Value) (l : List Bool) (S : Nat → Prop) (w : World) (h : RowO w S v (bools l)) (hn : l.length ≤ 2097152) (hk : k0 ≤ 16777216) :
    Calls Tryz.prog 23 #[v, .int .i64 (k0 : Int)] w fun e w' => e = .returned (.int .i64 ((k0 + l.length : Nat) : Int)) ∧ RowO w' S v (bools (boolMark k0 l.length)) ∧ Chg S w w' ∧ w'.heap.size = w.heap.size := by
  obtain ⟨A, c, rfl⟩ := h.shape
  rw [bools_length] at h ⊢
  have HL := Lib.hid (bools_length l)
  obtain ⟨xs, hxs⟩ : ∃ xs, xs = bools l := ⟨_, rfl⟩
  obtain ⟨n, hne⟩ : ∃ n, n = l.length := ⟨_, rfl⟩
  rw [← hxs] at h HL
  rw [← hne] at h HL hn ⊢
  clear hxs hne
  go_enter Tryz.func23, Tryz.ntmps23
  go_wp2_with fail
  go_loopw [1, 5] (fun y i wr => ∃ j : Nat, i = .int .i64 j ∧ y = .int .i64 ((k0 + j : Nat) : Int) ∧ j ≤ n ∧ RowO wr S (.slice A n c) ((List.range j).map (fun (j : Nat) => .bool ((((k0 : Int) + (j : Int)) % 3 == 0))) ++ xs.drop j) ∧ Chg S w wr ∧ wr.heap.size = w.heap.size) (fun _ i _ => n - (intOf i).toNat)
  case atStart => exact ⟨0, rfl, rfl, Nat.zero_le _, h, Chg.refl _ _, rfl⟩
  case round =>
    obtain ⟨j, rfl, rfl, hj, ho, hc, hzs⟩ := hrel
    by_cases hlt : j < n
    · obtain ⟨g, rfl, hS, hgl, hst⟩ := ho.set (j := j) (by have := HL.out; simp; omega)
      obtain ⟨⟨x0, hx0⟩, hf0, hset⟩ := hst wr rfl
      have HS := Lib.hid (hset (.bool ((((k0 : Int) + (j : Int)) % 3 == 0))))
      have HC := Lib.hid (hc.set (a := ⟨g, j, none⟩) hS (.bool ((((k0 : Int) + (j : Int)) % 3 == 0))))
      have hzs' : (wr.setCell ⟨g, j, none⟩ (.bool ((((k0 : Int) + (j : Int)) % 3 == 0)))).heap.size = w.heap.size := by simpa [World.setCell] using hzs
      have HZ := Lib.hid hzs'
      clear h hset hst ho hc hzs'
      go_wp2_with fail
      go_roundw
      case rel =>
        refine ⟨j + 1, by go_num, by go_num, by omega, ?_, HC.out, HZ.out⟩
        have := HS.out
        rw [set_step (fun j => (.bool ((((k0 : Int) + (j : Int)) % 3 == 0)) : Value)) xs j (by rw [HL.out]; exact hlt)] at this
        exact this
      case measure => simp [intOf]; omega
    · obtain rfl : j = n := by omega
      have h1 : RowO wr S (.slice A j c) (bools (boolMark k0 j)) := by
        rw [List.drop_eq_nil_of_le (by rw [HL.out]; exact Nat.le_refl _), List.append_nil] at ho
        have e : bools (boolMark k0 j) = (List.range j).map (fun (j : Nat) => (.bool ((((k0 : Int) + (j : Int)) % 3 == 0)) : Value)) := by simp [bools, boolMark, Function.comp_def]
        rw [e]
        exact ho
      have H1 := Lib.hid (And.intro h1 hc)
      clear h h1 ho hc
      go_wp2_with fail
      go_ret
      exact ⟨rfl, H1.out.1, H1.out.2, hzs⟩

set_option maxRecDepth 100000 in
set_option maxHeartbeats 800000 in
theorem heldBoolS_any (k0 n : Nat) (v : Value) (S : Nat → Prop) (w : World) (h : RowV w S v (bools (boolMark k0 n))) (hn : n ≤ 2097152) (hk : k0 ≤ 16777216) :
    Calls Tryz.prog 25 #[v, .int .i64 (k0 : Int)] w fun e w' => e = .returned (.int .i64 ((k0 + n : Nat) : Int)) ∧ ∃ m, w' = w.drewN m := by
  obtain ⟨A, c, rfl⟩ := h.shape
  have HE := Lib.hid (fun j (hj : j < n) => h.at (j := j) (by rw [bools_length, boolMark_length]; exact hj))
  clear h
  rw [bools_length, boolMark_length]
  go_enter Tryz.func25, Tryz.ntmps25
  go_wp2_with fail
  go_loopw [1, 5] (fun y i wr => ∃ j m : Nat, i = .int .i64 j ∧ y = .int .i64 ((k0 + j : Nat) : Int) ∧ j ≤ n ∧ wr = w.drewN m) (fun _ i _ => n - (intOf i).toNat)
  case atStart => exact ⟨0, 0, rfl, rfl, Nat.zero_le _, rfl⟩
  case round =>
    obtain ⟨j, m, rfl, rfl, hj, rfl⟩ := hrel
    by_cases hlt : j < n
    · obtain ⟨ad, rfl, -, hc1⟩ := HE.out j hlt
      rw [bools_at (by rw [boolMark_length]; exact hlt), boolMark_at hlt] at hc1
      have hne : (((((k0 : Int) + (j : Int)) % 3 == 0)) != ((((k0 : Int) + (j : Int)) % 3 == 0))) = false := by simp
      go_wp2_with fail
      go_roundw
      case rel => exact ⟨j + 1, _, by go_num, by go_num, by omega, rfl⟩
      case measure => simp [intOf]; omega
    · obtain rfl : j = n := by omega
      go_wp2_with fail
      go_ret
      exact ⟨rfl, m, rfl⟩
theorem heldBoolS_b (k0 n : Nat) (v : Value) (S : Nat → Prop) (w : World) (h : RowV w S v (bools (boolMark k0 n))) (hn : n ≤ 2097152) (hk : k0 ≤ 16777216) :
    Calls Tryz.prog 25 #[v, .int .i64 (k0 : Int)] w fun e w' => e = .returned (.int .i64 ((k0 + n : Nat) : Int)) ∧ Below w.heap.size w w' :=
  (heldBoolS_any k0 n v S w h hn hk).mono fun _ _ ⟨he, m, hm⟩ => ⟨he, by rw [hm]; exact below_draws (Below.refl _ _) m⟩
end Go.Proofs.YtlkhmpdncimnfaaGreatDoor

namespace Go.Proofs.YtlkhmpdncimnfaaGreatDoor
open Go.RowKit

/-- Ints as a row's cells. -/
def ints (l : List Int) : List Value := l.map fun x => .int .i64 x
theorem ints_length (l : List Int) : (ints l).length = l.length := by simp [ints]
theorem ints_at {l : List Int} {j : Nat} (h : j < l.length) : (ints l)[j]'(by rw [ints_length]; exact h) = .int .i64 (l[j]) := by simp [ints]
theorem intInfo : (Tryz.prog.info? 3).map (fun i => (i.zero, i.size, i.bytes)) = some (some (.int .i64 0), 1, 8) := by kernel_rfl

set_option maxRecDepth 100000 in
set_option maxHeartbeats 800000 in
theorem eqIntS_any (v v' : Value) (l : List Int) (S S' : Nat → Prop) (w : World) (h : RowV w S v (ints l)) (h' : RowV w S' v' (ints l)) :
    Calls Tryz.prog 43 #[v, v'] w fun e w' => e = .returned (.bool true) ∧ ∃ m, w' = w.drewN m := by
  have hl := h.1
  rw [ints_length] at hl
  obtain ⟨A, c, rfl⟩ := h.shape
  obtain ⟨A', c', rfl⟩ := h'.shape
  have HE := Lib.hid (fun j (hj : j < l.length) => h.at (j := j) (by rw [ints_length]; exact hj))
  have HE' := Lib.hid (fun j (hj : j < l.length) => h'.at (j := j) (by rw [ints_length]; exact hj))
  clear h h'
  rw [ints_length]
  go_enter Tryz.func43, Tryz.ntmps43
  go_wp2_with fail
  go_loopw [5] (fun i wr => ∃ j m : Nat, i = .int .i64 j ∧ j ≤ l.length ∧ wr = w.drewN m) (fun i _ => l.length - (intOf i).toNat)
  case atStart => exact ⟨0, 0, rfl, Nat.zero_le _, rfl⟩
  case round =>
    obtain ⟨j, m, rfl, hj, rfl⟩ := hrel
    by_cases hlt : j < l.length
    · obtain ⟨ad, rfl, -, hc1⟩ := HE.out j hlt
      obtain ⟨ad', rfl, -, hc2⟩ := HE'.out j hlt
      rw [ints_at hlt] at hc1 hc2
      obtain ⟨x, hx⟩ : ∃ x, x = l[j] := ⟨_, rfl⟩
      rw [← hx] at hc1 hc2
      clear hx
      have hne : (x != x) = false := by simp
      go_wp2_with fail
      go_quiet (fail)
      all_goals go_wp2
      all_goals
        go_roundw
        case rel => exact ⟨j + 1, _, by go_num, by omega, rfl⟩
        case measure => simp [intOf]; omega
    · go_wp2_with fail
      go_ret
      exact ⟨rfl, m, rfl⟩

theorem eqIntS_b (v v' : Value) (l : List Int) (S S' : Nat → Prop) (w : World) (h : RowV w S v (ints l)) (h' : RowV w S' v' (ints l)) :
    Calls Tryz.prog 43 #[v, v'] w fun e w' => e = .returned (.bool true) ∧ Below w.heap.size w w' :=
  (eqIntS_any v v' l S S' w h h').mono fun _ _ ⟨he, m, hm⟩ => ⟨he, by rw [hm]; exact below_draws (Below.refl _ _) m⟩

/-- The marks from k on. -/
def intMark (k n : Nat) : List Int := (List.range n).map fun (j : Nat) => ((k + j : Nat) : Int)
theorem intMark_length (k n : Nat) : (intMark k n).length = n := by simp [intMark]
theorem intMark_at {k n j : Nat} (h : j < n) : (intMark k n)[j]'(by rw [intMark_length]; exact h) = ((k + j : Nat) : Int) := by simp [intMark]

set_option maxRecDepth 100000 in
set_option maxHeartbeats 800000 in
theorem markIntS_any (k0 : Nat) (v : Value) (l : List Int) (S : Nat → Prop) (w : World) (h : RowO w S v (ints l)) (hn : l.length ≤ 2097152) (hk : k0 ≤ 16777216) :
    Calls Tryz.prog 45 #[v, .int .i64 (k0 : Int)] w fun e w' => e = .returned (.int .i64 ((k0 + l.length : Nat) : Int)) ∧ RowO w' S v (ints (intMark k0 l.length)) ∧ Chg S w w' ∧ w'.heap.size = w.heap.size := by
  obtain ⟨A, c, rfl⟩ := h.shape
  rw [ints_length] at h ⊢
  have HL := Lib.hid (ints_length l)
  obtain ⟨xs, hxs⟩ : ∃ xs, xs = ints l := ⟨_, rfl⟩
  obtain ⟨n, hne⟩ : ∃ n, n = l.length := ⟨_, rfl⟩
  rw [← hxs] at h HL
  rw [← hne] at h HL hn ⊢
  clear hxs hne
  go_enter Tryz.func45, Tryz.ntmps45
  go_wp2_with fail
  go_loopw [1, 5] (fun y i wr => ∃ j : Nat, i = .int .i64 j ∧ y = .int .i64 ((k0 + j : Nat) : Int) ∧ j ≤ n ∧ RowO wr S (.slice A n c) ((List.range j).map (fun (j : Nat) => .int .i64 (((k0 + j : Nat) : Int))) ++ xs.drop j) ∧ Chg S w wr ∧ wr.heap.size = w.heap.size) (fun _ i _ => n - (intOf i).toNat)
  case atStart => exact ⟨0, rfl, rfl, Nat.zero_le _, h, Chg.refl _ _, rfl⟩
  case round =>
    obtain ⟨j, rfl, rfl, hj, ho, hc, hzs⟩ := hrel
    by_cases hlt : j < n
    · obtain ⟨g, rfl, hS, hgl, hst⟩ := ho.set (j := j) (by have := HL.out; simp; omega)
      obtain ⟨⟨x0, hx0⟩, hf0, hset⟩ := hst wr rfl
      have HS := Lib.hid (hset (.int .i64 (((k0 + j : Nat) : Int))))
      have HC := Lib.hid (hc.set (a := ⟨g, j, none⟩) hS (.int .i64 (((k0 + j : Nat) : Int))))
      have hzs' : (wr.setCell ⟨g, j, none⟩ (.int .i64 (((k0 + j : Nat) : Int)))).heap.size = w.heap.size := by simpa [World.setCell] using hzs
      have HZ := Lib.hid hzs'
      clear h hset hst ho hc hzs'
      go_wp2_with fail
      go_roundw
      case rel =>
        refine ⟨j + 1, by go_num, by go_num, by omega, ?_, HC.out, HZ.out⟩
        have := HS.out
        rw [set_step (fun j => (.int .i64 (((k0 + j : Nat) : Int)) : Value)) xs j (by rw [HL.out]; exact hlt)] at this
        exact this
      case measure => simp [intOf]; omega
    · obtain rfl : j = n := by omega
      have h1 : RowO wr S (.slice A j c) (ints (intMark k0 j)) := by
        rw [List.drop_eq_nil_of_le (by rw [HL.out]; exact Nat.le_refl _), List.append_nil] at ho
        have e : ints (intMark k0 j) = (List.range j).map (fun (j : Nat) => (.int .i64 (((k0 + j : Nat) : Int)) : Value)) := by simp [ints, intMark, Function.comp_def]
        rw [e]
        exact ho
      have H1 := Lib.hid (And.intro h1 hc)
      clear h h1 ho hc
      go_wp2_with fail
      go_ret
      exact ⟨rfl, H1.out.1, H1.out.2, hzs⟩

set_option maxRecDepth 100000 in
set_option maxHeartbeats 800000 in
theorem heldIntS_any (k0 n : Nat) (v : Value) (S : Nat → Prop) (w : World) (h : RowV w S v (ints (intMark k0 n))) (hn : n ≤ 2097152) (hk : k0 ≤ 16777216) :
    Calls Tryz.prog 46 #[v, .int .i64 (k0 : Int)] w fun e w' => e = .returned (.int .i64 ((k0 + n : Nat) : Int)) ∧ ∃ m, w' = w.drewN m := by
  obtain ⟨A, c, rfl⟩ := h.shape
  have HE := Lib.hid (fun j (hj : j < n) => h.at (j := j) (by rw [ints_length, intMark_length]; exact hj))
  clear h
  rw [ints_length, intMark_length]
  go_enter Tryz.func46, Tryz.ntmps46
  go_wp2_with fail
  go_loopw [1, 5] (fun y i wr => ∃ j m : Nat, i = .int .i64 j ∧ y = .int .i64 ((k0 + j : Nat) : Int) ∧ j ≤ n ∧ wr = w.drewN m) (fun _ i _ => n - (intOf i).toNat)
  case atStart => exact ⟨0, 0, rfl, rfl, Nat.zero_le _, rfl⟩
  case round =>
    obtain ⟨j, m, rfl, rfl, hj, rfl⟩ := hrel
    by_cases hlt : j < n
    · obtain ⟨ad, rfl, -, hc1⟩ := HE.out j hlt
      rw [ints_at (by rw [intMark_length]; exact hlt), intMark_at hlt] at hc1
      have hne : ((((k0 + j : Nat) : Int)) != (((k0 + j : Nat) : Int))) = false := by simp
      go_wp2_with fail
      go_roundw
      case rel => exact ⟨j + 1, _, by go_num, by go_num, by omega, rfl⟩
      case measure => simp [intOf]; omega
    · obtain rfl : j = n := by omega
      go_wp2_with fail
      go_ret
      exact ⟨rfl, m, rfl⟩
theorem heldIntS_b (k0 n : Nat) (v : Value) (S : Nat → Prop) (w : World) (h : RowV w S v (ints (intMark k0 n))) (hn : n ≤ 2097152) (hk : k0 ≤ 16777216) :
    Calls Tryz.prog 46 #[v, .int .i64 (k0 : Int)] w fun e w' => e = .returned (.int .i64 ((k0 + n : Nat) : Int)) ∧ Below w.heap.size w w' :=
  (heldIntS_any k0 n v S w h hn hk).mono fun _ _ ⟨he, m, hm⟩ => ⟨he, by rw [hm]; exact below_draws (Below.refl _ _) m⟩
end Go.Proofs.YtlkhmpdncimnfaaGreatDoor

namespace Go.Proofs.YtlkhmpdncimnfaaGreatDoor
open Go.RowKit

/-- A row of rows. -/
def RowVV (w : World) (S : Nat → Prop) (v : Value) (rss : List (List Value)) : Prop :=
  ∃ us : List Value, us.length = rss.length ∧ RowV w S v us ∧ ∀ (j : Nat) (u : Value) (r : List Value), us[j]? = some u → rss[j]? = some r → RowV w S u r
theorem RowVV.mono {w w' : World} {S S' : Nat → Prop} {v : Value} {rss : List (List Value)} (h : RowVV w S v rss) (hs : ∀ g, S g → w'.heap[g]? = w.heap[g]?) (hS : ∀ g, S g → S' g) : RowVV w' S' v rss := by
  obtain ⟨us, hl, hv, hr⟩ := h
  exact ⟨us, hl, hv.mono hs hS, fun j u r hu hx => (hr j u r hu hx).mono hs hS⟩
theorem RowVV.kept {w w' : World} {S : Nat → Prop} {v : Value} {rss : List (List Value)} (h : RowVV w S v rss) (hb : Below w.heap.size w w') : RowVV w' S v rss := by
  obtain ⟨us, hl, hv, hr⟩ := h
  exact ⟨us, hl, hv.kept hb, fun j u r hu hx => (hr j u r hu hx).kept hb⟩
theorem RowVV.shape {w : World} {S : Nat → Prop} {v : Value} {rss : List (List Value)} (h : RowVV w S v rss) : rss.length ≤ 9223372036854775807 ∧ ∃ A c, v = .slice A rss.length c := by
  obtain ⟨us, hl, hv, _⟩ := h
  obtain ⟨A, c, e⟩ := hv.shape
  rw [hl] at e
  exact ⟨by rw [← hl]; exact hv.1, A, c, e⟩
theorem RowVV.at {w : World} {S : Nat → Prop} {A : Option Addr} {n c : Nat} {rss : List (List Value)} (h : RowVV w S (.slice A n c) rss) {j : Nat} (hj : j < rss.length) :
    ∃ ad u, A = some ad ∧ S ad.block ∧ w.cell? (ad.add j) = some u ∧ RowV w S u rss[j] := by
  obtain ⟨us, hl, hv, hr⟩ := h
  obtain ⟨ad, e, hS, hc⟩ := hv.at (j := j) (by omega)
  exact ⟨ad, _, e, hS, hc, hr j _ _ (List.getElem?_eq_getElem (by omega)) (List.getElem?_eq_getElem hj)⟩

/-- Rows of the call's own, one beside the other. -/
structure RowsP (S : Nat → Prop) (w : World) (us : List Value) (rss : List (List Value)) (K : Nat → Nat → Prop) : Prop where
  len : us.length = rss.length
  row : ∀ (j : Nat) (u : Value) (r : List Value), us[j]? = some u → rss[j]? = some r → RowO w (K j) u r
  sub : ∀ j g, K j g → S g
  lt : ∀ j g, K j g → g < w.heap.size
  sep : ∀ i j g, K i g → K j g → i = j
theorem RowsP.nil (S : Nat → Prop) (w : World) : RowsP S w [] [] (fun _ _ => False) := ⟨rfl, fun j u r h => by simp at h, fun _ _ h => h.elim, fun _ _ h => h.elim, fun _ _ _ h => h.elim⟩
theorem RowsP.keep {S S' : Nat → Prop} {w w' : World} {us : List Value} {rss : List (List Value)} {K : Nat → Nat → Prop} (h : RowsP S w us rss K) (hs : ∀ j g, K j g → w'.heap[g]? = w.heap[g]?) (hS : ∀ j g, K j g → S' g) (hz : w.heap.size ≤ w'.heap.size) : RowsP S' w' us rss K :=
  ⟨h.len, fun j u r hu hr => (h.row j u r hu hr).mono (fun g hg => hs j g hg) (fun _ hg => hg), hS, fun j g hg => Nat.lt_of_lt_of_le (h.lt j g hg) hz, h.sep⟩
/-- One row more. -/
theorem RowsP.push {S : Nat → Prop} {w w1 : World} {us : List Value} {rss : List (List Value)} {K : Nat → Nat → Prop} {u : Value} {r : List Value} (h : RowsP S w us rss K) (hb : Below w.heap.size w w1) (hs : RowO w1 (OwnB w w1) u r) (hS : ∀ g, OwnB w w1 g → S g) :
    RowsP S w1 (us ++ [u]) (rss ++ [r]) (fun j g => if j < us.length then K j g else j = us.length ∧ OwnB w w1 g) := by
  refine ⟨by simp [h.len], fun j u' r' hu hr => ?_, fun j g hg => ?_, fun j g hg => ?_, fun i j g hi hj => ?_⟩
  · by_cases hj : j < us.length
    · rw [List.getElem?_append_left hj] at hu
      rw [List.getElem?_append_left (by rw [← h.len]; exact hj)] at hr
      exact (h.row j u' r' hu hr).mono (fun g hg => hb.block g (h.lt j g hg)) (fun g hg => by simpa [hj] using hg)
    · have e : j = us.length := by
        have := (List.getElem?_eq_some_iff.1 hu).1
        simp at this
        omega
      subst e
      rw [List.getElem?_append_right (Nat.le_refl _), Nat.sub_self] at hu
      rw [List.getElem?_append_right (by rw [h.len]; exact Nat.le_refl _), h.len, Nat.sub_self] at hr
      cases hu
      cases hr
      exact hs.mono (fun _ _ => rfl) (fun g hg => by simpa using hg)
  · by_cases hj : j < us.length
    · exact h.sub j g (by simpa [hj] using hg)
    · simp only [hj, if_false] at hg
      exact hS g hg.2
  · by_cases hj : j < us.length
    · exact Nat.lt_of_lt_of_le (h.lt j g (by simpa [hj] using hg)) hb.size
    · simp only [hj, if_false] at hg
      exact hg.2.2
  · by_cases h1 : i < us.length <;> by_cases h2 : j < us.length <;> simp only [h1, h2, if_true, if_false] at hi hj
    · exact h.sep i j g hi hj
    · have := h.lt i g hi
      have := hj.2.1
      omega
    · have := h.lt j g hj
      have := hi.2.1
      omega
    · omega

/-- A row of rows of the call's own: no block is met twice. -/
def RowOO (w : World) (S : Nat → Prop) (v : Value) (rss : List (List Value)) : Prop :=
  ∃ us K0 K, RowO w K0 v us ∧ RowsP S w us rss K ∧ ∀ g, K0 g → S g ∧ ∀ j, ¬ K j g
theorem RowOO.rows {w : World} {S : Nat → Prop} {v : Value} {rss : List (List Value)} (h : RowOO w S v rss) : RowVV w S v rss := by
  obtain ⟨us, K0, K, ho, hp, hk⟩ := h
  exact ⟨us, hp.len, ho.row.mono (fun _ _ => rfl) (fun g hg => (hk g hg).1), fun j u r hu hr => (hp.row j u r hu hr).row.mono (fun _ _ => rfl) (fun g hg => hp.sub j g hg)⟩
theorem RowOO.mono {w w' : World} {S S' : Nat → Prop} {v : Value} {rss : List (List Value)} (h : RowOO w S v rss) (hs : ∀ g, S g → w'.heap[g]? = w.heap[g]?) (hS : ∀ g, S g → S' g) (hz : w.heap.size ≤ w'.heap.size) : RowOO w' S' v rss := by
  obtain ⟨us, K0, K, ho, hp, hk⟩ := h
  exact ⟨us, K0, K, ho.mono (fun g hg => hs g (hk g hg).1) (fun _ hg => hg), hp.keep (fun j g hg => hs g (hp.sub j g hg)) (fun j g hg => hS g (hp.sub j g hg)) hz, fun g hg => ⟨hS g (hk g hg).1, (hk g hg).2⟩⟩
theorem RowOO.nil (w : World) (S : Nat → Prop) (A : Option Addr) (c : Nat) : RowOO w S (.slice A 0 c) [] := ⟨[], fun _ => False, fun _ _ => False, RowO.nil _ _ _ _, RowsP.nil _ _, fun _ h => h.elim⟩
theorem RowOO.shape {w : World} {S : Nat → Prop} {v : Value} {rss : List (List Value)} (h : RowOO w S v rss) : ∃ A c, v = .slice A rss.length c := h.rows.shape.2
end Go.Proofs.YtlkhmpdncimnfaaGreatDoor

namespace Go.Proofs.YtlkhmpdncimnfaaGreatDoor
open Go.RowKit

/-- Rows of ints as cells. -/
def intss (rs : List (List Int)) : List (List Value) := rs.map ints
theorem intss_length (rs : List (List Int)) : (intss rs).length = rs.length := by simp [intss]
theorem intss_at {rs : List (List Int)} {j : Nat} (h : j < rs.length) : (intss rs)[j]'(by rw [intss_length]; exact h) = ints (rs[j]) := by simp [intss]
theorem RowVV.atD {w : World} {S : Nat → Prop} {A : Option Addr} {n c : Nat} {rs : List (List Int)} (h : RowVV w S (.slice A n c) (intss rs)) {j : Nat} (hj : j < rs.length) :
    ∃ ad u, A = some ad ∧ S ad.block ∧ w.cell? (ad.add j) = some u ∧ RowV w S u (ints (rs.getD j [])) := by
  obtain ⟨ad, u, h1, h2, h3, h4⟩ := h.at (j := j) (by rw [intss_length]; exact hj)
  rw [intss_at hj] at h4
  refine ⟨ad, u, h1, h2, h3, ?_⟩
  rw [List.getD_eq_getElem?_getD, List.getElem?_eq_getElem hj]
  exact h4
theorem RowV.intD {w : World} {S : Nat → Prop} {A : Option Addr} {n c : Nat} {r : List Int} (h : RowV w S (.slice A n c) (ints r)) {j : Nat} (hj : j < r.length) : ∃ ad, A = some ad ∧ S ad.block ∧ w.cell? (ad.add j) = some (.int .i64 (r.getD j 0)) := by
  obtain ⟨ad, h1, h2, h3⟩ := h.at (j := j) (by rw [ints_length]; exact hj)
  rw [ints_at hj] at h3
  refine ⟨ad, h1, h2, ?_⟩
  rw [List.getD_eq_getElem?_getD, List.getElem?_eq_getElem hj]
  exact h3
theorem RowV.boolD {w : World} {S : Nat → Prop} {A : Option Addr} {n c : Nat} {r : List Bool} (h : RowV w S (.slice A n c) (bools r)) {j : Nat} (hj : j < r.length) : ∃ ad, A = some ad ∧ S ad.block ∧ w.cell? (ad.add j) = some (.bool (r.getD j false)) := by
  obtain ⟨ad, h1, h2, h3⟩ := h.at (j := j) (by rw [bools_length]; exact hj)
  rw [bools_at hj] at h3
  refine ⟨ad, h1, h2, ?_⟩
  rw [List.getD_eq_getElem?_getD, List.getElem?_eq_getElem hj]
  exact h3
theorem RowV.ints_shape {w : World} {S : Nat → Prop} {v : Value} {r : List Int} (h : RowV w S v (ints r)) : r.length ≤ 9223372036854775807 ∧ ∃ A c, v = .slice A r.length c := by
  obtain ⟨A, c, e⟩ := h.shape
  have hl := h.1
  rw [ints_length] at e hl
  exact ⟨hl, A, c, e⟩
def totR (rs : List (List Int)) : Nat := (rs.map List.length).sum
theorem totR_step {rs : List (List Int)} {j : Nat} (h : j < rs.length) : totR (rs.take (j + 1)) = totR (rs.take j) + (rs[j]).length := by
  rw [List.take_succ_eq_append_getElem h]
  simp only [totR, List.map_append, List.map_cons, List.map_nil, List.sum_append, List.sum_cons, List.sum_nil]
  omega
theorem totR_take (rs : List (List Int)) (j : Nat) : totR (rs.take j) ≤ totR rs := by
  have h := List.take_append_drop j rs
  have : totR rs = totR (rs.take j) + totR (rs.drop j) := by
    conv => lhs; rw [← h]
    simp only [totR, List.map_append, List.sum_append]
  omega

/-- A copy of its own. -/
def Copy2 (rss : List (List Value)) (w : World) (e : Ending) (w' : World) : Prop := ∃ v, e = .returned v ∧ RowOO w' (OwnB w w') v rss ∧ Below w.heap.size w w'
theorem rowInfo : (Tryz.prog.info? 68).map (fun i => (i.zero, i.size, i.bytes)) = some (some (.slice none 0 0), 1, 24) := by kernel_rfl

/-- The copy so far: the first rows are laid. -/
def Laid2 (w wr : World) (n : Nat) (rss : List (List Value)) (j : Nat) : Prop :=
  ∃ us K, RowO wr (fun g => g = w.heap.size) (.slice (some ⟨w.heap.size, 0, none⟩) n n) (us ++ List.replicate (n - j) (.slice none 0 0)) ∧ us.length = j ∧ RowsP (fun g => w.heap.size < g) wr us (rss.take j) K

set_option maxRecDepth 100000 in
set_option maxHeartbeats 1600000 in
theorem eqIntSS_any (v v' : Value) (rs : List (List Int)) (S S' : Nat → Prop) (w : World) (h : RowVV w S v (intss rs)) (h' : RowVV w S' v' (intss rs)) :
    Calls Tryz.prog 20 #[v, v'] w fun e w' => e = .returned (.bool true) ∧ Below w.heap.size w w' := by
  obtain ⟨hl, A, c, rfl⟩ := h.shape
  obtain ⟨-, A', c', rfl⟩ := h'.shape
  rw [intss_length] at hl h h' ⊢
  have HE := Lib.hid h
  have HE' := Lib.hid h'
  clear h h'
  go_enter Tryz.func20, Tryz.ntmps20
  go_wp2_with fail
  go_loopw [5] (fun i wr => ∃ j : Nat, i = .int .i64 j ∧ j ≤ rs.length ∧ Below w.heap.size w wr) (fun i _ => rs.length - (intOf i).toNat)
  case atStart => exact ⟨0, rfl, Nat.zero_le _, Below.refl _ _⟩
  case round =>
    obtain ⟨j, rfl, hj, hb⟩ := hrel
    have HB := Lib.hid hb
    clear hb
    by_cases hlt : j < rs.length
    · obtain ⟨ad, u, rfl, -, hc1, hr1⟩ := (HE.out.kept HB.out).at (j := j) (by rw [intss_length]; exact hlt)
      obtain ⟨ad', u', rfl, -, hc2, hr2⟩ := (HE'.out.kept HB.out).at (j := j) (by rw [intss_length]; exact hlt)
      rw [intss_at hlt] at hr1 hr2
      have hbw : Below wr.heap.size wr wr := Below.refl _ _
      have HK := Lib.hid (fun (V : World) (hV : Below wr.heap.size wr V) => (⟨(hV.cell (cell_in hc1)).trans hc1, (hV.cell (cell_in hc2)).trans hc2⟩ : V.cell? (ad.add j) = some u ∧ V.cell? (ad'.add j) = some u'))
      have HQ := Lib.hid (fun (V : World) (hV : Below wr.heap.size wr V) => eqIntS_b u u' (rs[j]) S S' V (hr1.kept hV) (hr2.kept hV))
      have s4 : (j : Int) < (rs.length : Int) := by omega
      have s8 : (0 : Int) ≤ (j : Int) := by omega
      clear hr1 hr2
      go_wp2_with fail
      go_region_held3 (fun V => V.cell? (ad.add j) = some u ∧ V.cell? (ad'.add j) = some u') (first | exact HK.out _ hbw.drew | exact HK.out _ hbw) (first | (go_at_call 43; (with_reducible refine (HQ.out _ hbw.drew).mono ?_); rintro e w2 ⟨rfl, hb2⟩; have hbw := hbw.drew.trans (hb2.mono hbw.drew.size)))
      have HB2 := Lib.hid (HB.out.trans (hbw.mono HB.out.size))
      clear hb2 hbw s4 s8 hc1 hc2
      go_wp2_with fail
      go_roundw
      case rel => exact ⟨j + 1, by go_num, by omega, HB2.out⟩
      case measure => simp [intOf]; omega
    · go_wp2_with fail
      go_ret
      exact ⟨rfl, HB.out⟩

/-- The marks of rows. -/
def marksR : Nat → List (List Int) → List (List Int)
  | _, [] => []
  | k, r :: rs => intMark k r.length :: marksR (k + r.length) rs
theorem marksR_length : ∀ (k : Nat) (rs : List (List Int)), (marksR k rs).length = rs.length
  | _, [] => rfl
  | k, r :: rs => by simp [marksR, marksR_length]
theorem marksR_at : ∀ (k : Nat) (rs : List (List Int)) (j : Nat) (h : j < rs.length), (marksR k rs)[j]? = some (intMark (k + totR (rs.take j)) (rs[j]).length)
  | _, [], j, h => by simp at h
  | k, r :: rs, 0, h => by simp [marksR, totR]
  | k, r :: rs, j + 1, h => by
    have := marksR_at (k + r.length) rs j (by simpa using h)
    simp only [marksR, List.getElem?_cons_succ, List.getElem_cons_succ, List.take_succ_cons, this]
    simp [totR, Nat.add_assoc]
theorem marksR_tot : ∀ (k : Nat) (rs : List (List Int)), totR (marksR k rs) = totR rs
  | _, [] => rfl
  | k, r :: rs => by
    have := marksR_tot (k + r.length) rs
    simp only [totR, marksR, List.map_cons, List.sum_cons, intMark_length] at this ⊢
    omega

/-- Rows of which the first j are marked. -/
structure MarkRel (S : Nat → Prop) (w wr : World) (k0 : Nat) (us : List Value) (rs : List (List Int)) (K : Nat → Nat → Prop) (j : Nat) : Prop where
  done : ∀ (i : Nat) (u : Value), i < j → us[i]? = some u → ∀ h : i < rs.length, RowO wr (K i) u (ints (intMark (k0 + totR (rs.take i)) (rs[i]).length))
  left : ∀ (i : Nat) (u : Value), j ≤ i → us[i]? = some u → ∀ h : i < rs.length, RowO wr (K i) u (ints (rs[i]))

set_option maxRecDepth 100000 in
set_option maxHeartbeats 1600000 in
theorem markIntSS_any (k0 : Nat) (v : Value) (rs : List (List Int)) (S : Nat → Prop) (w : World) (h : RowOO w S v (intss rs)) (hn : rs.length + totR rs ≤ 2097152) (hk : k0 ≤ 8388608) :
    Calls Tryz.prog 24 #[v, .int .i64 (k0 : Int)] w fun e w' => e = .returned (.int .i64 ((k0 + totR rs : Nat) : Int)) ∧ RowOO w' S v (intss (marksR k0 rs)) ∧ Chg S w w' ∧ w'.heap.size = w.heap.size := by
  obtain ⟨us, K0, K, ho, hP, hK⟩ := h
  have hul : us.length = rs.length := by rw [hP.len, intss_length]
  obtain ⟨A, c, rfl⟩ := ho.shape
  have HV := Lib.hid ho
  have HP := Lib.hid hP
  have HK := Lib.hid hK
  have h0 : MarkRel S w w k0 us rs K 0 := ⟨fun i u hi => absurd hi (Nat.not_lt_zero _), fun i u _ hu hi => hP.row i u _ hu (by rw [List.getElem?_eq_getElem (by rw [intss_length]; exact hi), intss_at hi])⟩
  clear ho hP hK
  rw [hul] at HV ⊢
  go_enter Tryz.func24, Tryz.ntmps24
  go_wp2_with fail
  go_loopw [1, 5] (fun y i wr => ∃ j : Nat, i = .int .i64 j ∧ y = .int .i64 ((k0 + totR (rs.take j) : Nat) : Int) ∧ j ≤ rs.length ∧ MarkRel S w wr k0 us rs K j ∧ Chg (fun g => ∃ j, K j g) w wr ∧ wr.heap.size = w.heap.size) (fun _ i _ => rs.length - (intOf i).toNat)
  case atStart => exact ⟨0, rfl, by simp [totR], Nat.zero_le _, h0, Chg.refl _ _, rfl⟩
  case round =>
    obtain ⟨j, rfl, rfl, hj, hM, hc, hzs⟩ := hrel
    clear h0
    have HM := Lib.hid hM
    have HC := Lib.hid hc
    clear hM hc
    have hv' : RowO wr K0 (.slice A rs.length c) us := HV.out.mono (fun g hg => by
      by_cases hg2 : g < w.heap.size
      · exact HC.out.block g hg2 (fun ⟨i, hi⟩ => (HK.out g hg).2 i hi)
      · rw [Array.getElem?_eq_none (by omega), Array.getElem?_eq_none (by omega)]) (fun _ h => h)
    by_cases hlt : j < rs.length
    · obtain ⟨ad, hA, -, hce⟩ := hv'.row.at (j := j) (by omega)
      have hu := HM.out.left j _ (Nat.le_refl _) (List.getElem?_eq_getElem (by omega : j < us.length)) hlt
      obtain ⟨u, hue⟩ : ∃ u, u = us[j]'(by omega) := ⟨_, rfl⟩
      rw [← hue] at hce hu
      have hT := totR_step hlt
      have hT2 := totR_take rs (j + 1)
      have HI := Lib.hid (markIntS_any (k0 + totR (rs.take j)) u (rs[j]) (K j) wr hu (by omega) (by omega))
      obtain ⟨A', c', hus⟩ := hu.shape
      subst hus
      subst hA
      have HU := Lib.hid hue
      obtain ⟨y, hy⟩ : ∃ y, y = k0 + totR (rs.take j) := ⟨_, rfl⟩
      rw [← hy] at HI ⊢
      have HY := Lib.hid hy
      obtain ⟨y2, hy2⟩ : ∃ y2, y2 = y + (rs[j]).length := ⟨_, rfl⟩
      rw [← hy2] at HI
      have HY2 : Hid (y2 = k0 + totR (rs.take (j + 1))) := Lib.hid (by omega)
      clear hu hue hv' hT hT2 hy hy2
      go_wp2_with fail
      refine HI.out.mono ?_
      rintro e w2 ⟨rfl, hs2, hc2, hz2⟩
      have HM2 : Hid (MarkRel S w w2 k0 us rs K (j + 1)) := Lib.hid ⟨fun i u hi hu h => by
          by_cases e : i = j
          · subst e
            have e2 : u = us[i]'(by omega) := by rw [List.getElem?_eq_getElem (by omega : i < us.length)] at hu; exact (Option.some.inj hu).symm
            rw [← HY.out, e2, ← HU.out]
            exact hs2
          · exact (HM.out.done i u (by omega) hu h).mono (fun g hg => by
              by_cases hg2 : g < wr.heap.size
              · exact hc2.block g hg2 (fun hk => e (HP.out.sep i j g hg hk))
              · rw [Array.getElem?_eq_none (by omega), Array.getElem?_eq_none (by omega)]) (fun _ h => h),
        fun i u hi hu h => (HM.out.left i u (by omega) hu h).mono (fun g hg => by
              by_cases hg2 : g < wr.heap.size
              · exact hc2.block g hg2 (fun hk => by have := HP.out.sep i j g hg hk; omega)
              · rw [Array.getElem?_eq_none (by omega), Array.getElem?_eq_none (by omega)]) (fun _ h => h)⟩
      have HC2 := Lib.hid (HC.out.trans (hc2.more (fun g hg => ⟨j, hg⟩)))
      have hz3 : w2.heap.size = w.heap.size := by omega
      clear hs2 hc2
      go_wp2_with fail
      go_roundw
      case rel => exact ⟨j + 1, by go_num, by rw [HY2.out], by omega, HM2.out, HC2.out, hz3⟩
      case measure => simp [intOf]; omega
    · obtain rfl : j = rs.length := by omega
      rw [List.take_length]
      have HR : Hid (RowOO wr S (.slice A rs.length c) (intss (marksR k0 rs))) := Lib.hid ⟨us, K0, K, hv', ⟨by rw [intss_length, marksR_length]; exact hul, fun i u r hu hr => by
          have hi : i < rs.length := by rw [← hul]; exact (List.getElem?_eq_some_iff.1 hu).1
          have := HM.out.done i u hi hu hi
          have e := marksR_at k0 rs i hi
          unfold intss at hr
          rw [List.getElem?_map, e] at hr
          cases hr
          exact this, HP.out.sub, fun i g hg => by rw [hzs]; exact HP.out.lt i g hg, HP.out.sep⟩, HK.out⟩
      have HC3 := Lib.hid (HC.out.more (S' := S) (fun g ⟨i, hi⟩ => HP.out.sub i g hi))
      clear hv'
      go_wp2_with fail
      go_ret
      exact ⟨rfl, HR.out, HC3.out, hzs⟩

set_option maxRecDepth 100000 in
set_option maxHeartbeats 800000 in
theorem heldIntSS_any (k0 : Nat) (v : Value) (rs : List (List Int)) (S : Nat → Prop) (w : World) (h : RowVV w S v (intss (marksR k0 rs))) (hn : rs.length + totR rs ≤ 2097152) (hk : k0 ≤ 8388608) :
    Calls Tryz.prog 26 #[v, .int .i64 (k0 : Int)] w fun e w' => e = .returned (.int .i64 ((k0 + totR rs : Nat) : Int)) ∧ Below w.heap.size w w' := by
  obtain ⟨-, A, c, rfl⟩ := h.shape
  rw [intss_length, marksR_length] at h ⊢
  have HE := Lib.hid h
  clear h
  go_enter Tryz.func26, Tryz.ntmps26
  go_wp2_with fail
  go_loopw [1, 5] (fun y i wr => ∃ j : Nat, i = .int .i64 j ∧ y = .int .i64 ((k0 + totR (rs.take j) : Nat) : Int) ∧ j ≤ rs.length ∧ Below w.heap.size w wr) (fun _ i _ => rs.length - (intOf i).toNat)
  case atStart => exact ⟨0, rfl, by simp [totR], Nat.zero_le _, Below.refl _ _⟩
  case round =>
    obtain ⟨j, rfl, rfl, hj, hb⟩ := hrel
    have HB := Lib.hid hb
    clear hb
    by_cases hlt : j < rs.length
    · obtain ⟨ad, u, rfl, -, hc, hr⟩ := (HE.out.kept HB.out).at (j := j) (by rw [intss_length, marksR_length]; exact hlt)
      rw [intss_at (by rw [marksR_length]; exact hlt)] at hr
      have e : (marksR k0 rs)[j]'(by rw [marksR_length]; exact hlt) = intMark (k0 + totR (rs.take j)) (rs[j]).length := by
        have := marksR_at k0 rs j hlt
        rw [List.getElem?_eq_getElem (by rw [marksR_length]; exact hlt)] at this
        exact Option.some.inj this
      rw [e] at hr
      have hT := totR_step hlt
      have hT2 := totR_take rs (j + 1)
      have HI := Lib.hid (heldIntS_b (k0 + totR (rs.take j)) (rs[j]).length u S wr hr (by omega) (by omega))
      obtain ⟨A', c', hus⟩ := hr.shape
      rw [ints_length, intMark_length] at hus
      subst hus
      obtain ⟨y, hy⟩ : ∃ y, y = k0 + totR (rs.take j) := ⟨_, rfl⟩
      rw [← hy] at HI ⊢
      obtain ⟨y2, hy2⟩ : ∃ y2, y2 = y + (rs[j]).length := ⟨_, rfl⟩
      rw [← hy2] at HI
      have HY2 : Hid (y2 = k0 + totR (rs.take (j + 1))) := Lib.hid (by omega)
      clear hr e hT hT2 hy hy2
      go_wp2_with fail
      refine HI.out.mono ?_
      rintro e w2 ⟨rfl, hb2⟩
      have HB2 := Lib.hid (HB.out.trans (hb2.mono HB.out.size))
      have hng : ¬ (y2 : Int) < 0 := by omega
      clear hb2
      go_wp2_with fail
      go_roundw
      case rel => exact ⟨j + 1, by go_num, by rw [HY2.out], by omega, HB2.out⟩
      case measure => simp [intOf]; omega
    · obtain rfl : j = rs.length := by omega
      rw [List.take_length]
      go_wp2_with fail
      go_ret
      exact ⟨rfl, HB.out⟩
end Go.Proofs.YtlkhmpdncimnfaaGreatDoor

namespace Go.Proofs.YtlkhmpdncimnfaaGreatDoor
open Go.RowKit

/-- Block g is a box of two cells. -/
def Bx2 (w : World) (g : Nat) (x y : Value) : Prop := w.cell? ⟨g, 0, none⟩ = some x ∧ w.cell? ⟨g, 1, none⟩ = some y
theorem Bx2.below {w w' : World} {g B : Nat} {x y : Value} (h : Bx2 w g x y) (hb : Below B w w') (hg : g < B) : Bx2 w' g x y :=
  ⟨(hb.cell (p := ⟨g, 0, none⟩) hg).trans h.1, (hb.cell (p := ⟨g, 1, none⟩) hg).trans h.2⟩
theorem Bx2.kept {w w' : World} {g : Nat} {x y : Value} (h : Bx2 w g x y) (hb : Below w.heap.size w w') : Bx2 w' g x y := h.below hb (by
  by_cases hl : g < w.heap.size
  · exact hl
  · have e : w.heap[g]? = none := Array.getElem?_eq_none (by omega)
    have := h.1
    simp [World.cell?, e] at this)
theorem Bx2.lt {w : World} {g : Nat} {x y : Value} (h : Bx2 w g x y) : g < w.heap.size := by
  by_cases hl : g < w.heap.size
  · exact hl
  · have e : w.heap[g]? = none := Array.getElem?_eq_none (by omega)
    have := h.1
    simp [World.cell?, e] at this
theorem Bx2.chg {w w' : World} {S : Nat → Prop} {g : Nat} {x y : Value} (h : Bx2 w g x y) (hc : Chg S w w') (hn : ¬ S g) : Bx2 w' g x y :=
  ⟨(hc.cell (p := ⟨g, 0, none⟩) h.lt hn).trans h.1, (hc.cell (p := ⟨g, 1, none⟩) h.lt hn).trans h.2⟩
/-- A box that was laid before a call that turns nothing old. -/
theorem box2_kept {w w1 : World} {a b : Value} {t : TypeId} (hb : Below (w.heap.size + 1) (w.alloc (.cells #[a, b] t)) w1) :
    w1.heap[w.heap.size]? = some (.cells #[a, b] t (0, 0)) ∧ w1.cell? ⟨w.heap.size, 0, none⟩ = some a ∧ w1.cell? ⟨w.heap.size, 1, none⟩ = some b ∧ w1.frozen? ⟨w.heap.size, 0, none⟩ = false ∧ w1.frozen? ⟨w.heap.size, 1, none⟩ = false := by
  have h := (hb.block w.heap.size (Nat.lt_succ_self _)).trans (heap_alloc_new w _)
  exact ⟨h, (cell_of_row w1 _ 0 _ _ (0, 0) h).trans rfl, (cell_of_row w1 _ 1 _ _ (0, 0) h).trans rfl, frozen_of_row w1 _ 0 _ _ h, frozen_of_row w1 _ 1 _ _ h⟩
theorem box2_new (w0 w1 : World) (B : Nat) (x y : Value) (t : TypeId) (h : Below B w0 w1) (hB : B ≤ w0.heap.size) :
    Below B w0 (w1.alloc (.cells #[x, y] t)) ∧ Bx2 (w1.alloc (.cells #[x, y] t)) w1.heap.size x y ∧ Below w1.heap.size w1 (w1.alloc (.cells #[x, y] t)) ∧ (w1.alloc (.cells #[x, y] t)).heap.size = w1.heap.size + 1 := by
  have k := box2_kept (w := w1) (a := x) (b := y) (t := t) (Below.refl _ _)
  exact ⟨h.alloc (Nat.le_trans hB h.size) _, ⟨k.2.1, k.2.2.1⟩, (Below.refl _ _).alloc (Nat.le_refl _) _, by simp⟩
/-- The two cells are written. -/
theorem put2 {w1 : World} {g : Nat} {x0 x1 k l : Value} (b0 : w1.cell? ⟨g, 0, none⟩ = some x0) (b1 : w1.cell? ⟨g, 1, none⟩ = some x1) :
    let W4 := (w1.setCell ⟨g, 0, none⟩ k).setCell ⟨g, 1, none⟩ l
    (W4.cell? ⟨g, 0, none⟩ = some k ∧ W4.cell? ⟨g, 1, none⟩ = some l) ∧ W4.heap.size = w1.heap.size ∧ (∀ h, h ≠ g → W4.heap[h]? = w1.heap[h]?) ∧ ∀ B a, Below B a w1 → B ≤ g → Below B a W4 := by
  intro W4
  have ne : (⟨g, 0, none⟩ : Addr) ≠ ⟨g, 1, none⟩ := fun e => by injection e with _ e2; cases e2
  have d1 : (w1.setCell ⟨g, 0, none⟩ k).cell? ⟨g, 1, none⟩ = some x1 := (World.cell?_setCell_other _ _ _ _ ne).trans b1
  refine ⟨⟨(World.cell?_setCell_other _ _ _ _ ne.symm).trans (World.cell?_setCell_same _ _ _ b0), World.cell?_setCell_same _ _ _ d1⟩, by simp [W4, World.setCell], fun h hne => (Below.heap_setCell _ _ _ h hne).trans (Below.heap_setCell _ _ _ h hne), fun B a hb hg => (hb.setCell (p := ⟨g, 0, none⟩) hg k).setCell (p := ⟨g, 1, none⟩) hg l⟩
end Go.Proofs.YtlkhmpdncimnfaaGreatDoor

namespace Go.Proofs.YtlkhmpdncimnfaaGreatDoor
open Go.RowKit

/-- An automaton, as its fields tell it. -/
structure Dx where
  acc : List Bool
  nxt : List (List Int)
def zeroD : Dx := ⟨[], []⟩
def DfaV (w : World) (S : Nat → Prop) (va vn : Value) (d : Dx) : Prop := RowV w S va (bools d.acc) ∧ RowVV w S vn (intss d.nxt)
theorem DfaV.mono {w w' : World} {S S' : Nat → Prop} {va vn : Value} {d : Dx} (h : DfaV w S va vn d) (hs : ∀ g, S g → w'.heap[g]? = w.heap[g]?) (hS : ∀ g, S g → S' g) : DfaV w' S' va vn d := ⟨h.1.mono hs hS, h.2.mono hs hS⟩
theorem DfaV.kept {w w' : World} {S : Nat → Prop} {va vn : Value} {d : Dx} (h : DfaV w S va vn d) (hb : Below w.heap.size w w') : DfaV w' S va vn d := ⟨h.1.kept hb, h.2.kept hb⟩
theorem DfaV.shape {w : World} {S : Nat → Prop} {va vn : Value} {d : Dx} (h : DfaV w S va vn d) : (∃ A c, va = .slice A d.acc.length c) ∧ ∃ A c, vn = .slice A d.nxt.length c := by
  obtain ⟨A, c, e⟩ := h.1.shape
  obtain ⟨A', c', e'⟩ := h.2.shape.2
  rw [bools_length] at e
  rw [intss_length] at e'
  exact ⟨⟨A, c, e⟩, A', c', e'⟩
/-- .. of the call's own. -/
def DfaO (w : World) (S : Nat → Prop) (va vn : Value) (d : Dx) : Prop :=
  ∃ Sa Sn : Nat → Prop, RowO w Sa va (bools d.acc) ∧ RowOO w Sn vn (intss d.nxt) ∧ (∀ g, Sa g → S g ∧ ¬ Sn g) ∧ ∀ g, Sn g → S g
theorem DfaO.dfa {w : World} {S : Nat → Prop} {va vn : Value} {d : Dx} (h : DfaO w S va vn d) : DfaV w S va vn d := by
  obtain ⟨Sa, Sn, h1, h2, h3, h4⟩ := h
  exact ⟨h1.row.mono (fun _ _ => rfl) (fun g hg => (h3 g hg).1), h2.rows.mono (fun _ _ => rfl) h4⟩
theorem DfaO.mono {w w' : World} {S S' : Nat → Prop} {va vn : Value} {d : Dx} (h : DfaO w S va vn d) (hs : ∀ g, S g → w'.heap[g]? = w.heap[g]?) (hS : ∀ g, S g → S' g) (hz : w.heap.size ≤ w'.heap.size) : DfaO w' S' va vn d := by
  obtain ⟨Sa, Sn, h1, h2, h3, h4⟩ := h
  exact ⟨Sa, Sn, h1.mono (fun g hg => hs g (h3 g hg).1) (fun _ h => h), h2.mono (fun g hg => hs g (h4 g hg)) (fun _ h => h) hz, fun g hg => ⟨hS g (h3 g hg).1, (h3 g hg).2⟩, fun g hg => hS g (h4 g hg)⟩
theorem DfaO.zero (w : World) (S : Nat → Prop) : DfaO w S (.slice none 0 0) (.slice none 0 0) zeroD :=
  ⟨fun _ => False, fun _ => False, RowO.nil _ _ _ _, RowOO.nil _ _ _ _, fun _ h => h.elim, fun _ h => h.elim⟩
def wtD (d : Dx) : Nat := d.acc.length + (d.nxt.length + totR d.nxt)

/-- A copy of its own. -/
def CopyD (d : Dx) (w : World) (e : Ending) (w' : World) : Prop := ∃ va vn, e = .returned (.agg #[va, vn]) ∧ DfaO w' (OwnB w w') va vn d ∧ Below w.heap.size w w'
theorem CopyD.shape {d : Dx} {w w' : World} {e : Ending} (h : CopyD d w e w') : ∃ A c A' c', e = .returned (.agg #[.slice A d.acc.length c, .slice A' d.nxt.length c']) ∧ DfaO w' (OwnB w w') (.slice A d.acc.length c) (.slice A' d.nxt.length c') d ∧ Below w.heap.size w w' := by
  obtain ⟨va, vn, rfl, ho, hb⟩ := h
  obtain ⟨⟨A, c, rfl⟩, A', c', rfl⟩ := ho.dfa.shape
  exact ⟨A, c, A', c', rfl, ho, hb⟩
theorem three2 (w : World) (o1 : Obj) (x y : Value) (t : TypeId) : ((w.alloc o1).alloc (.cells #[x, y] t)).heap[w.heap.size + 1]? = some (.cells #[x, y] t (0, 0)) := by
  have h := heap_alloc_new (w.alloc o1) (.cells #[x, y] t)
  rw [World.size_alloc] at h
  exact h
/-- The result's cells are written: what is beneath lies as it lay. -/
theorem toD_end {w W3 w1 w2 : World} {d : Dx} {va vn x0 x1 : Value} (hz : W3.heap.size = w.heap.size + 1 + 1 + 1) (hb : Below w.heap.size w W3) (hb1 : Below W3.heap.size W3 w1) (ha : RowO w1 (OwnB W3 w1) va (bools d.acc))
    (hb2 : Below w1.heap.size (w1.setCell ⟨w.heap.size + 1 + 1, 0, none⟩ va) w2) (hn : RowOO w2 (OwnB w1 w2) vn (intss d.nxt))
    (b0 : w2.cell? ⟨w.heap.size + 1, 0, none⟩ = some x0) (b1 : w2.cell? ⟨w.heap.size + 1, 1, none⟩ = some x1) :
    let W4 := ((w2.setCell ⟨w.heap.size + 1 + 1, 1, none⟩ vn).setCell ⟨w.heap.size + 1, 0, none⟩ va).setCell ⟨w.heap.size + 1, 1, none⟩ vn
    (W4.cell? ⟨w.heap.size + 1, 0, none⟩ = some va ∧ W4.cell? ⟨w.heap.size + 1, 1, none⟩ = some vn) ∧ CopyD d w (.returned (.agg #[va, vn])) W4 := by
  intro W4
  have hne : (w.heap.size + 1 : Nat) ≠ w.heap.size + 1 + 1 := by omega
  have d0 := (World.cell?_of_block (a := ⟨w.heap.size + 1, 0, none⟩) (Below.heap_setCell w2 ⟨w.heap.size + 1 + 1, 1, none⟩ vn _ hne)).trans b0
  have d1 := (World.cell?_of_block (a := ⟨w.heap.size + 1, 1, none⟩) (Below.heap_setCell w2 ⟨w.heap.size + 1 + 1, 1, none⟩ vn _ hne)).trans b1
  obtain ⟨hcl, hsz, hot, -⟩ := put2 (k := va) (l := vn) d0 d1
  have hs2 : (w2.setCell ⟨w.heap.size + 1 + 1, 1, none⟩ vn).heap.size = w2.heap.size := by simp [World.setCell]
  have hs1 : (w1.setCell ⟨w.heap.size + 1 + 1, 0, none⟩ va).heap.size = w1.heap.size := by simp [World.setCell]
  have hs4 : W4.heap.size = w2.heap.size := hsz.trans hs2
  have hz1 := hb1.size
  have hz2 := hb2.size
  rw [hs1] at hz2
  have hold : ∀ g, g ≠ w.heap.size + 1 → g ≠ w.heap.size + 1 + 1 → W4.heap[g]? = w2.heap[g]? := fun g h1 h2 => (hot g h1).trans (Below.heap_setCell w2 ⟨w.heap.size + 1 + 1, 1, none⟩ vn g h2)
  have hold1 : ∀ g, g < w1.heap.size → g ≠ w.heap.size + 1 + 1 → w2.heap[g]? = w1.heap[g]? := fun g h1 h2 => (hb2.block g h1).trans (Below.heap_setCell w1 ⟨w.heap.size + 1 + 1, 0, none⟩ va g h2)
  refine ⟨hcl, va, vn, rfl, ⟨OwnB W3 w1, OwnB w1 w2, ha.mono (fun g hg => ?_) (fun _ h => h), hn.mono (fun g hg => ?_) (fun _ h => h) (by rw [hs4]; exact Nat.le_refl _), fun g hg => ?_, fun g hg => ?_⟩, ?_⟩
  · have h1 := hg.1
    have h2 := hg.2
    exact (hold g (by omega) (by omega)).trans (hold1 g h2 (by omega))
  · have h1 := hg.1
    exact hold g (by omega) (by omega)
  · have h1 := hg.1
    have h2 := hg.2
    exact ⟨⟨by omega, by rw [hs4]; omega⟩, fun h => by have := h.1; omega⟩
  · have h1 := hg.1
    have h2 := hg.2
    exact ⟨by omega, by rw [hs4]; omega⟩
  · have q := (hb.trans (hb1.mono (by omega))).setCell (p := ⟨w.heap.size + 1 + 1, 0, none⟩) (by simp; omega) va
    have q2 := q.trans (hb2.mono (by omega))
    exact ((q2.setCell (p := ⟨w.heap.size + 1 + 1, 1, none⟩) (by simp; omega) vn).setCell (p := ⟨w.heap.size + 1, 0, none⟩) (by simp) va).setCell (p := ⟨w.heap.size + 1, 1, none⟩) (by simp) vn

set_option maxRecDepth 100000 in
set_option maxHeartbeats 800000 in
theorem eqDfa_any (va vn va' vn' : Value) (d : Dx) (S S' : Nat → Prop) (w : World) (h : DfaV w S va vn d) (h' : DfaV w S' va' vn' d) :
    Calls Tryz.prog 8 #[.agg #[va, vn], .agg #[va', vn']] w fun e w' => e = .returned (.bool true) ∧ Below w.heap.size w w' := by
  obtain ⟨⟨A, c, rfl⟩, A', c', rfl⟩ := h.shape
  obtain ⟨⟨B, e, rfl⟩, B', e', rfl⟩ := h'.shape
  have hB1 := (Below.refl w.heap.size w).alloc (Nat.le_refl _) (.cells #[.slice A d.acc.length c, .slice A' d.nxt.length c'] 29)
  have HB0 := Lib.hid (hB1.alloc hB1.size (.cells #[.slice B d.acc.length e, .slice B' d.nxt.length e'] 29))
  have HA := Lib.hid (fun (V : World) (hV : Below w.heap.size w V) => eqBoolS_b _ _ d.acc S S' V (h.1.kept hV) (h'.1.kept hV))
  have HN := Lib.hid (fun (V : World) (hV : Below w.heap.size w V) => eqIntSS_any _ _ d.nxt S S' V (h.2.kept hV) (h'.2.kept hV))
  clear h h' hB1
  go_enter Tryz.func8, Tryz.ntmps8
  go_wp2_with fail
  refine (HA.out _ HB0.out).mono ?_
  rintro e1 w1 ⟨rfl, hb1⟩
  have hb1' : Below (w.heap.size + 1 + 1) ((w.alloc (.cells #[.slice A d.acc.length c, .slice A' d.nxt.length c'] 29)).alloc (.cells #[.slice B d.acc.length e, .slice B' d.nxt.length e'] 29)) w1 := by simpa using hb1
  have hb2' : Below (w.heap.size + 1) (w.alloc (.cells #[.slice A d.acc.length c, .slice A' d.nxt.length c'] 29)) w1 := ((Below.refl _ _).alloc (by simp) (.cells #[.slice B d.acc.length e, .slice B' d.nxt.length e'] 29)).trans (hb1'.mono (Nat.le_succ _))
  obtain ⟨-, c0, c1, -⟩ := box2_kept hb2'
  have hb3' : Below ((w.alloc (.cells #[.slice A d.acc.length c, .slice A' d.nxt.length c'] 29)).heap.size + 1) ((w.alloc (.cells #[.slice A d.acc.length c, .slice A' d.nxt.length c'] 29)).alloc (.cells #[.slice B d.acc.length e, .slice B' d.nxt.length e'] 29)) w1 := by rw [World.size_alloc]; exact hb1'
  obtain ⟨-, d0, d1, -⟩ := box2_kept hb3'
  rw [World.size_alloc] at d0 d1
  have HW1 := Lib.hid (HB0.out.trans (hb1'.mono (by omega)))
  clear hb1 hb1' hb2' hb3'
  go_wp2_with fail
  refine (HN.out _ HW1.out).mono ?_
  rintro e2 w2 ⟨rfl, hb2⟩
  have HW2 := Lib.hid (HW1.out.trans (hb2.mono HW1.out.size))
  clear hb2
  go_wp2_with fail
  go_ret
  exact ⟨rfl, HW2.out⟩

/-- The marks of an automaton. -/
def markD (k : Nat) (d : Dx) : Dx := ⟨boolMark k d.acc.length, marksR (k + d.acc.length) d.nxt⟩
def lenD (d : Dx) : Nat := d.acc.length + totR d.nxt
theorem lenD_le (d : Dx) : lenD d ≤ wtD d := by unfold lenD wtD; omega

set_option maxRecDepth 100000 in
set_option maxHeartbeats 1600000 in
theorem markDfa_any (k0 : Nat) (va vn : Value) (d : Dx) (S : Nat → Prop) (w : World) (h : DfaO w S va vn d) (hS : ∀ g, S g → g < w.heap.size) (hn : wtD d ≤ 1048576) (hk : k0 ≤ 4194304) :
    Calls Tryz.prog 11 #[.agg #[va, vn], .int .i64 (k0 : Int)] w fun e w' => e = .returned (.int .i64 ((k0 + lenD d : Nat) : Int)) ∧ DfaO w' S va vn (markD k0 d) ∧ Chg S w w' := by
  unfold wtD at hn
  obtain ⟨⟨A, c, hA⟩, A', c', hA'⟩ := h.dfa.shape
  subst hA
  subst hA'
  obtain ⟨Sa, Sn, ha, hr, hdis, hsub⟩ := h
  have HC0 := Lib.hid ((Chg.refl S w).below ((Below.refl w.heap.size w).alloc (Nat.le_refl _) (.cells #[.slice A d.acc.length c, .slice A' d.nxt.length c'] 29)))
  have HA := Lib.hid (markBoolS_any k0 _ d.acc Sa (w.alloc (.cells #[.slice A d.acc.length c, .slice A' d.nxt.length c'] 29)) (ha.mono (fun g hg => Below.heap_alloc w _ g (hS g (hdis g hg).1)) (fun _ h => h)) (by omega) (by omega))
  have HN := Lib.hid (fun (V : World) (hV : ∀ g, Sn g → V.heap[g]? = w.heap[g]?) (hz : w.heap.size ≤ V.heap.size) => markIntSS_any (k0 + d.acc.length) _ d.nxt Sn V (hr.mono hV (fun _ h => h) hz) (by omega) (by omega))
  have HD := Lib.hid hdis
  have HU := Lib.hid hsub
  have HSL := Lib.hid hS
  clear ha hr hdis hsub hS
  obtain ⟨y, hy⟩ : ∃ y, y = k0 + d.acc.length := ⟨_, rfl⟩
  have hR : k0 + lenD d = y + totR d.nxt := by unfold lenD; omega
  rw [hR]
  rw [← hy] at HA HN
  have HY := Lib.hid hy
  clear hy hR
  go_enter Tryz.func11, Tryz.ntmps11
  go_wp2_with fail
  refine HA.out.mono ?_
  rintro e w1 ⟨rfl, hs1, hc1, hz1⟩
  rw [World.size_alloc] at hz1
  have k0' : w1.heap[w.heap.size]? = some (.cells #[.slice A d.acc.length c, .slice A' d.nxt.length c'] 29) := (hc1.block w.heap.size (by simp) (fun h => by have := HSL.out _ (HD.out _ h).1; omega)).trans (heap_alloc_new w _)
  have c0 := (cell_of_row w1 _ 0 _ _ (0, 0) k0').trans (rfl : _ = some (Value.slice A d.acc.length c))
  have c1 := (cell_of_row w1 _ 1 _ _ (0, 0) k0').trans (rfl : _ = some (Value.slice A' d.nxt.length c'))
  have HC1 := Lib.hid (HC0.out.trans (hc1.more (fun g hg => (HD.out g hg).1)))
  have HS1 := Lib.hid hs1
  have HV : Hid (∀ g, Sn g → w1.heap[g]? = w.heap[g]?) := Lib.hid (fun g hg => by
    have hlt := HSL.out g (HU.out g hg)
    exact (hc1.block g (by simp; omega) (fun h => (HD.out g h).2 hg)).trans (Below.heap_alloc w _ g hlt))
  clear hs1 hc1 k0'
  go_wp2_with fail
  refine (HN.out w1 HV.out (by omega)).mono ?_
  rintro e w2 ⟨rfl, hs2, hc2, hz2⟩
  have HC2 := Lib.hid (HC1.out.trans (hc2.more HU.out))
  have HR : Hid (DfaO w2 S (.slice A d.acc.length c) (.slice A' d.nxt.length c') (markD k0 d)) := Lib.hid ⟨Sa, Sn, HS1.out.mono (fun g hg => hc2.block g (by have := HSL.out g (HD.out g hg).1; omega) (HD.out g hg).2) (fun _ h => h), by rw [HY.out] at hs2; exact hs2, HD.out, HU.out⟩
  clear hs2 hc2
  go_wp2_with fail
  go_ret
  exact ⟨rfl, HR.out, HC2.out⟩

set_option maxRecDepth 100000 in
set_option maxHeartbeats 800000 in
theorem heldDfa_any (k0 : Nat) (va vn : Value) (d : Dx) (S : Nat → Prop) (w : World) (h : DfaV w S va vn (markD k0 d)) (hn : wtD d ≤ 1048576) (hk : k0 ≤ 4194304) :
    Calls Tryz.prog 12 #[.agg #[va, vn], .int .i64 (k0 : Int)] w fun e w' => e = .returned (.int .i64 ((k0 + lenD d : Nat) : Int)) ∧ Below w.heap.size w w' := by
  unfold wtD at hn
  obtain ⟨⟨A, c, hA⟩, A', c', hA'⟩ := h.shape
  have ha : (markD k0 d).acc.length = d.acc.length := boolMark_length _ _
  have hb : (markD k0 d).nxt.length = d.nxt.length := marksR_length _ _
  rw [ha] at hA
  rw [hb] at hA'
  subst hA
  subst hA'
  have HB0 := Lib.hid ((Below.refl w.heap.size w).alloc (Nat.le_refl _) (.cells #[.slice A d.acc.length c, .slice A' d.nxt.length c'] 29))
  have HA := Lib.hid (fun (V : World) (hV : Below w.heap.size w V) => heldBoolS_b k0 d.acc.length _ S V (h.1.kept hV) (by omega) (by omega))
  have HN := Lib.hid (fun (V : World) (hV : Below w.heap.size w V) => heldIntSS_any (k0 + d.acc.length) _ d.nxt S V (h.2.kept hV) (by omega) (by omega))
  clear h ha hb
  obtain ⟨y, hy⟩ : ∃ y, y = k0 + d.acc.length := ⟨_, rfl⟩
  have hR : k0 + lenD d = y + totR d.nxt := by unfold lenD; omega
  rw [hR]
  rw [← hy] at HA HN
  clear hy hR
  go_enter Tryz.func12, Tryz.ntmps12
  go_wp2_with fail
  refine (HA.out _ HB0.out).mono ?_
  rintro e w1 ⟨rfl, hb1⟩
  have hb1' : Below (w.heap.size + 1) (w.alloc (.cells #[.slice A d.acc.length c, .slice A' d.nxt.length c'] 29)) w1 := by simpa using hb1
  obtain ⟨-, c0, c1, -⟩ := box2_kept hb1'
  have HW1 := Lib.hid (HB0.out.trans (hb1'.mono (Nat.le_succ _)))
  have hng : ¬ (y : Int) < 0 := by omega
  clear hb1 hb1'
  go_wp2_with fail
  refine (HN.out _ HW1.out).mono ?_
  rintro e w2 ⟨rfl, hb2⟩
  have HW2 := Lib.hid (HW1.out.trans (hb2.mono HW1.out.size))
  have hng2 : ¬ ((y + totR d.nxt : Nat) : Int) < 0 := by omega
  clear hb2
  go_wp2_with fail
  go_ret
  exact ⟨rfl, HW2.out⟩
end Go.Proofs.YtlkhmpdncimnfaaGreatDoor

namespace Go.Proofs.YtlkhmpdncimnfaaGreatDoor
open Go.RowKit

theorem DfaO.kept {w w' : World} {S : Nat → Prop} {va vn : Value} {d : Dx} (h : DfaO w S va vn d) (hS : ∀ g, S g → g < w.heap.size) (hb : Below w.heap.size w w') : DfaO w' S va vn d :=
  h.mono (fun g hg => hb.block g (hS g hg)) (fun _ h => h) hb.size
theorem DfaO.chg {w w' : World} {S S' : Nat → Prop} {va vn : Value} {d : Dx} (h : DfaO w S va vn d) (hS : ∀ g, S g → g < w.heap.size) (hc : Chg S' w w') (hn : ∀ g, S g → ¬ S' g) : DfaO w' S va vn d :=
  h.mono (fun g hg => hc.block g (hS g hg) (hn g hg)) (fun _ h => h) hc.size
/-- A copy and a truth value. -/
def CopyDB (d : Dx) (b : Bool) (w : World) (e : Ending) (w' : World) : Prop := ∃ va vn, e = .returned (.tuple #[.agg #[va, vn], .bool b]) ∧ DfaO w' (OwnB w w') va vn d ∧ Below w.heap.size w w'
theorem CopyDB.shape {d : Dx} {b : Bool} {w w' : World} {e : Ending} (h : CopyDB d b w e w') : ∃ A c A' c', e = .returned (.tuple #[.agg #[.slice A d.acc.length c, .slice A' d.nxt.length c'], .bool b]) ∧ DfaO w' (OwnB w w') (.slice A d.acc.length c) (.slice A' d.nxt.length c') d ∧ Below w.heap.size w w' := by
  obtain ⟨va, vn, rfl, ho, hb⟩ := h
  obtain ⟨⟨A, c, rfl⟩, A', c', rfl⟩ := ho.dfa.shape
  exact ⟨A, c, A', c', rfl, ho, hb⟩

/-! A box that is laid while three calls go on, and filled at their end. -/
theorem box2_facts {V : World} {b : Nat} {x y : Value} {T : TypeId} (h : V.heap[b]? = some (.cells #[x, y] T (0, 0))) :
    V.cell? ⟨b, 0, none⟩ = some x ∧ V.cell? ⟨b, 1, none⟩ = some y ∧ V.frozen? ⟨b, 0, none⟩ = false ∧ V.frozen? ⟨b, 1, none⟩ = false :=
  ⟨(cell_of_row V _ 0 _ _ (0, 0) h).trans rfl, (cell_of_row V _ 1 _ _ (0, 0) h).trans rfl, frozen_of_row V _ 0 _ _ h, frozen_of_row V _ 1 _ _ h⟩
theorem blk_lt {V : World} {b : Nat} {o : Obj} (h : V.heap[b]? = some o) : b < V.heap.size := (Array.getElem?_eq_some_iff.1 h).1
def OwnX (w w' : World) (b g : Nat) : Prop := w.heap.size ≤ g ∧ g < w'.heap.size ∧ g ≠ b
def MidX (cur wc : World) (b : Nat) (x y : Value) (d : Dx) : Prop := Bx2 wc b x y ∧ DfaO wc (OwnX cur wc b) x y d ∧ cur.heap.size ≤ b ∧ b < wc.heap.size ∧ Below cur.heap.size cur wc
theorem midX_new {cur wx wb : World} {x y : Value} {d : Dx} {T : TypeId} (hcx : cur.heap.size ≤ wx.heap.size) (ho : DfaO wb (OwnB wx wb) x y d) (hb : Below cur.heap.size cur wb) : MidX cur (wb.alloc (.cells #[x, y] T)) wb.heap.size x y d := by
  have k := box2_kept (w := wb) (a := x) (b := y) (t := T) (Below.refl _ _)
  refine ⟨⟨k.2.1, k.2.2.1⟩, ho.mono (fun g hg => Below.heap_alloc _ _ g hg.2) (fun g hg => ⟨Nat.le_trans hcx hg.1, by have := hg.2; simp; omega, by have := hg.2; omega⟩) (by simp), hb.size, by simp, hb.alloc hb.size _⟩
theorem midX_set {cur wx wb : World} {b : Nat} {x y x0 y0 : Value} {d : Dx} {T : TypeId} (hcx : cur.heap.size ≤ wx.heap.size) (ho : DfaO wb (OwnB wx wb) x y d) (hb : Below cur.heap.size cur wb) (kb : wb.heap[b]? = some (.cells #[x0, y0] T (0, 0))) (hbx : b < wx.heap.size) (hcb : cur.heap.size ≤ b) :
    MidX cur ((wb.setCell ⟨b, 0, none⟩ x).setCell ⟨b, 1, none⟩ y) b x y d := by
  obtain ⟨c0, c1, -, -⟩ := box2_facts kb
  obtain ⟨hcl, hsz, hot, hB⟩ := put2 (k := x) (l := y) c0 c1
  have hlt := blk_lt kb
  refine ⟨hcl, ho.mono (fun g hg => hot g (by have := hg.1; omega)) (fun g hg => ⟨Nat.le_trans hcx hg.1, by rw [hsz]; exact hg.2, by have := hg.1; omega⟩) (by rw [hsz]; exact Nat.le_refl _), hcb, by rw [hsz]; exact hlt, hB _ _ hb hcb⟩
end Go.Proofs.YtlkhmpdncimnfaaGreatDoor

/-
  What spec.l1In answers: whether a number lies between two others.
-/
namespace Go.Proofs.YtlkhmpdncimnfaaGreatDoor
open Go.RowKit

set_option maxRecDepth 100000 in
theorem l1In_any (x lo hi : Int) (w : World) : Calls Tryz.prog 49 #[.int .i64 x, .int .i64 lo, .int .i64 hi] w fun e w' => e = .returned (.bool (decide (lo ≤ x) && decide (x ≤ hi))) ∧ w = w' := by
  by_cases h1 : lo ≤ x
  · by_cases h2 : x ≤ hi
    · go_enter Tryz.func49, Tryz.ntmps49
      go_wp2
      go_ret
      exact ⟨by simp [h1, h2], rfl⟩
    · go_enter Tryz.func49, Tryz.ntmps49
      go_wp2
      go_ret
      exact ⟨by simp [h2], rfl⟩
  · have h1' : decide (lo ≤ x) = false := by simpa using h1
    go_enter Tryz.func49, Tryz.ntmps49
    go_wp2
    go_ret
    exact ⟨by simp, rfl⟩
set_option maxRecDepth 100000 in
theorem l1In_yes (x lo hi : Int) (w : World) (h : lo ≤ x ∧ x ≤ hi) : Calls Tryz.prog 49 #[.int .i64 x, .int .i64 lo, .int .i64 hi] w fun e w' => e = .returned (.bool true) ∧ w = w' :=
  (l1In_any x lo hi w).mono fun _ _ ⟨he, hw⟩ => ⟨by rw [he]; simp [h.1, h.2], hw⟩
set_option maxRecDepth 100000 in
theorem l1In_no (x lo hi : Int) (w : World) (h : ¬ (lo ≤ x ∧ x ≤ hi)) : Calls Tryz.prog 49 #[.int .i64 x, .int .i64 lo, .int .i64 hi] w fun e w' => e = .returned (.bool false) ∧ w = w' :=
  (l1In_any x lo hi w).mono fun _ _ ⟨he, hw⟩ => ⟨by rw [he]; congr 2; simpa using h, hw⟩
end Go.Proofs.YtlkhmpdncimnfaaGreatDoor

/-
  What spec.IsValidDfa answers.
-/
namespace Go.Proofs.YtlkhmpdncimnfaaGreatDoor
open Go.RowKit

def validD (d : Dx) : Bool := validF d.acc d.nxt
theorem getD_at {α : Type} {l : List α} {x : α} {j : Nat} (hj : j < l.length) : l.getD j x = l[j] := by rw [List.getD_eq_getElem?_getD, List.getElem?_eq_getElem hj]; rfl
theorem validD_no {d : Dx} {j : Nat} (hj : j < d.nxt.length) (h : rowOk d.acc.length (d.nxt.getD j []) = false) : validD d = false := by
  rw [getD_at hj] at h
  have : d.nxt.all (rowOk d.acc.length) = false := by
    rw [Bool.eq_false_iff]
    intro ht
    have := List.all_eq_true.1 ht _ (List.getElem_mem hj)
    rw [h] at this
    cases this
  simp [validD, validF, this]
theorem validD_yes {d : Dx} (h1 : 1 ≤ d.acc.length) (h2 : d.acc.length ≤ 40) (h3 : d.nxt.length = d.acc.length) (h : ∀ j, j < d.nxt.length → rowOk d.acc.length (d.nxt.getD j []) = true) : validD d = true := by
  have : d.nxt.all (rowOk d.acc.length) = true := by
    rw [List.all_eq_true]
    intro r hr
    obtain ⟨j, hj, rfl⟩ := List.getElem_of_mem hr
    have := h j hj
    rwa [getD_at hj] at this
  simp [validD, validF, this, h1, h2, h3]
theorem rowOk_no {n : Nat} {r : List Int} (h : r.length ≠ 3) : rowOk n r = false := by simp [rowOk, h]
theorem rowOk_bad {n : Nat} {r : List Int} {k : Nat} (hk : k < r.length) (h : ¬ (0 ≤ r.getD k 0 ∧ r.getD k 0 ≤ (n : Int) - 1)) : rowOk n r = false := by
  rw [getD_at hk] at h
  have : (r.all fun x => decide (0 ≤ x) && decide (x ≤ (n : Int) - 1)) = false := by
    rw [Bool.eq_false_iff]
    intro ht
    have := List.all_eq_true.1 ht _ (List.getElem_mem hk)
    simp at this
    exact h this
  simp only [rowOk, this, Bool.and_false]
theorem rowOk_yes {n : Nat} {r : List Int} (h : r.length = 3) (h' : ∀ k, k < r.length → 0 ≤ r.getD k 0 ∧ r.getD k 0 ≤ (n : Int) - 1) : rowOk n r = true := by
  simp only [rowOk, h, decide_true, Bool.true_and, List.all_eq_true, Bool.and_eq_true, decide_eq_true_eq]
  intro x hx
  obtain ⟨k, hk, rfl⟩ := List.getElem_of_mem hx
  have := h' k hk
  rwa [getD_at hk] at this

set_option maxRecDepth 100000 in
set_option maxHeartbeats 1600000 in
theorem specValidD_any (va vn : Value) (d : Dx) (S : Nat → Prop) (w : World) (h : DfaV w S va vn d) :
    Calls Tryz.prog 53 #[.agg #[va, vn]] w fun e w' => e = .returned (.bool (validD d)) ∧ Below w.heap.size w w' := by
  obtain ⟨⟨A, c, rfl⟩, A', c', rfl⟩ := h.shape
  obtain ⟨W0, hW0⟩ : ∃ W0, W0 = w.alloc (.cells #[.slice A d.acc.length c, .slice A' d.nxt.length c'] 29) := ⟨_, rfl⟩
  have HB : Hid (Below w.heap.size w W0) := Lib.hid (by rw [hW0]; exact (Below.refl _ _).alloc (Nat.le_refl _) _)
  have hx := box2_kept (w := w) (w1 := W0) (a := .slice A d.acc.length c) (b := .slice A' d.nxt.length c') (t := 29) (by rw [hW0]; exact Below.refl _ _)
  obtain ⟨-, c0, c1, -, -⟩ := hx
  have HE := Lib.hid (h.2.kept (w' := W0) (by rw [hW0]; exact (Below.refl _ _).alloc (Nat.le_refl _) _))
  have hln := h.1.1
  rw [bools_length] at hln
  clear h
  obtain ⟨n, hn⟩ : ∃ n, n = d.acc.length := ⟨_, rfl⟩
  obtain ⟨m, hm⟩ : ∃ m, m = d.nxt.length := ⟨_, rfl⟩
  obtain ⟨R, hR⟩ : ∃ R : Nat → List Int, R = fun j => d.nxt.getD j [] := ⟨_, rfl⟩
  have HNo : Hid (∀ j, j < m → rowOk n (R j) = false → validD d = false) := Lib.hid (fun j hj h => validD_no (j := j) (by rw [← hm]; exact hj) (by rw [← hn]; rw [hR] at h; exact h))
  have HYes : Hid (1 ≤ n → n ≤ 40 → m ≤ n → n ≤ m → (∀ j, j < m → rowOk n (R j) = true) → validD d = true) := Lib.hid (fun h1 h2 h3 h4 h => validD_yes (by omega) (by omega) (by omega) (fun j hj => by rw [← hn]; have := h j (by omega); rw [hR] at this; exact this))
  have HAt : Hid (∀ j, j < m → ∃ ad u, A' = some ad ∧ S ad.block ∧ W0.cell? (ad.add j) = some u ∧ RowV W0 S u (ints (R j))) := Lib.hid (fun j hj => by rw [hR]; exact HE.out.atD (j := j) (by rw [← hm]; exact hj))
  rw [← hn] at hW0 c0 hln
  rw [← hm] at hW0 c1
  rw [← hn, ← hm]
  have HV1 : Hid (¬ (1 ≤ n ∧ n ≤ 40) → validD d = false) := Lib.hid (fun h => by
    have : ¬ (1 ≤ d.acc.length ∧ d.acc.length ≤ 40) := by rw [← hn]; exact h
    simp only [validD, validF]
    by_cases h1 : 1 ≤ d.acc.length
    · have h2 : decide (d.acc.length ≤ 40) = false := decide_eq_false (by omega)
      simp [h2]
    · have h2 : decide (1 ≤ d.acc.length) = false := decide_eq_false (by omega)
      simp [h2])
  have HV2 : Hid (m ≠ n → validD d = false) := Lib.hid (fun h => by
    have h2 : decide (d.nxt.length = d.acc.length) = false := decide_eq_false (by omega)
    simp [validD, validF, h2])
  obtain ⟨vd, hvd⟩ : ∃ vd, vd = validD d := ⟨_, rfl⟩
  rw [← hvd] at HNo HYes HV1 HV2 ⊢
  clear hn hm hR hvd HE
  go_enter Tryz.func53, Tryz.ntmps53
  by_cases h1 : 1 ≤ n ∧ n ≤ 40
  · have HI := Lib.hid (l1In_yes (n : Int) 1 40 W0 (by omega))
    go_wp2_with fail
    rw [← hW0]
    go_at_call 49
    refine HI.out.mono ?_
    rintro e w1 ⟨rfl, rfl⟩
    clear hW0
    by_cases h2 : m = n
    · subst h2
      have hne : ((m : Int) != (m : Int)) = false := by simp
      go_wp2_with fail
      clear hne
      go_loopw [4] (fun i wr => ∃ q : Nat, i = .int .i64 q ∧ q ≤ m ∧ wr = W0 ∧ ∀ j, j < q → rowOk m (R j) = true) (fun i _ => m - (intOf i).toNat)
      case atStart => exact ⟨0, rfl, Nat.zero_le _, rfl, fun j hj => absurd hj (Nat.not_lt_zero _)⟩
      case round =>
        obtain ⟨q, rfl, hq, rfl, hall⟩ := hrel
        have HAll := Lib.hid hall
        clear hall
        by_cases hlt : q < m
        · obtain ⟨ad, u, rfl, -, hc, hr⟩ := HAt.out q hlt
          obtain ⟨hrl, Ar, cr, rfl⟩ := hr.ints_shape
          have HR := Lib.hid hr
          obtain ⟨r, hr⟩ : ∃ r, r = R q := ⟨_, rfl⟩
          rw [← hr] at HR hc hrl
          have HRe := Lib.hid hr
          clear hr
          by_cases h3 : r.length = 3
          · have h3i : ((r.length : Int) != 3) = false := by simp; omega
            have H3 := Lib.hid h3
            clear h3
            go_wp2_with fail
            clear h3i
            go_loopw [5] (fun i wr' => ∃ k : Nat, i = .int .i64 k ∧ k ≤ r.length ∧ wr' = wr ∧ ∀ j, j < k → 0 ≤ r.getD j 0 ∧ r.getD j 0 ≤ (m : Int) - 1) (fun i _ => r.length - (intOf i).toNat)
            case atStart => exact ⟨0, rfl, Nat.zero_le _, rfl, fun j hj => absurd hj (Nat.not_lt_zero _)⟩
            case round =>
              obtain ⟨k, rfl, hk, rfl, hall⟩ := hrel
              have HAl2 := Lib.hid hall
              clear hall
              by_cases hlk : k < r.length
              · obtain ⟨ad2, rfl, -, hc2⟩ := HR.out.intD hlk
                obtain ⟨x, hx⟩ : ∃ x, x = r.getD k 0 := ⟨_, rfl⟩
                rw [← hx] at hc2
                by_cases hin : 0 ≤ x ∧ x ≤ (m : Int) - 1
                · have HI2 := Lib.hid (fun w => l1In_yes x 0 ((m : Int) - 1) w hin)
                  have HX : Hid (0 ≤ r.getD k 0 ∧ r.getD k 0 ≤ (m : Int) - 1) := Lib.hid (by rw [← hx]; exact hin)
                  clear hx hin
                  go_wp2_with fail
                  go_at_call 49
                  refine (HI2.out _).mono ?_
                  rintro e w2 ⟨rfl, rfl⟩
                  go_wp2_with fail
                  go_roundw
                  case rel => exact ⟨k + 1, by go_num, by omega, by first | rfl | trivial, fun j hj => by
                    by_cases e : j = k
                    · rw [e]; exact HX.out
                    · exact HAl2.out j (by omega)⟩
                  case measure => simp [intOf]; omega
                · have HI2 := Lib.hid (fun w => l1In_no x 0 ((m : Int) - 1) w hin)
                  have HF : Hid (vd = false) := Lib.hid (HNo.out q hlt (rowOk_bad (k := k) (by rw [← HRe.out]; exact hlk) (by rw [← HRe.out, ← hx]; exact hin)))
                  clear hx hin
                  go_wp2_with fail
                  go_at_call 49
                  refine (HI2.out _).mono ?_
                  rintro e w2 ⟨rfl, rfl⟩
                  go_wp2_with fail
                  go_ret
                  exact ⟨congrArg (fun b : Bool => Ending.returned (.bool b)) HF.out.symm, HB.out⟩
              · have hd : decide ((k : Int) < (r.length : Int)) = false := by simp; omega
                have HOk : Hid (rowOk m (R q) = true) := Lib.hid (by rw [← HRe.out]; exact rowOk_yes H3.out (fun j hj => HAl2.out j (by omega)))
                go_wp2_with fail
                go_roundw
                case rel => exact ⟨q + 1, by go_num, by omega, by first | rfl | trivial, fun j hj => by
                  by_cases e : j = q
                  · rw [e]; exact HOk.out
                  · exact HAll.out j (by omega)⟩
                case measure => simp [intOf]; omega
          · have h3i : ((r.length : Int) != 3) = true := by simp; omega
            have HF : Hid (vd = false) := Lib.hid (HNo.out q hlt (rowOk_no (by rw [← HRe.out]; exact h3)))
            clear h3
            go_wp2_with fail
            go_ret
            exact ⟨congrArg (fun b : Bool => Ending.returned (.bool b)) HF.out.symm, HB.out⟩
        · obtain rfl : q = m := by omega
          have hd : decide ((q : Int) < (q : Int)) = false := by simp
          have HF : Hid (vd = true) := Lib.hid (HYes.out h1.1 h1.2 (Nat.le_refl _) (Nat.le_refl _) HAll.out)
          go_wp2_with fail
          go_ret
          exact ⟨congrArg (fun b : Bool => Ending.returned (.bool b)) HF.out.symm, HB.out⟩
    · have hne : ((m : Int) != (n : Int)) = true := by simp; omega
      have HF : Hid (vd = false) := Lib.hid (HV2.out h2)
      clear h2
      go_wp2_with fail
      go_ret
      exact ⟨congrArg (fun b : Bool => Ending.returned (.bool b)) HF.out.symm, HB.out⟩
  · have HI := Lib.hid (l1In_no (n : Int) 1 40 W0 (by omega))
    have HF : Hid (vd = false) := Lib.hid (HV1.out h1)
    clear h1
    go_wp2_with fail
    rw [← hW0]
    go_at_call 49
    refine HI.out.mono ?_
    rintro e w1 ⟨rfl, rfl⟩
    clear hW0
    go_wp2_with fail
    go_ret
    exact ⟨congrArg (fun b : Bool => Ending.returned (.bool b)) HF.out.symm, HB.out⟩
end Go.Proofs.YtlkhmpdncimnfaaGreatDoor

/-
  What spec.l5Find and spec.l5Same answer: where a number stands in a list; whether two states are in one class and go to the same classes.
  What spec.l5Classes answers: each state's class, by its first state.
-/
namespace Go.Proofs.YtlkhmpdncimnfaaGreatDoor
open Go.RowKit

/-- Where a number stands, or -1. -/
def findV (l : List Int) (x : Int) : Int := if x ∈ l then ((l.idxOf x : Nat) : Int) else -1
theorem findV_no {l : List Int} {x : Int} (h : ∀ j, j < l.length → l.getD j 0 ≠ x) : findV l x = -1 := by
  unfold findV
  rw [if_neg]
  intro hx
  obtain ⟨j, hj, rfl⟩ := List.getElem_of_mem hx
  exact h j hj (getD_at hj)
theorem findV_at {l : List Int} {x : Int} {j : Nat} (hj : j < l.length) (h : l.getD j 0 = x) (hlt : ∀ i, i < j → l.getD i 0 ≠ x) : findV l x = (j : Int) := by
  rw [getD_at hj] at h
  unfold findV
  have hm : x ∈ l := by rw [← h]; exact List.getElem_mem hj
  rw [if_pos hm]
  have h1 := List.idxOf_lt_length_of_mem hm
  have h2 : l[l.idxOf x] = x := List.getElem_idxOf h1
  have h3 : l.idxOf x ≤ j := by
    apply Classical.byContradiction
    intro hn
    have : l.take (j + 1) ++ l.drop (j + 1) = l := List.take_append_drop _ _
    have hmem : x ∈ l.take (j + 1) := by
      rw [← h]
      exact List.mem_take_iff_getElem.2 ⟨j, by omega, rfl⟩
    have h4 : l.idxOf x = (l.take (j + 1)).idxOf x := by
      conv => lhs; rw [← this]
      rw [List.idxOf_append, if_pos hmem]
    have h5 := List.idxOf_lt_length_of_mem hmem
    rw [List.length_take] at h5
    omega
  rcases Nat.lt_or_eq_of_le h3 with hl | he
  · have := hlt _ hl
    rw [getD_at h1] at this
    exact absurd h2 this
  · rw [he]

set_option maxRecDepth 100000 in
set_option maxHeartbeats 800000 in
theorem specFind_any (v : Value) (l : List Int) (S : Nat → Prop) (x : Int) (w : World) (h : RowV w S v (ints l)) :
    Calls Tryz.prog 59 #[v, .int .i64 x] w fun e w' => e = .returned (.int .i64 (findV l x)) ∧ w = w' := by
  obtain ⟨hl, A, c, rfl⟩ := h.ints_shape
  have HE := Lib.hid (fun j (hj : j < l.length) => h.intD hj)
  clear h
  obtain ⟨z, hz⟩ : ∃ z, z = findV l x := ⟨_, rfl⟩
  have HNo : Hid ((∀ j, j < l.length → l.getD j 0 ≠ x) → z = -1) := Lib.hid (fun h => by rw [hz]; exact findV_no h)
  have HAt : Hid (∀ j : Nat, j < l.length → l.getD j 0 = x → (∀ i, i < j → l.getD i 0 ≠ x) → z = (j : Int)) := Lib.hid (fun j hj h hlt => by rw [hz]; exact findV_at hj h hlt)
  rw [← hz]
  clear hz
  go_enter Tryz.func59, Tryz.ntmps59
  go_wp2_with fail
  go_loopw [5] (fun i wr => ∃ j : Nat, i = .int .i64 j ∧ j ≤ l.length ∧ w = wr ∧ Hid (∀ i, i < j → l.getD i 0 ≠ x)) (fun i _ => l.length - (intOf i).toNat)
  case atStart => exact ⟨0, rfl, Nat.zero_le _, rfl, Lib.hid (fun i hi => absurd hi (Nat.not_lt_zero _))⟩
  case round =>
    obtain ⟨j, rfl, hj, rfl, hall⟩ := hrel
    by_cases hlt : j < l.length
    · obtain ⟨ad, rfl, -, hc⟩ := HE.out j hlt
      obtain ⟨y, hy⟩ : ∃ y, y = l.getD j 0 := ⟨_, rfl⟩
      rw [← hy] at hc
      by_cases hyx : y = x
      · have hd : (y == x) = true := by simpa using hyx
        have HF : Hid (z = (j : Int)) := Lib.hid (HAt.out j hlt (by rw [← hy]; exact hyx) hall.out)
        clear hy hyx
        go_wp2_with fail
        go_ret
        exact ⟨congrArg (fun z : Int => Ending.returned (.int .i64 z)) HF.out.symm, rfl⟩
      · have hd : (y == x) = false := by simpa using hyx
        have HX : Hid (l.getD j 0 ≠ x) := Lib.hid (by rw [← hy]; exact hyx)
        clear hy hyx
        go_wp2_with fail
        go_roundw
        case rel => exact ⟨j + 1, by go_num, by omega, by first | rfl | trivial, Lib.hid (fun i hi => by
          by_cases e : i = j
          · rw [e]; exact HX.out
          · exact hall.out i (by omega))⟩
        case measure => simp [intOf]; omega
    · obtain rfl : j = l.length := by omega
      have HF : Hid (z = -1) := Lib.hid (HNo.out hall.out)
      go_wp2_with fail
      go_ret
      exact ⟨congrArg (fun z : Int => Ending.returned (.int .i64 z)) HF.out.symm, rfl⟩

/-- An automaton's own fields, and their cells. -/
def fieldsOf (a : Au) : Dx := ⟨accOf a, nxtOf a⟩
theorem DfaV.cells {w : World} {S : Nat → Prop} {va vn : Value} {a : Au} (h : DfaV w S va vn (fieldsOf a)) (hp : 0 < a.n) :
    ∃ ad c ad' c', va = .slice (some ad) a.n c ∧ vn = .slice (some ad') a.n c' ∧ a.n ≤ 9223372036854775807 ∧
      (∀ q, q < a.n → w.cell? (ad.add q) = some (.bool (a.A q))) ∧ ∀ q, q < a.n → ∃ ad2 c2, w.cell? (ad'.add q) = some (.slice (some ad2) 3 c2) ∧ ∀ k, k < 3 → w.cell? (ad2.add k) = some (.int .i64 ((a.T q k : Nat) : Int)) := by
  have hl := h.1.1
  rw [bools_length] at hl
  obtain ⟨⟨A, c, rfl⟩, A', c', rfl⟩ := h.shape
  have e1 : (fieldsOf a).acc.length = a.n := accOf_length a
  have e2 : (fieldsOf a).nxt.length = a.n := nxtOf_length a
  obtain ⟨ad, rfl, -, -⟩ := h.1.boolD (j := 0) (by rw [e1]; exact hp)
  obtain ⟨ad', -, rfl, -, -, -⟩ := h.2.atD (j := 0) (by rw [e2]; exact hp)
  refine ⟨ad, c, ad', c', by rw [e1], by rw [e2], by rw [← e1]; exact hl, fun q hq => ?_, fun q hq => ?_⟩
  · obtain ⟨ad0, e, -, hc⟩ := h.1.boolD (j := q) (by rw [e1]; exact hq)
    cases e
    rw [hc]
    simp [fieldsOf, List.getD_eq_getElem?_getD, accOf_at a hq]
  · obtain ⟨ad0, u, e, -, hc, hr⟩ := h.2.atD (j := q) (by rw [e2]; exact hq)
    cases e
    have hrow : (fieldsOf a).nxt.getD q [] = (List.range 3).map fun k => (a.T q k : Int) := by
      simp [fieldsOf, List.getD_eq_getElem?_getD, nxtOf_at a hq]
    rw [hrow] at hr
    obtain ⟨-, A2, c2, rfl⟩ := hr.ints_shape
    simp only [List.length_map, List.length_range] at hr hc
    obtain ⟨ad2, rfl, -, -⟩ := hr.intD (j := 0) (by simp)
    refine ⟨ad2, c2, hc, fun k hk => ?_⟩
    obtain ⟨ad3, e, -, hc3⟩ := hr.intD (j := k) (by simpa using hk)
    cases e
    rw [hc3]
    simp [List.getD_eq_getElem?_getD, hk]
/-- The classes as a row. -/
def clsRow (n : Nat) (c : Nat → Nat) : List Int := (List.range n).map fun q => (c q : Int)
theorem clsRow_length (n : Nat) (c : Nat → Nat) : (clsRow n c).length = n := by simp [clsRow]
theorem RowV.cls {w : World} {S : Nat → Prop} {v : Value} {n : Nat} {c : Nat → Nat} (h : RowV w S v (ints (clsRow n c))) (hn : 0 < n) : ∃ ad m, v = .slice (some ad) n m ∧ ∀ q, q < n → w.cell? (ad.add q) = some (.int .i64 (c q : Int)) := by
  obtain ⟨-, A, m, rfl⟩ := h.ints_shape
  obtain ⟨ad, rfl, -, -⟩ := h.intD (j := 0) (by rw [clsRow_length]; exact hn)
  refine ⟨ad, m, by rw [clsRow_length], fun q hq => ?_⟩
  obtain ⟨ad2, e, -, hc⟩ := h.intD (j := q) (by rw [clsRow_length]; exact hq)
  cases e
  rw [hc]
  simp [clsRow, List.getD_eq_getElem?_getD, hq]

/-- How far two states have been found the same. -/
def sameK (a : Au) (c : Nat → Nat) (p q : Nat) (j : Nat) : Bool := decide (c p = c q) && ((List.range j).all fun k => decide (c (a.T p k) = c (a.T q k)))
theorem sameK_zero (a : Au) (c : Nat → Nat) (p q : Nat) : sameK a c p q 0 = decide (c p = c q) := by simp [sameK]
theorem sameK_succ (a : Au) (c : Nat → Nat) (p q j : Nat) : sameK a c p q (j + 1) = (sameK a c p q j && decide (c (a.T p j) = c (a.T q j))) := by simp [sameK, List.range_succ, List.all_append, Bool.and_assoc]
theorem eq_cast (x y : Nat) : ((x : Int) == (y : Int)) = decide (x = y) := by
  rw [Bool.eq_iff_iff]
  simp
  omega

set_option maxRecDepth 100000 in
set_option maxHeartbeats 3200000 in
theorem specSame_any (va vn vc : Value) (a : Au) (c : Nat → Nat) (S Sc : Nat → Prop) (p q : Nat) (w : World) (hw : a.wf) (h : DfaV w S va vn (fieldsOf a)) (hc : RowV w Sc vc (ints (clsRow a.n c))) (hp : p < a.n) (hq : q < a.n) :
    Calls Tryz.prog 105 #[.agg #[va, vn], vc, .int .i64 (p : Int), .int .i64 (q : Int)] w fun e w' => e = .returned (.bool (same a c p q)) ∧ Below w.heap.size w w' := by
  obtain ⟨ad, cc, ad', cc', rfl, rfl, hnl, -, hT⟩ := h.cells hw.1
  obtain ⟨adc, mc, rfl, hcl⟩ := hc.cls hw.1
  obtain ⟨W0, hW0⟩ : ∃ W0, W0 = w.alloc (.cells #[.slice (some ad) a.n cc, .slice (some ad') a.n cc'] 29) := ⟨_, rfl⟩
  have HB0 : Hid (Below w.heap.size w W0) := Lib.hid (by rw [hW0]; exact (Below.refl _ _).alloc (Nat.le_refl _) _)
  have HX : Hid (Bx2 W0 w.heap.size (.slice (some ad) a.n cc) (.slice (some ad') a.n cc')) := Lib.hid (by
    have k := box2_kept (w := w) (w1 := W0) (a := .slice (some ad) a.n cc) (b := .slice (some ad') a.n cc') (t := 29) (by rw [hW0]; exact Below.refl _ _)
    exact ⟨k.2.1, k.2.2.1⟩)
  obtain ⟨n, hn⟩ : ∃ n, n = a.n := ⟨_, rfl⟩
  have HT : Hid (∀ x, x < n → ∃ ad2 c2, w.cell? (ad'.add x) = some (.slice (some ad2) 3 c2) ∧ ∀ k, k < 3 → w.cell? (ad2.add k) = some (.int .i64 ((a.T x k : Nat) : Int))) := Lib.hid (by rw [hn]; exact hT)
  have HC : Hid (∀ x, x < n → w.cell? (adc.add x) = some (.int .i64 (c x : Int))) := Lib.hid (by rw [hn]; exact hcl)
  have HWf : Hid (∀ x k, x < n → k < 3 → a.T x k < n) := Lib.hid (by rw [hn]; exact hw.2)
  rw [← hn] at hW0 HX hp hq hnl
  rw [← hn]
  have HS : Hid (same a c p q = sameK a c p q 3) := Lib.hid rfl
  clear h hc hT hcl hw hn
  have g1 := (HB0.out.cell (cell_in (HC.out p hp))).trans (HC.out p hp)
  have g2 := (HB0.out.cell (cell_in (HC.out q hq))).trans (HC.out q hq)
  obtain ⟨b0, hb0⟩ : ∃ b0, b0 = ((c p : Int) == (c q : Int)) := ⟨_, rfl⟩
  have HS0 : Hid (b0 = sameK a c p q 0) := Lib.hid (by rw [hb0, eq_cast, sameK_zero])
  obtain ⟨x0, hx0⟩ : ∃ x0 : Int, x0 = (c p : Int) := ⟨_, rfl⟩
  obtain ⟨y0, hy0⟩ : ∃ y0 : Int, y0 = (c q : Int) := ⟨_, rfl⟩
  rw [← hx0] at g1 hb0
  rw [← hy0] at g2 hb0
  have s1 : (p : Int) < (n : Int) := by omega
  have s2 : (0 : Int) ≤ (p : Int) := by omega
  have s3 : (q : Int) < (n : Int) := by omega
  have s5 : (0 : Int) ≤ (q : Int) := by omega
  have hbb : (x0 == y0) = b0 := hb0.symm
  clear hb0 hx0 hy0
  rw [hW0] at g1 g2
  go_enter Tryz.func105, Tryz.ntmps105
  go_wp2_with fail
  go_quiet (fail)
  go_wp2_with fail
  rw [← hW0]
  clear g1 g2 hW0 hbb
  go_loopw [9, 10] (fun y i wr => ∃ (j : Nat) (b : Bool), i = .int .i64 j ∧ y = .bool b ∧ j ≤ 3 ∧ Hid (b = sameK a c p q j) ∧ Below W0.heap.size W0 wr) (fun _ i _ => 3 - (intOf i).toNat)
  case atStart => exact ⟨0, b0, rfl, rfl, Nat.zero_le _, HS0.out, below_draws (Below.refl _ _) _⟩
  case round =>
    obtain ⟨j, b, rfl, rfl, hj, hbs, hb⟩ := hrel
    have HBr := Lib.hid hb
    clear hb
    by_cases hlt : j < 3
    · cases b with
      | false =>
        have HF : Hid (false = sameK a c p q (j + 1)) := Lib.hid (by rw [sameK_succ, ← hbs.out, Bool.false_and])
        go_wp2_with fail
        go_quiet (fail)
        go_wp2_with fail
        go_roundw
        case rel => exact ⟨j + 1, false, by go_num, rfl, by omega, HF.out, below_draws HBr.out _⟩
        case measure => simp [intOf]; omega
      | true =>
        obtain ⟨adp, cp, hrp, hep⟩ := HT.out p hp
        obtain ⟨adq, cq, hrq, heq⟩ := HT.out q hq
        have hep := hep j hlt
        have heq := heq j hlt
        have htp := HWf.out p j hp hlt
        have htq := HWf.out q j hq hlt
        have hcp := HC.out _ htp
        have hcq := HC.out _ htq
        obtain ⟨b2, hb2⟩ : ∃ b2, b2 = ((c (a.T p j) : Int) == (c (a.T q j) : Int)) := ⟨_, rfl⟩
        have HF : Hid (b2 = sameK a c p q (j + 1)) := Lib.hid (by rw [sameK_succ, ← hbs.out, Bool.true_and, hb2, eq_cast])
        obtain ⟨tp, htpe⟩ : ∃ tp, tp = a.T p j := ⟨_, rfl⟩
        obtain ⟨tq, htqe⟩ : ∃ tq, tq = a.T q j := ⟨_, rfl⟩
        rw [← htpe] at hep htp hcp hb2
        rw [← htqe] at heq htq hcq hb2
        obtain ⟨x, hx⟩ : ∃ x : Int, x = (c tp : Int) := ⟨_, rfl⟩
        obtain ⟨y, hy⟩ : ∃ y : Int, y = (c tq : Int) := ⟨_, rfl⟩
        rw [← hx] at hcp hb2
        rw [← hy] at hcq hb2
        have up := fun {ad : Addr} {u : Value} (hc : w.cell? ad = some u) => ((HB0.out.trans (HBr.out.mono HB0.out.size)).cell (cell_in hc)).trans hc
        have g1 := up hrp
        have g2 := up hrq
        have g3 := up hep
        have g4 := up heq
        have g5 := up hcp
        have g6 := up hcq
        have g7 := (HX.out.kept HBr.out).2
        have s6 : (tp : Int) < (n : Int) := by omega
        have s7 : (0 : Int) ≤ (tp : Int) := by omega
        have s8 : (tq : Int) < (n : Int) := by omega
        have s9 : (0 : Int) ≤ (tq : Int) := by omega
        have s10 : (j : Int) < 3 := by omega
        have s11 : (0 : Int) ≤ (j : Int) := by omega
        have hbb : (x == y) = b2 := hb2.symm
        clear up hrp hrq hep heq hcp hcq hb2 hx hy htpe htqe hbs
        go_wp2_with fail
        go_quiet (fail)
        clear g1 g2 g3 g4 g5 g6 g7 hbb
        go_wp2_with fail
        go_roundw
        case rel => exact ⟨j + 1, b2, by go_num, rfl, by omega, HF.out, below_draws HBr.out _⟩
        case measure => simp [intOf]; omega
    · obtain rfl : j = 3 := by omega
      have HF : Hid (same a c p q = b) := Lib.hid (by rw [HS.out, hbs.out])
      go_wp2_with fail
      go_ret
      exact ⟨congrArg (fun b : Bool => Ending.returned (.bool b)) HF.out.symm, HB0.out.trans (HBr.out.mono HB0.out.size)⟩
end Go.Proofs.YtlkhmpdncimnfaaGreatDoor

namespace Go.Proofs.YtlkhmpdncimnfaaGreatDoor
open Go.RowKit

def clsV (a : Au) (r : Nat) : Nat → Value := fun q => .int .i64 ((cls a r q : Nat) : Int)
theorem ints_cls (a : Au) (r n : Nat) : ints (clsRow n (cls a r)) = (List.range n).map (clsV a r) := by simp [ints, clsRow, clsV, Function.comp_def]
theorem made_ints (n : Nat) : (madeCells (Value.cells (.int .i64 0)) (n * 1)).toList = List.replicate n (.int .i64 0) := by
  unfold madeCells
  apply List.ext_getElem
  · simp
  · intro i h1 h2
    simp
    simp [Value.cells, Nat.mod_one]
/-- A row just made. -/
theorem made_row_o {w w1 : World} {n : Nat} {T : TypeId} (hown : w1.ownsRow w.heap.size T 1 (.slice (some ⟨w.heap.size, 0, none⟩) n n) n (madeCells (Value.cells (.int .i64 0)) (n * 1)).toList) (hgr : w.grownBy w1 none) (hn : n ≤ 9223372036854775807) (f : Nat → Value) :
    RowO w1 (fun g => g = w.heap.size) (.slice (some ⟨w.heap.size, 0, none⟩) n n) ((List.range 0).map f ++ (List.replicate n (.int .i64 0 : Value)).drop 0) ∧ Below w.heap.size w w1 ∧ w.heap.size < w1.heap.size := by
  have hlt : w.heap.size < w1.heap.size := by
    rcases hown.2 with ⟨e, _⟩ | ⟨g, cap, cur, e, _, hh, _⟩
    · cases e
    · cases e
      exact (Array.getElem?_eq_some_iff.1 hh).1
  refine ⟨?_, ⟨hgr.os, hgr.tape, hgr.output, hgr.size, fun k hk => hgr.block k hk (fun e => by cases e)⟩, hlt⟩
  have h1 := RowO.of_owns hown hn
  rw [made_ints] at h1
  exact h1.mono (fun _ _ => rfl) (fun g hg => by simp [Value.ownBlock] at hg; exact hg.symm)
theorem set_zero (f : Nat → Value) (n j : Nat) (hj : j < n) : ((List.range j).map f ++ (List.replicate n (.int .i64 0 : Value)).drop j).set j (f j) = (List.range (j + 1)).map f ++ (List.replicate n (.int .i64 0 : Value)).drop (j + 1) := set_step f _ j (by simpa using hj)
theorem zero_step (f : Nat → Value) (n j : Nat) (hj : j < n) (h : f j = .int .i64 0) : (List.range j).map f ++ (List.replicate n (.int .i64 0 : Value)).drop j = (List.range (j + 1)).map f ++ (List.replicate n (.int .i64 0 : Value)).drop (j + 1) := by
  have e := List.drop_eq_getElem_cons (l := List.replicate n (.int .i64 0 : Value)) (i := j) (by simpa using hj)
  rw [e, List.range_succ, List.map_append, List.append_assoc]
  simp [h]
theorem zero_all (f : Nat → Value) (n : Nat) : (List.range n).map f ++ (List.replicate n (.int .i64 0 : Value)).drop n = (List.range n).map f := by
  rw [List.drop_eq_nil_of_le (by simp), List.append_nil]

set_option maxRecDepth 100000 in
set_option maxHeartbeats 6400000 in
theorem specCls_any (va vn : Value) (a : Au) (S : Nat → Prop) (w : World) (hw : a.wf) (hn : a.n ≤ 2000) (h : DfaV w S va vn (fieldsOf a)) :
    Calls Tryz.prog 99 #[.agg #[va, vn]] w (Copy (ints (clsRow a.n (cls a (a.n + 1)))) w) := by
  obtain ⟨i0, hi, hz0, hz1, hz2⟩ := info_parts intInfo
  obtain ⟨ad, cc, ad', cc', hva, hvn, hnl, hA, -⟩ := h.cells hw.1
  subst hva
  subst hvn
  obtain ⟨W0, hW0⟩ : ∃ W0, W0 = w.alloc (.cells #[.slice (some ad) a.n cc, .slice (some ad') a.n cc'] 29) := ⟨_, rfl⟩
  have HB0 : Hid (Below w.heap.size w W0) := Lib.hid (by rw [hW0]; exact (Below.refl _ _).alloc (Nat.le_refl _) _)
  have HX : Hid (Bx2 W0 w.heap.size (.slice (some ad) a.n cc) (.slice (some ad') a.n cc')) := Lib.hid (by
    have k := box2_kept (w := w) (w1 := W0) (a := .slice (some ad) a.n cc) (b := .slice (some ad') a.n cc') (t := 29) (by rw [hW0]; exact Below.refl _ _)
    exact ⟨k.2.1, k.2.2.1⟩)
  have HSame := Lib.hid (fun (V : World) (hV : Below w.heap.size w V) r vc Sc p q (hc : RowV V Sc vc (ints (clsRow a.n (cls a r)))) hp hq => specSame_any (.slice (some ad) a.n cc) (.slice (some ad') a.n cc') vc a (cls a r) S Sc p q V hw (h.kept hV) hc hp hq)
  have HFirst := Lib.hid (fun r q => firstOf_spec a (cls a r) q)
  obtain ⟨n, hne⟩ : ∃ n, n = a.n := ⟨_, rfl⟩
  have HA : Hid (∀ q, q < n → w.cell? (ad.add q) = some (.bool (a.A q))) := Lib.hid (by rw [hne]; exact hA)
  rw [← hne] at hW0 HX hn hnl HSame
  rw [← hne]
  have hn0 : 0 < n := by have := hw.1; omega
  clear h hA hne
  have hc00 : (w.alloc (.cells #[.slice (some ad) n cc, .slice (some ad') n cc'] 29)).cell? ⟨w.heap.size, 0, none⟩ = some (.slice (some ad) n cc) := by rw [← hW0]; exact HX.out.1
  go_enter Tryz.func99, Tryz.ntmps99
  go_upto_region 2 with fail
  rw [← hW0]
  clear hc00 hW0
  go_wp2_with (at_make; refine wpList_make_full _ rfl _ _ 68 rfl W0.heap.size 3 i0 _ 1 Tryz.underlying68 hi hz0 hz1 _ _ _ _ n rfl rfl rfl rfl (by rw [hz2]; omega) (by unfold maxLen; omega) (Nat.le_refl _) ?_; intro w1 hown hgr)
  obtain ⟨ho, hb, hwl⟩ := made_row_o hown hgr (by omega) (clsV a 0)
  clear hown hgr
  go_loopw [5] (fun i wr => ∃ q : Nat, i = .int .i64 q ∧ q ≤ n ∧ RowO wr (fun g => g = W0.heap.size) (.slice (some ⟨W0.heap.size, 0, none⟩) n n) ((List.range q).map (clsV a 0) ++ (List.replicate n (.int .i64 0 : Value)).drop q) ∧ Below W0.heap.size W0 wr ∧ W0.heap.size < wr.heap.size) (fun i _ => n - (intOf i).toNat)
  case atStart => exact ⟨0, rfl, Nat.zero_le _, ho, hb, hwl⟩
  case round =>
    obtain ⟨q, rfl, hq, ho', hb', hwr⟩ := hrel
    clear ho hb
    have HBr := Lib.hid hb'
    have HO := Lib.hid ho'
    clear hb' ho'
    have c0 := (HX.out.kept HBr.out).1
    by_cases hlt : q < n
    · have hca := (HA.out q hlt)
      have hca2 := ((HB0.out.trans (HBr.out.mono HB0.out.size)).cell (cell_in hca)).trans hca
      obtain ⟨b, hb⟩ : ∃ b, b = a.A q := ⟨_, rfl⟩
      rw [← hb] at hca2
      clear hca
      cases b with
      | true =>
        have hv : clsV a 0 q = .int .i64 1 := by simp [clsV, cls, ← hb]
        obtain ⟨g, hg, -, hgl, hst⟩ := HO.out.set (j := q) (by simp; omega)
        cases hg
        obtain ⟨⟨x0, hx0⟩, hf0, hset⟩ := hst wr rfl
        have HS : Hid (RowO (wr.setCell ⟨W0.heap.size, q, none⟩ (.int .i64 1)) (fun g => g = W0.heap.size) (.slice (some ⟨W0.heap.size, 0, none⟩) n n) ((List.range (q + 1)).map (clsV a 0) ++ (List.replicate n (.int .i64 0 : Value)).drop (q + 1))) := Lib.hid (by
          have h1 := hset (clsV a 0 q)
          rw [set_zero _ n q hlt, hv] at h1
          exact h1)
        have HB2 := Lib.hid (HBr.out.setCell (p := ⟨W0.heap.size, q, none⟩) (Nat.le_refl _) (.int .i64 1))
        have hz2' : W0.heap.size < (wr.setCell ⟨W0.heap.size, q, none⟩ (.int .i64 1)).heap.size := by simpa [World.setCell] using hwr
        have HZ2 := Lib.hid hz2'
        clear hv hset hst hb hz2'
        go_wp2_with fail
        go_roundw
        case rel => exact ⟨q + 1, by go_num, by omega, HS.out, HB2.out, HZ2.out⟩
        case measure => simp [intOf]; omega
      | false =>
        have hv : clsV a 0 q = .int .i64 0 := by simp [clsV, cls, ← hb]
        have HS : Hid (RowO wr (fun g => g = W0.heap.size) (.slice (some ⟨W0.heap.size, 0, none⟩) n n) ((List.range (q + 1)).map (clsV a 0) ++ (List.replicate n (.int .i64 0 : Value)).drop (q + 1))) := Lib.hid (by
          rw [← zero_step _ n q hlt hv]
          exact HO.out)
        clear hv hb
        go_wp2_with fail
        go_roundw
        case rel => exact ⟨q + 1, by go_num, by omega, HS.out, HBr.out, hwr⟩
        case measure => simp [intOf]; omega
    · obtain rfl : q = n := by omega
      have HO1 : Hid (RowO wr (fun g => g = W0.heap.size) (.slice (some ⟨W0.heap.size, 0, none⟩) q q) (ints (clsRow q (cls a 0)))) := Lib.hid (by
        have h1 := HO.out
        rw [zero_all] at h1
        rw [ints_cls]
        exact h1)
      have hd : decide ((q : Int) < (q : Int)) = false := by simp
      go_wp2_with fail
      clear hd c0
      go_loopw [4, 6] (fun v i wr' => ∃ (r : Nat) (A : Option Addr) (m : Nat), i = .int .i64 r ∧ v = .slice A q m ∧ r ≤ q + 1 ∧ Below W0.heap.size W0 wr' ∧ Hid (RowO wr' (fun g => W0.heap.size ≤ g ∧ g < wr'.heap.size) (.slice A q m) (ints (clsRow q (cls a r))))) (fun _ i _ => q + 2 - (intOf i).toNat)
      case atStart => exact ⟨0, _, _, rfl, rfl, Nat.zero_le _, HBr.out, Lib.hid (HO1.out.mono (fun _ _ => rfl) (fun g hg => by rw [hg]; exact ⟨Nat.le_refl _, hwr⟩))⟩
      case round =>
        obtain ⟨r, A, m, rfl, rfl, hr, hb2, ho2⟩ := hrel
        have HB2 := Lib.hid hb2
        clear hb2
        have hz2r := HB2.out.size
        by_cases hrl : r ≤ q
        · have hd : decide ((r : Int) ≤ (q : Int)) = true := by simp; omega
          go_wp2_with (at_make; refine wpList_make_full _ rfl _ _ 68 rfl wr.heap.size 3 i0 _ 1 Tryz.underlying68 hi hz0 hz1 _ _ _ _ q rfl rfl rfl rfl (by rw [hz2]; omega) (by unfold maxLen; omega) (Nat.le_refl _) ?_; intro w3 hown hgr)
          obtain ⟨ho3, hb3, hwl3⟩ := made_row_o hown hgr (by omega) (clsV a (r + 1))
          clear hown hgr hd
          obtain ⟨V2, hV2⟩ : ∃ V2, V2 = wr := ⟨_, rfl⟩
          rw [← hV2] at ho3 hb3 hwl3 ho2 HB2 hz2r ⊢
          clear hV2
          have HC2 : Hid (∀ V, Below V2.heap.size V2 V → RowV V (fun g => W0.heap.size ≤ g ∧ g < V2.heap.size) (.slice A q m) (ints (clsRow q (cls a r)))) := Lib.hid (fun V hV => ho2.out.row.kept hV)
          go_loopw [8] (fun i wq => ∃ p : Nat, i = .int .i64 p ∧ p ≤ q ∧ Below V2.heap.size V2 wq ∧ V2.heap.size < wq.heap.size ∧ Hid (RowO wq (fun g => g = V2.heap.size) (.slice (some ⟨V2.heap.size, 0, none⟩) q q) ((List.range p).map (clsV a (r + 1)) ++ (List.replicate q (.int .i64 0 : Value)).drop p))) (fun i _ => q - (intOf i).toNat)
          case atStart => exact ⟨0, rfl, Nat.zero_le _, hb3, hwl3, Lib.hid ho3⟩
          case round =>
            obtain ⟨p, rfl, hp, hb4, hz4, ho4⟩ := hrel
            have HB4 := Lib.hid hb4
            clear hb4
            have HB5 := Lib.hid (HB2.out.trans (HB4.out.mono HB2.out.size))
            by_cases hpl : p < q
            · -- the state itself first
              obtain ⟨g, hg, -, hgl, hst⟩ := ho4.out.set (j := p) (by simp; omega)
              cases hg
              obtain ⟨⟨x0, hx0⟩, hf0, hset⟩ := hst wr rfl
              obtain ⟨W5, hW5⟩ : ∃ W5, W5 = wr.setCell ⟨V2.heap.size, p, none⟩ (.int .i64 (p : Int)) := ⟨_, rfl⟩
              have HO5 : Hid (RowO W5 (fun g => g = V2.heap.size) (.slice (some ⟨V2.heap.size, 0, none⟩) q q) (((List.range p).map (clsV a (r + 1)) ++ (List.replicate q (.int .i64 0 : Value)).drop p).set p (.int .i64 (p : Int)))) := Lib.hid (by rw [hW5]; exact hset _)
              have HB6 : Hid (Below V2.heap.size V2 W5) := Lib.hid (by rw [hW5]; exact HB4.out.setCell (p := ⟨V2.heap.size, p, none⟩) (Nat.le_refl _) _)
              have hz5 : V2.heap.size < W5.heap.size := by rw [hW5]; simpa [World.setCell] using hz4
              have HW5 := Lib.hid hW5
              clear hset hst hW5
              go_wp2_with fail
              rw [← HW5.out]
              clear hx0 hf0
              go_loopw [9] (fun i wp => ∃ k : Nat, i = .int .i64 k ∧ k ≤ p ∧ Below W5.heap.size W5 wp ∧ Hid (∀ k', k' < k → same a (cls a r) k' p = false)) (fun i _ => p - (intOf i).toNat)
              case atStart => exact ⟨0, rfl, Nat.zero_le _, Below.refl _ _, Lib.hid (fun k' hk => absurd hk (Nat.not_lt_zero _))⟩
              case round =>
                obtain ⟨k, rfl, hk, hb7, hall⟩ := hrel
                have HB7 := Lib.hid hb7
                clear hb7
                have HBV := Lib.hid (HB6.out.trans (HB7.out.mono HB6.out.size))
                have HBW := Lib.hid (HB0.out.trans ((HB2.out.trans (HBV.out.mono HB2.out.size)).mono HB0.out.size))
                by_cases hkp : k < p
                · obtain ⟨bx, hbx⟩ : ∃ bx, bx = same a (cls a r) k p := ⟨_, rfl⟩
                  have HS := Lib.hid (HSame.out wr HBW.out r _ _ k p (HC2.out wr HBV.out) (by omega) hpl)
                  rw [← hbx] at HS
                  have HBX := Lib.hid hbx
                  obtain ⟨c0, c1⟩ := HX.out.kept (HB2.out.trans (HBV.out.mono HB2.out.size))
                  clear hbx
                  go_wp2_with fail
                  go_at_call 105
                  refine HS.out.mono ?_
                  rintro e w8 ⟨rfl, hb8⟩
                  have HB8 := Lib.hid (HB7.out.trans (hb8.mono HB7.out.size))
                  clear hb8 c0 c1
                  cases bx with
                  | false =>
                    go_wp2_with fail
                    go_roundw
                    case rel => exact ⟨k + 1, by go_num, by omega, HB8.out, Lib.hid (fun k' hk' => by
                      by_cases e : k' = k
                      · rw [e]; exact HBX.out.symm
                      · exact hall.out k' (by omega))⟩
                    case measure => simp [intOf]; omega
                  | true =>
                    have hcl : cls a (r + 1) p = k := by
                      obtain ⟨f1, f2, f3⟩ := HFirst.out r p
                      show firstOf a (cls a r) p = k
                      rcases Nat.lt_trichotomy (firstOf a (cls a r) p) k with hl | he | hl
                      · have := hall.out _ hl
                        rw [f2] at this
                        cases this
                      · exact he
                      · have := f3 k hl
                        rw [← HBX.out] at this
                        cases this
                    obtain ⟨g9, hg9, -, hgl9, hst9⟩ := (HO5.out.mono (w' := w8) (S' := fun g => g = V2.heap.size) (fun g hg => HB8.out.block g (by rw [hg]; exact hz5)) (fun _ h => h)).set (j := p) (by simp; omega)
                    cases hg9
                    obtain ⟨⟨x9, hx9⟩, hf9, hset9⟩ := hst9 w8 rfl
                    have HO9 : Hid (RowO (w8.setCell ⟨V2.heap.size, p, none⟩ (.int .i64 (k : Int))) (fun g => g = V2.heap.size) (.slice (some ⟨V2.heap.size, 0, none⟩) q q) ((List.range (p + 1)).map (clsV a (r + 1)) ++ (List.replicate q (.int .i64 0 : Value)).drop (p + 1))) := Lib.hid (by
                      have h1 := hset9 (clsV a (r + 1) p)
                      rw [List.set_set, set_zero _ q p hpl] at h1
                      rw [show clsV a (r + 1) p = .int .i64 (k : Int) by simp [clsV, hcl]] at h1
                      exact h1)
                    have HB9 := Lib.hid ((HB6.out.trans (HB8.out.mono HB6.out.size)).setCell (p := ⟨V2.heap.size, p, none⟩) (Nat.le_refl _) (.int .i64 (k : Int)))
                    have hz9 : V2.heap.size < (w8.setCell ⟨V2.heap.size, p, none⟩ (.int .i64 (k : Int))).heap.size := by have := HB8.out.size; simp [World.setCell]; omega
                    have HZ9 := Lib.hid hz9
                    clear hset9 hst9 hz9 hcl
                    go_wp2_with fail
                    go_roundw
                    case rel => exact ⟨p + 1, by go_num, by omega, HB9.out, HZ9.out, HO9.out⟩
                    case measure => simp [intOf]; omega
                · obtain rfl : k = p := by omega
                  have hcl : cls a (r + 1) k = k := by
                    obtain ⟨f1, f2, f3⟩ := HFirst.out r k
                    show firstOf a (cls a r) k = k
                    rcases Nat.lt_or_eq_of_le f1 with hl | he
                    · have := hall.out _ hl
                      rw [f2] at this
                      cases this
                    · exact he
                  have HO9 : Hid (RowO wr (fun g => g = V2.heap.size) (.slice (some ⟨V2.heap.size, 0, none⟩) q q) ((List.range (k + 1)).map (clsV a (r + 1)) ++ (List.replicate q (.int .i64 0 : Value)).drop (k + 1))) := Lib.hid (by
                    have h1 := HO5.out.mono (w' := wr) (S' := fun g => g = V2.heap.size) (fun g hg => HB7.out.block g (by rw [hg]; exact hz5)) (fun _ h => h)
                    rw [show (.int .i64 (k : Int) : Value) = clsV a (r + 1) k by simp [clsV, hcl], set_zero _ q k hpl] at h1
                    exact h1)
                  have hz9 : V2.heap.size < wr.heap.size := Nat.lt_of_lt_of_le hz5 HB7.out.size
                  have hd : decide ((k : Int) < (k : Int)) = false := by simp
                  clear hcl
                  go_wp2_with fail
                  go_roundw
                  case rel => exact ⟨k + 1, by go_num, by omega, HBV.out, hz9, HO9.out⟩
                  case measure => simp [intOf]; omega
            · obtain rfl : p = q := by omega
              have hd : decide ((p : Int) < (p : Int)) = false := by simp
              have HO9 : Hid (RowO wr (fun g => W0.heap.size ≤ g ∧ g < wr.heap.size) (.slice (some ⟨V2.heap.size, 0, none⟩) p p) (ints (clsRow p (cls a (r + 1))))) := Lib.hid (by
                have h1 := ho4.out
                rw [zero_all] at h1
                rw [ints_cls]
                exact h1.mono (fun _ _ => rfl) (fun g hg => by rw [hg]; exact ⟨hz2r, hz4⟩))
              go_wp2_with fail
              go_roundw
              case rel => exact ⟨r + 1, _, _, by go_num, rfl, by omega, HB5.out, HO9.out⟩
              case measure => simp [intOf]; omega
        · obtain rfl : r = q + 1 := by omega
          have hd : decide (((q + 1 : Nat) : Int) ≤ (q : Int)) = false := by simp; omega
          have HR : Hid (RowO wr (OwnB w wr) (.slice A q m) (ints (clsRow q (cls a (q + 1))))) := Lib.hid (ho2.out.mono (fun _ _ => rfl) (fun g hg => ⟨Nat.le_trans HB0.out.size hg.1, hg.2⟩))
          go_wp2_with fail
          go_ret
          exact ⟨_, rfl, HR.out, HB0.out.trans (HB2.out.mono HB0.out.size)⟩
end Go.Proofs.YtlkhmpdncimnfaaGreatDoor
