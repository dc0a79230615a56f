/-
  Rows of one-cell elements behind a slice: as they came in, and in blocks of the call's own. Of no function of the program.
  What the laws' own helpers answer over slices of bools: szBoolS, toBoolS, eqBoolS, markBoolS, heldBoolS.
  What the laws' own helpers answer over slices of ints: szIntS, toIntS, eqIntS, markIntS, heldIntS.
  Rows of rows behind a slice: as they came in, and in blocks of the call's own. Of no function of the program.
  What the laws' own helpers answer over slices of slices of ints: szIntSS, toIntSS, eqIntSS, markIntSS, heldIntSS.
  Boxes of two cells. Of no function of the program.
  What the laws' own helpers answer over automata: szDfa, toDfa, eqDfa, markDfa, heldDfa.
  What stays of automata and boxes over calls, for the walks of exact laws. Of no function of the program.
-/
import Derived.Test.YthmfncklepkddabDoorChg
import Derived.Test.YthmfncklepkddabDoorRows
import Derived.Test.YthmfncklepkddabDoorLeftOf
import Derived.RegionTactic
import Derived.Deep.QuietTactic
import Derived.BigQuiet
import Derived.Lib.Builder
import Derived.Deep.RegionHeld3
namespace Go.Proofs.YthmfncklepkddabDoor
open Go.RowKit

/-- What lies behind a slice; its block is in S. -/
def RowV (w : World) (S : Nat → Prop) (v : Value) (xs : List Value) : Prop :=
  xs.length ≤ 9223372036854775807 ∧ ∃ A c, v = .slice A xs.length c ∧ ∀ (j : Nat) (x : Value), xs[j]? = some x → ∃ ad, A = some ad ∧ S ad.block ∧ w.cell? (ad.add j) = some x
theorem add_block (a : Addr) (n : Nat) : (a.add n).block = a.block := by unfold Addr.add; split <;> rfl
theorem RowV.mono {w w' : World} {S S' : Nat → Prop} {v : Value} {xs : List Value} (h : RowV w S v xs) (hs : ∀ g, S g → w'.heap[g]? = w.heap[g]?) (hS : ∀ g, S g → S' g) : RowV w' S' v xs := by
  obtain ⟨hl, A, c, rfl, hc⟩ := h
  refine ⟨hl, A, c, rfl, fun j x hx => ?_⟩
  obtain ⟨ad, rfl, hb, hce⟩ := hc j x hx
  exact ⟨ad, rfl, hS _ hb, (World.cell?_of_block (by rw [add_block]; exact hs _ hb)).trans hce⟩
theorem RowV.below {w w' : World} {B B' : Nat} {v : Value} {xs : List Value} (h : RowV w (· < B) v xs) (hb : Below B w w') (hB : B ≤ B') : RowV w' (· < B') v xs :=
  h.mono (fun g hg => hb.block g hg) (fun _ hg => Nat.lt_of_lt_of_le hg hB)
theorem cell_in {w : World} {p : Addr} {u : Value} (h : w.cell? p = some u) : p.block < w.heap.size := by
  by_cases hl : p.block < w.heap.size
  · exact hl
  · have : w.heap[p.block]? = none := Array.getElem?_eq_none (by omega)
    simp [World.cell?, this] at h
/-- Over a call that turns nothing old. -/
theorem RowV.kept {w w' : World} {S : Nat → Prop} {v : Value} {xs : List Value} (h : RowV w S v xs) (hb : Below w.heap.size w w') : RowV w' S v xs := by
  obtain ⟨hl, A, c, rfl, hc⟩ := h
  refine ⟨hl, A, c, rfl, fun j x hx => ?_⟩
  obtain ⟨ad, rfl, hS, hce⟩ := hc j x hx
  have hlt := cell_in hce
  exact ⟨ad, rfl, hS, (hb.cell hlt).trans hce⟩
theorem RowV.shape {w : World} {S : Nat → Prop} {v : Value} {xs : List Value} (h : RowV w S v xs) : ∃ A c, v = .slice A xs.length c := by
  obtain ⟨_, A, c, h, _⟩ := h
  exact ⟨A, c, h⟩
/-- One element's cell. -/
theorem RowV.at {w : World} {S : Nat → Prop} {A : Option Addr} {n c : Nat} {xs : List Value} (h : RowV w S (.slice A n c) xs) {j : Nat} (hj : j < xs.length) : ∃ ad, A = some ad ∧ S ad.block ∧ w.cell? (ad.add j) = some xs[j] := by
  obtain ⟨_, A', c', e, hc⟩ := h
  cases e
  exact hc j _ (List.getElem?_eq_getElem hj)

/-- .. in a block of its own. -/
def RowO (w : World) (S : Nat → Prop) (v : Value) (xs : List Value) : Prop :=
  xs.length ≤ 9223372036854775807 ∧ ∃ A c, v = .slice A xs.length c ∧ (xs = [] ∨ ∃ (g : Nat) (cur : Array Value) (T : TypeId), A = some ⟨g, 0, none⟩ ∧ S g ∧ w.heap[g]? = some (.cells cur T (0, 0)) ∧ ∀ (j : Nat) (x : Value), xs[j]? = some x → cur[j]? = some x)
theorem RowO.row {w : World} {S : Nat → Prop} {v : Value} {xs : List Value} (h : RowO w S v xs) : RowV w S v xs := by
  obtain ⟨hl, A, c, rfl, hc⟩ := h
  refine ⟨hl, A, c, rfl, fun j x hx => ?_⟩
  rcases hc with rfl | ⟨g, cur, T, rfl, hg, hh, hx'⟩
  · simp at hx
  · exact ⟨_, rfl, hg, by rw [Addr.add_lit, Nat.zero_add, cell_of_row w g j cur T (0, 0) hh]; exact hx' j x hx⟩
theorem RowO.mono {w w' : World} {S S' : Nat → Prop} {v : Value} {xs : List Value} (h : RowO w S v xs) (hs : ∀ g, S g → w'.heap[g]? = w.heap[g]?) (hS : ∀ g, S g → S' g) : RowO w' S' v xs := by
  obtain ⟨hl, A, c, rfl, hc⟩ := h
  refine ⟨hl, A, c, rfl, ?_⟩
  rcases hc with rfl | ⟨g, cur, T, rfl, hg, hh, hx'⟩
  · exact .inl rfl
  · exact .inr ⟨g, cur, T, rfl, hS g hg, (hs g hg).trans hh, hx'⟩
theorem RowO.shape {w : World} {S : Nat → Prop} {v : Value} {xs : List Value} (h : RowO w S v xs) : ∃ A c, v = .slice A xs.length c := h.row.shape
theorem RowO.nil (w : World) (S : Nat → Prop) (A : Option Addr) (c : Nat) : RowO w S (.slice A 0 c) [] := ⟨Nat.zero_le _, A, c, rfl, .inl rfl⟩
/-- The library's own rows. -/
theorem RowO.of_owns {w : World} {base : Nat} {e : TypeId} {v : Value} {n : Nat} {xs : List Value} (h : w.ownsRow base e 1 v n xs) (hn : n ≤ 9223372036854775807) : RowO w (fun g => v.ownBlock = some g) v xs := by
  obtain ⟨hx, hc⟩ := h
  rw [Nat.mul_one] at hx
  refine ⟨by omega, ?_⟩
  rcases hc with ⟨rfl, h0⟩ | ⟨g, cap, cur, rfl, _, hh, _, _, _, ht⟩
  · rw [hx, h0]
    exact ⟨none, 0, rfl, .inl (List.length_eq_zero_iff.1 (by omega))⟩
  · rw [hx]
    refine ⟨_, cap, rfl, .inr ⟨g, cur, e, rfl, rfl, hh, fun j x hj => ?_⟩⟩
    rw [Nat.mul_one] at ht
    have hjn : j < n := by have := (List.getElem?_eq_some_iff.1 hj).1; omega
    rw [← ht, List.getElem?_take_of_lt hjn, Array.getElem?_toList] at hj
    exact hj
/-- A store into it. -/
theorem RowO.set {w : World} {S : Nat → Prop} {A : Option Addr} {n c : Nat} {xs : List Value} (h : RowO w S (.slice A n c) xs) {j : Nat} (hj : j < xs.length) :
    ∃ g, A = some ⟨g, 0, none⟩ ∧ S g ∧ g < w.heap.size ∧ (∀ w1 : World, w1.heap[g]? = w.heap[g]? → (∃ x, w1.cell? ⟨g, j, none⟩ = some x) ∧ w1.frozen? ⟨g, j, none⟩ = false ∧
      ∀ u, RowO (w1.setCell ⟨g, j, none⟩ u) S (.slice A n c) (xs.set j u)) := by
  obtain ⟨hl, A', c', e, hc⟩ := h
  cases e
  rcases hc with rfl | ⟨g, cur, T, rfl, hg, hh, hx⟩
  · simp at hj
  · have hlt : g < w.heap.size := (Array.getElem?_eq_some_iff.1 hh).1
    have hcj : cur[j]? = some xs[j] := hx j _ (List.getElem?_eq_getElem hj)
    refine ⟨g, rfl, hg, hlt, fun w1 h1 => ?_⟩
    have hh1 := h1.trans hh
    refine ⟨⟨_, (cell_of_row w1 g j cur T (0, 0) hh1).trans hcj⟩, frozen_of_row w1 g j cur T hh1, fun u => ?_⟩
    have h2 := heap_setCell_same w1 g j cur T u hh1
    refine ⟨by simpa using hl, _, c, by simp, .inr ⟨g, _, T, rfl, hg, h2, fun i x hi => ?_⟩⟩
    have hjc : j < cur.size := (Array.getElem?_eq_some_iff.1 hcj).1
    rw [Array.getElem?_setIfInBounds]
    rw [List.getElem?_set] at hi
    by_cases e : j = i
    · subst e
      rw [if_pos rfl] at hi
      rw [if_pos hj] at hi
      rw [if_pos rfl, if_pos hjc]
      exact hi
    · rw [if_neg e] at hi
      rw [if_neg e]
      exact hx i x hi
/-- A store of what is to come in its place. -/
theorem set_step {α : Type} (f : Nat → α) (xs : List α) (j : Nat) (hj : j < xs.length) : ((List.range j).map f ++ xs.drop j).set j (f j) = (List.range (j + 1)).map f ++ xs.drop (j + 1) := by
  have hl : ((List.range j).map f).length = j := by simp
  rw [List.set_append_right _ _ (by omega), hl, Nat.sub_self, List.drop_eq_getElem_cons hj, List.set_cons_zero, List.range_succ, List.map_append, List.append_assoc]
  rfl
end Go.Proofs.YthmfncklepkddabDoor

namespace Go.Proofs.YthmfncklepkddabDoor
open Go.RowKit

/-- Bools as a row's cells. -/
def bools (l : List Bool) : List Value := l.map fun x => .bool x
theorem bools_length (l : List Bool) : (bools l).length = l.length := by simp [bools]
theorem bools_at {l : List Bool} {j : Nat} (h : j < l.length) : (bools l)[j]'(by rw [bools_length]; exact h) = .bool (l[j]) := by simp [bools]
theorem boolInfo : (Tryd.prog.info? 4).map (fun i => (i.zero, i.size, i.bytes)) = some (some (.bool false), 1, 1) := by kernel_rfl

/-- A copy of its own. -/
def Copy (xs : List Value) (w : World) (e : Ending) (w' : World) : Prop := ∃ v, e = .returned v ∧ RowO w' (OwnB w w') v xs ∧ Below w.heap.size w w'
set_option maxRecDepth 100000 in
set_option maxHeartbeats 800000 in
theorem eqBoolS_any (v v' : Value) (l : List Bool) (S S' : Nat → Prop) (w : World) (h : RowV w S v (bools l)) (h' : RowV w S' v' (bools l)) :
    Calls Tryd.prog 12 #[v, v'] w fun e w' => e = .returned (.bool true) ∧ ∃ m, w' = w.drewN m := by
  have hl := h.1
  rw [bools_length] at hl
  obtain ⟨A, c, rfl⟩ := h.shape
  obtain ⟨A', c', rfl⟩ := h'.shape
  have HE := Lib.hid (fun j (hj : j < l.length) => h.at (j := j) (by rw [bools_length]; exact hj))
  have HE' := Lib.hid (fun j (hj : j < l.length) => h'.at (j := j) (by rw [bools_length]; exact hj))
  clear h h'
  rw [bools_length]
  go_enter Tryd.func12, Tryd.ntmps12
  go_wp2_with fail
  go_loopw [5] (fun i wr => ∃ j m : Nat, i = .int .i64 j ∧ j ≤ l.length ∧ wr = w.drewN m) (fun i _ => l.length - (intOf i).toNat)
  case atStart => exact ⟨0, 0, rfl, Nat.zero_le _, rfl⟩
  case round =>
    obtain ⟨j, m, rfl, hj, rfl⟩ := hrel
    by_cases hlt : j < l.length
    · obtain ⟨ad, rfl, -, hc1⟩ := HE.out j hlt
      obtain ⟨ad', rfl, -, hc2⟩ := HE'.out j hlt
      rw [bools_at hlt] at hc1 hc2
      obtain ⟨x, hx⟩ : ∃ x, x = l[j] := ⟨_, rfl⟩
      rw [← hx] at hc1 hc2
      clear hx
      have hne : (x != x) = false := by simp
      go_wp2_with fail
      go_quiet (fail)
      all_goals go_wp2
      all_goals
        go_roundw
        case rel => exact ⟨j + 1, _, by go_num, by omega, rfl⟩
        case measure => simp [intOf]; omega
    · go_wp2_with fail
      go_ret
      exact ⟨rfl, m, rfl⟩

theorem eqBoolS_b (v v' : Value) (l : List Bool) (S S' : Nat → Prop) (w : World) (h : RowV w S v (bools l)) (h' : RowV w S' v' (bools l)) :
    Calls Tryd.prog 12 #[v, v'] w fun e w' => e = .returned (.bool true) ∧ Below w.heap.size w w' :=
  (eqBoolS_any v v' l S S' w h h').mono fun _ _ ⟨he, m, hm⟩ => ⟨he, by rw [hm]; exact below_draws (Below.refl _ _) m⟩

/-- The marks from k on. -/
def boolMark (k n : Nat) : List Bool := (List.range n).map fun (j : Nat) => (((k : Int) + (j : Int)) % 3 == 0)
theorem boolMark_length (k n : Nat) : (boolMark k n).length = n := by simp [boolMark]
theorem boolMark_at {k n j : Nat} (h : j < n) : (boolMark k n)[j]'(by rw [boolMark_length]; exact h) = (((k : Int) + (j : Int)) % 3 == 0) := by simp [boolMark]

set_option maxRecDepth 100000 in
set_option maxHeartbeats 800000 in
theorem markBoolS_any (k0 : Nat) (v : Value) (l : List Bool) (S : Nat → Prop) (w : World) (h : RowO w S v (bools l)) (hn : l.length ≤ 2097152) (hk : k0 ≤ 16777216) :
    Calls Tryd.prog 14 #[v, .int .i64 (k0 : Int)] w fun e w' => e = .returned (.int .i64 ((k0 + l.length : Nat) : Int)) ∧ RowO w' S v (bools (boolMark k0 l.length)) ∧ Chg S w w' ∧ w'.heap.size = w.heap.size := by
  obtain ⟨A, c, rfl⟩ := h.shape
  rw [bools_length] at h ⊢
  have HL := Lib.hid (bools_length l)
  obtain ⟨xs, hxs⟩ : ∃ xs, xs = bools l := ⟨_, rfl⟩
  obtain ⟨n, hne⟩ : ∃ n, n = l.length := ⟨_, rfl⟩
  rw [← hxs] at h HL
  rw [← hne] at h HL hn ⊢
  clear hxs hne
  go_enter Tryd.func14, Tryd.ntmps14
  go_wp2_with fail
  go_loopw [1, 5] (fun y i wr => ∃ j : Nat, i = .int .i64 j ∧ y = .int .i64 ((k0 + j : Nat) : Int) ∧ j ≤ n ∧ RowO wr S (.slice A n c) ((List.range j).map (fun (j : Nat) => .bool ((((k0 : Int) + (j : Int)) % 3 == 0))) ++ xs.drop j) ∧ Chg S w wr ∧ wr.heap.size = w.heap.size) (fun _ i _ => n - (intOf i).toNat)
  case atStart => exact ⟨0, rfl, rfl, Nat.zero_le _, h, Chg.refl _ _, rfl⟩
  case round =>
    obtain ⟨j, rfl, rfl, hj, ho, hc, hzs⟩ := hrel
    by_cases hlt : j < n
    · obtain ⟨g, rfl, hS, hgl, hst⟩ := ho.set (j := j) (by have := HL.out; simp; omega)
      obtain ⟨⟨x0, hx0⟩, hf0, hset⟩ := hst wr rfl
      have HS := Lib.hid (hset (.bool ((((k0 : Int) + (j : Int)) % 3 == 0))))
      have HC := Lib.hid (hc.set (a := ⟨g, j, none⟩) hS (.bool ((((k0 : Int) + (j : Int)) % 3 == 0))))
      have hzs' : (wr.setCell ⟨g, j, none⟩ (.bool ((((k0 : Int) + (j : Int)) % 3 == 0)))).heap.size = w.heap.size := by simpa [World.setCell] using hzs
      have HZ := Lib.hid hzs'
      clear h hset hst ho hc hzs'
      go_wp2_with fail
      go_roundw
      case rel =>
        refine ⟨j + 1, by go_num, by go_num, by omega, ?_, HC.out, HZ.out⟩
        have := HS.out
        rw [set_step (fun j => (.bool ((((k0 : Int) + (j : Int)) % 3 == 0)) : Value)) xs j (by rw [HL.out]; exact hlt)] at this
        exact this
      case measure => simp [intOf]; omega
    · obtain rfl : j = n := by omega
      have h1 : RowO wr S (.slice A j c) (bools (boolMark k0 j)) := by
        rw [List.drop_eq_nil_of_le (by rw [HL.out]; exact Nat.le_refl _), List.append_nil] at ho
        have e : bools (boolMark k0 j) = (List.range j).map (fun (j : Nat) => (.bool ((((k0 : Int) + (j : Int)) % 3 == 0)) : Value)) := by simp [bools, boolMark, Function.comp_def]
        rw [e]
        exact ho
      have H1 := Lib.hid (And.intro h1 hc)
      clear h h1 ho hc
      go_wp2_with fail
      go_ret
      exact ⟨rfl, H1.out.1, H1.out.2, hzs⟩

end Go.Proofs.YthmfncklepkddabDoor

namespace Go.Proofs.YthmfncklepkddabDoor
open Go.RowKit

/-- Ints as a row's cells. -/
def ints (l : List Int) : List Value := l.map fun x => .int .i64 x
theorem ints_length (l : List Int) : (ints l).length = l.length := by simp [ints]
theorem ints_at {l : List Int} {j : Nat} (h : j < l.length) : (ints l)[j]'(by rw [ints_length]; exact h) = .int .i64 (l[j]) := by simp [ints]
theorem intInfo : (Tryd.prog.info? 3).map (fun i => (i.zero, i.size, i.bytes)) = some (some (.int .i64 0), 1, 8) := by kernel_rfl

set_option maxRecDepth 100000 in
set_option maxHeartbeats 800000 in
theorem eqIntS_any (v v' : Value) (l : List Int) (S S' : Nat → Prop) (w : World) (h : RowV w S v (ints l)) (h' : RowV w S' v' (ints l)) :
    Calls Tryd.prog 40 #[v, v'] w fun e w' => e = .returned (.bool true) ∧ ∃ m, w' = w.drewN m := by
  have hl := h.1
  rw [ints_length] at hl
  obtain ⟨A, c, rfl⟩ := h.shape
  obtain ⟨A', c', rfl⟩ := h'.shape
  have HE := Lib.hid (fun j (hj : j < l.length) => h.at (j := j) (by rw [ints_length]; exact hj))
  have HE' := Lib.hid (fun j (hj : j < l.length) => h'.at (j := j) (by rw [ints_length]; exact hj))
  clear h h'
  rw [ints_length]
  go_enter Tryd.func40, Tryd.ntmps40
  go_wp2_with fail
  go_loopw [5] (fun i wr => ∃ j m : Nat, i = .int .i64 j ∧ j ≤ l.length ∧ wr = w.drewN m) (fun i _ => l.length - (intOf i).toNat)
  case atStart => exact ⟨0, 0, rfl, Nat.zero_le _, rfl⟩
  case round =>
    obtain ⟨j, m, rfl, hj, rfl⟩ := hrel
    by_cases hlt : j < l.length
    · obtain ⟨ad, rfl, -, hc1⟩ := HE.out j hlt
      obtain ⟨ad', rfl, -, hc2⟩ := HE'.out j hlt
      rw [ints_at hlt] at hc1 hc2
      obtain ⟨x, hx⟩ : ∃ x, x = l[j] := ⟨_, rfl⟩
      rw [← hx] at hc1 hc2
      clear hx
      have hne : (x != x) = false := by simp
      go_wp2_with fail
      go_quiet (fail)
      all_goals go_wp2
      all_goals
        go_roundw
        case rel => exact ⟨j + 1, _, by go_num, by omega, rfl⟩
        case measure => simp [intOf]; omega
    · go_wp2_with fail
      go_ret
      exact ⟨rfl, m, rfl⟩

theorem eqIntS_b (v v' : Value) (l : List Int) (S S' : Nat → Prop) (w : World) (h : RowV w S v (ints l)) (h' : RowV w S' v' (ints l)) :
    Calls Tryd.prog 40 #[v, v'] w fun e w' => e = .returned (.bool true) ∧ Below w.heap.size w w' :=
  (eqIntS_any v v' l S S' w h h').mono fun _ _ ⟨he, m, hm⟩ => ⟨he, by rw [hm]; exact below_draws (Below.refl _ _) m⟩

/-- The marks from k on. -/
def intMark (k n : Nat) : List Int := (List.range n).map fun (j : Nat) => ((k + j : Nat) : Int)
theorem intMark_length (k n : Nat) : (intMark k n).length = n := by simp [intMark]
theorem intMark_at {k n j : Nat} (h : j < n) : (intMark k n)[j]'(by rw [intMark_length]; exact h) = ((k + j : Nat) : Int) := by simp [intMark]

set_option maxRecDepth 100000 in
set_option maxHeartbeats 800000 in
theorem markIntS_any (k0 : Nat) (v : Value) (l : List Int) (S : Nat → Prop) (w : World) (h : RowO w S v (ints l)) (hn : l.length ≤ 2097152) (hk : k0 ≤ 16777216) :
    Calls Tryd.prog 42 #[v, .int .i64 (k0 : Int)] w fun e w' => e = .returned (.int .i64 ((k0 + l.length : Nat) : Int)) ∧ RowO w' S v (ints (intMark k0 l.length)) ∧ Chg S w w' ∧ w'.heap.size = w.heap.size := by
  obtain ⟨A, c, rfl⟩ := h.shape
  rw [ints_length] at h ⊢
  have HL := Lib.hid (ints_length l)
  obtain ⟨xs, hxs⟩ : ∃ xs, xs = ints l := ⟨_, rfl⟩
  obtain ⟨n, hne⟩ : ∃ n, n = l.length := ⟨_, rfl⟩
  rw [← hxs] at h HL
  rw [← hne] at h HL hn ⊢
  clear hxs hne
  go_enter Tryd.func42, Tryd.ntmps42
  go_wp2_with fail
  go_loopw [1, 5] (fun y i wr => ∃ j : Nat, i = .int .i64 j ∧ y = .int .i64 ((k0 + j : Nat) : Int) ∧ j ≤ n ∧ RowO wr S (.slice A n c) ((List.range j).map (fun (j : Nat) => .int .i64 (((k0 + j : Nat) : Int))) ++ xs.drop j) ∧ Chg S w wr ∧ wr.heap.size = w.heap.size) (fun _ i _ => n - (intOf i).toNat)
  case atStart => exact ⟨0, rfl, rfl, Nat.zero_le _, h, Chg.refl _ _, rfl⟩
  case round =>
    obtain ⟨j, rfl, rfl, hj, ho, hc, hzs⟩ := hrel
    by_cases hlt : j < n
    · obtain ⟨g, rfl, hS, hgl, hst⟩ := ho.set (j := j) (by have := HL.out; simp; omega)
      obtain ⟨⟨x0, hx0⟩, hf0, hset⟩ := hst wr rfl
      have HS := Lib.hid (hset (.int .i64 (((k0 + j : Nat) : Int))))
      have HC := Lib.hid (hc.set (a := ⟨g, j, none⟩) hS (.int .i64 (((k0 + j : Nat) : Int))))
      have hzs' : (wr.setCell ⟨g, j, none⟩ (.int .i64 (((k0 + j : Nat) : Int)))).heap.size = w.heap.size := by simpa [World.setCell] using hzs
      have HZ := Lib.hid hzs'
      clear h hset hst ho hc hzs'
      go_wp2_with fail
      go_roundw
      case rel =>
        refine ⟨j + 1, by go_num, by go_num, by omega, ?_, HC.out, HZ.out⟩
        have := HS.out
        rw [set_step (fun j => (.int .i64 (((k0 + j : Nat) : Int)) : Value)) xs j (by rw [HL.out]; exact hlt)] at this
        exact this
      case measure => simp [intOf]; omega
    · obtain rfl : j = n := by omega
      have h1 : RowO wr S (.slice A j c) (ints (intMark k0 j)) := by
        rw [List.drop_eq_nil_of_le (by rw [HL.out]; exact Nat.le_refl _), List.append_nil] at ho
        have e : ints (intMark k0 j) = (List.range j).map (fun (j : Nat) => (.int .i64 (((k0 + j : Nat) : Int)) : Value)) := by simp [ints, intMark, Function.comp_def]
        rw [e]
        exact ho
      have H1 := Lib.hid (And.intro h1 hc)
      clear h h1 ho hc
      go_wp2_with fail
      go_ret
      exact ⟨rfl, H1.out.1, H1.out.2, hzs⟩

end Go.Proofs.YthmfncklepkddabDoor

namespace Go.Proofs.YthmfncklepkddabDoor
open Go.RowKit

/-- A row of rows. -/
def RowVV (w : World) (S : Nat → Prop) (v : Value) (rss : List (List Value)) : Prop :=
  ∃ us : List Value, us.length = rss.length ∧ RowV w S v us ∧ ∀ (j : Nat) (u : Value) (r : List Value), us[j]? = some u → rss[j]? = some r → RowV w S u r
theorem RowVV.mono {w w' : World} {S S' : Nat → Prop} {v : Value} {rss : List (List Value)} (h : RowVV w S v rss) (hs : ∀ g, S g → w'.heap[g]? = w.heap[g]?) (hS : ∀ g, S g → S' g) : RowVV w' S' v rss := by
  obtain ⟨us, hl, hv, hr⟩ := h
  exact ⟨us, hl, hv.mono hs hS, fun j u r hu hx => (hr j u r hu hx).mono hs hS⟩
theorem RowVV.kept {w w' : World} {S : Nat → Prop} {v : Value} {rss : List (List Value)} (h : RowVV w S v rss) (hb : Below w.heap.size w w') : RowVV w' S v rss := by
  obtain ⟨us, hl, hv, hr⟩ := h
  exact ⟨us, hl, hv.kept hb, fun j u r hu hx => (hr j u r hu hx).kept hb⟩
theorem RowVV.shape {w : World} {S : Nat → Prop} {v : Value} {rss : List (List Value)} (h : RowVV w S v rss) : rss.length ≤ 9223372036854775807 ∧ ∃ A c, v = .slice A rss.length c := by
  obtain ⟨us, hl, hv, _⟩ := h
  obtain ⟨A, c, e⟩ := hv.shape
  rw [hl] at e
  exact ⟨by rw [← hl]; exact hv.1, A, c, e⟩
theorem RowVV.at {w : World} {S : Nat → Prop} {A : Option Addr} {n c : Nat} {rss : List (List Value)} (h : RowVV w S (.slice A n c) rss) {j : Nat} (hj : j < rss.length) :
    ∃ ad u, A = some ad ∧ S ad.block ∧ w.cell? (ad.add j) = some u ∧ RowV w S u rss[j] := by
  obtain ⟨us, hl, hv, hr⟩ := h
  obtain ⟨ad, e, hS, hc⟩ := hv.at (j := j) (by omega)
  exact ⟨ad, _, e, hS, hc, hr j _ _ (List.getElem?_eq_getElem (by omega)) (List.getElem?_eq_getElem hj)⟩

/-- Rows of the call's own, one beside the other. -/
structure RowsP (S : Nat → Prop) (w : World) (us : List Value) (rss : List (List Value)) (K : Nat → Nat → Prop) : Prop where
  len : us.length = rss.length
  row : ∀ (j : Nat) (u : Value) (r : List Value), us[j]? = some u → rss[j]? = some r → RowO w (K j) u r
  sub : ∀ j g, K j g → S g
  lt : ∀ j g, K j g → g < w.heap.size
  sep : ∀ i j g, K i g → K j g → i = j
theorem RowsP.nil (S : Nat → Prop) (w : World) : RowsP S w [] [] (fun _ _ => False) := ⟨rfl, fun j u r h => by simp at h, fun _ _ h => h.elim, fun _ _ h => h.elim, fun _ _ _ h => h.elim⟩
theorem RowsP.keep {S S' : Nat → Prop} {w w' : World} {us : List Value} {rss : List (List Value)} {K : Nat → Nat → Prop} (h : RowsP S w us rss K) (hs : ∀ j g, K j g → w'.heap[g]? = w.heap[g]?) (hS : ∀ j g, K j g → S' g) (hz : w.heap.size ≤ w'.heap.size) : RowsP S' w' us rss K :=
  ⟨h.len, fun j u r hu hr => (h.row j u r hu hr).mono (fun g hg => hs j g hg) (fun _ hg => hg), hS, fun j g hg => Nat.lt_of_lt_of_le (h.lt j g hg) hz, h.sep⟩
/-- One row more. -/
theorem RowsP.push {S : Nat → Prop} {w w1 : World} {us : List Value} {rss : List (List Value)} {K : Nat → Nat → Prop} {u : Value} {r : List Value} (h : RowsP S w us rss K) (hb : Below w.heap.size w w1) (hs : RowO w1 (OwnB w w1) u r) (hS : ∀ g, OwnB w w1 g → S g) :
    RowsP S w1 (us ++ [u]) (rss ++ [r]) (fun j g => if j < us.length then K j g else j = us.length ∧ OwnB w w1 g) := by
  refine ⟨by simp [h.len], fun j u' r' hu hr => ?_, fun j g hg => ?_, fun j g hg => ?_, fun i j g hi hj => ?_⟩
  · by_cases hj : j < us.length
    · rw [List.getElem?_append_left hj] at hu
      rw [List.getElem?_append_left (by rw [← h.len]; exact hj)] at hr
      exact (h.row j u' r' hu hr).mono (fun g hg => hb.block g (h.lt j g hg)) (fun g hg => by simpa [hj] using hg)
    · have e : j = us.length := by
        have := (List.getElem?_eq_some_iff.1 hu).1
        simp at this
        omega
      subst e
      rw [List.getElem?_append_right (Nat.le_refl _), Nat.sub_self] at hu
      rw [List.getElem?_append_right (by rw [h.len]; exact Nat.le_refl _), h.len, Nat.sub_self] at hr
      cases hu
      cases hr
      exact hs.mono (fun _ _ => rfl) (fun g hg => by simpa using hg)
  · by_cases hj : j < us.length
    · exact h.sub j g (by simpa [hj] using hg)
    · simp only [hj, if_false] at hg
      exact hS g hg.2
  · by_cases hj : j < us.length
    · exact Nat.lt_of_lt_of_le (h.lt j g (by simpa [hj] using hg)) hb.size
    · simp only [hj, if_false] at hg
      exact hg.2.2
  · by_cases h1 : i < us.length <;> by_cases h2 : j < us.length <;> simp only [h1, h2, if_true, if_false] at hi hj
    · exact h.sep i j g hi hj
    · have := h.lt i g hi
      have := hj.2.1
      omega
    · have := h.lt j g hj
      have := hi.2.1
      omega
    · omega

/-- A row of rows of the call's own: no block is met twice. -/
def RowOO (w : World) (S : Nat → Prop) (v : Value) (rss : List (List Value)) : Prop :=
  ∃ us K0 K, RowO w K0 v us ∧ RowsP S w us rss K ∧ ∀ g, K0 g → S g ∧ ∀ j, ¬ K j g
theorem RowOO.rows {w : World} {S : Nat → Prop} {v : Value} {rss : List (List Value)} (h : RowOO w S v rss) : RowVV w S v rss := by
  obtain ⟨us, K0, K, ho, hp, hk⟩ := h
  exact ⟨us, hp.len, ho.row.mono (fun _ _ => rfl) (fun g hg => (hk g hg).1), fun j u r hu hr => (hp.row j u r hu hr).row.mono (fun _ _ => rfl) (fun g hg => hp.sub j g hg)⟩
theorem RowOO.mono {w w' : World} {S S' : Nat → Prop} {v : Value} {rss : List (List Value)} (h : RowOO w S v rss) (hs : ∀ g, S g → w'.heap[g]? = w.heap[g]?) (hS : ∀ g, S g → S' g) (hz : w.heap.size ≤ w'.heap.size) : RowOO w' S' v rss := by
  obtain ⟨us, K0, K, ho, hp, hk⟩ := h
  exact ⟨us, K0, K, ho.mono (fun g hg => hs g (hk g hg).1) (fun _ hg => hg), hp.keep (fun j g hg => hs g (hp.sub j g hg)) (fun j g hg => hS g (hp.sub j g hg)) hz, fun g hg => ⟨hS g (hk g hg).1, (hk g hg).2⟩⟩
theorem RowOO.nil (w : World) (S : Nat → Prop) (A : Option Addr) (c : Nat) : RowOO w S (.slice A 0 c) [] := ⟨[], fun _ => False, fun _ _ => False, RowO.nil _ _ _ _, RowsP.nil _ _, fun _ h => h.elim⟩
theorem RowOO.shape {w : World} {S : Nat → Prop} {v : Value} {rss : List (List Value)} (h : RowOO w S v rss) : ∃ A c, v = .slice A rss.length c := h.rows.shape.2
end Go.Proofs.YthmfncklepkddabDoor

namespace Go.Proofs.YthmfncklepkddabDoor
open Go.RowKit

/-- Rows of ints as cells. -/
def intss (rs : List (List Int)) : List (List Value) := rs.map ints
theorem intss_length (rs : List (List Int)) : (intss rs).length = rs.length := by simp [intss]
theorem intss_at {rs : List (List Int)} {j : Nat} (h : j < rs.length) : (intss rs)[j]'(by rw [intss_length]; exact h) = ints (rs[j]) := by simp [intss]
theorem RowVV.atD {w : World} {S : Nat → Prop} {A : Option Addr} {n c : Nat} {rs : List (List Int)} (h : RowVV w S (.slice A n c) (intss rs)) {j : Nat} (hj : j < rs.length) :
    ∃ ad u, A = some ad ∧ S ad.block ∧ w.cell? (ad.add j) = some u ∧ RowV w S u (ints (rs.getD j [])) := by
  obtain ⟨ad, u, h1, h2, h3, h4⟩ := h.at (j := j) (by rw [intss_length]; exact hj)
  rw [intss_at hj] at h4
  refine ⟨ad, u, h1, h2, h3, ?_⟩
  rw [List.getD_eq_getElem?_getD, List.getElem?_eq_getElem hj]
  exact h4
theorem RowV.intD {w : World} {S : Nat → Prop} {A : Option Addr} {n c : Nat} {r : List Int} (h : RowV w S (.slice A n c) (ints r)) {j : Nat} (hj : j < r.length) : ∃ ad, A = some ad ∧ S ad.block ∧ w.cell? (ad.add j) = some (.int .i64 (r.getD j 0)) := by
  obtain ⟨ad, h1, h2, h3⟩ := h.at (j := j) (by rw [ints_length]; exact hj)
  rw [ints_at hj] at h3
  refine ⟨ad, h1, h2, ?_⟩
  rw [List.getD_eq_getElem?_getD, List.getElem?_eq_getElem hj]
  exact h3
theorem RowV.boolD {w : World} {S : Nat → Prop} {A : Option Addr} {n c : Nat} {r : List Bool} (h : RowV w S (.slice A n c) (bools r)) {j : Nat} (hj : j < r.length) : ∃ ad, A = some ad ∧ S ad.block ∧ w.cell? (ad.add j) = some (.bool (r.getD j false)) := by
  obtain ⟨ad, h1, h2, h3⟩ := h.at (j := j) (by rw [bools_length]; exact hj)
  rw [bools_at hj] at h3
  refine ⟨ad, h1, h2, ?_⟩
  rw [List.getD_eq_getElem?_getD, List.getElem?_eq_getElem hj]
  exact h3
theorem RowV.ints_shape {w : World} {S : Nat → Prop} {v : Value} {r : List Int} (h : RowV w S v (ints r)) : r.length ≤ 9223372036854775807 ∧ ∃ A c, v = .slice A r.length c := by
  obtain ⟨A, c, e⟩ := h.shape
  have hl := h.1
  rw [ints_length] at e hl
  exact ⟨hl, A, c, e⟩
def totR (rs : List (List Int)) : Nat := (rs.map List.length).sum
theorem totR_step {rs : List (List Int)} {j : Nat} (h : j < rs.length) : totR (rs.take (j + 1)) = totR (rs.take j) + (rs[j]).length := by
  rw [List.take_succ_eq_append_getElem h]
  simp only [totR, List.map_append, List.map_cons, List.map_nil, List.sum_append, List.sum_cons, List.sum_nil]
  omega
theorem totR_take (rs : List (List Int)) (j : Nat) : totR (rs.take j) ≤ totR rs := by
  have h := List.take_append_drop j rs
  have : totR rs = totR (rs.take j) + totR (rs.drop j) := by
    conv => lhs; rw [← h]
    simp only [totR, List.map_append, List.sum_append]
  omega

/-- A copy of its own. -/
def Copy2 (rss : List (List Value)) (w : World) (e : Ending) (w' : World) : Prop := ∃ v, e = .returned v ∧ RowOO w' (OwnB w w') v rss ∧ Below w.heap.size w w'
theorem rowInfo : (Tryd.prog.info? 38).map (fun i => (i.zero, i.size, i.bytes)) = some (some (.slice none 0 0), 1, 24) := by kernel_rfl

/-- The copy so far: the first rows are laid. -/
def Laid2 (w wr : World) (n : Nat) (rss : List (List Value)) (j : Nat) : Prop :=
  ∃ us K, RowO wr (fun g => g = w.heap.size) (.slice (some ⟨w.heap.size, 0, none⟩) n n) (us ++ List.replicate (n - j) (.slice none 0 0)) ∧ us.length = j ∧ RowsP (fun g => w.heap.size < g) wr us (rss.take j) K

set_option maxRecDepth 100000 in
set_option maxHeartbeats 1600000 in
theorem eqIntSS_any (v v' : Value) (rs : List (List Int)) (S S' : Nat → Prop) (w : World) (h : RowVV w S v (intss rs)) (h' : RowVV w S' v' (intss rs)) :
    Calls Tryd.prog 27 #[v, v'] w fun e w' => e = .returned (.bool true) ∧ Below w.heap.size w w' := by
  obtain ⟨hl, A, c, rfl⟩ := h.shape
  obtain ⟨-, A', c', rfl⟩ := h'.shape
  rw [intss_length] at hl h h' ⊢
  have HE := Lib.hid h
  have HE' := Lib.hid h'
  clear h h'
  go_enter Tryd.func27, Tryd.ntmps27
  go_wp2_with fail
  go_loopw [5] (fun i wr => ∃ j : Nat, i = .int .i64 j ∧ j ≤ rs.length ∧ Below w.heap.size w wr) (fun i _ => rs.length - (intOf i).toNat)
  case atStart => exact ⟨0, rfl, Nat.zero_le _, Below.refl _ _⟩
  case round =>
    obtain ⟨j, rfl, hj, hb⟩ := hrel
    have HB := Lib.hid hb
    clear hb
    by_cases hlt : j < rs.length
    · obtain ⟨ad, u, rfl, -, hc1, hr1⟩ := (HE.out.kept HB.out).at (j := j) (by rw [intss_length]; exact hlt)
      obtain ⟨ad', u', rfl, -, hc2, hr2⟩ := (HE'.out.kept HB.out).at (j := j) (by rw [intss_length]; exact hlt)
      rw [intss_at hlt] at hr1 hr2
      have hbw : Below wr.heap.size wr wr := Below.refl _ _
      have HK := Lib.hid (fun (V : World) (hV : Below wr.heap.size wr V) => (⟨(hV.cell (cell_in hc1)).trans hc1, (hV.cell (cell_in hc2)).trans hc2⟩ : V.cell? (ad.add j) = some u ∧ V.cell? (ad'.add j) = some u'))
      have HQ := Lib.hid (fun (V : World) (hV : Below wr.heap.size wr V) => eqIntS_b u u' (rs[j]) S S' V (hr1.kept hV) (hr2.kept hV))
      have s4 : (j : Int) < (rs.length : Int) := by omega
      have s8 : (0 : Int) ≤ (j : Int) := by omega
      clear hr1 hr2
      go_wp2_with fail
      go_region_held3 (fun V => V.cell? (ad.add j) = some u ∧ V.cell? (ad'.add j) = some u') (first | exact HK.out _ hbw.drew | exact HK.out _ hbw) (first | (go_at_call 40; (with_reducible refine (HQ.out _ hbw.drew).mono ?_); rintro e w2 ⟨rfl, hb2⟩; have hbw := hbw.drew.trans (hb2.mono hbw.drew.size)))
      have HB2 := Lib.hid (HB.out.trans (hbw.mono HB.out.size))
      clear hb2 hbw s4 s8 hc1 hc2
      go_wp2_with fail
      go_roundw
      case rel => exact ⟨j + 1, by go_num, by omega, HB2.out⟩
      case measure => simp [intOf]; omega
    · go_wp2_with fail
      go_ret
      exact ⟨rfl, HB.out⟩

/-- The marks of rows. -/
def marksR : Nat → List (List Int) → List (List Int)
  | _, [] => []
  | k, r :: rs => intMark k r.length :: marksR (k + r.length) rs
theorem marksR_length : ∀ (k : Nat) (rs : List (List Int)), (marksR k rs).length = rs.length
  | _, [] => rfl
  | k, r :: rs => by simp [marksR, marksR_length]
theorem marksR_at : ∀ (k : Nat) (rs : List (List Int)) (j : Nat) (h : j < rs.length), (marksR k rs)[j]? = some (intMark (k + totR (rs.take j)) (rs[j]).length)
  | _, [], j, h => by simp at h
  | k, r :: rs, 0, h => by simp [marksR, totR]
  | k, r :: rs, j + 1, h => by
    have := marksR_at (k + r.length) rs j (by simpa using h)
    simp only [marksR, List.getElem?_cons_succ, List.getElem_cons_succ, List.take_succ_cons, this]
    simp [totR, Nat.add_assoc]
theorem marksR_tot : ∀ (k : Nat) (rs : List (List Int)), totR (marksR k rs) = totR rs
  | _, [] => rfl
  | k, r :: rs => by
    have := marksR_tot (k + r.length) rs
    simp only [totR, marksR, List.map_cons, List.sum_cons, intMark_length] at this ⊢
    omega

/-- Rows of which the first j are marked. -/
structure MarkRel (S : Nat → Prop) (w wr : World) (k0 : Nat) (us : List Value) (rs : List (List Int)) (K : Nat → Nat → Prop) (j : Nat) : Prop where
  done : ∀ (i : Nat) (u : Value), i < j → us[i]? = some u → ∀ h : i < rs.length, RowO wr (K i) u (ints (intMark (k0 + totR (rs.take i)) (rs[i]).length))
  left : ∀ (i : Nat) (u : Value), j ≤ i → us[i]? = some u → ∀ h : i < rs.length, RowO wr (K i) u (ints (rs[i]))

set_option maxRecDepth 100000 in
set_option maxHeartbeats 1600000 in
theorem markIntSS_any (k0 : Nat) (v : Value) (rs : List (List Int)) (S : Nat → Prop) (w : World) (h : RowOO w S v (intss rs)) (hn : rs.length + totR rs ≤ 2097152) (hk : k0 ≤ 8388608) :
    Calls Tryd.prog 33 #[v, .int .i64 (k0 : Int)] w fun e w' => e = .returned (.int .i64 ((k0 + totR rs : Nat) : Int)) ∧ RowOO w' S v (intss (marksR k0 rs)) ∧ Chg S w w' ∧ w'.heap.size = w.heap.size := by
  obtain ⟨us, K0, K, ho, hP, hK⟩ := h
  have hul : us.length = rs.length := by rw [hP.len, intss_length]
  obtain ⟨A, c, rfl⟩ := ho.shape
  have HV := Lib.hid ho
  have HP := Lib.hid hP
  have HK := Lib.hid hK
  have h0 : MarkRel S w w k0 us rs K 0 := ⟨fun i u hi => absurd hi (Nat.not_lt_zero _), fun i u _ hu hi => hP.row i u _ hu (by rw [List.getElem?_eq_getElem (by rw [intss_length]; exact hi), intss_at hi])⟩
  clear ho hP hK
  rw [hul] at HV ⊢
  go_enter Tryd.func33, Tryd.ntmps33
  go_wp2_with fail
  go_loopw [1, 5] (fun y i wr => ∃ j : Nat, i = .int .i64 j ∧ y = .int .i64 ((k0 + totR (rs.take j) : Nat) : Int) ∧ j ≤ rs.length ∧ MarkRel S w wr k0 us rs K j ∧ Chg (fun g => ∃ j, K j g) w wr ∧ wr.heap.size = w.heap.size) (fun _ i _ => rs.length - (intOf i).toNat)
  case atStart => exact ⟨0, rfl, by simp [totR], Nat.zero_le _, h0, Chg.refl _ _, rfl⟩
  case round =>
    obtain ⟨j, rfl, rfl, hj, hM, hc, hzs⟩ := hrel
    clear h0
    have HM := Lib.hid hM
    have HC := Lib.hid hc
    clear hM hc
    have hv' : RowO wr K0 (.slice A rs.length c) us := HV.out.mono (fun g hg => by
      by_cases hg2 : g < w.heap.size
      · exact HC.out.block g hg2 (fun ⟨i, hi⟩ => (HK.out g hg).2 i hi)
      · rw [Array.getElem?_eq_none (by omega), Array.getElem?_eq_none (by omega)]) (fun _ h => h)
    by_cases hlt : j < rs.length
    · obtain ⟨ad, hA, -, hce⟩ := hv'.row.at (j := j) (by omega)
      have hu := HM.out.left j _ (Nat.le_refl _) (List.getElem?_eq_getElem (by omega : j < us.length)) hlt
      obtain ⟨u, hue⟩ : ∃ u, u = us[j]'(by omega) := ⟨_, rfl⟩
      rw [← hue] at hce hu
      have hT := totR_step hlt
      have hT2 := totR_take rs (j + 1)
      have HI := Lib.hid (markIntS_any (k0 + totR (rs.take j)) u (rs[j]) (K j) wr hu (by omega) (by omega))
      obtain ⟨A', c', hus⟩ := hu.shape
      subst hus
      subst hA
      have HU := Lib.hid hue
      obtain ⟨y, hy⟩ : ∃ y, y = k0 + totR (rs.take j) := ⟨_, rfl⟩
      rw [← hy] at HI ⊢
      have HY := Lib.hid hy
      obtain ⟨y2, hy2⟩ : ∃ y2, y2 = y + (rs[j]).length := ⟨_, rfl⟩
      rw [← hy2] at HI
      have HY2 : Hid (y2 = k0 + totR (rs.take (j + 1))) := Lib.hid (by omega)
      clear hu hue hv' hT hT2 hy hy2
      go_wp2_with fail
      refine HI.out.mono ?_
      rintro e w2 ⟨rfl, hs2, hc2, hz2⟩
      have HM2 : Hid (MarkRel S w w2 k0 us rs K (j + 1)) := Lib.hid ⟨fun i u hi hu h => by
          by_cases e : i = j
          · subst e
            have e2 : u = us[i]'(by omega) := by rw [List.getElem?_eq_getElem (by omega : i < us.length)] at hu; exact (Option.some.inj hu).symm
            rw [← HY.out, e2, ← HU.out]
            exact hs2
          · exact (HM.out.done i u (by omega) hu h).mono (fun g hg => by
              by_cases hg2 : g < wr.heap.size
              · exact hc2.block g hg2 (fun hk => e (HP.out.sep i j g hg hk))
              · rw [Array.getElem?_eq_none (by omega), Array.getElem?_eq_none (by omega)]) (fun _ h => h),
        fun i u hi hu h => (HM.out.left i u (by omega) hu h).mono (fun g hg => by
              by_cases hg2 : g < wr.heap.size
              · exact hc2.block g hg2 (fun hk => by have := HP.out.sep i j g hg hk; omega)
              · rw [Array.getElem?_eq_none (by omega), Array.getElem?_eq_none (by omega)]) (fun _ h => h)⟩
      have HC2 := Lib.hid (HC.out.trans (hc2.more (fun g hg => ⟨j, hg⟩)))
      have hz3 : w2.heap.size = w.heap.size := by omega
      clear hs2 hc2
      go_wp2_with fail
      go_roundw
      case rel => exact ⟨j + 1, by go_num, by rw [HY2.out], by omega, HM2.out, HC2.out, hz3⟩
      case measure => simp [intOf]; omega
    · obtain rfl : j = rs.length := by omega
      rw [List.take_length]
      have HR : Hid (RowOO wr S (.slice A rs.length c) (intss (marksR k0 rs))) := Lib.hid ⟨us, K0, K, hv', ⟨by rw [intss_length, marksR_length]; exact hul, fun i u r hu hr => by
          have hi : i < rs.length := by rw [← hul]; exact (List.getElem?_eq_some_iff.1 hu).1
          have := HM.out.done i u hi hu hi
          have e := marksR_at k0 rs i hi
          unfold intss at hr
          rw [List.getElem?_map, e] at hr
          cases hr
          exact this, HP.out.sub, fun i g hg => by rw [hzs]; exact HP.out.lt i g hg, HP.out.sep⟩, HK.out⟩
      have HC3 := Lib.hid (HC.out.more (S' := S) (fun g ⟨i, hi⟩ => HP.out.sub i g hi))
      clear hv'
      go_wp2_with fail
      go_ret
      exact ⟨rfl, HR.out, HC3.out, hzs⟩

end Go.Proofs.YthmfncklepkddabDoor

namespace Go.Proofs.YthmfncklepkddabDoor
open Go.RowKit

/-- Block g is a box of two cells. -/
def Bx2 (w : World) (g : Nat) (x y : Value) : Prop := w.cell? ⟨g, 0, none⟩ = some x ∧ w.cell? ⟨g, 1, none⟩ = some y
theorem Bx2.below {w w' : World} {g B : Nat} {x y : Value} (h : Bx2 w g x y) (hb : Below B w w') (hg : g < B) : Bx2 w' g x y :=
  ⟨(hb.cell (p := ⟨g, 0, none⟩) hg).trans h.1, (hb.cell (p := ⟨g, 1, none⟩) hg).trans h.2⟩
theorem Bx2.kept {w w' : World} {g : Nat} {x y : Value} (h : Bx2 w g x y) (hb : Below w.heap.size w w') : Bx2 w' g x y := h.below hb (by
  by_cases hl : g < w.heap.size
  · exact hl
  · have e : w.heap[g]? = none := Array.getElem?_eq_none (by omega)
    have := h.1
    simp [World.cell?, e] at this)
theorem Bx2.lt {w : World} {g : Nat} {x y : Value} (h : Bx2 w g x y) : g < w.heap.size := by
  by_cases hl : g < w.heap.size
  · exact hl
  · have e : w.heap[g]? = none := Array.getElem?_eq_none (by omega)
    have := h.1
    simp [World.cell?, e] at this
theorem Bx2.chg {w w' : World} {S : Nat → Prop} {g : Nat} {x y : Value} (h : Bx2 w g x y) (hc : Chg S w w') (hn : ¬ S g) : Bx2 w' g x y :=
  ⟨(hc.cell (p := ⟨g, 0, none⟩) h.lt hn).trans h.1, (hc.cell (p := ⟨g, 1, none⟩) h.lt hn).trans h.2⟩
/-- A box that was laid before a call that turns nothing old. -/
theorem box2_kept {w w1 : World} {a b : Value} {t : TypeId} (hb : Below (w.heap.size + 1) (w.alloc (.cells #[a, b] t)) w1) :
    w1.heap[w.heap.size]? = some (.cells #[a, b] t (0, 0)) ∧ w1.cell? ⟨w.heap.size, 0, none⟩ = some a ∧ w1.cell? ⟨w.heap.size, 1, none⟩ = some b ∧ w1.frozen? ⟨w.heap.size, 0, none⟩ = false ∧ w1.frozen? ⟨w.heap.size, 1, none⟩ = false := by
  have h := (hb.block w.heap.size (Nat.lt_succ_self _)).trans (heap_alloc_new w _)
  exact ⟨h, (cell_of_row w1 _ 0 _ _ (0, 0) h).trans rfl, (cell_of_row w1 _ 1 _ _ (0, 0) h).trans rfl, frozen_of_row w1 _ 0 _ _ h, frozen_of_row w1 _ 1 _ _ h⟩
theorem box2_new (w0 w1 : World) (B : Nat) (x y : Value) (t : TypeId) (h : Below B w0 w1) (hB : B ≤ w0.heap.size) :
    Below B w0 (w1.alloc (.cells #[x, y] t)) ∧ Bx2 (w1.alloc (.cells #[x, y] t)) w1.heap.size x y ∧ Below w1.heap.size w1 (w1.alloc (.cells #[x, y] t)) ∧ (w1.alloc (.cells #[x, y] t)).heap.size = w1.heap.size + 1 := by
  have k := box2_kept (w := w1) (a := x) (b := y) (t := t) (Below.refl _ _)
  exact ⟨h.alloc (Nat.le_trans hB h.size) _, ⟨k.2.1, k.2.2.1⟩, (Below.refl _ _).alloc (Nat.le_refl _) _, by simp⟩
/-- The two cells are written. -/
theorem put2 {w1 : World} {g : Nat} {x0 x1 k l : Value} (b0 : w1.cell? ⟨g, 0, none⟩ = some x0) (b1 : w1.cell? ⟨g, 1, none⟩ = some x1) :
    let W4 := (w1.setCell ⟨g, 0, none⟩ k).setCell ⟨g, 1, none⟩ l
    (W4.cell? ⟨g, 0, none⟩ = some k ∧ W4.cell? ⟨g, 1, none⟩ = some l) ∧ W4.heap.size = w1.heap.size ∧ (∀ h, h ≠ g → W4.heap[h]? = w1.heap[h]?) ∧ ∀ B a, Below B a w1 → B ≤ g → Below B a W4 := by
  intro W4
  have ne : (⟨g, 0, none⟩ : Addr) ≠ ⟨g, 1, none⟩ := fun e => by injection e with _ e2; cases e2
  have d1 : (w1.setCell ⟨g, 0, none⟩ k).cell? ⟨g, 1, none⟩ = some x1 := (World.cell?_setCell_other _ _ _ _ ne).trans b1
  refine ⟨⟨(World.cell?_setCell_other _ _ _ _ ne.symm).trans (World.cell?_setCell_same _ _ _ b0), World.cell?_setCell_same _ _ _ d1⟩, by simp [W4, World.setCell], fun h hne => (Below.heap_setCell _ _ _ h hne).trans (Below.heap_setCell _ _ _ h hne), fun B a hb hg => (hb.setCell (p := ⟨g, 0, none⟩) hg k).setCell (p := ⟨g, 1, none⟩) hg l⟩
end Go.Proofs.YthmfncklepkddabDoor

namespace Go.Proofs.YthmfncklepkddabDoor
open Go.RowKit

/-- An automaton, as its fields tell it. -/
structure Dx where
  acc : List Bool
  nxt : List (List Int)
def zeroD : Dx := ⟨[], []⟩
def DfaV (w : World) (S : Nat → Prop) (va vn : Value) (d : Dx) : Prop := RowV w S va (bools d.acc) ∧ RowVV w S vn (intss d.nxt)
theorem DfaV.mono {w w' : World} {S S' : Nat → Prop} {va vn : Value} {d : Dx} (h : DfaV w S va vn d) (hs : ∀ g, S g → w'.heap[g]? = w.heap[g]?) (hS : ∀ g, S g → S' g) : DfaV w' S' va vn d := ⟨h.1.mono hs hS, h.2.mono hs hS⟩
theorem DfaV.kept {w w' : World} {S : Nat → Prop} {va vn : Value} {d : Dx} (h : DfaV w S va vn d) (hb : Below w.heap.size w w') : DfaV w' S va vn d := ⟨h.1.kept hb, h.2.kept hb⟩
theorem DfaV.shape {w : World} {S : Nat → Prop} {va vn : Value} {d : Dx} (h : DfaV w S va vn d) : (∃ A c, va = .slice A d.acc.length c) ∧ ∃ A c, vn = .slice A d.nxt.length c := by
  obtain ⟨A, c, e⟩ := h.1.shape
  obtain ⟨A', c', e'⟩ := h.2.shape.2
  rw [bools_length] at e
  rw [intss_length] at e'
  exact ⟨⟨A, c, e⟩, A', c', e'⟩
/-- .. of the call's own. -/
def DfaO (w : World) (S : Nat → Prop) (va vn : Value) (d : Dx) : Prop :=
  ∃ Sa Sn : Nat → Prop, RowO w Sa va (bools d.acc) ∧ RowOO w Sn vn (intss d.nxt) ∧ (∀ g, Sa g → S g ∧ ¬ Sn g) ∧ ∀ g, Sn g → S g
theorem DfaO.dfa {w : World} {S : Nat → Prop} {va vn : Value} {d : Dx} (h : DfaO w S va vn d) : DfaV w S va vn d := by
  obtain ⟨Sa, Sn, h1, h2, h3, h4⟩ := h
  exact ⟨h1.row.mono (fun _ _ => rfl) (fun g hg => (h3 g hg).1), h2.rows.mono (fun _ _ => rfl) h4⟩
theorem DfaO.mono {w w' : World} {S S' : Nat → Prop} {va vn : Value} {d : Dx} (h : DfaO w S va vn d) (hs : ∀ g, S g → w'.heap[g]? = w.heap[g]?) (hS : ∀ g, S g → S' g) (hz : w.heap.size ≤ w'.heap.size) : DfaO w' S' va vn d := by
  obtain ⟨Sa, Sn, h1, h2, h3, h4⟩ := h
  exact ⟨Sa, Sn, h1.mono (fun g hg => hs g (h3 g hg).1) (fun _ h => h), h2.mono (fun g hg => hs g (h4 g hg)) (fun _ h => h) hz, fun g hg => ⟨hS g (h3 g hg).1, (h3 g hg).2⟩, fun g hg => hS g (h4 g hg)⟩
theorem DfaO.zero (w : World) (S : Nat → Prop) : DfaO w S (.slice none 0 0) (.slice none 0 0) zeroD :=
  ⟨fun _ => False, fun _ => False, RowO.nil _ _ _ _, RowOO.nil _ _ _ _, fun _ h => h.elim, fun _ h => h.elim⟩
def wtD (d : Dx) : Nat := d.acc.length + (d.nxt.length + totR d.nxt)

/-- A copy of its own. -/
def CopyD (d : Dx) (w : World) (e : Ending) (w' : World) : Prop := ∃ va vn, e = .returned (.agg #[va, vn]) ∧ DfaO w' (OwnB w w') va vn d ∧ Below w.heap.size w w'
theorem CopyD.shape {d : Dx} {w w' : World} {e : Ending} (h : CopyD d w e w') : ∃ A c A' c', e = .returned (.agg #[.slice A d.acc.length c, .slice A' d.nxt.length c']) ∧ DfaO w' (OwnB w w') (.slice A d.acc.length c) (.slice A' d.nxt.length c') d ∧ Below w.heap.size w w' := by
  obtain ⟨va, vn, rfl, ho, hb⟩ := h
  obtain ⟨⟨A, c, rfl⟩, A', c', rfl⟩ := ho.dfa.shape
  exact ⟨A, c, A', c', rfl, ho, hb⟩
theorem three2 (w : World) (o1 : Obj) (x y : Value) (t : TypeId) : ((w.alloc o1).alloc (.cells #[x, y] t)).heap[w.heap.size + 1]? = some (.cells #[x, y] t (0, 0)) := by
  have h := heap_alloc_new (w.alloc o1) (.cells #[x, y] t)
  rw [World.size_alloc] at h
  exact h
/-- The result's cells are written: what is beneath lies as it lay. -/
theorem toD_end {w W3 w1 w2 : World} {d : Dx} {va vn x0 x1 : Value} (hz : W3.heap.size = w.heap.size + 1 + 1 + 1) (hb : Below w.heap.size w W3) (hb1 : Below W3.heap.size W3 w1) (ha : RowO w1 (OwnB W3 w1) va (bools d.acc))
    (hb2 : Below w1.heap.size (w1.setCell ⟨w.heap.size + 1 + 1, 0, none⟩ va) w2) (hn : RowOO w2 (OwnB w1 w2) vn (intss d.nxt))
    (b0 : w2.cell? ⟨w.heap.size + 1, 0, none⟩ = some x0) (b1 : w2.cell? ⟨w.heap.size + 1, 1, none⟩ = some x1) :
    let W4 := ((w2.setCell ⟨w.heap.size + 1 + 1, 1, none⟩ vn).setCell ⟨w.heap.size + 1, 0, none⟩ va).setCell ⟨w.heap.size + 1, 1, none⟩ vn
    (W4.cell? ⟨w.heap.size + 1, 0, none⟩ = some va ∧ W4.cell? ⟨w.heap.size + 1, 1, none⟩ = some vn) ∧ CopyD d w (.returned (.agg #[va, vn])) W4 := by
  intro W4
  have hne : (w.heap.size + 1 : Nat) ≠ w.heap.size + 1 + 1 := by omega
  have d0 := (World.cell?_of_block (a := ⟨w.heap.size + 1, 0, none⟩) (Below.heap_setCell w2 ⟨w.heap.size + 1 + 1, 1, none⟩ vn _ hne)).trans b0
  have d1 := (World.cell?_of_block (a := ⟨w.heap.size + 1, 1, none⟩) (Below.heap_setCell w2 ⟨w.heap.size + 1 + 1, 1, none⟩ vn _ hne)).trans b1
  obtain ⟨hcl, hsz, hot, -⟩ := put2 (k := va) (l := vn) d0 d1
  have hs2 : (w2.setCell ⟨w.heap.size + 1 + 1, 1, none⟩ vn).heap.size = w2.heap.size := by simp [World.setCell]
  have hs1 : (w1.setCell ⟨w.heap.size + 1 + 1, 0, none⟩ va).heap.size = w1.heap.size := by simp [World.setCell]
  have hs4 : W4.heap.size = w2.heap.size := hsz.trans hs2
  have hz1 := hb1.size
  have hz2 := hb2.size
  rw [hs1] at hz2
  have hold : ∀ g, g ≠ w.heap.size + 1 → g ≠ w.heap.size + 1 + 1 → W4.heap[g]? = w2.heap[g]? := fun g h1 h2 => (hot g h1).trans (Below.heap_setCell w2 ⟨w.heap.size + 1 + 1, 1, none⟩ vn g h2)
  have hold1 : ∀ g, g < w1.heap.size → g ≠ w.heap.size + 1 + 1 → w2.heap[g]? = w1.heap[g]? := fun g h1 h2 => (hb2.block g h1).trans (Below.heap_setCell w1 ⟨w.heap.size + 1 + 1, 0, none⟩ va g h2)
  refine ⟨hcl, va, vn, rfl, ⟨OwnB W3 w1, OwnB w1 w2, ha.mono (fun g hg => ?_) (fun _ h => h), hn.mono (fun g hg => ?_) (fun _ h => h) (by rw [hs4]; exact Nat.le_refl _), fun g hg => ?_, fun g hg => ?_⟩, ?_⟩
  · have h1 := hg.1
    have h2 := hg.2
    exact (hold g (by omega) (by omega)).trans (hold1 g h2 (by omega))
  · have h1 := hg.1
    exact hold g (by omega) (by omega)
  · have h1 := hg.1
    have h2 := hg.2
    exact ⟨⟨by omega, by rw [hs4]; omega⟩, fun h => by have := h.1; omega⟩
  · have h1 := hg.1
    have h2 := hg.2
    exact ⟨by omega, by rw [hs4]; omega⟩
  · have q := (hb.trans (hb1.mono (by omega))).setCell (p := ⟨w.heap.size + 1 + 1, 0, none⟩) (by simp; omega) va
    have q2 := q.trans (hb2.mono (by omega))
    exact ((q2.setCell (p := ⟨w.heap.size + 1 + 1, 1, none⟩) (by simp; omega) vn).setCell (p := ⟨w.heap.size + 1, 0, none⟩) (by simp) va).setCell (p := ⟨w.heap.size + 1, 1, none⟩) (by simp) vn

set_option maxRecDepth 100000 in
set_option maxHeartbeats 800000 in
theorem eqDfa_any (va vn va' vn' : Value) (d : Dx) (S S' : Nat → Prop) (w : World) (h : DfaV w S va vn d) (h' : DfaV w S' va' vn' d) :
    Calls Tryd.prog 9 #[.agg #[va, vn], .agg #[va', vn']] w fun e w' => e = .returned (.bool true) ∧ Below w.heap.size w w' := by
  obtain ⟨⟨A, c, rfl⟩, A', c', rfl⟩ := h.shape
  obtain ⟨⟨B, e, rfl⟩, B', e', rfl⟩ := h'.shape
  have hB1 := (Below.refl w.heap.size w).alloc (Nat.le_refl _) (.cells #[.slice A d.acc.length c, .slice A' d.nxt.length c'] 28)
  have HB0 := Lib.hid (hB1.alloc hB1.size (.cells #[.slice B d.acc.length e, .slice B' d.nxt.length e'] 28))
  have HA := Lib.hid (fun (V : World) (hV : Below w.heap.size w V) => eqBoolS_b _ _ d.acc S S' V (h.1.kept hV) (h'.1.kept hV))
  have HN := Lib.hid (fun (V : World) (hV : Below w.heap.size w V) => eqIntSS_any _ _ d.nxt S S' V (h.2.kept hV) (h'.2.kept hV))
  clear h h' hB1
  go_enter Tryd.func9, Tryd.ntmps9
  go_wp2_with fail
  refine (HA.out _ HB0.out).mono ?_
  rintro e1 w1 ⟨rfl, hb1⟩
  have hb1' : Below (w.heap.size + 1 + 1) ((w.alloc (.cells #[.slice A d.acc.length c, .slice A' d.nxt.length c'] 28)).alloc (.cells #[.slice B d.acc.length e, .slice B' d.nxt.length e'] 28)) w1 := by simpa using hb1
  have hb2' : Below (w.heap.size + 1) (w.alloc (.cells #[.slice A d.acc.length c, .slice A' d.nxt.length c'] 28)) w1 := ((Below.refl _ _).alloc (by simp) (.cells #[.slice B d.acc.length e, .slice B' d.nxt.length e'] 28)).trans (hb1'.mono (Nat.le_succ _))
  obtain ⟨-, c0, c1, -⟩ := box2_kept hb2'
  have hb3' : Below ((w.alloc (.cells #[.slice A d.acc.length c, .slice A' d.nxt.length c'] 28)).heap.size + 1) ((w.alloc (.cells #[.slice A d.acc.length c, .slice A' d.nxt.length c'] 28)).alloc (.cells #[.slice B d.acc.length e, .slice B' d.nxt.length e'] 28)) w1 := by rw [World.size_alloc]; exact hb1'
  obtain ⟨-, d0, d1, -⟩ := box2_kept hb3'
  rw [World.size_alloc] at d0 d1
  have HW1 := Lib.hid (HB0.out.trans (hb1'.mono (by omega)))
  clear hb1 hb1' hb2' hb3'
  go_wp2_with fail
  refine (HN.out _ HW1.out).mono ?_
  rintro e2 w2 ⟨rfl, hb2⟩
  have HW2 := Lib.hid (HW1.out.trans (hb2.mono HW1.out.size))
  clear hb2
  go_wp2_with fail
  go_ret
  exact ⟨rfl, HW2.out⟩

/-- The marks of an automaton. -/
def markD (k : Nat) (d : Dx) : Dx := ⟨boolMark k d.acc.length, marksR (k + d.acc.length) d.nxt⟩
def lenD (d : Dx) : Nat := d.acc.length + totR d.nxt
theorem lenD_le (d : Dx) : lenD d ≤ wtD d := by unfold lenD wtD; omega

set_option maxRecDepth 100000 in
set_option maxHeartbeats 1600000 in
theorem markDfa_any (k0 : Nat) (va vn : Value) (d : Dx) (S : Nat → Prop) (w : World) (h : DfaO w S va vn d) (hS : ∀ g, S g → g < w.heap.size) (hn : wtD d ≤ 1048576) (hk : k0 ≤ 4194304) :
    Calls Tryd.prog 13 #[.agg #[va, vn], .int .i64 (k0 : Int)] w fun e w' => e = .returned (.int .i64 ((k0 + lenD d : Nat) : Int)) ∧ DfaO w' S va vn (markD k0 d) ∧ Chg S w w' := by
  unfold wtD at hn
  obtain ⟨⟨A, c, hA⟩, A', c', hA'⟩ := h.dfa.shape
  subst hA
  subst hA'
  obtain ⟨Sa, Sn, ha, hr, hdis, hsub⟩ := h
  have HC0 := Lib.hid ((Chg.refl S w).below ((Below.refl w.heap.size w).alloc (Nat.le_refl _) (.cells #[.slice A d.acc.length c, .slice A' d.nxt.length c'] 28)))
  have HA := Lib.hid (markBoolS_any k0 _ d.acc Sa (w.alloc (.cells #[.slice A d.acc.length c, .slice A' d.nxt.length c'] 28)) (ha.mono (fun g hg => Below.heap_alloc w _ g (hS g (hdis g hg).1)) (fun _ h => h)) (by omega) (by omega))
  have HN := Lib.hid (fun (V : World) (hV : ∀ g, Sn g → V.heap[g]? = w.heap[g]?) (hz : w.heap.size ≤ V.heap.size) => markIntSS_any (k0 + d.acc.length) _ d.nxt Sn V (hr.mono hV (fun _ h => h) hz) (by omega) (by omega))
  have HD := Lib.hid hdis
  have HU := Lib.hid hsub
  have HSL := Lib.hid hS
  clear ha hr hdis hsub hS
  obtain ⟨y, hy⟩ : ∃ y, y = k0 + d.acc.length := ⟨_, rfl⟩
  have hR : k0 + lenD d = y + totR d.nxt := by unfold lenD; omega
  rw [hR]
  rw [← hy] at HA HN
  have HY := Lib.hid hy
  clear hy hR
  go_enter Tryd.func13, Tryd.ntmps13
  go_wp2_with fail
  refine HA.out.mono ?_
  rintro e w1 ⟨rfl, hs1, hc1, hz1⟩
  rw [World.size_alloc] at hz1
  have k0' : w1.heap[w.heap.size]? = some (.cells #[.slice A d.acc.length c, .slice A' d.nxt.length c'] 28) := (hc1.block w.heap.size (by simp) (fun h => by have := HSL.out _ (HD.out _ h).1; omega)).trans (heap_alloc_new w _)
  have c0 := (cell_of_row w1 _ 0 _ _ (0, 0) k0').trans (rfl : _ = some (Value.slice A d.acc.length c))
  have c1 := (cell_of_row w1 _ 1 _ _ (0, 0) k0').trans (rfl : _ = some (Value.slice A' d.nxt.length c'))
  have HC1 := Lib.hid (HC0.out.trans (hc1.more (fun g hg => (HD.out g hg).1)))
  have HS1 := Lib.hid hs1
  have HV : Hid (∀ g, Sn g → w1.heap[g]? = w.heap[g]?) := Lib.hid (fun g hg => by
    have hlt := HSL.out g (HU.out g hg)
    exact (hc1.block g (by simp; omega) (fun h => (HD.out g h).2 hg)).trans (Below.heap_alloc w _ g hlt))
  clear hs1 hc1 k0'
  go_wp2_with fail
  refine (HN.out w1 HV.out (by omega)).mono ?_
  rintro e w2 ⟨rfl, hs2, hc2, hz2⟩
  have HC2 := Lib.hid (HC1.out.trans (hc2.more HU.out))
  have HR : Hid (DfaO w2 S (.slice A d.acc.length c) (.slice A' d.nxt.length c') (markD k0 d)) := Lib.hid ⟨Sa, Sn, HS1.out.mono (fun g hg => hc2.block g (by have := HSL.out g (HD.out g hg).1; omega) (HD.out g hg).2) (fun _ h => h), by rw [HY.out] at hs2; exact hs2, HD.out, HU.out⟩
  clear hs2 hc2
  go_wp2_with fail
  go_ret
  exact ⟨rfl, HR.out, HC2.out⟩

end Go.Proofs.YthmfncklepkddabDoor

namespace Go.Proofs.YthmfncklepkddabDoor
open Go.RowKit

theorem DfaO.kept {w w' : World} {S : Nat → Prop} {va vn : Value} {d : Dx} (h : DfaO w S va vn d) (hS : ∀ g, S g → g < w.heap.size) (hb : Below w.heap.size w w') : DfaO w' S va vn d :=
  h.mono (fun g hg => hb.block g (hS g hg)) (fun _ h => h) hb.size
theorem DfaO.chg {w w' : World} {S S' : Nat → Prop} {va vn : Value} {d : Dx} (h : DfaO w S va vn d) (hS : ∀ g, S g → g < w.heap.size) (hc : Chg S' w w') (hn : ∀ g, S g → ¬ S' g) : DfaO w' S va vn d :=
  h.mono (fun g hg => hc.block g (hS g hg) (hn g hg)) (fun _ h => h) hc.size
/-- A copy and a truth value. -/
def CopyDB (d : Dx) (b : Bool) (w : World) (e : Ending) (w' : World) : Prop := ∃ va vn, e = .returned (.tuple #[.agg #[va, vn], .bool b]) ∧ DfaO w' (OwnB w w') va vn d ∧ Below w.heap.size w w'
theorem CopyDB.shape {d : Dx} {b : Bool} {w w' : World} {e : Ending} (h : CopyDB d b w e w') : ∃ A c A' c', e = .returned (.tuple #[.agg #[.slice A d.acc.length c, .slice A' d.nxt.length c'], .bool b]) ∧ DfaO w' (OwnB w w') (.slice A d.acc.length c) (.slice A' d.nxt.length c') d ∧ Below w.heap.size w w' := by
  obtain ⟨va, vn, rfl, ho, hb⟩ := h
  obtain ⟨⟨A, c, rfl⟩, A', c', rfl⟩ := ho.dfa.shape
  exact ⟨A, c, A', c', rfl, ho, hb⟩

/-! A box that is laid while three calls go on, and filled at their end. -/
theorem box2_facts {V : World} {b : Nat} {x y : Value} {T : TypeId} (h : V.heap[b]? = some (.cells #[x, y] T (0, 0))) :
    V.cell? ⟨b, 0, none⟩ = some x ∧ V.cell? ⟨b, 1, none⟩ = some y ∧ V.frozen? ⟨b, 0, none⟩ = false ∧ V.frozen? ⟨b, 1, none⟩ = false :=
  ⟨(cell_of_row V _ 0 _ _ (0, 0) h).trans rfl, (cell_of_row V _ 1 _ _ (0, 0) h).trans rfl, frozen_of_row V _ 0 _ _ h, frozen_of_row V _ 1 _ _ h⟩
theorem blk_lt {V : World} {b : Nat} {o : Obj} (h : V.heap[b]? = some o) : b < V.heap.size := (Array.getElem?_eq_some_iff.1 h).1
def OwnX (w w' : World) (b g : Nat) : Prop := w.heap.size ≤ g ∧ g < w'.heap.size ∧ g ≠ b
def MidX (cur wc : World) (b : Nat) (x y : Value) (d : Dx) : Prop := Bx2 wc b x y ∧ DfaO wc (OwnX cur wc b) x y d ∧ cur.heap.size ≤ b ∧ b < wc.heap.size ∧ Below cur.heap.size cur wc
theorem midX_new {cur wx wb : World} {x y : Value} {d : Dx} {T : TypeId} (hcx : cur.heap.size ≤ wx.heap.size) (ho : DfaO wb (OwnB wx wb) x y d) (hb : Below cur.heap.size cur wb) : MidX cur (wb.alloc (.cells #[x, y] T)) wb.heap.size x y d := by
  have k := box2_kept (w := wb) (a := x) (b := y) (t := T) (Below.refl _ _)
  refine ⟨⟨k.2.1, k.2.2.1⟩, ho.mono (fun g hg => Below.heap_alloc _ _ g hg.2) (fun g hg => ⟨Nat.le_trans hcx hg.1, by have := hg.2; simp; omega, by have := hg.2; omega⟩) (by simp), hb.size, by simp, hb.alloc hb.size _⟩
theorem midX_set {cur wx wb : World} {b : Nat} {x y x0 y0 : Value} {d : Dx} {T : TypeId} (hcx : cur.heap.size ≤ wx.heap.size) (ho : DfaO wb (OwnB wx wb) x y d) (hb : Below cur.heap.size cur wb) (kb : wb.heap[b]? = some (.cells #[x0, y0] T (0, 0))) (hbx : b < wx.heap.size) (hcb : cur.heap.size ≤ b) :
    MidX cur ((wb.setCell ⟨b, 0, none⟩ x).setCell ⟨b, 1, none⟩ y) b x y d := by
  obtain ⟨c0, c1, -, -⟩ := box2_facts kb
  obtain ⟨hcl, hsz, hot, hB⟩ := put2 (k := x) (l := y) c0 c1
  have hlt := blk_lt kb
  refine ⟨hcl, ho.mono (fun g hg => hot g (by have := hg.1; omega)) (fun g hg => ⟨Nat.le_trans hcx hg.1, by rw [hsz]; exact hg.2, by have := hg.1; omega⟩) (by rw [hsz]; exact Nat.le_refl _), hcb, by rw [hsz]; exact hlt, hB _ _ hb hcb⟩
end Go.Proofs.YthmfncklepkddabDoor
