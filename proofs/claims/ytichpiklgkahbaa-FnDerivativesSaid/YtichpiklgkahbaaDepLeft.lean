/-
  What spec.l3Depth answers: the depth.
  What spec.l3Left answers: what is left when a tree's nodes are taken from a number.
-/
import Derived.Test.YtichpiklgkahbaaForest
import Derived.Outline
namespace Go.Proofs.Ytichpiklgkahbaa
open Go.RowKit

/-- The deepest of the first j, and of all. -/
def deepest (L : List (Int × ByteArray × Fr)) : Nat := L.foldr (fun x n => max (x.2.2.depth + 1) n) 0
theorem depth_items : ∀ f : Fr, f.depth = deepest f.items
  | .nil => rfl
  | .cons _ _ a r => by
    simp only [Fr.depth, Fr.items, deepest, List.foldr_cons]
    rw [depth_items r]
    rfl
theorem deepest_snoc : ∀ (L : List (Int × ByteArray × Fr)) (x : Int × ByteArray × Fr), deepest (L ++ [x]) = max (deepest L) (x.2.2.depth + 1)
  | [], x => by simp [deepest]
  | y :: r, x => by
    have := deepest_snoc r x
    simp only [deepest, List.cons_append, List.foldr_cons] at this ⊢
    rw [this]
    omega

theorem l1Max_any (x y : Nat) (w : World) : Calls Try.prog 70 #[.int .i64 x, .int .i64 y] w fun e w' => e = .returned (.int .i64 ((max x y : Nat) : Int)) ∧ w = w' := by
  by_cases h : y < x
  · have e : max x y = x := by omega
    have HE := Lib.hid e
    clear e
    go_enter Try.func70, Try.ntmps70
    go_wp2
    go_ret
    exact ⟨congrArg (fun z : Nat => Ending.returned (.int .i64 (z : Int))) HE.out.symm, rfl⟩
  · have e : max x y = y := by omega
    have HE := Lib.hid e
    clear e
    go_enter Try.func70, Try.ntmps70
    go_wp2
    go_ret
    exact ⟨congrArg (fun z : Nat => Ending.returned (.int .i64 (z : Int))) HE.out.symm, rfl⟩

theorem depth_le : ∀ f : Fr, f.depth ≤ f.size
  | .nil => Nat.le_refl _
  | .cons _ _ a r => by
    have := depth_le a
    have := depth_le r
    simp only [Fr.depth, Fr.size]
    omega
theorem deepest_take : ∀ (L : List (Int × ByteArray × Fr)) (j : Nat), deepest (L.take j) ≤ deepest L
  | _, 0 => Nat.zero_le _
  | [], _ + 1 => Nat.le_refl _
  | x :: r, j + 1 => by
    have := deepest_take r j
    simp only [deepest, List.take_succ_cons, List.foldr_cons] at this ⊢
    omega
theorem deepest_le (f : Fr) (j : Nat) : deepest (f.items.take j) ≤ f.size := by
  have h1 := deepest_take f.items j
  rw [← depth_items] at h1
  exact Nat.le_trans h1 (depth_le f)
theorem deepest_step {f : Fr} {j : Nat} {k : Int} {l : ByteArray} {a : Fr} (h : f.items[j]? = some (k, l, a)) : deepest (f.items.take (j + 1)) = max (deepest (f.items.take j)) (a.depth + 1) := by
  have hlt := (List.getElem?_eq_some_iff.1 h).1
  rw [List.take_succ_eq_append_getElem hlt, deepest_snoc]
  rw [(List.getElem?_eq_some_iff.1 h).2]

set_option maxHeartbeats 800000 in
theorem specDepth_any (n : Nat) : ∀ (B : Nat) (k : Int) (l : ByteArray) (u : Value) (a : Fr) (w : World), Sl w B n u a → B ≤ w.heap.size → a.size ≤ 2097152 →
    Calls Try.prog 41 #[.agg #[.int .i64 k, .string l, u]] w fun e w' => e = .returned (.int .i64 ((a.depth + 1 : Nat) : Int)) ∧ Below w.heap.size w w' := by
  induction n with
  | zero => intro B k l u a w h; exact h.zero.elim
  | succ n ih =>
    intro B k l u a w hS hB hsz
    obtain ⟨hl, A, c, rfl, hE⟩ := hS.open
    have HE := Lib.hid hE
    clear hE hS
    go_enter Try.func41, Try.ntmps41
    go_wp2_with fail
    go_loopw [3, 4] (fun m i wr => ∃ j : Nat, i = .int .i64 j ∧ m = .int .i64 (deepest (a.items.take j) : Nat) ∧ j ≤ a.items.length ∧ Below (w.heap.size + 1) (w.alloc (.cells #[.int .i64 k, .string l, .slice A a.items.length c] 26)) wr) (fun _ i _ => a.items.length - (intOf i).toNat)
    case atStart => exact ⟨0, rfl, rfl, Nat.zero_le _, Below.refl _ _⟩
    case round =>
      obtain ⟨j, rfl, rfl, hj, hb⟩ := hrel
      have hbox := (hb.cell (p := ⟨w.heap.size, 2, none⟩) (Nat.lt_succ_self _)).trans (show _ = some (.slice A a.items.length c) by simp)
      have hwz : w.heap.size + 1 ≤ wr.heap.size := by have := hb.size; simpa using this
      have HB := Lib.hid hb
      clear hb
      by_cases hlt : j < a.items.length
      · obtain ⟨g, o, rfl, hg, k', l', a', u, hx, hls, he, h4⟩ := HE.out j hlt
        have hw : Below w.heap.size w wr := ((Below.refl _ w).alloc (Nat.le_refl _) _).trans (HB.out.mono (Nat.le_succ _))
        obtain ⟨hc0, hc1, hc2⟩ := he.below hw (Nat.lt_of_lt_of_le hg hB)
        have hsa := Fr.size_item hx
        have HX := Lib.hid hx
        have HI := Lib.hid (fun w1 (hw1 : w.heap.size ≤ w1.heap.size) (hb1 : Below w.heap.size w w1) => ih B k' l' u a' w1 (h4.mono (hb1.mono hB) (Nat.le_refl _)) (by omega) (by omega))
        have HW := Lib.hid hw
        clear he h4 hx hw
        have hd1 := deepest_le a j
        have hd2 := deepest_le a (j + 1)
        have hd3 := depth_le a'
        go_wp2_with fail
        refine (HI.out wr (by omega) HW.out).mono ?_
        rintro e w1 ⟨rfl, hb1⟩
        have HB1 := Lib.hid (HB.out.trans (hb1.mono hwz))
        clear hb1
        go_wp2_with fail
        refine (l1Max_any _ _ _).mono ?_
        rintro e w' ⟨rfl, rfl⟩
        have HT := Lib.hid (deepest_step HX.out)
        go_wp2_with fail
        go_roundw
        case rel => exact ⟨j + 1, by go_num, congrArg (fun z : Nat => Value.int .i64 (z : Int)) HT.out.symm, by omega, HB1.out⟩
        case measure => simp [intOf]; omega
      · obtain rfl : j = a.items.length := by omega
        have hd : deepest a.items ≤ a.size := by rw [← depth_items]; exact depth_le a
        have HW := Lib.hid (((Below.refl _ w).alloc (Nat.le_refl _) _).trans (HB.out.mono (Nat.le_succ _)))
        go_wp2_with fail
        go_ret
        exact ⟨by rw [depth_items]; rfl, HW.out⟩
end Go.Proofs.Ytichpiklgkahbaa

namespace Go.Proofs.Ytichpiklgkahbaa
open Go.RowKit

/-- What is left of z behind the nodes of a row; it stops where it is below 0. -/
def leftRow : Fr → Int → Int
  | .nil, z => z
  | .cons _ _ a r, z => if z < 0 then z else leftRow r (leftRow a (z - 1))
def leftL : List (Int × ByteArray × Fr) → Int → Int
  | [], z => z
  | x :: r, z => if z < 0 then z else leftL r (leftRow x.2.2 (z - 1))
theorem left_items : ∀ (f : Fr) (z : Int), leftRow f z = leftL f.items z
  | .nil, _ => rfl
  | .cons _ _ a r, z => by
    simp only [leftRow, Fr.items, leftL]
    rw [left_items r]
theorem leftRow_le : ∀ (f : Fr) (z : Int), -1 ≤ z → -1 ≤ leftRow f z ∧ leftRow f z ≤ z
  | .nil, z, h => ⟨h, Int.le_refl _⟩
  | .cons _ _ a r, z, h => by
    simp only [leftRow]
    by_cases hz : z < 0
    · rw [if_pos hz]; exact ⟨h, Int.le_refl _⟩
    · rw [if_neg hz]
      have h1 := leftRow_le a (z - 1) (by omega)
      have h2 := leftRow_le r (leftRow a (z - 1)) h1.1
      omega
theorem leftL_neg (L : List (Int × ByteArray × Fr)) (z : Int) (h : z < 0) : leftL L z = z := by
  cases L with
  | nil => rfl
  | cons x r => simp only [leftL]; rw [if_pos h]
theorem leftL_step {f : Fr} {j : Nat} {k : Int} {l : ByteArray} {a : Fr} (h : f.items[j]? = some (k, l, a)) (z : Int) (hz : ¬ z < 0) : leftL (f.items.drop j) z = leftL (f.items.drop (j + 1)) (leftRow a (z - 1)) := by
  have hlt := (List.getElem?_eq_some_iff.1 h).1
  rw [List.drop_eq_getElem_cons hlt, leftL, if_neg hz, (List.getElem?_eq_some_iff.1 h).2]

set_option maxHeartbeats 800000 in
theorem specLeft_any (n : Nat) : ∀ (B : Nat) (k : Int) (l : ByteArray) (u : Value) (a : Fr) (z : Int) (w : World), Sl w B n u a → B ≤ w.heap.size → 0 ≤ z → z ≤ 1000000 →
    Calls Try.prog 40 #[.agg #[.int .i64 k, .string l, u], .int .i64 z] w fun e w' => e = .returned (.int .i64 (leftRow a (z - 1))) ∧ Below w.heap.size w w' := by
  induction n with
  | zero => intro B k l u a z w h; exact h.zero.elim
  | succ n ih =>
    intro B k l u a z w hS hB hz0 hz1
    obtain ⟨hl, A, c, rfl, hE⟩ := hS.open
    have HE := Lib.hid hE
    clear hE hS
    go_enter Try.func40, Try.ntmps40
    go_wp2_with fail
    go_loopw [1, 5] (fun m i wr => ∃ (j : Nat) (y : Int), i = .int .i64 j ∧ m = .int .i64 y ∧ -1 ≤ y ∧ y ≤ 1000000 ∧ leftL (a.items.drop j) y = leftRow a (z - 1) ∧ j ≤ a.items.length ∧ Below (w.heap.size + 1) (w.alloc (.cells #[.int .i64 k, .string l, .slice A a.items.length c] 26)) wr) (fun _ i _ => a.items.length - (intOf i).toNat)
    case atStart => exact ⟨0, z - 1, rfl, rfl, by omega, by omega, by rw [left_items]; rfl, Nat.zero_le _, Below.refl _ _⟩
    case round =>
      obtain ⟨j, y, rfl, rfl, hy0, hy1, hy, hj, hb⟩ := hrel
      have HY := Lib.hid hy
      have hbox := (hb.cell (p := ⟨w.heap.size, 2, none⟩) (Nat.lt_succ_self _)).trans (show _ = some (.slice A a.items.length c) by simp)
      have hwz : w.heap.size + 1 ≤ wr.heap.size := by have := hb.size; simpa using this
      have HB := Lib.hid hb
      have HW := Lib.hid (((Below.refl _ w).alloc (Nat.le_refl _) _).trans (hb.mono (Nat.le_succ _)))
      clear hb hy
      by_cases hlt : j < a.items.length
      · by_cases hneg : y < 0
        · have HN : Hid (y = leftRow a (z - 1)) := Lib.hid (by rw [← HY.out, leftL_neg _ _ hneg])
          have hd : decide (0 ≤ y) = false := by simpa using hneg
          go_wp2_with fail
          go_ret
          exact ⟨congrArg (fun z : Int => Ending.returned (.int .i64 z)) HN.out, HW.out⟩
        · obtain ⟨g, o, rfl, hg, k', l', a', u, hx, hls, he, h4⟩ := HE.out j hlt
          obtain ⟨hc0, hc1, hc2⟩ := he.below HW.out (Nat.lt_of_lt_of_le hg hB)
          have HI := Lib.hid (fun w1 (hw1 : w.heap.size ≤ w1.heap.size) (hb1 : Below w.heap.size w w1) => ih B k' l' u a' y w1 (h4.mono (hb1.mono hB) (Nat.le_refl _)) (by omega) (by omega) hy1)
          have HS := Lib.hid (leftL_step hx y hneg)
          obtain ⟨q0, q1⟩ := leftRow_le a' (y - 1) (by omega)
          have hy2 : 0 ≤ y := by omega
          clear he h4 hx hneg
          go_wp2_with fail
          refine (HI.out wr (by omega) HW.out).mono ?_
          rintro e w1 ⟨rfl, hb1⟩
          have HB1 := Lib.hid (HB.out.trans (hb1.mono hwz))
          clear hb1
          go_wp2_with fail
          go_roundw
          case rel => exact ⟨j + 1, _, by go_num, rfl, q0, by omega, by rw [← HS.out]; exact HY.out, by omega, HB1.out⟩
          case measure => simp [intOf]; omega
      · have HN : Hid (y = leftRow a (z - 1)) := Lib.hid (by rw [← HY.out, List.drop_eq_nil_of_le (by omega)]; rfl)
        have hd : decide ((j : Int) < (a.items.length : Int)) = false := by simp; omega
        go_wp2_with fail
        go_ret
        exact ⟨congrArg (fun z : Int => Ending.returned (.int .i64 z)) HN.out, HW.out⟩
end Go.Proofs.Ytichpiklgkahbaa
