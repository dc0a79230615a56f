/- Texts of one proof. -/
import Derived.Test.YtiijlpmdnokjfaaGreatDoorCplZPack3
set_option maxRecDepth 100000
set_option maxHeartbeats 20000000
namespace Go.Proofs.YtiijlpmdnokjfaaGreatDoor
open Go.RowKit
def deepest (L : List (Int × ByteArray × Fr)) : Nat := L.foldr (λ x n => max (x.2.2.depth + 1) n) 0
theorem depth_items : ∀ f : Fr, f.depth = deepest f.items
  | .nil => rfl
  | .cons _ _ a r => by
    simp only [Fr.depth, Fr.items, deepest, List.foldr_cons]
    rw [depth_items r]
    rfl
theorem deepest_snoc : ∀ (L : List (Int × ByteArray × Fr)) (x : Int × ByteArray × Fr), deepest (L ++ [x]) = max (deepest L) (x.2.2.depth + 1)
  | [], x => by simp [deepest]
  | y :: r, x => by
    have := deepest_snoc r x
    simp only [deepest, List.cons_append, List.foldr_cons] at this ⊢
    rw [this]
    omega
theorem l1Max_any (x y : Nat) (w : World) : Calls Tryz.prog 94 #[.int .i64 x, .int .i64 y] w λ e w' => e = .returned (.int .i64 ((max x y : Nat) : Int)) /\ w = w' := by
  by_cases h : y < x
  . have e : max x y = x := by omega
    have HE := Lib.hid e
    clear e
    go_enter Tryz.func94, Tryz.ntmps94
    go_wp2
    go_ret
    exact ⟨congrArg (λ z : Nat => Ending.returned (.int .i64 (z : Int))) HE.out.symm, rfl⟩
  . have e : max x y = y := by omega
    have HE := Lib.hid e
    clear e
    go_enter Tryz.func94, Tryz.ntmps94
    go_wp2
    go_ret
    exact ⟨congrArg (λ z : Nat => Ending.returned (.int .i64 (z : Int))) HE.out.symm, rfl⟩
theorem depth_le : ∀ f : Fr, f.depth <= f.size
  | .nil => Nat.le_refl _
  | .cons _ _ a r => by
    have := depth_le a
    have := depth_le r
    simp only [Fr.depth, Fr.size]
    omega
theorem deepest_take : ∀ (L : List (Int × ByteArray × Fr)) (j : Nat), deepest (L.take j) <= deepest L
  | _, 0 => Nat.zero_le _
  | [], _ + 1 => Nat.le_refl _
  | x :: r, j + 1 => by
    have := deepest_take r j
    simp only [deepest, List.take_succ_cons, List.foldr_cons] at this ⊢
    omega
theorem deepest_le (f : Fr) (j : Nat) : deepest (f.items.take j) <= f.size := by
  have h1 := deepest_take f.items j
  rw [<- depth_items] at h1
  exact Nat.le_trans h1 (depth_le f)
theorem deepest_step {f : Fr} {j : Nat} {k : Int} {l : ByteArray} {a : Fr} (h : f.items[j]? = some (k, l, a)) : deepest (f.items.take (j + 1)) = max (deepest (f.items.take j)) (a.depth + 1) := by
  have hlt := (List.getElem?_eq_some_iff.1 h).1
  rw [List.take_succ_eq_append_getElem hlt, deepest_snoc]
  rw [(List.getElem?_eq_some_iff.1 h).2]
theorem specDepth_any (n : Nat) : ∀ (B : Nat) (k : Int) (l : ByteArray) (u : Value) (a : Fr) (w : World), Sl w B n u a -> B <= w.heap.size -> a.size <= 2097152 ->
    Calls Tryz.prog 48 #[.agg #[.int .i64 k, .string l, u]] w λ e w' => e = .returned (.int .i64 ((a.depth + 1 : Nat) : Int)) /\ Below w.heap.size w w' := by
  induction n with
  | zero => intro B k l u a w h; exact h.zero.elim
  | succ n ih =>
    intro B k l u a w hS hB hsz
    obtain ⟨hl, A, c, rfl, hE⟩ := hS.open
    have HE := Lib.hid hE
    clear hE hS
    go_enter Tryz.func48, Tryz.ntmps48
    go_wp2_with fail
    go_loopw [3, 4] (λ m i wr => ∃ j : Nat, i = .int .i64 j /\ m = .int .i64 (deepest (a.items.take j) : Nat) /\ j <= a.items.length /\ Below (w.heap.size + 1) (w.alloc (.cells #[.int .i64 k, .string l, .slice A a.items.length c] 26)) wr) (λ _ i _ => a.items.length - (intOf i).toNat)
    case atStart => exact ⟨0, rfl, rfl, Nat.zero_le _, Below.refl _ _⟩
    case round =>
      obtain ⟨j, rfl, rfl, hj, hb⟩ := hrel
      have hbox := (hb.cell (p := ⟨w.heap.size, 2, none⟩) (Nat.lt_succ_self _)).trans (show _ = some (.slice A a.items.length c) by simp)
      have hwz : w.heap.size + 1 <= wr.heap.size := by have := hb.size; simpa using this
      have HB := Lib.hid hb
      clear hb
      by_cases hlt : j < a.items.length
      . obtain ⟨g, o, rfl, hg, k', l', a', u, hx, hls, he, h4⟩ := HE.out j hlt
        have hw : Below w.heap.size w wr := ((Below.refl _ w).alloc (Nat.le_refl _) _).trans (HB.out.mono (Nat.le_succ _))
        obtain ⟨hc0, hc1, hc2⟩ := he.below hw (Nat.lt_of_lt_of_le hg hB)
        have hsa := Fr.size_item hx
        have HX := Lib.hid hx
        have HI := Lib.hid (λ w1 (hw1 : w.heap.size <= w1.heap.size) (hb1 : Below w.heap.size w w1) => ih B k' l' u a' w1 (h4.mono (hb1.mono hB) (Nat.le_refl _)) (by omega) (by omega))
        have HW := Lib.hid hw
        clear he h4 hx hw
        have hd1 := deepest_le a j
        have hd2 := deepest_le a (j + 1)
        have hd3 := depth_le a'
        go_wp2_with fail
        refine (HI.out wr (by omega) HW.out).mono ?_
        rintro e w1 ⟨rfl, hb1⟩
        have HB1 := Lib.hid (HB.out.trans (hb1.mono hwz))
        clear hb1
        go_wp2_with fail
        refine (l1Max_any _ _ _).mono ?_
        rintro e w' ⟨rfl, rfl⟩
        have HT := Lib.hid (deepest_step HX.out)
        go_wp2_with fail
        go_roundw
        case rel => exact ⟨j + 1, by go_num, congrArg (λ z : Nat => Value.int .i64 (z : Int)) HT.out.symm, by omega, HB1.out⟩
        case measure => simp [intOf]; omega
      . obtain rfl : j = a.items.length := by omega
        have hd : deepest a.items <= a.size := by rw [<- depth_items]; exact depth_le a
        have HW := Lib.hid (((Below.refl _ w).alloc (Nat.le_refl _) _).trans (HB.out.mono (Nat.le_succ _)))
        go_wp2_with fail
        go_ret
        exact ⟨by rw [depth_items]; rfl, HW.out⟩
end Go.Proofs.YtiijlpmdnokjfaaGreatDoor
namespace Go.Proofs.YtiijlpmdnokjfaaGreatDoor
open Go.RowKit
def leftRow : Fr -> Int -> Int
  | .nil, z => z
  | .cons _ _ a r, z => if z < 0 then z else leftRow r (leftRow a (z - 1))
def leftL : List (Int × ByteArray × Fr) -> Int -> Int
  | [], z => z
  | x :: r, z => if z < 0 then z else leftL r (leftRow x.2.2 (z - 1))
theorem left_items : ∀ (f : Fr) (z : Int), leftRow f z = leftL f.items z
  | .nil, _ => rfl
  | .cons _ _ a r, z => by
    simp only [leftRow, Fr.items, leftL]
    rw [left_items r]
theorem leftRow_le : ∀ (f : Fr) (z : Int), -1 <= z -> -1 <= leftRow f z /\ leftRow f z <= z
  | .nil, z, h => ⟨h, Int.le_refl _⟩
  | .cons _ _ a r, z, h => by
    simp only [leftRow]
    by_cases hz : z < 0
    . rw [if_pos hz]; exact ⟨h, Int.le_refl _⟩
    . rw [if_neg hz]
      have h1 := leftRow_le a (z - 1) (by omega)
      have h2 := leftRow_le r (leftRow a (z - 1)) h1.1
      omega
theorem leftL_neg (L : List (Int × ByteArray × Fr)) (z : Int) (h : z < 0) : leftL L z = z := by
  cases L with
  | nil => rfl
  | cons x r => simp only [leftL]; rw [if_pos h]
theorem leftL_step {f : Fr} {j : Nat} {k : Int} {l : ByteArray} {a : Fr} (h : f.items[j]? = some (k, l, a)) (z : Int) (hz : ¬ z < 0) : leftL (f.items.drop j) z = leftL (f.items.drop (j + 1)) (leftRow a (z - 1)) := by
  have hlt := (List.getElem?_eq_some_iff.1 h).1
  rw [List.drop_eq_getElem_cons hlt, leftL, if_neg hz, (List.getElem?_eq_some_iff.1 h).2]
theorem specLeft_any (n : Nat) : ∀ (B : Nat) (k : Int) (l : ByteArray) (u : Value) (a : Fr) (z : Int) (w : World), Sl w B n u a -> B <= w.heap.size -> 0 <= z -> z <= 1000000 ->
    Calls Tryz.prog 47 #[.agg #[.int .i64 k, .string l, u], .int .i64 z] w λ e w' => e = .returned (.int .i64 (leftRow a (z - 1))) /\ Below w.heap.size w w' := by
  induction n with
  | zero => intro B k l u a z w h; exact h.zero.elim
  | succ n ih =>
    intro B k l u a z w hS hB hz0 hz1
    obtain ⟨hl, A, c, rfl, hE⟩ := hS.open
    have HE := Lib.hid hE
    clear hE hS
    go_enter Tryz.func47, Tryz.ntmps47
    go_wp2_with fail
    go_loopw [1, 5] (λ m i wr => ∃ (j : Nat) (y : Int), i = .int .i64 j /\ m = .int .i64 y /\ -1 <= y /\ y <= 1000000 /\ leftL (a.items.drop j) y = leftRow a (z - 1) /\ j <= a.items.length /\ Below (w.heap.size + 1) (w.alloc (.cells #[.int .i64 k, .string l, .slice A a.items.length c] 26)) wr) (λ _ i _ => a.items.length - (intOf i).toNat)
    case atStart => exact ⟨0, z - 1, rfl, rfl, by omega, by omega, by rw [left_items]; rfl, Nat.zero_le _, Below.refl _ _⟩
    case round =>
      obtain ⟨j, y, rfl, rfl, hy0, hy1, hy, hj, hb⟩ := hrel
      have HY := Lib.hid hy
      have hbox := (hb.cell (p := ⟨w.heap.size, 2, none⟩) (Nat.lt_succ_self _)).trans (show _ = some (.slice A a.items.length c) by simp)
      have hwz : w.heap.size + 1 <= wr.heap.size := by have := hb.size; simpa using this
      have HB := Lib.hid hb
      have HW := Lib.hid (((Below.refl _ w).alloc (Nat.le_refl _) _).trans (hb.mono (Nat.le_succ _)))
      clear hb hy
      by_cases hlt : j < a.items.length
      . by_cases hneg : y < 0
        . have HN : Hid (y = leftRow a (z - 1)) := Lib.hid (by rw [<- HY.out, leftL_neg _ _ hneg])
          have hd : decide (0 <= y) = false := by simpa using hneg
          go_wp2_with fail
          go_ret
          exact ⟨congrArg (λ z : Int => Ending.returned (.int .i64 z)) HN.out, HW.out⟩
        . obtain ⟨g, o, rfl, hg, k', l', a', u, hx, hls, he, h4⟩ := HE.out j hlt
          obtain ⟨hc0, hc1, hc2⟩ := he.below HW.out (Nat.lt_of_lt_of_le hg hB)
          have HI := Lib.hid (λ w1 (hw1 : w.heap.size <= w1.heap.size) (hb1 : Below w.heap.size w w1) => ih B k' l' u a' y w1 (h4.mono (hb1.mono hB) (Nat.le_refl _)) (by omega) (by omega) hy1)
          have HS := Lib.hid (leftL_step hx y hneg)
          obtain ⟨q0, q1⟩ := leftRow_le a' (y - 1) (by omega)
          have hy2 : 0 <= y := by omega
          clear he h4 hx hneg
          go_wp2_with fail
          refine (HI.out wr (by omega) HW.out).mono ?_
          rintro e w1 ⟨rfl, hb1⟩
          have HB1 := Lib.hid (HB.out.trans (hb1.mono hwz))
          clear hb1
          go_wp2_with fail
          go_roundw
          case rel => exact ⟨j + 1, _, by go_num, rfl, q0, by omega, by rw [<- HS.out]; exact HY.out, by omega, HB1.out⟩
          case measure => simp [intOf]; omega
      . have HN : Hid (y = leftRow a (z - 1)) := Lib.hid (by rw [<- HY.out, List.drop_eq_nil_of_le (by omega)]; rfl)
        have hd : decide ((j : Int) < (a.items.length : Int)) = false := by simp; omega
        go_wp2_with fail
        go_ret
        exact ⟨congrArg (λ z : Int => Ending.returned (.int .i64 z)) HN.out, HW.out⟩
end Go.Proofs.YtiijlpmdnokjfaaGreatDoor
namespace Go.Proofs.YtiijlpmdnokjfaaGreatDoor
open Go.RowKit
theorem specLet_any (b : UInt8) (w : World) :
    Calls Tryz.prog 36 #[.int .u8 b.toNat] w λ e w' => e = .returned (.int .i64 (letIdx b)) /\ w = w' := by
  by_cases h0 : b = 97
  . subst h0
    go_enter Tryz.func36, Tryz.ntmps36
    go_wp2
    refine wp_loop_rounds 1 ?_
    rw [rounds_succ]
    go_wp2
    go_ret
    exact ⟨rfl, rfl⟩
  . by_cases h1 : b = 98
    . subst h1
      go_enter Tryz.func36, Tryz.ntmps36
      go_wp2
      refine wp_loop_rounds 2 ?_
      rw [rounds_succ]
      go_wp2
      rw [rounds_succ]
      go_wp2
      go_ret
      exact ⟨rfl, rfl⟩
    . by_cases h2 : b = 99
      . subst h2
        go_enter Tryz.func36, Tryz.ntmps36
        go_wp2
        refine wp_loop_rounds 3 ?_
        rw [rounds_succ]
        go_wp2
        rw [rounds_succ]
        go_wp2
        rw [rounds_succ]
        go_wp2
        go_ret
        exact ⟨rfl, rfl⟩
      . have e : letIdx b = -1 := by unfold letIdx; rw [if_neg h0, if_neg h1, if_neg h2]
        have HE := Lib.hid e
        have f0 : ((((ByteArray.mk #[97, 98, 99])[0]'(by decide)).toNat : Int) == (b.toNat : Int)) = false := by
          show ((97 : Int) == (b.toNat : Int)) = false
          simp only [beq_eq_false_iff_ne, ne_eq]; intro e; exact h0 (UInt8.toNat_inj.1 (by simp; omega))
        have f1 : ((((ByteArray.mk #[97, 98, 99])[1]'(by decide)).toNat : Int) == (b.toNat : Int)) = false := by
          show ((98 : Int) == (b.toNat : Int)) = false
          simp only [beq_eq_false_iff_ne, ne_eq]; intro e; exact h1 (UInt8.toNat_inj.1 (by simp; omega))
        have f2 : ((((ByteArray.mk #[97, 98, 99])[2]'(by decide)).toNat : Int) == (b.toNat : Int)) = false := by
          show ((99 : Int) == (b.toNat : Int)) = false
          simp only [beq_eq_false_iff_ne, ne_eq]; intro e; exact h2 (UInt8.toNat_inj.1 (by simp; omega))
        clear e h0 h1 h2
        go_enter Tryz.func36, Tryz.ntmps36
        go_wp2
        refine wp_loop_rounds 4 ?_
        rw [rounds_succ]
        go_wp2
        rw [rounds_succ]
        go_wp2
        rw [rounds_succ]
        go_wp2
        rw [rounds_succ]
        go_wp2
        go_ret
        exact ⟨congrArg (λ z => Ending.returned (.int .i64 z)) HE.out.symm, rfl⟩
theorem specIsWord_any (s : ByteArray) (w : World) (hs : s.size <= maxLen) :
    Calls Tryz.prog 15 #[.string s] w λ e w' => e = .returned (.bool (isW s.data.toList)) /\ w = w' := by
  unfold maxLen at hs
  go_enter Tryz.func15, Tryz.ntmps15
  go_wp2
  go_loop [3] (λ i => ∃ k : Nat, i = .int .i64 k /\ k <= s.size /\ (s.data.toList.take k).all isLetter = true) (λ i => s.size - (intOf i).toNat)
  case atStart => exact ⟨0, rfl, Nat.zero_le _, rfl⟩
  case round =>
    obtain ⟨k, rfl, hk, hall⟩ := hrel
    have HA := Lib.hid hall
    clear hall
    by_cases hlt : k < s.size
    . cases hb : isLetter s[k] with
      | true =>
        have HN := Lib.hid (show (s.data.toList.take (k + 1)).all isLetter = true by rw [all_take_succ s k hlt, HA.out, hb]; rfl)
        obtain ⟨hl, h97, h99⟩ := letIdx_yes hb
        have hl0 : 0 <= letIdx s[k] := by omega
        clear hl hb
        go_wp2_with (go_at_call 36; refine (specLet_any _ _).mono ?_; rintro e w' ⟨rfl, rfl⟩)
        go_round
        case rel => exact ⟨k + 1, by go_num, by omega, HN.out⟩
        case measure => simp [intOf]; omega
      | false =>
        have HN := Lib.hid (isW_bad hlt hb)
        have hl := letIdx_no hb
        have hl0 : letIdx s[k] < 0 := by omega
        clear hl hb
        go_wp2_with (go_at_call 36; refine (specLet_any _ _).mono ?_; rintro e w' ⟨rfl, rfl⟩)
        go_ret
        exact ⟨congrArg (λ z => Ending.returned (.bool z)) HN.out.symm, rfl⟩
    . obtain rfl : k = s.size := by omega
      have HN := Lib.hid (isW_all HA.out)
      go_wp2
      go_ret
      exact ⟨congrArg (λ z => Ending.returned (.bool z)) HN.out.symm, rfl⟩
def argsOf (k : Int) : Int := if k = 5 \/ k = 6 \/ k = 7 then 2 else if k = 8 \/ k = 9 then 1 else 0
theorem l3Args_any (k : Int) (w : World) : Calls Tryz.prog 95 #[.int .i64 k] w λ e w' => e = .returned (.int .i64 (argsOf k)) /\ w = w' := by
  by_cases h5 : k = 5
  . subst h5
    go_enter Tryz.func95, Tryz.ntmps95
    go_wp2
    go_ret
    exact ⟨rfl, rfl⟩
  by_cases h6 : k = 6
  . subst h6
    go_enter Tryz.func95, Tryz.ntmps95
    go_wp2
    go_ret
    exact ⟨rfl, rfl⟩
  by_cases h7 : k = 7
  . subst h7
    go_enter Tryz.func95, Tryz.ntmps95
    go_wp2
    go_ret
    exact ⟨rfl, rfl⟩
  by_cases h8 : k = 8
  . subst h8
    go_enter Tryz.func95, Tryz.ntmps95
    go_wp2
    go_ret
    exact ⟨rfl, rfl⟩
  by_cases h9 : k = 9
  . subst h9
    go_enter Tryz.func95, Tryz.ntmps95
    go_wp2
    go_ret
    exact ⟨rfl, rfl⟩
  have HA : Hid (argsOf k = 0) := Lib.hid (by unfold argsOf; rw [if_neg (by omega), if_neg (by omega)])
  have e5 : (k == 5) = false := by simpa using h5
  have e6 : (k == 6) = false := by simpa using h6
  have e7 : (k == 7) = false := by simpa using h7
  have e8 : (k == 8) = false := by simpa using h8
  have e9 : (k == 9) = false := by simpa using h9
  clear h5 h6 h7 h8 h9
  go_enter Tryz.func95, Tryz.ntmps95
  go_wp2
  go_ret
  exact ⟨congrArg (λ z : Int => Ending.returned (.int .i64 z)) HA.out.symm, rfl⟩
theorem l1In_all (x lo hi : Int) (b : Bool) (w : World) (h : (decide (lo <= x) && decide (x <= hi)) = b) : Calls Tryz.prog 55 #[.int .i64 x, .int .i64 lo, .int .i64 hi] w λ e w' => e = .returned (.bool b) /\ w = w' := by
  by_cases h1 : lo <= x
  . by_cases h2 : x <= hi
    . have HB := Lib.hid h
      clear h
      go_enter Tryz.func55, Tryz.ntmps55
      go_wp2
      go_ret
      exact ⟨by rw [<- HB.out]; simp [h1, h2], rfl⟩
    . have HB := Lib.hid h
      clear h
      go_enter Tryz.func55, Tryz.ntmps55
      go_wp2
      go_ret
      exact ⟨by rw [<- HB.out]; simp [h2], rfl⟩
  . have h1' : decide (lo <= x) = false := by simpa using h1
    have HN := Lib.hid h1
    have HB := Lib.hid h
    clear h
    go_enter Tryz.func55, Tryz.ntmps55
    go_wp2
    go_ret
    exact ⟨by rw [<- HB.out]; simp; intro h; have := HN.out; omega, rfl⟩
def nodeOk (k : Int) (l : ByteArray) (m : Nat) : Bool :=
  if k = 3 then decide (l.size = 1) && isW l.data.toList && decide (m = 0) else decide (1 <= k /\ k <= 9) && decide (l.size = 0) && decide ((m : Int) = argsOf k)
def allRow : Fr -> Bool
  | .nil => true
  | .cons k l a r => allRow a && nodeOk k l a.items.length && allRow r
def okItem (x : Int × ByteArray × Fr) : Bool := allRow x.2.2 && nodeOk x.1 x.2.1 x.2.2.items.length
theorem all_items : ∀ f : Fr, allRow f = f.items.all okItem
  | .nil => rfl
  | .cons k l a r => by
    simp only [allRow, Fr.items, List.all_cons, okItem]
    rw [all_items r]
theorem all_step {f : Fr} {j : Nat} {k : Int} {l : ByteArray} {a : Fr} (h : f.items[j]? = some (k, l, a)) (hall : (f.items.take j).all okItem = true) (ho : (allRow a && nodeOk k l a.items.length) = true) : (f.items.take (j + 1)).all okItem = true := by
  have hlt := (List.getElem?_eq_some_iff.1 h).1
  rw [List.take_succ_eq_append_getElem hlt, List.all_append, hall, (List.getElem?_eq_some_iff.1 h).2]
  simpa [okItem] using ho
theorem all_bad {f : Fr} {j : Nat} {k : Int} {l : ByteArray} {a : Fr} (h : f.items[j]? = some (k, l, a)) (ho : (allRow a && nodeOk k l a.items.length) = false) : allRow f = false := by
  rw [all_items, List.all_eq_false]
  exact ⟨_, List.mem_of_getElem? h, by simp [okItem, ho]⟩
theorem bytes_nil {l : ByteArray} (h : l.size = 0) : l.toList = [] := by
  rw [ByteArray.toList_eq]
  exact List.eq_nil_of_length_eq_zero (by simpa using h)
theorem bytes_some {l : ByteArray} (h : l.size ≠ 0) : ¬ l.toList = [] := by
  rw [ByteArray.toList_eq]
  intro e
  have := congrArg List.length e
  exact h (by simpa using this)
theorem specAll_any (n : Nat) : ∀ (B : Nat) (k : Int) (l : ByteArray) (u : Value) (a : Fr) (w : World), Sl w B n u a -> B <= w.heap.size -> l.size <= 9223372036854775807 ->
    Calls Tryz.prog 49 #[.agg #[.int .i64 k, .string l, u]] w λ e w' => e = .returned (.bool (allRow a && nodeOk k l a.items.length)) /\ Below w.heap.size w w' := by
  induction n with
  | zero => intro B k l u a w h; exact h.zero.elim
  | succ n ih =>
    intro B k l u a w hS hB hls
    obtain ⟨hl, A, c, rfl, hE⟩ := hS.open
    have HE := Lib.hid hE
    clear hE hS
    go_enter Tryz.func49, Tryz.ntmps49
    go_wp2_with fail
    go_loopw [3] (λ i wr => ∃ j : Nat, i = .int .i64 j /\ (a.items.take j).all okItem = true /\ j <= a.items.length /\ Below (w.heap.size + 1) (w.alloc (.cells #[.int .i64 k, .string l, .slice A a.items.length c] 26)) wr) (λ i _ => a.items.length - (intOf i).toNat)
    case atStart => exact ⟨0, rfl, rfl, Nat.zero_le _, Below.refl _ _⟩
    case round =>
      obtain ⟨j, rfl, hall, hj, hb⟩ := hrel
      have HALL := Lib.hid hall
      have hbox := (hb.cell (p := ⟨w.heap.size, 2, none⟩) (Nat.lt_succ_self _)).trans (show _ = some (.slice A a.items.length c) by simp)
      have hbox0 := (hb.cell (p := ⟨w.heap.size, 0, none⟩) (Nat.lt_succ_self _)).trans (show _ = some (.int .i64 k) by simp)
      have hbox1 := (hb.cell (p := ⟨w.heap.size, 1, none⟩) (Nat.lt_succ_self _)).trans (show _ = some (.string l) by simp)
      have hwz : w.heap.size + 1 <= wr.heap.size := by have := hb.size; simpa using this
      have HB := Lib.hid hb
      have HW := Lib.hid (((Below.refl _ w).alloc (Nat.le_refl _) _).trans (hb.mono (Nat.le_succ _)))
      clear hb hall
      by_cases hlt : j < a.items.length
      . obtain ⟨g, o, rfl, hg, k', l', a', u, hx, hls', he, h4⟩ := HE.out j hlt
        obtain ⟨hc0, hc1, hc2⟩ := he.below HW.out (Nat.lt_of_lt_of_le hg hB)
        have HI := Lib.hid (λ w1 (hw1 : w.heap.size <= w1.heap.size) (hb1 : Below w.heap.size w w1) => ih B k' l' u a' w1 (h4.mono (hb1.mono hB) (Nat.le_refl _)) (by omega) hls')
        cases hok : (allRow a' && nodeOk k' l' a'.items.length) with
        | true =>
          rw [hok] at HI
          have HS := Lib.hid (all_step hx HALL.out hok)
          clear he h4 hx hok
          go_wp2_with fail
          refine (HI.out wr (by omega) HW.out).mono ?_
          rintro e w1 ⟨rfl, hb1⟩
          have HB1 := Lib.hid (HB.out.trans (hb1.mono hwz))
          clear hb1
          go_wp2_with fail
          go_roundw
          case rel => exact ⟨j + 1, by go_num, HS.out, by omega, HB1.out⟩
          case measure => simp [intOf]; omega
        | false =>
          rw [hok] at HI
          have HS := Lib.hid (all_bad hx hok)
          clear he h4 hx hok
          go_wp2_with fail
          refine (HI.out wr (by omega) HW.out).mono ?_
          rintro e w1 ⟨rfl, hb1⟩
          have HB1 := Lib.hid (HW.out.trans (hb1.mono (Nat.le_of_succ_le hwz)))
          clear hb1
          go_wp2_with fail
          go_ret
          exact ⟨by rw [HS.out]; rfl, HB1.out⟩
      . have HA : Hid (allRow a = true) := Lib.hid (by rw [all_items, <- HALL.out, List.take_of_length_le (by omega)])
        have hd : decide ((j : Int) < (a.items.length : Int)) = false := by simp; omega
        by_cases h3 : k = 3
        . subst h3
          have HN : ∀ b, nodeOk 3 l a.items.length = b -> Hid ((allRow a && nodeOk 3 l a.items.length) = b) := λ b h => Lib.hid (by rw [HA.out, h]; rfl)
          by_cases hs : l.size = 1
          . have e1 : ((l.size : Int) == 1) = true := by simp [hs]
            have HI := Lib.hid (λ w => specIsWord_any l w (by unfold maxLen; omega))
            cases hw : isW l.data.toList with
            | true =>
              rw [hw] at HI
              by_cases hm : a.items.length = 0
              . have e2 : ((a.items.length : Int) == 0) = true := by simp [hm]
                have HR := HN true (by simp [nodeOk, hs, hw, hm])
                clear hs hw hm HN
                go_wp2_with (go_at_call 15; refine (HI.out _).mono ?_; rintro e w' ⟨rfl, rfl⟩)
                go_ret
                exact ⟨congrArg (λ z : Bool => Ending.returned (.bool z)) HR.out.symm, HW.out⟩
              . have e2 : ((a.items.length : Int) == 0) = false := by simpa using hm
                have HR := HN false (by simp [nodeOk, hm])
                clear hs hw hm HN
                go_wp2_with (go_at_call 15; refine (HI.out _).mono ?_; rintro e w' ⟨rfl, rfl⟩)
                go_ret
                exact ⟨congrArg (λ z : Bool => Ending.returned (.bool z)) HR.out.symm, HW.out⟩
            | false =>
              rw [hw] at HI
              have HR := HN false (by simp [nodeOk, hw])
              clear hs hw HN
              go_wp2_with (go_at_call 15; refine (HI.out _).mono ?_; rintro e w' ⟨rfl, rfl⟩)
              go_ret
              exact ⟨congrArg (λ z : Bool => Ending.returned (.bool z)) HR.out.symm, HW.out⟩
          . have e1 : ((l.size : Int) == 1) = false := by simp; omega
            have HR := HN false (by simp [nodeOk, hs])
            clear hs HN
            go_wp2_with fail
            go_ret
            exact ⟨congrArg (λ z : Bool => Ending.returned (.bool z)) HR.out.symm, HW.out⟩
        . have e3 : (k == 3) = false := by simpa using h3
          have HN : ∀ b, nodeOk k l a.items.length = b -> Hid ((allRow a && nodeOk k l a.items.length) = b) := λ b h => Lib.hid (by rw [HA.out, h]; rfl)
          have HK := Lib.hid h3
          clear h3
          by_cases hr : 1 <= k /\ k <= 9
          . have HI := Lib.hid (λ w => l1In_all k 1 9 true w (by simp [hr.1, hr.2]))
            by_cases hs : l.size = 0
            . have e1 := bytes_nil hs
              by_cases hm : (a.items.length : Int) = argsOf k
              . have e2 : ((a.items.length : Int) == argsOf k) = true := by simp [hm]
                have HR := HN true (by simp [nodeOk, HK.out, hr, hs, hm])
                clear hs hm HN hr
                go_wp2_with fail
                go_quiet ((first | (go_at_call 55; exact Calls.quiet_of_same ((HI.out _).mono λ _ _ ⟨he, hw⟩ => ⟨he, hw.symm⟩)) | (go_at_call 95; exact Calls.quiet_of_same ((l3Args_any k _).mono λ _ _ ⟨he, hw⟩ => ⟨he, hw.symm⟩))))
                go_wp2
                go_ret
                exact ⟨congrArg (λ z : Bool => Ending.returned (.bool z)) HR.out.symm, below_draws HW.out _⟩
              . have e2 : ((a.items.length : Int) == argsOf k) = false := by simpa using hm
                have HR := HN false (by simp [nodeOk, HK.out, hm])
                clear hs hm HN hr
                go_wp2_with fail
                go_quiet ((first | (go_at_call 55; exact Calls.quiet_of_same ((HI.out _).mono λ _ _ ⟨he, hw⟩ => ⟨he, hw.symm⟩)) | (go_at_call 95; exact Calls.quiet_of_same ((l3Args_any k _).mono λ _ _ ⟨he, hw⟩ => ⟨he, hw.symm⟩))))
                go_wp2
                go_ret
                exact ⟨congrArg (λ z : Bool => Ending.returned (.bool z)) HR.out.symm, below_draws HW.out _⟩
            . have e1 := bytes_some hs
              have HR := HN false (by simp [nodeOk, HK.out, hs])
              clear hs HN hr
              go_wp2_with fail
              go_quiet ((first | (go_at_call 55; exact Calls.quiet_of_same ((HI.out _).mono λ _ _ ⟨he, hw⟩ => ⟨he, hw.symm⟩)) | (go_at_call 95; exact Calls.quiet_of_same ((l3Args_any k _).mono λ _ _ ⟨he, hw⟩ => ⟨he, hw.symm⟩))))
              go_wp2
              go_ret
              exact ⟨congrArg (λ z : Bool => Ending.returned (.bool z)) HR.out.symm, below_draws HW.out _⟩
          . have HI := Lib.hid (λ w => l1In_all k 1 9 false w (by simpa using hr))
            have HR := HN false (by simp [nodeOk, HK.out, hr])
            clear HN hr
            go_wp2_with fail
            go_quiet ((first | (go_at_call 55; exact Calls.quiet_of_same ((HI.out _).mono λ _ _ ⟨he, hw⟩ => ⟨he, hw.symm⟩)) | (go_at_call 95; exact Calls.quiet_of_same ((l3Args_any k _).mono λ _ _ ⟨he, hw⟩ => ⟨he, hw.symm⟩))))
            go_wp2
            go_ret
            exact ⟨congrArg (λ z : Bool => Ending.returned (.bool z)) HR.out.symm, below_draws HW.out _⟩
def validRx (k : Int) (l : ByteArray) (a : Fr) : Bool := decide (0 <= leftRow a 15) && decide (a.depth + 1 <= 6) && (allRow a && nodeOk k l a.items.length)
theorem box_cells {w wr : World} {k : Int} {l : ByteArray} {u : Value} {t : TypeId} (hb : Below (w.heap.size + 1) (w.alloc (.cells #[.int .i64 k, .string l, u] t)) wr) :
    wr.cell? ⟨w.heap.size, 0, none⟩ = some (.int .i64 k) /\ wr.cell? ⟨w.heap.size, 1, none⟩ = some (.string l) /\ wr.cell? ⟨w.heap.size, 2, none⟩ = some u :=
  ⟨(hb.cell (p := ⟨w.heap.size, 0, none⟩) (Nat.lt_succ_self _)).trans (by simp), (hb.cell (p := ⟨w.heap.size, 1, none⟩) (Nat.lt_succ_self _)).trans (by simp), (hb.cell (p := ⟨w.heap.size, 2, none⟩) (Nat.lt_succ_self _)).trans (by simp)⟩
theorem specValid_any (n B : Nat) (k : Int) (l : ByteArray) (u : Value) (a : Fr) (w : World) (hS : Sl w B n u a) (hB : B <= w.heap.size) (hsz : a.size <= 2097152) (hls : l.size <= 9223372036854775807) :
    Calls Tryz.prog 20 #[.agg #[.int .i64 k, .string l, u]] w λ e w' => e = .returned (.bool (validRx k l a)) /\ Below w.heap.size w w' := by
  have hL : ∀ wr, Below w.heap.size w wr -> B <= wr.heap.size -> Calls Tryz.prog 47 #[.agg #[.int .i64 k, .string l, u], .int .i64 16] wr λ e w' => e = .returned (.int .i64 (leftRow a 15)) /\ Below wr.heap.size wr w' :=
    λ wr hb hz => specLeft_any n B k l u a 16 wr (hS.mono (hb.mono hB) (Nat.le_refl _)) hz (by omega) (by omega)
  have HL := Lib.hid hL
  clear hL
  have HD := Lib.hid (λ wr (hb : Below w.heap.size w wr) (hz : B <= wr.heap.size) => specDepth_any n B k l u a wr (hS.mono (hb.mono hB) (Nat.le_refl _)) hz hsz)
  have HA := Lib.hid (λ wr (hb : Below w.heap.size w wr) (hz : B <= wr.heap.size) => specAll_any n B k l u a wr (hS.mono (hb.mono hB) (Nat.le_refl _)) hz hls)
  have hdl := depth_le a
  clear hS
  have HB0 := Lib.hid ((Below.refl w.heap.size w).alloc (Nat.le_refl _) (.cells #[.int .i64 k, .string l, u] 26))
  have HV : ∀ b, validRx k l a = b -> Hid (validRx k l a = b) := λ b h => Lib.hid h
  by_cases hq : 0 <= leftRow a 15
  . by_cases hd : a.depth + 1 <= 6
    . have hd2 : (a.depth : Int) + 1 <= 6 := by omega
      have HR := HV (allRow a && nodeOk k l a.items.length) (by simp [validRx, hq, hd])
      clear HV hd
      go_enter Tryz.func20, Tryz.ntmps20
      go_wp2_with fail
      refine (HL.out _ HB0.out (by simp; omega)).mono ?_
      rintro e w1 ⟨rfl, hb1⟩
      have hb1' : Below (w.heap.size + 1) (w.alloc (.cells #[.int .i64 k, .string l, u] 26)) w1 := by simpa using hb1
      obtain ⟨c0, c1, c2⟩ := box_cells hb1'
      have hz1 := hb1'.size
      rw [World.size_alloc] at hz1
      have HB1 := Lib.hid hb1'
      have HW1 := Lib.hid (HB0.out.trans (hb1'.mono (Nat.le_succ _)))
      clear hb1 hb1'
      go_wp2_with fail
      refine (HD.out _ HW1.out (by omega)).mono ?_
      rintro e w2 ⟨rfl, hb2⟩
      have HB2 := Lib.hid (HB1.out.trans (hb2.mono hz1))
      obtain ⟨d0, d1, d2⟩ := box_cells HB2.out
      have HW2 := Lib.hid (HW1.out.trans (hb2.mono (by omega)))
      have hz2 := hb2.size
      clear hb2 c0 c1 c2
      go_wp2_with fail
      refine (HA.out _ HW2.out (by omega)).mono ?_
      rintro e w3 ⟨rfl, hb3⟩
      have HW3 := Lib.hid (HW2.out.trans (hb3.mono (by omega)))
      clear hb3
      rw [<- HR.out]
      go_wp2_with fail
      go_ret
      exact ⟨rfl, HW3.out⟩
    . have hd2 : ¬ ((a.depth : Int) + 1 <= 6) := by omega
      have hd3 : decide ((a.depth : Int) + 1 <= 6) = false := by simpa using hd2
      have HR := HV false (by simp [validRx, hd])
      clear HV hd hd2
      go_enter Tryz.func20, Tryz.ntmps20
      go_wp2_with fail
      refine (HL.out _ HB0.out (by simp; omega)).mono ?_
      rintro e w1 ⟨rfl, hb1⟩
      have hb1' : Below (w.heap.size + 1) (w.alloc (.cells #[.int .i64 k, .string l, u] 26)) w1 := by simpa using hb1
      obtain ⟨c0, c1, c2⟩ := box_cells hb1'
      have hz1 := hb1'.size
      rw [World.size_alloc] at hz1
      have HW1 := Lib.hid (HB0.out.trans (hb1'.mono (Nat.le_succ _)))
      clear hb1 hb1'
      go_wp2_with fail
      refine (HD.out _ HW1.out (by omega)).mono ?_
      rintro e w2 ⟨rfl, hb2⟩
      have HW2 := Lib.hid (HW1.out.trans (hb2.mono (by omega)))
      clear hb2
      go_wp2_with fail
      go_ret
      exact ⟨congrArg (λ z : Bool => Ending.returned (.bool z)) HR.out.symm, HW2.out⟩
  . have hd3 : decide (0 <= leftRow a 15) = false := by simpa using hq
    have HR := HV false (by simp [validRx, hq])
    clear HV hq
    go_enter Tryz.func20, Tryz.ntmps20
    go_wp2_with fail
    refine (HL.out _ HB0.out (by simp; omega)).mono ?_
    rintro e w1 ⟨rfl, hb1⟩
    have HW1 := Lib.hid (HB0.out.trans (hb1.mono (by simp)))
    clear hb1
    go_wp2_with fail
    go_ret
    exact ⟨congrArg (λ z : Bool => Ending.returned (.bool z)) HR.out.symm, HW1.out⟩
def Bx (w : World) (g : Nat) (k : Int) (b : ByteArray) (v : Value) : Prop := w.cell? ⟨g, 0, none⟩ = some (.int .i64 k) /\ w.cell? ⟨g, 1, none⟩ = some (.string b) /\ w.cell? ⟨g, 2, none⟩ = some v
theorem Bx.below {w w' : World} {g B : Nat} {k : Int} {b : ByteArray} {v : Value} (h : Bx w g k b v) (hb : Below B w w') (hg : g < B) : Bx w' g k b v :=
  ⟨(hb.cell (p := ⟨g, 0, none⟩) hg).trans h.1, (hb.cell (p := ⟨g, 1, none⟩) hg).trans h.2.1, (hb.cell (p := ⟨g, 2, none⟩) hg).trans h.2.2⟩
theorem Bx.chg {w w' : World} {S : Nat -> Prop} {g : Nat} {k : Int} {b : ByteArray} {v : Value} (h : Bx w g k b v) (hc : Chg S w w') (hg : g < w.heap.size) (hn : ¬ S g) : Bx w' g k b v :=
  ⟨(hc.cell (p := ⟨g, 0, none⟩) hg hn).trans h.1, (hc.cell (p := ⟨g, 1, none⟩) hg hn).trans h.2.1, (hc.cell (p := ⟨g, 2, none⟩) hg hn).trans h.2.2⟩
theorem box_new (w0 w1 : World) (B : Nat) (k : Int) (b : ByteArray) (v : Value) (t : TypeId) (h : Below B w0 w1) (hB : B <= w0.heap.size) :
    Below B w0 (w1.alloc (.cells #[.int .i64 k, .string b, v] t)) /\ Bx (w1.alloc (.cells #[.int .i64 k, .string b, v] t)) w1.heap.size k b v /\ Below w1.heap.size w1 (w1.alloc (.cells #[.int .i64 k, .string b, v] t)) /\ (w1.alloc (.cells #[.int .i64 k, .string b, v] t)).heap.size = w1.heap.size + 1 :=
  ⟨h.alloc (Nat.le_trans hB h.size) _, box_cells (Below.refl _ _), (Below.refl _ _).alloc (Nat.le_refl _) _, by simp⟩
theorem own_slt {w w' wr : World} {n : Nat} {v : Value} {f : Fr} (h : SlT w' n (OwnB w w') v f) (hb : Below w'.heap.size w' wr) (B : Nat) (hB : w'.heap.size <= B) : Sl wr B n v f :=
  h.sl.mono (λ g hg => hb.block g hg.2) (λ _ hg => Nat.lt_of_lt_of_le hg.2 hB)
theorem put3 {w1 : World} {g : Nat} {x0 x1 x2 k l u : Value} (b0 : w1.cell? ⟨g, 0, none⟩ = some x0) (b1 : w1.cell? ⟨g, 1, none⟩ = some x1) (b2 : w1.cell? ⟨g, 2, none⟩ = some x2) :
    let W4 := ((w1.setCell ⟨g, 0, none⟩ k).setCell ⟨g, 1, none⟩ l).setCell ⟨g, 2, none⟩ u
    (W4.cell? ⟨g, 0, none⟩ = some k /\ W4.cell? ⟨g, 1, none⟩ = some l /\ W4.cell? ⟨g, 2, none⟩ = some u) /\ W4.heap.size = w1.heap.size /\ (∀ h, h ≠ g -> W4.heap[h]? = w1.heap[h]?) /\ ∀ B w, Below B w w1 -> B <= g -> Below B w W4 := by
  intro W4
  have ne : ∀ {o o' : Nat}, o ≠ o' -> (⟨g, o, none⟩ : Addr) ≠ ⟨g, o', none⟩ := λ h e => by
    injection e with _ e2
    exact h e2
  have d1 : (w1.setCell ⟨g, 0, none⟩ k).cell? ⟨g, 1, none⟩ = some x1 := (World.cell?_setCell_other _ _ _ _ (ne (by omega))).trans b1
  have d2 : ((w1.setCell ⟨g, 0, none⟩ k).setCell ⟨g, 1, none⟩ l).cell? ⟨g, 2, none⟩ = some x2 := (World.cell?_setCell_other _ _ _ _ (ne (by omega))).trans ((World.cell?_setCell_other _ _ _ _ (ne (by omega))).trans b2)
  refine ⟨⟨?_, ?_, World.cell?_setCell_same _ _ _ d2⟩, by simp [W4, World.setCell], λ h hh => ?_, λ B w hb hB => ?_⟩
  . exact (World.cell?_setCell_other _ _ _ _ (ne (by omega))).trans ((World.cell?_setCell_other _ _ _ _ (ne (by omega))).trans (World.cell?_setCell_same _ _ _ b0))
  . exact (World.cell?_setCell_other _ _ _ _ (ne (by omega))).trans (World.cell?_setCell_same _ _ _ d1)
  . exact (Below.heap_setCell _ _ _ h hh).trans ((Below.heap_setCell _ _ _ h hh).trans (Below.heap_setCell _ _ _ h hh))
  . exact ((hb.setCell (p := ⟨g, 0, none⟩) hB _).setCell (p := ⟨g, 1, none⟩) hB _).setCell (p := ⟨g, 2, none⟩) hB _
theorem slt_one {w : World} {n g c : Nat} {S S' : Nat -> Prop} {k : Int} {l : ByteArray} {u : Value} {a : Fr} (hg : S g) (hp : Plain w g) (he : ElAt w g 0 k l u) (hl : l.size <= 9223372036854775807) (h : SlT w n S' u a) (hs : ∀ h, S' h -> S h /\ h ≠ g) :
    SlT w (n + 1) S (.slice (some ⟨g, 0, none⟩) 1 c) (.cons k l a .nil) := by
  refine ⟨by simp [Fr.items], .inr ⟨g, 0, c, λ j h => j = 0 /\ S' h, rfl, hg, hp, λ j h hj => hs h hj.2, λ i j h hi hj => hi.1.trans hj.1.symm, λ j k' l' a' hj => ?_⟩⟩
  match j, hj with
  | 0, hj =>
    simp [Fr.items] at hj
    obtain ⟨rfl, rfl, rfl⟩ := hj
    exact ⟨hl, u, by simpa using he, h.mono (λ _ _ => rfl) (λ _ hh => ⟨rfl, hh⟩)⟩
  | j + 1, hj => simp [Fr.items] at hj
theorem slt_two {w : World} {n g c : Nat} {S S1 S2 : Nat -> Prop} {k1 k2 : Int} {l1 l2 : ByteArray} {u1 u2 : Value} {a1 a2 : Fr} (hg : S g) (hp : Plain w g) (he1 : ElAt w g 0 k1 l1 u1) (he2 : ElAt w g 3 k2 l2 u2) (hl1 : l1.size <= 9223372036854775807) (hl2 : l2.size <= 9223372036854775807)
    (h1 : SlT w n S1 u1 a1) (h2 : SlT w n S2 u2 a2) (hs1 : ∀ h, S1 h -> S h /\ h ≠ g) (hs2 : ∀ h, S2 h -> S h /\ h ≠ g) (hd : ∀ h, S1 h -> ¬ S2 h) :
    SlT w (n + 1) S (.slice (some ⟨g, 0, none⟩) 2 c) (.cons k1 l1 a1 (.cons k2 l2 a2 .nil)) := by
  refine ⟨by simp [Fr.items], .inr ⟨g, 0, c, λ j h => (j = 0 /\ S1 h) \/ (j = 1 /\ S2 h), rfl, hg, hp, λ j h hj => hj.elim (λ q => hs1 h q.2) (λ q => hs2 h q.2), λ i j h hi hj => ?_, λ j k' l' a' hj => ?_⟩⟩
  . rcases hi with hi | hi <;> rcases hj with hj | hj
    . exact hi.1.trans hj.1.symm
    . exact absurd hj.2 (hd h hi.2)
    . exact absurd hi.2 (hd h hj.2)
    . exact hi.1.trans hj.1.symm
  . match j, hj with
    | 0, hj =>
      simp [Fr.items] at hj
      obtain ⟨rfl, rfl, rfl⟩ := hj
      exact ⟨hl1, u1, by simpa using he1, h1.mono (λ _ _ => rfl) (λ _ hh => .inl ⟨rfl, hh⟩)⟩
    | 1, hj =>
      simp [Fr.items] at hj
      obtain ⟨rfl, rfl, rfl⟩ := hj
      exact ⟨hl2, u2, by simpa using he2, h2.mono (λ _ _ => rfl) (λ _ hh => .inr ⟨rfl, hh⟩)⟩
    | j + 2, hj => simp [Fr.items] at hj
def wdT (s : List UInt8) (i k : Nat) : Nat := if i < s.length /\ letIdx (s.getD i 0) = (k : Int) then i + 1 else s.length + 1
def wdA (s : List UInt8) : Au := ⟨s.length + 2, λ i => decide (i = s.length), wdT s⟩
theorem wdT_lt (s : List UInt8) (i k : Nat) : wdT s i k < s.length + 2 := by
  unfold wdT
  split <;> omega
theorem wdA_wf (s : List UInt8) : (wdA s).wf := ⟨by show 0 < s.length + 2; omega, λ i k _ _ => wdT_lt s i k⟩
theorem wdT_yes {s : List UInt8} {i k : Nat} (hi : i < s.length) (h : letIdx (s.getD i 0) = (k : Int)) : wdT s i k = i + 1 := by
  unfold wdT
  rw [if_pos ⟨hi, h⟩]
theorem wdT_no {s : List UInt8} {i k : Nat} (h : ¬ (i < s.length /\ letIdx (s.getD i 0) = (k : Int))) : wdT s i k = s.length + 1 := by
  unfold wdT
  rw [if_neg h]
def wordR (s : List UInt8) (y : Dx) (ok : Bool) : Prop := if isW s = true then (∃ m, Canon m /\ Eqv m 0 (wdA s) 0 /\ y = fieldsOf m) /\ ok = true else y = ⟨[], []⟩ /\ ok = false
theorem wordR_some (s : List UInt8) : ∃ y ok, wordR s y ok := by
  unfold wordR
  by_cases h : isW s = true
  . obtain ⟨m, h1, h2, _⟩ := exists_min (wdA_wf s)
    exact ⟨_, _, by rw [if_pos h]; exact ⟨⟨m, h1, h2, rfl⟩, rfl⟩⟩
  . exact ⟨_, _, by rw [if_neg h]; exact ⟨rfl, rfl⟩⟩
theorem isW_len {s : List UInt8} (h : isW s = true) : s.length <= 30 := by
  unfold isW at h
  simp only [Bool.and_eq_true, decide_eq_true_eq] at h
  exact h.2
theorem wd_small {s : List UInt8} (hs : isW s = true) {m : Au} (h1 : Canon m) (h2 : Eqv m 0 (wdA s) 0) : m.n <= 40 := by
  obtain ⟨m', n1, n2, n3⟩ := exists_min (wdA_wf s)
  have h3 := (canon_unique h1 n1 (h2.swap n2)).1
  have h4 : m'.n <= s.length + 2 := n3
  have := isW_len hs
  omega
theorem wordR_yes {s : List UInt8} {y : Dx} {ok : Bool} (h : wordR s y ok) (hs : isW s = true) {m : Au} (h1 : Canon m) (h2 : Eqv m 0 (wdA s) 0) : y = fieldsOf m /\ ok = true := by
  unfold wordR at h
  rw [if_pos hs] at h
  obtain ⟨⟨m', n1, n2, rfl⟩, rfl⟩ := h
  exact ⟨fields_one n1 h1 (n2.swap h2), rfl⟩
theorem wordR_no {s : List UInt8} {y : Dx} {ok : Bool} (h : wordR s y ok) (hs : isW s = false) : y = ⟨[], []⟩ /\ ok = false := by
  unfold wordR at h
  rwa [if_neg (by rw [hs]; decide)] at h
theorem nodeOk_cases {k : Int} {l : ByteArray} {m : Nat} (h : nodeOk k l m = true) :
    (k = 1 /\ m = 0) \/ (k = 2 /\ m = 0) \/ (k = 3 /\ l.size = 1 /\ m = 0) \/ (k = 4 /\ m = 0) \/ (k = 5 /\ m = 2) \/ (k = 6 /\ m = 2) \/ (k = 7 /\ m = 2) \/ (k = 8 /\ m = 1) \/ (k = 9 /\ m = 1) := by
  unfold nodeOk at h
  by_cases h3 : k = 3
  . rw [if_pos h3] at h
    simp only [Bool.and_eq_true, decide_eq_true_eq] at h
    omega
  . rw [if_neg h3] at h
    simp only [Bool.and_eq_true, decide_eq_true_eq] at h
    obtain ⟨⟨hk, _⟩, hm⟩ := h
    unfold argsOf at hm
    split at hm
    . omega
    . split at hm <;> omega
theorem item_ok {f : Fr} {j : Nat} {k : Int} {l : ByteArray} {a : Fr} (hf : allRow f = true) (h : f.items[j]? = some (k, l, a)) : (allRow a && nodeOk k l a.items.length) = true := by
  rw [all_items, List.all_eq_true] at hf
  exact hf _ (List.mem_of_getElem? h)
theorem valid_ok {k : Int} {l : ByteArray} {a : Fr} (h : validRx k l a = true) : (allRow a && nodeOk k l a.items.length) = true := by
  unfold validRx at h
  rw [Bool.and_eq_true] at h
  exact h.2
def rxNone : Dx := ⟨[false], [[0, 0, 0]]⟩
def rxAny : Dx := ⟨[false, true, false], [[1, 1, 1], [2, 2, 2], [2, 2, 2]]⟩
def leafR (k : Int) (l : ByteArray) (y : Dx) (ok : Bool) : Prop :=
  if k = 2 then wordR [] y ok else if k = 3 then wordR l.data.toList y ok else if k = 4 then y = rxAny /\ ok = true else y = rxNone /\ ok = true
def nodeR1 (k : Int) (y1 : Dx) (ok1 : Bool) (y : Dx) (ok : Bool) : Prop :=
  if ok1 = true then (if k = 8 then starR y1 y ok else ∃ z, minR y1 z /\ y = comD z /\ ok = true) else y = ⟨[], []⟩ /\ ok = false
def nodeR2 (k : Int) (y1 : Dx) (ok1 : Bool) (y2 : Dx) (ok2 : Bool) (y : Dx) (ok : Bool) : Prop :=
  if ok1 = true /\ ok2 = true then (if k = 5 then catR y1 y2 y ok else proR y1 y2 k y ok) else y = ⟨[], []⟩ /\ ok = false
def compN : Int -> ByteArray -> Fr -> Dx -> Bool -> Prop
  | k, l, .nil, y, ok => leafR k l y ok
  | k, _, .cons k1 l1 a1 .nil, y, ok => ∃ y1 ok1, compN k1 l1 a1 y1 ok1 /\ nodeR1 k y1 ok1 y ok
  | k, _, .cons k1 l1 a1 (.cons k2 l2 a2 _), y, ok => ∃ y1 ok1 y2 ok2, compN k1 l1 a1 y1 ok1 /\ compN k2 l2 a2 y2 ok2 /\ nodeR2 k y1 ok1 y2 ok2 y ok
theorem leafR_some (k : Int) (l : ByteArray) : ∃ y ok, leafR k l y ok := by
  unfold leafR
  by_cases h2 : k = 2
  . simp only [if_pos h2]
    exact wordR_some _
  by_cases h3 : k = 3
  . simp only [if_neg h2, if_pos h3]
    exact wordR_some _
  by_cases h4 : k = 4
  . simp only [if_neg h2, if_neg h3, if_pos h4]
    exact ⟨_, _, rfl, rfl⟩
  . simp only [if_neg h2, if_neg h3, if_neg h4]
    exact ⟨_, _, rfl, rfl⟩
theorem nodeR1_some (k : Int) (y1 : Dx) (ok1 : Bool) : ∃ y ok, nodeR1 k y1 ok1 y ok := by
  unfold nodeR1
  by_cases h : ok1 = true
  . simp only [if_pos h]
    by_cases h8 : k = 8
    . simp only [if_pos h8]
      exact starR_some _
    . simp only [if_neg h8]
      obtain ⟨z, hz⟩ := minR_some y1
      exact ⟨_, _, z, hz, rfl, rfl⟩
  . simp only [if_neg h]
    exact ⟨_, _, rfl, rfl⟩
theorem nodeR2_some (k : Int) (y1 : Dx) (ok1 : Bool) (y2 : Dx) (ok2 : Bool) : ∃ y ok, nodeR2 k y1 ok1 y2 ok2 y ok := by
  unfold nodeR2
  by_cases h : ok1 = true /\ ok2 = true
  . simp only [if_pos h]
    by_cases h5 : k = 5
    . simp only [if_pos h5]
      exact catR_some _ _
    . simp only [if_neg h5]
      exact proR_some _ _ _
  . simp only [if_neg h]
    exact ⟨_, _, rfl, rfl⟩
theorem compN_some : ∀ (k : Int) (l : ByteArray) (a : Fr), ∃ y ok, compN k l a y ok
  | k, l, .nil => leafR_some k l
  | k, l, .cons k1 l1 a1 .nil => by
    obtain ⟨y1, ok1, h1⟩ := compN_some k1 l1 a1
    obtain ⟨y, ok, h⟩ := nodeR1_some k y1 ok1
    exact ⟨y, ok, y1, ok1, h1, h⟩
  | k, l, .cons k1 l1 a1 (.cons k2 l2 a2 _) => by
    obtain ⟨y1, ok1, h1⟩ := compN_some k1 l1 a1
    obtain ⟨y2, ok2, h2⟩ := compN_some k2 l2 a2
    obtain ⟨y, ok, h⟩ := nodeR2_some k y1 ok1 y2 ok2
    exact ⟨y, ok, y1, ok1, y2, ok2, h1, h2, h⟩
def compRx (k : Int) (l : ByteArray) (a : Fr) (y : Dx) (ok : Bool) : Prop := if validRx k l a = true then compN k l a y ok else y = ⟨[], []⟩ /\ ok = false
theorem compRx_some (k : Int) (l : ByteArray) (a : Fr) : ∃ y ok, compRx k l a y ok := by
  unfold compRx
  by_cases h : validRx k l a = true
  . simp only [if_pos h]
    exact compN_some k l a
  . simp only [if_neg h]
    exact ⟨_, _, rfl, rfl⟩
theorem specFind_any (v : Value) (l : List Int) (S : Nat -> Prop) (x : Int) (w : World) (h : RowV w S v (ints l)) :
    Calls Tryz.prog 104 #[v, .int .i64 x] w λ e w' => e = .returned (.int .i64 (findV l x)) /\ w = w' := by
  obtain ⟨hl, A, c, rfl⟩ := h.ints_shape
  have HE := Lib.hid (λ j (hj : j < l.length) => h.intD hj)
  clear h
  obtain ⟨z, hz⟩ : ∃ z, z = findV l x := ⟨_, rfl⟩
  have HNo : Hid ((∀ j, j < l.length -> l.getD j 0 ≠ x) -> z = -1) := Lib.hid (λ h => by rw [hz]; exact findV_no h)
  have HAt : Hid (∀ j : Nat, j < l.length -> l.getD j 0 = x -> (∀ i, i < j -> l.getD i 0 ≠ x) -> z = (j : Int)) := Lib.hid (λ j hj h hlt => by rw [hz]; exact findV_at hj h hlt)
  rw [<- hz]
  clear hz
  go_enter Tryz.func104, Tryz.ntmps104
  go_wp2_with fail
  go_loopw [5] (λ i wr => ∃ j : Nat, i = .int .i64 j /\ j <= l.length /\ w = wr /\ Hid (∀ i, i < j -> l.getD i 0 ≠ x)) (λ i _ => l.length - (intOf i).toNat)
  case atStart => exact ⟨0, rfl, Nat.zero_le _, rfl, Lib.hid (λ i hi => absurd hi (Nat.not_lt_zero _))⟩
  case round =>
    obtain ⟨j, rfl, hj, rfl, hall⟩ := hrel
    by_cases hlt : j < l.length
    . obtain ⟨ad, rfl, -, hc⟩ := HE.out j hlt
      obtain ⟨y, hy⟩ : ∃ y, y = l.getD j 0 := ⟨_, rfl⟩
      rw [<- hy] at hc
      by_cases hyx : y = x
      . have hd : (y == x) = true := by simpa using hyx
        have HF : Hid (z = (j : Int)) := Lib.hid (HAt.out j hlt (by rw [<- hy]; exact hyx) hall.out)
        clear hy hyx
        go_wp2_with fail
        go_ret
        exact ⟨congrArg (λ z : Int => Ending.returned (.int .i64 z)) HF.out.symm, rfl⟩
      . have hd : (y == x) = false := by simpa using hyx
        have HX : Hid (l.getD j 0 ≠ x) := Lib.hid (by rw [<- hy]; exact hyx)
        clear hy hyx
        go_wp2_with fail
        go_roundw
        case rel => exact ⟨j + 1, by go_num, by omega, by first | rfl | trivial, Lib.hid (λ i hi => by
          by_cases e : i = j
          . rw [e]; exact HX.out
          . exact hall.out i (by omega))⟩
        case measure => simp [intOf]; omega
    . obtain rfl : j = l.length := by omega
      have HF : Hid (z = -1) := Lib.hid (HNo.out hall.out)
      go_wp2_with fail
      go_ret
      exact ⟨congrArg (λ z : Int => Ending.returned (.int .i64 z)) HF.out.symm, rfl⟩
theorem Two.cell_row {B : Nat} {w : World} {v : Value} {l : List Int} (h : IR w B v l) (hl : l.length <= 9223372036854775807) {j : Nat} (hj : j < l.length) : ∃ ad c, v = .slice (some ad) l.length c /\ w.cell? (ad.add j) = some (.int .i64 (l.getD j 0)) := by
  have h1 := (h.row hl).row
  obtain ⟨-, A, c, rfl⟩ := h1.ints_shape
  obtain ⟨ad, rfl, -, hc⟩ := h1.intD hj
  exact ⟨ad, c, rfl, hc⟩
theorem specFind_below {w V : World} {v : Value} {l : List Int} {B : Nat} (x : Int) (h : IR w B v l) (hl : l.length <= 9223372036854775807) (hV : Below w.heap.size w V) :
    Calls Tryz.prog 104 #[v, .int .i64 x] V λ e w' => e = .returned (.int .i64 (findV l x)) /\ Below w.heap.size w w' :=
  (specFind_any v l _ x V ((h.row hl).row.kept hV)).mono (λ _ _ h => ⟨h.1, h.2 ▸ hV⟩)
theorem IR.alloc {w : World} {B : Nat} {v : Value} {l : List Int} (h : IR w B v l) (o : Obj) : IR (w.alloc o) B v l := h.below ((Below.refl _ _).alloc (Nat.le_refl _) _)
theorem specSame_any (va vn vc : Value) (a : Au) (c : Nat -> Nat) (S Sc : Nat -> Prop) (p q : Nat) (w : World) (hw : a.wf) (h : DfaV w S va vn (fieldsOf a)) (hc : RowV w Sc vc (ints (clsRow a.n c))) (hp : p < a.n) (hq : q < a.n) :
    Calls Tryz.prog 131 #[.agg #[va, vn], vc, .int .i64 (p : Int), .int .i64 (q : Int)] w λ e w' => e = .returned (.bool (same a c p q)) /\ Below w.heap.size w w' := by
  obtain ⟨ad, cc, ad', cc', rfl, rfl, hnl, -, hT⟩ := h.cells hw.1
  obtain ⟨adc, mc, rfl, hcl⟩ := hc.cls hw.1
  obtain ⟨W0, hW0⟩ : ∃ W0, W0 = w.alloc (.cells #[.slice (some ad) a.n cc, .slice (some ad') a.n cc'] 31) := ⟨_, rfl⟩
  have HB0 : Hid (Below w.heap.size w W0) := Lib.hid (by rw [hW0]; exact (Below.refl _ _).alloc (Nat.le_refl _) _)
  have HX : Hid (Bx2 W0 w.heap.size (.slice (some ad) a.n cc) (.slice (some ad') a.n cc')) := Lib.hid (by
    have k := box2_kept (w := w) (w1 := W0) (a := .slice (some ad) a.n cc) (b := .slice (some ad') a.n cc') (t := 31) (by rw [hW0]; exact Below.refl _ _)
    exact ⟨k.2.1, k.2.2.1⟩)
  obtain ⟨n, hn⟩ : ∃ n, n = a.n := ⟨_, rfl⟩
  have HT : Hid (∀ x, x < n -> ∃ ad2 c2, w.cell? (ad'.add x) = some (.slice (some ad2) 3 c2) /\ ∀ k, k < 3 -> w.cell? (ad2.add k) = some (.int .i64 ((a.T x k : Nat) : Int))) := Lib.hid (by rw [hn]; exact hT)
  have HC : Hid (∀ x, x < n -> w.cell? (adc.add x) = some (.int .i64 (c x : Int))) := Lib.hid (by rw [hn]; exact hcl)
  have HWf : Hid (∀ x k, x < n -> k < 3 -> a.T x k < n) := Lib.hid (by rw [hn]; exact hw.2)
  rw [<- hn] at hW0 HX hp hq hnl
  rw [<- hn]
  have HS : Hid (same a c p q = sameK a c p q 3) := Lib.hid rfl
  clear h hc hT hcl hw hn
  have g1 := (HB0.out.cell (cell_in (HC.out p hp))).trans (HC.out p hp)
  have g2 := (HB0.out.cell (cell_in (HC.out q hq))).trans (HC.out q hq)
  obtain ⟨b0, hb0⟩ : ∃ b0, b0 = ((c p : Int) == (c q : Int)) := ⟨_, rfl⟩
  have HS0 : Hid (b0 = sameK a c p q 0) := Lib.hid (by rw [hb0, eq_cast, sameK_zero])
  obtain ⟨x0, hx0⟩ : ∃ x0 : Int, x0 = (c p : Int) := ⟨_, rfl⟩
  obtain ⟨y0, hy0⟩ : ∃ y0 : Int, y0 = (c q : Int) := ⟨_, rfl⟩
  rw [<- hx0] at g1 hb0
  rw [<- hy0] at g2 hb0
  have s1 : (p : Int) < (n : Int) := by omega
  have s2 : (0 : Int) <= (p : Int) := by omega
  have s3 : (q : Int) < (n : Int) := by omega
  have s5 : (0 : Int) <= (q : Int) := by omega
  have hbb : (x0 == y0) = b0 := hb0.symm
  clear hb0 hx0 hy0
  rw [hW0] at g1 g2
  go_enter Tryz.func131, Tryz.ntmps131
  go_wp2_with fail
  go_quiet (fail)
  go_wp2_with fail
  rw [<- hW0]
  clear g1 g2 hW0 hbb
  go_loopw [9, 10] (λ y i wr => ∃ (j : Nat) (b : Bool), i = .int .i64 j /\ y = .bool b /\ j <= 3 /\ Hid (b = sameK a c p q j) /\ Below W0.heap.size W0 wr) (λ _ i _ => 3 - (intOf i).toNat)
  case atStart => exact ⟨0, b0, rfl, rfl, Nat.zero_le _, HS0.out, below_draws (Below.refl _ _) _⟩
  case round =>
    obtain ⟨j, b, rfl, rfl, hj, hbs, hb⟩ := hrel
    have HBr := Lib.hid hb
    clear hb
    by_cases hlt : j < 3
    . cases b with
      | false =>
        have HF : Hid (false = sameK a c p q (j + 1)) := Lib.hid (by rw [sameK_succ, <- hbs.out, Bool.false_and])
        go_wp2_with fail
        go_quiet (fail)
        go_wp2_with fail
        go_roundw
        case rel => exact ⟨j + 1, false, by go_num, rfl, by omega, HF.out, below_draws HBr.out _⟩
        case measure => simp [intOf]; omega
      | true =>
        obtain ⟨adp, cp, hrp, hep⟩ := HT.out p hp
        obtain ⟨adq, cq, hrq, heq⟩ := HT.out q hq
        have hep := hep j hlt
        have heq := heq j hlt
        have htp := HWf.out p j hp hlt
        have htq := HWf.out q j hq hlt
        have hcp := HC.out _ htp
        have hcq := HC.out _ htq
        obtain ⟨b2, hb2⟩ : ∃ b2, b2 = ((c (a.T p j) : Int) == (c (a.T q j) : Int)) := ⟨_, rfl⟩
        have HF : Hid (b2 = sameK a c p q (j + 1)) := Lib.hid (by rw [sameK_succ, <- hbs.out, Bool.true_and, hb2, eq_cast])
        obtain ⟨tp, htpe⟩ : ∃ tp, tp = a.T p j := ⟨_, rfl⟩
        obtain ⟨tq, htqe⟩ : ∃ tq, tq = a.T q j := ⟨_, rfl⟩
        rw [<- htpe] at hep htp hcp hb2
        rw [<- htqe] at heq htq hcq hb2
        obtain ⟨x, hx⟩ : ∃ x : Int, x = (c tp : Int) := ⟨_, rfl⟩
        obtain ⟨y, hy⟩ : ∃ y : Int, y = (c tq : Int) := ⟨_, rfl⟩
        rw [<- hx] at hcp hb2
        rw [<- hy] at hcq hb2
        have up := λ {ad : Addr} {u : Value} (hc : w.cell? ad = some u) => ((HB0.out.trans (HBr.out.mono HB0.out.size)).cell (cell_in hc)).trans hc
        have g1 := up hrp
        have g2 := up hrq
        have g3 := up hep
        have g4 := up heq
        have g5 := up hcp
        have g6 := up hcq
        have g7 := (HX.out.kept HBr.out).2
        have s6 : (tp : Int) < (n : Int) := by omega
        have s7 : (0 : Int) <= (tp : Int) := by omega
        have s8 : (tq : Int) < (n : Int) := by omega
        have s9 : (0 : Int) <= (tq : Int) := by omega
        have s10 : (j : Int) < 3 := by omega
        have s11 : (0 : Int) <= (j : Int) := by omega
        have hbb : (x == y) = b2 := hb2.symm
        clear up hrp hrq hep heq hcp hcq hb2 hx hy htpe htqe hbs
        go_wp2_with fail
        go_quiet (fail)
        clear g1 g2 g3 g4 g5 g6 g7 hbb
        go_wp2_with fail
        go_roundw
        case rel => exact ⟨j + 1, b2, by go_num, rfl, by omega, HF.out, below_draws HBr.out _⟩
        case measure => simp [intOf]; omega
    . obtain rfl : j = 3 := by omega
      have HF : Hid (same a c p q = b) := Lib.hid (by rw [HS.out, hbs.out])
      go_wp2_with fail
      go_ret
      exact ⟨congrArg (λ b : Bool => Ending.returned (.bool b)) HF.out.symm, HB0.out.trans (HBr.out.mono HB0.out.size)⟩
theorem specCls_any (va vn : Value) (a : Au) (S : Nat -> Prop) (w : World) (hw : a.wf) (hn : a.n <= 2000) (h : DfaV w S va vn (fieldsOf a)) :
    Calls Tryz.prog 130 #[.agg #[va, vn]] w (Copy (ints (clsRow a.n (cls a (a.n + 1)))) w) := by
  obtain ⟨i0, hi, hz0, hz1, hz2⟩ := info_parts intInfo
  obtain ⟨ad, cc, ad', cc', hva, hvn, hnl, hA, -⟩ := h.cells hw.1
  subst hva
  subst hvn
  obtain ⟨W0, hW0⟩ : ∃ W0, W0 = w.alloc (.cells #[.slice (some ad) a.n cc, .slice (some ad') a.n cc'] 31) := ⟨_, rfl⟩
  have HB0 : Hid (Below w.heap.size w W0) := Lib.hid (by rw [hW0]; exact (Below.refl _ _).alloc (Nat.le_refl _) _)
  have HX : Hid (Bx2 W0 w.heap.size (.slice (some ad) a.n cc) (.slice (some ad') a.n cc')) := Lib.hid (by
    have k := box2_kept (w := w) (w1 := W0) (a := .slice (some ad) a.n cc) (b := .slice (some ad') a.n cc') (t := 31) (by rw [hW0]; exact Below.refl _ _)
    exact ⟨k.2.1, k.2.2.1⟩)
  have HSame := Lib.hid (λ (V : World) (hV : Below w.heap.size w V) r vc Sc p q (hc : RowV V Sc vc (ints (clsRow a.n (cls a r)))) hp hq => specSame_any (.slice (some ad) a.n cc) (.slice (some ad') a.n cc') vc a (cls a r) S Sc p q V hw (h.kept hV) hc hp hq)
  have HFirst := Lib.hid (λ r q => firstOf_spec a (cls a r) q)
  obtain ⟨n, hne⟩ : ∃ n, n = a.n := ⟨_, rfl⟩
  have HA : Hid (∀ q, q < n -> w.cell? (ad.add q) = some (.bool (a.A q))) := Lib.hid (by rw [hne]; exact hA)
  rw [<- hne] at hW0 HX hn hnl HSame
  rw [<- hne]
  have hn0 : 0 < n := by have := hw.1; omega
  clear h hA hne
  have hc00 : (w.alloc (.cells #[.slice (some ad) n cc, .slice (some ad') n cc'] 31)).cell? ⟨w.heap.size, 0, none⟩ = some (.slice (some ad) n cc) := by rw [<- hW0]; exact HX.out.1
  go_enter Tryz.func130, Tryz.ntmps130
  go_upto_region 2 with fail
  rw [<- hW0]
  clear hc00 hW0
  go_wp2_with (at_make; refine wpList_make_full _ rfl _ _ 49 rfl W0.heap.size 3 i0 _ 1 Tryz.underlying49 hi hz0 hz1 _ _ _ _ n rfl rfl rfl rfl (by rw [hz2]; omega) (by unfold maxLen; omega) (Nat.le_refl _) ?_; intro w1 hown hgr)
  obtain ⟨ho, hb, hwl⟩ := made_row_o hown hgr (by omega) (clsV a 0)
  clear hown hgr
  go_loopw [5] (λ i wr => ∃ q : Nat, i = .int .i64 q /\ q <= n /\ RowO wr (λ g => g = W0.heap.size) (.slice (some ⟨W0.heap.size, 0, none⟩) n n) ((List.range q).map (clsV a 0) ++ (List.replicate n (.int .i64 0 : Value)).drop q) /\ Below W0.heap.size W0 wr /\ W0.heap.size < wr.heap.size) (λ i _ => n - (intOf i).toNat)
  case atStart => exact ⟨0, rfl, Nat.zero_le _, ho, hb, hwl⟩
  case round =>
    obtain ⟨q, rfl, hq, ho', hb', hwr⟩ := hrel
    clear ho hb
    have HBr := Lib.hid hb'
    have HO := Lib.hid ho'
    clear hb' ho'
    have c0 := (HX.out.kept HBr.out).1
    by_cases hlt : q < n
    . have hca := (HA.out q hlt)
      have hca2 := ((HB0.out.trans (HBr.out.mono HB0.out.size)).cell (cell_in hca)).trans hca
      obtain ⟨b, hb⟩ : ∃ b, b = a.A q := ⟨_, rfl⟩
      rw [<- hb] at hca2
      clear hca
      cases b with
      | true =>
        have hv : clsV a 0 q = .int .i64 1 := by simp [clsV, cls, <- hb]
        obtain ⟨g, hg, -, hgl, hst⟩ := HO.out.set (j := q) (by simp; omega)
        cases hg
        obtain ⟨⟨x0, hx0⟩, hf0, hset⟩ := hst wr rfl
        have HS : Hid (RowO (wr.setCell ⟨W0.heap.size, q, none⟩ (.int .i64 1)) (λ g => g = W0.heap.size) (.slice (some ⟨W0.heap.size, 0, none⟩) n n) ((List.range (q + 1)).map (clsV a 0) ++ (List.replicate n (.int .i64 0 : Value)).drop (q + 1))) := Lib.hid (by
          have h1 := hset (clsV a 0 q)
          rw [set_zero _ n q hlt, hv] at h1
          exact h1)
        have HB2 := Lib.hid (HBr.out.setCell (p := ⟨W0.heap.size, q, none⟩) (Nat.le_refl _) (.int .i64 1))
        have hz2' : W0.heap.size < (wr.setCell ⟨W0.heap.size, q, none⟩ (.int .i64 1)).heap.size := by simpa [World.setCell] using hwr
        have HZ2 := Lib.hid hz2'
        clear hv hset hst hb hz2'
        go_wp2_with fail
        go_roundw
        case rel => exact ⟨q + 1, by go_num, by omega, HS.out, HB2.out, HZ2.out⟩
        case measure => simp [intOf]; omega
      | false =>
        have hv : clsV a 0 q = .int .i64 0 := by simp [clsV, cls, <- hb]
        have HS : Hid (RowO wr (λ g => g = W0.heap.size) (.slice (some ⟨W0.heap.size, 0, none⟩) n n) ((List.range (q + 1)).map (clsV a 0) ++ (List.replicate n (.int .i64 0 : Value)).drop (q + 1))) := Lib.hid (by
          rw [<- zero_step _ n q hlt hv]
          exact HO.out)
        clear hv hb
        go_wp2_with fail
        go_roundw
        case rel => exact ⟨q + 1, by go_num, by omega, HS.out, HBr.out, hwr⟩
        case measure => simp [intOf]; omega
    . obtain rfl : q = n := by omega
      have HO1 : Hid (RowO wr (λ g => g = W0.heap.size) (.slice (some ⟨W0.heap.size, 0, none⟩) q q) (ints (clsRow q (cls a 0)))) := Lib.hid (by
        have h1 := HO.out
        rw [zero_all] at h1
        rw [ints_cls]
        exact h1)
      have hd : decide ((q : Int) < (q : Int)) = false := by simp
      go_wp2_with fail
      clear hd c0
      go_loopw [4, 6] (λ v i wr' => ∃ (r : Nat) (A : Option Addr) (m : Nat), i = .int .i64 r /\ v = .slice A q m /\ r <= q + 1 /\ Below W0.heap.size W0 wr' /\ Hid (RowO wr' (λ g => W0.heap.size <= g /\ g < wr'.heap.size) (.slice A q m) (ints (clsRow q (cls a r))))) (λ _ i _ => q + 2 - (intOf i).toNat)
      case atStart => exact ⟨0, _, _, rfl, rfl, Nat.zero_le _, HBr.out, Lib.hid (HO1.out.mono (λ _ _ => rfl) (λ g hg => by rw [hg]; exact ⟨Nat.le_refl _, hwr⟩))⟩
      case round =>
        obtain ⟨r, A, m, rfl, rfl, hr, hb2, ho2⟩ := hrel
        have HB2 := Lib.hid hb2
        clear hb2
        have hz2r := HB2.out.size
        by_cases hrl : r <= q
        . have hd : decide ((r : Int) <= (q : Int)) = true := by simp; omega
          go_wp2_with (at_make; refine wpList_make_full _ rfl _ _ 49 rfl wr.heap.size 3 i0 _ 1 Tryz.underlying49 hi hz0 hz1 _ _ _ _ q rfl rfl rfl rfl (by rw [hz2]; omega) (by unfold maxLen; omega) (Nat.le_refl _) ?_; intro w3 hown hgr)
          obtain ⟨ho3, hb3, hwl3⟩ := made_row_o hown hgr (by omega) (clsV a (r + 1))
          clear hown hgr hd
          obtain ⟨V2, hV2⟩ : ∃ V2, V2 = wr := ⟨_, rfl⟩
          rw [<- hV2] at ho3 hb3 hwl3 ho2 HB2 hz2r ⊢
          clear hV2
          have HC2 : Hid (∀ V, Below V2.heap.size V2 V -> RowV V (λ g => W0.heap.size <= g /\ g < V2.heap.size) (.slice A q m) (ints (clsRow q (cls a r)))) := Lib.hid (λ V hV => ho2.out.row.kept hV)
          go_loopw [8] (λ i wq => ∃ p : Nat, i = .int .i64 p /\ p <= q /\ Below V2.heap.size V2 wq /\ V2.heap.size < wq.heap.size /\ Hid (RowO wq (λ g => g = V2.heap.size) (.slice (some ⟨V2.heap.size, 0, none⟩) q q) ((List.range p).map (clsV a (r + 1)) ++ (List.replicate q (.int .i64 0 : Value)).drop p))) (λ i _ => q - (intOf i).toNat)
          case atStart => exact ⟨0, rfl, Nat.zero_le _, hb3, hwl3, Lib.hid ho3⟩
          case round =>
            obtain ⟨p, rfl, hp, hb4, hz4, ho4⟩ := hrel
            have HB4 := Lib.hid hb4
            clear hb4
            have HB5 := Lib.hid (HB2.out.trans (HB4.out.mono HB2.out.size))
            by_cases hpl : p < q
            . -- the state itself first
              obtain ⟨g, hg, -, hgl, hst⟩ := ho4.out.set (j := p) (by simp; omega)
              cases hg
              obtain ⟨⟨x0, hx0⟩, hf0, hset⟩ := hst wr rfl
              obtain ⟨W5, hW5⟩ : ∃ W5, W5 = wr.setCell ⟨V2.heap.size, p, none⟩ (.int .i64 (p : Int)) := ⟨_, rfl⟩
              have HO5 : Hid (RowO W5 (λ g => g = V2.heap.size) (.slice (some ⟨V2.heap.size, 0, none⟩) q q) (((List.range p).map (clsV a (r + 1)) ++ (List.replicate q (.int .i64 0 : Value)).drop p).set p (.int .i64 (p : Int)))) := Lib.hid (by rw [hW5]; exact hset _)
              have HB6 : Hid (Below V2.heap.size V2 W5) := Lib.hid (by rw [hW5]; exact HB4.out.setCell (p := ⟨V2.heap.size, p, none⟩) (Nat.le_refl _) _)
              have hz5 : V2.heap.size < W5.heap.size := by rw [hW5]; simpa [World.setCell] using hz4
              have HW5 := Lib.hid hW5
              clear hset hst hW5
              go_wp2_with fail
              rw [<- HW5.out]
              clear hx0 hf0
              go_loopw [9] (λ i wp => ∃ k : Nat, i = .int .i64 k /\ k <= p /\ Below W5.heap.size W5 wp /\ Hid (∀ k', k' < k -> same a (cls a r) k' p = false)) (λ i _ => p - (intOf i).toNat)
              case atStart => exact ⟨0, rfl, Nat.zero_le _, Below.refl _ _, Lib.hid (λ k' hk => absurd hk (Nat.not_lt_zero _))⟩
              case round =>
                obtain ⟨k, rfl, hk, hb7, hall⟩ := hrel
                have HB7 := Lib.hid hb7
                clear hb7
                have HBV := Lib.hid (HB6.out.trans (HB7.out.mono HB6.out.size))
                have HBW := Lib.hid (HB0.out.trans ((HB2.out.trans (HBV.out.mono HB2.out.size)).mono HB0.out.size))
                by_cases hkp : k < p
                . obtain ⟨bx, hbx⟩ : ∃ bx, bx = same a (cls a r) k p := ⟨_, rfl⟩
                  have HS := Lib.hid (HSame.out wr HBW.out r _ _ k p (HC2.out wr HBV.out) (by omega) hpl)
                  rw [<- hbx] at HS
                  have HBX := Lib.hid hbx
                  obtain ⟨c0, c1⟩ := HX.out.kept (HB2.out.trans (HBV.out.mono HB2.out.size))
                  clear hbx
                  go_wp2_with fail
                  go_at_call 131
                  refine HS.out.mono ?_
                  rintro e w8 ⟨rfl, hb8⟩
                  have HB8 := Lib.hid (HB7.out.trans (hb8.mono HB7.out.size))
                  clear hb8 c0 c1
                  cases bx with
                  | false =>
                    go_wp2_with fail
                    go_roundw
                    case rel => exact ⟨k + 1, by go_num, by omega, HB8.out, Lib.hid (λ k' hk' => by
                      by_cases e : k' = k
                      . rw [e]; exact HBX.out.symm
                      . exact hall.out k' (by omega))⟩
                    case measure => simp [intOf]; omega
                  | true =>
                    have hcl : cls a (r + 1) p = k := by
                      obtain ⟨f1, f2, f3⟩ := HFirst.out r p
                      show firstOf a (cls a r) p = k
                      rcases Nat.lt_trichotomy (firstOf a (cls a r) p) k with hl | he | hl
                      . have := hall.out _ hl
                        rw [f2] at this
                        cases this
                      . exact he
                      . have := f3 k hl
                        rw [<- HBX.out] at this
                        cases this
                    obtain ⟨g9, hg9, -, hgl9, hst9⟩ := (HO5.out.mono (w' := w8) (S' := λ g => g = V2.heap.size) (λ g hg => HB8.out.block g (by rw [hg]; exact hz5)) (λ _ h => h)).set (j := p) (by simp; omega)
                    cases hg9
                    obtain ⟨⟨x9, hx9⟩, hf9, hset9⟩ := hst9 w8 rfl
                    have HO9 : Hid (RowO (w8.setCell ⟨V2.heap.size, p, none⟩ (.int .i64 (k : Int))) (λ g => g = V2.heap.size) (.slice (some ⟨V2.heap.size, 0, none⟩) q q) ((List.range (p + 1)).map (clsV a (r + 1)) ++ (List.replicate q (.int .i64 0 : Value)).drop (p + 1))) := Lib.hid (by
                      have h1 := hset9 (clsV a (r + 1) p)
                      rw [List.set_set, set_zero _ q p hpl] at h1
                      rw [show clsV a (r + 1) p = .int .i64 (k : Int) by simp [clsV, hcl]] at h1
                      exact h1)
                    have HB9 := Lib.hid ((HB6.out.trans (HB8.out.mono HB6.out.size)).setCell (p := ⟨V2.heap.size, p, none⟩) (Nat.le_refl _) (.int .i64 (k : Int)))
                    have hz9 : V2.heap.size < (w8.setCell ⟨V2.heap.size, p, none⟩ (.int .i64 (k : Int))).heap.size := by have := HB8.out.size; simp [World.setCell]; omega
                    have HZ9 := Lib.hid hz9
                    clear hset9 hst9 hz9 hcl
                    go_wp2_with fail
                    go_roundw
                    case rel => exact ⟨p + 1, by go_num, by omega, HB9.out, HZ9.out, HO9.out⟩
                    case measure => simp [intOf]; omega
                . obtain rfl : k = p := by omega
                  have hcl : cls a (r + 1) k = k := by
                    obtain ⟨f1, f2, f3⟩ := HFirst.out r k
                    show firstOf a (cls a r) k = k
                    rcases Nat.lt_or_eq_of_le f1 with hl | he
                    . have := hall.out _ hl
                      rw [f2] at this
                      cases this
                    . exact he
                  have HO9 : Hid (RowO wr (λ g => g = V2.heap.size) (.slice (some ⟨V2.heap.size, 0, none⟩) q q) ((List.range (k + 1)).map (clsV a (r + 1)) ++ (List.replicate q (.int .i64 0 : Value)).drop (k + 1))) := Lib.hid (by
                    have h1 := HO5.out.mono (w' := wr) (S' := λ g => g = V2.heap.size) (λ g hg => HB7.out.block g (by rw [hg]; exact hz5)) (λ _ h => h)
                    rw [show (.int .i64 (k : Int) : Value) = clsV a (r + 1) k by simp [clsV, hcl], set_zero _ q k hpl] at h1
                    exact h1)
                  have hz9 : V2.heap.size < wr.heap.size := Nat.lt_of_lt_of_le hz5 HB7.out.size
                  have hd : decide ((k : Int) < (k : Int)) = false := by simp
                  clear hcl
                  go_wp2_with fail
                  go_roundw
                  case rel => exact ⟨k + 1, by go_num, by omega, HBV.out, hz9, HO9.out⟩
                  case measure => simp [intOf]; omega
            . obtain rfl : p = q := by omega
              have hd : decide ((p : Int) < (p : Int)) = false := by simp
              have HO9 : Hid (RowO wr (λ g => W0.heap.size <= g /\ g < wr.heap.size) (.slice (some ⟨V2.heap.size, 0, none⟩) p p) (ints (clsRow p (cls a (r + 1))))) := Lib.hid (by
                have h1 := ho4.out
                rw [zero_all] at h1
                rw [ints_cls]
                exact h1.mono (λ _ _ => rfl) (λ g hg => by rw [hg]; exact ⟨hz2r, hz4⟩))
              go_wp2_with fail
              go_roundw
              case rel => exact ⟨r + 1, _, _, by go_num, rfl, by omega, HB5.out, HO9.out⟩
              case measure => simp [intOf]; omega
        . obtain rfl : r = q + 1 := by omega
          have hd : decide (((q + 1 : Nat) : Int) <= (q : Int)) = false := by simp; omega
          have HR : Hid (RowO wr (OwnB w wr) (.slice A q m) (ints (clsRow q (cls a (q + 1))))) := Lib.hid (ho2.out.mono (λ _ _ => rfl) (λ g hg => ⟨Nat.le_trans HB0.out.size hg.1, hg.2⟩))
          go_wp2_with fail
          go_ret
          exact ⟨_, rfl, HR.out, HB0.out.trans (HB2.out.mono HB0.out.size)⟩
end Go.Proofs.YtiijlpmdnokjfaaGreatDoor
