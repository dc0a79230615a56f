/-
  laws.FnExactMatchRegex answers true at every expression and string.
-/
import Derived.Test.YtichpiklgkahbaaMatchS
import Derived.Test.YtichpiklgkahbaaSz
import Derived.Test.YtichpiklgkahbaaTo
import Derived.Test.YtichpiklgkahbaaEqS
import Derived.Deep.RegionWith
namespace Go.Proofs.Ytichpiklgkahbaa
open Go.RowKit

set_option maxHeartbeats 1600000 in
theorem lawMatch_walk (n : Nat) (k : Int) (l : ByteArray) (u : Value) (a : Fr) (s : ByteArray) (w : World) (hss : s.size ≤ 1048576) (hS : Sl w w.heap.size n u a) (hls : l.size ≤ 9223372036854775807) :
    Calls Try.prog 4 #[.agg #[.int .i64 k, .string l, u], .string s] w fun e w' => e = .returned (.bool true) ∧ Below w.heap.size w w' := by
  have e1 : decide ((s.size : Int) > 1048576) = false := by simp; omega
  have HB0 := Lib.hid ((Below.refl w.heap.size w).alloc (Nat.le_refl _) (.cells #[.int .i64 k, .string l, u] 37))
  have HZ := Lib.hid (fun wr (hb : Below w.heap.size w wr) => szNode_of (szS_any n) w.heap.size k l u a 1048576 wr (hS.mono hb (Nat.le_refl _)) hb.size hls (by omega) (by omega))
  by_cases hfit : ((l.size + wt a : Nat) : Int) ≤ 1048576
  · have hsz : a.size ≤ 2097152 := by have := size_wt a; omega
    have HT := Lib.hid (fun wr (hb : Below w.heap.size w wr) => toNode_of (toS_any n) w.heap.size k l u a wr (hS.mono hb (Nat.le_refl _)) hb.size hsz)
    have HSV := Lib.hid (fun v wr (h : Sl wr wr.heap.size n v a) => specMatch_any n wr.heap.size k l v a s wr h (Nat.le_refl _) hsz hls (by omega))
    have HIV := Lib.hid (fun v wr (h : Sl wr wr.heap.size n v a) => implMatch_any n wr.heap.size k l v a s wr h (Nat.le_refl _) hsz hls (by omega))
    obtain ⟨vm, hvm⟩ : ∃ vm, vm = matchRx k l a s.data.toList := ⟨_, rfl⟩
    rw [← hvm] at HSV HIV
    clear hvm
    have hpos : 0 ≤ (1048576 : Int) - ((l.size + wt a : Nat) : Int) := by omega
    obtain ⟨q, hq⟩ : ∃ q : Int, q = 1048576 - ((l.size + wt a : Nat) : Int) := ⟨_, rfl⟩
    rw [← hq] at hpos
    have HQ := Lib.hid ((leftOf_yes hfit).trans hq.symm)
    clear hS hq hfit hsz
    go_enter Try.func4, Try.ntmps4
    go_wp2_with fail
    refine (HZ.out _ HB0.out).mono ?_
    rintro e w1 ⟨he, hb1⟩
    rw [HQ.out] at he
    subst he
    have hb1' : Below (w.heap.size + 1) (w.alloc (.cells #[.int .i64 k, .string l, u] 37)) w1 := by simpa using hb1
    obtain ⟨c0, c1, c2⟩ := box_cells hb1'
    have HB1 := Lib.hid hb1'
    have hz1 := hb1'.size
    rw [World.size_alloc] at hz1
    have HW1 := Lib.hid (HB0.out.trans (hb1'.mono (Nat.le_succ _)))
    clear hb1 hb1'
    go_wp2_with fail
    refine (HT.out _ HW1.out).mono ?_
    rintro e w2 ⟨v2, rfl, hsl2, hb2⟩
    obtain ⟨A2, q2, rfl⟩ := hsl2.shape
    have HS2 := Lib.hid (own_sl hsl2)
    have HB2 := Lib.hid (HB1.out.trans (hb2.mono hz1))
    have HW2 := Lib.hid (HW1.out.trans (hb2.mono (by omega)))
    have hz2 := hb2.size
    clear hsl2 hb2 c0 c1 c2
    go_wp2_with fail
    refine (HSV.out _ _ HS2.out).mono ?_
    rintro e w3 ⟨rfl, hb3⟩
    have HB3 := Lib.hid (HB2.out.trans (hb3.mono (by omega)))
    obtain ⟨c0, c1, c2⟩ := box_cells HB3.out
    have HW3 := Lib.hid (HW2.out.trans (hb3.mono (by omega)))
    have hz3 := hb3.size
    clear hb3
    go_wp2_with fail
    refine (HT.out _ HW3.out).mono ?_
    rintro e w4 ⟨v4, rfl, hsl4, hb4⟩
    obtain ⟨A4, q4, rfl⟩ := hsl4.shape
    have HB4 := Lib.hid (HB3.out.trans (hb4.mono (by omega)))
    have HW4 := Lib.hid (HW3.out.trans (hb4.mono (by omega)))
    have HS4 := Lib.hid ((own_sl hsl4).mono ((Below.refl w4.heap.size w4).alloc (Nat.le_refl _) (.cells #[.int .i64 k, .string l, .slice A4 a.items.length q4] 26)) (show w4.heap.size ≤ (w4.alloc (.cells #[.int .i64 k, .string l, .slice A4 a.items.length q4] 26)).heap.size by simp))
    have hz4 := hb4.size
    clear hsl4 hb4 c0 c1 c2
    go_wp2_with fail
    refine (HIV.out _ _ HS4.out).mono ?_
    rintro e w6 ⟨rfl, hb6⟩
    have hb6' : Below (w4.heap.size + 1) (w4.alloc (.cells #[.int .i64 k, .string l, .slice A4 a.items.length q4] 26)) w6 := by simpa using hb6
    obtain ⟨d0, d1, d2⟩ := box_cells hb6'
    have hz6 := hb6'.size
    rw [World.size_alloc] at hz6
    have hb46 : Below w4.heap.size w4 w6 := ((Below.refl _ _).alloc (Nat.le_refl _) _).trans (hb6'.mono (Nat.le_succ _))
    have HB6 := Lib.hid (HB4.out.trans (hb46.mono (by omega)))
    obtain ⟨c0, c1, c2⟩ := box_cells HB6.out
    have HW6 := Lib.hid (HW4.out.trans (hb46.mono (by omega)))
    have HS6 := Lib.hid (HS4.out.mono hb6 hb6.size)
    have HTk := Lib.hid (HT.out w6.drew HW6.out.drew)
    have HEq := Lib.hid (fun v w7 (hs : SlP w7 (fun g => w6.drew.heap.size ≤ g ∧ g < w7.heap.size) n v a) (hb7 : Below w6.drew.heap.size w6.drew w7) =>
      eqNode_of (fun B u u' f w => eqS_any n n B u u' f w) w7.heap.size k l (.slice A4 a.items.length q4) v a w7 ((HS6.out.mono ((Below.refl _ w6).drew) (Nat.le_refl _)).mono hb7 hb7.size) (own_sl hs) (Nat.le_refl _))
    clear hb6 hb6' hb46
    go_wp2_with fail
    go_region_with (first | (go_at_call 19; refine HTk.out.mono ?_; rintro e w7 ⟨v7, rfl, hs7, hb7⟩; obtain ⟨A7, q7, rfl⟩ := hs7.shape; have e0 := (hb7.cell (p := ⟨w4.heap.size, 0, none⟩) (show w4.heap.size < w6.heap.size by omega)).trans d0; have e1 := (hb7.cell (p := ⟨w4.heap.size, 1, none⟩) (show w4.heap.size < w6.heap.size by omega)).trans d1; have e2 := (hb7.cell (p := ⟨w4.heap.size, 2, none⟩) (show w4.heap.size < w6.heap.size by omega)).trans d2) | (go_at_call 20; refine (HEq.out _ _ hs7 hb7).mono ?_; rintro e w8 ⟨rfl, hb8⟩))
    all_goals
      have HW8 := Lib.hid ((HW6.out.drew.trans (hb7.mono HW6.out.drew.size)).trans (hb8.mono (Nat.le_trans HW6.out.drew.size hb7.size)))
      clear hs7 hb7 hb8 e0 e1 e2
      go_wp2_with fail
      go_ret
      exact ⟨rfl, HW8.out⟩
  · have HQ := Lib.hid (leftOf_no (m := l.size + wt a) (z := 1048576) hfit)
    clear hS hfit
    go_enter Try.func4, Try.ntmps4
    go_wp2_with fail
    refine (HZ.out _ HB0.out).mono ?_
    rintro e w1 ⟨he, hb1⟩
    rw [HQ.out] at he
    subst he
    have HW1 := Lib.hid (HB0.out.trans (hb1.mono (by simp)))
    clear hb1
    go_wp2_with fail
    go_ret
    exact ⟨rfl, HW1.out⟩

theorem lawMatch_any (n : Nat) (k : Int) (l : ByteArray) (u : Value) (a : Fr) (s : ByteArray) (w : World) (hS : Sl w w.heap.size n u a) (hls : l.size ≤ 9223372036854775807) (hss : s.size ≤ 9223372036854775807) :
    Calls Try.prog 4 #[.agg #[.int .i64 k, .string l, u], .string s] w fun e w' => e = .returned (.bool true) ∧ Below w.heap.size w w' := by
  by_cases hz : 1048576 < s.size
  · have e1 : decide ((s.size : Int) > 1048576) = true := by simp; omega
    have HB0 := Lib.hid ((Below.refl w.heap.size w).alloc (Nat.le_refl _) (.cells #[.int .i64 k, .string l, u] 37))
    clear hS
    go_enter Try.func4, Try.ntmps4
    go_wp2_with fail
    go_ret
    exact ⟨rfl, HB0.out⟩
  · exact lawMatch_walk n k l u a s w (by omega) hS hls
end Go.Proofs.Ytichpiklgkahbaa
