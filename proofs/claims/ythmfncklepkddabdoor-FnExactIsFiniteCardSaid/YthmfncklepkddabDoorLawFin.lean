/-
  laws.FnExactIsFinite answers true at every argument, if IsFinite and its model answer the same.
-/
import Derived.Test.YthmfncklepkddabDoorDfaZ
import Derived.Test.YthmfncklepkddabDoorSetI
import Derived.Outline
import Derived.Deep.RegionHeld3
import Derived.Deep.CutRange
namespace Go.Proofs.YthmfncklepkddabDoor
open Go.RowKit

set_option maxRecDepth 100000 in
set_option maxHeartbeats 6400000 in
theorem lawFin_walk (va0 vn0 : Value) (d0 : Dx) (y0 : Bool) (w : World) (hV0 : DfaV w (· < w.heap.size) va0 vn0 d0)  (HS0 : ∀ (S0 : Nat → Prop) (va0 vn0 : Value) (V : World), DfaV V S0 va0 vn0 d0 → Calls Tryd.prog 6 #[.agg #[va0, vn0]] V (fun e w' => e = .returned (.bool y0) ∧ Below V.heap.size V w')) (HI0 : ∀ (S0 : Nat → Prop) (va0 vn0 : Value) (V : World), DfaV V S0 va0 vn0 d0 → Tab V → Calls Tryd.prog 8 #[.agg #[va0, vn0]] V (fun e w' => e = .returned (.bool y0) ∧ Below V.heap.size V w')) (hTab : Tab w) (hfit : wtD d0 ≤ 1048576) :
    Calls Tryd.prog 3 #[.agg #[va0, vn0]] w fun e w' => e = .returned (.bool true) ∧ Below w.heap.size w w' := by
  obtain ⟨WB, hWB⟩ : ∃ WB, WB = (w.alloc (.cells #[va0, vn0] 25)) := ⟨_, rfl⟩
  have hWBz : WB.heap.size = w.heap.size + 1 := by rw [hWB]; simp
  have HWB : Hid (Below w.heap.size w WB) := Lib.hid (by rw [hWB]; exact ((Below.refl w.heap.size w).alloc (Nat.le_refl _) _))
  have HTb := Lib.hid (fun (V : World) (hV : Below WB.heap.size WB V) => (hTab.kept HWB.out).kept hV)
  have HX0 : Hid (∀ V, Below WB.heap.size WB V → Bx2 V (w.heap.size) va0 vn0) := Lib.hid (fun V hV => by
    have k := box2_kept (w := w) (w1 := WB) (a := va0) (b := vn0) (t := 25) (by rw [hWB]; exact Below.refl _ _)
    exact Bx2.kept ⟨k.2.1, k.2.2.1⟩ hV)
  have HD0 := Lib.hid (fun (V : World) (hV : Below WB.heap.size WB V) => hV0.mono (w' := V) (S' := (· < w.heap.size)) (fun g hg => (hV.block g (by omega)).trans (HWB.out.block g hg)) (fun _ h => h))
  have HZ0 := Lib.hid (fun (V : World) (hV : Below WB.heap.size WB V) z hz0 hz1 => szDfa_any va0 vn0 d0 _ z V (HD0.out V hV) hz0 hz1)
  have HT0 := Lib.hid (fun (V : World) (hV : Below WB.heap.size WB V) => toDfa_any va0 vn0 d0 w.heap.size V (HD0.out V hV) (by have := hV.size; omega) (by omega))
  have HS := Lib.hid HS0
  have HI := Lib.hid HI0
  have hn0 : (y0 != y0) = false := by simp
  obtain ⟨q0, hq0⟩ : ∃ q : Int, q = 1048576 - (wtD d0 : Int) := ⟨_, rfl⟩
  have hp0 : 0 ≤ q0 := by omega
  have hl0 : q0 ≤ 1048576 := by omega
  have HQ0 := Lib.hid ((leftOf_yes (m := wtD d0) (z := 1048576) (by omega)).trans hq0.symm)
  have HWBe := Lib.hid hWB
  clear hq0 hWB HS0 HI0 hV0
  go_enter Tryd.func3, Tryd.ntmps3
  have HB0 := Lib.hid (Below.refl WB.heap.size WB)
  have cq0 : (w.alloc (.cells #[va0, vn0] 25)).cell? ⟨w.heap.size, 0, none⟩ = some va0 := by rw [← HWBe.out]; exact (HX0.out WB HB0.out).1
  have cq1 : (w.alloc (.cells #[va0, vn0] 25)).cell? ⟨w.heap.size, 1, none⟩ = some vn0 := by rw [← HWBe.out]; exact (HX0.out WB HB0.out).2
  go_wp2_with fail
  rw [← HWBe.out]
  refine (HZ0.out WB HB0.out 1048576 (by omega) (by omega)).mono ?_
  rintro e w1 ⟨he, hb1⟩
  rw [HQ0.out] at he
  subst he
  have hz2 := (hb1).size
  have HB2 := Lib.hid (HB0.out.trans ((hb1).mono HB0.out.size))
  clear hb1
  clear cq0 cq1
  obtain ⟨c3, e3⟩ := HX0.out w1 HB2.out
  go_wp2_with fail
  go_at_call 7
  refine (HT0.out w1 HB2.out).mono ?_
  rintro e w4 hp
  obtain ⟨A4, m4, B4, r4, rfl, ho4, hb4⟩ := hp.shape
  clear hp
  have OT4 := Lib.hid ho4
  have hz5 := (hb4).size
  have HB5 := Lib.hid (HB2.out.trans ((hb4).mono HB2.out.size))
  clear ho4 hb4
  clear c3 e3
  go_wp2_with fail
  go_at_call 6
  refine ((HS.out _ (.slice A4 d0.acc.length m4) (.slice B4 d0.nxt.length r4) w4 OT4.out.dfa)).mono ?_
  rintro e w6 ⟨rfl, hb6⟩
  have hz7 := (hb6).size
  have HB7 := Lib.hid (HB5.out.trans ((hb6).mono HB5.out.size))
  have O8 := Lib.hid (OT4.out.kept (fun g hg => by have := hg.1; have := hg.2; omega) hb6)
  clear OT4
  clear hb6
  obtain ⟨c9, e9⟩ := HX0.out w6 HB7.out
  go_wp2_with fail
  go_at_call 7
  refine (HT0.out w6 HB7.out).mono ?_
  rintro e w10 hp
  obtain ⟨A10, m10, B10, r10, rfl, ho10, hb10⟩ := hp.shape
  clear hp
  have OT10 := Lib.hid ho10
  have hz11 := (hb10).size
  have HB11 := Lib.hid (HB7.out.trans ((hb10).mono HB7.out.size))
  have O12 := Lib.hid (O8.out.kept (fun g hg => by have := hg.1; have := hg.2; omega) hb10)
  clear O8
  clear ho10 hb10
  clear c9 e9
  go_wp2_with fail
  obtain ⟨W13, hW13⟩ : ∃ W13, W13 = w10.alloc (.cells #[.slice A10 d0.acc.length m10, .slice B10 d0.nxt.length r10] 28) := ⟨_, rfl⟩
  have BN13 := box2_new w10 w10 w10.heap.size (.slice A10 d0.acc.length m10) (.slice B10 d0.nxt.length r10) 28 (Below.refl _ _) (Nat.le_refl _)
  rw [← hW13] at BN13 ⊢
  have hzb13 := BN13.2.2.2
  have hb13 : Below w10.heap.size w10 W13 := BN13.2.2.1
  have OB13 := Lib.hid BN13.2.1
  clear hW13 BN13
  have hz14 := (hb13).size
  have HB14 := Lib.hid (HB11.out.trans ((hb13).mono HB11.out.size))
  have O15 := Lib.hid (O12.out.kept (fun g hg => by have := hg.1; have := hg.2; omega) hb13)
  have O16 := Lib.hid (OT10.out.kept (fun g hg => by have := hg.1; have := hg.2; omega) hb13)
  clear O12 OT10
  clear hb13
  go_at_call 8
  refine ((HI.out _ (.slice A10 d0.acc.length m10) (.slice B10 d0.nxt.length r10) W13 O16.out.dfa (HTb.out W13 HB14.out))).mono ?_
  rintro e w17 ⟨rfl, hb17⟩
  have hz18 := (hb17).size
  have HB18 := Lib.hid (HB14.out.trans ((hb17).mono HB14.out.size))
  have O19 := Lib.hid (O15.out.kept (fun g hg => by have := hg.1; have := hg.2; omega) hb17)
  have O20 := Lib.hid (O16.out.kept (fun g hg => by have := hg.1; have := hg.2; omega) hb17)
  have O21 := Lib.hid (OB13.out.kept hb17)
  clear O15 O16 OB13
  clear hb17
  go_wp2_with fail
  have HK22 := Lib.hid (fun (V : World) (h : Below w17.heap.size w17 V) => (⟨(O21.out.kept h).1, (O21.out.kept h).2, (HX0.out V (HB18.out.trans (h.mono HB18.out.size))).1, (HX0.out V (HB18.out.trans (h.mono HB18.out.size))).2⟩ : V.cell? ⟨w10.heap.size, 0, none⟩ = some (.slice A10 d0.acc.length m10) ∧ V.cell? ⟨w10.heap.size, 1, none⟩ = some (.slice B10 d0.nxt.length r10) ∧ V.cell? ⟨w.heap.size, 0, none⟩ = some va0 ∧ V.cell? ⟨w.heap.size, 1, none⟩ = some vn0))
  have HL22 := Lib.hid (fun (V : World) (h : Below w17.heap.size w17 V) => HB18.out.trans (h.mono HB18.out.size))
  have HE22 := Lib.hid (fun (V : World) (h : Below w17.heap.size w17 V) u u' (hu : DfaV V (OwnB w17.drew V) u u' d0) => eqDfa_any (.slice A10 d0.acc.length m10) (.slice B10 d0.nxt.length r10) u u' d0 _ _ V (O20.out.dfa.kept h) hu)
  have hbw : Below w17.heap.size w17 w17 := Below.refl _ _
  go_region_held3 (fun V => V.cell? ⟨w10.heap.size, 0, none⟩ = some (.slice A10 d0.acc.length m10) ∧ V.cell? ⟨w10.heap.size, 1, none⟩ = some (.slice B10 d0.nxt.length r10) ∧ V.cell? ⟨w.heap.size, 0, none⟩ = some va0 ∧ V.cell? ⟨w.heap.size, 1, none⟩ = some vn0) (first | exact HK22.out _ hbw.drew | exact HK22.out _ hbw) (first | (go_at_call 7; (with_reducible refine (HT0.out _ (HL22.out _ hbw.drew)).mono ?_); rintro e wa hp; obtain ⟨Aa, ma, Ba, ra, rfl, hoa, hba⟩ := hp.shape; clear hp; have hbw := hbw.drew.trans (hba.mono hbw.drew.size)) | (go_at_call 9; (with_reducible refine (HE22.out _ hbw _ _ ?_).mono ?_); exact hoa.dfa; rintro e wb22 ⟨rfl, hbb⟩; have hbw := hbw.trans (hbb.mono hbw.size)))
  have hz23 := (hbw).size
  have HB23 := Lib.hid (HB18.out.trans ((hbw).mono HB18.out.size))
  have O24 := Lib.hid (O19.out.kept (fun g hg => by have := hg.1; have := hg.2; omega) hbw)
  have O25 := Lib.hid (O20.out.kept (fun g hg => by have := hg.1; have := hg.2; omega) hbw)
  have O26 := Lib.hid (O21.out.kept hbw)
  clear O19 O20 O21
  clear hbw hoa hba hbb HK22 HL22 HE22
  go_wp2_with fail
  go_ret
  exact ⟨rfl, HWB.out.trans (HB23.out.mono HWB.out.size)⟩

set_option maxRecDepth 100000 in
set_option maxHeartbeats 1600000 in
theorem lawFin_any (va0 vn0 : Value) (d0 : Dx) (y0 : Bool) (w : World) (hV0 : DfaV w (· < w.heap.size) va0 vn0 d0)  (HS0 : ∀ (S0 : Nat → Prop) (va0 vn0 : Value) (V : World), DfaV V S0 va0 vn0 d0 → Calls Tryd.prog 6 #[.agg #[va0, vn0]] V (fun e w' => e = .returned (.bool y0) ∧ Below V.heap.size V w')) (HI0 : ∀ (S0 : Nat → Prop) (va0 vn0 : Value) (V : World), DfaV V S0 va0 vn0 d0 → Tab V → Calls Tryd.prog 8 #[.agg #[va0, vn0]] V (fun e w' => e = .returned (.bool y0) ∧ Below V.heap.size V w')) (hTab : Tab w) :
    Calls Tryd.prog 3 #[.agg #[va0, vn0]] w fun e w' => e = .returned (.bool true) ∧ Below w.heap.size w w' := by
  by_cases hfit : wtD d0 ≤ 1048576
  · exact lawFin_walk va0 vn0 d0 y0 w hV0  HS0 HI0 hTab hfit
  · skip
    have HB0 := Lib.hid ((Below.refl w.heap.size w).alloc (Nat.le_refl _) (.cells #[va0, vn0] 25))
    have HZ0 := Lib.hid (fun (V : World) (hV : Below w.heap.size w V) z hz0 hz1 => szDfa_any va0 vn0 d0 _ z V (hV0.mono (fun g hg => hV.block g hg) (fun _ h => h)) hz0 hz1)
    have HQ0 := Lib.hid (leftOf_no (m := wtD d0) (z := 1048576) (by omega))
    clear  hV0 HS0 HI0 hfit
    go_enter Tryd.func3, Tryd.ntmps3
    go_wp2_with fail
    refine (HZ0.out _ HB0.out 1048576 (by omega) (by omega)).mono ?_
    rintro e wz0 ⟨he, hb⟩
    rw [HQ0.out] at he
    subst he
    have HB1 := Lib.hid (HB0.out.trans (hb.mono HB0.out.size))
    clear hb
    go_wp2_with fail
    go_ret
    exact ⟨rfl, HB1.out⟩
end Go.Proofs.YthmfncklepkddabDoor
