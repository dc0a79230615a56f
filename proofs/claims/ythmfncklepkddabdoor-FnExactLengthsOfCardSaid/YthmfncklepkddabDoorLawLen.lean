/-
  laws.FnExactLengthsOf answers true at every argument, if LengthsOf and its model answer the same.
-/
import Derived.Test.YthmfncklepkddabDoorDfaZ
import Derived.Test.YthmfncklepkddabDoorSetI
import Derived.Test.YthmfncklepkddabDoorLenW
import Derived.Test.YthmfncklepkddabDoorLenI
import Derived.Test.YthmfncklepkddabDoorLongB
import Derived.Test.YthmfncklepkddabDoorLenU
import Derived.Outline
import Derived.Deep.RegionHeld3
import Derived.Deep.CutRange
namespace Go.Proofs.YthmfncklepkddabDoor
open Go.RowKit

set_option maxRecDepth 100000 in
set_option maxHeartbeats 6400000 in
theorem lawLen_walk (va0 vn0 : Value) (d0 : Dx)  (w : World) (hV0 : DfaV w (· < w.heap.size) va0 vn0 d0)  (HS0 : ∀ (S0 : Nat → Prop) (va0 vn0 : Value) (V : World), DfaV V S0 va0 vn0 d0 → Calls Tryd.prog 10 #[.agg #[va0, vn0]] V (LenPost d0 V)) (HI0 : ∀ (S0 : Nat → Prop) (va0 vn0 : Value) (V : World), DfaV V S0 va0 vn0 d0 → Tab V → Calls Tryd.prog 11 #[.agg #[va0, vn0]] V (LeiPost d0 V)) (hTab : Tab w) (hfit : wtD d0 ≤ 1048576) :
    Calls Tryd.prog 4 #[.agg #[va0, vn0]] w fun e w' => e = .returned (.bool true) ∧ Below w.heap.size w w' := by
  obtain ⟨WB, hWB⟩ : ∃ WB, WB = (w.alloc (.cells #[va0, vn0] 25)) := ⟨_, rfl⟩
  have hWBz : WB.heap.size = w.heap.size + 1 := by rw [hWB]; simp
  have HWB : Hid (Below w.heap.size w WB) := Lib.hid (by rw [hWB]; exact ((Below.refl w.heap.size w).alloc (Nat.le_refl _) _))
  have HTb := Lib.hid (fun (V : World) (hV : Below WB.heap.size WB V) => (hTab.kept HWB.out).kept hV)
  have HX0 : Hid (∀ V, Below WB.heap.size WB V → Bx2 V (w.heap.size) va0 vn0) := Lib.hid (fun V hV => by
    have k := box2_kept (w := w) (w1 := WB) (a := va0) (b := vn0) (t := 25) (by rw [hWB]; exact Below.refl _ _)
    exact Bx2.kept ⟨k.2.1, k.2.2.1⟩ hV)
  have HD0 := Lib.hid (fun (V : World) (hV : Below WB.heap.size WB V) => hV0.mono (w' := V) (S' := (· < w.heap.size)) (fun g hg => (hV.block g (by omega)).trans (HWB.out.block g hg)) (fun _ h => h))
  have HZ0 := Lib.hid (fun (V : World) (hV : Below WB.heap.size WB V) z hz0 hz1 => szDfa_any va0 vn0 d0 _ z V (HD0.out V hV) hz0 hz1)
  have HT0 := Lib.hid (fun (V : World) (hV : Below WB.heap.size WB V) => toDfa_any va0 vn0 d0 w.heap.size V (HD0.out V hV) (by have := hV.size; omega) (by omega))
  have HS := Lib.hid HS0
  have HI := Lib.hid HI0
  obtain ⟨q0, hq0⟩ : ∃ q : Int, q = 1048576 - (wtD d0 : Int) := ⟨_, rfl⟩
  have hp0 : 0 ≤ q0 := by omega
  have hl0 : q0 ≤ 1048576 := by omega
  have HQ0 := Lib.hid ((leftOf_yes (m := wtD d0) (z := 1048576) (by omega)).trans hq0.symm)
  have HWBe := Lib.hid hWB
  clear hq0 hWB HS0 HI0 hV0
  obtain ⟨r0m, hr0m⟩ : ∃ r, r = 1 + lenD d0 := ⟨_, rfl⟩
  have HMr0m := Lib.hid (fun S u u' V (h : DfaO V S u u' d0) hS => markDfa_any 1 u u' d0 S V h hS (by omega) (by have := lenD_le d0; omega))
  rw [← hr0m] at HMr0m
  have hneg : decide ((r0m : Int) < 0) = false := by simp
  clear hr0m
  go_enter Tryd.func4, Tryd.ntmps4
  have HB0 := Lib.hid (Below.refl WB.heap.size WB)
  have cq0 : (w.alloc (.cells #[va0, vn0] 25)).cell? ⟨w.heap.size, 0, none⟩ = some va0 := by rw [← HWBe.out]; exact (HX0.out WB HB0.out).1
  have cq1 : (w.alloc (.cells #[va0, vn0] 25)).cell? ⟨w.heap.size, 1, none⟩ = some vn0 := by rw [← HWBe.out]; exact (HX0.out WB HB0.out).2
  go_wp2_with fail
  rw [← HWBe.out]
  refine (HZ0.out WB HB0.out 1048576 (by omega) (by omega)).mono ?_
  rintro e w1 ⟨he, hb1⟩
  rw [HQ0.out] at he
  subst he
  have hz2 := (hb1).size
  have HB2 := Lib.hid (HB0.out.trans ((hb1).mono HB0.out.size))
  clear hb1
  clear cq0 cq1
  obtain ⟨c3, e3⟩ := HX0.out w1 HB2.out
  go_wp2_with fail
  go_at_call 7
  refine (HT0.out w1 HB2.out).mono ?_
  rintro e w4 hp
  obtain ⟨A4, m4, B4, r4, rfl, ho4, hb4⟩ := hp.shape
  clear hp
  have OT4 := Lib.hid ho4
  have hz5 := (hb4).size
  have HB5 := Lib.hid (HB2.out.trans ((hb4).mono HB2.out.size))
  clear ho4 hb4
  clear c3 e3
  go_wp2_with fail
  go_at_call 10
  refine ((HS.out _ (.slice A4 d0.acc.length m4) (.slice B4 d0.nxt.length r4) w4 OT4.out.dfa)).mono ?_
  rintro e w6 ⟨v6, o, p, hr, ho40, rfl, ho6, -, hb6⟩
  have HR := Lib.hid hr
  clear hr
  obtain ⟨ry, hry⟩ : ∃ ry, ry = 1 + o.length := ⟨_, rfl⟩
  have HMB := Lib.hid (fun (v : Value) (S : Nat → Prop) (V : World) (h : RowO V S v (bools o)) => markBoolS_long 1 v o S V h ho40 (by omega))
  have HHB := Lib.hid (fun (v : Value) (S : Nat → Prop) (V : World) (h : RowV V S v (bools (boolMark 1 o.length))) => heldBoolS_lb 1 o.length v S V h ho40 (by omega))
  rw [← hry] at HMB HHB
  have hnegy : decide ((ry : Int) < 0) = false := by simp
  have hnp : (p != p) = false := by simp
  have HO4 := Lib.hid ho40
  clear hry ho40
  have OT6 := Lib.hid ((RowO.of_owns ho6 (by have := HO4.out; omega)).mono (S' := OwnB w4 w6) (fun _ _ => rfl) (fun g hg => ho6.lt g hg))
  have hz7 := (hb6).size
  have HB7 := Lib.hid (HB5.out.trans ((hb6).mono HB5.out.size))
  have O8 := Lib.hid (OT4.out.kept (fun g hg => by have := hg.1; have := hg.2; omega) hb6)
  clear OT4
  clear ho6 hb6
  obtain ⟨c9, e9⟩ := HX0.out w6 HB7.out
  go_wp2_with fail
  go_at_call 7
  refine (HT0.out w6 HB7.out).mono ?_
  rintro e w10 hp
  obtain ⟨A10, m10, B10, r10, rfl, ho10, hb10⟩ := hp.shape
  clear hp
  have OT10 := Lib.hid ho10
  have hz11 := (hb10).size
  have HB11 := Lib.hid (HB7.out.trans ((hb10).mono HB7.out.size))
  have O12 := Lib.hid (OT6.out.mono (fun g hg => (hb10).block g (by have := hg.2; omega)) (fun _ h => h))
  clear OT6
  clear ho10 hb10
  clear c9 e9
  go_wp2_with fail
  obtain ⟨W13, hW13⟩ : ∃ W13, W13 = w10.alloc (.cells #[.slice A10 d0.acc.length m10, .slice B10 d0.nxt.length r10] 28) := ⟨_, rfl⟩
  have BN13 := box2_new w10 w10 w10.heap.size (.slice A10 d0.acc.length m10) (.slice B10 d0.nxt.length r10) 28 (Below.refl _ _) (Nat.le_refl _)
  rw [← hW13] at BN13 ⊢
  have hzb13 := BN13.2.2.2
  have hb13 : Below w10.heap.size w10 W13 := BN13.2.2.1
  have OB13 := Lib.hid BN13.2.1
  clear hW13 BN13
  have hz14 := (hb13).size
  have HB14 := Lib.hid (HB11.out.trans ((hb13).mono HB11.out.size))
  have O15 := Lib.hid (O12.out.mono (fun g hg => (hb13).block g (by have := hg.2; omega)) (fun _ h => h))
  have O16 := Lib.hid (OT10.out.kept (fun g hg => by have := hg.1; have := hg.2; omega) hb13)
  clear O12 OT10
  clear hb13
  go_at_call 11
  refine ((HI.out _ (.slice A10 d0.acc.length m10) (.slice B10 d0.nxt.length r10) W13 O16.out.dfa (HTb.out W13 HB14.out))).mono ?_
  rintro e w17 ⟨v17, o17, p17, hr17, -, rfl, ho17, hb17⟩
  obtain ⟨rfl, rfl⟩ := lenR_uniq HR.out hr17
  clear hr17
  have OT17 := Lib.hid ((RowO.of_owns ho17 (by have := HO4.out; omega)).mono (S' := OwnB W13 w17) (fun _ _ => rfl) (fun g hg => ho17.lt g hg))
  have hz18 := (hb17).size
  have HB18 := Lib.hid (HB14.out.trans ((hb17).mono HB14.out.size))
  have O19 := Lib.hid (O15.out.mono (fun g hg => (hb17).block g (by have := hg.2; omega)) (fun _ h => h))
  have O20 := Lib.hid (O16.out.kept (fun g hg => by have := hg.1; have := hg.2; omega) hb17)
  have O21 := Lib.hid (OB13.out.kept hb17)
  clear O15 O16 OB13
  clear ho17 hb17
  go_wp2_with fail
  go_at_call 12
  refine (eqBoolS_any _ _ o _ _ _ OT17.out.row O19.out.row).mono ?_
  rintro e we22 ⟨rfl, m22, rfl⟩
  obtain ⟨w23, hw23⟩ : ∃ x, x = w17.drewN m22 := ⟨_, rfl⟩
  have hb23 : Below w17.heap.size w17 w23 := by rw [hw23]; exact below_drewN (Below.refl _ _) m22
  rw [← hw23]
  clear hw23
  have hz24 := (hb23).size
  have HB24 := Lib.hid (HB18.out.trans ((hb23).mono HB18.out.size))
  have O25 := Lib.hid (O19.out.mono (fun g hg => (hb23).block g (by have := hg.2; omega)) (fun _ h => h))
  have O26 := Lib.hid (O20.out.kept (fun g hg => by have := hg.1; have := hg.2; omega) hb23)
  have O27 := Lib.hid (O21.out.kept hb23)
  have O28 := Lib.hid (OT17.out.mono (fun g hg => (hb23).block g (by have := hg.2; omega)) (fun _ h => h))
  clear O19 O20 O21 OT17
  clear hb23
  go_wp2_with fail
  have HK29 := Lib.hid (fun (V : World) (h : Below w23.heap.size w23 V) => (⟨(O27.out.kept h).1, (O27.out.kept h).2, (HX0.out V (HB24.out.trans (h.mono HB24.out.size))).1, (HX0.out V (HB24.out.trans (h.mono HB24.out.size))).2⟩ : V.cell? ⟨w10.heap.size, 0, none⟩ = some (.slice A10 d0.acc.length m10) ∧ V.cell? ⟨w10.heap.size, 1, none⟩ = some (.slice B10 d0.nxt.length r10) ∧ V.cell? ⟨w.heap.size, 0, none⟩ = some va0 ∧ V.cell? ⟨w.heap.size, 1, none⟩ = some vn0))
  have HL29 := Lib.hid (fun (V : World) (h : Below w23.heap.size w23 V) => HB24.out.trans (h.mono HB24.out.size))
  have HE29 := Lib.hid (fun (V : World) (h : Below w23.heap.size w23 V) u u' (hu : DfaV V (OwnB w23.drew V) u u' d0) => eqDfa_any (.slice A10 d0.acc.length m10) (.slice B10 d0.nxt.length r10) u u' d0 _ _ V (O26.out.dfa.kept h) hu)
  have hbw : Below w23.heap.size w23 w23 := Below.refl _ _
  go_region_held3 (fun V => V.cell? ⟨w10.heap.size, 0, none⟩ = some (.slice A10 d0.acc.length m10) ∧ V.cell? ⟨w10.heap.size, 1, none⟩ = some (.slice B10 d0.nxt.length r10) ∧ V.cell? ⟨w.heap.size, 0, none⟩ = some va0 ∧ V.cell? ⟨w.heap.size, 1, none⟩ = some vn0) (first | exact HK29.out _ hbw.drew | exact HK29.out _ hbw) (first | (go_at_call 7; (with_reducible refine (HT0.out _ (HL29.out _ hbw.drew)).mono ?_); rintro e wa hp; obtain ⟨Aa, ma, Ba, ra, rfl, hoa, hba⟩ := hp.shape; clear hp; have hbw := hbw.drew.trans (hba.mono hbw.drew.size)) | (go_at_call 9; (with_reducible refine (HE29.out _ hbw _ _ ?_).mono ?_); exact hoa.dfa; rintro e wb29 ⟨rfl, hbb⟩; have hbw := hbw.trans (hbb.mono hbw.size)))
  have hz30 := (hbw).size
  have HB30 := Lib.hid (HB24.out.trans ((hbw).mono HB24.out.size))
  have O31 := Lib.hid (O25.out.mono (fun g hg => (hbw).block g (by have := hg.2; omega)) (fun _ h => h))
  have O32 := Lib.hid (O26.out.kept (fun g hg => by have := hg.1; have := hg.2; omega) hbw)
  have O33 := Lib.hid (O27.out.kept hbw)
  have O34 := Lib.hid (O28.out.mono (fun g hg => (hbw).block g (by have := hg.2; omega)) (fun _ h => h))
  clear O25 O26 O27 O28
  clear hbw hoa hba hbb HK29 HL29 HE29
  obtain ⟨c35, e35⟩ := O33.out
  go_wp2_with fail
  go_at_call 13
  refine ((HMr0m.out (OwnB w6 w10) _ _ wb29 O32.out (fun g hg => by have := hg.2; omega))).mono ?_
  rintro e w36 ⟨rfl, hs36, hc36⟩
  have hz36 := hc36.size
  have HB36 := Lib.hid (HB30.out.trans (hc36.old (B := WB.heap.size) (fun g hg => by have := hg.1; omega) HB30.out.size))
  have O37 := Lib.hid (O31.out.mono (fun g hg => (hc36).block g (by have := hg.2; omega) (fun h => by have := h.1; have := h.2; have := hg.1; have := hg.2; omega)) (fun _ h => h))
  have O39 := Lib.hid (O33.out.chg hc36 (fun h => by have := h.1; have := h.2; omega))
  have O40 := Lib.hid (O34.out.mono (fun g hg => (hc36).block g (by have := hg.2; omega) (fun h => by have := h.1; have := h.2; have := hg.1; have := hg.2; omega)) (fun _ h => h))
  have OM36 := Lib.hid hs36
  clear O31 O32 O33 O34 hs36 hc36
  clear c35 e35
  go_wp2_with fail
  go_at_call 12
  refine (eqBoolS_any _ _ o _ _ _ O40.out.row O37.out.row).mono ?_
  rintro e we41 ⟨rfl, m41, rfl⟩
  obtain ⟨w42, hw42⟩ : ∃ x, x = w36.drewN m41 := ⟨_, rfl⟩
  have hb42 : Below w36.heap.size w36 w42 := by rw [hw42]; exact below_drewN (Below.refl _ _) m41
  rw [← hw42]
  clear hw42
  have hz43 := (hb42).size
  have HB43 := Lib.hid (HB36.out.trans ((hb42).mono HB36.out.size))
  have O44 := Lib.hid (O37.out.mono (fun g hg => (hb42).block g (by have := hg.2; omega)) (fun _ h => h))
  have O45 := Lib.hid (OM36.out.kept (fun g hg => by have := hg.1; have := hg.2; omega) hb42)
  have O46 := Lib.hid (O39.out.kept hb42)
  have O47 := Lib.hid (O40.out.mono (fun g hg => (hb42).block g (by have := hg.2; omega)) (fun _ h => h))
  clear O37 OM36 O39 O40
  clear hb42
  go_wp2_with fail
  go_at_call 14
  refine (HMB.out _ _ _ O47.out).mono ?_
  rintro e w48 ⟨rfl, ho48, hc48, hs48⟩
  have hz48 := hc48.size
  have OT48 := Lib.hid ho48
  have OO48 := Lib.hid (O44.out.mono (fun g hg => hc48.block g (by have := hg.2; omega) (fun h => by have := h.1; have := h.2; have := hg.1; have := hg.2; omega)) (fun _ h => h))
  have HB48 := Lib.hid (HB43.out.trans (hc48.old (B := WB.heap.size) (fun g hg => by have := hg.1; omega) HB43.out.size))
  clear O44 O45 O46 O47 ho48 hc48 hs48
  go_wp2_with fail
  go_at_call 15
  refine (HHB.out _ _ _ OT48.out.row).mono ?_
  rintro e w49 ⟨rfl, hb49⟩
  have hz50 := (hb49).size
  have HB50 := Lib.hid (HB48.out.trans ((hb49).mono HB48.out.size))
  have O51 := Lib.hid (OT48.out.mono (fun g hg => (hb49).block g (by have := hg.2; omega)) (fun _ h => h))
  have O52 := Lib.hid (OO48.out.mono (fun g hg => (hb49).block g (by have := hg.2; omega)) (fun _ h => h))
  clear OT48 OO48
  clear hb49
  obtain ⟨c53, e53⟩ := HX0.out w49 HB50.out
  go_wp2_with fail
  go_at_call 7
  refine (HT0.out w49 HB50.out).mono ?_
  rintro e w54 hp
  obtain ⟨A54, m54, B54, r54, rfl, ho54, hb54⟩ := hp.shape
  clear hp
  have OT54 := Lib.hid ho54
  have hz55 := (hb54).size
  have HB55 := Lib.hid (HB50.out.trans ((hb54).mono HB50.out.size))
  have O56 := Lib.hid (O51.out.mono (fun g hg => (hb54).block g (by have := hg.2; omega)) (fun _ h => h))
  have O57 := Lib.hid (O52.out.mono (fun g hg => (hb54).block g (by have := hg.2; omega)) (fun _ h => h))
  clear O51 O52
  clear ho54 hb54
  clear c53 e53
  go_wp2_with fail
  go_at_call 11
  refine ((HI.out _ (.slice A54 d0.acc.length m54) (.slice B54 d0.nxt.length r54) w54 OT54.out.dfa (HTb.out w54 HB55.out))).mono ?_
  rintro e w58 ⟨v58, o58, p58, hr58, -, rfl, ho58, hb58⟩
  obtain ⟨rfl, rfl⟩ := lenR_uniq HR.out hr58
  clear hr58
  have OT58 := Lib.hid ((RowO.of_owns ho58 (by have := HO4.out; omega)).mono (S' := OwnB w54 w58) (fun _ _ => rfl) (fun g hg => ho58.lt g hg))
  have hz59 := (hb58).size
  have HB59 := Lib.hid (HB55.out.trans ((hb58).mono HB55.out.size))
  have O60 := Lib.hid (O56.out.mono (fun g hg => (hb58).block g (by have := hg.2; omega)) (fun _ h => h))
  have O61 := Lib.hid (O57.out.mono (fun g hg => (hb58).block g (by have := hg.2; omega)) (fun _ h => h))
  have O62 := Lib.hid (OT54.out.kept (fun g hg => by have := hg.1; have := hg.2; omega) hb58)
  clear O56 O57 OT54
  clear ho58 hb58
  go_wp2_with fail
  go_at_call 12
  refine (eqBoolS_any _ _ o _ _ _ OT58.out.row O61.out.row).mono ?_
  rintro e we63 ⟨rfl, m63, rfl⟩
  obtain ⟨w64, hw64⟩ : ∃ x, x = w58.drewN m63 := ⟨_, rfl⟩
  have hb64 : Below w58.heap.size w58 w64 := by rw [hw64]; exact below_drewN (Below.refl _ _) m63
  rw [← hw64]
  clear hw64
  have hz65 := (hb64).size
  have HB65 := Lib.hid (HB59.out.trans ((hb64).mono HB59.out.size))
  have O66 := Lib.hid (O60.out.mono (fun g hg => (hb64).block g (by have := hg.2; omega)) (fun _ h => h))
  have O67 := Lib.hid (O61.out.mono (fun g hg => (hb64).block g (by have := hg.2; omega)) (fun _ h => h))
  have O68 := Lib.hid (O62.out.kept (fun g hg => by have := hg.1; have := hg.2; omega) hb64)
  have O69 := Lib.hid (OT58.out.mono (fun g hg => (hb64).block g (by have := hg.2; omega)) (fun _ h => h))
  clear O60 O61 O62 OT58
  clear hb64
  go_wp2_with fail
  go_at_call 15
  refine (HHB.out _ _ _ O66.out.row).mono ?_
  rintro e w70 ⟨rfl, hb70⟩
  have hz71 := (hb70).size
  have HB71 := Lib.hid (HB65.out.trans ((hb70).mono HB65.out.size))
  have O72 := Lib.hid (O66.out.mono (fun g hg => (hb70).block g (by have := hg.2; omega)) (fun _ h => h))
  have O73 := Lib.hid (O67.out.mono (fun g hg => (hb70).block g (by have := hg.2; omega)) (fun _ h => h))
  have O74 := Lib.hid (O68.out.kept (fun g hg => by have := hg.1; have := hg.2; omega) hb70)
  have O75 := Lib.hid (O69.out.mono (fun g hg => (hb70).block g (by have := hg.2; omega)) (fun _ h => h))
  clear O66 O67 O68 O69
  clear hb70
  go_wp2_with fail
  go_ret
  exact ⟨rfl, HWB.out.trans (HB71.out.mono HWB.out.size)⟩

set_option maxRecDepth 100000 in
set_option maxHeartbeats 1600000 in
theorem lawLen_any (va0 vn0 : Value) (d0 : Dx)  (w : World) (hV0 : DfaV w (· < w.heap.size) va0 vn0 d0)  (HS0 : ∀ (S0 : Nat → Prop) (va0 vn0 : Value) (V : World), DfaV V S0 va0 vn0 d0 → Calls Tryd.prog 10 #[.agg #[va0, vn0]] V (LenPost d0 V)) (HI0 : ∀ (S0 : Nat → Prop) (va0 vn0 : Value) (V : World), DfaV V S0 va0 vn0 d0 → Tab V → Calls Tryd.prog 11 #[.agg #[va0, vn0]] V (LeiPost d0 V)) (hTab : Tab w) :
    Calls Tryd.prog 4 #[.agg #[va0, vn0]] w fun e w' => e = .returned (.bool true) ∧ Below w.heap.size w w' := by
  by_cases hfit : wtD d0 ≤ 1048576
  · exact lawLen_walk va0 vn0 d0  w hV0  HS0 HI0 hTab hfit
  · skip
    have HB0 := Lib.hid ((Below.refl w.heap.size w).alloc (Nat.le_refl _) (.cells #[va0, vn0] 25))
    have HZ0 := Lib.hid (fun (V : World) (hV : Below w.heap.size w V) z hz0 hz1 => szDfa_any va0 vn0 d0 _ z V (hV0.mono (fun g hg => hV.block g hg) (fun _ h => h)) hz0 hz1)
    have HQ0 := Lib.hid (leftOf_no (m := wtD d0) (z := 1048576) (by omega))
    clear  hV0 HS0 HI0 hfit
    go_enter Tryd.func4, Tryd.ntmps4
    go_wp2_with fail
    refine (HZ0.out _ HB0.out 1048576 (by omega) (by omega)).mono ?_
    rintro e wz0 ⟨he, hb⟩
    rw [HQ0.out] at he
    subst he
    have HB1 := Lib.hid (HB0.out.trans (hb.mono HB0.out.size))
    clear hb
    go_wp2_with fail
    go_ret
    exact ⟨rfl, HB1.out⟩
end Go.Proofs.YthmfncklepkddabDoor
