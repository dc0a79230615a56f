/-
  laws.FnExactComplementDfa answers true at every argument, if ComplementDfa and its model answer the same.
-/
import Derived.Test.YthmfncklepkddaaDfaZ
import Derived.Test.YthmfncklepkddaaDfaH
import Derived.Outline
import Derived.Deep.RegionHeld3
import Derived.Deep.CutRange
namespace Go.Proofs.Ythmfncklepkddaa
open Go.RowKit

set_option maxRecDepth 100000 in
set_option maxHeartbeats 6400000 in
theorem lawCom_walk (va0 vn0 : Value) (d0 : Dx) (y0 : Dx) (w : World) (hV0 : DfaV w (· < w.heap.size) va0 vn0 d0)  (HS0 : ∀ (S0 : Nat → Prop) (va0 vn0 : Value) (V : World), DfaV V S0 va0 vn0 d0 → Calls Try.prog 27 #[.agg #[va0, vn0]] V (CopyD y0 V)) (HI0 : ∀ (S0 : Nat → Prop) (va0 vn0 : Value) (V : World), DfaV V S0 va0 vn0 d0 → Calls Try.prog 26 #[.agg #[va0, vn0]] V (CopyD y0 V)) (hyw : wtD y0 ≤ 1048576) (hfit : wtD d0 ≤ 1048576) :
    Calls Try.prog 8 #[.agg #[va0, vn0]] w fun e w' => e = .returned (.bool true) ∧ Below w.heap.size w w' := by
  obtain ⟨WB, hWB⟩ : ∃ WB, WB = (w.alloc (.cells #[va0, vn0] 49)) := ⟨_, rfl⟩
  have hWBz : WB.heap.size = w.heap.size + 1 := by rw [hWB]; simp
  have HWB : Hid (Below w.heap.size w WB) := Lib.hid (by rw [hWB]; exact ((Below.refl w.heap.size w).alloc (Nat.le_refl _) _))
  have HX0 : Hid (∀ V, Below WB.heap.size WB V → Bx2 V (w.heap.size) va0 vn0) := Lib.hid (fun V hV => by
    have k := box2_kept (w := w) (w1 := WB) (a := va0) (b := vn0) (t := 49) (by rw [hWB]; exact Below.refl _ _)
    exact Bx2.kept ⟨k.2.1, k.2.2.1⟩ hV)
  have HD0 := Lib.hid (fun (V : World) (hV : Below WB.heap.size WB V) => hV0.mono (w' := V) (S' := (· < w.heap.size)) (fun g hg => (hV.block g (by omega)).trans (HWB.out.block g hg)) (fun _ h => h))
  have HZ0 := Lib.hid (fun (V : World) (hV : Below WB.heap.size WB V) z hz0 hz1 => szDfa_any va0 vn0 d0 _ z V (HD0.out V hV) hz0 hz1)
  have HT0 := Lib.hid (fun (V : World) (hV : Below WB.heap.size WB V) => toDfa_any va0 vn0 d0 w.heap.size V (HD0.out V hV) (by have := hV.size; omega) (by omega))
  have HS := Lib.hid HS0
  have HI := Lib.hid HI0
  obtain ⟨r0m, hr0m⟩ : ∃ r0m, r0m = 1 + lenD d0 := ⟨_, rfl⟩
  have HMr0m := Lib.hid (fun S u u' V (h : DfaO V S u u' d0) hS => markDfa_any 1 u u' d0 S V h hS (by omega) (by have := lenD_le d0; have := lenD_le d0; omega))
  rw [← hr0m] at HMr0m
  obtain ⟨ry, hry⟩ : ∃ ry, ry = 1 + lenD y0 := ⟨_, rfl⟩
  have HMry := Lib.hid (fun S u u' V (h : DfaO V S u u' y0) hS => markDfa_any 1 u u' y0 S V h hS (by omega) (by omega))
  have HH := Lib.hid (fun S u u' V (h : DfaV V S u u' (markD 1 y0)) => heldDfa_any 1 u u' y0 S V h (by omega) (by omega))
  rw [← hry] at HMry HH
  have hneg : decide ((r0m : Int) < 0) = false := by simp
  have hnegy : decide ((ry : Int) < 0) = false := by simp
  clear hry hr0m
  obtain ⟨q0, hq0⟩ : ∃ q : Int, q = 1048576 - (wtD d0 : Int) := ⟨_, rfl⟩
  have hp0 : 0 ≤ q0 := by omega
  have hl0 : q0 ≤ 1048576 := by omega
  have HQ0 := Lib.hid ((leftOf_yes (m := wtD d0) (z := 1048576) (by omega)).trans hq0.symm)
  have HWBe := Lib.hid hWB
  clear hq0 hWB HS0 HI0 hV0
  go_enter Try.func8, Try.ntmps8
  have HB0 := Lib.hid (Below.refl WB.heap.size WB)
  have cq0 : (w.alloc (.cells #[va0, vn0] 49)).cell? ⟨w.heap.size, 0, none⟩ = some va0 := by rw [← HWBe.out]; exact (HX0.out WB HB0.out).1
  have cq1 : (w.alloc (.cells #[va0, vn0] 49)).cell? ⟨w.heap.size, 1, none⟩ = some vn0 := by rw [← HWBe.out]; exact (HX0.out WB HB0.out).2
  go_wp2_with fail
  rw [← HWBe.out]
  refine (HZ0.out WB HB0.out 1048576 (by omega) (by omega)).mono ?_
  rintro e w1 ⟨he, hb1⟩
  rw [HQ0.out] at he
  subst he
  have hz2 := (hb1).size
  have HB2 := Lib.hid (HB0.out.trans ((hb1).mono HB0.out.size))
  clear hb1
  clear cq0 cq1
  obtain ⟨c3, e3⟩ := HX0.out w1 HB2.out
  go_wp2_with fail
  go_at_call 40
  refine (HT0.out w1 HB2.out).mono ?_
  rintro e w4 hp
  obtain ⟨A4, m4, B4, r4, rfl, ho4, hb4⟩ := hp.shape
  clear hp
  have OT4 := Lib.hid ho4
  have hz5 := (hb4).size
  have HB5 := Lib.hid (HB2.out.trans ((hb4).mono HB2.out.size))
  clear ho4 hb4
  clear c3 e3
  go_wp2_with fail
  go_at_call 27
  refine ((HS.out _ (.slice A4 d0.acc.length m4) (.slice B4 d0.nxt.length r4) w4 OT4.out.dfa)).mono ?_
  rintro e w6 hp
  obtain ⟨A6, m6, B6, r6, rfl, ho6, hb6⟩ := hp.shape
  clear hp
  have OT6 := Lib.hid ho6
  have hz7 := (hb6).size
  have HB7 := Lib.hid (HB5.out.trans ((hb6).mono HB5.out.size))
  have O8 := Lib.hid (OT4.out.kept (fun g hg => by have := hg.1; have := hg.2; omega) hb6)
  clear OT4
  clear ho6 hb6
  obtain ⟨c9, e9⟩ := HX0.out (w6.alloc (.cells #[.slice A6 y0.acc.length m6, .slice B6 y0.nxt.length r6] 27)) (HB7.out.alloc HB7.out.size _)
  go_wp2_with fail
  obtain ⟨W10, hW10⟩ : ∃ W10, W10 = w6.alloc (.cells #[.slice A6 y0.acc.length m6, .slice B6 y0.nxt.length r6] 27) := ⟨_, rfl⟩
  have BN10 := box2_new w6 w6 w6.heap.size (.slice A6 y0.acc.length m6) (.slice B6 y0.nxt.length r6) 27 (Below.refl _ _) (Nat.le_refl _)
  rw [← hW10] at BN10 ⊢
  have hzb10 := BN10.2.2.2
  have hb10 : Below w6.heap.size w6 W10 := BN10.2.2.1
  have OB10 := Lib.hid BN10.2.1
  clear hW10 BN10
  have hz11 := (hb10).size
  have HB11 := Lib.hid (HB7.out.trans ((hb10).mono HB7.out.size))
  have O12 := Lib.hid (O8.out.kept (fun g hg => by have := hg.1; have := hg.2; omega) hb10)
  have O13 := Lib.hid (OT6.out.kept (fun g hg => by have := hg.1; have := hg.2; omega) hb10)
  clear O8 OT6
  clear hb10
  go_at_call 40
  refine (HT0.out W10 HB11.out).mono ?_
  rintro e w14 hp
  obtain ⟨A14, m14, B14, r14, rfl, ho14, hb14⟩ := hp.shape
  clear hp
  have OT14 := Lib.hid ho14
  have hz15 := (hb14).size
  have HB15 := Lib.hid (HB11.out.trans ((hb14).mono HB11.out.size))
  have O16 := Lib.hid (O12.out.kept (fun g hg => by have := hg.1; have := hg.2; omega) hb14)
  have O17 := Lib.hid (O13.out.kept (fun g hg => by have := hg.1; have := hg.2; omega) hb14)
  have O18 := Lib.hid (OB10.out.kept hb14)
  clear O12 O13 OB10
  clear ho14 hb14
  clear c9 e9
  go_wp2_with fail
  obtain ⟨W19, hW19⟩ : ∃ W19, W19 = w14.alloc (.cells #[.slice A14 d0.acc.length m14, .slice B14 d0.nxt.length r14] 27) := ⟨_, rfl⟩
  have BN19 := box2_new w14 w14 w14.heap.size (.slice A14 d0.acc.length m14) (.slice B14 d0.nxt.length r14) 27 (Below.refl _ _) (Nat.le_refl _)
  rw [← hW19] at BN19 ⊢
  have hzb19 := BN19.2.2.2
  have hb19 : Below w14.heap.size w14 W19 := BN19.2.2.1
  have OB19 := Lib.hid BN19.2.1
  clear hW19 BN19
  have hz20 := (hb19).size
  have HB20 := Lib.hid (HB15.out.trans ((hb19).mono HB15.out.size))
  have O21 := Lib.hid (O16.out.kept (fun g hg => by have := hg.1; have := hg.2; omega) hb19)
  have O22 := Lib.hid (O17.out.kept (fun g hg => by have := hg.1; have := hg.2; omega) hb19)
  have O23 := Lib.hid (O18.out.kept hb19)
  have O24 := Lib.hid (OT14.out.kept (fun g hg => by have := hg.1; have := hg.2; omega) hb19)
  clear O16 O17 O18 OT14
  clear hb19
  go_at_call 26
  refine ((HI.out _ (.slice A14 d0.acc.length m14) (.slice B14 d0.nxt.length r14) W19 O24.out.dfa)).mono ?_
  rintro e w25 hp
  obtain ⟨A25, m25, B25, r25, rfl, ho25, hb25⟩ := hp.shape
  clear hp
  have OT25 := Lib.hid ho25
  have hz26 := (hb25).size
  have HB26 := Lib.hid (HB20.out.trans ((hb25).mono HB20.out.size))
  have O27 := Lib.hid (O21.out.kept (fun g hg => by have := hg.1; have := hg.2; omega) hb25)
  have O28 := Lib.hid (O22.out.kept (fun g hg => by have := hg.1; have := hg.2; omega) hb25)
  have O29 := Lib.hid (O23.out.kept hb25)
  have O30 := Lib.hid (O24.out.kept (fun g hg => by have := hg.1; have := hg.2; omega) hb25)
  have O31 := Lib.hid (OB19.out.kept hb25)
  clear O21 O22 O23 O24 OB19
  clear ho25 hb25
  obtain ⟨c32, e32⟩ := O29.out.kept ((Below.refl w25.heap.size w25).alloc (Nat.le_refl _) (.cells #[.slice A25 y0.acc.length m25, .slice B25 y0.nxt.length r25] 27))
  go_wp2_with fail
  obtain ⟨W33, hW33⟩ : ∃ W33, W33 = w25.alloc (.cells #[.slice A25 y0.acc.length m25, .slice B25 y0.nxt.length r25] 27) := ⟨_, rfl⟩
  have BN33 := box2_new w25 w25 w25.heap.size (.slice A25 y0.acc.length m25) (.slice B25 y0.nxt.length r25) 27 (Below.refl _ _) (Nat.le_refl _)
  rw [← hW33] at BN33 ⊢
  have hzb33 := BN33.2.2.2
  have hb33 : Below w25.heap.size w25 W33 := BN33.2.2.1
  have OB33 := Lib.hid BN33.2.1
  clear hW33 BN33
  have hz34 := (hb33).size
  have HB34 := Lib.hid (HB26.out.trans ((hb33).mono HB26.out.size))
  have O35 := Lib.hid (O27.out.kept (fun g hg => by have := hg.1; have := hg.2; omega) hb33)
  have O36 := Lib.hid (O28.out.kept (fun g hg => by have := hg.1; have := hg.2; omega) hb33)
  have O37 := Lib.hid (O29.out.kept hb33)
  have O38 := Lib.hid (O30.out.kept (fun g hg => by have := hg.1; have := hg.2; omega) hb33)
  have O39 := Lib.hid (O31.out.kept hb33)
  have O40 := Lib.hid (OT25.out.kept (fun g hg => by have := hg.1; have := hg.2; omega) hb33)
  clear O27 O28 O29 O30 O31 OT25
  clear hb33
  clear c32 e32
  go_at_call 41
  refine (eqDfa_any _ _ _ _ y0 _ _ W33 O40.out.dfa O36.out.dfa).mono ?_
  rintro e w41 ⟨rfl, hb41⟩
  have hz42 := (hb41).size
  have HB42 := Lib.hid (HB34.out.trans ((hb41).mono HB34.out.size))
  have O43 := Lib.hid (O35.out.kept (fun g hg => by have := hg.1; have := hg.2; omega) hb41)
  have O44 := Lib.hid (O36.out.kept (fun g hg => by have := hg.1; have := hg.2; omega) hb41)
  have O45 := Lib.hid (O37.out.kept hb41)
  have O46 := Lib.hid (O38.out.kept (fun g hg => by have := hg.1; have := hg.2; omega) hb41)
  have O47 := Lib.hid (O39.out.kept hb41)
  have O48 := Lib.hid (O40.out.kept (fun g hg => by have := hg.1; have := hg.2; omega) hb41)
  have O49 := Lib.hid (OB33.out.kept hb41)
  clear O35 O36 O37 O38 O39 O40 OB33
  clear hb41
  go_wp2_with fail
  have HK50 := Lib.hid (fun (V : World) (h : Below w41.heap.size w41 V) => (⟨(O47.out.kept h).1, (O47.out.kept h).2, (HX0.out V (HB42.out.trans (h.mono HB42.out.size))).1, (HX0.out V (HB42.out.trans (h.mono HB42.out.size))).2⟩ : V.cell? ⟨w14.heap.size, 0, none⟩ = some (.slice A14 d0.acc.length m14) ∧ V.cell? ⟨w14.heap.size, 1, none⟩ = some (.slice B14 d0.nxt.length r14) ∧ V.cell? ⟨w.heap.size, 0, none⟩ = some va0 ∧ V.cell? ⟨w.heap.size, 1, none⟩ = some vn0))
  have HL50 := Lib.hid (fun (V : World) (h : Below w41.heap.size w41 V) => HB42.out.trans (h.mono HB42.out.size))
  have HE50 := Lib.hid (fun (V : World) (h : Below w41.heap.size w41 V) u u' (hu : DfaV V (OwnB w41.drew V) u u' d0) => eqDfa_any (.slice A14 d0.acc.length m14) (.slice B14 d0.nxt.length r14) u u' d0 _ _ V (O46.out.dfa.kept h) hu)
  have hbw : Below w41.heap.size w41 w41 := Below.refl _ _
  go_region_held3 (fun V => V.cell? ⟨w14.heap.size, 0, none⟩ = some (.slice A14 d0.acc.length m14) ∧ V.cell? ⟨w14.heap.size, 1, none⟩ = some (.slice B14 d0.nxt.length r14) ∧ V.cell? ⟨w.heap.size, 0, none⟩ = some va0 ∧ V.cell? ⟨w.heap.size, 1, none⟩ = some vn0) (first | exact HK50.out _ hbw.drew | exact HK50.out _ hbw) (first | (go_at_call 40; (with_reducible refine (HT0.out _ (HL50.out _ hbw.drew)).mono ?_); rintro e wa hp; obtain ⟨Aa, ma, Ba, ra, rfl, hoa, hba⟩ := hp.shape; clear hp; have hbw := hbw.drew.trans (hba.mono hbw.drew.size)) | (go_at_call 41; (with_reducible refine (HE50.out _ hbw _ _ ?_).mono ?_); exact hoa.dfa; rintro e wb50 ⟨rfl, hbb⟩; have hbw := hbw.trans (hbb.mono hbw.size)))
  have hz51 := (hbw).size
  have HB51 := Lib.hid (HB42.out.trans ((hbw).mono HB42.out.size))
  have O52 := Lib.hid (O43.out.kept (fun g hg => by have := hg.1; have := hg.2; omega) hbw)
  have O53 := Lib.hid (O44.out.kept (fun g hg => by have := hg.1; have := hg.2; omega) hbw)
  have O54 := Lib.hid (O45.out.kept hbw)
  have O55 := Lib.hid (O46.out.kept (fun g hg => by have := hg.1; have := hg.2; omega) hbw)
  have O56 := Lib.hid (O47.out.kept hbw)
  have O57 := Lib.hid (O48.out.kept (fun g hg => by have := hg.1; have := hg.2; omega) hbw)
  have O58 := Lib.hid (O49.out.kept hbw)
  clear O43 O44 O45 O46 O47 O48 O49
  clear hbw hoa hba hbb HK50 HL50 HE50
  obtain ⟨c59, e59⟩ := O56.out
  go_wp2_with fail
  go_at_call 42
  refine ((HMr0m.out (OwnB W10 w14) _ _ wb50 O55.out (fun g hg => by have := hg.2; omega))).mono ?_
  rintro e w60 ⟨rfl, hs60, hc60⟩
  have hz60 := hc60.size
  have HB60 := Lib.hid (HB51.out.trans (hc60.old (B := WB.heap.size) (fun g hg => by have := hg.1; omega) HB51.out.size))
  have O61 := Lib.hid (O52.out.chg (fun g hg => by have := hg.1; have := hg.2; omega) hc60 (fun g hg h => by have := hg.1; have := hg.2; have := h.1; have := h.2; omega))
  have O62 := Lib.hid (O53.out.chg (fun g hg => by have := hg.1; have := hg.2; omega) hc60 (fun g hg h => by have := hg.1; have := hg.2; have := h.1; have := h.2; omega))
  have O63 := Lib.hid (O54.out.chg hc60 (fun h => by have := h.1; have := h.2; omega))
  have O65 := Lib.hid (O56.out.chg hc60 (fun h => by have := h.1; have := h.2; omega))
  have O66 := Lib.hid (O57.out.chg (fun g hg => by have := hg.1; have := hg.2; omega) hc60 (fun g hg h => by have := hg.1; have := hg.2; have := h.1; have := h.2; omega))
  have O67 := Lib.hid (O58.out.chg hc60 (fun h => by have := h.1; have := h.2; omega))
  have OM60 := Lib.hid hs60
  clear O52 O53 O54 O55 O56 O57 O58 hs60 hc60
  clear c59 e59
  obtain ⟨c68, e68⟩ := O67.out
  obtain ⟨c69, e69⟩ := O63.out
  go_wp2_with fail
  go_at_call 41
  refine (eqDfa_any _ _ _ _ y0 _ _ w60 O66.out.dfa O62.out.dfa).mono ?_
  rintro e w70 ⟨rfl, hb70⟩
  have hz71 := (hb70).size
  have HB71 := Lib.hid (HB60.out.trans ((hb70).mono HB60.out.size))
  have O72 := Lib.hid (O61.out.kept (fun g hg => by have := hg.1; have := hg.2; omega) hb70)
  have O73 := Lib.hid (O62.out.kept (fun g hg => by have := hg.1; have := hg.2; omega) hb70)
  have O74 := Lib.hid (O63.out.kept hb70)
  have O75 := Lib.hid (OM60.out.kept (fun g hg => by have := hg.1; have := hg.2; omega) hb70)
  have O76 := Lib.hid (O65.out.kept hb70)
  have O77 := Lib.hid (O66.out.kept (fun g hg => by have := hg.1; have := hg.2; omega) hb70)
  have O78 := Lib.hid (O67.out.kept hb70)
  clear O61 O62 O63 OM60 O65 O66 O67
  clear hb70
  clear c68 e68 c69 e69
  obtain ⟨c79, e79⟩ := O78.out
  go_wp2_with fail
  go_at_call 42
  refine ((HMry.out (OwnB W19 w25) _ _ w70 O77.out (fun g hg => by have := hg.2; omega))).mono ?_
  rintro e w80 ⟨rfl, hs80, hc80⟩
  have hz80 := hc80.size
  have HB80 := Lib.hid (HB71.out.trans (hc80.old (B := WB.heap.size) (fun g hg => by have := hg.1; omega) HB71.out.size))
  have O81 := Lib.hid (O72.out.chg (fun g hg => by have := hg.1; have := hg.2; omega) hc80 (fun g hg h => by have := hg.1; have := hg.2; have := h.1; have := h.2; omega))
  have O82 := Lib.hid (O73.out.chg (fun g hg => by have := hg.1; have := hg.2; omega) hc80 (fun g hg h => by have := hg.1; have := hg.2; have := h.1; have := h.2; omega))
  have O83 := Lib.hid (O74.out.chg hc80 (fun h => by have := h.1; have := h.2; omega))
  have O84 := Lib.hid (O75.out.chg (fun g hg => by have := hg.1; have := hg.2; omega) hc80 (fun g hg h => by have := hg.1; have := hg.2; have := h.1; have := h.2; omega))
  have O85 := Lib.hid (O76.out.chg hc80 (fun h => by have := h.1; have := h.2; omega))
  have O87 := Lib.hid (O78.out.chg hc80 (fun h => by have := h.1; have := h.2; omega))
  have OM80 := Lib.hid hs80
  clear O72 O73 O74 O75 O76 O77 O78 hs80 hc80
  clear c79 e79
  obtain ⟨c88, e88⟩ := O87.out
  go_wp2_with fail
  go_at_call 43
  refine (HH.out _ _ _ w80 OM80.out.dfa).mono ?_
  rintro e w89 ⟨rfl, hb89⟩
  have hz90 := (hb89).size
  have HB90 := Lib.hid (HB80.out.trans ((hb89).mono HB80.out.size))
  have O91 := Lib.hid (O81.out.kept (fun g hg => by have := hg.1; have := hg.2; omega) hb89)
  have O92 := Lib.hid (O82.out.kept (fun g hg => by have := hg.1; have := hg.2; omega) hb89)
  have O93 := Lib.hid (O83.out.kept hb89)
  have O94 := Lib.hid (O84.out.kept (fun g hg => by have := hg.1; have := hg.2; omega) hb89)
  have O95 := Lib.hid (O85.out.kept hb89)
  have O96 := Lib.hid (OM80.out.kept (fun g hg => by have := hg.1; have := hg.2; omega) hb89)
  have O97 := Lib.hid (O87.out.kept hb89)
  clear O81 O82 O83 O84 O85 OM80 O87
  clear hb89
  clear c88 e88
  obtain ⟨c98, e98⟩ := HX0.out w89 HB90.out
  go_wp2_with fail
  go_at_call 40
  refine (HT0.out w89 HB90.out).mono ?_
  rintro e w99 hp
  obtain ⟨A99, m99, B99, r99, rfl, ho99, hb99⟩ := hp.shape
  clear hp
  have OT99 := Lib.hid ho99
  have hz100 := (hb99).size
  have HB100 := Lib.hid (HB90.out.trans ((hb99).mono HB90.out.size))
  have O101 := Lib.hid (O91.out.kept (fun g hg => by have := hg.1; have := hg.2; omega) hb99)
  have O102 := Lib.hid (O92.out.kept (fun g hg => by have := hg.1; have := hg.2; omega) hb99)
  have O103 := Lib.hid (O93.out.kept hb99)
  have O104 := Lib.hid (O94.out.kept (fun g hg => by have := hg.1; have := hg.2; omega) hb99)
  have O105 := Lib.hid (O95.out.kept hb99)
  have O106 := Lib.hid (O96.out.kept (fun g hg => by have := hg.1; have := hg.2; omega) hb99)
  have O107 := Lib.hid (O97.out.kept hb99)
  clear O91 O92 O93 O94 O95 O96 O97
  clear ho99 hb99
  clear c98 e98
  go_wp2_with fail
  go_at_call 26
  refine ((HI.out _ (.slice A99 d0.acc.length m99) (.slice B99 d0.nxt.length r99) w99 OT99.out.dfa)).mono ?_
  rintro e w108 hp
  obtain ⟨A108, m108, B108, r108, rfl, ho108, hb108⟩ := hp.shape
  clear hp
  have OT108 := Lib.hid ho108
  have hz109 := (hb108).size
  have HB109 := Lib.hid (HB100.out.trans ((hb108).mono HB100.out.size))
  have O110 := Lib.hid (O101.out.kept (fun g hg => by have := hg.1; have := hg.2; omega) hb108)
  have O111 := Lib.hid (O102.out.kept (fun g hg => by have := hg.1; have := hg.2; omega) hb108)
  have O112 := Lib.hid (O103.out.kept hb108)
  have O113 := Lib.hid (O104.out.kept (fun g hg => by have := hg.1; have := hg.2; omega) hb108)
  have O114 := Lib.hid (O105.out.kept hb108)
  have O115 := Lib.hid (O106.out.kept (fun g hg => by have := hg.1; have := hg.2; omega) hb108)
  have O116 := Lib.hid (O107.out.kept hb108)
  have O117 := Lib.hid (OT99.out.kept (fun g hg => by have := hg.1; have := hg.2; omega) hb108)
  clear O101 O102 O103 O104 O105 O106 O107 OT99
  clear ho108 hb108
  obtain ⟨c118, e118⟩ := O112.out.kept ((Below.refl w108.heap.size w108).alloc (Nat.le_refl _) (.cells #[.slice A108 y0.acc.length m108, .slice B108 y0.nxt.length r108] 27))
  go_wp2_with fail
  obtain ⟨W119, hW119⟩ : ∃ W119, W119 = w108.alloc (.cells #[.slice A108 y0.acc.length m108, .slice B108 y0.nxt.length r108] 27) := ⟨_, rfl⟩
  have BN119 := box2_new w108 w108 w108.heap.size (.slice A108 y0.acc.length m108) (.slice B108 y0.nxt.length r108) 27 (Below.refl _ _) (Nat.le_refl _)
  rw [← hW119] at BN119 ⊢
  have hzb119 := BN119.2.2.2
  have hb119 : Below w108.heap.size w108 W119 := BN119.2.2.1
  have OB119 := Lib.hid BN119.2.1
  clear hW119 BN119
  have hz120 := (hb119).size
  have HB120 := Lib.hid (HB109.out.trans ((hb119).mono HB109.out.size))
  have O121 := Lib.hid (O110.out.kept (fun g hg => by have := hg.1; have := hg.2; omega) hb119)
  have O122 := Lib.hid (O111.out.kept (fun g hg => by have := hg.1; have := hg.2; omega) hb119)
  have O123 := Lib.hid (O112.out.kept hb119)
  have O124 := Lib.hid (O113.out.kept (fun g hg => by have := hg.1; have := hg.2; omega) hb119)
  have O125 := Lib.hid (O114.out.kept hb119)
  have O126 := Lib.hid (O115.out.kept (fun g hg => by have := hg.1; have := hg.2; omega) hb119)
  have O127 := Lib.hid (O116.out.kept hb119)
  have O128 := Lib.hid (O117.out.kept (fun g hg => by have := hg.1; have := hg.2; omega) hb119)
  have O129 := Lib.hid (OT108.out.kept (fun g hg => by have := hg.1; have := hg.2; omega) hb119)
  clear O110 O111 O112 O113 O114 O115 O116 O117 OT108
  clear hb119
  clear c118 e118
  go_at_call 41
  refine (eqDfa_any _ _ _ _ y0 _ _ W119 O129.out.dfa O122.out.dfa).mono ?_
  rintro e w130 ⟨rfl, hb130⟩
  have hz131 := (hb130).size
  have HB131 := Lib.hid (HB120.out.trans ((hb130).mono HB120.out.size))
  have O132 := Lib.hid (O121.out.kept (fun g hg => by have := hg.1; have := hg.2; omega) hb130)
  have O133 := Lib.hid (O122.out.kept (fun g hg => by have := hg.1; have := hg.2; omega) hb130)
  have O134 := Lib.hid (O123.out.kept hb130)
  have O135 := Lib.hid (O124.out.kept (fun g hg => by have := hg.1; have := hg.2; omega) hb130)
  have O136 := Lib.hid (O125.out.kept hb130)
  have O137 := Lib.hid (O126.out.kept (fun g hg => by have := hg.1; have := hg.2; omega) hb130)
  have O138 := Lib.hid (O127.out.kept hb130)
  have O139 := Lib.hid (O128.out.kept (fun g hg => by have := hg.1; have := hg.2; omega) hb130)
  have O140 := Lib.hid (O129.out.kept (fun g hg => by have := hg.1; have := hg.2; omega) hb130)
  have O141 := Lib.hid (OB119.out.kept hb130)
  clear O121 O122 O123 O124 O125 O126 O127 O128 O129 OB119
  clear hb130
  obtain ⟨c142, e142⟩ := O138.out
  go_wp2_with fail
  go_at_call 43
  refine (HH.out _ _ _ w130 O137.out.dfa).mono ?_
  rintro e w143 ⟨rfl, hb143⟩
  have hz144 := (hb143).size
  have HB144 := Lib.hid (HB131.out.trans ((hb143).mono HB131.out.size))
  have O145 := Lib.hid (O132.out.kept (fun g hg => by have := hg.1; have := hg.2; omega) hb143)
  have O146 := Lib.hid (O133.out.kept (fun g hg => by have := hg.1; have := hg.2; omega) hb143)
  have O147 := Lib.hid (O134.out.kept hb143)
  have O148 := Lib.hid (O135.out.kept (fun g hg => by have := hg.1; have := hg.2; omega) hb143)
  have O149 := Lib.hid (O136.out.kept hb143)
  have O150 := Lib.hid (O137.out.kept (fun g hg => by have := hg.1; have := hg.2; omega) hb143)
  have O151 := Lib.hid (O138.out.kept hb143)
  have O152 := Lib.hid (O139.out.kept (fun g hg => by have := hg.1; have := hg.2; omega) hb143)
  have O153 := Lib.hid (O140.out.kept (fun g hg => by have := hg.1; have := hg.2; omega) hb143)
  have O154 := Lib.hid (O141.out.kept hb143)
  clear O132 O133 O134 O135 O136 O137 O138 O139 O140 O141
  clear hb143
  clear c142 e142
  go_wp2_with fail
  go_ret
  exact ⟨rfl, HWB.out.trans (HB144.out.mono HWB.out.size)⟩

set_option maxRecDepth 100000 in
set_option maxHeartbeats 1600000 in
theorem lawCom_any (va0 vn0 : Value) (d0 : Dx) (y0 : Dx) (w : World) (hV0 : DfaV w (· < w.heap.size) va0 vn0 d0)  (HS0 : ∀ (S0 : Nat → Prop) (va0 vn0 : Value) (V : World), DfaV V S0 va0 vn0 d0 → Calls Try.prog 27 #[.agg #[va0, vn0]] V (CopyD y0 V)) (HI0 : ∀ (S0 : Nat → Prop) (va0 vn0 : Value) (V : World), DfaV V S0 va0 vn0 d0 → Calls Try.prog 26 #[.agg #[va0, vn0]] V (CopyD y0 V)) (hyw : wtD y0 ≤ 1048576) :
    Calls Try.prog 8 #[.agg #[va0, vn0]] w fun e w' => e = .returned (.bool true) ∧ Below w.heap.size w w' := by
  by_cases hfit : wtD d0 ≤ 1048576
  · exact lawCom_walk va0 vn0 d0 y0 w hV0  HS0 HI0 hyw hfit
  · skip
    have HB0 := Lib.hid ((Below.refl w.heap.size w).alloc (Nat.le_refl _) (.cells #[va0, vn0] 49))
    have HZ0 := Lib.hid (fun (V : World) (hV : Below w.heap.size w V) z hz0 hz1 => szDfa_any va0 vn0 d0 _ z V (hV0.mono (fun g hg => hV.block g hg) (fun _ h => h)) hz0 hz1)
    have HQ0 := Lib.hid (leftOf_no (m := wtD d0) (z := 1048576) (by omega))
    clear  hV0 HS0 HI0 hfit
    go_enter Try.func8, Try.ntmps8
    go_wp2_with fail
    refine (HZ0.out _ HB0.out 1048576 (by omega) (by omega)).mono ?_
    rintro e wz0 ⟨he, hb⟩
    rw [HQ0.out] at he
    subst he
    have HB1 := Lib.hid (HB0.out.trans (hb.mono HB0.out.size))
    clear hb
    go_wp2_with fail
    go_ret
    exact ⟨rfl, HB1.out⟩
end Go.Proofs.Ythmfncklepkddaa
