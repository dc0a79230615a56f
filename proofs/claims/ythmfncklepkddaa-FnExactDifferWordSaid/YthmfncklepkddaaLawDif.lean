/-
  laws.FnExactDifferWord answers true at every argument, if DifferWord and its model answer the same.
-/
import Derived.Test.YthmfncklepkddaaDfaZ
import Derived.Outline
import Derived.Deep.RegionHeld3
import Derived.Deep.CutRange
namespace Go.Proofs.Ythmfncklepkddaa
open Go.RowKit

set_option maxRecDepth 100000 in
set_option maxHeartbeats 6400000 in
theorem lawDif_walk (va0 vn0 : Value) (d0 : Dx) (va1 vn1 : Value) (d1 : Dx) (y0 : ByteArray) (y1 : Bool) (w : World) (hV0 : DfaV w (· < w.heap.size) va0 vn0 d0) (hV1 : DfaV w (· < w.heap.size) va1 vn1 d1)  (HS0 : ∀ (S0 : Nat → Prop) (va0 vn0 : Value) (S1 : Nat → Prop) (va1 vn1 : Value) (V : World), DfaV V S0 va0 vn0 d0 → DfaV V S1 va1 vn1 d1 → Calls Try.prog 16 #[.agg #[va0, vn0], .agg #[va1, vn1]] V (fun e w' => e = .returned (.tuple #[.string y0, .bool y1]) ∧ Below V.heap.size V w')) (HI0 : ∀ (S0 : Nat → Prop) (va0 vn0 : Value) (S1 : Nat → Prop) (va1 vn1 : Value) (V : World), DfaV V S0 va0 vn0 d0 → DfaV V S1 va1 vn1 d1 → Calls Try.prog 15 #[.agg #[va0, vn0], .agg #[va1, vn1]] V (fun e w' => e = .returned (.tuple #[.string y0, .bool y1]) ∧ Below V.heap.size V w')) (hfit : wtD d0 + wtD d1 ≤ 1048576) :
    Calls Try.prog 10 #[.agg #[va0, vn0], .agg #[va1, vn1]] w fun e w' => e = .returned (.bool true) ∧ Below w.heap.size w w' := by
  obtain ⟨WB, hWB⟩ : ∃ WB, WB = ((w.alloc (.cells #[va0, vn0] 49)).alloc (.cells #[va1, vn1] 49)) := ⟨_, rfl⟩
  have hWBz : WB.heap.size = w.heap.size + 2 := by rw [hWB]; simp
  have HWB : Hid (Below w.heap.size w WB) := Lib.hid (by rw [hWB]; exact (((Below.refl w.heap.size w).alloc (Nat.le_refl _) _).alloc (by simp) _))
  have HX0 : Hid (∀ V, Below WB.heap.size WB V → Bx2 V (w.heap.size) va0 vn0) := Lib.hid (fun V hV => by
    have k := box2_kept (w := w) (w1 := WB) (a := va0) (b := vn0) (t := 49) (by rw [hWB]; exact (Below.refl _ _).alloc (by simp) _)
    exact Bx2.kept ⟨k.2.1, k.2.2.1⟩ hV)
  have HD0 := Lib.hid (fun (V : World) (hV : Below WB.heap.size WB V) => hV0.mono (w' := V) (S' := (· < w.heap.size)) (fun g hg => (hV.block g (by omega)).trans (HWB.out.block g hg)) (fun _ h => h))
  have HZ0 := Lib.hid (fun (V : World) (hV : Below WB.heap.size WB V) z hz0 hz1 => szDfa_any va0 vn0 d0 _ z V (HD0.out V hV) hz0 hz1)
  have HT0 := Lib.hid (fun (V : World) (hV : Below WB.heap.size WB V) => toDfa_any va0 vn0 d0 w.heap.size V (HD0.out V hV) (by have := hV.size; omega) (by omega))
  have HX1 : Hid (∀ V, Below WB.heap.size WB V → Bx2 V (w.heap.size + 1) va1 vn1) := Lib.hid (fun V hV => by
    have k := box2_kept (w := (w.alloc (.cells #[va0, vn0] 49))) (w1 := WB) (a := va1) (b := vn1) (t := 49) (by rw [hWB]; exact Below.refl _ _)
    simp only [World.size_alloc] at k
    exact Bx2.kept ⟨k.2.1, k.2.2.1⟩ hV)
  have HD1 := Lib.hid (fun (V : World) (hV : Below WB.heap.size WB V) => hV1.mono (w' := V) (S' := (· < w.heap.size)) (fun g hg => (hV.block g (by omega)).trans (HWB.out.block g hg)) (fun _ h => h))
  have HZ1 := Lib.hid (fun (V : World) (hV : Below WB.heap.size WB V) z hz0 hz1 => szDfa_any va1 vn1 d1 _ z V (HD1.out V hV) hz0 hz1)
  have HT1 := Lib.hid (fun (V : World) (hV : Below WB.heap.size WB V) => toDfa_any va1 vn1 d1 w.heap.size V (HD1.out V hV) (by have := hV.size; omega) (by omega))
  have HS := Lib.hid HS0
  have HI := Lib.hid HI0
  have hn1 : (y1 != y1) = false := by simp
  obtain ⟨q0, hq0⟩ : ∃ q : Int, q = 1048576 - (wtD d0 : Int) := ⟨_, rfl⟩
  have hp0 : 0 ≤ q0 := by omega
  have hl0 : q0 ≤ 1048576 := by omega
  have HQ0 := Lib.hid ((leftOf_yes (m := wtD d0) (z := 1048576) (by omega)).trans hq0.symm)
  obtain ⟨q1, hq1⟩ : ∃ q : Int, q = q0 - (wtD d1 : Int) := ⟨_, rfl⟩
  have hp1 : 0 ≤ q1 := by omega
  have hl1 : q1 ≤ 1048576 := by omega
  have HQ1 := Lib.hid ((leftOf_yes (m := wtD d1) (z := q0) (by omega)).trans hq1.symm)
  have HWBe := Lib.hid hWB
  clear hq1 hq0 hWB HS0 HI0 hV0 hV1
  go_enter Try.func10, Try.ntmps10
  have HB0 := Lib.hid (Below.refl WB.heap.size WB)
  have cq0 : ((w.alloc (.cells #[va0, vn0] 49)).alloc (.cells #[va1, vn1] 49)).cell? ⟨w.heap.size, 0, none⟩ = some va0 := by rw [← HWBe.out]; exact (HX0.out WB HB0.out).1
  have cq1 : ((w.alloc (.cells #[va0, vn0] 49)).alloc (.cells #[va1, vn1] 49)).cell? ⟨w.heap.size, 1, none⟩ = some vn0 := by rw [← HWBe.out]; exact (HX0.out WB HB0.out).2
  go_wp2_with fail
  rw [← HWBe.out]
  refine (HZ0.out WB HB0.out 1048576 (by omega) (by omega)).mono ?_
  rintro e w1 ⟨he, hb1⟩
  rw [HQ0.out] at he
  subst he
  have hz2 := (hb1).size
  have HB2 := Lib.hid (HB0.out.trans ((hb1).mono HB0.out.size))
  clear hb1
  clear cq0 cq1
  obtain ⟨c3, e3⟩ := HX1.out w1 HB2.out
  go_wp2_with fail
  refine (HZ1.out w1 HB2.out q0 (by omega) (by omega)).mono ?_
  rintro e w4 ⟨he, hb4⟩
  rw [HQ1.out] at he
  subst he
  have hz5 := (hb4).size
  have HB5 := Lib.hid (HB2.out.trans ((hb4).mono HB2.out.size))
  clear hb4
  clear c3 e3
  go_wp2_with fail
  have HL6 := Lib.hid (fun (V : World) (h : Below w4.heap.size w4 V) => HB5.out.trans (h.mono HB5.out.size))
  have HK6 := Lib.hid (fun (V : World) (h : Below w4.heap.size w4 V) => (⟨(HX0.out V (HL6.out V h)).1, (HX0.out V (HL6.out V h)).2, (HX1.out V (HL6.out V h)).1, (HX1.out V (HL6.out V h)).2⟩ : V.cell? ⟨w.heap.size, 0, none⟩ = some va0 ∧ V.cell? ⟨w.heap.size, 1, none⟩ = some vn0 ∧ V.cell? ⟨w.heap.size + 1, 0, none⟩ = some va1 ∧ V.cell? ⟨w.heap.size + 1, 1, none⟩ = some vn1))
  have hbw : Below w4.heap.size w4 w4 := Below.refl _ _
  go_region_held3 (fun V => V.cell? ⟨w.heap.size, 0, none⟩ = some va0 ∧ V.cell? ⟨w.heap.size, 1, none⟩ = some vn0 ∧ V.cell? ⟨w.heap.size + 1, 0, none⟩ = some va1 ∧ V.cell? ⟨w.heap.size + 1, 1, none⟩ = some vn1) (first | exact HK6.out _ hbw.drew | exact HK6.out _ hbw) (first | (go_at_call 40; (with_reducible refine (HT0.out _ (HL6.out _ hbw.drew)).mono ?_); rintro e wa hp; obtain ⟨Aa, ma, Ba, ra, rfl, hoa, hba⟩ := hp.shape; clear hp; have hbw := hbw.drew.trans (hba.mono hbw.drew.size)) | (go_at_call 40; (with_reducible refine (HT1.out _ (HL6.out _ hbw)).mono ?_); rintro e wc hp; obtain ⟨Ac, mc, Bc, rc, rfl, hoc, hbc⟩ := hp.shape; clear hp; have hbw := hbw.trans (hbc.mono hbw.size)) | (go_at_call 16; (with_reducible refine (HS.out _ _ _ _ _ _ _ (hoa.dfa.kept hbc) hoc.dfa).mono ?_); rintro e wb6 ⟨rfl, hbb⟩; have hbw := hbw.trans (hbb.mono hbw.size)))
  have hz7 := (hbw).size
  have HB7 := Lib.hid (HB5.out.trans ((hbw).mono HB5.out.size))
  clear hbw hoa hba hoc hbc hbb HK6 HL6
  obtain ⟨c8, e8⟩ := HX0.out wb6 HB7.out
  go_wp2_with fail
  go_at_call 40
  refine (HT0.out wb6 HB7.out).mono ?_
  rintro e w9 hp
  obtain ⟨A9, m9, B9, r9, rfl, ho9, hb9⟩ := hp.shape
  clear hp
  have OT9 := Lib.hid ho9
  have hz10 := (hb9).size
  have HB10 := Lib.hid (HB7.out.trans ((hb9).mono HB7.out.size))
  clear ho9 hb9
  clear c8 e8
  obtain ⟨c11, e11⟩ := HX1.out (w9.alloc (.cells #[.slice A9 d0.acc.length m9, .slice B9 d0.nxt.length r9] 27)) (HB10.out.alloc HB10.out.size _)
  go_wp2_with fail
  obtain ⟨W12, hW12⟩ : ∃ W12, W12 = w9.alloc (.cells #[.slice A9 d0.acc.length m9, .slice B9 d0.nxt.length r9] 27) := ⟨_, rfl⟩
  have BN12 := box2_new w9 w9 w9.heap.size (.slice A9 d0.acc.length m9) (.slice B9 d0.nxt.length r9) 27 (Below.refl _ _) (Nat.le_refl _)
  rw [← hW12] at BN12 ⊢
  have hzb12 := BN12.2.2.2
  have hb12 : Below w9.heap.size w9 W12 := BN12.2.2.1
  have OB12 := Lib.hid BN12.2.1
  clear hW12 BN12
  have hz13 := (hb12).size
  have HB13 := Lib.hid (HB10.out.trans ((hb12).mono HB10.out.size))
  have O14 := Lib.hid (OT9.out.kept (fun g hg => by have := hg.1; have := hg.2; omega) hb12)
  clear OT9
  clear hb12
  go_at_call 40
  refine (HT1.out W12 HB13.out).mono ?_
  rintro e w15 hp
  obtain ⟨A15, m15, B15, r15, rfl, ho15, hb15⟩ := hp.shape
  clear hp
  have OT15 := Lib.hid ho15
  have hz16 := (hb15).size
  have HB16 := Lib.hid (HB13.out.trans ((hb15).mono HB13.out.size))
  have O17 := Lib.hid (O14.out.kept (fun g hg => by have := hg.1; have := hg.2; omega) hb15)
  have O18 := Lib.hid (OB12.out.kept hb15)
  clear O14 OB12
  clear ho15 hb15
  clear c11 e11
  obtain ⟨c19, e19⟩ := O18.out.kept ((Below.refl w15.heap.size w15).alloc (Nat.le_refl _) (.cells #[.slice A15 d1.acc.length m15, .slice B15 d1.nxt.length r15] 27))
  go_wp2_with fail
  obtain ⟨W20, hW20⟩ : ∃ W20, W20 = w15.alloc (.cells #[.slice A15 d1.acc.length m15, .slice B15 d1.nxt.length r15] 27) := ⟨_, rfl⟩
  have BN20 := box2_new w15 w15 w15.heap.size (.slice A15 d1.acc.length m15) (.slice B15 d1.nxt.length r15) 27 (Below.refl _ _) (Nat.le_refl _)
  rw [← hW20] at BN20 ⊢
  have hzb20 := BN20.2.2.2
  have hb20 : Below w15.heap.size w15 W20 := BN20.2.2.1
  have OB20 := Lib.hid BN20.2.1
  clear hW20 BN20
  have hz21 := (hb20).size
  have HB21 := Lib.hid (HB16.out.trans ((hb20).mono HB16.out.size))
  have O22 := Lib.hid (O17.out.kept (fun g hg => by have := hg.1; have := hg.2; omega) hb20)
  have O23 := Lib.hid (O18.out.kept hb20)
  have O24 := Lib.hid (OT15.out.kept (fun g hg => by have := hg.1; have := hg.2; omega) hb20)
  clear O17 O18 OT15
  clear hb20
  go_at_call 15
  refine ((HI.out _ (.slice A9 d0.acc.length m9) (.slice B9 d0.nxt.length r9) _ (.slice A15 d1.acc.length m15) (.slice B15 d1.nxt.length r15) W20 O22.out.dfa O24.out.dfa)).mono ?_
  rintro e w25 ⟨rfl, hb25⟩
  have hz26 := (hb25).size
  have HB26 := Lib.hid (HB21.out.trans ((hb25).mono HB21.out.size))
  have O27 := Lib.hid (O22.out.kept (fun g hg => by have := hg.1; have := hg.2; omega) hb25)
  have O28 := Lib.hid (O23.out.kept hb25)
  have O29 := Lib.hid (O24.out.kept (fun g hg => by have := hg.1; have := hg.2; omega) hb25)
  have O30 := Lib.hid (OB20.out.kept hb25)
  clear O22 O23 O24 OB20
  clear hb25
  clear c19 e19
  go_wp2_with fail
  have HK31 := Lib.hid (fun (V : World) (h : Below w25.heap.size w25 V) => (⟨(O28.out.kept h).1, (O28.out.kept h).2, (HX0.out V (HB26.out.trans (h.mono HB26.out.size))).1, (HX0.out V (HB26.out.trans (h.mono HB26.out.size))).2⟩ : V.cell? ⟨w9.heap.size, 0, none⟩ = some (.slice A9 d0.acc.length m9) ∧ V.cell? ⟨w9.heap.size, 1, none⟩ = some (.slice B9 d0.nxt.length r9) ∧ V.cell? ⟨w.heap.size, 0, none⟩ = some va0 ∧ V.cell? ⟨w.heap.size, 1, none⟩ = some vn0))
  have HL31 := Lib.hid (fun (V : World) (h : Below w25.heap.size w25 V) => HB26.out.trans (h.mono HB26.out.size))
  have HE31 := Lib.hid (fun (V : World) (h : Below w25.heap.size w25 V) u u' (hu : DfaV V (OwnB w25.drew V) u u' d0) => eqDfa_any (.slice A9 d0.acc.length m9) (.slice B9 d0.nxt.length r9) u u' d0 _ _ V (O27.out.dfa.kept h) hu)
  have hbw : Below w25.heap.size w25 w25 := Below.refl _ _
  go_region_held3 (fun V => V.cell? ⟨w9.heap.size, 0, none⟩ = some (.slice A9 d0.acc.length m9) ∧ V.cell? ⟨w9.heap.size, 1, none⟩ = some (.slice B9 d0.nxt.length r9) ∧ V.cell? ⟨w.heap.size, 0, none⟩ = some va0 ∧ V.cell? ⟨w.heap.size, 1, none⟩ = some vn0) (first | exact HK31.out _ hbw.drew | exact HK31.out _ hbw) (first | (go_at_call 40; (with_reducible refine (HT0.out _ (HL31.out _ hbw.drew)).mono ?_); rintro e wa hp; obtain ⟨Aa, ma, Ba, ra, rfl, hoa, hba⟩ := hp.shape; clear hp; have hbw := hbw.drew.trans (hba.mono hbw.drew.size)) | (go_at_call 41; (with_reducible refine (HE31.out _ hbw _ _ ?_).mono ?_); exact hoa.dfa; rintro e wb31 ⟨rfl, hbb⟩; have hbw := hbw.trans (hbb.mono hbw.size)))
  have hz32 := (hbw).size
  have HB32 := Lib.hid (HB26.out.trans ((hbw).mono HB26.out.size))
  have O33 := Lib.hid (O27.out.kept (fun g hg => by have := hg.1; have := hg.2; omega) hbw)
  have O34 := Lib.hid (O28.out.kept hbw)
  have O35 := Lib.hid (O29.out.kept (fun g hg => by have := hg.1; have := hg.2; omega) hbw)
  have O36 := Lib.hid (O30.out.kept hbw)
  clear O27 O28 O29 O30
  clear hbw hoa hba hbb HK31 HL31 HE31
  go_wp2_with fail
  have HK37 := Lib.hid (fun (V : World) (h : Below wb31.heap.size wb31 V) => (⟨(O36.out.kept h).1, (O36.out.kept h).2, (HX1.out V (HB32.out.trans (h.mono HB32.out.size))).1, (HX1.out V (HB32.out.trans (h.mono HB32.out.size))).2⟩ : V.cell? ⟨w15.heap.size, 0, none⟩ = some (.slice A15 d1.acc.length m15) ∧ V.cell? ⟨w15.heap.size, 1, none⟩ = some (.slice B15 d1.nxt.length r15) ∧ V.cell? ⟨w.heap.size + 1, 0, none⟩ = some va1 ∧ V.cell? ⟨w.heap.size + 1, 1, none⟩ = some vn1))
  have HL37 := Lib.hid (fun (V : World) (h : Below wb31.heap.size wb31 V) => HB32.out.trans (h.mono HB32.out.size))
  have HE37 := Lib.hid (fun (V : World) (h : Below wb31.heap.size wb31 V) u u' (hu : DfaV V (OwnB wb31.drew V) u u' d1) => eqDfa_any (.slice A15 d1.acc.length m15) (.slice B15 d1.nxt.length r15) u u' d1 _ _ V (O35.out.dfa.kept h) hu)
  have hbw : Below wb31.heap.size wb31 wb31 := Below.refl _ _
  go_region_held3 (fun V => V.cell? ⟨w15.heap.size, 0, none⟩ = some (.slice A15 d1.acc.length m15) ∧ V.cell? ⟨w15.heap.size, 1, none⟩ = some (.slice B15 d1.nxt.length r15) ∧ V.cell? ⟨w.heap.size + 1, 0, none⟩ = some va1 ∧ V.cell? ⟨w.heap.size + 1, 1, none⟩ = some vn1) (first | exact HK37.out _ hbw.drew | exact HK37.out _ hbw) (first | (go_at_call 40; (with_reducible refine (HT1.out _ (HL37.out _ hbw.drew)).mono ?_); rintro e wa hp; obtain ⟨Aa, ma, Ba, ra, rfl, hoa, hba⟩ := hp.shape; clear hp; have hbw := hbw.drew.trans (hba.mono hbw.drew.size)) | (go_at_call 41; (with_reducible refine (HE37.out _ hbw _ _ ?_).mono ?_); exact hoa.dfa; rintro e wb37 ⟨rfl, hbb⟩; have hbw := hbw.trans (hbb.mono hbw.size)))
  have hz38 := (hbw).size
  have HB38 := Lib.hid (HB32.out.trans ((hbw).mono HB32.out.size))
  have O39 := Lib.hid (O33.out.kept (fun g hg => by have := hg.1; have := hg.2; omega) hbw)
  have O40 := Lib.hid (O34.out.kept hbw)
  have O41 := Lib.hid (O35.out.kept (fun g hg => by have := hg.1; have := hg.2; omega) hbw)
  have O42 := Lib.hid (O36.out.kept hbw)
  clear O33 O34 O35 O36
  clear hbw hoa hba hbb HK37 HL37 HE37
  go_wp2_with fail
  go_ret
  exact ⟨rfl, HWB.out.trans (HB38.out.mono HWB.out.size)⟩

set_option maxRecDepth 100000 in
set_option maxHeartbeats 1600000 in
theorem lawDif_any (va0 vn0 : Value) (d0 : Dx) (va1 vn1 : Value) (d1 : Dx) (y0 : ByteArray) (y1 : Bool) (w : World) (hV0 : DfaV w (· < w.heap.size) va0 vn0 d0) (hV1 : DfaV w (· < w.heap.size) va1 vn1 d1)  (HS0 : ∀ (S0 : Nat → Prop) (va0 vn0 : Value) (S1 : Nat → Prop) (va1 vn1 : Value) (V : World), DfaV V S0 va0 vn0 d0 → DfaV V S1 va1 vn1 d1 → Calls Try.prog 16 #[.agg #[va0, vn0], .agg #[va1, vn1]] V (fun e w' => e = .returned (.tuple #[.string y0, .bool y1]) ∧ Below V.heap.size V w')) (HI0 : ∀ (S0 : Nat → Prop) (va0 vn0 : Value) (S1 : Nat → Prop) (va1 vn1 : Value) (V : World), DfaV V S0 va0 vn0 d0 → DfaV V S1 va1 vn1 d1 → Calls Try.prog 15 #[.agg #[va0, vn0], .agg #[va1, vn1]] V (fun e w' => e = .returned (.tuple #[.string y0, .bool y1]) ∧ Below V.heap.size V w')) :
    Calls Try.prog 10 #[.agg #[va0, vn0], .agg #[va1, vn1]] w fun e w' => e = .returned (.bool true) ∧ Below w.heap.size w w' := by
  by_cases hfit : wtD d0 + wtD d1 ≤ 1048576
  · exact lawDif_walk va0 vn0 d0 va1 vn1 d1 y0 y1 w hV0 hV1  HS0 HI0 hfit
  · by_cases hf0 : wtD d0 ≤ 1048576
    · skip
      have HB0 := Lib.hid (((Below.refl w.heap.size w).alloc (Nat.le_refl _) (.cells #[va0, vn0] 49)).alloc (by simp) (.cells #[va1, vn1] 49))
      have HZ0 := Lib.hid (fun (V : World) (hV : Below w.heap.size w V) z hz0 hz1 => szDfa_any va0 vn0 d0 _ z V (hV0.mono (fun g hg => hV.block g hg) (fun _ h => h)) hz0 hz1)
      have HZ1 := Lib.hid (fun (V : World) (hV : Below w.heap.size w V) z hz0 hz1 => szDfa_any va1 vn1 d1 _ z V (hV1.mono (fun g hg => hV.block g hg) (fun _ h => h)) hz0 hz1)
      obtain ⟨q0, hq0⟩ : ∃ q : Int, q = 1048576 - (wtD d0 : Int) := ⟨_, rfl⟩
      have hp0 : 0 ≤ q0 := by omega
      have hl0 : q0 ≤ 1048576 := by omega
      have HQ0 := Lib.hid ((leftOf_yes (m := wtD d0) (z := 1048576) (by omega)).trans hq0.symm)
      have HQ1 := Lib.hid (leftOf_no (m := wtD d1) (z := q0) (by omega))
      have HXb := Lib.hid (fun (V : World) (hV : Below (((w.alloc (.cells #[va0, vn0] 49)).alloc (.cells #[va1, vn1] 49))).heap.size ((w.alloc (.cells #[va0, vn0] 49)).alloc (.cells #[va1, vn1] 49)) V) => (by
        have k := box2_kept (w := (w.alloc (.cells #[va0, vn0] 49))) (w1 := V) (a := va1) (b := vn1) (t := 49) (by simpa using hV)
        rw [World.size_alloc] at k
        exact ⟨k.2.1, k.2.2.1⟩ : V.cell? ⟨w.heap.size + 1, 0, none⟩ = some va1 ∧ V.cell? ⟨w.heap.size + 1, 1, none⟩ = some vn1))
      obtain ⟨-, cq0, cq1, -⟩ := box2_kept (w := w) (w1 := ((w.alloc (.cells #[va0, vn0] 49)).alloc (.cells #[va1, vn1] 49))) (a := va0) (b := vn0) (t := 49) ((Below.refl _ _).alloc (by simp) _)
      clear hq0 hV0 hV1 HS0 HI0 hfit
      go_enter Try.func10, Try.ntmps10
      go_wp2_with fail
      refine (HZ0.out _ HB0.out 1048576 (by omega) (by omega)).mono ?_
      rintro e wz0 ⟨he, hb⟩
      rw [HQ0.out] at he
      subst he
      obtain ⟨cr0, cr1⟩ := HXb.out _ hb
      have HB1 := Lib.hid (HB0.out.trans (hb.mono HB0.out.size))
      clear hb
      go_wp2_with fail
      refine (HZ1.out _ HB1.out q0 (by omega) (by omega)).mono ?_
      rintro e wz1 ⟨he, hb⟩
      rw [HQ1.out] at he
      subst he
      have HB2 := Lib.hid (HB1.out.trans (hb.mono HB1.out.size))
      clear hb
      go_wp2_with fail
      go_ret
      exact ⟨rfl, HB2.out⟩
    · skip
      have HB0 := Lib.hid (((Below.refl w.heap.size w).alloc (Nat.le_refl _) (.cells #[va0, vn0] 49)).alloc (by simp) (.cells #[va1, vn1] 49))
      have HZ0 := Lib.hid (fun (V : World) (hV : Below w.heap.size w V) z hz0 hz1 => szDfa_any va0 vn0 d0 _ z V (hV0.mono (fun g hg => hV.block g hg) (fun _ h => h)) hz0 hz1)
      have HQ0 := Lib.hid (leftOf_no (m := wtD d0) (z := 1048576) (by omega))
      clear  hV0 hV1 HS0 HI0 hfit
      go_enter Try.func10, Try.ntmps10
      go_wp2_with fail
      refine (HZ0.out _ HB0.out 1048576 (by omega) (by omega)).mono ?_
      rintro e wz0 ⟨he, hb⟩
      rw [HQ0.out] at he
      subst he
      have HB1 := Lib.hid (HB0.out.trans (hb.mono HB0.out.size))
      clear hb
      go_wp2_with fail
      go_ret
      exact ⟨rfl, HB1.out⟩
end Go.Proofs.Ythmfncklepkddaa
