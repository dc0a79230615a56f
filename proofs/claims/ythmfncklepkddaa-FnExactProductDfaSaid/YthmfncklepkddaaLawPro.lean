/-
  laws.FnExactProductDfa answers true at every argument, if ProductDfa and its model answer the same.
-/
import Derived.Test.YthmfncklepkddaaDfaZ
import Derived.Test.YthmfncklepkddaaDfaH
import Derived.Outline
import Derived.Deep.RegionHeld3
import Derived.Deep.CutRange
namespace Go.Proofs.Ythmfncklepkddaa
open Go.RowKit

set_option maxRecDepth 100000 in
set_option maxHeartbeats 6400000 in
theorem lawPro_walk (va0 vn0 : Value) (d0 : Dx) (va1 vn1 : Value) (d1 : Dx) (n2 : Int) (y0 : Dx) (y1 : Bool) (w : World) (hV0 : DfaV w (· < w.heap.size) va0 vn0 d0) (hV1 : DfaV w (· < w.heap.size) va1 vn1 d1)  (HS0 : ∀ (S0 : Nat → Prop) (va0 vn0 : Value) (S1 : Nat → Prop) (va1 vn1 : Value) (V : World), DfaV V S0 va0 vn0 d0 → DfaV V S1 va1 vn1 d1 → Calls Try.prog 24 #[.agg #[va0, vn0], .agg #[va1, vn1], .int .i64 n2] V (CopyDB y0 y1 V)) (HI0 : ∀ (S0 : Nat → Prop) (va0 vn0 : Value) (S1 : Nat → Prop) (va1 vn1 : Value) (V : World), DfaV V S0 va0 vn0 d0 → DfaV V S1 va1 vn1 d1 → Calls Try.prog 23 #[.agg #[va0, vn0], .agg #[va1, vn1], .int .i64 n2] V (CopyDB y0 y1 V)) (hyw : wtD y0 ≤ 1048576) (hfit : wtD d0 + wtD d1 ≤ 1048576) :
    Calls Try.prog 7 #[.agg #[va0, vn0], .agg #[va1, vn1], .int .i64 n2] w fun e w' => e = .returned (.bool true) ∧ Below w.heap.size w w' := by
  obtain ⟨WB, hWB⟩ : ∃ WB, WB = ((w.alloc (.cells #[va0, vn0] 49)).alloc (.cells #[va1, vn1] 49)) := ⟨_, rfl⟩
  have hWBz : WB.heap.size = w.heap.size + 2 := by rw [hWB]; simp
  have HWB : Hid (Below w.heap.size w WB) := Lib.hid (by rw [hWB]; exact (((Below.refl w.heap.size w).alloc (Nat.le_refl _) _).alloc (by simp) _))
  have HX0 : Hid (∀ V, Below WB.heap.size WB V → Bx2 V (w.heap.size) va0 vn0) := Lib.hid (fun V hV => by
    have k := box2_kept (w := w) (w1 := WB) (a := va0) (b := vn0) (t := 49) (by rw [hWB]; exact (Below.refl _ _).alloc (by simp) _)
    exact Bx2.kept ⟨k.2.1, k.2.2.1⟩ hV)
  have HD0 := Lib.hid (fun (V : World) (hV : Below WB.heap.size WB V) => hV0.mono (w' := V) (S' := (· < w.heap.size)) (fun g hg => (hV.block g (by omega)).trans (HWB.out.block g hg)) (fun _ h => h))
  have HZ0 := Lib.hid (fun (V : World) (hV : Below WB.heap.size WB V) z hz0 hz1 => szDfa_any va0 vn0 d0 _ z V (HD0.out V hV) hz0 hz1)
  have HT0 := Lib.hid (fun (V : World) (hV : Below WB.heap.size WB V) => toDfa_any va0 vn0 d0 w.heap.size V (HD0.out V hV) (by have := hV.size; omega) (by omega))
  have HX1 : Hid (∀ V, Below WB.heap.size WB V → Bx2 V (w.heap.size + 1) va1 vn1) := Lib.hid (fun V hV => by
    have k := box2_kept (w := (w.alloc (.cells #[va0, vn0] 49))) (w1 := WB) (a := va1) (b := vn1) (t := 49) (by rw [hWB]; exact Below.refl _ _)
    simp only [World.size_alloc] at k
    exact Bx2.kept ⟨k.2.1, k.2.2.1⟩ hV)
  have HD1 := Lib.hid (fun (V : World) (hV : Below WB.heap.size WB V) => hV1.mono (w' := V) (S' := (· < w.heap.size)) (fun g hg => (hV.block g (by omega)).trans (HWB.out.block g hg)) (fun _ h => h))
  have HZ1 := Lib.hid (fun (V : World) (hV : Below WB.heap.size WB V) z hz0 hz1 => szDfa_any va1 vn1 d1 _ z V (HD1.out V hV) hz0 hz1)
  have HT1 := Lib.hid (fun (V : World) (hV : Below WB.heap.size WB V) => toDfa_any va1 vn1 d1 w.heap.size V (HD1.out V hV) (by have := hV.size; omega) (by omega))
  have HS := Lib.hid HS0
  have HI := Lib.hid HI0
  obtain ⟨r0m, hr0m⟩ : ∃ r0m, r0m = 1 + lenD d0 := ⟨_, rfl⟩
  have HMr0m := Lib.hid (fun S u u' V (h : DfaO V S u u' d0) hS => markDfa_any 1 u u' d0 S V h hS (by omega) (by have := lenD_le d0; have := lenD_le d1; omega))
  rw [← hr0m] at HMr0m
  obtain ⟨r1m, hr1m⟩ : ∃ r1m, r1m = r0m + lenD d1 := ⟨_, rfl⟩
  have HMr1m := Lib.hid (fun S u u' V (h : DfaO V S u u' d1) hS => markDfa_any r0m u u' d1 S V h hS (by omega) (by have := lenD_le d0; have := lenD_le d1; omega))
  rw [← hr1m] at HMr1m
  obtain ⟨ry, hry⟩ : ∃ ry, ry = 1 + lenD y0 := ⟨_, rfl⟩
  have HMry := Lib.hid (fun S u u' V (h : DfaO V S u u' y0) hS => markDfa_any 1 u u' y0 S V h hS (by omega) (by omega))
  have HH := Lib.hid (fun S u u' V (h : DfaV V S u u' (markD 1 y0)) => heldDfa_any 1 u u' y0 S V h (by omega) (by omega))
  rw [← hry] at HMry HH
  have hneg : decide ((r1m : Int) < 0) = false := by simp
  have hnegy : decide ((ry : Int) < 0) = false := by simp
  clear hry hr1m hr0m
  have hn1 : (y1 != y1) = false := by simp
  obtain ⟨q0, hq0⟩ : ∃ q : Int, q = 1048576 - (wtD d0 : Int) := ⟨_, rfl⟩
  have hp0 : 0 ≤ q0 := by omega
  have hl0 : q0 ≤ 1048576 := by omega
  have HQ0 := Lib.hid ((leftOf_yes (m := wtD d0) (z := 1048576) (by omega)).trans hq0.symm)
  obtain ⟨q1, hq1⟩ : ∃ q : Int, q = q0 - (wtD d1 : Int) := ⟨_, rfl⟩
  have hp1 : 0 ≤ q1 := by omega
  have hl1 : q1 ≤ 1048576 := by omega
  have HQ1 := Lib.hid ((leftOf_yes (m := wtD d1) (z := q0) (by omega)).trans hq1.symm)
  have HWBe := Lib.hid hWB
  clear hq1 hq0 hWB HS0 HI0 hV0 hV1
  go_enter Try.func7, Try.ntmps7
  have HB0 := Lib.hid (Below.refl WB.heap.size WB)
  have cq0 : ((w.alloc (.cells #[va0, vn0] 49)).alloc (.cells #[va1, vn1] 49)).cell? ⟨w.heap.size, 0, none⟩ = some va0 := by rw [← HWBe.out]; exact (HX0.out WB HB0.out).1
  have cq1 : ((w.alloc (.cells #[va0, vn0] 49)).alloc (.cells #[va1, vn1] 49)).cell? ⟨w.heap.size, 1, none⟩ = some vn0 := by rw [← HWBe.out]; exact (HX0.out WB HB0.out).2
  go_wp2_with fail
  rw [← HWBe.out]
  refine (HZ0.out WB HB0.out 1048576 (by omega) (by omega)).mono ?_
  rintro e w1 ⟨he, hb1⟩
  rw [HQ0.out] at he
  subst he
  have hz2 := (hb1).size
  have HB2 := Lib.hid (HB0.out.trans ((hb1).mono HB0.out.size))
  clear hb1
  clear cq0 cq1
  obtain ⟨c3, e3⟩ := HX1.out w1 HB2.out
  go_wp2_with fail
  refine (HZ1.out w1 HB2.out q0 (by omega) (by omega)).mono ?_
  rintro e w4 ⟨he, hb4⟩
  rw [HQ1.out] at he
  subst he
  have hz5 := (hb4).size
  have HB5 := Lib.hid (HB2.out.trans ((hb4).mono HB2.out.size))
  clear hb4
  clear c3 e3
  go_wp2_with fail
  have HL6 := Lib.hid (fun (V : World) (h : Below w4.heap.size w4 V) => HB5.out.trans (h.mono HB5.out.size))
  have HK6 := Lib.hid (fun (V : World) (h : Below w4.heap.size w4 V) => (⟨(HX0.out V (HL6.out V h)).1, (HX0.out V (HL6.out V h)).2, (HX1.out V (HL6.out V h)).1, (HX1.out V (HL6.out V h)).2⟩ : V.cell? ⟨w.heap.size, 0, none⟩ = some va0 ∧ V.cell? ⟨w.heap.size, 1, none⟩ = some vn0 ∧ V.cell? ⟨w.heap.size + 1, 0, none⟩ = some va1 ∧ V.cell? ⟨w.heap.size + 1, 1, none⟩ = some vn1))
  go_cut [8, 9] from 29 to 37 (fun vp vq wx => ∃ (b : Nat) (Ax : Option Addr) (mx : Nat) (Bx : Option Addr) (rx : Nat), vp = .pointer (some ⟨b, 0, none⟩) ∧ vq = .bool y1 ∧ MidX w4 wx b (.slice Ax y0.acc.length mx) (.slice Bx y0.nxt.length rx) y0)
  case first =>
    have hbw : Below w4.heap.size w4 w4 := Below.refl _ _
    go_region_held3 (fun V => V.cell? ⟨w.heap.size, 0, none⟩ = some va0 ∧ V.cell? ⟨w.heap.size, 1, none⟩ = some vn0 ∧ V.cell? ⟨w.heap.size + 1, 0, none⟩ = some va1 ∧ V.cell? ⟨w.heap.size + 1, 1, none⟩ = some vn1) (first | exact HK6.out _ hbw.drew | exact HK6.out _ hbw | exact HK6.out _ (hbw.alloc hbw.size _).drew | exact HK6.out _ (hbw.alloc hbw.size _) | exact HK6.out _ ((hbw.setCell hcb _).setCell hcb _)) (first | (go_at_call 40; (first | ((with_reducible refine (HT0.out _ (HL6.out _ hbw.drew)).mono ?_); rintro e wa hp; obtain ⟨Aa, ma, Ba, ra, rfl, hoa, hba⟩ := hp.shape; clear hp; have hbw := hbw.drew.trans (hba.mono hbw.drew.size)) | ((with_reducible refine (HT0.out _ (HL6.out _ (hbw.alloc hbw.size (.cells #[.slice none 0 0, .slice none 0 0] 27)).drew)).mono ?_); rintro e wa hp; obtain ⟨Aa, ma, Ba, ra, rfl, hoa, hba⟩ := hp.shape; clear hp; have kb := (box2_kept (w := w4) (by have h := (Below.refl (w4.alloc (.cells #[.slice none 0 0, .slice none 0 0] 27)).heap.size (w4.alloc (.cells #[.slice none 0 0, .slice none 0 0] 27))).drew.trans hba; rw [World.size_alloc] at h; exact h)).1; have hcb := hbw.size; have hbw := (hbw.alloc hbw.size (.cells #[.slice none 0 0, .slice none 0 0] 27)).drew.trans (hba.mono (hbw.alloc hbw.size (.cells #[.slice none 0 0, .slice none 0 0] 27)).drew.size)))) | (go_at_call 40; (first | ((with_reducible refine (HT1.out _ (HL6.out _ hbw)).mono ?_); rintro e wd hp; obtain ⟨Ac, mc, Bc, rc, rfl, hoc, hbc⟩ := hp.shape; clear hp; have hva := hoa.dfa.kept hbc; (try have kb := (hbc.block _ (blk_lt kb)).trans kb); have hbw := hbw.trans (hbc.mono hbw.size)) | ((with_reducible refine (HT1.out _ (HL6.out _ (hbw.alloc hbw.size (.cells #[.slice none 0 0, .slice none 0 0] 27)))).mono ?_); rintro e wd hp; obtain ⟨Ac, mc, Bc, rc, rfl, hoc, hbc⟩ := hp.shape; clear hp; have hva := (hoa.dfa.kept ((Below.refl _ wa).alloc (Nat.le_refl _) (.cells #[.slice none 0 0, .slice none 0 0] 27))).kept hbc; have kb := (box2_kept (w := wa) (by have h := hbc; rw [World.size_alloc] at h; exact h)).1; have hcb := hbw.size; have hbw := (hbw.alloc hbw.size (.cells #[.slice none 0 0, .slice none 0 0] 27)).trans (hbc.mono (hbw.alloc hbw.size (.cells #[.slice none 0 0, .slice none 0 0] 27)).size)))) | (go_at_call 24; (first | ((with_reducible refine (HS.out _ _ _ _ _ _ _ hva hoc.dfa).mono ?_); rintro e wb hp; obtain ⟨Ab, mb, Bb, rb, rfl, hob, hbb⟩ := hp.shape; clear hp; have hcx := hbw.size; (try have hbx := blk_lt kb); (try have kb := (hbb.block _ (blk_lt kb)).trans kb); have hbw := hbw.trans (hbb.mono hbw.size)) | ((with_reducible refine (HS.out _ _ _ _ _ _ _ (hva.kept ((Below.refl _ wd).alloc (Nat.le_refl _) (.cells #[.slice none 0 0, .slice none 0 0] 27))) (hoc.dfa.kept ((Below.refl _ wd).alloc (Nat.le_refl _) (.cells #[.slice none 0 0, .slice none 0 0] 27)))).mono ?_); rintro e wb hp; obtain ⟨Ab, mb, Bb, rb, rfl, hob, hbb⟩ := hp.shape; clear hp; have kb := (box2_kept (w := wd) (by have h := hbb; rw [World.size_alloc] at h; exact h)).1; have hcb := hbw.size; have hbx : wd.heap.size < (wd.alloc (.cells #[.slice none 0 0, .slice none 0 0] 27)).heap.size := (by simp); have hcx := (hbw.alloc hbw.size (.cells #[.slice none 0 0, .slice none 0 0] 27)).size; have hbw := (hbw.alloc hbw.size (.cells #[.slice none 0 0, .slice none 0 0] 27)).trans (hbb.mono (hbw.alloc hbw.size (.cells #[.slice none 0 0, .slice none 0 0] 27)).size))); (try (have kq := kb; obtain ⟨k0, k1, f0, f1⟩ := box2_facts kq; clear kq))))
    all_goals
      go_wp2_with fail
      go_meet
      first | exact ⟨_, _, _, _, _, rfl, rfl, midX_new hcx hob hbw⟩ | exact ⟨_, _, _, _, _, rfl, rfl, midX_set hcx hob hbw kb hbx hcb⟩
  case rest =>
    obtain ⟨b7, A7, m7, B7, r7, rfl, rfl, hx7, ho7, hc7, hd7, hb7⟩ := hcut
    obtain ⟨w7, hw7⟩ : ∃ w7, w7 = wc := ⟨_, rfl⟩
    rw [← hw7] at hx7 ho7 hd7 hb7 ⊢
    clear hw7
    have OB7 := Lib.hid hx7
    have OT7 := Lib.hid ho7
    have hz8 := (hb7).size
    have HB8 := Lib.hid (HB5.out.trans ((hb7).mono HB5.out.size))
    clear hx7 ho7 hb7 HK6 HL6
    obtain ⟨c9, e9⟩ := HX0.out w7 HB8.out
    go_wp2_with fail
    go_at_call 40
    refine (HT0.out w7 HB8.out).mono ?_
    rintro e w10 hp
    obtain ⟨A10, m10, B10, r10, rfl, ho10, hb10⟩ := hp.shape
    clear hp
    have OT10 := Lib.hid ho10
    have hz11 := (hb10).size
    have HB11 := Lib.hid (HB8.out.trans ((hb10).mono HB8.out.size))
    have O12 := Lib.hid (OB7.out.kept hb10)
    have O13 := Lib.hid (OT7.out.kept (fun g hg => by have := hg.1; have := hg.2; omega) hb10)
    clear OB7 OT7
    clear ho10 hb10
    clear c9 e9
    obtain ⟨c14, e14⟩ := HX1.out (w10.alloc (.cells #[.slice A10 d0.acc.length m10, .slice B10 d0.nxt.length r10] 27)) (HB11.out.alloc HB11.out.size _)
    go_wp2_with fail
    obtain ⟨W15, hW15⟩ : ∃ W15, W15 = w10.alloc (.cells #[.slice A10 d0.acc.length m10, .slice B10 d0.nxt.length r10] 27) := ⟨_, rfl⟩
    have BN15 := box2_new w10 w10 w10.heap.size (.slice A10 d0.acc.length m10) (.slice B10 d0.nxt.length r10) 27 (Below.refl _ _) (Nat.le_refl _)
    rw [← hW15] at BN15 ⊢
    have hzb15 := BN15.2.2.2
    have hb15 : Below w10.heap.size w10 W15 := BN15.2.2.1
    have OB15 := Lib.hid BN15.2.1
    clear hW15 BN15
    have hz16 := (hb15).size
    have HB16 := Lib.hid (HB11.out.trans ((hb15).mono HB11.out.size))
    have O17 := Lib.hid (O12.out.kept hb15)
    have O18 := Lib.hid (O13.out.kept (fun g hg => by have := hg.1; have := hg.2; omega) hb15)
    have O19 := Lib.hid (OT10.out.kept (fun g hg => by have := hg.1; have := hg.2; omega) hb15)
    clear O12 O13 OT10
    clear hb15
    go_at_call 40
    refine (HT1.out W15 HB16.out).mono ?_
    rintro e w20 hp
    obtain ⟨A20, m20, B20, r20, rfl, ho20, hb20⟩ := hp.shape
    clear hp
    have OT20 := Lib.hid ho20
    have hz21 := (hb20).size
    have HB21 := Lib.hid (HB16.out.trans ((hb20).mono HB16.out.size))
    have O22 := Lib.hid (O17.out.kept hb20)
    have O23 := Lib.hid (O18.out.kept (fun g hg => by have := hg.1; have := hg.2; omega) hb20)
    have O24 := Lib.hid (O19.out.kept (fun g hg => by have := hg.1; have := hg.2; omega) hb20)
    have O25 := Lib.hid (OB15.out.kept hb20)
    clear O17 O18 O19 OB15
    clear ho20 hb20
    clear c14 e14
    obtain ⟨c26, e26⟩ := O25.out.kept ((Below.refl w20.heap.size w20).alloc (Nat.le_refl _) (.cells #[.slice A20 d1.acc.length m20, .slice B20 d1.nxt.length r20] 27))
    go_wp2_with fail
    obtain ⟨W27, hW27⟩ : ∃ W27, W27 = w20.alloc (.cells #[.slice A20 d1.acc.length m20, .slice B20 d1.nxt.length r20] 27) := ⟨_, rfl⟩
    have BN27 := box2_new w20 w20 w20.heap.size (.slice A20 d1.acc.length m20) (.slice B20 d1.nxt.length r20) 27 (Below.refl _ _) (Nat.le_refl _)
    rw [← hW27] at BN27 ⊢
    have hzb27 := BN27.2.2.2
    have hb27 : Below w20.heap.size w20 W27 := BN27.2.2.1
    have OB27 := Lib.hid BN27.2.1
    clear hW27 BN27
    have hz28 := (hb27).size
    have HB28 := Lib.hid (HB21.out.trans ((hb27).mono HB21.out.size))
    have O29 := Lib.hid (O22.out.kept hb27)
    have O30 := Lib.hid (O23.out.kept (fun g hg => by have := hg.1; have := hg.2; omega) hb27)
    have O31 := Lib.hid (O24.out.kept (fun g hg => by have := hg.1; have := hg.2; omega) hb27)
    have O32 := Lib.hid (O25.out.kept hb27)
    have O33 := Lib.hid (OT20.out.kept (fun g hg => by have := hg.1; have := hg.2; omega) hb27)
    clear O22 O23 O24 O25 OT20
    clear hb27
    go_at_call 23
    refine ((HI.out _ (.slice A10 d0.acc.length m10) (.slice B10 d0.nxt.length r10) _ (.slice A20 d1.acc.length m20) (.slice B20 d1.nxt.length r20) W27 O31.out.dfa O33.out.dfa)).mono ?_
    rintro e w34 hp
    obtain ⟨A34, m34, B34, r34, rfl, ho34, hb34⟩ := hp.shape
    clear hp
    have OT34 := Lib.hid ho34
    have hz35 := (hb34).size
    have HB35 := Lib.hid (HB28.out.trans ((hb34).mono HB28.out.size))
    have O36 := Lib.hid (O29.out.kept hb34)
    have O37 := Lib.hid (O30.out.kept (fun g hg => by have := hg.1; have := hg.2; omega) hb34)
    have O38 := Lib.hid (O31.out.kept (fun g hg => by have := hg.1; have := hg.2; omega) hb34)
    have O39 := Lib.hid (O32.out.kept hb34)
    have O40 := Lib.hid (O33.out.kept (fun g hg => by have := hg.1; have := hg.2; omega) hb34)
    have O41 := Lib.hid (OB27.out.kept hb34)
    clear O29 O30 O31 O32 O33 OB27
    clear ho34 hb34
    clear c26 e26
    obtain ⟨c42, e42⟩ := O36.out.kept ((Below.refl w34.heap.size w34).alloc (Nat.le_refl _) (.cells #[.slice A34 y0.acc.length m34, .slice B34 y0.nxt.length r34] 27))
    go_wp2_with fail
    obtain ⟨W43, hW43⟩ : ∃ W43, W43 = w34.alloc (.cells #[.slice A34 y0.acc.length m34, .slice B34 y0.nxt.length r34] 27) := ⟨_, rfl⟩
    have BN43 := box2_new w34 w34 w34.heap.size (.slice A34 y0.acc.length m34) (.slice B34 y0.nxt.length r34) 27 (Below.refl _ _) (Nat.le_refl _)
    rw [← hW43] at BN43 ⊢
    have hzb43 := BN43.2.2.2
    have hb43 : Below w34.heap.size w34 W43 := BN43.2.2.1
    have OB43 := Lib.hid BN43.2.1
    clear hW43 BN43
    have hz44 := (hb43).size
    have HB44 := Lib.hid (HB35.out.trans ((hb43).mono HB35.out.size))
    have O45 := Lib.hid (O36.out.kept hb43)
    have O46 := Lib.hid (O37.out.kept (fun g hg => by have := hg.1; have := hg.2; omega) hb43)
    have O47 := Lib.hid (O38.out.kept (fun g hg => by have := hg.1; have := hg.2; omega) hb43)
    have O48 := Lib.hid (O39.out.kept hb43)
    have O49 := Lib.hid (O40.out.kept (fun g hg => by have := hg.1; have := hg.2; omega) hb43)
    have O50 := Lib.hid (O41.out.kept hb43)
    have O51 := Lib.hid (OT34.out.kept (fun g hg => by have := hg.1; have := hg.2; omega) hb43)
    clear O36 O37 O38 O39 O40 O41 OT34
    clear hb43
    clear c42 e42
    go_at_call 41
    refine (eqDfa_any _ _ _ _ y0 _ _ W43 O51.out.dfa O46.out.dfa).mono ?_
    rintro e w52 ⟨rfl, hb52⟩
    have hz53 := (hb52).size
    have HB53 := Lib.hid (HB44.out.trans ((hb52).mono HB44.out.size))
    have O54 := Lib.hid (O45.out.kept hb52)
    have O55 := Lib.hid (O46.out.kept (fun g hg => by have := hg.1; have := hg.2; omega) hb52)
    have O56 := Lib.hid (O47.out.kept (fun g hg => by have := hg.1; have := hg.2; omega) hb52)
    have O57 := Lib.hid (O48.out.kept hb52)
    have O58 := Lib.hid (O49.out.kept (fun g hg => by have := hg.1; have := hg.2; omega) hb52)
    have O59 := Lib.hid (O50.out.kept hb52)
    have O60 := Lib.hid (O51.out.kept (fun g hg => by have := hg.1; have := hg.2; omega) hb52)
    have O61 := Lib.hid (OB43.out.kept hb52)
    clear O45 O46 O47 O48 O49 O50 O51 OB43
    clear hb52
    go_wp2_with fail
    have HK62 := Lib.hid (fun (V : World) (h : Below w52.heap.size w52 V) => (⟨(O57.out.kept h).1, (O57.out.kept h).2, (HX0.out V (HB53.out.trans (h.mono HB53.out.size))).1, (HX0.out V (HB53.out.trans (h.mono HB53.out.size))).2⟩ : V.cell? ⟨w10.heap.size, 0, none⟩ = some (.slice A10 d0.acc.length m10) ∧ V.cell? ⟨w10.heap.size, 1, none⟩ = some (.slice B10 d0.nxt.length r10) ∧ V.cell? ⟨w.heap.size, 0, none⟩ = some va0 ∧ V.cell? ⟨w.heap.size, 1, none⟩ = some vn0))
    have HL62 := Lib.hid (fun (V : World) (h : Below w52.heap.size w52 V) => HB53.out.trans (h.mono HB53.out.size))
    have HE62 := Lib.hid (fun (V : World) (h : Below w52.heap.size w52 V) u u' (hu : DfaV V (OwnB w52.drew V) u u' d0) => eqDfa_any (.slice A10 d0.acc.length m10) (.slice B10 d0.nxt.length r10) u u' d0 _ _ V (O56.out.dfa.kept h) hu)
    have hbw : Below w52.heap.size w52 w52 := Below.refl _ _
    go_region_held3 (fun V => V.cell? ⟨w10.heap.size, 0, none⟩ = some (.slice A10 d0.acc.length m10) ∧ V.cell? ⟨w10.heap.size, 1, none⟩ = some (.slice B10 d0.nxt.length r10) ∧ V.cell? ⟨w.heap.size, 0, none⟩ = some va0 ∧ V.cell? ⟨w.heap.size, 1, none⟩ = some vn0) (first | exact HK62.out _ hbw.drew | exact HK62.out _ hbw) (first | (go_at_call 40; (with_reducible refine (HT0.out _ (HL62.out _ hbw.drew)).mono ?_); rintro e wa hp; obtain ⟨Aa, ma, Ba, ra, rfl, hoa, hba⟩ := hp.shape; clear hp; have hbw := hbw.drew.trans (hba.mono hbw.drew.size)) | (go_at_call 41; (with_reducible refine (HE62.out _ hbw _ _ ?_).mono ?_); exact hoa.dfa; rintro e wb62 ⟨rfl, hbb⟩; have hbw := hbw.trans (hbb.mono hbw.size)))
    have hz63 := (hbw).size
    have HB63 := Lib.hid (HB53.out.trans ((hbw).mono HB53.out.size))
    have O64 := Lib.hid (O54.out.kept hbw)
    have O65 := Lib.hid (O55.out.kept (fun g hg => by have := hg.1; have := hg.2; omega) hbw)
    have O66 := Lib.hid (O56.out.kept (fun g hg => by have := hg.1; have := hg.2; omega) hbw)
    have O67 := Lib.hid (O57.out.kept hbw)
    have O68 := Lib.hid (O58.out.kept (fun g hg => by have := hg.1; have := hg.2; omega) hbw)
    have O69 := Lib.hid (O59.out.kept hbw)
    have O70 := Lib.hid (O60.out.kept (fun g hg => by have := hg.1; have := hg.2; omega) hbw)
    have O71 := Lib.hid (O61.out.kept hbw)
    clear O54 O55 O56 O57 O58 O59 O60 O61
    clear hbw hoa hba hbb HK62 HL62 HE62
    go_wp2_with fail
    have HK72 := Lib.hid (fun (V : World) (h : Below wb62.heap.size wb62 V) => (⟨(O69.out.kept h).1, (O69.out.kept h).2, (HX1.out V (HB63.out.trans (h.mono HB63.out.size))).1, (HX1.out V (HB63.out.trans (h.mono HB63.out.size))).2⟩ : V.cell? ⟨w20.heap.size, 0, none⟩ = some (.slice A20 d1.acc.length m20) ∧ V.cell? ⟨w20.heap.size, 1, none⟩ = some (.slice B20 d1.nxt.length r20) ∧ V.cell? ⟨w.heap.size + 1, 0, none⟩ = some va1 ∧ V.cell? ⟨w.heap.size + 1, 1, none⟩ = some vn1))
    have HL72 := Lib.hid (fun (V : World) (h : Below wb62.heap.size wb62 V) => HB63.out.trans (h.mono HB63.out.size))
    have HE72 := Lib.hid (fun (V : World) (h : Below wb62.heap.size wb62 V) u u' (hu : DfaV V (OwnB wb62.drew V) u u' d1) => eqDfa_any (.slice A20 d1.acc.length m20) (.slice B20 d1.nxt.length r20) u u' d1 _ _ V (O68.out.dfa.kept h) hu)
    have hbw : Below wb62.heap.size wb62 wb62 := Below.refl _ _
    go_region_held3 (fun V => V.cell? ⟨w20.heap.size, 0, none⟩ = some (.slice A20 d1.acc.length m20) ∧ V.cell? ⟨w20.heap.size, 1, none⟩ = some (.slice B20 d1.nxt.length r20) ∧ V.cell? ⟨w.heap.size + 1, 0, none⟩ = some va1 ∧ V.cell? ⟨w.heap.size + 1, 1, none⟩ = some vn1) (first | exact HK72.out _ hbw.drew | exact HK72.out _ hbw) (first | (go_at_call 40; (with_reducible refine (HT1.out _ (HL72.out _ hbw.drew)).mono ?_); rintro e wa hp; obtain ⟨Aa, ma, Ba, ra, rfl, hoa, hba⟩ := hp.shape; clear hp; have hbw := hbw.drew.trans (hba.mono hbw.drew.size)) | (go_at_call 41; (with_reducible refine (HE72.out _ hbw _ _ ?_).mono ?_); exact hoa.dfa; rintro e wb72 ⟨rfl, hbb⟩; have hbw := hbw.trans (hbb.mono hbw.size)))
    have hz73 := (hbw).size
    have HB73 := Lib.hid (HB63.out.trans ((hbw).mono HB63.out.size))
    have O74 := Lib.hid (O64.out.kept hbw)
    have O75 := Lib.hid (O65.out.kept (fun g hg => by have := hg.1; have := hg.2; omega) hbw)
    have O76 := Lib.hid (O66.out.kept (fun g hg => by have := hg.1; have := hg.2; omega) hbw)
    have O77 := Lib.hid (O67.out.kept hbw)
    have O78 := Lib.hid (O68.out.kept (fun g hg => by have := hg.1; have := hg.2; omega) hbw)
    have O79 := Lib.hid (O69.out.kept hbw)
    have O80 := Lib.hid (O70.out.kept (fun g hg => by have := hg.1; have := hg.2; omega) hbw)
    have O81 := Lib.hid (O71.out.kept hbw)
    clear O64 O65 O66 O67 O68 O69 O70 O71
    clear hbw hoa hba hbb HK72 HL72 HE72
    obtain ⟨c82, e82⟩ := O77.out
    go_wp2_with fail
    go_at_call 42
    refine ((HMr0m.out (OwnB w7 w10) _ _ wb72 O76.out (fun g hg => by have := hg.2; omega))).mono ?_
    rintro e w83 ⟨rfl, hs83, hc83⟩
    have hz83 := hc83.size
    have HB83 := Lib.hid (HB73.out.trans (hc83.old (B := WB.heap.size) (fun g hg => by have := hg.1; omega) HB73.out.size))
    have O84 := Lib.hid (O74.out.chg hc83 (fun h => by have := h.1; have := h.2; omega))
    have O85 := Lib.hid (O75.out.chg (fun g hg => by have := hg.1; have := hg.2; omega) hc83 (fun g hg h => by have := hg.1; have := hg.2; have := h.1; have := h.2; omega))
    have O87 := Lib.hid (O77.out.chg hc83 (fun h => by have := h.1; have := h.2; omega))
    have O88 := Lib.hid (O78.out.chg (fun g hg => by have := hg.1; have := hg.2; omega) hc83 (fun g hg h => by have := hg.1; have := hg.2; have := h.1; have := h.2; omega))
    have O89 := Lib.hid (O79.out.chg hc83 (fun h => by have := h.1; have := h.2; omega))
    have O90 := Lib.hid (O80.out.chg (fun g hg => by have := hg.1; have := hg.2; omega) hc83 (fun g hg h => by have := hg.1; have := hg.2; have := h.1; have := h.2; omega))
    have O91 := Lib.hid (O81.out.chg hc83 (fun h => by have := h.1; have := h.2; omega))
    have OM83 := Lib.hid hs83
    clear O74 O75 O76 O77 O78 O79 O80 O81 hs83 hc83
    clear c82 e82
    obtain ⟨c92, e92⟩ := O89.out
    go_wp2_with fail
    go_at_call 42
    refine ((HMr1m.out (OwnB W15 w20) _ _ w83 O88.out (fun g hg => by have := hg.2; omega))).mono ?_
    rintro e w93 ⟨rfl, hs93, hc93⟩
    have hz93 := hc93.size
    have HB93 := Lib.hid (HB83.out.trans (hc93.old (B := WB.heap.size) (fun g hg => by have := hg.1; omega) HB83.out.size))
    have O94 := Lib.hid (O84.out.chg hc93 (fun h => by have := h.1; have := h.2; omega))
    have O95 := Lib.hid (O85.out.chg (fun g hg => by have := hg.1; have := hg.2; omega) hc93 (fun g hg h => by have := hg.1; have := hg.2; have := h.1; have := h.2; omega))
    have O96 := Lib.hid (OM83.out.chg (fun g hg => by have := hg.1; have := hg.2; omega) hc93 (fun g hg h => by have := hg.1; have := hg.2; have := h.1; have := h.2; omega))
    have O97 := Lib.hid (O87.out.chg hc93 (fun h => by have := h.1; have := h.2; omega))
    have O99 := Lib.hid (O89.out.chg hc93 (fun h => by have := h.1; have := h.2; omega))
    have O100 := Lib.hid (O90.out.chg (fun g hg => by have := hg.1; have := hg.2; omega) hc93 (fun g hg h => by have := hg.1; have := hg.2; have := h.1; have := h.2; omega))
    have O101 := Lib.hid (O91.out.chg hc93 (fun h => by have := h.1; have := h.2; omega))
    have OM93 := Lib.hid hs93
    clear O84 O85 OM83 O87 O88 O89 O90 O91 hs93 hc93
    clear c92 e92
    obtain ⟨c102, e102⟩ := O101.out
    obtain ⟨c103, e103⟩ := O94.out
    go_wp2_with fail
    go_at_call 41
    refine (eqDfa_any _ _ _ _ y0 _ _ w93 O100.out.dfa O95.out.dfa).mono ?_
    rintro e w104 ⟨rfl, hb104⟩
    have hz105 := (hb104).size
    have HB105 := Lib.hid (HB93.out.trans ((hb104).mono HB93.out.size))
    have O106 := Lib.hid (O94.out.kept hb104)
    have O107 := Lib.hid (O95.out.kept (fun g hg => by have := hg.1; have := hg.2; omega) hb104)
    have O108 := Lib.hid (O96.out.kept (fun g hg => by have := hg.1; have := hg.2; omega) hb104)
    have O109 := Lib.hid (O97.out.kept hb104)
    have O110 := Lib.hid (OM93.out.kept (fun g hg => by have := hg.1; have := hg.2; omega) hb104)
    have O111 := Lib.hid (O99.out.kept hb104)
    have O112 := Lib.hid (O100.out.kept (fun g hg => by have := hg.1; have := hg.2; omega) hb104)
    have O113 := Lib.hid (O101.out.kept hb104)
    clear O94 O95 O96 O97 OM93 O99 O100 O101
    clear hb104
    clear c102 e102 c103 e103
    obtain ⟨c114, e114⟩ := O113.out
    go_wp2_with fail
    go_at_call 42
    refine ((HMry.out (OwnB W27 w34) _ _ w104 O112.out (fun g hg => by have := hg.2; omega))).mono ?_
    rintro e w115 ⟨rfl, hs115, hc115⟩
    have hz115 := hc115.size
    have HB115 := Lib.hid (HB105.out.trans (hc115.old (B := WB.heap.size) (fun g hg => by have := hg.1; omega) HB105.out.size))
    have O116 := Lib.hid (O106.out.chg hc115 (fun h => by have := h.1; have := h.2; omega))
    have O117 := Lib.hid (O107.out.chg (fun g hg => by have := hg.1; have := hg.2; omega) hc115 (fun g hg h => by have := hg.1; have := hg.2; have := h.1; have := h.2; omega))
    have O118 := Lib.hid (O108.out.chg (fun g hg => by have := hg.1; have := hg.2; omega) hc115 (fun g hg h => by have := hg.1; have := hg.2; have := h.1; have := h.2; omega))
    have O119 := Lib.hid (O109.out.chg hc115 (fun h => by have := h.1; have := h.2; omega))
    have O120 := Lib.hid (O110.out.chg (fun g hg => by have := hg.1; have := hg.2; omega) hc115 (fun g hg h => by have := hg.1; have := hg.2; have := h.1; have := h.2; omega))
    have O121 := Lib.hid (O111.out.chg hc115 (fun h => by have := h.1; have := h.2; omega))
    have O123 := Lib.hid (O113.out.chg hc115 (fun h => by have := h.1; have := h.2; omega))
    have OM115 := Lib.hid hs115
    clear O106 O107 O108 O109 O110 O111 O112 O113 hs115 hc115
    clear c114 e114
    obtain ⟨c124, e124⟩ := O123.out
    go_wp2_with fail
    go_at_call 43
    refine (HH.out _ _ _ w115 OM115.out.dfa).mono ?_
    rintro e w125 ⟨rfl, hb125⟩
    have hz126 := (hb125).size
    have HB126 := Lib.hid (HB115.out.trans ((hb125).mono HB115.out.size))
    have O127 := Lib.hid (O116.out.kept hb125)
    have O128 := Lib.hid (O117.out.kept (fun g hg => by have := hg.1; have := hg.2; omega) hb125)
    have O129 := Lib.hid (O118.out.kept (fun g hg => by have := hg.1; have := hg.2; omega) hb125)
    have O130 := Lib.hid (O119.out.kept hb125)
    have O131 := Lib.hid (O120.out.kept (fun g hg => by have := hg.1; have := hg.2; omega) hb125)
    have O132 := Lib.hid (O121.out.kept hb125)
    have O133 := Lib.hid (OM115.out.kept (fun g hg => by have := hg.1; have := hg.2; omega) hb125)
    have O134 := Lib.hid (O123.out.kept hb125)
    clear O116 O117 O118 O119 O120 O121 OM115 O123
    clear hb125
    clear c124 e124
    go_wp2_with fail
    have HL135 := Lib.hid (fun (V : World) (h : Below w125.heap.size w125 V) => HB126.out.trans (h.mono HB126.out.size))
    have HK135 := Lib.hid (fun (V : World) (h : Below w125.heap.size w125 V) => (⟨(HX0.out V (HL135.out V h)).1, (HX0.out V (HL135.out V h)).2, (HX1.out V (HL135.out V h)).1, (HX1.out V (HL135.out V h)).2⟩ : V.cell? ⟨w.heap.size, 0, none⟩ = some va0 ∧ V.cell? ⟨w.heap.size, 1, none⟩ = some vn0 ∧ V.cell? ⟨w.heap.size + 1, 0, none⟩ = some va1 ∧ V.cell? ⟨w.heap.size + 1, 1, none⟩ = some vn1))
    go_cut [17, 18] from 98 to 106 (fun vp vq wx => ∃ (b : Nat) (Ax : Option Addr) (mx : Nat) (Bx : Option Addr) (rx : Nat), vp = .pointer (some ⟨b, 0, none⟩) ∧ vq = .bool y1 ∧ MidX w125 wx b (.slice Ax y0.acc.length mx) (.slice Bx y0.nxt.length rx) y0)
    case first =>
      have hbw : Below w125.heap.size w125 w125 := Below.refl _ _
      go_region_held3 (fun V => V.cell? ⟨w.heap.size, 0, none⟩ = some va0 ∧ V.cell? ⟨w.heap.size, 1, none⟩ = some vn0 ∧ V.cell? ⟨w.heap.size + 1, 0, none⟩ = some va1 ∧ V.cell? ⟨w.heap.size + 1, 1, none⟩ = some vn1) (first | exact HK135.out _ hbw.drew | exact HK135.out _ hbw | exact HK135.out _ (hbw.alloc hbw.size _).drew | exact HK135.out _ (hbw.alloc hbw.size _) | exact HK135.out _ ((hbw.setCell hcb _).setCell hcb _)) (first | (go_at_call 40; (first | ((with_reducible refine (HT0.out _ (HL135.out _ hbw.drew)).mono ?_); rintro e wa hp; obtain ⟨Aa, ma, Ba, ra, rfl, hoa, hba⟩ := hp.shape; clear hp; have hbw := hbw.drew.trans (hba.mono hbw.drew.size)) | ((with_reducible refine (HT0.out _ (HL135.out _ (hbw.alloc hbw.size (.cells #[.slice none 0 0, .slice none 0 0] 27)).drew)).mono ?_); rintro e wa hp; obtain ⟨Aa, ma, Ba, ra, rfl, hoa, hba⟩ := hp.shape; clear hp; have kb := (box2_kept (w := w125) (by have h := (Below.refl (w125.alloc (.cells #[.slice none 0 0, .slice none 0 0] 27)).heap.size (w125.alloc (.cells #[.slice none 0 0, .slice none 0 0] 27))).drew.trans hba; rw [World.size_alloc] at h; exact h)).1; have hcb := hbw.size; have hbw := (hbw.alloc hbw.size (.cells #[.slice none 0 0, .slice none 0 0] 27)).drew.trans (hba.mono (hbw.alloc hbw.size (.cells #[.slice none 0 0, .slice none 0 0] 27)).drew.size)))) | (go_at_call 40; (first | ((with_reducible refine (HT1.out _ (HL135.out _ hbw)).mono ?_); rintro e wd hp; obtain ⟨Ac, mc, Bc, rc, rfl, hoc, hbc⟩ := hp.shape; clear hp; have hva := hoa.dfa.kept hbc; (try have kb := (hbc.block _ (blk_lt kb)).trans kb); have hbw := hbw.trans (hbc.mono hbw.size)) | ((with_reducible refine (HT1.out _ (HL135.out _ (hbw.alloc hbw.size (.cells #[.slice none 0 0, .slice none 0 0] 27)))).mono ?_); rintro e wd hp; obtain ⟨Ac, mc, Bc, rc, rfl, hoc, hbc⟩ := hp.shape; clear hp; have hva := (hoa.dfa.kept ((Below.refl _ wa).alloc (Nat.le_refl _) (.cells #[.slice none 0 0, .slice none 0 0] 27))).kept hbc; have kb := (box2_kept (w := wa) (by have h := hbc; rw [World.size_alloc] at h; exact h)).1; have hcb := hbw.size; have hbw := (hbw.alloc hbw.size (.cells #[.slice none 0 0, .slice none 0 0] 27)).trans (hbc.mono (hbw.alloc hbw.size (.cells #[.slice none 0 0, .slice none 0 0] 27)).size)))) | (go_at_call 23; (first | ((with_reducible refine (HI.out _ _ _ _ _ _ _ hva hoc.dfa).mono ?_); rintro e wb hp; obtain ⟨Ab, mb, Bb, rb, rfl, hob, hbb⟩ := hp.shape; clear hp; have hcx := hbw.size; (try have hbx := blk_lt kb); (try have kb := (hbb.block _ (blk_lt kb)).trans kb); have hbw := hbw.trans (hbb.mono hbw.size)) | ((with_reducible refine (HI.out _ _ _ _ _ _ _ (hva.kept ((Below.refl _ wd).alloc (Nat.le_refl _) (.cells #[.slice none 0 0, .slice none 0 0] 27))) (hoc.dfa.kept ((Below.refl _ wd).alloc (Nat.le_refl _) (.cells #[.slice none 0 0, .slice none 0 0] 27)))).mono ?_); rintro e wb hp; obtain ⟨Ab, mb, Bb, rb, rfl, hob, hbb⟩ := hp.shape; clear hp; have kb := (box2_kept (w := wd) (by have h := hbb; rw [World.size_alloc] at h; exact h)).1; have hcb := hbw.size; have hbx : wd.heap.size < (wd.alloc (.cells #[.slice none 0 0, .slice none 0 0] 27)).heap.size := (by simp); have hcx := (hbw.alloc hbw.size (.cells #[.slice none 0 0, .slice none 0 0] 27)).size; have hbw := (hbw.alloc hbw.size (.cells #[.slice none 0 0, .slice none 0 0] 27)).trans (hbb.mono (hbw.alloc hbw.size (.cells #[.slice none 0 0, .slice none 0 0] 27)).size))); (try (have kq := kb; obtain ⟨k0, k1, f0, f1⟩ := box2_facts kq; clear kq))))
      all_goals
        go_wp2_with fail
        go_meet
        first | exact ⟨_, _, _, _, _, rfl, rfl, midX_new hcx hob hbw⟩ | exact ⟨_, _, _, _, _, rfl, rfl, midX_set hcx hob hbw kb hbx hcb⟩
    case rest =>
      obtain ⟨b136, A136, m136, B136, r136, rfl, rfl, hx136, ho136, hc136, hd136, hb136⟩ := hcut
      obtain ⟨w136, hw136⟩ : ∃ w136, w136 = wc := ⟨_, rfl⟩
      rw [← hw136] at hx136 ho136 hd136 hb136 ⊢
      clear hw136
      have OB136 := Lib.hid hx136
      have OT136 := Lib.hid ho136
      have hz137 := (hb136).size
      have HB137 := Lib.hid (HB126.out.trans ((hb136).mono HB126.out.size))
      have O138 := Lib.hid (O127.out.kept hb136)
      have O139 := Lib.hid (O128.out.kept (fun g hg => by have := hg.1; have := hg.2; omega) hb136)
      have O140 := Lib.hid (O129.out.kept (fun g hg => by have := hg.1; have := hg.2; omega) hb136)
      have O141 := Lib.hid (O130.out.kept hb136)
      have O142 := Lib.hid (O131.out.kept (fun g hg => by have := hg.1; have := hg.2; omega) hb136)
      have O143 := Lib.hid (O132.out.kept hb136)
      have O144 := Lib.hid (O133.out.kept (fun g hg => by have := hg.1; have := hg.2; omega) hb136)
      have O145 := Lib.hid (O134.out.kept hb136)
      clear O127 O128 O129 O130 O131 O132 O133 O134
      clear hx136 ho136 hb136 HK135 HL135
      obtain ⟨c146, e146⟩ := OB136.out
      obtain ⟨c147, e147⟩ := O138.out
      go_wp2_with fail
      go_at_call 41
      refine (eqDfa_any _ _ _ _ y0 _ _ w136 OT136.out.dfa O139.out.dfa).mono ?_
      rintro e w148 ⟨rfl, hb148⟩
      have hz149 := (hb148).size
      have HB149 := Lib.hid (HB137.out.trans ((hb148).mono HB137.out.size))
      have O150 := Lib.hid (O138.out.kept hb148)
      have O151 := Lib.hid (O139.out.kept (fun g hg => by have := hg.1; have := hg.2; omega) hb148)
      have O152 := Lib.hid (O140.out.kept (fun g hg => by have := hg.1; have := hg.2; omega) hb148)
      have O153 := Lib.hid (O141.out.kept hb148)
      have O154 := Lib.hid (O142.out.kept (fun g hg => by have := hg.1; have := hg.2; omega) hb148)
      have O155 := Lib.hid (O143.out.kept hb148)
      have O156 := Lib.hid (O144.out.kept (fun g hg => by have := hg.1; have := hg.2; omega) hb148)
      have O157 := Lib.hid (O145.out.kept hb148)
      have O158 := Lib.hid (OB136.out.kept hb148)
      have O159 := Lib.hid (OT136.out.kept (fun g hg => by have := hg.1; have := hg.2; omega) hb148)
      clear O138 O139 O140 O141 O142 O143 O144 O145 OB136 OT136
      clear hb148
      clear c146 e146 c147 e147
      obtain ⟨c160, e160⟩ := O157.out
      go_wp2_with fail
      go_at_call 43
      refine (HH.out _ _ _ w148 O156.out.dfa).mono ?_
      rintro e w161 ⟨rfl, hb161⟩
      have hz162 := (hb161).size
      have HB162 := Lib.hid (HB149.out.trans ((hb161).mono HB149.out.size))
      have O163 := Lib.hid (O150.out.kept hb161)
      have O164 := Lib.hid (O151.out.kept (fun g hg => by have := hg.1; have := hg.2; omega) hb161)
      have O165 := Lib.hid (O152.out.kept (fun g hg => by have := hg.1; have := hg.2; omega) hb161)
      have O166 := Lib.hid (O153.out.kept hb161)
      have O167 := Lib.hid (O154.out.kept (fun g hg => by have := hg.1; have := hg.2; omega) hb161)
      have O168 := Lib.hid (O155.out.kept hb161)
      have O169 := Lib.hid (O156.out.kept (fun g hg => by have := hg.1; have := hg.2; omega) hb161)
      have O170 := Lib.hid (O157.out.kept hb161)
      have O171 := Lib.hid (O158.out.kept hb161)
      have O172 := Lib.hid (O159.out.kept (fun g hg => by have := hg.1; have := hg.2; omega) hb161)
      clear O150 O151 O152 O153 O154 O155 O156 O157 O158 O159
      clear hb161
      clear c160 e160
      go_wp2_with fail
      go_ret
      exact ⟨rfl, HWB.out.trans (HB162.out.mono HWB.out.size)⟩

set_option maxRecDepth 100000 in
set_option maxHeartbeats 1600000 in
theorem lawPro_any (va0 vn0 : Value) (d0 : Dx) (va1 vn1 : Value) (d1 : Dx) (n2 : Int) (y0 : Dx) (y1 : Bool) (w : World) (hV0 : DfaV w (· < w.heap.size) va0 vn0 d0) (hV1 : DfaV w (· < w.heap.size) va1 vn1 d1)  (HS0 : ∀ (S0 : Nat → Prop) (va0 vn0 : Value) (S1 : Nat → Prop) (va1 vn1 : Value) (V : World), DfaV V S0 va0 vn0 d0 → DfaV V S1 va1 vn1 d1 → Calls Try.prog 24 #[.agg #[va0, vn0], .agg #[va1, vn1], .int .i64 n2] V (CopyDB y0 y1 V)) (HI0 : ∀ (S0 : Nat → Prop) (va0 vn0 : Value) (S1 : Nat → Prop) (va1 vn1 : Value) (V : World), DfaV V S0 va0 vn0 d0 → DfaV V S1 va1 vn1 d1 → Calls Try.prog 23 #[.agg #[va0, vn0], .agg #[va1, vn1], .int .i64 n2] V (CopyDB y0 y1 V)) (hyw : wtD y0 ≤ 1048576) :
    Calls Try.prog 7 #[.agg #[va0, vn0], .agg #[va1, vn1], .int .i64 n2] w fun e w' => e = .returned (.bool true) ∧ Below w.heap.size w w' := by
  by_cases hfit : wtD d0 + wtD d1 ≤ 1048576
  · exact lawPro_walk va0 vn0 d0 va1 vn1 d1 n2 y0 y1 w hV0 hV1  HS0 HI0 hyw hfit
  · by_cases hf0 : wtD d0 ≤ 1048576
    · skip
      have HB0 := Lib.hid (((Below.refl w.heap.size w).alloc (Nat.le_refl _) (.cells #[va0, vn0] 49)).alloc (by simp) (.cells #[va1, vn1] 49))
      have HZ0 := Lib.hid (fun (V : World) (hV : Below w.heap.size w V) z hz0 hz1 => szDfa_any va0 vn0 d0 _ z V (hV0.mono (fun g hg => hV.block g hg) (fun _ h => h)) hz0 hz1)
      have HZ1 := Lib.hid (fun (V : World) (hV : Below w.heap.size w V) z hz0 hz1 => szDfa_any va1 vn1 d1 _ z V (hV1.mono (fun g hg => hV.block g hg) (fun _ h => h)) hz0 hz1)
      obtain ⟨q0, hq0⟩ : ∃ q : Int, q = 1048576 - (wtD d0 : Int) := ⟨_, rfl⟩
      have hp0 : 0 ≤ q0 := by omega
      have hl0 : q0 ≤ 1048576 := by omega
      have HQ0 := Lib.hid ((leftOf_yes (m := wtD d0) (z := 1048576) (by omega)).trans hq0.symm)
      have HQ1 := Lib.hid (leftOf_no (m := wtD d1) (z := q0) (by omega))
      have HXb := Lib.hid (fun (V : World) (hV : Below (((w.alloc (.cells #[va0, vn0] 49)).alloc (.cells #[va1, vn1] 49))).heap.size ((w.alloc (.cells #[va0, vn0] 49)).alloc (.cells #[va1, vn1] 49)) V) => (by
        have k := box2_kept (w := (w.alloc (.cells #[va0, vn0] 49))) (w1 := V) (a := va1) (b := vn1) (t := 49) (by simpa using hV)
        rw [World.size_alloc] at k
        exact ⟨k.2.1, k.2.2.1⟩ : V.cell? ⟨w.heap.size + 1, 0, none⟩ = some va1 ∧ V.cell? ⟨w.heap.size + 1, 1, none⟩ = some vn1))
      obtain ⟨-, cq0, cq1, -⟩ := box2_kept (w := w) (w1 := ((w.alloc (.cells #[va0, vn0] 49)).alloc (.cells #[va1, vn1] 49))) (a := va0) (b := vn0) (t := 49) ((Below.refl _ _).alloc (by simp) _)
      clear hq0 hV0 hV1 HS0 HI0 hfit
      go_enter Try.func7, Try.ntmps7
      go_wp2_with fail
      refine (HZ0.out _ HB0.out 1048576 (by omega) (by omega)).mono ?_
      rintro e wz0 ⟨he, hb⟩
      rw [HQ0.out] at he
      subst he
      obtain ⟨cr0, cr1⟩ := HXb.out _ hb
      have HB1 := Lib.hid (HB0.out.trans (hb.mono HB0.out.size))
      clear hb
      go_wp2_with fail
      refine (HZ1.out _ HB1.out q0 (by omega) (by omega)).mono ?_
      rintro e wz1 ⟨he, hb⟩
      rw [HQ1.out] at he
      subst he
      have HB2 := Lib.hid (HB1.out.trans (hb.mono HB1.out.size))
      clear hb
      go_wp2_with fail
      go_ret
      exact ⟨rfl, HB2.out⟩
    · skip
      have HB0 := Lib.hid (((Below.refl w.heap.size w).alloc (Nat.le_refl _) (.cells #[va0, vn0] 49)).alloc (by simp) (.cells #[va1, vn1] 49))
      have HZ0 := Lib.hid (fun (V : World) (hV : Below w.heap.size w V) z hz0 hz1 => szDfa_any va0 vn0 d0 _ z V (hV0.mono (fun g hg => hV.block g hg) (fun _ h => h)) hz0 hz1)
      have HQ0 := Lib.hid (leftOf_no (m := wtD d0) (z := 1048576) (by omega))
      clear  hV0 hV1 HS0 HI0 hfit
      go_enter Try.func7, Try.ntmps7
      go_wp2_with fail
      refine (HZ0.out _ HB0.out 1048576 (by omega) (by omega)).mono ?_
      rintro e wz0 ⟨he, hb⟩
      rw [HQ0.out] at he
      subst he
      have HB1 := Lib.hid (HB0.out.trans (hb.mono HB0.out.size))
      clear hb
      go_wp2_with fail
      go_ret
      exact ⟨rfl, HB1.out⟩
end Go.Proofs.Ythmfncklepkddaa
