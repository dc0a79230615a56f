/-
  Texts of one proof, one behind the other.
-/
import Derived.Outline
import Derived.Deep.RegionHeld3
import Derived.Deep.CutRange
import Derived.RegionTactic
import Derived.Test.YtlkhmpdncimnfaaGreatDoorShelf
import Derived.StillTailTactics
import Derived.Test.YtlkhmpdncimnfaaGreatDoorCompPack4

/-
  laws.FnExactCompileRegex answers true at every argument, if CompileRegex and its model answer the same.
-/
namespace Go.Proofs.YtlkhmpdncimnfaaGreatDoor
open Go.RowKit

theorem slt_sl {w wr : World} {n : Nat} {S : Nat → Prop} {v : Value} {f : Fr} (h : SlT w n S v f) (hs : ∀ g, S g → wr.heap[g]? = w.heap[g]?) (hS : ∀ g, S g → g < wr.heap.size) : Sl wr wr.heap.size n v f := h.sl.mono hs hS

set_option maxRecDepth 100000 in
set_option maxHeartbeats 6400000 in
theorem lawComp_walk (n : Nat) (k : Int) (l : ByteArray) (u : Value) (a : Fr) (y0 : Dx) (y1 : Bool) (w : World) (hS : Sl w w.heap.size n u a) (hls : l.size ≤ 9223372036854775807) (HS0 : a.size ≤ 2097152 → ∀ (v : Value) (V : World), Sl V V.heap.size n v a → Calls Tryz.prog 5 #[.agg #[.int .i64 k, .string l, v]] V (CopyDB y0 y1 V)) (HI0 : a.size ≤ 2097152 → ∀ (v : Value) (V : World), Sl V V.heap.size n v a → Tab V → Calls Tryz.prog 7 #[.agg #[.int .i64 k, .string l, v]] V (CopyDB y0 y1 V)) (hyw : wtD y0 ≤ 1048576) (hTab : Tab w) (hfit : ((l.size + wt a : Nat) : Int) ≤ 1048576) :
    Calls Tryz.prog 3 #[.agg #[.int .i64 k, .string l, u]] w fun e w' => e = .returned (.bool true) ∧ Below w.heap.size w w' := by
  obtain ⟨WB, hWB⟩ : ∃ WB, WB = w.alloc (.cells #[.int .i64 k, .string l, u] 24) := ⟨_, rfl⟩
  have hWBz : WB.heap.size = w.heap.size + 1 := by rw [hWB]; simp
  have HWB : Hid (Below w.heap.size w WB) := Lib.hid (by rw [hWB]; exact (Below.refl w.heap.size w).alloc (Nat.le_refl _) _)
  have HTb := Lib.hid (fun (V : World) (hV : Below WB.heap.size WB V) => (hTab.kept HWB.out).kept hV)
  have hXW : Bx WB w.heap.size k l u := by rw [hWB]; exact ⟨by simp, by simp, by simp⟩
  have HX := Lib.hid (fun (V : World) (hV : Below WB.heap.size WB V) => hXW.below hV (by omega))
  have HL := Lib.hid (fun (V : World) (hV : Below WB.heap.size WB V) => HWB.out.trans (hV.mono HWB.out.size))
  have HZ := Lib.hid (fun wr (hb : Below w.heap.size w wr) => szNode_of (szS_any n) w.heap.size k l u a 1048576 wr (hS.mono hb (Nat.le_refl _)) hb.size hls (by omega) (by omega))
  have hsz : a.size ≤ 2097152 := by have := size_wt a; omega
  have HT := Lib.hid (fun wr (hb : Below w.heap.size w wr) => toNodeT_of (toST_any n) w.heap.size k l u a wr (hS.mono hb (Nat.le_refl _)) hb.size hsz)
  have HS := Lib.hid (HS0 hsz)
  have HI := Lib.hid (HI0 hsz)
  have HEX := Lib.hid (fun (u u' : Value) (wr : World) (h : Sl wr wr.heap.size n u a) (h' : Sl wr wr.heap.size n u' a) => eqNode_of (n := n) (m := n) (fun B u u' f w => eqS_any n n B u u' f w) wr.heap.size k l u u' a wr h h' (Nat.le_refl _))
  obtain ⟨r1, hr1⟩ : ∃ r1, r1 = 1 + 2 * a.size := ⟨_, rfl⟩
  have HMX := Lib.hid (fun (S : Nat → Prop) (u : Value) (wr : World) (h : SlT wr n S u a) (hS : ∀ g, S g → g < wr.heap.size) => mark_any n 1 S k l u a wr h hS (by omega) (by omega))
  rw [← hr1] at HMX
  obtain ⟨ry, hry⟩ : ∃ ry, ry = 1 + lenD y0 := ⟨_, rfl⟩
  have HMry := Lib.hid (fun S u u' V (h : DfaO V S u u' y0) hS => markDfa_any 1 u u' y0 S V h hS (by omega) (by omega))
  have HH := Lib.hid (fun S u u' V (h : DfaV V S u u' (markD 1 y0)) => heldDfa_any 1 u u' y0 S V h (by omega) (by omega))
  rw [← hry] at HMry HH
  have hneg1 : decide ((r1 : Int) < 0) = false := by simp
  have hnegy : decide ((ry : Int) < 0) = false := by simp
  have hn1 : (y1 != y1) = false := by simp
  have hpos : 0 ≤ (1048576 : Int) - ((l.size + wt a : Nat) : Int) := by omega
  obtain ⟨q, hq⟩ : ∃ q : Int, q = 1048576 - ((l.size + wt a : Nat) : Int) := ⟨_, rfl⟩
  rw [← hq] at hpos
  have HQ := Lib.hid ((leftOf_yes hfit).trans hq.symm)
  have HWBe := Lib.hid hWB
  clear hS hq hfit hsz hr1 hry HS0 HI0 hWB hXW
  go_enter Tryz.func3, Tryz.ntmps3
  have HB0 := Lib.hid (Below.refl WB.heap.size WB)
  go_wp2_with fail
  rw [← HWBe.out]
  refine (HZ.out _ (HL.out _ HB0.out)).mono ?_
  rintro e w0 ⟨he, hb0⟩
  rw [HQ.out] at he
  subst he
  have hz1 := (hb0).size
  have HB1 := Lib.hid (HB0.out.trans ((hb0).mono HB0.out.size))
  clear hb0
  obtain ⟨cx0, cx1, cx2⟩ := HX.out w0 HB1.out
  go_wp2_with fail
  go_at_call 6
  refine (HT.out w0 (HL.out _ HB1.out)).mono ?_
  rintro e w2 ⟨v2, rfl, ho2, hb2⟩
  obtain ⟨A2, m2, rfl⟩ := ho2.shape
  have OT2 := Lib.hid ho2
  have hz3 := (hb2).size
  have HB3 := Lib.hid (HB1.out.trans ((hb2).mono HB1.out.size))
  clear ho2 hb2
  clear cx0 cx1 cx2
  go_wp2_with fail
  go_at_call 5
  refine (HS.out _ w2 (slt_sl OT2.out (fun _ _ => rfl) (fun g hg => by have := hg.2; omega))).mono ?_
  rintro e w4 hp
  obtain ⟨A4, m4, B4, r4, rfl, ho4, hb4⟩ := hp.shape
  clear hp
  have OT4 := Lib.hid ho4
  have hz5 := (hb4).size
  have HB5 := Lib.hid (HB3.out.trans ((hb4).mono HB3.out.size))
  have O6 := Lib.hid (OT2.out.mono (fun g hg => (hb4).block g (by have := hg.2; omega)) (fun _ h => h))
  clear OT2
  clear ho4 hb4
  obtain ⟨cx0, cx1, cx2⟩ := HX.out (w4.alloc (.cells #[.slice A4 y0.acc.length m4, .slice B4 y0.nxt.length r4] 29)) (HB5.out.alloc HB5.out.size _)
  go_wp2_with fail
  obtain ⟨W7, hW7⟩ : ∃ W7, W7 = w4.alloc (.cells #[.slice A4 y0.acc.length m4, .slice B4 y0.nxt.length r4] 29) := ⟨_, rfl⟩
  have BN7 := box2_new w4 w4 w4.heap.size (.slice A4 y0.acc.length m4) (.slice B4 y0.nxt.length r4) 29 (Below.refl _ _) (Nat.le_refl _)
  rw [← hW7] at BN7 ⊢
  have hzb7 := BN7.2.2.2
  have hb7 : Below w4.heap.size w4 W7 := BN7.2.2.1
  have OB7 := Lib.hid BN7.2.1
  clear hW7 BN7
  have hz8 := (hb7).size
  have HB8 := Lib.hid (HB5.out.trans ((hb7).mono HB5.out.size))
  have O9 := Lib.hid (O6.out.mono (fun g hg => (hb7).block g (by have := hg.2; omega)) (fun _ h => h))
  have O10 := Lib.hid (OT4.out.kept (fun g hg => by have := hg.1; have := hg.2; omega) hb7)
  clear O6 OT4
  clear hb7
  go_at_call 6
  refine (HT.out W7 (HL.out _ HB8.out)).mono ?_
  rintro e w11 ⟨v11, rfl, ho11, hb11⟩
  obtain ⟨A11, m11, rfl⟩ := ho11.shape
  have OT11 := Lib.hid ho11
  have hz12 := (hb11).size
  have HB12 := Lib.hid (HB8.out.trans ((hb11).mono HB8.out.size))
  have O13 := Lib.hid (O9.out.mono (fun g hg => (hb11).block g (by have := hg.2; omega)) (fun _ h => h))
  have O14 := Lib.hid (O10.out.kept (fun g hg => by have := hg.1; have := hg.2; omega) hb11)
  have O15 := Lib.hid (OB7.out.kept hb11)
  clear O9 O10 OB7
  clear ho11 hb11
  clear cx0 cx1 cx2
  go_wp2_with fail
  obtain ⟨W16, hW16⟩ : ∃ W16, W16 = w11.alloc (.cells #[.int .i64 k, .string l, .slice A11 a.items.length m11] 34) := ⟨_, rfl⟩
  have BN16 := box_new w11 w11 w11.heap.size k l (.slice A11 a.items.length m11) 34 (Below.refl _ _) (Nat.le_refl _)
  rw [← hW16] at BN16 ⊢
  have hzb16 := BN16.2.2.2
  have hb16 : Below w11.heap.size w11 W16 := BN16.2.2.1
  have OB16 := Lib.hid BN16.2.1
  clear hW16 BN16
  have hz17 := (hb16).size
  have HB17 := Lib.hid (HB12.out.trans ((hb16).mono HB12.out.size))
  have O18 := Lib.hid (O13.out.mono (fun g hg => (hb16).block g (by have := hg.2; omega)) (fun _ h => h))
  have O19 := Lib.hid (O14.out.kept (fun g hg => by have := hg.1; have := hg.2; omega) hb16)
  have O20 := Lib.hid (O15.out.kept hb16)
  have O21 := Lib.hid (OT11.out.mono (fun g hg => (hb16).block g (by have := hg.2; omega)) (fun _ h => h))
  clear O13 O14 O15 OT11
  clear hb16
  go_at_call 7
  refine (HI.out _ W16 (slt_sl O21.out (fun _ _ => rfl) (fun g hg => by have := hg.2; omega)) (HTb.out W16 HB17.out)).mono ?_
  rintro e w22 hp
  obtain ⟨A22, m22, B22, r22, rfl, ho22, hb22⟩ := hp.shape
  clear hp
  have OT22 := Lib.hid ho22
  have hz23 := (hb22).size
  have HB23 := Lib.hid (HB17.out.trans ((hb22).mono HB17.out.size))
  have O24 := Lib.hid (O18.out.mono (fun g hg => (hb22).block g (by have := hg.2; omega)) (fun _ h => h))
  have O25 := Lib.hid (O19.out.kept (fun g hg => by have := hg.1; have := hg.2; omega) hb22)
  have O26 := Lib.hid (O20.out.kept hb22)
  have O27 := Lib.hid (O21.out.mono (fun g hg => (hb22).block g (by have := hg.2; omega)) (fun _ h => h))
  have O28 := Lib.hid (OB16.out.below hb22 (by omega))
  clear O18 O19 O20 O21 OB16
  clear ho22 hb22
  obtain ⟨c29, e29⟩ := O26.out.kept ((Below.refl w22.heap.size w22).alloc (Nat.le_refl _) (.cells #[.slice A22 y0.acc.length m22, .slice B22 y0.nxt.length r22] 29))
  go_wp2_with fail
  obtain ⟨W30, hW30⟩ : ∃ W30, W30 = w22.alloc (.cells #[.slice A22 y0.acc.length m22, .slice B22 y0.nxt.length r22] 29) := ⟨_, rfl⟩
  have BN30 := box2_new w22 w22 w22.heap.size (.slice A22 y0.acc.length m22) (.slice B22 y0.nxt.length r22) 29 (Below.refl _ _) (Nat.le_refl _)
  rw [← hW30] at BN30 ⊢
  have hzb30 := BN30.2.2.2
  have hb30 : Below w22.heap.size w22 W30 := BN30.2.2.1
  have OB30 := Lib.hid BN30.2.1
  clear hW30 BN30
  have hz31 := (hb30).size
  have HB31 := Lib.hid (HB23.out.trans ((hb30).mono HB23.out.size))
  have O32 := Lib.hid (O24.out.mono (fun g hg => (hb30).block g (by have := hg.2; omega)) (fun _ h => h))
  have O33 := Lib.hid (O25.out.kept (fun g hg => by have := hg.1; have := hg.2; omega) hb30)
  have O34 := Lib.hid (O26.out.kept hb30)
  have O35 := Lib.hid (O27.out.mono (fun g hg => (hb30).block g (by have := hg.2; omega)) (fun _ h => h))
  have O36 := Lib.hid (O28.out.below hb30 (by omega))
  have O37 := Lib.hid (OT22.out.kept (fun g hg => by have := hg.1; have := hg.2; omega) hb30)
  clear O24 O25 O26 O27 O28 OT22
  clear hb30
  clear c29 e29
  go_at_call 8
  refine (eqDfa_any _ _ _ _ y0 _ _ W30 O37.out.dfa O33.out.dfa).mono ?_
  rintro e w38 ⟨rfl, hb38⟩
  have hz39 := (hb38).size
  have HB39 := Lib.hid (HB31.out.trans ((hb38).mono HB31.out.size))
  have O40 := Lib.hid (O32.out.mono (fun g hg => (hb38).block g (by have := hg.2; omega)) (fun _ h => h))
  have O41 := Lib.hid (O33.out.kept (fun g hg => by have := hg.1; have := hg.2; omega) hb38)
  have O42 := Lib.hid (O34.out.kept hb38)
  have O43 := Lib.hid (O35.out.mono (fun g hg => (hb38).block g (by have := hg.2; omega)) (fun _ h => h))
  have O44 := Lib.hid (O36.out.below hb38 (by omega))
  have O45 := Lib.hid (O37.out.kept (fun g hg => by have := hg.1; have := hg.2; omega) hb38)
  have O46 := Lib.hid (OB30.out.kept hb38)
  clear O32 O33 O34 O35 O36 O37 OB30
  clear hb38
  have HL47 := Lib.hid (fun (V : World) (h : Below w38.heap.size w38 V) => HB39.out.trans (h.mono HB39.out.size))
  have HK47 := Lib.hid (fun (V : World) (h : Below w38.heap.size w38 V) => (⟨(O44.out.below h (by omega)).1, (O44.out.below h (by omega)).2.1, (O44.out.below h (by omega)).2.2, (HX.out V (HL47.out V h)).1, (HX.out V (HL47.out V h)).2.1, (HX.out V (HL47.out V h)).2.2⟩ : V.cell? ⟨w11.heap.size, 0, none⟩ = some (.int .i64 k) ∧ V.cell? ⟨w11.heap.size, 1, none⟩ = some (.string l) ∧ V.cell? ⟨w11.heap.size, 2, none⟩ = some (.slice A11 a.items.length m11) ∧ V.cell? ⟨w.heap.size, 0, none⟩ = some (.int .i64 k) ∧ V.cell? ⟨w.heap.size, 1, none⟩ = some (.string l) ∧ V.cell? ⟨w.heap.size, 2, none⟩ = some u))
  have hbw : Below w38.heap.size w38 w38 := Below.refl _ _
  go_wp2_with fail
  go_region_held3 (fun V => V.cell? ⟨w11.heap.size, 0, none⟩ = some (.int .i64 k) ∧ V.cell? ⟨w11.heap.size, 1, none⟩ = some (.string l) ∧ V.cell? ⟨w11.heap.size, 2, none⟩ = some (.slice A11 a.items.length m11) ∧ V.cell? ⟨w.heap.size, 0, none⟩ = some (.int .i64 k) ∧ V.cell? ⟨w.heap.size, 1, none⟩ = some (.string l) ∧ V.cell? ⟨w.heap.size, 2, none⟩ = some u) (first | exact HK47.out _ hbw.drew | exact HK47.out _ hbw) (first | (go_at_call 6; (with_reducible refine (HT.out _ (HL.out _ (HL47.out _ hbw.drew))).mono ?_); rintro e wa ⟨va7, rfl, hs7, hba⟩; obtain ⟨Aa, ma, rfl⟩ := hs7.shape; have hbw := hbw.drew.trans (hba.mono hbw.drew.size)) | (go_at_call 9; (with_reducible refine (HEX.out _ _ wa ?_ ?_).mono ?_); exact slt_sl O43.out (fun g hg => hbw.block g (by have := hg.2; omega)) (fun g hg => by have := hg.2; have := hbw.size; omega); exact own_sl hs7.sl; rintro e wb47 ⟨rfl, hbb⟩; have hbw := hbw.trans (hbb.mono hbw.size)))
  all_goals
    have hz48 := (hbw).size
    have HB48 := Lib.hid (HB39.out.trans ((hbw).mono HB39.out.size))
    have O49 := Lib.hid (O40.out.mono (fun g hg => (hbw).block g (by have := hg.2; omega)) (fun _ h => h))
    have O50 := Lib.hid (O41.out.kept (fun g hg => by have := hg.1; have := hg.2; omega) hbw)
    have O51 := Lib.hid (O42.out.kept hbw)
    have O52 := Lib.hid (O43.out.mono (fun g hg => (hbw).block g (by have := hg.2; omega)) (fun _ h => h))
    have O53 := Lib.hid (O44.out.below hbw (by omega))
    have O54 := Lib.hid (O45.out.kept (fun g hg => by have := hg.1; have := hg.2; omega) hbw)
    have O55 := Lib.hid (O46.out.kept hbw)
    clear O40 O41 O42 O43 O44 O45 O46
    clear hbw hs7 hba hbb HK47 HL47
    obtain ⟨cx0, cx1, cx2⟩ := O53.out
    go_wp2_with fail
    go_at_call 10
    refine (HMX.out (OwnB W7 w11) _ wb47 O52.out (fun g hg => by have := hg.2; omega)).mono ?_
    rintro e w56 ⟨rfl, hs56, hc56⟩
    have hz56 := hc56.size
    have HB56 := Lib.hid (HB48.out.trans (hc56.old (B := WB.heap.size) (fun g hg => by have := hg.1; omega) HB48.out.size))
    have O57 := Lib.hid (O49.out.mono (fun g hg => (hc56).block g (by have := hg.2; omega) (fun h => by have := h.1; have := h.2; have := hg.1; have := hg.2; omega)) (fun _ h => h))
    have O58 := Lib.hid (O50.out.chg (fun g hg => by have := hg.1; have := hg.2; omega) hc56 (fun g hg h => by have := hg.1; have := hg.2; have := h.1; have := h.2; omega))
    have O59 := Lib.hid (O51.out.chg hc56 (fun h => by have := h.1; have := h.2; omega))
    have O60 := Lib.hid (O53.out.chg hc56 (by omega) (fun h => by have := h.1; have := h.2; omega))
    have O61 := Lib.hid (O54.out.chg (fun g hg => by have := hg.1; have := hg.2; omega) hc56 (fun g hg h => by have := hg.1; have := hg.2; have := h.1; have := h.2; omega))
    have O62 := Lib.hid (O55.out.chg hc56 (fun h => by have := h.1; have := h.2; omega))
    clear O49 O50 O51 O53 O54 O55 hs56 hc56
    clear cx0 cx1 cx2
    obtain ⟨c63, e63⟩ := O62.out
    obtain ⟨c64, e64⟩ := O59.out
    go_wp2_with fail
    go_at_call 8
    refine (eqDfa_any _ _ _ _ y0 _ _ w56 O61.out.dfa O58.out.dfa).mono ?_
    rintro e w65 ⟨rfl, hb65⟩
    have hz66 := (hb65).size
    have HB66 := Lib.hid (HB56.out.trans ((hb65).mono HB56.out.size))
    have O67 := Lib.hid (O57.out.mono (fun g hg => (hb65).block g (by have := hg.2; omega)) (fun _ h => h))
    have O68 := Lib.hid (O58.out.kept (fun g hg => by have := hg.1; have := hg.2; omega) hb65)
    have O69 := Lib.hid (O59.out.kept hb65)
    have O70 := Lib.hid (O60.out.below hb65 (by omega))
    have O71 := Lib.hid (O61.out.kept (fun g hg => by have := hg.1; have := hg.2; omega) hb65)
    have O72 := Lib.hid (O62.out.kept hb65)
    clear O57 O58 O59 O60 O61 O62
    clear hb65
    clear c63 e63 c64 e64
    obtain ⟨c73, e73⟩ := O72.out
    go_wp2_with fail
    go_at_call 11
    refine ((HMry.out (OwnB W16 w22) _ _ w65 O71.out (fun g hg => by have := hg.2; omega))).mono ?_
    rintro e w74 ⟨rfl, hs74, hc74⟩
    have hz74 := hc74.size
    have HB74 := Lib.hid (HB66.out.trans (hc74.old (B := WB.heap.size) (fun g hg => by have := hg.1; omega) HB66.out.size))
    have O75 := Lib.hid (O67.out.mono (fun g hg => (hc74).block g (by have := hg.2; omega) (fun h => by have := h.1; have := h.2; have := hg.1; have := hg.2; omega)) (fun _ h => h))
    have O76 := Lib.hid (O68.out.chg (fun g hg => by have := hg.1; have := hg.2; omega) hc74 (fun g hg h => by have := hg.1; have := hg.2; have := h.1; have := h.2; omega))
    have O77 := Lib.hid (O69.out.chg hc74 (fun h => by have := h.1; have := h.2; omega))
    have O78 := Lib.hid (O70.out.chg hc74 (by omega) (fun h => by have := h.1; have := h.2; omega))
    have O80 := Lib.hid (O72.out.chg hc74 (fun h => by have := h.1; have := h.2; omega))
    have OM74 := Lib.hid hs74
    clear O67 O68 O69 O70 O71 O72 hs74 hc74
    clear c73 e73
    obtain ⟨c81, e81⟩ := O80.out
    go_wp2_with fail
    go_at_call 12
    refine (HH.out _ _ _ w74 OM74.out.dfa).mono ?_
    rintro e w82 ⟨rfl, hb82⟩
    have hz83 := (hb82).size
    have HB83 := Lib.hid (HB74.out.trans ((hb82).mono HB74.out.size))
    have O84 := Lib.hid (O75.out.mono (fun g hg => (hb82).block g (by have := hg.2; omega)) (fun _ h => h))
    have O85 := Lib.hid (O76.out.kept (fun g hg => by have := hg.1; have := hg.2; omega) hb82)
    have O86 := Lib.hid (O77.out.kept hb82)
    have O87 := Lib.hid (O78.out.below hb82 (by omega))
    have O88 := Lib.hid (OM74.out.kept (fun g hg => by have := hg.1; have := hg.2; omega) hb82)
    have O89 := Lib.hid (O80.out.kept hb82)
    clear O75 O76 O77 O78 OM74 O80
    clear hb82
    clear c81 e81
    obtain ⟨cx0, cx1, cx2⟩ := HX.out w82 HB83.out
    go_wp2_with fail
    go_at_call 6
    refine (HT.out w82 (HL.out _ HB83.out)).mono ?_
    rintro e w90 ⟨v90, rfl, ho90, hb90⟩
    obtain ⟨A90, m90, rfl⟩ := ho90.shape
    have OT90 := Lib.hid ho90
    have hz91 := (hb90).size
    have HB91 := Lib.hid (HB83.out.trans ((hb90).mono HB83.out.size))
    have O92 := Lib.hid (O84.out.mono (fun g hg => (hb90).block g (by have := hg.2; omega)) (fun _ h => h))
    have O93 := Lib.hid (O85.out.kept (fun g hg => by have := hg.1; have := hg.2; omega) hb90)
    have O94 := Lib.hid (O86.out.kept hb90)
    have O95 := Lib.hid (O87.out.below hb90 (by omega))
    have O96 := Lib.hid (O88.out.kept (fun g hg => by have := hg.1; have := hg.2; omega) hb90)
    have O97 := Lib.hid (O89.out.kept hb90)
    clear O84 O85 O86 O87 O88 O89
    clear ho90 hb90
    clear cx0 cx1 cx2
    go_wp2_with fail
    go_at_call 7
    refine (HI.out _ w90 (slt_sl OT90.out (fun _ _ => rfl) (fun g hg => by have := hg.2; omega)) (HTb.out w90 HB91.out)).mono ?_
    rintro e w98 hp
    obtain ⟨A98, m98, B98, r98, rfl, ho98, hb98⟩ := hp.shape
    clear hp
    have OT98 := Lib.hid ho98
    have hz99 := (hb98).size
    have HB99 := Lib.hid (HB91.out.trans ((hb98).mono HB91.out.size))
    have O100 := Lib.hid (O92.out.mono (fun g hg => (hb98).block g (by have := hg.2; omega)) (fun _ h => h))
    have O101 := Lib.hid (O93.out.kept (fun g hg => by have := hg.1; have := hg.2; omega) hb98)
    have O102 := Lib.hid (O94.out.kept hb98)
    have O103 := Lib.hid (O95.out.below hb98 (by omega))
    have O104 := Lib.hid (O96.out.kept (fun g hg => by have := hg.1; have := hg.2; omega) hb98)
    have O105 := Lib.hid (O97.out.kept hb98)
    have O106 := Lib.hid (OT90.out.mono (fun g hg => (hb98).block g (by have := hg.2; omega)) (fun _ h => h))
    clear O92 O93 O94 O95 O96 O97 OT90
    clear ho98 hb98
    obtain ⟨c107, e107⟩ := O102.out.kept ((Below.refl w98.heap.size w98).alloc (Nat.le_refl _) (.cells #[.slice A98 y0.acc.length m98, .slice B98 y0.nxt.length r98] 29))
    go_wp2_with fail
    obtain ⟨W108, hW108⟩ : ∃ W108, W108 = w98.alloc (.cells #[.slice A98 y0.acc.length m98, .slice B98 y0.nxt.length r98] 29) := ⟨_, rfl⟩
    have BN108 := box2_new w98 w98 w98.heap.size (.slice A98 y0.acc.length m98) (.slice B98 y0.nxt.length r98) 29 (Below.refl _ _) (Nat.le_refl _)
    rw [← hW108] at BN108 ⊢
    have hzb108 := BN108.2.2.2
    have hb108 : Below w98.heap.size w98 W108 := BN108.2.2.1
    have OB108 := Lib.hid BN108.2.1
    clear hW108 BN108
    have hz109 := (hb108).size
    have HB109 := Lib.hid (HB99.out.trans ((hb108).mono HB99.out.size))
    have O110 := Lib.hid (O100.out.mono (fun g hg => (hb108).block g (by have := hg.2; omega)) (fun _ h => h))
    have O111 := Lib.hid (O101.out.kept (fun g hg => by have := hg.1; have := hg.2; omega) hb108)
    have O112 := Lib.hid (O102.out.kept hb108)
    have O113 := Lib.hid (O103.out.below hb108 (by omega))
    have O114 := Lib.hid (O104.out.kept (fun g hg => by have := hg.1; have := hg.2; omega) hb108)
    have O115 := Lib.hid (O105.out.kept hb108)
    have O116 := Lib.hid (O106.out.mono (fun g hg => (hb108).block g (by have := hg.2; omega)) (fun _ h => h))
    have O117 := Lib.hid (OT98.out.kept (fun g hg => by have := hg.1; have := hg.2; omega) hb108)
    clear O100 O101 O102 O103 O104 O105 O106 OT98
    clear hb108
    clear c107 e107
    go_at_call 8
    refine (eqDfa_any _ _ _ _ y0 _ _ W108 O117.out.dfa O111.out.dfa).mono ?_
    rintro e w118 ⟨rfl, hb118⟩
    have hz119 := (hb118).size
    have HB119 := Lib.hid (HB109.out.trans ((hb118).mono HB109.out.size))
    have O120 := Lib.hid (O110.out.mono (fun g hg => (hb118).block g (by have := hg.2; omega)) (fun _ h => h))
    have O121 := Lib.hid (O111.out.kept (fun g hg => by have := hg.1; have := hg.2; omega) hb118)
    have O122 := Lib.hid (O112.out.kept hb118)
    have O123 := Lib.hid (O113.out.below hb118 (by omega))
    have O124 := Lib.hid (O114.out.kept (fun g hg => by have := hg.1; have := hg.2; omega) hb118)
    have O125 := Lib.hid (O115.out.kept hb118)
    have O126 := Lib.hid (O116.out.mono (fun g hg => (hb118).block g (by have := hg.2; omega)) (fun _ h => h))
    have O127 := Lib.hid (O117.out.kept (fun g hg => by have := hg.1; have := hg.2; omega) hb118)
    have O128 := Lib.hid (OB108.out.kept hb118)
    clear O110 O111 O112 O113 O114 O115 O116 O117 OB108
    clear hb118
    obtain ⟨c129, e129⟩ := O125.out
    go_wp2_with fail
    go_at_call 12
    refine (HH.out _ _ _ w118 O124.out.dfa).mono ?_
    rintro e w130 ⟨rfl, hb130⟩
    have hz131 := (hb130).size
    have HB131 := Lib.hid (HB119.out.trans ((hb130).mono HB119.out.size))
    have O132 := Lib.hid (O120.out.mono (fun g hg => (hb130).block g (by have := hg.2; omega)) (fun _ h => h))
    have O133 := Lib.hid (O121.out.kept (fun g hg => by have := hg.1; have := hg.2; omega) hb130)
    have O134 := Lib.hid (O122.out.kept hb130)
    have O135 := Lib.hid (O123.out.below hb130 (by omega))
    have O136 := Lib.hid (O124.out.kept (fun g hg => by have := hg.1; have := hg.2; omega) hb130)
    have O137 := Lib.hid (O125.out.kept hb130)
    have O138 := Lib.hid (O126.out.mono (fun g hg => (hb130).block g (by have := hg.2; omega)) (fun _ h => h))
    have O139 := Lib.hid (O127.out.kept (fun g hg => by have := hg.1; have := hg.2; omega) hb130)
    have O140 := Lib.hid (O128.out.kept hb130)
    clear O120 O121 O122 O123 O124 O125 O126 O127 O128
    clear hb130
    clear c129 e129
    go_wp2_with fail
    go_ret
    exact ⟨rfl, HWB.out.trans (HB131.out.mono HWB.out.size)⟩

set_option maxRecDepth 100000 in
set_option maxHeartbeats 1600000 in
theorem lawComp_any (n : Nat) (k : Int) (l : ByteArray) (u : Value) (a : Fr) (y0 : Dx) (y1 : Bool) (w : World) (hS : Sl w w.heap.size n u a) (hls : l.size ≤ 9223372036854775807) (HS0 : a.size ≤ 2097152 → ∀ (v : Value) (V : World), Sl V V.heap.size n v a → Calls Tryz.prog 5 #[.agg #[.int .i64 k, .string l, v]] V (CopyDB y0 y1 V)) (HI0 : a.size ≤ 2097152 → ∀ (v : Value) (V : World), Sl V V.heap.size n v a → Tab V → Calls Tryz.prog 7 #[.agg #[.int .i64 k, .string l, v]] V (CopyDB y0 y1 V)) (hyw : wtD y0 ≤ 1048576) (hTab : Tab w) :
    Calls Tryz.prog 3 #[.agg #[.int .i64 k, .string l, u]] w fun e w' => e = .returned (.bool true) ∧ Below w.heap.size w w' := by
  have HB0 := Lib.hid ((Below.refl w.heap.size w).alloc (Nat.le_refl _) (.cells #[.int .i64 k, .string l, u] 24))
  by_cases hfit : ((l.size + wt a : Nat) : Int) ≤ 1048576
  · exact lawComp_walk n k l u a y0 y1 w hS hls HS0 HI0 hyw hTab hfit
  · have HZ := Lib.hid (fun wr (hb : Below w.heap.size w wr) => szNode_of (szS_any n) w.heap.size k l u a 1048576 wr (hS.mono hb (Nat.le_refl _)) hb.size hls (by omega) (by omega))
    have HQ := Lib.hid (leftOf_no (m := l.size + wt a) (z := 1048576) hfit)
    clear hS hfit HS0 HI0
    go_enter Tryz.func3, Tryz.ntmps3
    go_wp2_with fail
    refine (HZ.out _ HB0.out).mono ?_
    rintro e w1 ⟨he, hb1⟩
    rw [HQ.out] at he
    subst he
    have HW1 := Lib.hid (HB0.out.trans (hb1.mono (by simp)))
    clear hb1
    go_wp2_with fail
    go_ret
    exact ⟨rfl, HW1.out⟩
end Go.Proofs.YtlkhmpdncimnfaaGreatDoor

/-
  The automaton of one word; its minimal automaton as an answer. Of no function of the program.
-/
namespace Go.Proofs.YtlkhmpdncimnfaaGreatDoor
open Go.RowKit

/-- Where letter k leads: along the word, or away. -/
def wdT (s : List UInt8) (i k : Nat) : Nat := if i < s.length ∧ letIdx (s.getD i 0) = (k : Int) then i + 1 else s.length + 1
def wdA (s : List UInt8) : Au := ⟨s.length + 2, fun i => decide (i = s.length), wdT s⟩
theorem wdT_lt (s : List UInt8) (i k : Nat) : wdT s i k < s.length + 2 := by
  unfold wdT
  split <;> omega
theorem wdA_wf (s : List UInt8) : (wdA s).wf := ⟨by show 0 < s.length + 2; omega, fun i k _ _ => wdT_lt s i k⟩
theorem wdT_yes {s : List UInt8} {i k : Nat} (hi : i < s.length) (h : letIdx (s.getD i 0) = (k : Int)) : wdT s i k = i + 1 := by
  unfold wdT
  rw [if_pos ⟨hi, h⟩]
theorem wdT_no {s : List UInt8} {i k : Nat} (h : ¬ (i < s.length ∧ letIdx (s.getD i 0) = (k : Int))) : wdT s i k = s.length + 1 := by
  unfold wdT
  rw [if_neg h]
/-- What WordDfa answers. -/
def wordR (s : List UInt8) (y : Dx) (ok : Bool) : Prop := if isW s = true then (∃ m, Canon m ∧ Eqv m 0 (wdA s) 0 ∧ y = fieldsOf m) ∧ ok = true else y = ⟨[], []⟩ ∧ ok = false
theorem wordR_some (s : List UInt8) : ∃ y ok, wordR s y ok := by
  unfold wordR
  by_cases h : isW s = true
  · obtain ⟨m, h1, h2, _⟩ := exists_min (wdA_wf s)
    exact ⟨_, _, by rw [if_pos h]; exact ⟨⟨m, h1, h2, rfl⟩, rfl⟩⟩
  · exact ⟨_, _, by rw [if_neg h]; exact ⟨rfl, rfl⟩⟩
theorem isW_len {s : List UInt8} (h : isW s = true) : s.length ≤ 30 := by
  unfold isW at h
  simp only [Bool.and_eq_true, decide_eq_true_eq] at h
  exact h.2
theorem wd_small {s : List UInt8} (hs : isW s = true) {m : Au} (h1 : Canon m) (h2 : Eqv m 0 (wdA s) 0) : m.n ≤ 40 := by
  obtain ⟨m', n1, n2, n3⟩ := exists_min (wdA_wf s)
  have h3 := (canon_unique h1 n1 (h2.swap n2)).1
  have h4 : m'.n ≤ s.length + 2 := n3
  have := isW_len hs
  omega
theorem wordR_wt {s : List UInt8} {y : Dx} {ok : Bool} (h : wordR s y ok) : wtD y ≤ 1048576 := by
  unfold wordR at h
  by_cases hs : isW s = true
  · rw [if_pos hs] at h
    obtain ⟨⟨m, h1, h2, rfl⟩, _⟩ := h
    exact fieldsOf_wt (wd_small hs h1 h2)
  · rw [if_neg hs] at h
    rw [h.1]
    decide
theorem wordR_yes {s : List UInt8} {y : Dx} {ok : Bool} (h : wordR s y ok) (hs : isW s = true) {m : Au} (h1 : Canon m) (h2 : Eqv m 0 (wdA s) 0) : y = fieldsOf m ∧ ok = true := by
  unfold wordR at h
  rw [if_pos hs] at h
  obtain ⟨⟨m', n1, n2, rfl⟩, rfl⟩ := h
  exact ⟨fields_one n1 h1 (n2.swap h2), rfl⟩
theorem wordR_no {s : List UInt8} {y : Dx} {ok : Bool} (h : wordR s y ok) (hs : isW s = false) : y = ⟨[], []⟩ ∧ ok = false := by
  unfold wordR at h
  rwa [if_neg (by rw [hs]; decide)] at h
end Go.Proofs.YtlkhmpdncimnfaaGreatDoor

/-
  The representation of an expression; the nine forms. Of no function of the program.
-/
namespace Go.Proofs.YtlkhmpdncimnfaaGreatDoor
open Go.RowKit

def signOf (k : Int) : List UInt8 := if k = 6 then [124] else if k = 7 then [38] else []
/-- A node's text, its parts' texts at hand. -/
def nodeTxt (k : Int) (l : ByteArray) (ts : List (List UInt8)) : List UInt8 :=
  if k = 1 then [48] else if k = 2 then [49] else if k = 3 then l.data.toList else if k = 4 then [46] else if k = 8 then 42 :: ts.getD 0 [] else if k = 9 then 33 :: ts.getD 0 []
  else 40 :: ts.getD 0 [] ++ signOf k ++ ts.getD 1 [] ++ [41]
def texts : Fr → List (List UInt8)
  | .nil => []
  | .cons k l a r => nodeTxt k l (texts a) :: texts r
theorem texts_at : ∀ {f : Fr} {j : Nat} {k : Int} {l : ByteArray} {a : Fr}, f.items[j]? = some (k, l, a) → (texts f).getD j [] = nodeTxt k l (texts a)
  | .nil, j, _, _, _, h => by simp [Fr.items] at h
  | .cons k' l' a' r, 0, k, l, a, h => by
    simp [Fr.items] at h
    obtain ⟨rfl, rfl, rfl⟩ := h
    simp [texts]
  | .cons k' l' a' r, j + 1, k, l, a, h => by
    simp [Fr.items] at h
    simpa [texts] using texts_at h
theorem texts_length : ∀ f : Fr, (texts f).length = f.items.length
  | .nil => rfl
  | .cons _ _ _ r => by simp [texts, Fr.items, texts_length r]

theorem nodeOk_cases {k : Int} {l : ByteArray} {m : Nat} (h : nodeOk k l m = true) :
    (k = 1 ∧ m = 0) ∨ (k = 2 ∧ m = 0) ∨ (k = 3 ∧ l.size = 1 ∧ m = 0) ∨ (k = 4 ∧ m = 0) ∨ (k = 5 ∧ m = 2) ∨ (k = 6 ∧ m = 2) ∨ (k = 7 ∧ m = 2) ∨ (k = 8 ∧ m = 1) ∨ (k = 9 ∧ m = 1) := by
  unfold nodeOk at h
  by_cases h3 : k = 3
  · rw [if_pos h3] at h
    simp only [Bool.and_eq_true, decide_eq_true_eq] at h
    omega
  · rw [if_neg h3] at h
    simp only [Bool.and_eq_true, decide_eq_true_eq] at h
    obtain ⟨⟨hk, _⟩, hm⟩ := h
    unfold argsOf at hm
    split at hm
    · omega
    · split at hm <;> omega

theorem nodeTxt_le {k : Int} {l : ByteArray} {a : Fr} (h : nodeOk k l a.items.length = true) : (nodeTxt k l (texts a)).length ≤ 3 + (texts a).flatten.length := by
  have two : ∀ ts : List (List UInt8), (ts.getD 0 []).length + (ts.getD 1 []).length ≤ ts.flatten.length := fun ts => by
    match ts with
    | [] => simp
    | [x] => simp
    | x :: y :: r => first | (simp; done) | (simp; omega)
  have h2 := two (texts a)
  rcases nodeOk_cases h with ⟨rfl, _⟩ | ⟨rfl, _⟩ | ⟨rfl, hl, _⟩ | ⟨rfl, _⟩ | ⟨rfl, _⟩ | ⟨rfl, _⟩ | ⟨rfl, _⟩ | ⟨rfl, _⟩ | ⟨rfl, _⟩
  · first | (simp [nodeTxt]; done) | (simp [nodeTxt]; omega)
  · first | (simp [nodeTxt]; done) | (simp [nodeTxt]; omega)
  · have : l.data.toList.length = 1 := by simpa using hl
    simp only [nodeTxt, if_neg (show ¬ (3 : Int) = 1 by decide), if_neg (show ¬ (3 : Int) = 2 by decide), if_true]
    omega
  · first | (simp [nodeTxt]; done) | (simp [nodeTxt]; omega)
  all_goals
    simp [nodeTxt, signOf]
    simp at h2
    omega
theorem texts_le : ∀ f : Fr, allRow f = true → (texts f).flatten.length ≤ 3 * f.size
  | .nil, _ => by simp [texts, Fr.size]
  | .cons k l a r, h => by
    simp only [allRow, Bool.and_eq_true] at h
    have h1 := texts_le a h.1.1
    have h2 := texts_le r h.2
    have h3 := nodeTxt_le h.1.2
    simp only [texts, List.flatten_cons, List.length_append, Fr.size]
    omega
theorem item_ok {f : Fr} {j : Nat} {k : Int} {l : ByteArray} {a : Fr} (hf : allRow f = true) (h : f.items[j]? = some (k, l, a)) : (allRow a && nodeOk k l a.items.length) = true := by
  rw [all_items, List.all_eq_true] at hf
  exact hf _ (List.mem_of_getElem? h)

theorem str_cat (a b : ByteArray) (x y : List UInt8) (ha : a = ⟨x.toArray⟩) (hb : b = ⟨y.toArray⟩) : a ++ b = ⟨(x ++ y).toArray⟩ := by rw [ha, hb, ByteArray.mk_append_mk]

theorem valid_ok {k : Int} {l : ByteArray} {a : Fr} (h : validRx k l a = true) : (allRow a && nodeOk k l a.items.length) = true := by
  unfold validRx at h
  rw [Bool.and_eq_true] at h
  exact h.2
end Go.Proofs.YtlkhmpdncimnfaaGreatDoor

/-
  The automaton of an expression, as an answer: node by node. Of no function of the program but the answers' names.
-/
namespace Go.Proofs.YtlkhmpdncimnfaaGreatDoor
open Go.RowKit

def rxNone : Dx := ⟨[false], [[0, 0, 0]]⟩
def rxAny : Dx := ⟨[false, true, false], [[1, 1, 1], [2, 2, 2], [2, 2, 2]]⟩
/-- An expression without parts. -/
def leafR (k : Int) (l : ByteArray) (y : Dx) (ok : Bool) : Prop :=
  if k = 2 then wordR [] y ok else if k = 3 then wordR l.data.toList y ok else if k = 4 then y = rxAny ∧ ok = true else y = rxNone ∧ ok = true
def nodeR1 (k : Int) (y1 : Dx) (ok1 : Bool) (y : Dx) (ok : Bool) : Prop :=
  if ok1 = true then (if k = 8 then starR y1 y ok else ∃ z, minR y1 z ∧ y = comD z ∧ ok = true) else y = ⟨[], []⟩ ∧ ok = false
def nodeR2 (k : Int) (y1 : Dx) (ok1 : Bool) (y2 : Dx) (ok2 : Bool) (y : Dx) (ok : Bool) : Prop :=
  if ok1 = true ∧ ok2 = true then (if k = 5 then catR y1 y2 y ok else proR y1 y2 k y ok) else y = ⟨[], []⟩ ∧ ok = false
/-- The automaton of the node with this kind, letter and parts, and whether there is one. -/
def compN : Int → ByteArray → Fr → Dx → Bool → Prop
  | k, l, .nil, y, ok => leafR k l y ok
  | k, _, .cons k1 l1 a1 .nil, y, ok => ∃ y1 ok1, compN k1 l1 a1 y1 ok1 ∧ nodeR1 k y1 ok1 y ok
  | k, _, .cons k1 l1 a1 (.cons k2 l2 a2 _), y, ok => ∃ y1 ok1 y2 ok2, compN k1 l1 a1 y1 ok1 ∧ compN k2 l2 a2 y2 ok2 ∧ nodeR2 k y1 ok1 y2 ok2 y ok
theorem leafR_some (k : Int) (l : ByteArray) : ∃ y ok, leafR k l y ok := by
  unfold leafR
  by_cases h2 : k = 2
  · simp only [if_pos h2]
    exact wordR_some _
  by_cases h3 : k = 3
  · simp only [if_neg h2, if_pos h3]
    exact wordR_some _
  by_cases h4 : k = 4
  · simp only [if_neg h2, if_neg h3, if_pos h4]
    exact ⟨_, _, rfl, rfl⟩
  · simp only [if_neg h2, if_neg h3, if_neg h4]
    exact ⟨_, _, rfl, rfl⟩
theorem nodeR1_some (k : Int) (y1 : Dx) (ok1 : Bool) : ∃ y ok, nodeR1 k y1 ok1 y ok := by
  unfold nodeR1
  by_cases h : ok1 = true
  · simp only [if_pos h]
    by_cases h8 : k = 8
    · simp only [if_pos h8]
      exact starR_some _
    · simp only [if_neg h8]
      obtain ⟨z, hz⟩ := minR_some y1
      exact ⟨_, _, z, hz, rfl, rfl⟩
  · simp only [if_neg h]
    exact ⟨_, _, rfl, rfl⟩
theorem nodeR2_some (k : Int) (y1 : Dx) (ok1 : Bool) (y2 : Dx) (ok2 : Bool) : ∃ y ok, nodeR2 k y1 ok1 y2 ok2 y ok := by
  unfold nodeR2
  by_cases h : ok1 = true ∧ ok2 = true
  · simp only [if_pos h]
    by_cases h5 : k = 5
    · simp only [if_pos h5]
      exact catR_some _ _
    · simp only [if_neg h5]
      exact proR_some _ _ _
  · simp only [if_neg h]
    exact ⟨_, _, rfl, rfl⟩
theorem compN_some : ∀ (k : Int) (l : ByteArray) (a : Fr), ∃ y ok, compN k l a y ok
  | k, l, .nil => leafR_some k l
  | k, l, .cons k1 l1 a1 .nil => by
    obtain ⟨y1, ok1, h1⟩ := compN_some k1 l1 a1
    obtain ⟨y, ok, h⟩ := nodeR1_some k y1 ok1
    exact ⟨y, ok, y1, ok1, h1, h⟩
  | k, l, .cons k1 l1 a1 (.cons k2 l2 a2 _) => by
    obtain ⟨y1, ok1, h1⟩ := compN_some k1 l1 a1
    obtain ⟨y2, ok2, h2⟩ := compN_some k2 l2 a2
    obtain ⟨y, ok, h⟩ := nodeR2_some k y1 ok1 y2 ok2
    exact ⟨y, ok, y1, ok1, y2, ok2, h1, h2, h⟩
theorem catR_wt' {a b y : Dx} {ok : Bool} (h : catR a b y ok) : wtD y ≤ 1048576 := by
  unfold catR at h
  split at h
  · exact srchR_wt h
  · rw [h.1]
    decide
theorem starR_wt' {d y : Dx} {ok : Bool} (h : starR d y ok) : wtD y ≤ 1048576 := by
  unfold starR at h
  split at h
  · exact srchR_wt h
  · rw [h.1]
    decide
theorem compN_wt : ∀ {k : Int} {l : ByteArray} {a : Fr} {y : Dx} {ok : Bool}, compN k l a y ok → wtD y ≤ 1048576
  | k, l, .nil, y, ok, h => by
    have h : leafR k l y ok := h
    unfold leafR at h
    split at h
    · exact wordR_wt h
    split at h
    · exact wordR_wt h
    split at h
    · rw [h.1]
      decide
    · rw [h.1]
      decide
  | k, l, .cons k1 l1 a1 .nil, y, ok, h => by
    obtain ⟨y1, ok1, -, h⟩ := h
    unfold nodeR1 at h
    split at h
    · split at h
      · exact starR_wt' h
      · obtain ⟨z, hz, rfl, -⟩ := h
        exact comD_wt (minR_wt hz)
    · rw [h.1]
      decide
  | k, l, .cons k1 l1 a1 (.cons k2 l2 a2 _), y, ok, h => by
    obtain ⟨y1, ok1, y2, ok2, -, -, h⟩ := h
    unfold nodeR2 at h
    split at h
    · split at h
      · exact catR_wt' h
      · exact proR_wt h
    · rw [h.1]
      decide
/-- What CompileRegex answers. -/
def compRx (k : Int) (l : ByteArray) (a : Fr) (y : Dx) (ok : Bool) : Prop := if validRx k l a = true then compN k l a y ok else y = ⟨[], []⟩ ∧ ok = false
theorem compRx_some (k : Int) (l : ByteArray) (a : Fr) : ∃ y ok, compRx k l a y ok := by
  unfold compRx
  by_cases h : validRx k l a = true
  · simp only [if_pos h]
    exact compN_some k l a
  · simp only [if_neg h]
    exact ⟨_, _, rfl, rfl⟩
theorem compRx_wt {k : Int} {l : ByteArray} {a : Fr} {y : Dx} {ok : Bool} (h : compRx k l a y ok) : wtD y ≤ 1048576 := by
  unfold compRx at h
  split at h
  · exact compN_wt h
  · rw [h.1]
    decide
end Go.Proofs.YtlkhmpdncimnfaaGreatDoor

/-
  What spec.l6Word and spec.WordDfa answer.
-/
namespace Go.Proofs.YtlkhmpdncimnfaaGreatDoor
open Go.RowKit

/-- State i's row so far. -/
def wdRow (s : List UInt8) (i k : Nat) : List Int := (List.range k).map fun j => ((wdT s i j : Nat) : Int)
theorem wdRow_length (s : List UInt8) (i k : Nat) : (wdRow s i k).length = k := by simp [wdRow]
theorem wdRow_succ (s : List UInt8) (i k : Nat) : wdRow s i (k + 1) = wdRow s i k ++ [((wdT s i k : Nat) : Int)] := by simp [wdRow, List.range_succ]
theorem wd_fields (s : List UInt8) : accOf (wdA s) = ((List.range (s.length + 2)).map fun i => decide (i = s.length)) ∧ intss (nxtOf (wdA s)) = (List.range (s.length + 2)).map fun i => ints (wdRow s i 3) := by
  refine ⟨rfl, ?_⟩
  simp only [intss, nxtOf, List.map_map]
  rfl

set_option maxRecDepth 100000 in
set_option maxHeartbeats 6400000 in
theorem specWdl_any (s : ByteArray) (hs : s.size ≤ 30) (w : World) :
    Calls Tryz.prog 51 #[.string s] w fun e w' => ∃ m, Canon m ∧ Eqv m 0 (wdA s.data.toList) 0 ∧ CopyD (fieldsOf m) w e w' := by
  obtain ⟨i0, hi, hz0, hz1, hz2⟩ := info_parts intInfo
  obtain ⟨b0, hbi, hb0, hb1, hb2⟩ := info_parts boolInfo
  obtain ⟨r0, hri, hr0, hr1, hr2⟩ := info_parts rowInfo
  obtain ⟨W0, hW0⟩ : ∃ W0, W0 = (w.alloc (.cells #[.slice none 0 0, .slice none 0 0] 29)).alloc (.cells #[.slice none 0 0, .slice none 0 0] 29) := ⟨_, rfl⟩
  have HB0 : Hid (Below w.heap.size w W0) := Lib.hid (by rw [hW0]; exact ((Below.refl _ _).alloc (Nat.le_refl _) _).alloc (by simp) _)
  have HY : Hid (W0.heap[w.heap.size]? = some (.cells #[.slice none 0 0, .slice none 0 0] 29 (0, 0))) := Lib.hid (by rw [hW0]; exact (Below.heap_alloc _ _ _ (by simp)).trans (heap_alloc_new w _))
  obtain ⟨B, hB⟩ : ∃ B, B = w.heap.size + 1 := ⟨_, rfl⟩
  have HSt : Hid (Out B W0 B (.slice none 0 0) (.slice none 0 0) [] [] [] (fun _ _ => False)) := Lib.hid (by
    have h := Out.start (w.alloc (.cells #[.slice none 0 0, .slice none 0 0] 29)) (B := B) (by rw [hB]; simp)
    rw [World.size_alloc, ← hB, ← hW0] at h
    exact h)
  have HBe := Lib.hid hB
  obtain ⟨n, hn⟩ : ∃ n, n = s.size := ⟨_, rfl⟩
  have hl : s.data.toList.length = n := by rw [hn]; simp
  have HL := Lib.hid hl
  have HG : Hid (∀ i (h : i < s.size), s.data.toList.getD i 0 = s[i]) := Lib.hid (fun i h => by
    rw [List.getD_eq_getElem?_getD, List.getElem?_eq_getElem (by omega)]
    rfl)
  clear hl
  go_enter Tryz.func51, Tryz.ntmps51
  go_upto_region 2 with fail
  rw [← hW0, ← hB]
  clear hW0 hB
  go_wp2_with fail
  go_loopw [5] (fun iv wr => ∃ (i : Nat) (va vn : Value) (us : List Value) (K : Nat → Nat → Prop), iv = .int .i64 i ∧ i ≤ n + 2 ∧ us.length = i ∧ Hid (Below B W0 wr) ∧ Hid (Out B wr B va vn ((List.range i).map fun j => decide (j = s.data.toList.length)) us ((List.range i).map fun j => ints (wdRow s.data.toList j 3)) K)) (fun iv _ => n + 2 - (intOf iv).toNat)
  case atStart => exact ⟨0, _, _, [], _, rfl, Nat.zero_le _, rfl, Lib.hid (Below.refl _ _), HSt⟩
  clear HSt
  case round =>
    obtain ⟨i, va, vn, us, K, rfl, hin, hus, HBr, ho⟩ := hrel
    obtain ⟨accs, hacc⟩ : ∃ accs, accs = (List.range i).map fun j => decide (j = s.data.toList.length) := ⟨_, rfl⟩
    obtain ⟨rss, hrss⟩ : ∃ rss, rss = (List.range i).map fun j => ints (wdRow s.data.toList j 3) := ⟨_, rfl⟩
    rw [← hacc, ← hrss] at ho
    have HAc := Lib.hid (And.intro hacc hrss)
    have hal : accs.length = i := by rw [hacc]; simp
    have HAl := Lib.hid hal
    clear hacc hrss hal
    by_cases hlt : i < n + 2
    · have hd : decide ((i : Int) ≤ (s.size : Int) + 1) = true := by simp; omega
      have HTw0 : Hid (One B (wr.alloc (.cells #[] 3)) B va vn accs us rss K (.slice (some ⟨wr.heap.size, 0, none⟩) 0 0) (wdRow s.data.toList i 0)) := Lib.hid ho.out.one
      have HBa := Lib.hid (HBr.out.alloc (Nat.le_of_lt ho.out.base) (.cells #[] 3))
      go_wp2_with fail
      clear hd ho
      go_loopw [6, 7] (fun vr kv wq => ∃ k : Nat, kv = .int .i64 k ∧ k ≤ 3 ∧ Hid (Below B W0 wq) ∧ Hid (One B wq B va vn accs us rss K vr (wdRow s.data.toList i k))) (fun _ kv _ => 3 - (intOf kv).toNat)
      case atStart => exact ⟨0, rfl, Nat.zero_le _, HBa, HTw0⟩
      case round =>
        obtain ⟨k, rfl, hk, HBq, HQ⟩ := hrel
        clear HTw0 HBa
        have hrl : (wdRow s.data.toList i k).length ≤ 3 := by rw [wdRow_length]; omega
        have hbwr : B ≤ wr.heap.size := Nat.le_of_lt HQ.out.out.base
        by_cases hk3 : k < 3
        · have hd : decide ((k : Int) < 3) = true := by simp; omega
          have hsm : (i : Int) ≤ 100 := by omega
          by_cases hi2 : i < s.size
          · have e1 : decide ((i : Int) < (s.size : Int)) = true := by simp; omega
            have e2 : (0 : Int) ≤ (i : Int) := by omega
            have e3 : (i : Int) < (s.size : Int) := by omega
            by_cases hy : letIdx s[i] = (k : Int)
            · have e4 : (letIdx s[i] == (k : Int)) = true := by simp [hy]
              have HSt : Hid (wdRow s.data.toList i k ++ [(i : Int) + 1] = wdRow s.data.toList i (k + 1)) := Lib.hid (by rw [wdRow_succ, wdT_yes (by rw [HL.out]; omega) (by rw [HG.out i hi2]; exact hy)]; rfl)
              clear hy
              go_upto_region 11 with (go_at_call 85; refine (specLet_any _ _).mono ?_; rintro e w' ⟨rfl, rfl⟩)
              go_wp2_with (at_builtin; refine wpList_append_own_at _ rfl (.tmp 34) (.tmp 37) 68 rfl B 3 i0 (.int .i64 0) 1 8 Tryz.underlying68 hi hz0 hz1 hz2 rfl (by decide) _ _ _ rfl (HQ.out.ord.alloc _) ⟨wr.heap.size, 0, none⟩ 1 1 [.int .i64 ((i : Int) + 1)] rfl rfl (cell_one_new _ _ _) (by simp [Value.oneCell']) (by unfold maxLen; omega) (by omega) (by simp; omega) ?_)
              intro v2 wf hown2 hgrow2 hnil2 hat2
              have HQf := Lib.hid ((HQ.out.below ((Below.refl _ _).alloc (Nat.le_refl _) (.cells #[.int .i64 ((i : Int) + 1)] 3))).ord_push hown2 hgrow2 (by simpa using hat2))
              have HBf := Lib.hid ((HBq.out.alloc hbwr (.cells #[.int .i64 ((i : Int) + 1)] 3)).grown hgrow2 (by simp; omega) (fun g e => (HQ.out.ord.lt g e).1))
              rw [HSt.out] at HQf
              clear hown2 hgrow2 hnil2 hat2
              go_wp2_with fail
              go_roundw
              case rel => exact ⟨k + 1, by go_num, by omega, HBf, HQf⟩
              case measure => simp [intOf]; omega
            · have e4 : (letIdx s[i] == (k : Int)) = false := by simp [hy]
              have HSt : Hid (wdRow s.data.toList i k ++ [(s.size : Int) + 1] = wdRow s.data.toList i (k + 1)) := Lib.hid (by rw [wdRow_succ, wdT_no (fun h => hy (by rw [← HG.out i hi2]; exact h.2)), HL.out, hn]; rfl)
              clear hy
              go_upto_region 12 with (go_at_call 85; refine (specLet_any _ _).mono ?_; rintro e w' ⟨rfl, rfl⟩)
              go_wp2_with (at_builtin; refine wpList_append_own_at _ rfl (.tmp 39) (.tmp 41) 68 rfl B 3 i0 (.int .i64 0) 1 8 Tryz.underlying68 hi hz0 hz1 hz2 rfl (by decide) _ _ _ rfl (HQ.out.ord.alloc _) ⟨wr.heap.size, 0, none⟩ 1 1 [.int .i64 ((s.size : Int) + 1)] rfl rfl (cell_one_new _ _ _) (by simp [Value.oneCell']) (by unfold maxLen; omega) (by omega) (by simp; omega) ?_)
              intro v2 wf hown2 hgrow2 hnil2 hat2
              have HQf := Lib.hid ((HQ.out.below ((Below.refl _ _).alloc (Nat.le_refl _) (.cells #[.int .i64 ((s.size : Int) + 1)] 3))).ord_push hown2 hgrow2 (by simpa using hat2))
              have HBf := Lib.hid ((HBq.out.alloc hbwr (.cells #[.int .i64 ((s.size : Int) + 1)] 3)).grown hgrow2 (by simp; omega) (fun g e => (HQ.out.ord.lt g e).1))
              rw [HSt.out] at HQf
              clear hown2 hgrow2 hnil2 hat2
              go_wp2_with fail
              go_roundw
              case rel => exact ⟨k + 1, by go_num, by omega, HBf, HQf⟩
              case measure => simp [intOf]; omega
          · have e1 : decide ((i : Int) < (s.size : Int)) = false := by simp; omega
            have hy : True := trivial
            have HSt : Hid (wdRow s.data.toList i k ++ [(s.size : Int) + 1] = wdRow s.data.toList i (k + 1)) := Lib.hid (by rw [wdRow_succ, wdT_no (fun h => hi2 (by rw [← hn, ← HL.out]; exact h.1)), HL.out, hn]; rfl)
            clear hy
            go_upto_region 12 with fail
            go_wp2_with (at_builtin; refine wpList_append_own_at _ rfl (.tmp 39) (.tmp 41) 68 rfl B 3 i0 (.int .i64 0) 1 8 Tryz.underlying68 hi hz0 hz1 hz2 rfl (by decide) _ _ _ rfl (HQ.out.ord.alloc _) ⟨wr.heap.size, 0, none⟩ 1 1 [.int .i64 ((s.size : Int) + 1)] rfl rfl (cell_one_new _ _ _) (by simp [Value.oneCell']) (by unfold maxLen; omega) (by omega) (by simp; omega) ?_)
            intro v2 wf hown2 hgrow2 hnil2 hat2
            have HQf := Lib.hid ((HQ.out.below ((Below.refl _ _).alloc (Nat.le_refl _) (.cells #[.int .i64 ((s.size : Int) + 1)] 3))).ord_push hown2 hgrow2 (by simpa using hat2))
            have HBf := Lib.hid ((HBq.out.alloc hbwr (.cells #[.int .i64 ((s.size : Int) + 1)] 3)).grown hgrow2 (by simp; omega) (fun g e => (HQ.out.ord.lt g e).1))
            rw [HSt.out] at HQf
            clear hown2 hgrow2 hnil2 hat2
            go_wp2_with fail
            go_roundw
            case rel => exact ⟨k + 1, by go_num, by omega, HBf, HQf⟩
            case measure => simp [intOf]; omega
        · obtain rfl : k = 3 := by omega
          obtain ⟨-, Ar, cr, rfl⟩ := (HQ.out.ord.row (by rw [wdRow_length]; omega)).row.ints_shape
          obtain ⟨e0, -, f0, -⟩ := box2_facts HQ.out.out.box
          have hbl : accs.length ≤ 2000 := by rw [HAl.out]; omega
          obtain ⟨Aa, qa, hva⟩ := (RowO.of_owns HQ.out.out.acc (by omega)).row.shape
          rw [bools_length] at hva
          subst hva
          obtain ⟨b, hb⟩ : ∃ b, b = ((i : Int) == (s.size : Int)) := ⟨_, rfl⟩
          have hbs := hb.symm
          have HBv : Hid (decide (i = s.data.toList.length) = b) := Lib.hid (by
            rw [hb, HL.out, hn]
            by_cases h : i = s.size
            · simp [h]
            · have h' : ¬ ((i : Int) = (s.size : Int)) := by omega
              simp [h, h'])
          clear hb
          go_wp2_with (at_builtin; refine wpList_append_own_at _ rfl (.tmp 44) (.tmp 49) 26 rfl B 4 b0 (.bool false) 1 1 Tryz.underlying26 hbi hb0 hb1 hb2 rfl (by decide) _ _ _ rfl (HQ.out.out.acc.alloc _) ⟨wr.heap.size, 0, none⟩ 1 1 [.bool b] rfl rfl (cell_one_new _ _ _) (by simp [Value.oneCell']) (by unfold maxLen; omega) (by omega) (by simp; omega) ?_)
          intro v' w9 hown' hgrow hnil hat
          obtain ⟨ga, cpa, rfl⟩ := own_succ hown'
          obtain ⟨⟨z0, z1⟩, z2, HQ9⟩ := (HQ.out.below ((Below.refl _ _).alloc (Nat.le_refl _) (.cells #[.bool b] 4))).acc_push hown' hgrow
          have HB9 := Lib.hid (((HBq.out.alloc hbwr (.cells #[.bool b] 4)).grown hgrow (by simp; omega) (fun g e => (HQ.out.out.acc.lt g e).1)).setCell (p := ⟨B, 0, none⟩) (Nat.le_refl _) (.slice (some ⟨ga, 0, none⟩) (accs.length + 1) cpa))
          have HQ9 := Lib.hid HQ9
          obtain ⟨W9, hW9⟩ : ∃ W9, W9 = w9.setCell ⟨B, 0, none⟩ (.slice (some ⟨ga, 0, none⟩) (accs.length + 1) cpa) := ⟨_, rfl⟩
          rw [← hW9] at HQ9 HB9
          clear hown' hgrow hnil hat
          go_upto_region 14 with fail
          rw [← hW9]
          clear hW9 z1 z2 e0 f0 hbs
          have HA1 : Hid (accs ++ [b] = (List.range (i + 1)).map fun j => decide (j = s.data.toList.length)) := Lib.hid (by rw [List.range_succ, List.map_append, HAc.out.1, ← HBv.out]; rfl)
          rw [HA1.out] at HQ9
          clear HA1
          obtain ⟨e1, f1⟩ := (⟨(box2_facts HQ9.out.out.box).2.1, (box2_facts HQ9.out.out.box).2.2.2⟩ : W9.cell? ⟨B, 1, none⟩ = some vn ∧ W9.frozen? ⟨B, 1, none⟩ = false)
          have hbw5 : B ≤ W9.heap.size := Nat.le_of_lt HQ9.out.out.base
          go_wp2_with (at_builtin; refine wpList_append_own_at _ rfl (.tmp 53) (.tmp 55) 27 rfl B 68 r0 (.slice none 0 0) 1 24 Tryz.underlying27 hri hr0 hr1 hr2 rfl (by decide) _ _ _ rfl (HQ9.out.out.nxt.alloc _) ⟨W9.heap.size, 0, none⟩ 1 1 [.slice Ar (wdRow s.data.toList i 3).length cr] rfl rfl (cell_one_new _ _ _) (by simp [Value.oneCell']) (by unfold maxLen; omega) (by omega) (by simp; omega) ?_)
          intro v2 wa hown2 hgrow2 hnil2 hat2
          obtain ⟨gn, capn, rfl⟩ := own_succ hown2
          have HQa := HQ9.out.below ((Below.refl _ _).alloc (Nat.le_refl _) (.cells #[.slice Ar (wdRow s.data.toList i 3).length cr] 68))
          obtain ⟨⟨z0, z1⟩, z2, HQb⟩ := HQa.nxt_push (vn' := .slice (some ⟨gn, 0, none⟩) (i + 1) capn) (by rw [wdRow_length]; omega) (by rw [hus]; exact hown2) hgrow2
          have HBb := Lib.hid (((HB9.out.alloc hbw5 (.cells #[.slice Ar (wdRow s.data.toList i 3).length cr] 68)).grown hgrow2 (by simp; omega) (fun g e => (HQ9.out.out.nxt.lt g e).1)).setCell (p := ⟨B, 1, none⟩) (Nat.le_refl _) (.slice (some ⟨gn, 0, none⟩) (i + 1) capn))
          have HQb := Lib.hid HQb
          have HR1 : Hid (rss ++ [ints (wdRow s.data.toList i 3)] = (List.range (i + 1)).map fun j => ints (wdRow s.data.toList j 3)) := Lib.hid (by rw [List.range_succ, List.map_append, HAc.out.2]; rfl)
          have hul : (us ++ [Value.slice Ar (wdRow s.data.toList i 3).length cr]).length = i + 1 := by simp [hus]
          rw [HR1.out] at HQb
          have HUl := Lib.hid hul
          clear hown2 hgrow2 hnil2 hat2 HQa hul
          go_wp2_with fail
          go_roundw
          case rel => exact ⟨i + 1, _, _, us ++ [Value.slice Ar (wdRow s.data.toList i 3).length cr], _, by go_num, by omega, HUl.out, HBb, HQb⟩
          case measure => simp [intOf]; omega
    · have hie : i = n + 2 := by omega
      have HIe := Lib.hid hie
      have hbl : accs.length ≤ 2000 := by rw [HAl.out]; omega
      have HD : Hid (DfaO wr (fun g => B ≤ g ∧ g < wr.heap.size) va vn (fieldsOf (wdA s.data.toList))) := Lib.hid (ho.out.whole (by rw [HAc.out.1, HIe.out, ← HL.out]; exact (wd_fields _).1) (by rw [HAc.out.2, HIe.out, ← HL.out]; exact (wd_fields _).2) (by omega) (by omega))
      obtain ⟨A1, q1, hva⟩ := (RowO.of_owns ho.out.acc (by omega)).row.shape
      obtain ⟨A2, q2, hvn2⟩ := (RowO.of_owns ho.out.nxt (by omega)).row.shape
      rw [bools_length] at hva
      rw [HAl.out] at hva
      rw [hus] at hvn2
      subst hva
      subst hvn2
      have HMi := Lib.hid (specMin_any _ _ (wdA s.data.toList) _ wr (wdA_wf _) (by show s.data.toList.length + 2 ≤ 2000; rw [HL.out]; omega) HD.out.dfa)
      obtain ⟨e0, e1, -, -⟩ := box2_facts ho.out.box
      have hd : decide ((i : Int) ≤ (s.size : Int) + 1) = false := by simp; omega
      clear hie hlt
      go_wp2_with fail
      go_at_call 86
      refine HMi.out.mono ?_
      rintro e w3 ⟨m, m1, m2, -, hcd⟩
      have HM := Lib.hid (And.intro m1 m2)
      obtain ⟨C1, p1, C2, p2, rfl, hoo, hb3⟩ := hcd.shape
      obtain ⟨x1, hx1⟩ : ∃ x, x = (fieldsOf m).acc.length := ⟨_, rfl⟩
      obtain ⟨x2, hx2⟩ : ∃ x, x = (fieldsOf m).nxt.length := ⟨_, rfl⟩
      rw [← hx1, ← hx2] at hoo ⊢
      have HO3 := Lib.hid hoo
      have hsz0 : B ≤ W0.heap.size := by have := HB0.out.size; have := HBe.out; have := blk_lt HY.out; omega
      have HB3 := Lib.hid (HB0.out.trans ((HBr.out.trans (hb3.mono (Nat.le_of_lt ho.out.base))).mono (by have := HBe.out; omega)))
      have hz3 := hb3.size
      have hyl : w.heap.size < wr.heap.size := by have := ho.out.base; have := HBe.out; omega
      obtain ⟨c0, c1, k0, k1⟩ := box2_facts ((hb3.block _ hyl).trans ((HBr.out.block _ (by have := HBe.out; omega)).trans HY.out))
      obtain ⟨hcl, hsz, hot, hBl⟩ := put2 (k := .slice C1 x1 p1) (l := .slice C2 x2 p2) c0 c1
      obtain ⟨hr0', hr1'⟩ := hcl
      have HOt := Lib.hid (And.intro hsz (And.intro hot hBl))
      have HLt := Lib.hid (show w.heap.size + 1 ≤ wr.heap.size by omega)
      clear hsz hot hBl hoo hb3 hcd hx1 hx2 m1 m2 e0 e1 hd
      go_wp2_with fail
      refine bodyPost_ret (v := .agg #[.slice C1 x1 p1, .slice C2 x2 p2]) (by simp [results, Tryz.results51, go_sem, hr0', hr1']) rfl ?_
      have h0 := HB0.out.size
      exact ⟨m, HM.out.1, HM.out.2, _, _, rfl, HO3.out.mono (fun g hg => HOt.out.2.1 g (by have := hg.1; have := HLt.out; omega)) (fun g hg => ⟨by have := hg.1; have := HLt.out; omega, by rw [HOt.out.1]; exact hg.2⟩) (by rw [HOt.out.1]; exact Nat.le_refl _), HOt.out.2.2 _ _ HB3.out (Nat.le_refl _)⟩

end Go.Proofs.YtlkhmpdncimnfaaGreatDoor

/-
  What impl.LetterIndex answers at every byte: the letter's place, or -1; the world is as it was.
-/
namespace Go.Proofs.YtlkhmpdncimnfaaGreatDoor
open Go.RowKit

theorem implLet_any (b : UInt8) (w : World) :
    Calls Tryz.prog 66 #[.int .u8 b.toNat] w fun e w' => e = .returned (.int .i64 (letIdx b)) ∧ w = w' := by
  have HL := Lib.hid (letIdx_lib b)
  go_enter Tryz.func66, Tryz.ntmps66
  go_wp2_with (go_at_call 88; refine (Tryz.strings_IndexByte _ _ _).mono ?_; rintro e w' ⟨rfl, rfl⟩)
  go_ret
  have hc : ((b.toNat : Int)).toNat.toUInt8 = b := by simp
  refine ⟨?_, rfl⟩
  rw [← HL.out]
  simp

end Go.Proofs.YtlkhmpdncimnfaaGreatDoor

/-
  What impl.IsWord answers at every string: whether it is a word of at most 30 letters; the world is as it was.
-/
namespace Go.Proofs.YtlkhmpdncimnfaaGreatDoor
open Go.RowKit

set_option maxHeartbeats 400000 in
theorem implIsWord_any (s : ByteArray) (w : World) (hs : s.size ≤ maxLen) :
    Calls Tryz.prog 64 #[.string s] w fun e w' => e = .returned (.bool (isW s.data.toList)) ∧ w = w' := by
  unfold maxLen at hs
  by_cases h30 : 30 < s.size
  · have HN := Lib.hid (isW_long h30)
    go_enter Tryz.func64, Tryz.ntmps64
    go_wp2
    go_ret
    exact ⟨congrArg (fun z => Ending.returned (.bool z)) HN.out.symm, rfl⟩
  · go_enter Tryz.func64, Tryz.ntmps64
    go_wp2
    go_loop [9] (fun i => ∃ k : Nat, i = .int .i64 k ∧ k ≤ s.size ∧ (s.data.toList.take k).all isLetter = true) (fun i => s.size - (intOf i).toNat)
    case atStart => exact ⟨0, rfl, Nat.zero_le _, rfl⟩
    case round =>
      obtain ⟨k, rfl, hk, hall⟩ := hrel
      have HA := Lib.hid hall
      clear hall
      by_cases hlt : k < s.size
      · cases hb : isLetter s[k] with
        | true =>
          have HN := Lib.hid (show (s.data.toList.take (k + 1)).all isLetter = true by rw [all_take_succ s k hlt, HA.out, hb]; rfl)
          obtain ⟨hl, h97, h99⟩ := letIdx_yes hb
          have hl0 : 0 ≤ letIdx s[k] := by omega
          clear hl hb
          go_wp2_with (go_at_call 66; refine (implLet_any _ _).mono ?_; rintro e w' ⟨rfl, rfl⟩)
          go_round
          case rel => exact ⟨k + 1, by go_num, by omega, HN.out⟩
          case measure => simp [intOf]; omega
        | false =>
          have HN := Lib.hid (isW_bad hlt hb)
          have hl := letIdx_no hb
          have hl0 : letIdx s[k] < 0 := by omega
          clear hl hb
          go_wp2_with (go_at_call 66; refine (implLet_any _ _).mono ?_; rintro e w' ⟨rfl, rfl⟩)
          go_ret
          exact ⟨congrArg (fun z => Ending.returned (.bool z)) HN.out.symm, rfl⟩
      · obtain rfl : k = s.size := by omega
        have HN := Lib.hid (isW_all HA.out)
        have hd : decide ((s.size : Int) ≤ 30) = true := by simp; omega
        have HN2 := Lib.hid (HN.out.trans hd)
        clear hd
        go_wp2
        go_ret
        exact ⟨congrArg (fun z => Ending.returned (.bool z)) HN2.out.symm, rfl⟩
end Go.Proofs.YtlkhmpdncimnfaaGreatDoor

/-
  What impl.formOf answers: the form of a node, a value of its form's type; nil where the node has none.
-/
namespace Go.Proofs.YtlkhmpdncimnfaaGreatDoor
open Go.RowKit

def FormPost (v : Value) (w : World) (e : Ending) (w' : World) : Prop := e = .returned v ∧ Below w.heap.size w w'

set_option maxRecDepth 100000 in
theorem leaf_1 (w : World) : Calls Tryz.prog 61 #[.int .i64 1] w fun e w' => e = .returned (.iface 67 (.agg #[])) ∧ w = w' := by
  go_enter Tryz.func61, Tryz.ntmps61
  go_wp2
  go_ret
  exact ⟨rfl, rfl⟩

set_option maxRecDepth 100000 in
theorem leaf_2 (w : World) : Calls Tryz.prog 61 #[.int .i64 2] w fun e w' => e = .returned (.iface 69 (.agg #[])) ∧ w = w' := by
  go_enter Tryz.func61, Tryz.ntmps61
  go_wp2
  go_ret
  exact ⟨rfl, rfl⟩

set_option maxRecDepth 100000 in
theorem leaf_4 (w : World) : Calls Tryz.prog 61 #[.int .i64 4] w fun e w' => e = .returned (.iface 73 (.agg #[])) ∧ w = w' := by
  go_enter Tryz.func61, Tryz.ntmps61
  go_wp2
  go_ret
  exact ⟨rfl, rfl⟩

set_option maxRecDepth 100000 in
theorem leaf_none (k : Int) (w : World) (h1 : k ≠ 1) (h2 : k ≠ 2) (h4 : k ≠ 4) : Calls Tryz.prog 61 #[.int .i64 k] w fun e w' => e = .returned .nilIface ∧ w = w' := by
  have e1 : (k == 1) = false := by simpa using h1
  have e2 : (k == 2) = false := by simpa using h2
  have e4 : (k == 4) = false := by simpa using h4
  clear h1 h2 h4
  go_enter Tryz.func61, Tryz.ntmps61
  go_wp2
  go_ret
  exact ⟨rfl, rfl⟩

set_option maxRecDepth 100000 in
theorem one_8 (k' : Int) (l' : ByteArray) (u' : Value) (w : World) : Calls Tryz.prog 62 #[.int .i64 8, .agg #[.int .i64 k', .string l', u']] w (FormPost (.iface 83 (.agg #[.int .i64 k', .string l', u'])) w) := by
  go_enter Tryz.func62, Tryz.ntmps62
  go_wp2_with fail
  go_ret
  exact ⟨rfl, (Below.refl _ _).alloc (Nat.le_refl _) _⟩

set_option maxRecDepth 100000 in
theorem one_9 (k' : Int) (l' : ByteArray) (u' : Value) (w : World) : Calls Tryz.prog 62 #[.int .i64 9, .agg #[.int .i64 k', .string l', u']] w (FormPost (.iface 84 (.agg #[.int .i64 k', .string l', u'])) w) := by
  go_enter Tryz.func62, Tryz.ntmps62
  go_wp2_with fail
  go_ret
  exact ⟨rfl, (Below.refl _ _).alloc (Nat.le_refl _) _⟩

set_option maxRecDepth 100000 in
theorem one_none (k k' : Int) (l' : ByteArray) (u' : Value) (w : World) (h1 : k ≠ 8) (h2 : k ≠ 9) : Calls Tryz.prog 62 #[.int .i64 k, .agg #[.int .i64 k', .string l', u']] w (FormPost .nilIface w) := by
  have e1 : (k == 8) = false := by simpa using h1
  have e2 : (k == 9) = false := by simpa using h2
  clear h1 h2
  go_enter Tryz.func62, Tryz.ntmps62
  go_wp2_with fail
  go_ret
  exact ⟨rfl, (Below.refl _ _).alloc (Nat.le_refl _) _⟩

set_option maxRecDepth 100000 in
theorem two_5 (k1 k2 : Int) (l1 l2 : ByteArray) (u1 u2 : Value) (w : World) : Calls Tryz.prog 63 #[.int .i64 5, .agg #[.int .i64 k1, .string l1, u1, .int .i64 k2, .string l2, u2]] w (FormPost (.iface 77 (.agg #[.int .i64 k1, .string l1, u1, .int .i64 k2, .string l2, u2])) w) := by
  go_enter Tryz.func63, Tryz.ntmps63
  go_wp2_with fail
  go_ret
  exact ⟨rfl, (Below.refl _ _).alloc (Nat.le_refl _) _⟩

set_option maxRecDepth 100000 in
theorem two_6 (k1 k2 : Int) (l1 l2 : ByteArray) (u1 u2 : Value) (w : World) : Calls Tryz.prog 63 #[.int .i64 6, .agg #[.int .i64 k1, .string l1, u1, .int .i64 k2, .string l2, u2]] w (FormPost (.iface 78 (.agg #[.int .i64 k1, .string l1, u1, .int .i64 k2, .string l2, u2])) w) := by
  go_enter Tryz.func63, Tryz.ntmps63
  go_wp2_with fail
  go_ret
  exact ⟨rfl, (Below.refl _ _).alloc (Nat.le_refl _) _⟩

set_option maxRecDepth 100000 in
theorem two_7 (k1 k2 : Int) (l1 l2 : ByteArray) (u1 u2 : Value) (w : World) : Calls Tryz.prog 63 #[.int .i64 7, .agg #[.int .i64 k1, .string l1, u1, .int .i64 k2, .string l2, u2]] w (FormPost (.iface 79 (.agg #[.int .i64 k1, .string l1, u1, .int .i64 k2, .string l2, u2])) w) := by
  go_enter Tryz.func63, Tryz.ntmps63
  go_wp2_with fail
  go_ret
  exact ⟨rfl, (Below.refl _ _).alloc (Nat.le_refl _) _⟩

set_option maxRecDepth 100000 in
theorem two_none (k k1 k2 : Int) (l1 l2 : ByteArray) (u1 u2 : Value) (w : World) (h1 : k ≠ 5) (h2 : k ≠ 6) (h3 : k ≠ 7) : Calls Tryz.prog 63 #[.int .i64 k, .agg #[.int .i64 k1, .string l1, u1, .int .i64 k2, .string l2, u2]] w (FormPost .nilIface w) := by
  have e1 : (k == 5) = false := by simpa using h1
  have e2 : (k == 6) = false := by simpa using h2
  have e3 : (k == 7) = false := by simpa using h3
  clear h1 h2 h3
  go_enter Tryz.func63, Tryz.ntmps63
  go_wp2_with fail
  go_ret
  exact ⟨rfl, (Below.refl _ _).alloc (Nat.le_refl _) _⟩

set_option maxRecDepth 100000 in
theorem letter_yes (k : Int) (l : ByteArray) (A : Option Addr) (c : Nat) (w : World) (hl : l.size = 1) (hw : isW l.data.toList = true) : Calls Tryz.prog 60 #[.agg #[.int .i64 k, .string l, .slice A 0 c]] w (FormPost (.iface 72 (.agg #[.string l])) w) := by
  have e1 : ((l.size : Int) == 1) = true := by simp [hl]
  have e2 : ((l.size : Int) != 1) = false := by simp [hl]
  have HI := Lib.hid (fun w => implIsWord_any l w (by unfold maxLen; omega))
  rw [hw] at HI
  clear hl hw
  go_enter Tryz.func60, Tryz.ntmps60
  go_wp2_with (go_at_call 64; refine (HI.out _).mono ?_; rintro e w' ⟨rfl, rfl⟩)
  go_ret
  exact ⟨rfl, (Below.refl _ _).alloc (Nat.le_refl _) _⟩
set_option maxRecDepth 100000 in
theorem letter_no (k : Int) (l : ByteArray) (A : Option Addr) (n c : Nat) (w : World) (hn : n ≤ 9223372036854775807) (h : nodeOk 3 l n = false) : Calls Tryz.prog 60 #[.agg #[.int .i64 k, .string l, .slice A n c]] w (FormPost .nilIface w) := by
  by_cases h0 : n = 0
  · subst h0
    by_cases hl : l.size = 1
    · have hw : isW l.data.toList = false := by simpa [nodeOk, hl] using h
      have e1 : ((l.size : Int) == 1) = true := by simp [hl]
      have e2 : ((l.size : Int) != 1) = false := by simp [hl]
      have HI := Lib.hid (fun w => implIsWord_any l w (by unfold maxLen; omega))
      rw [hw] at HI
      clear hl hw h
      go_enter Tryz.func60, Tryz.ntmps60
      go_wp2_with (go_at_call 64; refine (HI.out _).mono ?_; rintro e w' ⟨rfl, rfl⟩)
      go_ret
      exact ⟨rfl, (Below.refl _ _).alloc (Nat.le_refl _) _⟩
    · have e1 : ((l.size : Int) == 1) = false := by simp; omega
      have e2 : ((l.size : Int) != 1) = true := by simp; omega
      clear hl h
      go_enter Tryz.func60, Tryz.ntmps60
      go_wp2_with fail
      go_ret
      exact ⟨rfl, (Below.refl _ _).alloc (Nat.le_refl _) _⟩
  · have hpos : 0 < n := by omega
    clear h0 h
    go_enter Tryz.func60, Tryz.ntmps60
    go_wp2_with fail
    go_ret
    exact ⟨rfl, (Below.refl _ _).alloc (Nat.le_refl _) _⟩

set_option maxRecDepth 100000 in
theorem formOf_letter (l : ByteArray) (A : Option Addr) (c : Nat) (w : World) (hl : l.size = 1) (hw : isW l.data.toList = true) : Calls Tryz.prog 37 #[.agg #[.int .i64 3, .string l, .slice A 0 c]] w (FormPost (.iface 72 (.agg #[.string l])) w) := by
  have HB0 := Lib.hid ((Below.refl w.heap.size w).alloc (Nat.le_refl _) (.cells #[.int .i64 3, .string l, .slice A 0 c] 34))
  have HI := Lib.hid (fun w => letter_yes 3 l A c w hl hw)
  clear hl hw
  go_enter Tryz.func37, Tryz.ntmps37
  go_wp2_with fail
  refine (HI.out _).mono ?_
  rintro e w1 ⟨rfl, hb1⟩
  have HW1 := Lib.hid (HB0.out.trans (hb1.mono (by simp)))
  clear hb1
  go_wp2_with fail
  go_ret
  exact ⟨rfl, HW1.out⟩

set_option maxRecDepth 100000 in
theorem formOf_1 (l : ByteArray) (A : Option Addr) (c : Nat) (w : World) (hl : l.size = 0) : Calls Tryz.prog 37 #[.agg #[.int .i64 1, .string l, .slice A 0 c]] w (FormPost (.iface 67 (.agg #[])) w) := by
  have HB0 := Lib.hid ((Below.refl w.heap.size w).alloc (Nat.le_refl _) (.cells #[.int .i64 1, .string l, .slice A 0 c] 34))
  have e1 := bytes_nil hl
  clear hl
  go_enter Tryz.func37, Tryz.ntmps37
  go_wp2_with fail
  refine (leaf_1 _).mono ?_
  rintro e w1 ⟨rfl, rfl⟩
  go_wp2_with fail
  go_ret
  exact ⟨rfl, HB0.out⟩

set_option maxRecDepth 100000 in
theorem formOf_2 (l : ByteArray) (A : Option Addr) (c : Nat) (w : World) (hl : l.size = 0) : Calls Tryz.prog 37 #[.agg #[.int .i64 2, .string l, .slice A 0 c]] w (FormPost (.iface 69 (.agg #[])) w) := by
  have HB0 := Lib.hid ((Below.refl w.heap.size w).alloc (Nat.le_refl _) (.cells #[.int .i64 2, .string l, .slice A 0 c] 34))
  have e1 := bytes_nil hl
  clear hl
  go_enter Tryz.func37, Tryz.ntmps37
  go_wp2_with fail
  refine (leaf_2 _).mono ?_
  rintro e w1 ⟨rfl, rfl⟩
  go_wp2_with fail
  go_ret
  exact ⟨rfl, HB0.out⟩

set_option maxRecDepth 100000 in
theorem formOf_4 (l : ByteArray) (A : Option Addr) (c : Nat) (w : World) (hl : l.size = 0) : Calls Tryz.prog 37 #[.agg #[.int .i64 4, .string l, .slice A 0 c]] w (FormPost (.iface 73 (.agg #[])) w) := by
  have HB0 := Lib.hid ((Below.refl w.heap.size w).alloc (Nat.le_refl _) (.cells #[.int .i64 4, .string l, .slice A 0 c] 34))
  have e1 := bytes_nil hl
  clear hl
  go_enter Tryz.func37, Tryz.ntmps37
  go_wp2_with fail
  refine (leaf_4 _).mono ?_
  rintro e w1 ⟨rfl, rfl⟩
  go_wp2_with fail
  go_ret
  exact ⟨rfl, HB0.out⟩

set_option maxRecDepth 100000 in
theorem formOf_8 (l : ByteArray) (g o c : Nat) (k' : Int) (l' : ByteArray) (u' : Value) (w : World) (hl : l.size = 0) (hg : g < w.heap.size) (he : ElAt w g o k' l' u') : Calls Tryz.prog 37 #[.agg #[.int .i64 8, .string l, .slice (some ⟨g, o, none⟩) 1 c]] w (FormPost (.iface 83 (.agg #[.int .i64 k', .string l', u'])) w) := by
  have HB0 := Lib.hid ((Below.refl w.heap.size w).alloc (Nat.le_refl _) (.cells #[.int .i64 8, .string l, .slice (some ⟨g, o, none⟩) 1 c] 34))
  have e1 := bytes_nil hl
  have HEL := Lib.hid he
  clear hl he
  go_enter Tryz.func37, Tryz.ntmps37
  go_wp2_with fail
  obtain ⟨W1, hW1⟩ : ∃ W1, W1 = w.alloc (.cells #[.int .i64 8, .string l, .slice (some ⟨g, o, none⟩) 1 c] 34) := ⟨_, rfl⟩
  rw [← hW1]
  have hb1 : Below w.heap.size w W1 := by rw [hW1]; exact HB0.out
  obtain ⟨bx0, bx1, bx2⟩ := box_cells (w := w) (wr := W1) (k := 8) (l := l) (u := .slice (some ⟨g, o, none⟩) 1 c) (t := 34) (by rw [hW1]; exact Below.refl _ _)
  obtain ⟨hc0, hc1, hc2⟩ := HEL.out.below hb1 hg
  have HBW := Lib.hid hb1
  clear hW1 hb1
  go_still_tail 7, (by kernel_rfl)
  go_wp2_with fail
  refine (one_8 _ _ _ _).mono ?_
  rintro e w1 ⟨rfl, hb1⟩
  have HW1 := Lib.hid (HBW.out.drew.trans (hb1.mono HBW.out.drew.size))
  clear hb1
  go_wp2_with fail
  go_ret
  exact ⟨rfl, HW1.out⟩

set_option maxRecDepth 100000 in
theorem formOf_9 (l : ByteArray) (g o c : Nat) (k' : Int) (l' : ByteArray) (u' : Value) (w : World) (hl : l.size = 0) (hg : g < w.heap.size) (he : ElAt w g o k' l' u') : Calls Tryz.prog 37 #[.agg #[.int .i64 9, .string l, .slice (some ⟨g, o, none⟩) 1 c]] w (FormPost (.iface 84 (.agg #[.int .i64 k', .string l', u'])) w) := by
  have HB0 := Lib.hid ((Below.refl w.heap.size w).alloc (Nat.le_refl _) (.cells #[.int .i64 9, .string l, .slice (some ⟨g, o, none⟩) 1 c] 34))
  have e1 := bytes_nil hl
  have HEL := Lib.hid he
  clear hl he
  go_enter Tryz.func37, Tryz.ntmps37
  go_wp2_with fail
  obtain ⟨W1, hW1⟩ : ∃ W1, W1 = w.alloc (.cells #[.int .i64 9, .string l, .slice (some ⟨g, o, none⟩) 1 c] 34) := ⟨_, rfl⟩
  rw [← hW1]
  have hb1 : Below w.heap.size w W1 := by rw [hW1]; exact HB0.out
  obtain ⟨bx0, bx1, bx2⟩ := box_cells (w := w) (wr := W1) (k := 9) (l := l) (u := .slice (some ⟨g, o, none⟩) 1 c) (t := 34) (by rw [hW1]; exact Below.refl _ _)
  obtain ⟨hc0, hc1, hc2⟩ := HEL.out.below hb1 hg
  have HBW := Lib.hid hb1
  clear hW1 hb1
  go_still_tail 7, (by kernel_rfl)
  go_wp2_with fail
  refine (one_9 _ _ _ _).mono ?_
  rintro e w1 ⟨rfl, hb1⟩
  have HW1 := Lib.hid (HBW.out.drew.trans (hb1.mono HBW.out.drew.size))
  clear hb1
  go_wp2_with fail
  go_ret
  exact ⟨rfl, HW1.out⟩

set_option maxRecDepth 100000 in
theorem formOf_5 (l : ByteArray) (g o c : Nat) (k1 k2 : Int) (l1 l2 : ByteArray) (u1 u2 : Value) (w : World) (hl : l.size = 0) (hg : g < w.heap.size) (he : ElAt w g o k1 l1 u1) (he' : ElAt w g (o + 3) k2 l2 u2) : Calls Tryz.prog 37 #[.agg #[.int .i64 5, .string l, .slice (some ⟨g, o, none⟩) 2 c]] w (FormPost (.iface 77 (.agg #[.int .i64 k1, .string l1, u1, .int .i64 k2, .string l2, u2])) w) := by
  have HB0 := Lib.hid ((Below.refl w.heap.size w).alloc (Nat.le_refl _) (.cells #[.int .i64 5, .string l, .slice (some ⟨g, o, none⟩) 2 c] 34))
  have e1 := bytes_nil hl
  have HEL := Lib.hid he
  have HEL2 := Lib.hid he'
  clear hl he he'
  go_enter Tryz.func37, Tryz.ntmps37
  go_wp2_with fail
  obtain ⟨W1, hW1⟩ : ∃ W1, W1 = w.alloc (.cells #[.int .i64 5, .string l, .slice (some ⟨g, o, none⟩) 2 c] 34) := ⟨_, rfl⟩
  rw [← hW1]
  have hb1 : Below w.heap.size w W1 := by rw [hW1]; exact HB0.out
  obtain ⟨bx0, bx1, bx2⟩ := box_cells (w := w) (wr := W1) (k := 5) (l := l) (u := .slice (some ⟨g, o, none⟩) 2 c) (t := 34) (by rw [hW1]; exact Below.refl _ _)
  obtain ⟨hc0, hc1, hc2⟩ := HEL.out.below hb1 hg
  obtain ⟨hd0, hd1, hd2⟩ := HEL2.out.below hb1 hg
  have HBW := Lib.hid hb1
  clear hW1 hb1
  go_still_tail 11, (by kernel_rfl)
  go_wp2_with fail
  refine (two_5 _ _ _ _ _ _ _).mono ?_
  rintro e w1 ⟨rfl, hb1⟩
  have HW1 := Lib.hid (HBW.out.drew.trans (hb1.mono HBW.out.drew.size))
  clear hb1
  go_wp2_with fail
  go_ret
  exact ⟨rfl, HW1.out⟩

set_option maxRecDepth 100000 in
theorem formOf_6 (l : ByteArray) (g o c : Nat) (k1 k2 : Int) (l1 l2 : ByteArray) (u1 u2 : Value) (w : World) (hl : l.size = 0) (hg : g < w.heap.size) (he : ElAt w g o k1 l1 u1) (he' : ElAt w g (o + 3) k2 l2 u2) : Calls Tryz.prog 37 #[.agg #[.int .i64 6, .string l, .slice (some ⟨g, o, none⟩) 2 c]] w (FormPost (.iface 78 (.agg #[.int .i64 k1, .string l1, u1, .int .i64 k2, .string l2, u2])) w) := by
  have HB0 := Lib.hid ((Below.refl w.heap.size w).alloc (Nat.le_refl _) (.cells #[.int .i64 6, .string l, .slice (some ⟨g, o, none⟩) 2 c] 34))
  have e1 := bytes_nil hl
  have HEL := Lib.hid he
  have HEL2 := Lib.hid he'
  clear hl he he'
  go_enter Tryz.func37, Tryz.ntmps37
  go_wp2_with fail
  obtain ⟨W1, hW1⟩ : ∃ W1, W1 = w.alloc (.cells #[.int .i64 6, .string l, .slice (some ⟨g, o, none⟩) 2 c] 34) := ⟨_, rfl⟩
  rw [← hW1]
  have hb1 : Below w.heap.size w W1 := by rw [hW1]; exact HB0.out
  obtain ⟨bx0, bx1, bx2⟩ := box_cells (w := w) (wr := W1) (k := 6) (l := l) (u := .slice (some ⟨g, o, none⟩) 2 c) (t := 34) (by rw [hW1]; exact Below.refl _ _)
  obtain ⟨hc0, hc1, hc2⟩ := HEL.out.below hb1 hg
  obtain ⟨hd0, hd1, hd2⟩ := HEL2.out.below hb1 hg
  have HBW := Lib.hid hb1
  clear hW1 hb1
  go_still_tail 11, (by kernel_rfl)
  go_wp2_with fail
  refine (two_6 _ _ _ _ _ _ _).mono ?_
  rintro e w1 ⟨rfl, hb1⟩
  have HW1 := Lib.hid (HBW.out.drew.trans (hb1.mono HBW.out.drew.size))
  clear hb1
  go_wp2_with fail
  go_ret
  exact ⟨rfl, HW1.out⟩

set_option maxRecDepth 100000 in
theorem formOf_7 (l : ByteArray) (g o c : Nat) (k1 k2 : Int) (l1 l2 : ByteArray) (u1 u2 : Value) (w : World) (hl : l.size = 0) (hg : g < w.heap.size) (he : ElAt w g o k1 l1 u1) (he' : ElAt w g (o + 3) k2 l2 u2) : Calls Tryz.prog 37 #[.agg #[.int .i64 7, .string l, .slice (some ⟨g, o, none⟩) 2 c]] w (FormPost (.iface 79 (.agg #[.int .i64 k1, .string l1, u1, .int .i64 k2, .string l2, u2])) w) := by
  have HB0 := Lib.hid ((Below.refl w.heap.size w).alloc (Nat.le_refl _) (.cells #[.int .i64 7, .string l, .slice (some ⟨g, o, none⟩) 2 c] 34))
  have e1 := bytes_nil hl
  have HEL := Lib.hid he
  have HEL2 := Lib.hid he'
  clear hl he he'
  go_enter Tryz.func37, Tryz.ntmps37
  go_wp2_with fail
  obtain ⟨W1, hW1⟩ : ∃ W1, W1 = w.alloc (.cells #[.int .i64 7, .string l, .slice (some ⟨g, o, none⟩) 2 c] 34) := ⟨_, rfl⟩
  rw [← hW1]
  have hb1 : Below w.heap.size w W1 := by rw [hW1]; exact HB0.out
  obtain ⟨bx0, bx1, bx2⟩ := box_cells (w := w) (wr := W1) (k := 7) (l := l) (u := .slice (some ⟨g, o, none⟩) 2 c) (t := 34) (by rw [hW1]; exact Below.refl _ _)
  obtain ⟨hc0, hc1, hc2⟩ := HEL.out.below hb1 hg
  obtain ⟨hd0, hd1, hd2⟩ := HEL2.out.below hb1 hg
  have HBW := Lib.hid hb1
  clear hW1 hb1
  go_still_tail 11, (by kernel_rfl)
  go_wp2_with fail
  refine (two_7 _ _ _ _ _ _ _).mono ?_
  rintro e w1 ⟨rfl, hb1⟩
  have HW1 := Lib.hid (HBW.out.drew.trans (hb1.mono HBW.out.drew.size))
  clear hb1
  go_wp2_with fail
  go_ret
  exact ⟨rfl, HW1.out⟩

set_option maxRecDepth 100000 in
set_option maxHeartbeats 800000 in
theorem formOf_nil (n : Nat) (k : Int) (l : ByteArray) (u : Value) (a : Fr) (B : Nat) (w : World) (hS : Sl w B (n + 1) u a) (hB : B ≤ w.heap.size) (h : nodeOk k l a.items.length = false) : Calls Tryz.prog 37 #[.agg #[.int .i64 k, .string l, u]] w (FormPost .nilIface w) := by
  obtain ⟨hlen, A, c, rfl, hE⟩ := hS.open
  have HE := Lib.hid hE
  clear hE hS
  generalize hm : a.items.length = m at *
  have HM := Lib.hid hm
  clear hm
  have HB0 := Lib.hid ((Below.refl w.heap.size w).alloc (Nat.le_refl _) (.cells #[.int .i64 k, .string l, .slice A m c] 34))
  by_cases h3 : k = 3
  · subst h3
    have HI := Lib.hid (fun w => letter_no 3 l A m c w hlen h)
    clear h
    go_enter Tryz.func37, Tryz.ntmps37
    go_wp2_with fail
    refine (HI.out _).mono ?_
    rintro e w1 ⟨rfl, hb1⟩
    have HW1 := Lib.hid (HB0.out.trans (hb1.mono (by simp)))
    clear hb1
    go_wp2_with fail
    go_ret
    exact ⟨rfl, HW1.out⟩
  · have e3 : (k == 3) = false := by simpa using h3
    have hk : ¬ (1 ≤ k ∧ k ≤ 9) ∨ l.size ≠ 0 ∨ (m : Int) ≠ argsOf k := by
      unfold nodeOk at h
      rw [if_neg h3] at h
      by_cases q1 : 1 ≤ k ∧ k ≤ 9
      · by_cases q2 : l.size = 0
        · refine .inr (.inr fun q3 => ?_)
          simp [q1, q2, q3] at h
        · exact .inr (.inl q2)
      · exact .inl q1
    by_cases hl : l.size = 0
    · have e1 := bytes_nil hl
      have hk2 : ¬ (1 ≤ k ∧ k ≤ 9) ∨ (m : Int) ≠ argsOf k := by
        rcases hk with h | h | h
        · exact .inl h
        · exact absurd hl h
        · exact .inr h
      have HK := Lib.hid hk2
      clear hk2
      clear hk h hl h3
      by_cases h0 : m = 0
      · subst h0
        have HI := Lib.hid (fun w => leaf_none k w (fun e => by subst e; exact absurd HK.out (by decide)) (fun e => by subst e; exact absurd HK.out (by decide)) (fun e => by subst e; exact absurd HK.out (by decide)))
        go_enter Tryz.func37, Tryz.ntmps37
        go_wp2_with fail
        refine (HI.out _).mono ?_
        rintro e w1 ⟨rfl, rfl⟩
        go_wp2_with fail
        go_ret
        exact ⟨rfl, HB0.out⟩
      · by_cases h1 : m = 1
        · subst h1
          obtain ⟨g, o, rfl, hg, k', l', a', u', hx, hls, he, h4⟩ := HE.out 0 (by omega)
          rw [Nat.zero_mul, Nat.add_zero] at he
          have hg := Nat.lt_of_lt_of_le hg hB
          have HEL := Lib.hid he
          have HI := Lib.hid (fun w => one_none k k' l' u' w (fun e => by subst e; exact absurd HK.out (by decide)) (fun e => by subst e; exact absurd HK.out (by decide)))
          clear he h4 hx h0
          go_enter Tryz.func37, Tryz.ntmps37
          go_wp2_with fail
          obtain ⟨W1, hW1⟩ : ∃ W1, W1 = w.alloc (.cells #[.int .i64 k, .string l, .slice (some ⟨g, o, none⟩) 1 c] 34) := ⟨_, rfl⟩
          rw [← hW1]
          have hb1 : Below w.heap.size w W1 := by rw [hW1]; exact HB0.out
          obtain ⟨bx0, bx1, bx2⟩ := box_cells (w := w) (wr := W1) (k := k) (l := l) (u := .slice (some ⟨g, o, none⟩) 1 c) (t := 34) (by rw [hW1]; exact Below.refl _ _)
          obtain ⟨hc0, hc1, hc2⟩ := HEL.out.below hb1 hg
          have HBW := Lib.hid hb1
          clear hW1 hb1
          go_still_tail 7, (by kernel_rfl)
          go_wp2_with fail
          refine (HI.out _).mono ?_
          rintro e w1 ⟨rfl, hb1⟩
          have HW1 := Lib.hid (HBW.out.drew.trans (hb1.mono HBW.out.drew.size))
          clear hb1
          go_wp2_with fail
          go_ret
          exact ⟨rfl, HW1.out⟩
        · by_cases h2 : m = 2
          · subst h2
            obtain ⟨g, o, rfl, hg, k1, l1, a1, u1, hx, hls, he, h4⟩ := HE.out 0 (by omega)
            obtain ⟨g', o', e', hg', k2, l2, a2, u2, hx', hls', he', h4'⟩ := HE.out 1 (by omega)
            cases e'
            rw [Nat.zero_mul, Nat.add_zero] at he
            rw [Nat.one_mul] at he'
            have hg := Nat.lt_of_lt_of_le hg hB
            have HEL := Lib.hid he
            have HEL2 := Lib.hid he'
            have HI := Lib.hid (fun w => two_none k k1 k2 l1 l2 u1 u2 w (fun e => by subst e; exact absurd HK.out (by decide)) (fun e => by subst e; exact absurd HK.out (by decide)) (fun e => by subst e; exact absurd HK.out (by decide)))
            clear he h4 hx he' h4' hx' h0 h1
            go_enter Tryz.func37, Tryz.ntmps37
            go_wp2_with fail
            obtain ⟨W1, hW1⟩ : ∃ W1, W1 = w.alloc (.cells #[.int .i64 k, .string l, .slice (some ⟨g, o, none⟩) 2 c] 34) := ⟨_, rfl⟩
            rw [← hW1]
            have hb1 : Below w.heap.size w W1 := by rw [hW1]; exact HB0.out
            obtain ⟨bx0, bx1, bx2⟩ := box_cells (w := w) (wr := W1) (k := k) (l := l) (u := .slice (some ⟨g, o, none⟩) 2 c) (t := 34) (by rw [hW1]; exact Below.refl _ _)
            obtain ⟨hc0, hc1, hc2⟩ := HEL.out.below hb1 hg
            obtain ⟨hd0, hd1, hd2⟩ := HEL2.out.below hb1 hg
            have HBW := Lib.hid hb1
            clear hW1 hb1
            go_still_tail 11, (by kernel_rfl)
            go_wp2_with fail
            refine (HI.out _).mono ?_
            rintro e w1 ⟨rfl, hb1⟩
            have HW1 := Lib.hid (HBW.out.drew.trans (hb1.mono HBW.out.drew.size))
            clear hb1
            go_wp2_with fail
            go_ret
            exact ⟨rfl, HW1.out⟩
          · have f0 : ((m : Int) == 0) = false := by simp; omega
            have f1 : ((m : Int) == 1) = false := by simp; omega
            have f2 : ((m : Int) == 2) = false := by simp; omega
            clear h0 h1 h2
            go_enter Tryz.func37, Tryz.ntmps37
            go_wp2_with fail
            go_ret
            exact ⟨rfl, HB0.out⟩
    · have e1 := bytes_some hl
      have e2 : (!l.toList.isEmpty) = true := by simpa using e1
      clear hk h hl h3
      go_enter Tryz.func37, Tryz.ntmps37
      go_wp2_with fail
      go_ret
      exact ⟨rfl, HB0.out⟩

end Go.Proofs.YtlkhmpdncimnfaaGreatDoor
