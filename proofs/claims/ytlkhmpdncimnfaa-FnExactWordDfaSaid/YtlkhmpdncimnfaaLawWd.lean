/-
  laws.FnExactWordDfa answers true at every argument, if WordDfa and its model answer the same.
-/
import Derived.Test.YtlkhmpdncimnfaaDfaX
import Derived.Outline
import Derived.Deep.RegionHeld3
import Derived.Deep.CutRange
namespace Go.Proofs.Ytlkhmpdncimnfaa
open Go.RowKit

set_option maxRecDepth 100000 in
set_option maxHeartbeats 6400000 in
theorem lawWd_walk (s0 : ByteArray) (y0 : Dx) (y1 : Bool) (WB : World) (hs0 : s0.size ≤ 1048576) (HS0 : ∀ V : World, Calls Try.prog 30 #[.string s0] V (CopyDB y0 y1 V)) (HI0 : ∀ V : World, Calls Try.prog 31 #[.string s0] V (CopyDB y0 y1 V)) (hyw : wtD y0 ≤ 1048576) :
    Calls Try.prog 7 #[.string s0] WB fun e w' => e = .returned (.bool true) ∧ Below WB.heap.size WB w' := by
  have es0 : decide ((s0.size : Int) > 1048576) = false := by simp; omega
  have HS := Lib.hid HS0
  have HI := Lib.hid HI0
  obtain ⟨ry, hry⟩ : ∃ ry, ry = 1 + lenD y0 := ⟨_, rfl⟩
  have HMry := Lib.hid (fun S u u' V (h : DfaO V S u u' y0) hS => markDfa_any 1 u u' y0 S V h hS (by omega) (by omega))
  have HH := Lib.hid (fun S u u' V (h : DfaV V S u u' (markD 1 y0)) => heldDfa_any 1 u u' y0 S V h (by omega) (by omega))
  rw [← hry] at HMry HH
  have hnegy : decide ((ry : Int) < 0) = false := by simp
  have hn1 : (y1 != y1) = false := by simp
  clear hry HS0 HI0
  go_enter Try.func7, Try.ntmps7
  have HB0 := Lib.hid (Below.refl WB.heap.size WB)
  go_wp2_with fail
  go_at_call 30
  refine (HS.out WB).mono ?_
  rintro e w1 hp
  obtain ⟨A1, m1, B1, r1, rfl, ho1, hb1⟩ := hp.shape
  clear hp
  have OT1 := Lib.hid ho1
  have hz2 := (hb1).size
  have HB2 := Lib.hid (HB0.out.trans ((hb1).mono HB0.out.size))
  clear ho1 hb1
  go_wp2_with fail
  obtain ⟨W3, hW3⟩ : ∃ W3, W3 = w1.alloc (.cells #[.slice A1 y0.acc.length m1, .slice B1 y0.nxt.length r1] 27) := ⟨_, rfl⟩
  have BN3 := box2_new w1 w1 w1.heap.size (.slice A1 y0.acc.length m1) (.slice B1 y0.nxt.length r1) 27 (Below.refl _ _) (Nat.le_refl _)
  rw [← hW3] at BN3 ⊢
  have hzb3 := BN3.2.2.2
  have hb3 : Below w1.heap.size w1 W3 := BN3.2.2.1
  have OB3 := Lib.hid BN3.2.1
  clear hW3 BN3
  have hz4 := (hb3).size
  have HB4 := Lib.hid (HB2.out.trans ((hb3).mono HB2.out.size))
  have O5 := Lib.hid (OT1.out.kept (fun g hg => by have := hg.1; have := hg.2; omega) hb3)
  clear OT1
  clear hb3
  go_at_call 31
  refine (HI.out W3).mono ?_
  rintro e w6 hp
  obtain ⟨A6, m6, B6, r6, rfl, ho6, hb6⟩ := hp.shape
  clear hp
  have OT6 := Lib.hid ho6
  have hz7 := (hb6).size
  have HB7 := Lib.hid (HB4.out.trans ((hb6).mono HB4.out.size))
  have O8 := Lib.hid (O5.out.kept (fun g hg => by have := hg.1; have := hg.2; omega) hb6)
  have O9 := Lib.hid (OB3.out.kept hb6)
  clear O5 OB3
  clear ho6 hb6
  obtain ⟨c10, e10⟩ := O9.out.kept ((Below.refl w6.heap.size w6).alloc (Nat.le_refl _) (.cells #[.slice A6 y0.acc.length m6, .slice B6 y0.nxt.length r6] 27))
  go_wp2_with fail
  obtain ⟨W11, hW11⟩ : ∃ W11, W11 = w6.alloc (.cells #[.slice A6 y0.acc.length m6, .slice B6 y0.nxt.length r6] 27) := ⟨_, rfl⟩
  have BN11 := box2_new w6 w6 w6.heap.size (.slice A6 y0.acc.length m6) (.slice B6 y0.nxt.length r6) 27 (Below.refl _ _) (Nat.le_refl _)
  rw [← hW11] at BN11 ⊢
  have hzb11 := BN11.2.2.2
  have hb11 : Below w6.heap.size w6 W11 := BN11.2.2.1
  have OB11 := Lib.hid BN11.2.1
  clear hW11 BN11
  have hz12 := (hb11).size
  have HB12 := Lib.hid (HB7.out.trans ((hb11).mono HB7.out.size))
  have O13 := Lib.hid (O8.out.kept (fun g hg => by have := hg.1; have := hg.2; omega) hb11)
  have O14 := Lib.hid (O9.out.kept hb11)
  have O15 := Lib.hid (OT6.out.kept (fun g hg => by have := hg.1; have := hg.2; omega) hb11)
  clear O8 O9 OT6
  clear hb11
  clear c10 e10
  go_at_call 27
  refine (eqDfa_any _ _ _ _ y0 _ _ W11 O15.out.dfa O13.out.dfa).mono ?_
  rintro e w16 ⟨rfl, hb16⟩
  have hz17 := (hb16).size
  have HB17 := Lib.hid (HB12.out.trans ((hb16).mono HB12.out.size))
  have O18 := Lib.hid (O13.out.kept (fun g hg => by have := hg.1; have := hg.2; omega) hb16)
  have O19 := Lib.hid (O14.out.kept hb16)
  have O20 := Lib.hid (O15.out.kept (fun g hg => by have := hg.1; have := hg.2; omega) hb16)
  have O21 := Lib.hid (OB11.out.kept hb16)
  clear O13 O14 O15 OB11
  clear hb16
  obtain ⟨c22, e22⟩ := O21.out
  go_wp2_with fail
  go_at_call 28
  refine ((HMry.out (OwnB W3 w6) _ _ w16 O20.out (fun g hg => by have := hg.2; omega))).mono ?_
  rintro e w23 ⟨rfl, hs23, hc23⟩
  have hz23 := hc23.size
  have HB23 := Lib.hid (HB17.out.trans (hc23.old (B := WB.heap.size) (fun g hg => by have := hg.1; omega) HB17.out.size))
  have O24 := Lib.hid (O18.out.chg (fun g hg => by have := hg.1; have := hg.2; omega) hc23 (fun g hg h => by have := hg.1; have := hg.2; have := h.1; have := h.2; omega))
  have O25 := Lib.hid (O19.out.chg hc23 (fun h => by have := h.1; have := h.2; omega))
  have O27 := Lib.hid (O21.out.chg hc23 (fun h => by have := h.1; have := h.2; omega))
  have OM23 := Lib.hid hs23
  clear O18 O19 O20 O21 hs23 hc23
  clear c22 e22
  obtain ⟨c28, e28⟩ := O27.out
  go_wp2_with fail
  go_at_call 29
  refine (HH.out _ _ _ w23 OM23.out.dfa).mono ?_
  rintro e w29 ⟨rfl, hb29⟩
  have hz30 := (hb29).size
  have HB30 := Lib.hid (HB23.out.trans ((hb29).mono HB23.out.size))
  have O31 := Lib.hid (O24.out.kept (fun g hg => by have := hg.1; have := hg.2; omega) hb29)
  have O32 := Lib.hid (O25.out.kept hb29)
  have O33 := Lib.hid (OM23.out.kept (fun g hg => by have := hg.1; have := hg.2; omega) hb29)
  have O34 := Lib.hid (O27.out.kept hb29)
  clear O24 O25 OM23 O27
  clear hb29
  clear c28 e28
  go_wp2_with fail
  go_at_call 31
  refine (HI.out w29).mono ?_
  rintro e w35 hp
  obtain ⟨A35, m35, B35, r35, rfl, ho35, hb35⟩ := hp.shape
  clear hp
  have OT35 := Lib.hid ho35
  have hz36 := (hb35).size
  have HB36 := Lib.hid (HB30.out.trans ((hb35).mono HB30.out.size))
  have O37 := Lib.hid (O31.out.kept (fun g hg => by have := hg.1; have := hg.2; omega) hb35)
  have O38 := Lib.hid (O32.out.kept hb35)
  have O39 := Lib.hid (O33.out.kept (fun g hg => by have := hg.1; have := hg.2; omega) hb35)
  have O40 := Lib.hid (O34.out.kept hb35)
  clear O31 O32 O33 O34
  clear ho35 hb35
  obtain ⟨c41, e41⟩ := O38.out.kept ((Below.refl w35.heap.size w35).alloc (Nat.le_refl _) (.cells #[.slice A35 y0.acc.length m35, .slice B35 y0.nxt.length r35] 27))
  go_wp2_with fail
  obtain ⟨W42, hW42⟩ : ∃ W42, W42 = w35.alloc (.cells #[.slice A35 y0.acc.length m35, .slice B35 y0.nxt.length r35] 27) := ⟨_, rfl⟩
  have BN42 := box2_new w35 w35 w35.heap.size (.slice A35 y0.acc.length m35) (.slice B35 y0.nxt.length r35) 27 (Below.refl _ _) (Nat.le_refl _)
  rw [← hW42] at BN42 ⊢
  have hzb42 := BN42.2.2.2
  have hb42 : Below w35.heap.size w35 W42 := BN42.2.2.1
  have OB42 := Lib.hid BN42.2.1
  clear hW42 BN42
  have hz43 := (hb42).size
  have HB43 := Lib.hid (HB36.out.trans ((hb42).mono HB36.out.size))
  have O44 := Lib.hid (O37.out.kept (fun g hg => by have := hg.1; have := hg.2; omega) hb42)
  have O45 := Lib.hid (O38.out.kept hb42)
  have O46 := Lib.hid (O39.out.kept (fun g hg => by have := hg.1; have := hg.2; omega) hb42)
  have O47 := Lib.hid (O40.out.kept hb42)
  have O48 := Lib.hid (OT35.out.kept (fun g hg => by have := hg.1; have := hg.2; omega) hb42)
  clear O37 O38 O39 O40 OT35
  clear hb42
  clear c41 e41
  go_at_call 27
  refine (eqDfa_any _ _ _ _ y0 _ _ W42 O48.out.dfa O44.out.dfa).mono ?_
  rintro e w49 ⟨rfl, hb49⟩
  have hz50 := (hb49).size
  have HB50 := Lib.hid (HB43.out.trans ((hb49).mono HB43.out.size))
  have O51 := Lib.hid (O44.out.kept (fun g hg => by have := hg.1; have := hg.2; omega) hb49)
  have O52 := Lib.hid (O45.out.kept hb49)
  have O53 := Lib.hid (O46.out.kept (fun g hg => by have := hg.1; have := hg.2; omega) hb49)
  have O54 := Lib.hid (O47.out.kept hb49)
  have O55 := Lib.hid (O48.out.kept (fun g hg => by have := hg.1; have := hg.2; omega) hb49)
  have O56 := Lib.hid (OB42.out.kept hb49)
  clear O44 O45 O46 O47 O48 OB42
  clear hb49
  obtain ⟨c57, e57⟩ := O54.out
  go_wp2_with fail
  go_at_call 29
  refine (HH.out _ _ _ w49 O53.out.dfa).mono ?_
  rintro e w58 ⟨rfl, hb58⟩
  have hz59 := (hb58).size
  have HB59 := Lib.hid (HB50.out.trans ((hb58).mono HB50.out.size))
  have O60 := Lib.hid (O51.out.kept (fun g hg => by have := hg.1; have := hg.2; omega) hb58)
  have O61 := Lib.hid (O52.out.kept hb58)
  have O62 := Lib.hid (O53.out.kept (fun g hg => by have := hg.1; have := hg.2; omega) hb58)
  have O63 := Lib.hid (O54.out.kept hb58)
  have O64 := Lib.hid (O55.out.kept (fun g hg => by have := hg.1; have := hg.2; omega) hb58)
  have O65 := Lib.hid (O56.out.kept hb58)
  clear O51 O52 O53 O54 O55 O56
  clear hb58
  clear c57 e57
  go_wp2_with fail
  go_ret
  exact ⟨rfl, HB59.out⟩

set_option maxRecDepth 100000 in
theorem lawWd_any (s0 : ByteArray) (y0 : Dx) (y1 : Bool) (WB : World) (hs0 : s0.size ≤ 9223372036854775807) (HS0 : ∀ V : World, Calls Try.prog 30 #[.string s0] V (CopyDB y0 y1 V)) (HI0 : ∀ V : World, Calls Try.prog 31 #[.string s0] V (CopyDB y0 y1 V)) (hyw : wtD y0 ≤ 1048576) :
    Calls Try.prog 7 #[.string s0] WB fun e w' => e = .returned (.bool true) ∧ Below WB.heap.size WB w' := by
  by_cases hz : 1048576 < s0.size
  · have e1 : decide ((s0.size : Int) > 1048576) = true := by simp; omega
    clear HS0 HI0
    go_enter Try.func7, Try.ntmps7
    go_wp2_with fail
    go_ret
    exact ⟨rfl, Below.refl _ _⟩
  · exact lawWd_walk s0 y0 y1 WB (by omega) HS0 HI0 hyw
end Go.Proofs.Ytlkhmpdncimnfaa
