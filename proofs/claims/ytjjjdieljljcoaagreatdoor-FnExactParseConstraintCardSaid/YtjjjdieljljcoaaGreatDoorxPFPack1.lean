/-
  Texts of one proof, one behind the other.
-/
import Derived.Deep.RegionHeld3
import Derived.Deep.RegionWith
import Derived.Lib.ItoaLen
import Derived.Deep.QuietTactic
import Derived.BigQuiet
import Derived.RegionTactic
import Derived.Lib.AppendStr
import Derived.Test.YtjjjdieljljcoaaGreatDoorShelf
import Derived.Test.YtjjjdieljljcoaaGreatDoorxPVPack6

/-
  laws.FnExactFormatConstraint answers true at every constraint, where both sides answer alike.
-/
namespace Go.Proofs.YtjjjdieljljcoaaGreatDoor
open Go.RowKit

set_option maxRecDepth 100000 in
set_option maxHeartbeats 6400000 in
theorem cxLF_law (c : Cx) (xu vc : Value) (y : ByteArray) (w : World) (h : CnV w xu vc c) (HS0 : wtC c ≤ 1048576 → ∀ (V : World) (xu vc : Value), Below w.heap.size w V → CnO V xu vc c → Calls Tryz.prog 13 #[.agg #[.int .i64 c.k, .string c.l, .string c.r, .int .i64 c.xk, .string c.xl, xu, vc, .int .i64 c.b]] V fun e w' => e = .returned (.string y) ∧ Below V.heap.size V w') (HI0 : wtC c ≤ 1048576 → ∀ (V : World) (xu vc : Value), Below w.heap.size w V → CnO V xu vc c → Calls Tryz.prog 11 #[.agg #[.int .i64 c.k, .string c.l, .string c.r, .int .i64 c.xk, .string c.xl, xu, vc, .int .i64 c.b]] V fun e w' => e = .returned (.string y) ∧ Below V.heap.size V w') :
    Calls Tryz.prog 7 #[.agg #[.int .i64 c.k, .string c.l, .string c.r, .int .i64 c.xk, .string c.xl, xu, vc, .int .i64 c.b]] w fun e w' => e = .returned (.bool true) ∧ Below w.heap.size w w' := by
  obtain ⟨A, m, B, r, rfl, rfl⟩ := h.shape
  obtain ⟨W, hW⟩ : ∃ W, W = w.alloc (.cells #[.int .i64 c.k, .string c.l, .string c.r, .int .i64 c.xk, .string c.xl, .slice A c.xa.items.length m, .slice B c.cs.length r, .int .i64 c.b] 47) := ⟨_, rfl⟩
  have hb0 : Below w.heap.size w W := by rw [hW]; exact (Below.refl _ _).alloc (Nat.le_refl _) _
  have hzW : W.heap.size = w.heap.size + 1 := by rw [hW]; simp
  have hbx : BoxC W w.heap.size c (.slice A c.xa.items.length m) (.slice B c.cs.length r) := by rw [hW]; exact boxC_new w c _ _ _
  have HWE := Lib.hid hW
  have HB0 := Lib.hid hb0
  have HZW := Lib.hid hzW
  have HCX := Lib.hid (fun (V : World) (hb : Below W.heap.size W V) => (hbx.kept hb).cells)
  have HSZ := Lib.hid (szC_any c _ _ 1048576 W (h.kept hb0) (by omega) (by omega))
  have hcW := hbx.cells
  rw [hW] at hcW
  obtain ⟨c0, c1, c2, c3, c4, c5, c6, c7⟩ := hcW
  by_cases hfit : wtC c ≤ 1048576
  · have HT := Lib.hid (fun (V : World) (hb : Below W.heap.size W V) => toC_any c _ _ V (h.kept (hb0.trans (hb.mono hb0.size))) (by omega))
    have HS := Lib.hid (fun (V : World) (xu vc : Value) (hb : Below W.heap.size W V) (hc : CnO V xu vc c) => HS0 hfit V xu vc (hb0.trans (hb.mono hb0.size)) hc)
    have HI := Lib.hid (fun (V : World) (xu vc : Value) (hb : Below W.heap.size W V) (hc : CnO V xu vc c) => HI0 hfit V xu vc (hb0.trans (hb.mono hb0.size)) hc)
    obtain ⟨q, hq⟩ : ∃ q : Int, q = 1048576 - (wtC c : Int) := ⟨_, rfl⟩
    have HQ := Lib.hid ((leftOf_yes (m := wtC c) (z := 1048576) (by omega)).trans hq.symm)
    have hq0 : ¬ q < 0 := by omega
    have hny : (y.toList != y.toList) = false := bne_self_eq_false _
    clear hW hb0 hzW hbx h HS0 HI0 hfit hq
    go_enter Tryz.func7, Tryz.ntmps7
    go_wp2_with fail
    rw [← HWE.out]
    refine HSZ.out.mono ?_
    rintro e w1 ⟨he, hb1⟩
    rw [HQ.out] at he
    subst he
    have HB1 := Lib.hid hb1
    clear hb1 c0 c1 c2 c3 c4 c5 c6 c7
    obtain ⟨c0, c1, c2, c3, c4, c5, c6, c7⟩ := HCX.out w1 HB1.out
    go_wp2_with fail
    refine (HT.out w1 HB1.out).mono ?_
    rintro e w2 hp
    obtain ⟨A2, m2, B2, r2, rfl, ht2, hb2⟩ := hp.shape
    have HT2 := Lib.hid ht2.con
    have HB2 := Lib.hid (HB1.out.trans (hb2.mono HB1.out.size))
    clear hp ht2 hb2 c0 c1 c2 c3 c4 c5 c6 c7
    go_wp2_with fail
    refine (HS.out w2 _ _ HB2.out HT2.out).mono ?_
    rintro e w3 ⟨rfl, hb3⟩
    have HB3 := Lib.hid (HB2.out.trans (hb3.mono HB2.out.size))
    clear hb3
    obtain ⟨c0, c1, c2, c3, c4, c5, c6, c7⟩ := HCX.out w3 HB3.out
    go_wp2_with fail
    refine (HT.out w3 HB3.out).mono ?_
    rintro e w4 hp
    obtain ⟨A4, m4, B4, r4, rfl, ht4, hb4⟩ := hp.shape
    have HB4 := Lib.hid (HB3.out.trans (hb4.mono HB3.out.size))
    have HT4 := Lib.hid (ht4.con.kept (w' := w4.alloc (.cells #[.int .i64 c.k, .string c.l, .string c.r, .int .i64 c.xk, .string c.xl, .slice A4 c.xa.items.length m4, .slice B4 c.cs.length r4, .int .i64 c.b] 29)) ((Below.refl _ _).alloc (Nat.le_refl _) _))
    clear hp ht4 hb4 c0 c1 c2 c3 c4 c5 c6 c7
    go_wp2_with fail
    obtain ⟨W5, hW5⟩ : ∃ W5, W5 = w4.alloc (.cells #[.int .i64 c.k, .string c.l, .string c.r, .int .i64 c.xk, .string c.xl, .slice A4 c.xa.items.length m4, .slice B4 c.cs.length r4, .int .i64 c.b] 29) := ⟨_, rfl⟩
    have hb45 : Below w4.heap.size w4 W5 := by rw [hW5]; exact (Below.refl _ _).alloc (Nat.le_refl _) _
    have hbx5 : BoxC W5 w4.heap.size c (.slice A4 c.xa.items.length m4) (.slice B4 c.cs.length r4) := by rw [hW5]; exact boxC_new w4 c _ _ _
    rw [← hW5] at HT4 ⊢
    have HB5 := Lib.hid (HB4.out.trans (hb45.mono HB4.out.size))
    have HX5 := Lib.hid (fun (V : World) (hb : Below W5.heap.size W5 V) => (hbx5.kept hb).cells)
    clear hW5 hb45 hbx5
    refine (HI.out W5 _ _ HB5.out HT4.out).mono ?_
    rintro e w6 ⟨rfl, hb6⟩
    have HB56 := Lib.hid hb6
    have HB6 := Lib.hid (HB5.out.trans (hb6.mono HB5.out.size))
    have HT6 := Lib.hid (HT4.out.kept hb6)
    clear hb6
    go_wp2_with fail
    have HKB : Hid (∀ X, Below w6.heap.size w6 X → X.cell? ⟨w4.heap.size, 0, none⟩ = some (.int .i64 c.k) ∧ X.cell? ⟨w4.heap.size, 1, none⟩ = some (.string c.l) ∧ X.cell? ⟨w4.heap.size, 2, none⟩ = some (.string c.r) ∧ X.cell? ⟨w4.heap.size, 3, none⟩ = some (.int .i64 c.xk) ∧ X.cell? ⟨w4.heap.size, 4, none⟩ = some (.string c.xl) ∧ X.cell? ⟨w4.heap.size, 5, none⟩ = some (.slice A4 c.xa.items.length m4) ∧ X.cell? ⟨w4.heap.size, 6, none⟩ = some (.slice B4 c.cs.length r4) ∧ X.cell? ⟨w4.heap.size, 7, none⟩ = some (.int .i64 c.b) ∧ X.cell? ⟨w.heap.size, 0, none⟩ = some (.int .i64 c.k) ∧ X.cell? ⟨w.heap.size, 1, none⟩ = some (.string c.l) ∧ X.cell? ⟨w.heap.size, 2, none⟩ = some (.string c.r) ∧ X.cell? ⟨w.heap.size, 3, none⟩ = some (.int .i64 c.xk) ∧ X.cell? ⟨w.heap.size, 4, none⟩ = some (.string c.xl) ∧ X.cell? ⟨w.heap.size, 5, none⟩ = some (.slice A c.xa.items.length m) ∧ X.cell? ⟨w.heap.size, 6, none⟩ = some (.slice B c.cs.length r) ∧ X.cell? ⟨w.heap.size, 7, none⟩ = some (.int .i64 c.b)) := Lib.hid (fun X hb => by
      obtain ⟨a0, a1, a2, a3, a4, a5, a6, a7⟩ := HX5.out X (HB56.out.trans (hb.mono HB56.out.size))
      obtain ⟨d0, d1, d2, d3, d4, d5, d6, d7⟩ := HCX.out X (HB6.out.trans (hb.mono HB6.out.size))
      exact ⟨a0, a1, a2, a3, a4, a5, a6, a7, d0, d1, d2, d3, d4, d5, d6, d7⟩)
    have HTk := Lib.hid (fun (X : World) (hb : Below w6.heap.size w6 X) => HT.out X (HB6.out.trans (hb.mono HB6.out.size)))
    have HEQ := Lib.hid (fun (X : World) (u' v' : Value) (hb : Below w6.heap.size w6 X) (hc : CnO X u' v' c) => eqC_any c (.slice A4 c.xa.items.length m4) (.slice B4 c.cs.length r4) u' v' X (HT6.out.kept hb) hc)
    have hbw : Below w6.heap.size w6 w6 := Below.refl _ _
    go_region_held3 (fun X => X.cell? ⟨w4.heap.size, 0, none⟩ = some (.int .i64 c.k) ∧ X.cell? ⟨w4.heap.size, 1, none⟩ = some (.string c.l) ∧ X.cell? ⟨w4.heap.size, 2, none⟩ = some (.string c.r) ∧ X.cell? ⟨w4.heap.size, 3, none⟩ = some (.int .i64 c.xk) ∧ X.cell? ⟨w4.heap.size, 4, none⟩ = some (.string c.xl) ∧ X.cell? ⟨w4.heap.size, 5, none⟩ = some (.slice A4 c.xa.items.length m4) ∧ X.cell? ⟨w4.heap.size, 6, none⟩ = some (.slice B4 c.cs.length r4) ∧ X.cell? ⟨w4.heap.size, 7, none⟩ = some (.int .i64 c.b) ∧ X.cell? ⟨w.heap.size, 0, none⟩ = some (.int .i64 c.k) ∧ X.cell? ⟨w.heap.size, 1, none⟩ = some (.string c.l) ∧ X.cell? ⟨w.heap.size, 2, none⟩ = some (.string c.r) ∧ X.cell? ⟨w.heap.size, 3, none⟩ = some (.int .i64 c.xk) ∧ X.cell? ⟨w.heap.size, 4, none⟩ = some (.string c.xl) ∧ X.cell? ⟨w.heap.size, 5, none⟩ = some (.slice A c.xa.items.length m) ∧ X.cell? ⟨w.heap.size, 6, none⟩ = some (.slice B c.cs.length r) ∧ X.cell? ⟨w.heap.size, 7, none⟩ = some (.int .i64 c.b)) (with_reducible first | exact HKB.out _ hbw.drew | exact HKB.out _ hbw) (first | (go_at_call 26; (with_reducible refine (HTk.out _ hbw.drew).mono ?_); rintro e wa hp; obtain ⟨A7, m7, B7, r7, rfl, ht7, hb7⟩ := hp.shape; clear hp; have hbw := hbw.drew.trans (hb7.mono hbw.drew.size)) | (go_at_call 27; (with_reducible refine (HEQ.out _ _ _ ?hq1 ?hq2).mono ?_); (case hq1 => (first | exact hbw | exact hbw.drew)); (case hq2 => exact ht7.con); rintro e wb ⟨rfl, hb8⟩; (first | (have hbw := hbw.trans (hb8.mono hbw.size)) | (have hbw := hbw.drew.trans (hb8.mono hbw.drew.size)))))
    all_goals
      have HBZ := Lib.hid (HB6.out.trans (hbw.mono HB6.out.size))
      clear hbw ht7 hb7 hb8
      go_wp2_with fail
      go_ret
      exact ⟨rfl, HB0.out.trans (HBZ.out.mono HB0.out.size)⟩
  · have HQ := Lib.hid (leftOf_no (m := wtC c) (z := 1048576) (by omega))
    clear hW hb0 hzW hbx h HS0 HI0 hfit
    go_enter Tryz.func7, Tryz.ntmps7
    go_wp2_with fail
    rw [← HWE.out]
    refine HSZ.out.mono ?_
    rintro e w1 ⟨he, hb1⟩
    rw [HQ.out] at he
    subst he
    have HB1 := Lib.hid hb1
    clear hb1 c0 c1 c2 c3 c4 c5 c6 c7
    go_wp2_with fail
    go_ret
    exact ⟨rfl, HB0.out.trans (HB1.out.mono HB0.out.size)⟩
end Go.Proofs.YtjjjdieljljcoaaGreatDoor

/-
  What spec.VarsOfConstraint answers.
-/
namespace Go.Proofs.YtjjjdieljljcoaaGreatDoor
open Go.RowKit

theorem strL_two (l r : ByteArray) : l ++ r = strL (l.data.toList ++ r.data.toList) := by
  rw [← strL_app l.data.toList r.data.toList (t := r) rfl, strL_self]
theorem varsX_valid {c : Cx} (h : validX c = true) : varsX c = varsL (c.l.data.toList ++ c.r.data.toList ++ coefL 0 c.cs) := if_pos h
theorem coefL_three0 (a d e : Int) (k : Nat) (hk : k < 3) : coefL 0 ([a, d, e].take (k + 1)) = coefL 0 ([a, d, e].take k) ++ (if [a, d, e].getD k 0 ≠ 0 then [UInt8.ofNat (88 + k)] else []) := by
  match k, hk with
  | 0, _ => simp [coefL]
  | 1, _ => simp [coefL]
  | 2, _ => simp [coefL]
def cofK (a d e : Int) (j : Nat) : List UInt8 := coefL 0 ([a, d, e].take j)
theorem coefL_three (a d e : Int) (k : Nat) (hk : k < 3) : cofK a d e (k + 1) = cofK a d e k ++ (if [a, d, e].getD k 0 ≠ 0 then [UInt8.ofNat (88 + k)] else []) := coefL_three0 a d e k hk
theorem strL_add (l m : List UInt8) {t : ByteArray} (h : t.data.toList = m) : Value.string (strL l ++ t) = .string (strL (l ++ m)) := congrArg Value.string (strL_app l m h)

set_option maxRecDepth 100000 in
set_option maxHeartbeats 6400000 in
theorem specVarsC_any (c : Cx) (xu vc : Value) (w : World) (h : CnO w xu vc c) (hsz : c.xa.size ≤ 2097152) :
    Calls Tryz.prog 20 #[.agg #[.int .i64 c.k, .string c.l, .string c.r, .int .i64 c.xk, .string c.xl, xu, vc, .int .i64 c.b]] w fun e w' => e = .returned (.string (strL (varsX c))) ∧ Below w.heap.size w w' := by
  obtain ⟨A, m, B, r, rfl, rfl⟩ := h.shape
  obtain ⟨W, hW⟩ : ∃ W, W = w.alloc (.cells #[.int .i64 c.k, .string c.l, .string c.r, .int .i64 c.xk, .string c.xl, .slice A c.xa.items.length m, .slice B c.cs.length r, .int .i64 c.b] 29) := ⟨_, rfl⟩
  have hb0 : Below w.heap.size w W := by rw [hW]; exact (Below.refl _ _).alloc (Nat.le_refl _) _
  have hbx : BoxC W w.heap.size c (.slice A c.xa.items.length m) (.slice B c.cs.length r) := by rw [hW]; exact boxC_new w c _ _ _
  have HWE := Lib.hid hW
  have HB0 := Lib.hid hb0
  have HVC := Lib.hid (fun (V : World) (hb : Below W.heap.size W V) => specVC_any c _ _ V (h.kept (hb0.trans (hb.mono hb0.size))) hsz)
  have HCX := Lib.hid (fun (V : World) (hb : Below W.heap.size W V) => (hbx.kept hb).cells)
  have HRW := Lib.hid (fun (V : World) (hb : Below W.heap.size W V) => (h.kept (hb0.trans (hb.mono hb0.size))).2.2)
  have hcW := hbx.cells
  rw [hW] at hcW
  obtain ⟨c0, c1, c2, c3, c4, c5, c6, c7⟩ := hcW
  clear hW hbx hb0 h
  cases hv : validX c with
  | false =>
    rw [hv] at HVC
    have HR := Lib.hid (show varsX c = [] by unfold varsX; rw [hv]; rfl)
    clear hv
    go_enter Tryz.func20, Tryz.ntmps20
    go_wp2_with fail
    rw [← HWE.out]
    refine (HVC.out W (Below.refl _ _)).mono ?_
    rintro e w1 ⟨rfl, hb1⟩
    have HB1 := Lib.hid hb1
    clear hb1 c0 c1 c2 c3 c4 c5 c6 c7
    go_wp2_with fail
    go_ret
    exact ⟨by rw [HR.out]; rfl, HB0.out.trans (HB1.out.mono HB0.out.size)⟩
  | true =>
    rw [hv] at HVC
    obtain ⟨hl, hr⟩ := valid_strs hv
    obtain ⟨L, hL⟩ : ∃ L, L = c.l.data.toList ++ c.r.data.toList := ⟨_, rfl⟩
    have hLl : L.length ≤ 24 := by
      rw [hL, List.length_append, show c.l.data.toList.length = c.l.size by simp, show c.r.data.toList.length = c.r.size by simp]
      omega
    have HL0 := Lib.hid (show c.l ++ c.r = strL L by rw [hL]; exact strL_two _ _)
    have HRX := Lib.hid (show varsX c = varsL (L ++ coefL 0 c.cs) by rw [hL]; exact varsX_valid hv)
    have hcs := valid_cs hv
    clear hL hv
    obtain ⟨k, l, rr, xk, xl, xa, cs, b⟩ := c
    simp only at *
    rcases hcs with rfl | ⟨a, d, e, rfl, ha, hd, he⟩
    · have HV := Lib.hid (fun w => specVars_any (strL L) w (by rw [strL_size]; unfold maxLen; omega))
      have HRY := Lib.hid (show varsX ⟨k, l, rr, xk, xl, xa, [], b⟩ = varsL (strL L).data.toList by rw [HRX.out, strL_list, coefL, List.append_nil])
      have c6' := c6
      change _ = some (Value.slice B 0 r) at c6'
      have hCX : ∀ V, Below W.heap.size W V → V.cell? ⟨w.heap.size, 1, none⟩ = some (.string l) ∧ V.cell? ⟨w.heap.size, 2, none⟩ = some (.string rr) ∧ V.cell? ⟨w.heap.size, 6, none⟩ = some (.slice B 0 r) := fun V hb => ⟨(HCX.out V hb).2.1, (HCX.out V hb).2.2.1, (HCX.out V hb).2.2.2.2.2.2.1⟩
      have HCY := Lib.hid hCX
      have HWE3 : Hid (W = w.alloc (.cells #[.int .i64 k, .string l, .string rr, .int .i64 xk, .string xl, .slice A xa.items.length m, .slice B 0 r, .int .i64 b] 29)) := Lib.hid HWE.out
      clear c6 hCX
      go_enter Tryz.func20, Tryz.ntmps20
      go_wp2_with fail
      rw [← HWE3.out]
      refine (HVC.out W (Below.refl _ _)).mono ?_
      rintro e w1 ⟨rfl, hb1⟩
      have HB1 := Lib.hid hb1
      clear hb1 c0 c1 c2 c3 c4 c5 c6' c7
      obtain ⟨c1, c2, c6⟩ := HCY.out w1 HB1.out
      go_wp2_with fail
      go_loop [3, 4] (fun s i => s = .string (strL L) ∧ i = .int .i64 0) (fun _ _ => 0)
      case atStart => exact ⟨congrArg Value.string HL0.out, rfl⟩
      case round =>
        obtain ⟨rfl, rfl⟩ := hrel
        go_wp2_with (go_at_call 52; (with_reducible refine (HV.out _).mono ?_); rintro e w' ⟨rfl, rfl⟩)
        go_ret
        exact ⟨congrArg (fun z => Ending.returned (.string (strL z))) HRY.out.symm, HB0.out.trans (HB1.out.mono HB0.out.size)⟩
    · have hcl : (cofK a d e 3).length ≤ 3 := by
        simp only [cofK, List.take, coefL, List.length_append, List.length_nil]
        split <;> split <;> split <;> simp
      have HV := Lib.hid (fun w => specVars_any (strL (L ++ cofK a d e 3)) w (by rw [strL_size, List.length_append]; unfold maxLen; omega))
      have HRY := Lib.hid (show varsX ⟨k, l, rr, xk, xl, xa, [a, d, e], b⟩ = varsL (strL (L ++ cofK a d e 3)).data.toList by rw [HRX.out, strL_list]; rfl)
      have c6' := c6
      change _ = some (Value.slice B 3 r) at c6'
      have hCX : ∀ V, Below W.heap.size W V → V.cell? ⟨w.heap.size, 1, none⟩ = some (.string l) ∧ V.cell? ⟨w.heap.size, 2, none⟩ = some (.string rr) ∧ V.cell? ⟨w.heap.size, 6, none⟩ = some (.slice B 3 r) := fun V hb => ⟨(HCX.out V hb).2.1, (HCX.out V hb).2.2.1, (HCX.out V hb).2.2.2.2.2.2.1⟩
      have HCY := Lib.hid hCX
      have HWE3 : Hid (W = w.alloc (.cells #[.int .i64 k, .string l, .string rr, .int .i64 xk, .string xl, .slice A xa.items.length m, .slice B 3 r, .int .i64 b] 29)) := Lib.hid HWE.out
      have hlen : ∀ j, (cofK a d e j).length ≤ 3 := fun j => by
        match j with
        | 0 => simp [cofK, coefL]
        | 1 => simp only [cofK, List.take, coefL]; split <;> simp
        | 2 => simp only [cofK, List.take, coefL]; split <;> split <;> simp
        | j + 3 => simpa [cofK] using hcl
      have HLN := Lib.hid hlen
      clear c6 hCX hcl hlen ha hd he
      go_enter Tryz.func20, Tryz.ntmps20
      go_wp2_with fail
      rw [← HWE3.out]
      refine (HVC.out W (Below.refl _ _)).mono ?_
      rintro e' w1 ⟨rfl, hb1⟩
      have HB1 := Lib.hid hb1
      obtain ⟨g, rfl, q0, q1, q2⟩ := three_ints (a := a) (d := d) (e := e) (HRW.out w1 hb1)
      clear hb1 c0 c1 c2 c3 c4 c5 c6' c7
      obtain ⟨c1, c2, c6⟩ := HCY.out w1 HB1.out
      go_wp2_with fail
      go_loop [3, 4] (fun s i => ∃ j : Nat, j ≤ 3 ∧ (i = .int .i64 0 ∧ j = 0 ∨ i = .int .i64 1 ∧ j = 1 ∨ i = .int .i64 2 ∧ j = 2 ∨ i = .int .i64 3 ∧ j = 3) ∧ s = .string (strL (L ++ cofK a d e j))) (fun _ i => 3 - (intOf i).toNat)
      case atStart => exact ⟨0, Nat.zero_le _, Or.inl ⟨rfl, rfl⟩, by rw [HL0.out]; simp [cofK, coefL]⟩
      case round =>
        obtain ⟨j, hj, hij, rfl⟩ := hrel
        have hz0 := strL_size (L ++ cofK a d e j)
        rw [List.length_append] at hz0
        have hz1 := HLN.out j
        have hzs : (strL (L ++ cofK a d e j)).size ≤ 27 := by omega
        clear hz0 hz1
        rcases hij with ⟨rfl, rfl⟩ | ⟨rfl, rfl⟩ | ⟨rfl, rfl⟩ | ⟨rfl, rfl⟩
        · have HN := Lib.hid (coefL_three a d e 0 (by omega))
          by_cases hz : a = 0
          · have hz1 : (a == 0) = true := by simp [hz]
            have hz2 : (a != 0) = false := by simp [hz]
            have HN2 := Lib.hid (show cofK a d e 1 = cofK a d e 0 by rw [HN.out]; simp [hz])
            clear hz
            go_wp2_with fail
            go_round
            case rel => exact ⟨1, by omega, Or.inr (Or.inl ⟨rfl, rfl⟩), by rw [HN2.out]⟩
            case measure => simp [intOf]
          · have hz1 : (a == 0) = false := by simp [hz]
            have hz2 : (a != 0) = true := by simp [hz]
            have HN2 := Lib.hid (show cofK a d e 1 = cofK a d e 0 ++ [88] by rw [HN.out, if_pos (by simp [hz])]; rfl)
            clear hz
            go_wp2_with fail
            go_round
            case rel => exact ⟨1, by omega, Or.inr (Or.inl ⟨rfl, rfl⟩), by rw [HN2.out, ← List.append_assoc]; exact strL_add _ [88] rfl⟩
            case measure => simp [intOf]
        · have HN := Lib.hid (coefL_three a d e 1 (by omega))
          by_cases hz : d = 0
          · have hz1 : (d == 0) = true := by simp [hz]
            have hz2 : (d != 0) = false := by simp [hz]
            have HN2 := Lib.hid (show cofK a d e 2 = cofK a d e 1 by rw [HN.out]; simp [hz])
            clear hz
            go_wp2_with fail
            go_round
            case rel => exact ⟨2, by omega, Or.inr (Or.inr (Or.inl ⟨rfl, rfl⟩)), by rw [HN2.out]⟩
            case measure => simp [intOf]
          · have hz1 : (d == 0) = false := by simp [hz]
            have hz2 : (d != 0) = true := by simp [hz]
            have HN2 := Lib.hid (show cofK a d e 2 = cofK a d e 1 ++ [89] by rw [HN.out, if_pos (by simp [hz])]; rfl)
            clear hz
            go_wp2_with fail
            go_round
            case rel => exact ⟨2, by omega, Or.inr (Or.inr (Or.inl ⟨rfl, rfl⟩)), by rw [HN2.out, ← List.append_assoc]; exact strL_add _ [89] rfl⟩
            case measure => simp [intOf]
        · have HN := Lib.hid (coefL_three a d e 2 (by omega))
          by_cases hz : e = 0
          · have hz1 : (e == 0) = true := by simp [hz]
            have hz2 : (e != 0) = false := by simp [hz]
            have HN2 := Lib.hid (show cofK a d e 3 = cofK a d e 2 by rw [HN.out]; simp [hz])
            clear hz
            go_wp2_with fail
            go_round
            case rel => exact ⟨3, by omega, Or.inr (Or.inr (Or.inr (⟨rfl, rfl⟩))), by rw [HN2.out]⟩
            case measure => simp [intOf]
          · have hz1 : (e == 0) = false := by simp [hz]
            have hz2 : (e != 0) = true := by simp [hz]
            have HN2 := Lib.hid (show cofK a d e 3 = cofK a d e 2 ++ [90] by rw [HN.out, if_pos (by simp [hz])]; rfl)
            clear hz
            go_wp2_with fail
            go_round
            case rel => exact ⟨3, by omega, Or.inr (Or.inr (Or.inr (⟨rfl, rfl⟩))), by rw [HN2.out, ← List.append_assoc]; exact strL_add _ [90] rfl⟩
            case measure => simp [intOf]
        · go_wp2_with (go_at_call 52; (with_reducible refine (HV.out _).mono ?_); rintro e w' ⟨rfl, rfl⟩)
          go_ret
          exact ⟨congrArg (fun z => Ending.returned (.string (strL z))) HRY.out.symm, HB0.out.trans (HB1.out.mono HB0.out.size)⟩
end Go.Proofs.YtjjjdieljljcoaaGreatDoor

/-
  What spec.FormatRegex answers: the representation of a valid expression, the empty string for others.
-/
namespace Go.Proofs.YtjjjdieljljcoaaGreatDoor
open Go.RowKit
def formatRx (k : Int) (l : ByteArray) (a : Fr) : List UInt8 := if validRx k l a then nodeTxt k l (texts a) else []

set_option maxHeartbeats 800000 in
theorem specFormat_any (n B : Nat) (k : Int) (l : ByteArray) (u : Value) (a : Fr) (w : World) (hS : Sl w B n u a) (hB : B ≤ w.heap.size) (hsz : a.size ≤ 2097152) (hls : l.size ≤ 9223372036854775807) :
    Calls Tryz.prog 39 #[.agg #[.int .i64 k, .string l, u]] w fun e w' => e = .returned (.string ⟨(formatRx k l a).toArray⟩) ∧ Below w.heap.size w w' := by
  have HV := Lib.hid (fun wr (hb : Below w.heap.size w wr) (hz : B ≤ wr.heap.size) => specValid_any n B k l u a wr (hS.mono (hb.mono hB) (Nat.le_refl _)) hz hsz hls)
  have HB0 := Lib.hid ((Below.refl w.heap.size w).alloc (Nat.le_refl _) (.cells #[.int .i64 k, .string l, u] 26))
  cases hv : validRx k l a with
  | true =>
    have HT := Lib.hid (fun wr (hb : Below w.heap.size w wr) (hz : B ≤ wr.heap.size) => specText_any n B k l u a wr (hS.mono (hb.mono hB) (Nat.le_refl _)) hz hsz (valid_ok hv))
    rw [hv] at HV
    have HR : Hid (formatRx k l a = nodeTxt k l (texts a)) := Lib.hid (by unfold formatRx; rw [if_pos hv])
    clear hS hv
    go_enter Tryz.func39, Tryz.ntmps39
    go_wp2_with fail
    refine (HV.out _ HB0.out (by simp; omega)).mono ?_
    rintro e w1 ⟨rfl, hb1⟩
    have hb1' : Below (w.heap.size + 1) (w.alloc (.cells #[.int .i64 k, .string l, u] 26)) w1 := by simpa using hb1
    obtain ⟨c0, c1, c2⟩ := box_cells hb1'
    have hz1 := hb1'.size
    rw [World.size_alloc] at hz1
    have HW1 := Lib.hid (HB0.out.trans (hb1'.mono (Nat.le_succ _)))
    clear hb1 hb1'
    go_wp2_with fail
    refine (HT.out _ HW1.out (by omega)).mono ?_
    rintro e w2 ⟨rfl, hb2⟩
    have HW2 := Lib.hid (HW1.out.trans (hb2.mono (by omega)))
    clear hb2
    go_wp2_with fail
    go_ret
    exact ⟨congrArg (fun s : List UInt8 => Ending.returned (.string ⟨s.toArray⟩)) HR.out.symm, HW2.out⟩
  | false =>
    rw [hv] at HV
    have HR : Hid (formatRx k l a = []) := Lib.hid (by unfold formatRx; rw [if_neg (by rw [hv]; decide)])
    clear hS hv
    go_enter Tryz.func39, Tryz.ntmps39
    go_wp2_with fail
    refine (HV.out _ HB0.out (by simp; omega)).mono ?_
    rintro e w1 ⟨rfl, hb1⟩
    have HW1 := Lib.hid (HB0.out.trans (hb1.mono (by simp)))
    clear hb1
    go_wp2_with fail
    go_ret
    exact ⟨congrArg (fun s : List UInt8 => Ending.returned (.string ⟨s.toArray⟩)) HR.out.symm, HW1.out⟩
end Go.Proofs.YtjjjdieljljcoaaGreatDoor

/-
  How long an expression's text is. Of no function of the program.
-/
namespace Go.Proofs.YtjjjdieljljcoaaGreatDoor
open Go.RowKit
/-- A text's length, by its nodes. -/
theorem texts_len : ∀ (f : Fr), allRow f = true → ((texts f).map List.length).sum ≤ 4 * f.size
  | .nil, _ => Nat.le_refl _
  | .cons k l a r, h => by
    simp only [allRow, Bool.and_eq_true] at h
    have ha := texts_len a h.1.1
    have hr := texts_len r h.2
    have hn := node_len k l a h.1.2 ha
    simp only [texts, List.map_cons, List.sum_cons, Fr.size]
    omega
where
  node_len (k : Int) (l : ByteArray) (a : Fr) (hn : nodeOk k l a.items.length = true) (ha : ((texts a).map List.length).sum ≤ 4 * a.size) : (nodeTxt k l (texts a)).length ≤ 4 * (a.size + 1) := by
    have hl : l.data.toList.length ≤ 1 := by
      unfold nodeOk at hn
      have hs : l.data.toList.length = l.size := by rw [Array.length_toList]; rfl
      split at hn <;> (simp only [Bool.and_eq_true, decide_eq_true_eq] at hn; omega)
    have h01 : ((texts a).getD 0 []).length + ((texts a).getD 1 []).length ≤ ((texts a).map List.length).sum := by
      match texts a with
      | [] => simp
      | [x] => simp
      | x :: y :: r =>
        simp only [List.getD_cons_zero, List.getD_cons_succ, List.map_cons, List.sum_cons]
        omega
    have hs : (signOf k).length ≤ 1 := by
      unfold signOf
      split
      · simp
      · split <;> simp
    unfold nodeTxt
    repeat' split
    all_goals try simp only [List.length_cons, List.length_append, List.length_nil]
    all_goals omega
theorem format_len (k : Int) (l : ByteArray) (a : Fr) (ha : a.size ≤ 32) : (formatRx k l a).length ≤ 132 := by
  unfold formatRx
  split
  · rename_i hv
    simp only [validRx, Bool.and_eq_true, decide_eq_true_eq] at hv
    have := texts_len.node_len k l a hv.2.2 (texts_len a hv.2.1)
    omega
  · simp
end Go.Proofs.YtjjjdieljljcoaaGreatDoor

/-
  What spec's l9Term and FormatConstraint answer.
-/
namespace Go.Proofs.YtjjjdieljljcoaaGreatDoor
open Go.RowKit

/-- A term's text: a dash for none. -/
def termB (s : ByteArray) : ByteArray := if s.size = 0 then ⟨#[45]⟩ else s
theorem termB_list (s : ByteArray) : (termB s).data.toList = termT s.data.toList := by
  unfold termB termT
  by_cases h : s.size = 0
  · have h' : s.data.toList = [] := List.eq_nil_of_length_eq_zero (by simpa using h)
    rw [if_pos h, if_pos h']
  · have h' : ¬ s.data.toList = [] := fun e => h (by
      have := congrArg List.length e
      simpa using this)
    rw [if_neg h, if_neg h']
theorem termB_size {s : ByteArray} (h : s.size ≤ 12) : (termB s).size ≤ 12 := by
  unfold termB
  split
  · simp [ByteArray.size]
  · exact h

set_option maxRecDepth 100000 in
set_option maxHeartbeats 800000 in
theorem specTerm_any (s : ByteArray) (w : World) :
    Calls Tryz.prog 38 #[.string s] w fun e w' => e = .returned (.string (termB s)) ∧ w = w' := by
  by_cases h : s.size = 0
  · have HR := Lib.hid (show termB s = ⟨#[45]⟩ from if_pos h)
    have h' := bytes_nil h
    clear h
    go_enter Tryz.func38, Tryz.ntmps38
    go_wp2
    go_ret
    exact ⟨congrArg (fun z => Ending.returned (.string z)) HR.out.symm, rfl⟩
  · have HR := Lib.hid (show termB s = s from if_neg h)
    have h' := bytes_some h
    have e2 : s.toList.isEmpty = false := by simpa using h'
    clear h
    go_enter Tryz.func38, Tryz.ntmps38
    go_wp2
    go_ret
    exact ⟨congrArg (fun z => Ending.returned (.string z)) HR.out.symm, rfl⟩

theorem str_of {t : ByteArray} {l : List UInt8} (h : t.data.toList = l) : t = strL l := bytes_eq (by rw [h, strL_list])
theorem valid_size9 {k : Int} {l : ByteArray} {a : Fr} (h : validRx k l a = true) : a.size ≤ 15 := by
  unfold validRx at h
  simp only [Bool.and_eq_true, decide_eq_true_eq] at h
  have := (left_size a 15 (by omega)).1.1 h.1.1
  omega
theorem fmt_le {k : Int} {l : ByteArray} {a : Fr} (h : a.size ≤ 32) : (⟨(formatRx k l a).toArray⟩ : ByteArray).size ≤ 132 := by
  show (formatRx k l a).toArray.size ≤ 132
  rw [List.size_toArray]
  exact format_len k l a h
theorem fmtX_of {c : Cx} (h : validX c = true) : fmtX c = bodyT c.cn := if_pos h

def lenK (a d e : Int) (j : Nat) : List UInt8 := [108, 101, 110] ++ numsT ([a, d, e].take j)
theorem lenK_succ (a d e : Int) (j : Nat) (hj : j < 3) : lenK a d e (j + 1) = lenK a d e j ++ [32] ++ Lib.itoa ([a, d, e].getD j 0) := by
  match j, hj with
  | 0, _ => simp [lenK, numsT]
  | 1, _ => simp [lenK, numsT]
  | 2, _ => simp [lenK, numsT]
theorem small_itoa {n : Int} (h0 : -99 ≤ n) (h1 : n ≤ 99) : (Lib.itoa n).length ≤ 21 := Lib.itoa_length_le n (by omega) (by omega)
theorem lenK_le {a d e : Int} (ha : -9 ≤ a ∧ a ≤ 9) (hd : -9 ≤ d ∧ d ≤ 9) (he : -9 ≤ e ∧ e ≤ 9) (j : Nat) : (lenK a d e j).length ≤ 100 := by
  have k1 := small_itoa (n := a) (by omega) (by omega)
  have k2 := small_itoa (n := d) (by omega) (by omega)
  have k3 := small_itoa (n := e) (by omega) (by omega)
  match j with
  | 0 => simp [lenK, numsT]
  | 1 => simp [lenK, numsT]; omega
  | 2 => simp [lenK, numsT]; omega
  | j + 3 => simp [lenK, numsT]; omega
theorem strL_snocs (l m : List UInt8) : strL l ++ ⟨#[32]⟩ ++ ⟨m.toArray⟩ = strL (l ++ [32] ++ m) := by
  rw [strL_app l [32] (t := ⟨#[32]⟩) rfl, strL_app _ m (t := ⟨m.toArray⟩) rfl]

set_option maxRecDepth 100000 in
set_option maxHeartbeats 6400000 in
theorem specFmtC_any (c : Cx) (xu vc : Value) (w : World) (h : CnO w xu vc c) (hsz : c.xa.size ≤ 2097152) :
    Calls Tryz.prog 13 #[.agg #[.int .i64 c.k, .string c.l, .string c.r, .int .i64 c.xk, .string c.xl, xu, vc, .int .i64 c.b]] w fun e w' => e = .returned (.string (strL (fmtX c))) ∧ Below w.heap.size w w' := by
  obtain ⟨A, m, B, r, rfl, rfl⟩ := h.shape
  obtain ⟨W, hW⟩ : ∃ W, W = w.alloc (.cells #[.int .i64 c.k, .string c.l, .string c.r, .int .i64 c.xk, .string c.xl, .slice A c.xa.items.length m, .slice B c.cs.length r, .int .i64 c.b] 29) := ⟨_, rfl⟩
  have hb0 : Below w.heap.size w W := by rw [hW]; exact (Below.refl _ _).alloc (Nat.le_refl _) _
  have hbx : BoxC W w.heap.size c (.slice A c.xa.items.length m) (.slice B c.cs.length r) := by rw [hW]; exact boxC_new w c _ _ _
  have HWE := Lib.hid hW
  have HB0 := Lib.hid hb0
  have HVC := Lib.hid (fun (V : World) (hb : Below W.heap.size W V) => specVC_any c _ _ V (h.kept (hb0.trans (hb.mono hb0.size))) hsz)
  have HCX := Lib.hid (fun (V : World) (hb : Below W.heap.size W V) => (hbx.kept hb).cells)
  have HCN := Lib.hid (fun (V : World) (hb : Below W.heap.size W V) => h.kept (hb0.trans (hb.mono hb0.size)))
  have hcW := hbx.cells
  rw [hW] at hcW
  obtain ⟨c0, c1, c2, c3, c4, c5, c6, c7⟩ := hcW
  clear hW hbx hb0
  cases hv : validX c with
  | false =>
    rw [hv] at HVC
    have HR := Lib.hid (show fmtX c = [] from if_neg (by rw [show validC c.cn = validX c from rfl, hv]; simp))
    clear hv h
    go_enter Tryz.func13, Tryz.ntmps13
    go_wp2_with fail
    rw [← HWE.out]
    refine (HVC.out W (Below.refl _ _)).mono ?_
    rintro e w1 ⟨rfl, hb1⟩
    have HB1 := Lib.hid hb1
    clear hb1 c0 c1 c2 c3 c4 c5 c6 c7
    go_wp2_with fail
    go_ret
    exact ⟨by rw [HR.out]; rfl, HB0.out.trans (HB1.out.mono HB0.out.size)⟩
  | true =>
    rw [hv] at HVC
    obtain ⟨hl, hr⟩ := valid_strs hv
    have hbody := fmtX_of hv
    have hkinds := valid_kinds (c := c.cn) hv
    have HV := Lib.hid hv
    have hxl := h.1.2.2
    unfold maxI at hxl
    clear hv h
    obtain ⟨k, l, rr, xk, xl, xa, cs, b⟩ := c
    simp only at *
    rcases hkinds with hk | hk | hk | hk | hk
    all_goals (simp only [Cx.cn] at hk; subst hk)
    · obtain ⟨tb, htb⟩ : ∃ tb, tb = termB l := ⟨_, rfl⟩
      obtain ⟨ub, hub⟩ : ∃ ub, ub = termB rr := ⟨_, rfl⟩
      have htz : tb.size ≤ 12 := by rw [htb]; exact termB_size hl
      have huz : ub.size ≤ 12 := by rw [hub]; exact termB_size hr
      have HR := Lib.hid (show tb ++ ⟨#[32, 61, 32]⟩ ++ ub = strL (fmtX ⟨1, l, rr, xk, xl, xa, cs, b⟩) from str_of (by
        rw [hbody, htb, hub]
        simp only [ByteArray.data_append, Array.toList_append, termB_list]
        rfl))
      have HTl := Lib.hid (fun w => specTerm_any l w)
      have HTr := Lib.hid (fun w => specTerm_any rr w)
      rw [← htb] at HTl
      rw [← hub] at HTr
      clear htb hub hbody
      go_enter Tryz.func13, Tryz.ntmps13
      go_wp2_with fail
      rw [← HWE.out]
      refine (HVC.out W (Below.refl _ _)).mono ?_
      rintro e w1 ⟨rfl, hb1⟩
      have HB1 := Lib.hid hb1
      clear hb1 c0 c1 c2 c3 c4 c5 c6 c7
      obtain ⟨c0, c1, c2, c3, c4, c5, c6, c7⟩ := HCX.out w1 HB1.out
      go_wp2_with fail
      go_quiet ((go_at_call 38; first | (with_reducible exact Calls.quiet_of_same ((HTl.out _).mono fun _ _ ⟨he, hw⟩ => ⟨he, hw.symm⟩)) | (with_reducible exact Calls.quiet_of_same ((HTr.out _).mono fun _ _ ⟨he, hw⟩ => ⟨he, hw.symm⟩))))
      all_goals
        go_wp2_with fail
        go_ret
        exact ⟨congrArg (fun z => Ending.returned (.string z)) HR.out, HB0.out.trans ((below_draws HB1.out _).mono HB0.out.size)⟩
    · obtain ⟨tb, htb⟩ : ∃ tb, tb = termB l := ⟨_, rfl⟩
      obtain ⟨ub, hub⟩ : ∃ ub, ub = termB rr := ⟨_, rfl⟩
      have htz : tb.size ≤ 12 := by rw [htb]; exact termB_size hl
      have huz : ub.size ≤ 12 := by rw [hub]; exact termB_size hr
      have HR := Lib.hid (show tb ++ ⟨#[32, 33, 61, 32]⟩ ++ ub = strL (fmtX ⟨2, l, rr, xk, xl, xa, cs, b⟩) from str_of (by
        rw [hbody, htb, hub]
        simp only [ByteArray.data_append, Array.toList_append, termB_list]
        rfl))
      have HTl := Lib.hid (fun w => specTerm_any l w)
      have HTr := Lib.hid (fun w => specTerm_any rr w)
      rw [← htb] at HTl
      rw [← hub] at HTr
      clear htb hub hbody
      go_enter Tryz.func13, Tryz.ntmps13
      go_wp2_with fail
      rw [← HWE.out]
      refine (HVC.out W (Below.refl _ _)).mono ?_
      rintro e w1 ⟨rfl, hb1⟩
      have HB1 := Lib.hid hb1
      clear hb1 c0 c1 c2 c3 c4 c5 c6 c7
      obtain ⟨c0, c1, c2, c3, c4, c5, c6, c7⟩ := HCX.out w1 HB1.out
      go_wp2_with fail
      go_quiet ((go_at_call 38; first | (with_reducible exact Calls.quiet_of_same ((HTl.out _).mono fun _ _ ⟨he, hw⟩ => ⟨he, hw.symm⟩)) | (with_reducible exact Calls.quiet_of_same ((HTr.out _).mono fun _ _ ⟨he, hw⟩ => ⟨he, hw.symm⟩))))
      all_goals
        go_wp2_with fail
        go_ret
        exact ⟨congrArg (fun z => Ending.returned (.string z)) HR.out, HB0.out.trans ((below_draws HB1.out _).mono HB0.out.size)⟩
    · obtain ⟨_, _, tx, _⟩ := valid_lang HV.out (.inl rfl)
      simp only [Cx.cn] at tx
      obtain ⟨tb, htb⟩ : ∃ tb, tb = termB l := ⟨_, rfl⟩
      obtain ⟨ub, hub⟩ : ∃ ub : ByteArray, ub = ⟨(formatRx xk xl xa).toArray⟩ := ⟨_, rfl⟩
      have htz : tb.size ≤ 12 := by rw [htb]; exact termB_size hl
      have huz : ub.size ≤ 132 := by rw [hub]; exact fmt_le (by have := valid_size9 tx; omega)
      have HR := Lib.hid (show tb ++ ⟨#[32, 105, 110, 32]⟩ ++ ub = strL (fmtX ⟨3, l, rr, xk, xl, xa, cs, b⟩) from str_of (by
        rw [hbody, htb, hub]
        simp only [ByteArray.data_append, Array.toList_append, termB_list]
        rw [show formatRx xk xl xa = ndTxt (xk, xl, xa) from if_pos tx]
        rfl))
      have HTl := Lib.hid (fun w => specTerm_any l w)
      have HF := Lib.hid (fun (V : World) (hb : Below W.heap.size W V) => by
        obtain ⟨_, ⟨n, hS⟩, _⟩ := (HCN.out V hb).read
        exact specFormat_any n V.heap.size xk xl (.slice A xa.items.length m) xa V hS (Nat.le_refl _) hsz hxl)
      rw [← htb] at HTl
      rw [← hub] at HF
      have HK : Hid (∀ V, Below W.heap.size W V → V.cell? ⟨w.heap.size, 1, none⟩ = some (.string l) ∧ V.cell? ⟨w.heap.size, 3, none⟩ = some (.int .i64 xk) ∧ V.cell? ⟨w.heap.size, 4, none⟩ = some (.string xl) ∧ V.cell? ⟨w.heap.size, 5, none⟩ = some (.slice A xa.items.length m)) :=
        Lib.hid (fun V hb => ⟨(HCX.out V hb).2.1, (HCX.out V hb).2.2.2.1, (HCX.out V hb).2.2.2.2.1, (HCX.out V hb).2.2.2.2.2.1⟩)
      have b1 : (9223372036854775807 < tb.size + 4) = False := by simp; omega
      have b2 : (9223372036854775807 < tb.size + 4 + ub.size) = False := by simp; omega
      have HB1b := Lib.hid b1
      have HB2b := Lib.hid b2
      clear htb hub hbody tx b1 b2
      go_enter Tryz.func13, Tryz.ntmps13
      go_wp2_with fail
      rw [← HWE.out]
      refine (HVC.out W (Below.refl _ _)).mono ?_
      rintro e w1 ⟨rfl, hb1⟩
      have HB1 := Lib.hid hb1
      clear hb1 c0 c1 c2 c3 c4 c5 c6 c7
      obtain ⟨c0, _⟩ := HCX.out w1 HB1.out
      go_wp2_with fail
      have HL := Lib.hid (fun V (hb : Below w1.heap.size w1 V) => HB1.out.trans (hb.mono HB1.out.size))
      have hbw : Below w1.heap.size w1 w1 := Below.refl _ _
      have b1 := HB1b.out
      have b2 := HB2b.out
      go_region_held3 (fun V => V.cell? ⟨w.heap.size, 1, none⟩ = some (.string l) ∧ V.cell? ⟨w.heap.size, 3, none⟩ = some (.int .i64 xk) ∧ V.cell? ⟨w.heap.size, 4, none⟩ = some (.string xl) ∧ V.cell? ⟨w.heap.size, 5, none⟩ = some (.slice A xa.items.length m)) (first | exact HK.out _ (HL.out _ hbw.drew) | exact HK.out _ (HL.out _ hbw)) (first | (go_at_call 38; (with_reducible refine (HTl.out _).mono ?_); rintro e1 w4 ⟨rfl, rfl⟩) | (go_at_call 39; (with_reducible refine (HF.out _ ?hq).mono ?_); (case hq => (first | exact HL.out _ hbw.drew | exact HL.out _ hbw)); rintro e1 w4 ⟨rfl, hb4⟩; have hbw := hbw.drew.trans (hb4.mono hbw.drew.size)))
      all_goals
        have HW := Lib.hid (HL.out _ hbw)
        clear hbw hb4 b1 b2
        go_wp2_with fail
        go_ret
        exact ⟨congrArg (fun z => Ending.returned (.string z)) HR.out, HB0.out.trans (HW.out.mono HB0.out.size)⟩
    · obtain ⟨_, _, tx, _⟩ := valid_lang HV.out (.inr rfl)
      simp only [Cx.cn] at tx
      obtain ⟨tb, htb⟩ : ∃ tb, tb = termB l := ⟨_, rfl⟩
      obtain ⟨ub, hub⟩ : ∃ ub : ByteArray, ub = ⟨(formatRx xk xl xa).toArray⟩ := ⟨_, rfl⟩
      have htz : tb.size ≤ 12 := by rw [htb]; exact termB_size hl
      have huz : ub.size ≤ 132 := by rw [hub]; exact fmt_le (by have := valid_size9 tx; omega)
      have HR := Lib.hid (show tb ++ ⟨#[32, 111, 117, 116, 32]⟩ ++ ub = strL (fmtX ⟨4, l, rr, xk, xl, xa, cs, b⟩) from str_of (by
        rw [hbody, htb, hub]
        simp only [ByteArray.data_append, Array.toList_append, termB_list]
        rw [show formatRx xk xl xa = ndTxt (xk, xl, xa) from if_pos tx]
        rfl))
      have HTl := Lib.hid (fun w => specTerm_any l w)
      have HF := Lib.hid (fun (V : World) (hb : Below W.heap.size W V) => by
        obtain ⟨_, ⟨n, hS⟩, _⟩ := (HCN.out V hb).read
        exact specFormat_any n V.heap.size xk xl (.slice A xa.items.length m) xa V hS (Nat.le_refl _) hsz hxl)
      rw [← htb] at HTl
      rw [← hub] at HF
      have HK : Hid (∀ V, Below W.heap.size W V → V.cell? ⟨w.heap.size, 1, none⟩ = some (.string l) ∧ V.cell? ⟨w.heap.size, 3, none⟩ = some (.int .i64 xk) ∧ V.cell? ⟨w.heap.size, 4, none⟩ = some (.string xl) ∧ V.cell? ⟨w.heap.size, 5, none⟩ = some (.slice A xa.items.length m)) :=
        Lib.hid (fun V hb => ⟨(HCX.out V hb).2.1, (HCX.out V hb).2.2.2.1, (HCX.out V hb).2.2.2.2.1, (HCX.out V hb).2.2.2.2.2.1⟩)
      have b1 : (9223372036854775807 < tb.size + 5) = False := by simp; omega
      have b2 : (9223372036854775807 < tb.size + 5 + ub.size) = False := by simp; omega
      have HB1b := Lib.hid b1
      have HB2b := Lib.hid b2
      clear htb hub hbody tx b1 b2
      go_enter Tryz.func13, Tryz.ntmps13
      go_wp2_with fail
      rw [← HWE.out]
      refine (HVC.out W (Below.refl _ _)).mono ?_
      rintro e w1 ⟨rfl, hb1⟩
      have HB1 := Lib.hid hb1
      clear hb1 c0 c1 c2 c3 c4 c5 c6 c7
      obtain ⟨c0, _⟩ := HCX.out w1 HB1.out
      go_wp2_with fail
      have HL := Lib.hid (fun V (hb : Below w1.heap.size w1 V) => HB1.out.trans (hb.mono HB1.out.size))
      have hbw : Below w1.heap.size w1 w1 := Below.refl _ _
      have b1 := HB1b.out
      have b2 := HB2b.out
      go_region_held3 (fun V => V.cell? ⟨w.heap.size, 1, none⟩ = some (.string l) ∧ V.cell? ⟨w.heap.size, 3, none⟩ = some (.int .i64 xk) ∧ V.cell? ⟨w.heap.size, 4, none⟩ = some (.string xl) ∧ V.cell? ⟨w.heap.size, 5, none⟩ = some (.slice A xa.items.length m)) (first | exact HK.out _ (HL.out _ hbw.drew) | exact HK.out _ (HL.out _ hbw)) (first | (go_at_call 38; (with_reducible refine (HTl.out _).mono ?_); rintro e1 w4 ⟨rfl, rfl⟩) | (go_at_call 39; (with_reducible refine (HF.out _ ?hq).mono ?_); (case hq => (first | exact HL.out _ hbw.drew | exact HL.out _ hbw)); rintro e1 w4 ⟨rfl, hb4⟩; have hbw := hbw.drew.trans (hb4.mono hbw.drew.size)))
      all_goals
        have HW := Lib.hid (HL.out _ hbw)
        clear hbw hb4 b1 b2
        go_wp2_with fail
        go_ret
        exact ⟨congrArg (fun z => Ending.returned (.string z)) HR.out, HB0.out.trans (HW.out.mono HB0.out.size)⟩
    · obtain ⟨_, _, _, ⟨a, d, e, hcs, ha, hd, he⟩, hb0, hb9⟩ := valid_len HV.out rfl
      simp only [Cx.cn] at hcs hb0 hb9
      subst hcs
      have HLN := Lib.hid (lenK_le ha hd he)
      have HR := Lib.hid (show strL (lenK a d e 3) ++ ⟨#[32]⟩ ++ ⟨(Lib.itoa b).toArray⟩ = strL (fmtX ⟨5, l, rr, xk, xl, xa, [a, d, e], b⟩) by
        rw [strL_snocs, hbody]
        simp [lenK, bodyT, Cx.cn])
      obtain ⟨ub, hub⟩ : ∃ ub : ByteArray, ub = ⟨(Lib.itoa b).toArray⟩ := ⟨_, rfl⟩
      have huz : ub.size ≤ 21 := by rw [hub]; show (Lib.itoa b).toArray.size ≤ 21; rw [List.size_toArray]; exact small_itoa (by omega) (by omega)
      have HFb := Lib.hid (fun w => specFmtInt_any b w (by omega) (by omega))
      rw [← hub] at HFb HR
      have c6' := c6
      change _ = some (Value.slice B 3 r) at c6'
      have hCX : ∀ V, Below W.heap.size W V → V.cell? ⟨w.heap.size, 0, none⟩ = some (.int .i64 5) ∧ V.cell? ⟨w.heap.size, 6, none⟩ = some (.slice B 3 r) ∧ V.cell? ⟨w.heap.size, 7, none⟩ = some (.int .i64 b) := fun V hb => ⟨(HCX.out V hb).1, (HCX.out V hb).2.2.2.2.2.2.1, (HCX.out V hb).2.2.2.2.2.2.2⟩
      have HCY := Lib.hid hCX
      have HWE3 : Hid (W = w.alloc (.cells #[.int .i64 5, .string l, .string rr, .int .i64 xk, .string xl, .slice A xa.items.length m, .slice B 3 r, .int .i64 b] 29)) := Lib.hid HWE.out
      clear c6 hCX hub hbody
      go_enter Tryz.func13, Tryz.ntmps13
      go_wp2_with fail
      rw [← HWE3.out]
      refine (HVC.out W (Below.refl _ _)).mono ?_
      rintro e' w1 ⟨rfl, hb1⟩
      have HB1 := Lib.hid hb1
      have HQ := Lib.hid (fun (V : World) (hb : Below W.heap.size W V) => three_ints (a := a) (d := d) (e := e) (HCN.out V hb).2.2)
      clear hb1 c0 c1 c2 c3 c4 c5 c6' c7
      obtain ⟨c0, c6, c7⟩ := HCY.out w1 HB1.out
      go_wp2_with fail
      clear c0 c6 c7
      go_loopw [3, 4] (fun s i wr => ∃ j : Nat, j ≤ 3 ∧ (i = .int .i64 0 ∧ j = 0 ∨ i = .int .i64 1 ∧ j = 1 ∨ i = .int .i64 2 ∧ j = 2 ∨ i = .int .i64 3 ∧ j = 3) ∧ s = .string (strL (lenK a d e j)) ∧ Below W.heap.size W wr) (fun _ i _ => 3 - (intOf i).toNat)
      case atStart => exact ⟨0, Nat.zero_le _, Or.inl ⟨rfl, rfl⟩, rfl, HB1.out⟩
      case round =>
        obtain ⟨j, hj, hij, rfl, hbr⟩ := hrel
        have HBr := Lib.hid hbr
        obtain ⟨c0, c6, c7⟩ := HCY.out _ hbr
        obtain ⟨g, hg, q0, q1, q2⟩ := HQ.out _ hbr
        subst hg
        have hzs : (strL (lenK a d e j)).size ≤ 100 := by rw [strL_size]; exact HLN.out j
        clear hbr
        rcases hij with ⟨rfl, rfl⟩ | ⟨rfl, rfl⟩ | ⟨rfl, rfl⟩ | ⟨rfl, rfl⟩
        · have HN := Lib.hid (show strL (lenK a d e 0) ++ ⟨#[32]⟩ ++ ⟨(Lib.itoa a).toArray⟩ = strL (lenK a d e 1) by rw [strL_snocs, lenK_succ a d e 0 (by omega)]; rfl)
          obtain ⟨tx, htx⟩ : ∃ tx : ByteArray, tx = ⟨(Lib.itoa a).toArray⟩ := ⟨_, rfl⟩
          have htz : tx.size ≤ 21 := by rw [htx]; show (Lib.itoa a).toArray.size ≤ 21; rw [List.size_toArray]; exact small_itoa (by omega) (by omega)
          have HF := Lib.hid (fun w => specFmtInt_any a w (by omega) (by omega))
          rw [← htx] at HF HN
          clear htx
          go_wp2_with fail
          refine (HF.out _).mono ?_
          rintro e' w2 ⟨rfl, hb2⟩
          have HB2 := Lib.hid (HBr.out.trans (hb2.mono HBr.out.size))
          clear hb2
          go_wp2_with fail
          go_roundw
          case rel => exact ⟨1, by omega, Or.inr (Or.inl ⟨rfl, rfl⟩), congrArg Value.string HN.out, HB2.out⟩
          case measure => simp [intOf]
        · have HN := Lib.hid (show strL (lenK a d e 1) ++ ⟨#[32]⟩ ++ ⟨(Lib.itoa d).toArray⟩ = strL (lenK a d e 2) by rw [strL_snocs, lenK_succ a d e 1 (by omega)]; rfl)
          obtain ⟨tx, htx⟩ : ∃ tx : ByteArray, tx = ⟨(Lib.itoa d).toArray⟩ := ⟨_, rfl⟩
          have htz : tx.size ≤ 21 := by rw [htx]; show (Lib.itoa d).toArray.size ≤ 21; rw [List.size_toArray]; exact small_itoa (by omega) (by omega)
          have HF := Lib.hid (fun w => specFmtInt_any d w (by omega) (by omega))
          rw [← htx] at HF HN
          clear htx
          go_wp2_with fail
          refine (HF.out _).mono ?_
          rintro e' w2 ⟨rfl, hb2⟩
          have HB2 := Lib.hid (HBr.out.trans (hb2.mono HBr.out.size))
          clear hb2
          go_wp2_with fail
          go_roundw
          case rel => exact ⟨2, by omega, Or.inr (Or.inr (Or.inl ⟨rfl, rfl⟩)), congrArg Value.string HN.out, HB2.out⟩
          case measure => simp [intOf]
        · have HN := Lib.hid (show strL (lenK a d e 2) ++ ⟨#[32]⟩ ++ ⟨(Lib.itoa e).toArray⟩ = strL (lenK a d e 3) by rw [strL_snocs, lenK_succ a d e 2 (by omega)]; rfl)
          obtain ⟨tx, htx⟩ : ∃ tx : ByteArray, tx = ⟨(Lib.itoa e).toArray⟩ := ⟨_, rfl⟩
          have htz : tx.size ≤ 21 := by rw [htx]; show (Lib.itoa e).toArray.size ≤ 21; rw [List.size_toArray]; exact small_itoa (by omega) (by omega)
          have HF := Lib.hid (fun w => specFmtInt_any e w (by omega) (by omega))
          rw [← htx] at HF HN
          clear htx
          go_wp2_with fail
          refine (HF.out _).mono ?_
          rintro e' w2 ⟨rfl, hb2⟩
          have HB2 := Lib.hid (HBr.out.trans (hb2.mono HBr.out.size))
          clear hb2
          go_wp2_with fail
          go_roundw
          case rel => exact ⟨3, by omega, Or.inr (Or.inr (Or.inr (⟨rfl, rfl⟩))), congrArg Value.string HN.out, HB2.out⟩
          case measure => simp [intOf]
        · go_wp2_with fail
          refine (HFb.out _).mono ?_
          rintro e' w2 ⟨rfl, hb2⟩
          have HB2 := Lib.hid (HBr.out.trans (hb2.mono HBr.out.size))
          clear hb2
          go_wp2_with fail
          go_ret
          exact ⟨congrArg (fun z => Ending.returned (.string z)) HR.out, HB0.out.trans (HB2.out.mono HB0.out.size)⟩
end Go.Proofs.YtjjjdieljljcoaaGreatDoor

/-
  What an assertion finds at each of the nine forms.
-/
namespace Go.Proofs.YtjjjdieljljcoaaGreatDoor
open Go.RowKit
theorem no_noneForm (t : TypeId) (v : Value) (w : World) (h : t ≠ 201) : (Instr.typeAssert (.iface t v) 160 201 true).run Tryz.prog w = .ok (.tuple #[.agg #[], .bool false]) w := by
  simp [Instr.typeAssert, run_underlying Tryz.underlying201, h, go_sem, Result.andThen, Tryz.zeroValue201]
theorem yes_noneForm (v : Value) (w : World) : (Instr.typeAssert (.iface 201 v) 160 201 true).run Tryz.prog w = .ok (.tuple #[v, .bool true]) w := by
  simp [Instr.typeAssert, run_underlying Tryz.underlying201, go_sem, Result.andThen]
theorem no_emptyForm (t : TypeId) (v : Value) (w : World) (h : t ≠ 165) : (Instr.typeAssert (.iface t v) 160 165 true).run Tryz.prog w = .ok (.tuple #[.agg #[], .bool false]) w := by
  simp [Instr.typeAssert, run_underlying Tryz.underlying165, h, go_sem, Result.andThen, Tryz.zeroValue165]
theorem yes_emptyForm (v : Value) (w : World) : (Instr.typeAssert (.iface 165 v) 160 165 true).run Tryz.prog w = .ok (.tuple #[v, .bool true]) w := by
  simp [Instr.typeAssert, run_underlying Tryz.underlying165, go_sem, Result.andThen]
theorem no_letterForm (t : TypeId) (v : Value) (w : World) (h : t ≠ 167) : (Instr.typeAssert (.iface t v) 160 167 true).run Tryz.prog w = .ok (.tuple #[.agg #[.string ⟨#[]⟩], .bool false]) w := by
  simp [Instr.typeAssert, run_underlying Tryz.underlying167, h, go_sem, Result.andThen, Tryz.zeroValue167]
theorem yes_letterForm (v : Value) (w : World) : (Instr.typeAssert (.iface 167 v) 160 167 true).run Tryz.prog w = .ok (.tuple #[v, .bool true]) w := by
  simp [Instr.typeAssert, run_underlying Tryz.underlying167, go_sem, Result.andThen]
theorem no_anyForm (t : TypeId) (v : Value) (w : World) (h : t ≠ 168) : (Instr.typeAssert (.iface t v) 160 168 true).run Tryz.prog w = .ok (.tuple #[.agg #[], .bool false]) w := by
  simp [Instr.typeAssert, run_underlying Tryz.underlying168, h, go_sem, Result.andThen, Tryz.zeroValue168]
theorem yes_anyForm (v : Value) (w : World) : (Instr.typeAssert (.iface 168 v) 160 168 true).run Tryz.prog w = .ok (.tuple #[v, .bool true]) w := by
  simp [Instr.typeAssert, run_underlying Tryz.underlying168, go_sem, Result.andThen]
theorem no_catForm (t : TypeId) (v : Value) (w : World) (h : t ≠ 172) : (Instr.typeAssert (.iface t v) 160 172 true).run Tryz.prog w = .ok (.tuple #[.agg #[.int .i64 0, .string ⟨#[]⟩, .slice none 0 0, .int .i64 0, .string ⟨#[]⟩, .slice none 0 0], .bool false]) w := by
  simp [Instr.typeAssert, run_underlying Tryz.underlying172, h, go_sem, Result.andThen, Tryz.zeroValue172]
theorem yes_catForm (v : Value) (w : World) : (Instr.typeAssert (.iface 172 v) 160 172 true).run Tryz.prog w = .ok (.tuple #[v, .bool true]) w := by
  simp [Instr.typeAssert, run_underlying Tryz.underlying172, go_sem, Result.andThen]
theorem no_orForm (t : TypeId) (v : Value) (w : World) (h : t ≠ 174) : (Instr.typeAssert (.iface t v) 160 174 true).run Tryz.prog w = .ok (.tuple #[.agg #[.int .i64 0, .string ⟨#[]⟩, .slice none 0 0, .int .i64 0, .string ⟨#[]⟩, .slice none 0 0], .bool false]) w := by
  simp [Instr.typeAssert, run_underlying Tryz.underlying174, h, go_sem, Result.andThen, Tryz.zeroValue174]
theorem yes_orForm (v : Value) (w : World) : (Instr.typeAssert (.iface 174 v) 160 174 true).run Tryz.prog w = .ok (.tuple #[v, .bool true]) w := by
  simp [Instr.typeAssert, run_underlying Tryz.underlying174, go_sem, Result.andThen]
theorem no_andForm (t : TypeId) (v : Value) (w : World) (h : t ≠ 175) : (Instr.typeAssert (.iface t v) 160 175 true).run Tryz.prog w = .ok (.tuple #[.agg #[.int .i64 0, .string ⟨#[]⟩, .slice none 0 0, .int .i64 0, .string ⟨#[]⟩, .slice none 0 0], .bool false]) w := by
  simp [Instr.typeAssert, run_underlying Tryz.underlying175, h, go_sem, Result.andThen, Tryz.zeroValue175]
theorem yes_andForm (v : Value) (w : World) : (Instr.typeAssert (.iface 175 v) 160 175 true).run Tryz.prog w = .ok (.tuple #[v, .bool true]) w := by
  simp [Instr.typeAssert, run_underlying Tryz.underlying175, go_sem, Result.andThen]
theorem no_starForm (t : TypeId) (v : Value) (w : World) (h : t ≠ 179) : (Instr.typeAssert (.iface t v) 160 179 true).run Tryz.prog w = .ok (.tuple #[.agg #[.int .i64 0, .string ⟨#[]⟩, .slice none 0 0], .bool false]) w := by
  simp [Instr.typeAssert, run_underlying Tryz.underlying179, h, go_sem, Result.andThen, Tryz.zeroValue179]
theorem yes_starForm (v : Value) (w : World) : (Instr.typeAssert (.iface 179 v) 160 179 true).run Tryz.prog w = .ok (.tuple #[v, .bool true]) w := by
  simp [Instr.typeAssert, run_underlying Tryz.underlying179, go_sem, Result.andThen]
theorem no_notForm (t : TypeId) (v : Value) (w : World) (h : t ≠ 181) : (Instr.typeAssert (.iface t v) 160 181 true).run Tryz.prog w = .ok (.tuple #[.agg #[.int .i64 0, .string ⟨#[]⟩, .slice none 0 0], .bool false]) w := by
  simp [Instr.typeAssert, run_underlying Tryz.underlying181, h, go_sem, Result.andThen, Tryz.zeroValue181]
theorem yes_notForm (v : Value) (w : World) : (Instr.typeAssert (.iface 181 v) 160 181 true).run Tryz.prog w = .ok (.tuple #[v, .bool true]) w := by
  simp [Instr.typeAssert, run_underlying Tryz.underlying181, go_sem, Result.andThen]
end Go.Proofs.YtjjjdieljljcoaaGreatDoor

/-
  What impl.textOf and impl.FormatRegex answer: the representation of an expression.
-/
namespace Go.Proofs.YtjjjdieljljcoaaGreatDoor
open Go.RowKit
/-- A part's call, among the cells of both. -/
theorem two_kid {w W1 W : World} {k1 k2 : Int} {l1 l2 : ByteArray} {A1 A2 : Option Addr} {m1 m2 c1 c2 : Nat} {v : Value} {s : ByteArray}
    (hI : ∀ W, Below w.heap.size w W → Calls Tryz.prog 163 #[v] W fun e W' => e = .returned (.string s) ∧ Below W.heap.size W W') (hw : Below w.heap.size w W1) (hW : Below W1.heap.size W1 W)
    (hb : W1.cell? ⟨w.heap.size, 0, none⟩ = some (.int .i64 k1) ∧ W1.cell? ⟨w.heap.size, 1, none⟩ = some (.string l1) ∧ W1.cell? ⟨w.heap.size, 2, none⟩ = some (.slice A1 m1 c1) ∧ W1.cell? ⟨w.heap.size, 3, none⟩ = some (.int .i64 k2) ∧ W1.cell? ⟨w.heap.size, 4, none⟩ = some (.string l2) ∧ W1.cell? ⟨w.heap.size, 5, none⟩ = some (.slice A2 m2 c2)) (hz : w.heap.size < W1.heap.size) :
    Calls Tryz.prog 163 #[v] W fun e w' => e = .returned (.string s) ∧ w'.cell? ⟨w.heap.size, 0, none⟩ = some (.int .i64 k1) ∧ w'.cell? ⟨w.heap.size, 1, none⟩ = some (.string l1) ∧ w'.cell? ⟨w.heap.size, 2, none⟩ = some (.slice A1 m1 c1) ∧ w'.cell? ⟨w.heap.size, 3, none⟩ = some (.int .i64 k2) ∧ w'.cell? ⟨w.heap.size, 4, none⟩ = some (.string l2) ∧ w'.cell? ⟨w.heap.size, 5, none⟩ = some (.slice A2 m2 c2) ∧ Below W1.heap.size W1 w' :=
  (hI W (hw.trans (hW.mono hw.size))).mono fun _ _ ⟨he, hb2⟩ => by
    have h := hW.trans (hb2.mono hW.size)
    exact ⟨he, (h.cell (p := ⟨w.heap.size, 0, none⟩) hz).trans hb.1, (h.cell (p := ⟨w.heap.size, 1, none⟩) hz).trans hb.2.1, (h.cell (p := ⟨w.heap.size, 2, none⟩) hz).trans hb.2.2.1, (h.cell (p := ⟨w.heap.size, 3, none⟩) hz).trans hb.2.2.2.1, (h.cell (p := ⟨w.heap.size, 4, none⟩) hz).trans hb.2.2.2.2.1, (h.cell (p := ⟨w.heap.size, 5, none⟩) hz).trans hb.2.2.2.2.2, h⟩
set_option maxRecDepth 100000 in
set_option maxHeartbeats 1600000 in
theorem textTwo (k1 k2 : Int) (l1 l2 : ByteArray) (A1 A2 : Option Addr) (m1 m2 c1 c2 : Nat) (x y sg : ByteArray) (w : World)
    (hI : ∀ W, Below w.heap.size w W → Calls Tryz.prog 163 #[.agg #[.int .i64 k1, .string l1, .slice A1 m1 c1]] W fun e W' => e = .returned (.string x) ∧ Below W.heap.size W W')
    (hI2 : ∀ W, Below w.heap.size w W → Calls Tryz.prog 163 #[.agg #[.int .i64 k2, .string l2, .slice A2 m2 c2]] W fun e W' => e = .returned (.string y) ∧ Below W.heap.size W W')
    (hx : x.size ≤ 8388608) (hy : y.size ≤ 8388608) (hs : sg.size ≤ 1) :
    Calls Tryz.prog 188 #[.agg #[.int .i64 k1, .string l1, .slice A1 m1 c1, .int .i64 k2, .string l2, .slice A2 m2 c2], .string sg] w fun e w' => e = .returned (.string ((((⟨#[40]⟩ ++ x) ++ sg) ++ y) ++ ⟨#[41]⟩)) ∧ Below w.heap.size w w' := by
  have HI := Lib.hid hI
  have HI2 := Lib.hid hI2
  have HB0 := Lib.hid ((Below.refl w.heap.size w).alloc (Nat.le_refl _) (.cells #[.int .i64 k1, .string l1, .slice A1 m1 c1, .int .i64 k2, .string l2, .slice A2 m2 c2] 170))
  clear hI hI2
  go_enter Tryz.func188, Tryz.ntmps188
  go_wp2_with fail
  obtain ⟨W1, hW1⟩ : ∃ W1, W1 = w.alloc (.cells #[.int .i64 k1, .string l1, .slice A1 m1 c1, .int .i64 k2, .string l2, .slice A2 m2 c2] 170) := ⟨_, rfl⟩
  rw [← hW1]
  have hb1 : Below w.heap.size w W1 := by rw [hW1]; exact HB0.out
  have hz : w.heap.size < W1.heap.size := by rw [hW1]; simp
  have hcs : W1.cell? ⟨w.heap.size, 0, none⟩ = some (.int .i64 k1) ∧ W1.cell? ⟨w.heap.size, 1, none⟩ = some (.string l1) ∧ W1.cell? ⟨w.heap.size, 2, none⟩ = some (.slice A1 m1 c1) ∧ W1.cell? ⟨w.heap.size, 3, none⟩ = some (.int .i64 k2) ∧ W1.cell? ⟨w.heap.size, 4, none⟩ = some (.string l2) ∧ W1.cell? ⟨w.heap.size, 5, none⟩ = some (.slice A2 m2 c2) := by rw [hW1]; exact ⟨by simp, by simp, by simp, by simp, by simp, by simp⟩
  have HJ := Lib.hid (fun W (h : Below W1.heap.size W1 W) => two_kid HI.out hb1 h hcs hz)
  have HJ2 := Lib.hid (fun W (h : Below W1.heap.size W1 W) => two_kid HI2.out hb1 h hcs hz)
  obtain ⟨b0, b1, b2, b3, b4, b5⟩ := hcs
  have HB1 := Lib.hid hb1
  have HZ := Lib.hid (Nat.le_of_lt hz)
  have hbw : Below W1.heap.size W1 W1 := Below.refl _ _
  clear hW1 hb1 hz
  have q1 : (9223372036854775807 < 1 + x.size) = False := by simp; omega
  have q2 : (9223372036854775807 < 1 + x.size + sg.size) = False := by simp; omega
  have q3 : (9223372036854775807 < 1 + x.size + sg.size + y.size) = False := by simp; omega
  have q4 : (9223372036854775807 < 1 + x.size + sg.size + y.size + 1) = False := by simp; omega
  go_region_held3 (fun w' => w'.cell? ⟨w.heap.size, 0, none⟩ = some (.int .i64 k1) ∧ w'.cell? ⟨w.heap.size, 1, none⟩ = some (.string l1) ∧ w'.cell? ⟨w.heap.size, 2, none⟩ = some (.slice A1 m1 c1) ∧ w'.cell? ⟨w.heap.size, 3, none⟩ = some (.int .i64 k2) ∧ w'.cell? ⟨w.heap.size, 4, none⟩ = some (.string l2) ∧ w'.cell? ⟨w.heap.size, 5, none⟩ = some (.slice A2 m2 c2) ∧ Below W1.heap.size W1 w') (first | exact ⟨b0, b1, b2, b3, b4, b5, hbw.drew⟩ | exact ⟨b0, b1, b2, b3, b4, b5, hbw⟩ | go_keep)
    (first | (go_at_call 163; (with_reducible refine (HJ.out _ ?_).mono ?_); (simp [*]); rintro e w' ⟨rfl, b0, b1, b2, b3, b4, b5, hbw⟩) | (go_at_call 163; (with_reducible refine (HJ2.out _ ?_).mono ?_); (simp [*]); rintro e w' ⟨rfl, b0, b1, b2, b3, b4, b5, hbw⟩))
  have HWf := Lib.hid (HB1.out.trans (hbw.mono HZ.out))
  clear b0 b1 b2 b3 b4 b5 hbw q1 q2 q3 q4
  go_wp2_with fail
  go_ret
  exact ⟨rfl, HWf.out⟩

set_option maxRecDepth 100000 in
set_option maxHeartbeats 1600000 in
theorem text_case_1 (l : ByteArray) (A : Option Addr) (c : Nat) (a : Fr) (w : World) (hnode : nodeOk 1 l 0 = true)  :
    Calls Tryz.prog 163 #[.agg #[.int .i64 1, .string l, .slice A 0 c]] w fun e w' => e = .returned (.string ⟨(nodeTxt 1 l (texts a)).toArray⟩) ∧ Below w.heap.size w w' := by
  have HB0 := Lib.hid ((Below.refl w.heap.size w).alloc (Nat.le_refl _) (.cells #[.int .i64 1, .string l, .slice A 0 c] 26))
  have HI := Lib.hid (fun wr : World => formOf_1 l A c wr (ok_zero hnode (by decide)))
  clear hnode
  have p1 := yes_noneForm
  go_enter Tryz.func163, Tryz.ntmps163
  go_wp2_with fail
  refine (HI.out _).mono ?_
  rintro e w1 ⟨rfl, hb1⟩
  have HB1 := Lib.hid (HB0.out.trans (hb1.mono HB0.out.size))
  clear hb1
  go_wp2_with fail
  go_ret
  exact ⟨rfl, HB1.out.alloc HB1.out.size _⟩

set_option maxRecDepth 100000 in
set_option maxHeartbeats 1600000 in
theorem text_case_2 (l : ByteArray) (A : Option Addr) (c : Nat) (a : Fr) (w : World) (hnode : nodeOk 2 l 0 = true)  :
    Calls Tryz.prog 163 #[.agg #[.int .i64 2, .string l, .slice A 0 c]] w fun e w' => e = .returned (.string ⟨(nodeTxt 2 l (texts a)).toArray⟩) ∧ Below w.heap.size w w' := by
  have HB0 := Lib.hid ((Below.refl w.heap.size w).alloc (Nat.le_refl _) (.cells #[.int .i64 2, .string l, .slice A 0 c] 26))
  have HI := Lib.hid (fun wr : World => formOf_2 l A c wr (ok_zero hnode (by decide)))
  clear hnode
  have q1 := no_noneForm
  have p2 := yes_emptyForm
  go_enter Tryz.func163, Tryz.ntmps163
  go_wp2_with fail
  refine (HI.out _).mono ?_
  rintro e w1 ⟨rfl, hb1⟩
  have HB1 := Lib.hid (HB0.out.trans (hb1.mono HB0.out.size))
  clear hb1
  go_wp2_with fail
  go_ret
  exact ⟨rfl, HB1.out.alloc HB1.out.size _⟩

set_option maxRecDepth 100000 in
set_option maxHeartbeats 1600000 in
theorem text_case_3 (l : ByteArray) (A : Option Addr) (c : Nat) (a : Fr) (w : World) (hnode : nodeOk 3 l 0 = true)  :
    Calls Tryz.prog 163 #[.agg #[.int .i64 3, .string l, .slice A 0 c]] w fun e w' => e = .returned (.string ⟨(nodeTxt 3 l (texts a)).toArray⟩) ∧ Below w.heap.size w w' := by
  have HB0 := Lib.hid ((Below.refl w.heap.size w).alloc (Nat.le_refl _) (.cells #[.int .i64 3, .string l, .slice A 0 c] 26))
  have HI := Lib.hid (fun wr : World => formOf_letter l A c wr (ok_letter hnode).1 (ok_letter hnode).2)
  clear hnode
  have q1 := no_noneForm
  have q2 := no_emptyForm
  have p3 := yes_letterForm
  go_enter Tryz.func163, Tryz.ntmps163
  go_wp2_with fail
  refine (HI.out _).mono ?_
  rintro e w1 ⟨rfl, hb1⟩
  have HB1 := Lib.hid (HB0.out.trans (hb1.mono HB0.out.size))
  clear hb1
  go_wp2_with fail
  go_ret
  exact ⟨by simp [nodeTxt], HB1.out.alloc HB1.out.size _⟩

set_option maxRecDepth 100000 in
set_option maxHeartbeats 1600000 in
theorem text_case_4 (l : ByteArray) (A : Option Addr) (c : Nat) (a : Fr) (w : World) (hnode : nodeOk 4 l 0 = true)  :
    Calls Tryz.prog 163 #[.agg #[.int .i64 4, .string l, .slice A 0 c]] w fun e w' => e = .returned (.string ⟨(nodeTxt 4 l (texts a)).toArray⟩) ∧ Below w.heap.size w w' := by
  have HB0 := Lib.hid ((Below.refl w.heap.size w).alloc (Nat.le_refl _) (.cells #[.int .i64 4, .string l, .slice A 0 c] 26))
  have HI := Lib.hid (fun wr : World => formOf_4 l A c wr (ok_zero hnode (by decide)))
  clear hnode
  have q1 := no_noneForm
  have q2 := no_emptyForm
  have q3 := no_letterForm
  have p4 := yes_anyForm
  go_enter Tryz.func163, Tryz.ntmps163
  go_wp2_with fail
  refine (HI.out _).mono ?_
  rintro e w1 ⟨rfl, hb1⟩
  have HB1 := Lib.hid (HB0.out.trans (hb1.mono HB0.out.size))
  clear hb1
  go_wp2_with fail
  go_ret
  exact ⟨rfl, HB1.out.alloc HB1.out.size _⟩

set_option maxRecDepth 100000 in
set_option maxHeartbeats 1600000 in
theorem text_case_5 (l : ByteArray) (A : Option Addr) (c : Nat) (a : Fr) (w : World) (hnode : nodeOk 5 l 2 = true) (hkid : ∀ j, j < 2 → ∃ g o k' l' A' m' c', A = some ⟨g, o, none⟩ ∧ g < w.heap.size ∧ ElAt w g (o + j * 3) k' l' (.slice A' m' c') ∧ ((texts a).getD j []).length ≤ 8388608 ∧
        ∀ W, Below w.heap.size w W → Calls Tryz.prog 163 #[.agg #[.int .i64 k', .string l', .slice A' m' c']] W fun e W' => e = .returned (.string ⟨((texts a).getD j []).toArray⟩) ∧ Below W.heap.size W W') :
    Calls Tryz.prog 163 #[.agg #[.int .i64 5, .string l, .slice A 2 c]] w fun e w' => e = .returned (.string ⟨(nodeTxt 5 l (texts a)).toArray⟩) ∧ Below w.heap.size w w' := by
  have HB0 := Lib.hid ((Below.refl w.heap.size w).alloc (Nat.le_refl _) (.cells #[.int .i64 5, .string l, .slice A 2 c] 26))
  obtain ⟨g, o, k1, l1, A1, m1, c1, rfl, hg, he, hlen, hI⟩ := hkid 0 (by omega)
  obtain ⟨g2, o2, k2, l2, A2, m2, c2, hA2, _, he2, hlen2, hI2⟩ := hkid 1 (by omega)
  cases hA2
  rw [Nat.zero_mul, Nat.add_zero] at he
  rw [Nat.one_mul] at he2
  have HF := Lib.hid (fun wr (hb : Below w.heap.size w wr) => formOf_5 l g o c k1 k2 l1 l2 (.slice A1 m1 c1) (.slice A2 m2 c2) wr (ok_zero hnode (by decide)) (Nat.lt_of_lt_of_le hg hb.size) (he.below hb hg) (he2.below hb hg))
  obtain ⟨x, hx⟩ : ∃ x : ByteArray, x = ⟨((texts a).getD 0 []).toArray⟩ := ⟨_, rfl⟩
  have hxs : x.size ≤ 8388608 := by rw [hx]; exact hlen
  obtain ⟨y, hy⟩ : ∃ y : ByteArray, y = ⟨((texts a).getD 1 []).toArray⟩ := ⟨_, rfl⟩
  have hys : y.size ≤ 8388608 := by rw [hy]; exact hlen2
  rw [← hx] at hI
  rw [← hy] at hI2
  have HX := Lib.hid hx
  have HY := Lib.hid hy
  have HT := Lib.hid (fun wr (hb : Below w.heap.size w wr) => textTwo k1 k2 l1 l2 A1 A2 m1 m2 c1 c2 x y ⟨#[]⟩ wr (fun W h => hI W (hb.trans (h.mono hb.size))) (fun W h => hI2 W (hb.trans (h.mono hb.size))) hxs hys (by decide))
  clear hkid he he2 hlen hlen2 hI hI2 hx hy  hnode
  have q1 := no_noneForm
  have q2 := no_emptyForm
  have q3 := no_letterForm
  have q4 := no_anyForm
  have p5 := yes_catForm
  go_enter Tryz.func163, Tryz.ntmps163
  go_wp2_with fail
  refine (HF.out _ HB0.out).mono ?_
  rintro e w1 ⟨rfl, hb1⟩
  have HB1 := Lib.hid (HB0.out.trans (hb1.mono HB0.out.size))
  clear hb1
  go_wp2_with fail
  refine (HT.out _ (HB1.out.alloc HB1.out.size _)).mono ?_
  rintro e w2 ⟨rfl, hb2⟩
  have HB2 := Lib.hid ((HB1.out.alloc HB1.out.size _).trans (hb2.mono (HB1.out.alloc HB1.out.size _).size))
  clear hb2
  go_wp2_with fail
  go_ret
  exact ⟨congrArg (fun s => Ending.returned (.string s)) (str_cat _ _ _ [41] (str_cat _ _ _ _ (str_cat _ _ _ (signOf 5) (str_cat _ _ [40] _ rfl HX.out) rfl) HY.out) rfl), HB2.out⟩

set_option maxRecDepth 100000 in
set_option maxHeartbeats 1600000 in
theorem text_case_6 (l : ByteArray) (A : Option Addr) (c : Nat) (a : Fr) (w : World) (hnode : nodeOk 6 l 2 = true) (hkid : ∀ j, j < 2 → ∃ g o k' l' A' m' c', A = some ⟨g, o, none⟩ ∧ g < w.heap.size ∧ ElAt w g (o + j * 3) k' l' (.slice A' m' c') ∧ ((texts a).getD j []).length ≤ 8388608 ∧
        ∀ W, Below w.heap.size w W → Calls Tryz.prog 163 #[.agg #[.int .i64 k', .string l', .slice A' m' c']] W fun e W' => e = .returned (.string ⟨((texts a).getD j []).toArray⟩) ∧ Below W.heap.size W W') :
    Calls Tryz.prog 163 #[.agg #[.int .i64 6, .string l, .slice A 2 c]] w fun e w' => e = .returned (.string ⟨(nodeTxt 6 l (texts a)).toArray⟩) ∧ Below w.heap.size w w' := by
  have HB0 := Lib.hid ((Below.refl w.heap.size w).alloc (Nat.le_refl _) (.cells #[.int .i64 6, .string l, .slice A 2 c] 26))
  obtain ⟨g, o, k1, l1, A1, m1, c1, rfl, hg, he, hlen, hI⟩ := hkid 0 (by omega)
  obtain ⟨g2, o2, k2, l2, A2, m2, c2, hA2, _, he2, hlen2, hI2⟩ := hkid 1 (by omega)
  cases hA2
  rw [Nat.zero_mul, Nat.add_zero] at he
  rw [Nat.one_mul] at he2
  have HF := Lib.hid (fun wr (hb : Below w.heap.size w wr) => formOf_6 l g o c k1 k2 l1 l2 (.slice A1 m1 c1) (.slice A2 m2 c2) wr (ok_zero hnode (by decide)) (Nat.lt_of_lt_of_le hg hb.size) (he.below hb hg) (he2.below hb hg))
  obtain ⟨x, hx⟩ : ∃ x : ByteArray, x = ⟨((texts a).getD 0 []).toArray⟩ := ⟨_, rfl⟩
  have hxs : x.size ≤ 8388608 := by rw [hx]; exact hlen
  obtain ⟨y, hy⟩ : ∃ y : ByteArray, y = ⟨((texts a).getD 1 []).toArray⟩ := ⟨_, rfl⟩
  have hys : y.size ≤ 8388608 := by rw [hy]; exact hlen2
  rw [← hx] at hI
  rw [← hy] at hI2
  have HX := Lib.hid hx
  have HY := Lib.hid hy
  have HT := Lib.hid (fun wr (hb : Below w.heap.size w wr) => textTwo k1 k2 l1 l2 A1 A2 m1 m2 c1 c2 x y ⟨#[124]⟩ wr (fun W h => hI W (hb.trans (h.mono hb.size))) (fun W h => hI2 W (hb.trans (h.mono hb.size))) hxs hys (by decide))
  clear hkid he he2 hlen hlen2 hI hI2 hx hy  hnode
  have q1 := no_noneForm
  have q2 := no_emptyForm
  have q3 := no_letterForm
  have q4 := no_anyForm
  have q5 := no_catForm
  have p6 := yes_orForm
  go_enter Tryz.func163, Tryz.ntmps163
  go_wp2_with fail
  refine (HF.out _ HB0.out).mono ?_
  rintro e w1 ⟨rfl, hb1⟩
  have HB1 := Lib.hid (HB0.out.trans (hb1.mono HB0.out.size))
  clear hb1
  go_wp2_with fail
  refine (HT.out _ (HB1.out.alloc HB1.out.size _)).mono ?_
  rintro e w2 ⟨rfl, hb2⟩
  have HB2 := Lib.hid ((HB1.out.alloc HB1.out.size _).trans (hb2.mono (HB1.out.alloc HB1.out.size _).size))
  clear hb2
  go_wp2_with fail
  go_ret
  exact ⟨congrArg (fun s => Ending.returned (.string s)) (str_cat _ _ _ [41] (str_cat _ _ _ _ (str_cat _ _ _ (signOf 6) (str_cat _ _ [40] _ rfl HX.out) rfl) HY.out) rfl), HB2.out⟩

set_option maxRecDepth 100000 in
set_option maxHeartbeats 1600000 in
theorem text_case_7 (l : ByteArray) (A : Option Addr) (c : Nat) (a : Fr) (w : World) (hnode : nodeOk 7 l 2 = true) (hkid : ∀ j, j < 2 → ∃ g o k' l' A' m' c', A = some ⟨g, o, none⟩ ∧ g < w.heap.size ∧ ElAt w g (o + j * 3) k' l' (.slice A' m' c') ∧ ((texts a).getD j []).length ≤ 8388608 ∧
        ∀ W, Below w.heap.size w W → Calls Tryz.prog 163 #[.agg #[.int .i64 k', .string l', .slice A' m' c']] W fun e W' => e = .returned (.string ⟨((texts a).getD j []).toArray⟩) ∧ Below W.heap.size W W') :
    Calls Tryz.prog 163 #[.agg #[.int .i64 7, .string l, .slice A 2 c]] w fun e w' => e = .returned (.string ⟨(nodeTxt 7 l (texts a)).toArray⟩) ∧ Below w.heap.size w w' := by
  have HB0 := Lib.hid ((Below.refl w.heap.size w).alloc (Nat.le_refl _) (.cells #[.int .i64 7, .string l, .slice A 2 c] 26))
  obtain ⟨g, o, k1, l1, A1, m1, c1, rfl, hg, he, hlen, hI⟩ := hkid 0 (by omega)
  obtain ⟨g2, o2, k2, l2, A2, m2, c2, hA2, _, he2, hlen2, hI2⟩ := hkid 1 (by omega)
  cases hA2
  rw [Nat.zero_mul, Nat.add_zero] at he
  rw [Nat.one_mul] at he2
  have HF := Lib.hid (fun wr (hb : Below w.heap.size w wr) => formOf_7 l g o c k1 k2 l1 l2 (.slice A1 m1 c1) (.slice A2 m2 c2) wr (ok_zero hnode (by decide)) (Nat.lt_of_lt_of_le hg hb.size) (he.below hb hg) (he2.below hb hg))
  obtain ⟨x, hx⟩ : ∃ x : ByteArray, x = ⟨((texts a).getD 0 []).toArray⟩ := ⟨_, rfl⟩
  have hxs : x.size ≤ 8388608 := by rw [hx]; exact hlen
  obtain ⟨y, hy⟩ : ∃ y : ByteArray, y = ⟨((texts a).getD 1 []).toArray⟩ := ⟨_, rfl⟩
  have hys : y.size ≤ 8388608 := by rw [hy]; exact hlen2
  rw [← hx] at hI
  rw [← hy] at hI2
  have HX := Lib.hid hx
  have HY := Lib.hid hy
  have HT := Lib.hid (fun wr (hb : Below w.heap.size w wr) => textTwo k1 k2 l1 l2 A1 A2 m1 m2 c1 c2 x y ⟨#[38]⟩ wr (fun W h => hI W (hb.trans (h.mono hb.size))) (fun W h => hI2 W (hb.trans (h.mono hb.size))) hxs hys (by decide))
  clear hkid he he2 hlen hlen2 hI hI2 hx hy  hnode
  have q1 := no_noneForm
  have q2 := no_emptyForm
  have q3 := no_letterForm
  have q4 := no_anyForm
  have q5 := no_catForm
  have q6 := no_orForm
  have p7 := yes_andForm
  go_enter Tryz.func163, Tryz.ntmps163
  go_wp2_with fail
  refine (HF.out _ HB0.out).mono ?_
  rintro e w1 ⟨rfl, hb1⟩
  have HB1 := Lib.hid (HB0.out.trans (hb1.mono HB0.out.size))
  clear hb1
  go_wp2_with fail
  refine (HT.out _ (HB1.out.alloc HB1.out.size _)).mono ?_
  rintro e w2 ⟨rfl, hb2⟩
  have HB2 := Lib.hid ((HB1.out.alloc HB1.out.size _).trans (hb2.mono (HB1.out.alloc HB1.out.size _).size))
  clear hb2
  go_wp2_with fail
  go_ret
  exact ⟨congrArg (fun s => Ending.returned (.string s)) (str_cat _ _ _ [41] (str_cat _ _ _ _ (str_cat _ _ _ (signOf 7) (str_cat _ _ [40] _ rfl HX.out) rfl) HY.out) rfl), HB2.out⟩

set_option maxRecDepth 100000 in
set_option maxHeartbeats 1600000 in
theorem text_case_8 (l : ByteArray) (A : Option Addr) (c : Nat) (a : Fr) (w : World) (hnode : nodeOk 8 l 1 = true) (hkid : ∀ j, j < 1 → ∃ g o k' l' A' m' c', A = some ⟨g, o, none⟩ ∧ g < w.heap.size ∧ ElAt w g (o + j * 3) k' l' (.slice A' m' c') ∧ ((texts a).getD j []).length ≤ 8388608 ∧
        ∀ W, Below w.heap.size w W → Calls Tryz.prog 163 #[.agg #[.int .i64 k', .string l', .slice A' m' c']] W fun e W' => e = .returned (.string ⟨((texts a).getD j []).toArray⟩) ∧ Below W.heap.size W W') :
    Calls Tryz.prog 163 #[.agg #[.int .i64 8, .string l, .slice A 1 c]] w fun e w' => e = .returned (.string ⟨(nodeTxt 8 l (texts a)).toArray⟩) ∧ Below w.heap.size w w' := by
  have HB0 := Lib.hid ((Below.refl w.heap.size w).alloc (Nat.le_refl _) (.cells #[.int .i64 8, .string l, .slice A 1 c] 26))
  obtain ⟨g, o, k', l', A', m', c', rfl, hg, he, hlen, hI⟩ := hkid 0 (by omega)
  rw [Nat.zero_mul, Nat.add_zero] at he
  have HF := Lib.hid (fun wr (hb : Below w.heap.size w wr) => formOf_8 l g o c k' l' (.slice A' m' c') wr (ok_zero hnode (by decide)) (Nat.lt_of_lt_of_le hg hb.size) (he.below hb hg))
  have HI := Lib.hid hI
  obtain ⟨x, hx⟩ : ∃ x : ByteArray, x = ⟨((texts a).getD 0 []).toArray⟩ := ⟨_, rfl⟩
  have hxs : x.size ≤ 8388608 := by rw [hx]; exact hlen
  rw [← hx] at HI
  have HX := Lib.hid hx
  clear hkid he hlen hI hx hnode
  have q1 := no_noneForm
  have q2 := no_emptyForm
  have q3 := no_letterForm
  have q4 := no_anyForm
  have q5 := no_catForm
  have q6 := no_orForm
  have q7 := no_andForm
  have p8 := yes_starForm
  go_enter Tryz.func163, Tryz.ntmps163
  go_wp2_with fail
  refine (HF.out _ HB0.out).mono ?_
  rintro e w1 ⟨rfl, hb1⟩
  have HB1 := Lib.hid (HB0.out.trans (hb1.mono HB0.out.size))
  clear hb1
  go_wp2_with fail
  refine (HI.out _ (HB1.out.alloc HB1.out.size _)).mono ?_
  rintro e w2 ⟨rfl, hb2⟩
  have HB2 := Lib.hid ((HB1.out.alloc HB1.out.size _).trans (hb2.mono (HB1.out.alloc HB1.out.size _).size))
  clear hb2
  go_wp2_with fail
  go_ret
  exact ⟨congrArg (fun s => Ending.returned (.string s)) (str_cat _ _ [42] _ rfl HX.out), HB2.out⟩

set_option maxRecDepth 100000 in
set_option maxHeartbeats 1600000 in
theorem text_case_9 (l : ByteArray) (A : Option Addr) (c : Nat) (a : Fr) (w : World) (hnode : nodeOk 9 l 1 = true) (hkid : ∀ j, j < 1 → ∃ g o k' l' A' m' c', A = some ⟨g, o, none⟩ ∧ g < w.heap.size ∧ ElAt w g (o + j * 3) k' l' (.slice A' m' c') ∧ ((texts a).getD j []).length ≤ 8388608 ∧
        ∀ W, Below w.heap.size w W → Calls Tryz.prog 163 #[.agg #[.int .i64 k', .string l', .slice A' m' c']] W fun e W' => e = .returned (.string ⟨((texts a).getD j []).toArray⟩) ∧ Below W.heap.size W W') :
    Calls Tryz.prog 163 #[.agg #[.int .i64 9, .string l, .slice A 1 c]] w fun e w' => e = .returned (.string ⟨(nodeTxt 9 l (texts a)).toArray⟩) ∧ Below w.heap.size w w' := by
  have HB0 := Lib.hid ((Below.refl w.heap.size w).alloc (Nat.le_refl _) (.cells #[.int .i64 9, .string l, .slice A 1 c] 26))
  obtain ⟨g, o, k', l', A', m', c', rfl, hg, he, hlen, hI⟩ := hkid 0 (by omega)
  rw [Nat.zero_mul, Nat.add_zero] at he
  have HF := Lib.hid (fun wr (hb : Below w.heap.size w wr) => formOf_9 l g o c k' l' (.slice A' m' c') wr (ok_zero hnode (by decide)) (Nat.lt_of_lt_of_le hg hb.size) (he.below hb hg))
  have HI := Lib.hid hI
  obtain ⟨x, hx⟩ : ∃ x : ByteArray, x = ⟨((texts a).getD 0 []).toArray⟩ := ⟨_, rfl⟩
  have hxs : x.size ≤ 8388608 := by rw [hx]; exact hlen
  rw [← hx] at HI
  have HX := Lib.hid hx
  clear hkid he hlen hI hx hnode
  have q1 := no_noneForm
  have q2 := no_emptyForm
  have q3 := no_letterForm
  have q4 := no_anyForm
  have q5 := no_catForm
  have q6 := no_orForm
  have q7 := no_andForm
  have q8 := no_starForm
  have p9 := yes_notForm
  go_enter Tryz.func163, Tryz.ntmps163
  go_wp2_with fail
  refine (HF.out _ HB0.out).mono ?_
  rintro e w1 ⟨rfl, hb1⟩
  have HB1 := Lib.hid (HB0.out.trans (hb1.mono HB0.out.size))
  clear hb1
  go_wp2_with fail
  refine (HI.out _ (HB1.out.alloc HB1.out.size _)).mono ?_
  rintro e w2 ⟨rfl, hb2⟩
  have HB2 := Lib.hid ((HB1.out.alloc HB1.out.size _).trans (hb2.mono (HB1.out.alloc HB1.out.size _).size))
  clear hb2
  go_wp2_with fail
  go_ret
  exact ⟨congrArg (fun s => Ending.returned (.string s)) (str_cat _ _ [33] _ rfl HX.out), HB2.out⟩


theorem implText_any (n : Nat) : ∀ (B : Nat) (k : Int) (l : ByteArray) (u : Value) (a : Fr) (w : World), Sl w B n u a → B ≤ w.heap.size → a.size ≤ 2097152 → (allRow a && nodeOk k l a.items.length) = true →
    Calls Tryz.prog 163 #[.agg #[.int .i64 k, .string l, u]] w fun e w' => e = .returned (.string ⟨(nodeTxt k l (texts a)).toArray⟩) ∧ Below w.heap.size w w' := by
  induction n with
  | zero => intro B k l u a w h; exact h.zero.elim
  | succ n ih =>
    intro B k l u a w hS hB hsz hok
    rw [Bool.and_eq_true] at hok
    obtain ⟨hall, hnode⟩ := hok
    obtain ⟨hl, A, c, rfl, hE⟩ := hS.open
    have hkid : ∀ j, j < a.items.length → ∃ g o k' l' A' m' c', A = some ⟨g, o, none⟩ ∧ g < w.heap.size ∧ ElAt w g (o + j * 3) k' l' (.slice A' m' c') ∧ ((texts a).getD j []).length ≤ 8388608 ∧
        ∀ W, Below w.heap.size w W → Calls Tryz.prog 163 #[.agg #[.int .i64 k', .string l', .slice A' m' c']] W fun e W' => e = .returned (.string ⟨((texts a).getD j []).toArray⟩) ∧ Below W.heap.size W W' := fun j hj => by
      obtain ⟨g, o, hA, hg, k', l', a', u', hx, hls, he, h4⟩ := hE j hj
      obtain ⟨A', c', rfl⟩ := SlP.shape h4
      have hs := Fr.size_item hx
      have hi := item_ok hall hx
      refine ⟨g, o, k', l', A', _, c', hA, Nat.lt_of_lt_of_le hg hB, he, ?_, fun W hW => ?_⟩
      · rw [texts_at hx]
        rw [Bool.and_eq_true] at hi
        have h1 := nodeTxt_le hi.2
        have h2 := texts_le a' hi.1
        omega
      · rw [texts_at hx]
        exact ih B k' l' _ a' W (h4.mono (hW.mono hB) (Nat.le_refl _)) (Nat.le_trans hB hW.size) (by omega) hi
    generalize hm : a.items.length = m at *
    clear hE hS
    rcases nodeOk_cases hnode with ⟨rfl, rfl⟩ | ⟨rfl, rfl⟩ | ⟨rfl, hl1, rfl⟩ | ⟨rfl, rfl⟩ | ⟨rfl, rfl⟩ | ⟨rfl, rfl⟩ | ⟨rfl, rfl⟩ | ⟨rfl, rfl⟩ | ⟨rfl, rfl⟩
    · exact text_case_1 l A c a w hnode
    · exact text_case_2 l A c a w hnode
    · exact text_case_3 l A c a w hnode
    · exact text_case_4 l A c a w hnode
    · exact text_case_5 l A c a w hnode hkid
    · exact text_case_6 l A c a w hnode hkid
    · exact text_case_7 l A c a w hnode hkid
    · exact text_case_8 l A c a w hnode hkid
    · exact text_case_9 l A c a w hnode hkid

set_option maxHeartbeats 800000 in
theorem implFormat_any (n B : Nat) (k : Int) (l : ByteArray) (u : Value) (a : Fr) (w : World) (hS : Sl w B n u a) (hB : B ≤ w.heap.size) (hsz : a.size ≤ 2097152) (hls : l.size ≤ 9223372036854775807) :
    Calls Tryz.prog 129 #[.agg #[.int .i64 k, .string l, u]] w fun e w' => e = .returned (.string ⟨(formatRx k l a).toArray⟩) ∧ Below w.heap.size w w' := by
  have HV := Lib.hid (fun wr (hb : Below w.heap.size w wr) (hz : B ≤ wr.heap.size) => implValid_any n B k l u a wr (hS.mono (hb.mono hB) (Nat.le_refl _)) hz hsz hls)
  have HB0 := Lib.hid ((Below.refl w.heap.size w).alloc (Nat.le_refl _) (.cells #[.int .i64 k, .string l, u] 26))
  cases hv : validRx k l a with
  | true =>
    have HT := Lib.hid (fun wr (hb : Below w.heap.size w wr) (hz : B ≤ wr.heap.size) => implText_any n B k l u a wr (hS.mono (hb.mono hB) (Nat.le_refl _)) hz hsz (valid_ok hv))
    rw [hv] at HV
    have HR : Hid (formatRx k l a = nodeTxt k l (texts a)) := Lib.hid (by unfold formatRx; rw [if_pos hv])
    clear hS hv
    go_enter Tryz.func129, Tryz.ntmps129
    go_wp2_with fail
    refine (HV.out _ HB0.out (by simp; omega)).mono ?_
    rintro e w1 ⟨rfl, hb1⟩
    have hb1' : Below (w.heap.size + 1) (w.alloc (.cells #[.int .i64 k, .string l, u] 26)) w1 := by simpa using hb1
    obtain ⟨c0, c1, c2⟩ := box_cells hb1'
    have hz1 := hb1'.size
    rw [World.size_alloc] at hz1
    have HW1 := Lib.hid (HB0.out.trans (hb1'.mono (Nat.le_succ _)))
    clear hb1 hb1'
    go_wp2_with fail
    refine (HT.out _ HW1.out (by omega)).mono ?_
    rintro e w2 ⟨rfl, hb2⟩
    have HW2 := Lib.hid (HW1.out.trans (hb2.mono (by omega)))
    clear hb2
    go_wp2_with fail
    go_ret
    exact ⟨congrArg (fun s : List UInt8 => Ending.returned (.string ⟨s.toArray⟩)) HR.out.symm, HW2.out⟩
  | false =>
    rw [hv] at HV
    have HR : Hid (formatRx k l a = []) := Lib.hid (by unfold formatRx; rw [if_neg (by rw [hv]; decide)])
    clear hS hv
    go_enter Tryz.func129, Tryz.ntmps129
    go_wp2_with fail
    refine (HV.out _ HB0.out (by simp; omega)).mono ?_
    rintro e w1 ⟨rfl, hb1⟩
    have HW1 := Lib.hid (HB0.out.trans (hb1.mono (by simp)))
    clear hb1
    go_wp2_with fail
    go_ret
    exact ⟨congrArg (fun s : List UInt8 => Ending.returned (.string ⟨s.toArray⟩)) HR.out.symm, HW1.out⟩

end Go.Proofs.YtjjjdieljljcoaaGreatDoor

/-
  What impl's textOfTerm, partsOfTerms, partsWithRegex and partsOfLengths answer.
-/
namespace Go.Proofs.YtjjjdieljljcoaaGreatDoor
open Go.RowKit

set_option maxRecDepth 100000 in
set_option maxHeartbeats 800000 in
theorem implTerm_any (s : ByteArray) (w : World) :
    Calls Tryz.prog 124 #[.string s] w fun e w' => e = .returned (.string (termB s)) ∧ w = w' := by
  by_cases h : s.size = 0
  · have HR := Lib.hid (show termB s = ⟨#[45]⟩ from if_pos h)
    have h' := bytes_nil h
    clear h
    go_enter Tryz.func124, Tryz.ntmps124
    go_wp2
    go_ret
    exact ⟨congrArg (fun z => Ending.returned (.string z)) HR.out.symm, rfl⟩
  · have HR := Lib.hid (show termB s = s from if_neg h)
    have h' := bytes_some h
    have e2 : s.toList.isEmpty = false := by simpa using h'
    clear h
    go_enter Tryz.func124, Tryz.ntmps124
    go_wp2
    go_ret
    exact ⟨congrArg (fun z => Ending.returned (.string z)) HR.out.symm, rfl⟩

/-- Three strings laid anew are a row of three texts. -/
theorem row3 {w V : World} {a b d : ByteArray} {p q r : List UInt8} (hb : Below w.heap.size w V) (ha : a.data.toList = p) (hq : b.data.toList = q) (hd : d.data.toList = r) :
    SplPost [p, q, r] w (.returned (.slice (some ⟨V.heap.size, 0, none⟩) 3 3)) (V.alloc (.cells #[.string a, .string b, .string d] 9)) := by
  refine ⟨_, rfl, ?_, hb.alloc hb.size _⟩
  have := World.ownsRow_lit (base := w.heap.size) (e := 9) (size := 1) V #[.string a, .string b, .string d] 3 hb.size (by unfold maxLen; omega) rfl
  have e1 : ∀ (x : ByteArray) (l : List UInt8), x.data.toList = l → (⟨l.toArray⟩ : ByteArray) = x := fun x l h => bytes_eq (by simpa using h.symm)
  simpa [strs, e1 a p ha, e1 b q hq, e1 d r hd] using this

set_option maxRecDepth 100000 in
set_option maxHeartbeats 1600000 in
theorem partsTerms_any (c : Cx) (xu vc : Value) (sg : ByteArray) (w : World) (h : CnO w xu vc c) :
    Calls Tryz.prog 76 #[.agg #[.int .i64 c.k, .string c.l, .string c.r, .int .i64 c.xk, .string c.xl, xu, vc, .int .i64 c.b], .string sg] w (SplPost [termT c.l.data.toList, sg.data.toList, termT c.r.data.toList] w) := by
  obtain ⟨A, m, B, r, rfl, rfl⟩ := h.shape
  obtain ⟨W, hW⟩ : ∃ W, W = w.alloc (.cells #[.int .i64 c.k, .string c.l, .string c.r, .int .i64 c.xk, .string c.xl, .slice A c.xa.items.length m, .slice B c.cs.length r, .int .i64 c.b] 29) := ⟨_, rfl⟩
  have hb0 : Below w.heap.size w W := by rw [hW]; exact (Below.refl _ _).alloc (Nat.le_refl _) _
  have hbx : BoxC W w.heap.size c (.slice A c.xa.items.length m) (.slice B c.cs.length r) := by rw [hW]; exact boxC_new w c _ _ _
  have HWE := Lib.hid hW
  have HB0 := Lib.hid hb0
  have HCX := Lib.hid (fun (V : World) (hb : Below W.heap.size W V) => (hbx.kept hb).cells)
  have HCN := Lib.hid (fun (V : World) (hb : Below W.heap.size W V) => h.kept (hb0.trans (hb.mono hb0.size)))
  have HTl := Lib.hid (fun w => implTerm_any c.l w)
  have HTr := Lib.hid (fun w => implTerm_any c.r w)
  have HR := Lib.hid (fun (V : World) (hb : Below W.heap.size W V) => row3 (w := w) (V := V) (a := termB c.l) (b := sg) (d := termB c.r) (hb0.trans (hb.mono hb0.size)) (termB_list c.l) rfl (termB_list c.r))
  obtain ⟨tl, htl⟩ : ∃ tl, tl = termB c.l := ⟨_, rfl⟩
  obtain ⟨tr, htr⟩ : ∃ tr, tr = termB c.r := ⟨_, rfl⟩
  rw [← htl] at HTl HR
  rw [← htr] at HTr HR
  have HKB : Hid (∀ V, Below W.heap.size W V → V.cell? ⟨w.heap.size, 1, none⟩ = some (.string c.l) ∧ V.cell? ⟨w.heap.size, 2, none⟩ = some (.string c.r)) := Lib.hid (fun V hb => ⟨(HCX.out V hb).2.1, (HCX.out V hb).2.2.1⟩)
  clear hW hb0 hbx h htl htr
  go_enter Tryz.func76, Tryz.ntmps76
  go_wp2_with fail
  rw [← HWE.out]
  have hbw : Below W.heap.size W W := Below.refl _ _
  go_region_held3 (fun V => V.cell? ⟨w.heap.size, 1, none⟩ = some (.string c.l) ∧ V.cell? ⟨w.heap.size, 2, none⟩ = some (.string c.r)) (with_reducible first | exact HKB.out _ hbw.drew | exact HKB.out _ hbw | exact HKB.out _ (hbw.alloc hbw.size _).drew | exact HKB.out _ (hbw.alloc hbw.size _) | fail) (first | (go_at_call 124; (with_reducible refine (HTl.out _).mono ?_); rintro e1 w4 ⟨rfl, rfl⟩) | (go_at_call 124; (with_reducible refine (HTr.out _).mono ?_); rintro e1 w4 ⟨rfl, rfl⟩))
  all_goals
    have HW := Lib.hid (HR.out _ hbw)
    clear hbw
    go_wp2_with fail
    go_ret
    obtain ⟨v, he, h1, h2⟩ := HW.out
    exact ⟨v, he, h1.drew, h2.drew⟩

set_option maxRecDepth 100000 in
set_option maxHeartbeats 1600000 in
theorem partsRegex_any (c : Cx) (xu vc : Value) (sg : ByteArray) (w : World) (h : CnO w xu vc c) (hsz : c.xa.size ≤ 2097152) :
    Calls Tryz.prog 81 #[.agg #[.int .i64 c.k, .string c.l, .string c.r, .int .i64 c.xk, .string c.xl, xu, vc, .int .i64 c.b], .string sg] w (SplPost [termT c.l.data.toList, sg.data.toList, formatRx c.xk c.xl c.xa] w) := by
  obtain ⟨A, m, B, r, rfl, rfl⟩ := h.shape
  obtain ⟨W, hW⟩ : ∃ W, W = w.alloc (.cells #[.int .i64 c.k, .string c.l, .string c.r, .int .i64 c.xk, .string c.xl, .slice A c.xa.items.length m, .slice B c.cs.length r, .int .i64 c.b] 29) := ⟨_, rfl⟩
  have hb0 : Below w.heap.size w W := by rw [hW]; exact (Below.refl _ _).alloc (Nat.le_refl _) _
  have hbx : BoxC W w.heap.size c (.slice A c.xa.items.length m) (.slice B c.cs.length r) := by rw [hW]; exact boxC_new w c _ _ _
  have HWE := Lib.hid hW
  have HB0 := Lib.hid hb0
  have HCX := Lib.hid (fun (V : World) (hb : Below W.heap.size W V) => (hbx.kept hb).cells)
  have HCN := Lib.hid (fun (V : World) (hb : Below W.heap.size W V) => h.kept (hb0.trans (hb.mono hb0.size)))
  have hx := h.1.2.2
  have HTl := Lib.hid (fun w => implTerm_any c.l w)
  have HF := Lib.hid (fun (V : World) (hb : Below W.heap.size W V) => implFormat_any _ V.heap.size c.xk c.xl (.slice A c.xa.items.length m) c.xa V (HCN.out V hb).read.2.1.choose_spec (Nat.le_refl _) hsz hx)
  obtain ⟨ub, hub⟩ : ∃ ub : ByteArray, ub = ⟨(formatRx c.xk c.xl c.xa).toArray⟩ := ⟨_, rfl⟩
  have HR := Lib.hid (fun (V : World) (hb : Below W.heap.size W V) => row3 (w := w) (V := V) (a := termB c.l) (b := sg) (d := ub) (r := formatRx c.xk c.xl c.xa) (hb0.trans (hb.mono hb0.size)) (termB_list c.l) rfl (by rw [hub]))
  obtain ⟨tl, htl⟩ : ∃ tl, tl = termB c.l := ⟨_, rfl⟩
  rw [← htl] at HTl HR
  rw [← hub] at HF
  have HKB : Hid (∀ V, Below W.heap.size W V → V.cell? ⟨w.heap.size, 1, none⟩ = some (.string c.l) ∧ V.cell? ⟨w.heap.size, 3, none⟩ = some (.int .i64 c.xk) ∧ V.cell? ⟨w.heap.size, 4, none⟩ = some (.string c.xl) ∧ V.cell? ⟨w.heap.size, 5, none⟩ = some (.slice A c.xa.items.length m)) := Lib.hid (fun V hb => ⟨(HCX.out V hb).2.1, (HCX.out V hb).2.2.2.1, (HCX.out V hb).2.2.2.2.1, (HCX.out V hb).2.2.2.2.2.1⟩)
  clear hW hb0 hbx h htl hub hx hsz
  go_enter Tryz.func81, Tryz.ntmps81
  go_wp2_with fail
  rw [← HWE.out]
  have hbw : Below W.heap.size W W := Below.refl _ _
  go_region_held3 (fun V => V.cell? ⟨w.heap.size, 1, none⟩ = some (.string c.l) ∧ V.cell? ⟨w.heap.size, 3, none⟩ = some (.int .i64 c.xk) ∧ V.cell? ⟨w.heap.size, 4, none⟩ = some (.string c.xl) ∧ V.cell? ⟨w.heap.size, 5, none⟩ = some (.slice A c.xa.items.length m)) (with_reducible first | exact HKB.out _ hbw.drew | exact HKB.out _ hbw | exact HKB.out _ (hbw.alloc hbw.size _).drew | exact HKB.out _ (hbw.alloc hbw.size _) | fail) (first | (go_at_call 124; (with_reducible refine (HTl.out _).mono ?_); rintro e1 w4 ⟨rfl, rfl⟩) | (go_at_call 129; (with_reducible refine (HF.out _ ?hq).mono ?_); (case hq => (first | exact hbw.drew | exact hbw)); rintro e1 w4 ⟨rfl, hb4⟩; (first | (have hbw := hbw.drew.trans (hb4.mono hbw.drew.size)) | (have hbw := hbw.trans (hb4.mono hbw.size)))))
  all_goals
    have HW := Lib.hid (HR.out _ hbw)
    clear hbw hb4
    go_wp2_with fail
    go_ret
    obtain ⟨v, he, h1, h2⟩ := HW.out
    exact ⟨v, he, h1, h2⟩

/-- The parts so far. -/
def lenP (sg : ByteArray) (a d e : Int) : Nat → List (List UInt8)
  | 0 => [sg.data.toList]
  | 1 => [sg.data.toList] ++ [Lib.itoa a]
  | 2 => [sg.data.toList] ++ [Lib.itoa a] ++ [Lib.itoa d]
  | _ => [sg.data.toList] ++ [Lib.itoa a] ++ [Lib.itoa d] ++ [Lib.itoa e]
theorem lenP_len (sg : ByteArray) (a d e : Int) (k : Nat) (hk : k ≤ 3) : (lenP sg a d e k).length = k + 1 := by
  match k, hk with
  | 0, _ => rfl
  | 1, _ => rfl
  | 2, _ => rfl
  | 3, _ => rfl
set_option maxRecDepth 100000 in
set_option maxHeartbeats 6400000 in
theorem partsLen_any (c : Cx) (xu vc : Value) (sg : ByteArray) (a d e : Int) (w : World) (h : CnO w xu vc c) (hcs : c.cs = [a, d, e]) (ha : -9 ≤ a ∧ a ≤ 9) (hd : -9 ≤ d ∧ d ≤ 9) (he : -9 ≤ e ∧ e ≤ 9) (hb9 : -99 ≤ c.b ∧ c.b ≤ 99) (hp : Pow10 w) :
    Calls Tryz.prog 85 #[.agg #[.int .i64 c.k, .string c.l, .string c.r, .int .i64 c.xk, .string c.xl, xu, vc, .int .i64 c.b], .string sg] w (SplPost (lenP sg a d e 3 ++ [Lib.itoa c.b]) w) := by
  obtain ⟨A, m, B, r, rfl, rfl⟩ := h.shape
  obtain ⟨W, hW⟩ : ∃ W, W = w.alloc (.cells #[.int .i64 c.k, .string c.l, .string c.r, .int .i64 c.xk, .string c.xl, .slice A c.xa.items.length m, .slice B c.cs.length r, .int .i64 c.b] 29) := ⟨_, rfl⟩
  have hb0 : Below w.heap.size w W := by rw [hW]; exact (Below.refl _ _).alloc (Nat.le_refl _) _
  have hbx : BoxC W w.heap.size c (.slice A c.xa.items.length m) (.slice B c.cs.length r) := by rw [hW]; exact boxC_new w c _ _ _
  have HWE := Lib.hid hW
  have HB0 := Lib.hid hb0
  have HCX := Lib.hid (fun (V : World) (hb : Below W.heap.size W V) => (hbx.kept hb).cells)
  have HCN := Lib.hid (fun (V : World) (hb : Below W.heap.size W V) => h.kept (hb0.trans (hb.mono hb0.size)))
  have HL := Lib.hid (fun (V : World) (hb : Below W.heap.size W V) => hp.below (hb0.trans (hb.mono hb0.size)))
  have HQ := Lib.hid (fun (V : World) (hb : Below W.heap.size W V) => three_ints (a := a) (d := d) (e := e) (by rw [← hcs, show (3 : Nat) = c.cs.length by rw [hcs]; rfl]; exact (HCN.out V hb).2.2))
  have hc6 : ∀ V, Below W.heap.size W V → V.cell? ⟨w.heap.size, 6, none⟩ = some (.slice B 3 r) ∧ V.cell? ⟨w.heap.size, 7, none⟩ = some (.int .i64 c.b) := fun V hb => ⟨by rw [show (3 : Nat) = c.cs.length by rw [hcs]; rfl]; exact (HCX.out V hb).2.2.2.2.2.2.1, (HCX.out V hb).2.2.2.2.2.2.2⟩
  have HC6 := Lib.hid hc6
  have HWE3 : Hid (W = w.alloc (.cells #[.int .i64 c.k, .string c.l, .string c.r, .int .i64 c.xk, .string c.xl, .slice A c.xa.items.length m, .slice B 3 r, .int .i64 c.b] 29)) := Lib.hid (by rw [hW, show c.cs.length = 3 by rw [hcs]; rfl])
  have hr1 : (W.alloc (.cells #[.string sg] 9)).ownsRow W.heap.size 9 1 (.slice (some ⟨W.heap.size, 0, none⟩) 1 1) (lenP sg a d e 0).length (strs (lenP sg a d e 0)) := by
    have := World.ownsRow_lit (base := W.heap.size) (e := 9) (size := 1) W #[.string sg] 1 (Nat.le_refl _) (by unfold maxLen; omega) rfl
    have e1 : (⟨sg.data.toList.toArray⟩ : ByteArray) = sg := bytes_eq (by simp)
    simpa [lenP, strs, e1] using this
  have hzW : W.heap.size = w.heap.size + 1 := by rw [hW]; simp
  have hr2 : (W.alloc (.cells #[.string sg] 9)).ownsRow W.heap.size 9 1 (.slice (some ⟨w.heap.size + 1, 0, none⟩) 1 1) (lenP sg a d e 0).length (strs (lenP sg a d e 0)) := by
    rw [← hzW]
    exact hr1
  have HR1 := Lib.hid hr2
  have hbb := hb9
  rw [show c.cs.length = 3 by rw [hcs]; rfl]
  obtain ⟨i0, hi, hz0, hz1, hz2⟩ := info_parts strInfo
  have HFB := Lib.hid (fun V (hb : Below W.heap.size W V) => implFmtInt_any c.b V (by omega) (by omega) (HL.out V hb))
  clear hW hb0 hbx h hcs hc6 hr1 hr2 hzW hp
  go_enter Tryz.func85, Tryz.ntmps85
  go_wp2_with fail
  rw [← HWE3.out]
  have HB1 := Lib.hid ((Below.refl W.heap.size W).alloc (Nat.le_refl _) (.cells #[.string sg] 9))
  obtain ⟨c6, c7⟩ := HC6.out _ HB1.out
  go_wp2_with fail
  clear c6 c7
  go_loopw [5, 13] (fun v i wr => ∃ j : Nat, j ≤ 3 ∧ (i = .int .i64 0 ∧ j = 0 ∨ i = .int .i64 1 ∧ j = 1 ∨ i = .int .i64 2 ∧ j = 2 ∨ i = .int .i64 3 ∧ j = 3) ∧ wr.ownsRow W.heap.size 9 1 v (lenP sg a d e j).length (strs (lenP sg a d e j)) ∧ Below W.heap.size W wr) (fun _ i _ => 3 - (intOf i).toNat)
  case atStart => exact ⟨0, Nat.zero_le _, Or.inl ⟨rfl, rfl⟩, HR1.out, HB1.out⟩
  case round =>
    obtain ⟨j, hj, hij, hown, hbr⟩ := hrel
    have HBr := Lib.hid hbr
    obtain ⟨g, hg, q0, q1, q2⟩ := HQ.out _ hbr
    obtain ⟨c6, c7⟩ := HC6.out _ hbr
    subst hg
    clear hbr
    rcases hij with ⟨rfl, rfl⟩ | ⟨rfl, rfl⟩ | ⟨rfl, rfl⟩ | ⟨rfl, rfl⟩
    · have HF := Lib.hid (fun V (hb : Below W.heap.size W V) => implFmtInt_any a V (by omega) (by omega) (HL.out V hb))
      have hlen := lenP_len sg a d e 0 (by omega)
      go_wp2_with fail
      refine ((HF).out _ HBr.out).mono ?_
      rintro e' w2 ⟨rfl, hb2⟩
      have HB2 := Lib.hid (HBr.out.trans (hb2.mono HBr.out.size))
      have hown2 := owns_below hown hb2
      have hsz2 := HB2.out.size
      clear hb2
      go_wp2_with (at_builtin; refine wpList_append_own _ rfl (.tmp 17) (.tmp 20) 67 rfl W.heap.size 9 i0 (.string ⟨#[]⟩) 1 16 Tryz.underlying67 hi hz0 hz1 hz2 rfl (by decide) _ _ _ rfl (hown2.alloc _) ⟨w2.heap.size, 0, none⟩ 1 1 [.string ⟨(Lib.itoa a).toArray⟩] rfl rfl (newCell w2 _ _) (oneCell_str _) (by unfold maxLen; omega) (by omega) (by simp; omega) ?_)
      intro v' w1 hown' hgrow _
      have R := grow_strs (w := W) (p := Lib.itoa a) rfl hown2 HB2.out HB2.out.size hown' hgrow
      rw [show lenP sg a d e 0 ++ [Lib.itoa a] = lenP sg a d e 1 from rfl] at R
      have HRR := Lib.hid R
      clear hown' hgrow hown hown2 R hlen
      go_wp2_with fail
      go_roundw
      case rel => exact ⟨1, by omega, Or.inr (Or.inl ⟨rfl, rfl⟩), HRR.out.1, HRR.out.2⟩
      case measure => simp [intOf]
    · have HF := Lib.hid (fun V (hb : Below W.heap.size W V) => implFmtInt_any d V (by omega) (by omega) (HL.out V hb))
      have hlen := lenP_len sg a d e 1 (by omega)
      go_wp2_with fail
      refine ((HF).out _ HBr.out).mono ?_
      rintro e' w2 ⟨rfl, hb2⟩
      have HB2 := Lib.hid (HBr.out.trans (hb2.mono HBr.out.size))
      have hown2 := owns_below hown hb2
      have hsz2 := HB2.out.size
      clear hb2
      go_wp2_with (at_builtin; refine wpList_append_own _ rfl (.tmp 17) (.tmp 20) 67 rfl W.heap.size 9 i0 (.string ⟨#[]⟩) 1 16 Tryz.underlying67 hi hz0 hz1 hz2 rfl (by decide) _ _ _ rfl (hown2.alloc _) ⟨w2.heap.size, 0, none⟩ 1 1 [.string ⟨(Lib.itoa d).toArray⟩] rfl rfl (newCell w2 _ _) (oneCell_str _) (by unfold maxLen; omega) (by omega) (by simp; omega) ?_)
      intro v' w1 hown' hgrow _
      have R := grow_strs (w := W) (p := Lib.itoa d) rfl hown2 HB2.out HB2.out.size hown' hgrow
      rw [show lenP sg a d e 1 ++ [Lib.itoa d] = lenP sg a d e 2 from rfl] at R
      have HRR := Lib.hid R
      clear hown' hgrow hown hown2 R hlen
      go_wp2_with fail
      go_roundw
      case rel => exact ⟨2, by omega, Or.inr (Or.inr (Or.inl ⟨rfl, rfl⟩)), HRR.out.1, HRR.out.2⟩
      case measure => simp [intOf]
    · have HF := Lib.hid (fun V (hb : Below W.heap.size W V) => implFmtInt_any e V (by omega) (by omega) (HL.out V hb))
      have hlen := lenP_len sg a d e 2 (by omega)
      go_wp2_with fail
      refine ((HF).out _ HBr.out).mono ?_
      rintro e' w2 ⟨rfl, hb2⟩
      have HB2 := Lib.hid (HBr.out.trans (hb2.mono HBr.out.size))
      have hown2 := owns_below hown hb2
      have hsz2 := HB2.out.size
      clear hb2
      go_wp2_with (at_builtin; refine wpList_append_own _ rfl (.tmp 17) (.tmp 20) 67 rfl W.heap.size 9 i0 (.string ⟨#[]⟩) 1 16 Tryz.underlying67 hi hz0 hz1 hz2 rfl (by decide) _ _ _ rfl (hown2.alloc _) ⟨w2.heap.size, 0, none⟩ 1 1 [.string ⟨(Lib.itoa e).toArray⟩] rfl rfl (newCell w2 _ _) (oneCell_str _) (by unfold maxLen; omega) (by omega) (by simp; omega) ?_)
      intro v' w1 hown' hgrow _
      have R := grow_strs (w := W) (p := Lib.itoa e) rfl hown2 HB2.out HB2.out.size hown' hgrow
      rw [show lenP sg a d e 2 ++ [Lib.itoa e] = lenP sg a d e 3 from rfl] at R
      have HRR := Lib.hid R
      clear hown' hgrow hown hown2 R hlen
      go_wp2_with fail
      go_roundw
      case rel => exact ⟨3, by omega, Or.inr (Or.inr (Or.inr (⟨rfl, rfl⟩))), HRR.out.1, HRR.out.2⟩
      case measure => simp [intOf]
    · have hlen := lenP_len sg a d e 3 (by omega)
      go_wp2_with fail
      refine ((HFB).out _ HBr.out).mono ?_
      rintro e' w2 ⟨rfl, hb2⟩
      have HB2 := Lib.hid (HBr.out.trans (hb2.mono HBr.out.size))
      have hown2 := owns_below hown hb2
      have hsz2 := HB2.out.size
      clear hb2
      go_wp2_with (at_builtin; refine wpList_append_own _ rfl (.tmp 23) (.tmp 27) 67 rfl W.heap.size 9 i0 (.string ⟨#[]⟩) 1 16 Tryz.underlying67 hi hz0 hz1 hz2 rfl (by decide) _ _ _ rfl (hown2.alloc _) ⟨w2.heap.size, 0, none⟩ 1 1 [.string ⟨(Lib.itoa c.b).toArray⟩] rfl rfl (newCell w2 _ _) (oneCell_str _) (by unfold maxLen; omega) (by omega) (by simp; omega) ?_)
      intro v' w1 hown' hgrow _
      have R := grow_strs (w := W) (p := Lib.itoa c.b) rfl hown2 HB2.out HB2.out.size hown' hgrow
      rw [show lenP sg a d e 3 ++ [Lib.itoa c.b] = lenP sg a d e 3 ++ [Lib.itoa c.b] from rfl] at R
      have HRR := Lib.hid R
      clear hown' hgrow hown hown2 R hlen
      go_wp2_with fail
      go_ret
      exact ⟨_, rfl, own_lower HRR.out.1 HB0.out.size, HB0.out.trans (HRR.out.2.mono HB0.out.size)⟩
end Go.Proofs.YtjjjdieljljcoaaGreatDoor

/-
  What the laws' own markText answers.
-/
namespace Go.Proofs.YtjjjdieljljcoaaGreatDoor
open Go.RowKit
theorem below_drewN {B : Nat} {a w : World} (h : Below B a w) (n : Nat) : Below B a (w.drewN n) := ⟨h.os, h.tape, h.output, h.size, h.block⟩

/-- What markText makes of a number. -/
def markB (k : Nat) : List UInt8 := 109 :: Lib.decDigits k

set_option maxHeartbeats 400000 in
theorem markText_any (n : Nat) (w : World) (h0 : 0 < n) (h1 : n ≤ 9223372036854775807) :
    Calls Tryz.prog 146 #[.int .i64 n] w fun e w' => e = .returned (.string ⟨(markB n).toArray⟩) ∧ Below w.heap.size w w' := by
  have e2 : decide ((n : Int) ≤ 0) = false := by simp; omega
  go_enter Tryz.func146, Tryz.ntmps146
  go_wp2
  go_loopw [0, 3] (fun m o wr => ∃ (k : Nat) (L : List UInt8), m = .int .i64 k ∧ o = .string ⟨L.toArray⟩ ∧ k ≤ n ∧ FmtRel n k L ∧ Below w.heap.size w wr) (fun m _ _ => (intOf m).toNat)
  case atStart => exact ⟨n, [], rfl, rfl, Nat.le_refl _, FmtRel.start h0, Below.refl _ _⟩
  case round =>
    obtain ⟨k, L, rfl, rfl, hkn, hrel, hb⟩ := hrel
    have hlen := hrel.len h1
    by_cases hk : 0 < k
    · have hcv := conv_one wr (48 + (k : Int) % 10) (dgt k) (digit_cell k)
      go_wp2
      all_goals
        go_roundw
        case rel => exact ⟨k / 10, dgt k :: L, by go_num, congrArg Value.string (str_cons _ _), by omega, hrel.step hk, hb.alloc hb.size _⟩
        case measure => simp [intOf]; omega
    · obtain rfl : k = 0 := by omega
      go_wp2
      go_ret
      exact ⟨by unfold markB; rw [← hrel.1 rfl]; exact congrArg (fun s => Ending.returned (Value.string s)) (str_cons _ _), hb⟩

/-- markText, and a cell of an old block. -/
theorem markText_cell (n : Nat) (w0 w : World) (a : Addr) (v : Value) (h0 : 0 < n) (h1 : n ≤ 9223372036854775807) (hb : Below w0.heap.size w0 w) (ha : a.block < w0.heap.size) (hc : w.cell? a = some v) :
    Calls Tryz.prog 146 #[.int .i64 n] w fun e w' => e = .returned (.string ⟨(markB n).toArray⟩) ∧ w'.cell? a = some v ∧ Below w0.heap.size w0 w' :=
  (markText_any n w h0 h1).mono fun _ _ ⟨he, h⟩ => ⟨he, (h.cell (Nat.lt_of_lt_of_le ha hb.size)).trans hc, hb.trans (h.mono hb.size)⟩

end Go.Proofs.YtjjjdieljljcoaaGreatDoor

/-
  What the laws' own helpers answer over slices of strings that lie in rows of their own: eqStringS, markText, markStringS, heldStringS.
-/
namespace Go.Proofs.YtjjjdieljljcoaaGreatDoor
open Go.RowKit
set_option maxHeartbeats 400000 in

/-- The marks k0, k0 + 1, .. as a row's cells. -/
def marks (k0 : Nat) : Nat → List (List UInt8)
  | 0 => []
  | n + 1 => marks k0 n ++ [markB (k0 + n)]
theorem marks_length (k0 : Nat) : ∀ n, (marks k0 n).length = n
  | 0 => rfl
  | n + 1 => by simp [marks, marks_length k0 n]
theorem marks_at (k0 : Nat) : ∀ n j, j < n → (marks k0 n)[j]? = some (markB (k0 + j))
  | 0, j, h => by omega
  | n + 1, j, h => by
    unfold marks
    by_cases hj : j < n
    · rw [List.getElem?_append_left (by rw [marks_length]; exact hj)]
      exact marks_at k0 n j hj
    · have e : j = n := by omega
      subst e
      rw [List.getElem?_append_right (by rw [marks_length]; exact Nat.le_refl _), marks_length]
      simp


/-- One cell more is marked. -/
theorem mark_step {w wr w1 : World} {g n c B k0 j : Nat} {xs : List Value} (hj : j < n) (hxs : xs.length = n)
    (hown : wr.ownsRow B 9 1 (.slice (some ⟨g, 0, none⟩) n c) n (strs (marks k0 j) ++ xs.drop j)) (hg : w.grownBy wr (some g)) (hb1 : Below wr.heap.size wr w1) :
    (w1.setCell ⟨g, j, none⟩ (.string ⟨(markB (k0 + j)).toArray⟩)).ownsRow B 9 1 (.slice (some ⟨g, 0, none⟩) n c) n (strs (marks k0 (j + 1)) ++ xs.drop (j + 1)) ∧
    w.grownBy (w1.setCell ⟨g, j, none⟩ (.string ⟨(markB (k0 + j)).toArray⟩)) (some g) := by
  have h1 := hown.kept (grown_of_below hb1 none) (.inr (by simp [Value.ownBlock]))
  obtain ⟨h2, h3⟩ := h1.stored j (.string ⟨(markB (k0 + j)).toArray⟩)
  refine ⟨?_, grown_trans (grown_trans hg (grown_of_below hb1 (some g))) h3⟩
  have e : (strs (marks k0 j) ++ xs.drop j).set j (.string ⟨(markB (k0 + j)).toArray⟩) = strs (marks k0 (j + 1)) ++ xs.drop (j + 1) := by
    have hl : (strs (marks k0 j)).length = j := by rw [strs_length, marks_length]
    have hd : xs.drop j = xs[j]'(by omega) :: xs.drop (j + 1) := List.drop_eq_getElem_cons (by omega : j < xs.length)
    rw [List.set_append_right _ _ (by omega), hl, Nat.sub_self, hd, List.set_cons_zero]
    simp [marks, strs]
  rw [e] at h2
  exact h2

end Go.Proofs.YtjjjdieljljcoaaGreatDoor

/-
  Slices of strings in old memory; a row of the call's own lies in blocks that are there.
-/
namespace Go.Proofs.YtjjjdieljljcoaaGreatDoor
open Go.RowKit
theorem own_lt {w : World} {B : Nat} {e : TypeId} {size n g c : Nat} {xs : List Value} (h : w.ownsRow B e size (.slice (some ⟨g, 0, none⟩) n c) n xs) : B ≤ g ∧ g < w.heap.size := h.lt g (by simp [Value.ownBlock])
/-- A slice of strings in old memory: its elements, one by one. -/
def SL (w : World) (B : Nat) (A : Option Addr) (n : Nat) (ps : List (List UInt8)) : Prop :=
  ps.length = n ∧ ∀ k p, ps[k]? = some p → ∃ ad, A = some ad ∧ ad.block < B ∧ w.cell? (ad.add k) = some (.string ⟨p.toArray⟩)
theorem sls_block (a : Addr) (n : Nat) : (a.add n).block = a.block := by unfold Addr.add; split <;> rfl
theorem SL.below {w w' : World} {B : Nat} {A : Option Addr} {n : Nat} {ps : List (List UInt8)} (h : SL w B A n ps) (hb : Below B w w') : SL w' B A n ps :=
  ⟨h.1, fun k p hk => by
    obtain ⟨ad, e, hlt, hc⟩ := h.2 k p hk
    exact ⟨ad, e, hlt, (hb.cell (by rw [sls_block]; exact hlt)).trans hc⟩⟩
theorem SL.bytes {w : World} {B : Nat} {A : Option Addr} {n : Nat} {ps : List (List UInt8)} (h : SL w B A n ps) : ps.length = n := h.1
end Go.Proofs.YtjjjdieljljcoaaGreatDoor

/-
  What the laws' own helpers answer over a slice of strings that came in: szStringS (how much is left), toStringS (a copy in a row of its own).
-/
namespace Go.Proofs.YtjjjdieljljcoaaGreatDoor
open Go.RowKit
/-- A copy under way: what is laid, and zeros behind it. -/
def copied (ps : List (List UInt8)) (k : Nat) : List Value := strs (ps.take k) ++ (List.replicate ps.length (Value.string ⟨#[]⟩)).drop k
theorem copied_step {ps : List (List UInt8)} {k : Nat} {p : List UInt8} (h : ps[k]? = some p) : (copied ps k).set k (.string ⟨p.toArray⟩) = copied ps (k + 1) := by
  have hk : k < ps.length := (List.getElem?_eq_some_iff.1 h).1
  have hl : (strs (ps.take k)).length = k := by rw [strs_length, List.length_take]; omega
  have hd : (List.replicate ps.length (Value.string ⟨#[]⟩)).drop k = Value.string ⟨#[]⟩ :: (List.replicate ps.length (Value.string ⟨#[]⟩)).drop (k + 1) := by
    rw [List.drop_eq_getElem_cons (by simpa using hk)]
    simp
  unfold copied
  rw [List.set_append_right _ _ (by omega), hl, Nat.sub_self, hd, List.set_cons_zero, List.take_add_one, h]
  simp [strs]
theorem copied_all (ps : List (List UInt8)) : copied ps ps.length = strs ps := by
  unfold copied
  rw [List.take_of_length_le (Nat.le_refl _), List.drop_eq_nil_of_le (by simp), List.append_nil]

/-- A copy in a row of its own: as SplPost, the slice never nil. -/
def CopyPost (ps : List (List UInt8)) (w : World) (e : Ending) (w' : World) : Prop :=
  ∃ g c, e = .returned (.slice (some ⟨g, 0, none⟩) ps.length c) ∧ w'.ownsRow w.heap.size 9 1 (.slice (some ⟨g, 0, none⟩) ps.length c) ps.length (strs ps) ∧ Below w.heap.size w w'

end Go.Proofs.YtjjjdieljljcoaaGreatDoor

/-
  What spec.Join and impl.Join answer over a slice of strings in old memory, where the strings are together at most 2^20 bytes long and the separator is no longer: the joined bytes, none where they are too many. Behind the call nothing that was there has turned.
-/
namespace Go.Proofs.YtjjjdieljljcoaaGreatDoor
open Go.RowKit
/-- Bytes as a row's cells. -/
def byts (l : List UInt8) : List Value := l.map fun b => Value.int .u8 b.toNat
theorem byteInfo : (Tryz.prog.info? 5).map (fun i => (i.zero, i.size, i.bytes)) = some (some (.int .u8 0), 1, 1) := by kernel_rfl
theorem strCells_eq (s : ByteArray) : Lib.strCells s = byts s.data.toList := rfl
theorem byts_append (a b : List UInt8) : byts (a ++ b) = byts a ++ byts b := by simp [byts]
theorem byts_length (a : List UInt8) : (byts a).length = a.length := by simp [byts]

/-- string(b) of a row of the call's own. -/
theorem conv_own (w : World) (B g n c : Nat) (l : List UInt8) (hl : l.length = n) (hown : w.ownsRow B 5 1 (.slice (some ⟨g, 0, none⟩) n c) n (byts l)) :
    (convert 22 9 (.slice (some ⟨g, 0, none⟩) n c)).run Tryz.prog w = .ok (.string ⟨l.toArray⟩) w := by
  subst hl
  refine run_convert_bytes_back (P := Tryz.prog) w 22 9 5 ⟨g, 0, none⟩ c l Tryz.underlying22 Tryz.underlying5 Tryz.underlying9 (fun j hj => ?_)
  have h := hown.cellAt j (by omega)
  have e : ((⟨g, 0, none⟩ : Addr).add j) = ⟨g, j, none⟩ := by unfold Addr.add; split <;> simp_all
  rw [e, h]
  simp [byts, hj]

/-- One text more behind what a row of the call's own holds. -/
theorem grow_byts {wr w1 w : World} {B : Nat} {v v' : Value} {L p : List UInt8} {x : ByteArray} (hx : x.data.toList = p) (hown : wr.ownsRow B 5 1 v L.length (byts L)) (hb : Below B w wr) (hB : B ≤ wr.heap.size)
    (hown' : w1.ownsRow B 5 1 v' (L.length + x.size) (byts L ++ Lib.strCells x)) (hg : wr.grownBy w1 v.ownBlock) :
    w1.ownsRow B 5 1 v' (L ++ p).length (byts (L ++ p)) ∧ Below B w w1 := by
  have hs : x.size = p.length := by rw [← hx]; simp
  refine ⟨?_, hb.grown hg hB (fun k hk => (hown.lt k hk).1)⟩
  rw [strCells_eq, hx, hs] at hown'
  rw [byts_append, List.length_append]
  exact hown'

def JoinPost (l : List UInt8) (w : World) (e : Ending) (w' : World) : Prop := e = .returned (.string ⟨l.toArray⟩) ∧ Below w.heap.size w w'

end Go.Proofs.YtjjjdieljljcoaaGreatDoor

/-
  What strings.Join answers over a row of the call's own.
-/
namespace Go.Proofs.YtjjjdieljljcoaaGreatDoor
open Go.RowKit
/-- strings.Join over a row of the call's own. -/
theorem libJoin_any (g c B : Nat) (ps : List (List UInt8)) (sep : ByteArray) (w : World) (hown : w.ownsRow B 9 1 (.slice (some ⟨g, 0, none⟩) ps.length c) ps.length (strs ps)) (hn : ps.length ≤ 1048576) (hq : (Lib.join ps sep.data.toList).length ≤ 1048576) :
    Calls Tryz.prog 72 #[.slice (some ⟨g, 0, none⟩) ps.length c, .string sep] w (JoinPost (Lib.join ps sep.data.toList) w) := by
  obtain ⟨xs, hxs⟩ : ∃ xs : List ByteArray, xs = ps.map fun p => ⟨p.toArray⟩ := ⟨_, rfl⟩
  have hmap : xs.map (·.data.toList) = ps := by rw [hxs, List.map_map]; simp [Function.comp_def]
  have hlen : xs.length = ps.length := by rw [hxs]; simp
  have hcap : ps.length ≤ c := by
    rcases hown.2 with ⟨h0, _⟩ | ⟨g', cap, cur, h0, _, _, h1, _⟩
    · simp at h0
    · simp only [Value.slice.injEq] at h0
      obtain ⟨_, _, rfl⟩ := h0
      exact h1
  have h := Tryz.strings_Join g 0 c xs sep w (fun j x hj => by
      have hlt : j < xs.length := (List.getElem?_eq_some_iff.1 hj).1
      rw [Nat.zero_add, hown.cellAt j (by omega)]
      rw [hxs, List.getElem?_map] at hj
      unfold strs
      rw [List.getElem?_map]
      cases hp : ps[j]? with
      | none => rw [hp] at hj; cases hj
      | some p => rw [hp] at hj; simp at hj; subst hj; rfl) (own_lt hown).2 (by omega) (by omega) (by rw [hmap]; omega)
  rw [hmap, hlen] at h
  exact h

theorem own_SL {w : World} {B g c : Nat} {ps : List (List UInt8)} (hown : w.ownsRow B 9 1 (.slice (some ⟨g, 0, none⟩) ps.length c) ps.length (strs ps)) : SL w w.heap.size (some ⟨g, 0, none⟩) ps.length ps :=
  ⟨rfl, fun k p hk => ⟨⟨g, 0, none⟩, rfl, (own_lt hown).2, by
    have hlt : k < ps.length := (List.getElem?_eq_some_iff.1 hk).1
    have e : ((⟨g, 0, none⟩ : Addr).add k) = ⟨g, k, none⟩ := by unfold Addr.add; split <;> simp_all
    rw [e, hown.cellAt k (by omega)]
    simp [strs, hk]⟩⟩
end Go.Proofs.YtjjjdieljljcoaaGreatDoor

/-
  What spec.SplitByte and impl.SplitByte answer at a string of at most 2^20 bytes: the substrings between the occurrences of the byte, in a new row of their own. Behind the call nothing that was there has turned.
-/
namespace Go.Proofs.YtjjjdieljljcoaaGreatDoor
open Go.RowKit
set_option maxRecDepth 100000 in
set_option maxHeartbeats 800000 in
theorem specSplit_any (s : ByteArray) (c : UInt8) (w : World) (hl : s.size ≤ 1048576) :
    Calls Tryz.prog 50 #[.string s, .int .u8 c.toNat] w (SplPost (spl c s.data.toList) w) := by
  obtain ⟨i0, hi, hz0, hz1, hz2⟩ := info_parts strInfo
  have hlen : s.data.toList.length = s.size := by simp
  have HLEN := Lib.hid hlen
  clear hlen
  go_enter Tryz.func50, Tryz.ntmps50
  go_wp2
  go_loopw [5, 6, 7] (fun v fr i wr => ∃ (k f : Nat) (P : List (List UInt8)), i = .int .i64 k ∧ fr = .int .i64 f ∧ k ≤ s.size + 1 ∧ SplRel c s.data.toList P f k ∧ wr.ownsRow w.heap.size 9 1 v P.length (strs P) ∧ Below w.heap.size w wr) (fun _ _ i _ => s.size + 1 - (intOf i).toNat)
  case atStart => exact ⟨0, 0, [], rfl, rfl, by omega, SplRel.start _ _, World.ownsRow_made w #[] 0 (Nat.le_refl _) (by unfold maxLen; omega) rfl, (Below.refl _ _).alloc (Nat.le_refl _) _⟩
  case round =>
    obtain ⟨k, f, P, rfl, rfl, hk, hrel, hown, hb⟩ := hrel
    have hbd := hrel.bound
    rw [HLEN.out] at hbd
    obtain ⟨hf, hP, hfk⟩ := hbd
    have HR := Lib.hid hrel
    clear hrel
    by_cases hlt : k < s.size
    · have e1 : ((k : Int) == (s.size : Int)) = false := by simp; omega
      have hget : s.data.toList[k]? = some s[k] := by simp [hlt]; rfl
      have HG := Lib.hid hget
      clear hget
      obtain ⟨hfk1, hfk2⟩ := hfk (by omega)
      by_cases hq : s[k] = c
      · have hrel' := HR.out.hit (by rw [HLEN.out]; exact hlt) (HG.out.trans (by rw [hq]))
        have HR' := Lib.hid hrel'
        clear hrel'
        have e2 : ((s[k].toNat : Int) == (c.toNat : Int)) = true := by rw [hq]; simp
        clear hq
        go_wp2_with (at_builtin; refine wpList_append_own _ rfl (.tmp 26) (.tmp 31) 67 rfl w.heap.size 9 i0 (.string ⟨#[]⟩) 1 16 Tryz.underlying67 hi hz0 hz1 hz2 rfl (by decide) _ _ _ rfl (hown.alloc _) ⟨wr.heap.size, 0, none⟩ 1 1 [.string (s.extract f k)] rfl rfl (newCell wr _ (s.extract f k)) (oneCell_str _) (by unfold maxLen; omega) (by omega) (by have := hb.size; simp; omega) ?_)
        intro v' w1 hown' hgrow _
        have R := grow_strs (w := w) (extract_str s f k) hown hb hb.size hown' hgrow
        clear hown' hgrow hown hb
        go_wp2
        go_roundw
        case rel => exact ⟨k + 1, k + 1, _, by go_num, by go_num, by omega, HR'.out, R.1, R.2⟩
        case measure => simp [intOf]; omega
      · have hrel' := HR.out.pass (by rw [HLEN.out]; exact hlt) (fun e => hq (Option.some.inj (HG.out.symm.trans e)))
        have HR' := Lib.hid hrel'
        clear hrel'
        have e2 : ((s[k].toNat : Int) == (c.toNat : Int)) = false := by
          simp only [beq_eq_false_iff_ne, ne_eq]
          intro e
          exact hq (UInt8.toNat_inj.1 (by omega))
        clear hq
        go_wp2
        go_roundw
        case rel => exact ⟨k + 1, f, P, by go_num, rfl, by omega, HR'.out, hown, hb⟩
        case measure => simp [intOf]; omega
    · by_cases hle : k = s.size
      · subst hle
        have e1 : ((s.size : Int) == (s.size : Int)) = true := by simp
        have hrel' := HR.out
        rw [← HLEN.out] at hrel'
        have hrel'' := hrel'.last
        rw [HLEN.out] at hrel''
        have HR' := Lib.hid hrel''
        clear hrel' hrel''
        obtain ⟨hfk1, hfk2⟩ := hfk (by omega)
        go_wp2_with (at_builtin; refine wpList_append_own _ rfl (.tmp 26) (.tmp 31) 67 rfl w.heap.size 9 i0 (.string ⟨#[]⟩) 1 16 Tryz.underlying67 hi hz0 hz1 hz2 rfl (by decide) _ _ _ rfl (hown.alloc _) ⟨wr.heap.size, 0, none⟩ 1 1 [.string (s.extract f s.size)] rfl rfl (newCell wr _ (s.extract f s.size)) (oneCell_str _) (by unfold maxLen; omega) (by omega) (by have := hb.size; simp; omega) ?_)
        intro v' w1 hown' hgrow _
        have R := grow_strs (w := w) (extract_str s f s.size) hown hb hb.size hown' hgrow
        clear hown' hgrow hown hb
        go_wp2
        go_roundw
        case rel => exact ⟨s.size + 1, s.size + 1, _, by go_num, by go_num, by omega, HR'.out, R.1, R.2⟩
        case measure => simp [intOf]
      · have hk1 : k = s.size + 1 := by omega
        subst hk1
        go_wp2
        go_ret
        exact ⟨_, rfl, by rw [HR.out.done (by rw [HLEN.out])]; exact hown, hb⟩

/-- The size of a string in a slot. -/
def strSize : Value → Nat
  | .string t => t.size
  | _ => 0
theorem extract_rest (t : ByteArray) (o : Nat) : (t.extract (o + 1) t.size).data.toList = t.data.toList.drop (o + 1) := by
  simp
  exact List.take_of_length_le (by simp)
theorem extract_rest_size (t : ByteArray) (o : Nat) : (t.extract (o + 1) t.size).size = t.size - (o + 1) := by simp [ByteArray.size_extract]
/-- strings.IndexByte: nothing found. -/
theorem index_no (t : ByteArray) (c : UInt8) (w : World) (h : Lib.indexByte t.data.toList c = -1) :
    Calls Tryz.prog 73 #[.string t, .int .u8 c.toNat] w fun e w' => e = .returned (.int .i64 (-1)) ∧ w = w' := by
  refine (Tryz.strings_IndexByte t c.toNat w).mono ?_
  rintro e w' ⟨rfl, rfl⟩
  have hc : ((c.toNat : Int)).toNat.toUInt8 = c := by simp
  rw [hc, h]
  exact ⟨rfl, rfl⟩
/-- strings.IndexByte: found at o. -/
theorem index_yes (t : ByteArray) (c : UInt8) (o : Nat) (w : World) (h : Lib.indexByte t.data.toList c = o) :
    Calls Tryz.prog 73 #[.string t, .int .u8 c.toNat] w fun e w' => e = .returned (.int .i64 o) ∧ w = w' := by
  refine (Tryz.strings_IndexByte t c.toNat w).mono ?_
  rintro e w' ⟨rfl, rfl⟩
  have hc : ((c.toNat : Int)).toNat.toUInt8 = c := by simp
  rw [hc, h]
  exact ⟨rfl, rfl⟩

set_option maxRecDepth 100000 in
set_option maxHeartbeats 800000 in
theorem implSplit_any (s : ByteArray) (c : UInt8) (w : World) (hl : s.size ≤ 1048576) :
    Calls Tryz.prog 36 #[.string s, .int .u8 c.toNat] w (SplPost (spl c s.data.toList) w) := by
  obtain ⟨i0, hi, hz0, hz1, hz2⟩ := info_parts strInfo
  go_enter Tryz.func36, Tryz.ntmps36
  go_wp2
  go_loopw [0, 5] (fun sv v wr => ∃ (t : ByteArray) (P : List (List UInt8)), sv = .string t ∧ t.size + P.length ≤ s.size ∧ spl c s.data.toList = P ++ spl c t.data.toList ∧ wr.ownsRow w.heap.size 9 1 v P.length (strs P) ∧ Below w.heap.size w wr) (fun sv _ _ => strSize sv)
  case atStart => exact ⟨s, [], rfl, by simp, by simp, World.ownsRow_nil _ _ _ _, Below.refl _ _⟩
  case round =>
    obtain ⟨t, P, rfl, hsz, hsp, hown, hb⟩ := hrel
    have HSP := Lib.hid hsp
    clear hsp
    have hlen : t.data.toList.length = t.size := by simp
    have HLEN := Lib.hid hlen
    clear hlen
    by_cases hq : Lib.indexByte t.data.toList c = -1
    · have HI := Lib.hid (fun w => index_no t c w hq)
      have hone := spl_none c t.data.toList (fun b hbm e => by
        obtain ⟨k, hk⟩ := List.getElem?_of_mem hbm
        exact Lib.indexByte_none hq k (hk.trans (by rw [e])))
      have HONE := Lib.hid hone
      clear hq hone
      go_wp2_with (first
        | (go_at_call 73; refine (HI.out _).mono ?_; rintro e w' ⟨rfl, rfl⟩)
        | (at_builtin; refine wpList_append_own _ rfl (.tmp 12) (.tmp 14) 67 rfl w.heap.size 9 i0 (.string ⟨#[]⟩) 1 16 Tryz.underlying67 hi hz0 hz1 hz2 rfl (by decide) _ _ _ rfl (hown.alloc _) ⟨wr.heap.size, 0, none⟩ 1 1 [.string t] rfl rfl (newCell wr _ t) (oneCell_str _) (by unfold maxLen; omega) (by omega) (by have := hb.size; simp; omega) ?_))
      intro v' w1 hown' hgrow _
      have R := grow_strs (p := t.data.toList) (w := w) rfl hown hb hb.size hown' hgrow
      clear hown' hgrow hown hb
      go_wp2
      go_ret
      exact ⟨_, rfl, by rw [HSP.out, HONE.out]; exact R.1, R.2⟩
    · have hge := Lib.indexByte_ge t.data.toList c
      obtain ⟨o, ho⟩ : ∃ o : Nat, Lib.indexByte t.data.toList c = o := ⟨(Lib.indexByte t.data.toList c).toNat, by omega⟩
      have HI := Lib.hid (fun w => index_yes t c o w ho)
      obtain ⟨hat, hbef⟩ := Lib.indexByte_some ho
      have hot : o < t.size := by
        have := (List.getElem?_eq_some_iff.1 hat).1
        rw [HLEN.out] at this
        exact this
      have hone := spl_at c t.data.toList o hat hbef
      have HONE := Lib.hid hone
      clear hq hone hat hbef ho hge
      go_wp2_with (first
        | (go_at_call 73; refine (HI.out _).mono ?_; rintro e w' ⟨rfl, rfl⟩)
        | (at_builtin; refine wpList_append_own _ rfl (.tmp 16) (.tmp 20) 67 rfl w.heap.size 9 i0 (.string ⟨#[]⟩) 1 16 Tryz.underlying67 hi hz0 hz1 hz2 rfl (by decide) _ _ _ rfl (hown.alloc _) ⟨wr.heap.size, 0, none⟩ 1 1 [.string (t.extract 0 o)] rfl rfl (newCell wr _ (t.extract 0 o)) (oneCell_str _) (by unfold maxLen; omega) (by omega) (by have := hb.size; simp; omega) ?_))
      intro v' w1 hown' hgrow _
      have R := grow_strs (w := w) (extract_str t 0 o) hown hb hb.size hown' hgrow
      clear hown' hgrow hown hb
      go_wp2
      go_roundw
      case rel => exact ⟨t.extract (o + 1) t.size, P ++ [(t.data.toList.drop 0).take (o - 0)], rfl, by rw [extract_rest_size]; simp; omega, by rw [HSP.out, HONE.out, extract_rest]; simp, R.1, R.2⟩
      case measure => show (t.extract (o + 1) t.size).size < t.size; rw [extract_rest_size]; omega
#print axioms implSplit_any
end Go.Proofs.YtjjjdieljljcoaaGreatDoor

/-
  laws.FnExactSplitByte answers true at every string and byte; behind the call nothing that was there has turned.
-/
namespace Go.Proofs.YtjjjdieljljcoaaGreatDoor
open Go.RowKit
/-- Where there is a piece the slice is not nil. -/
theorem SplPost.form {ps : List (List UInt8)} {w : World} {e : Ending} {w' : World} (h : SplPost ps w e w') (hne : ps ≠ []) :
    ∃ g c, e = .returned (.slice (some ⟨g, 0, none⟩) ps.length c) ∧ w'.ownsRow w.heap.size 9 1 (.slice (some ⟨g, 0, none⟩) ps.length c) ps.length (strs ps) ∧ Below w.heap.size w w' := by
  obtain ⟨v, rfl, hown, hb⟩ := h
  rcases hown.2 with ⟨_, h0⟩ | ⟨g, cap, cur, rfl, _⟩
  · exact absurd (List.eq_nil_of_length_eq_zero h0) hne
  · exact ⟨g, cap, rfl, hown, hb⟩

/-- An own row over calls that turn nothing old. -/
theorem own_below {w w' : World} {B : Nat} {e : TypeId} {size n g c : Nat} {xs : List Value} (h : w.ownsRow B e size (.slice (some ⟨g, 0, none⟩) n c) n xs) (hb : Below w.heap.size w w') : w'.ownsRow B e size (.slice (some ⟨g, 0, none⟩) n c) n xs :=
  h.kept (grown_of_below hb none) (.inr (by simp [Value.ownBlock]))
theorem own_other {w w' : World} {B : Nat} {e : TypeId} {size n g g' c : Nat} {xs : List Value} (h : w.ownsRow B e size (.slice (some ⟨g, 0, none⟩) n c) n xs) (hg : w.grownBy w' (some g')) (hne : g ≠ g') : w'.ownsRow B e size (.slice (some ⟨g, 0, none⟩) n c) n xs :=
  h.kept hg (.inr (by simpa [Value.ownBlock] using hne))

end Go.Proofs.YtjjjdieljljcoaaGreatDoor

/-
  What impl.joinFits and impl.Join answer over a row of strings of the caller's own: the joined bytes, none where they are too many. Behind the call nothing that was there has turned.
-/
namespace Go.Proofs.YtjjjdieljljcoaaGreatDoor
open Go.RowKit
set_option maxRecDepth 100000 in
set_option maxHeartbeats 800000 in
theorem fits_yes (A : Option Addr) (c : Nat) (ps : List (List UInt8)) (sep : ByteArray) (w : World) (h : SL w w.heap.size A ps.length ps) (hn : ps.length ≤ 1048576) (hl : Lib.lens ps ≤ 1048576) (hsep : sep.size ≤ 1048576)
    (hq : (Lib.join ps sep.data.toList).length ≤ 1048576) :
    Calls Tryz.prog 71 #[.slice A ps.length c, .string sep] w fun e w' => e = .returned (.bool true) ∧ w = w' := by
  have HS := Lib.hid h
  have HQ := Lib.hid hq
  clear h hq
  go_enter Tryz.func71, Tryz.ntmps71
  go_wp2
  go_loop [5, 10] (fun sv i => ∃ k : Nat, i = .int .i64 k ∧ k ≤ ps.length ∧ (Lib.join (ps.take k) sep.data.toList).length ≤ 1048576 ∧ sv = .int .i64 ((Lib.join (ps.take k) sep.data.toList).length : Nat)) (fun _ i => ps.length - (intOf i).toNat)
  case atStart => exact ⟨0, rfl, Nat.zero_le _, by simp [Lib.join_nil], by simp [Lib.join_nil]⟩
  case round =>
    obtain ⟨k, rfl, hk, hle, rfl⟩ := hrel
    obtain ⟨L, hL⟩ : ∃ L, L = Lib.join (ps.take k) sep.data.toList := ⟨_, rfl⟩
    rw [← hL] at hle ⊢
    have HL := Lib.hid hL
    clear hL
    by_cases hlt : k < ps.length
    · obtain ⟨p, hp⟩ : ∃ p, ps[k]? = some p := ⟨_, List.getElem?_eq_getElem hlt⟩
      obtain ⟨ad, rfl, hblk, hc⟩ := HS.out.2 k p hp
      have hpl := elem_le_lens hp
      have HP := Lib.hid hp
      clear hp
      by_cases hk0 : 0 < k
      · have hj : Lib.join (ps.take (k + 1)) sep.data.toList = L ++ sep.data.toList ++ p := by rw [join_step HP.out hk0, ← HL.out]
        have HJ := Lib.hid (show (Lib.join (ps.take (k + 1)) sep.data.toList).length = L.length + sep.size + p.length by rw [hj]; simp [Nat.add_assoc])
        clear hj
        by_cases hfit : L.length + sep.size + p.length ≤ 1048576
        · go_wp2
          go_round
          case rel => exact ⟨k + 1, by go_num, by omega, by rw [HJ.out]; exact hfit, by rw [HJ.out]; go_num⟩
          case measure => simp [intOf]; omega
        · exact absurd (Nat.le_trans (join_take_le ps sep.data.toList (k + 1)) HQ.out) (by rw [HJ.out]; exact hfit)
      · have hj : Lib.join (ps.take (k + 1)) sep.data.toList = L ++ p := by
          obtain rfl : k = 0 := by omega
          rw [join_first HP.out, HL.out]
          simp [Lib.join_nil]
        have HJ := Lib.hid (show (Lib.join (ps.take (k + 1)) sep.data.toList).length = L.length + p.length by rw [hj]; simp)
        clear hj
        by_cases hfit : L.length + p.length ≤ 1048576
        · go_wp2
          go_round
          case rel => exact ⟨k + 1, by go_num, by omega, by rw [HJ.out]; exact hfit, by rw [HJ.out]; go_num⟩
          case measure => simp [intOf]; omega
        · exact absurd (Nat.le_trans (join_take_le ps sep.data.toList (k + 1)) HQ.out) (by rw [HJ.out]; exact hfit)
    · obtain rfl : k = ps.length := by omega
      have e : ps.take ps.length = ps := List.take_of_length_le (Nat.le_refl _)
      have HL' := HL.out
      rw [e] at HL'
      have HF := Lib.hid HL'
      clear HL' e
      go_wp2
      go_ret
      exact ⟨rfl, rfl⟩

set_option maxRecDepth 100000 in
set_option maxHeartbeats 800000 in
theorem fits_no (A : Option Addr) (c : Nat) (ps : List (List UInt8)) (sep : ByteArray) (w : World) (h : SL w w.heap.size A ps.length ps) (hn : ps.length ≤ 1048576) (hl : Lib.lens ps ≤ 1048576) (hsep : sep.size ≤ 1048576)
    (hq : ¬ (Lib.join ps sep.data.toList).length ≤ 1048576) :
    Calls Tryz.prog 71 #[.slice A ps.length c, .string sep] w fun e w' => e = .returned (.bool false) ∧ w = w' := by
  have HS := Lib.hid h
  have HQ := Lib.hid hq
  clear h hq
  go_enter Tryz.func71, Tryz.ntmps71
  go_wp2
  go_loop [5, 10] (fun sv i => ∃ k : Nat, i = .int .i64 k ∧ k ≤ ps.length ∧ (Lib.join (ps.take k) sep.data.toList).length ≤ 1048576 ∧ sv = .int .i64 ((Lib.join (ps.take k) sep.data.toList).length : Nat)) (fun _ i => ps.length - (intOf i).toNat)
  case atStart => exact ⟨0, rfl, Nat.zero_le _, by simp [Lib.join_nil], by simp [Lib.join_nil]⟩
  case round =>
    obtain ⟨k, rfl, hk, hle, rfl⟩ := hrel
    obtain ⟨L, hL⟩ : ∃ L, L = Lib.join (ps.take k) sep.data.toList := ⟨_, rfl⟩
    rw [← hL] at hle ⊢
    have HL := Lib.hid hL
    clear hL
    by_cases hlt : k < ps.length
    · obtain ⟨p, hp⟩ : ∃ p, ps[k]? = some p := ⟨_, List.getElem?_eq_getElem hlt⟩
      obtain ⟨ad, rfl, hblk, hc⟩ := HS.out.2 k p hp
      have hpl := elem_le_lens hp
      have HP := Lib.hid hp
      clear hp
      by_cases hk0 : 0 < k
      · have hj : Lib.join (ps.take (k + 1)) sep.data.toList = L ++ sep.data.toList ++ p := by rw [join_step HP.out hk0, ← HL.out]
        have HJ := Lib.hid (show (Lib.join (ps.take (k + 1)) sep.data.toList).length = L.length + sep.size + p.length by rw [hj]; simp [Nat.add_assoc])
        clear hj
        by_cases hfit : L.length + sep.size + p.length ≤ 1048576
        · go_wp2
          go_round
          case rel => exact ⟨k + 1, by go_num, by omega, by rw [HJ.out]; exact hfit, by rw [HJ.out]; go_num⟩
          case measure => simp [intOf]; omega
        · go_wp2
          go_ret
          exact ⟨rfl, rfl⟩
      · have hj : Lib.join (ps.take (k + 1)) sep.data.toList = L ++ p := by
          obtain rfl : k = 0 := by omega
          rw [join_first HP.out, HL.out]
          simp [Lib.join_nil]
        have HJ := Lib.hid (show (Lib.join (ps.take (k + 1)) sep.data.toList).length = L.length + p.length by rw [hj]; simp)
        clear hj
        by_cases hfit : L.length + p.length ≤ 1048576
        · go_wp2
          go_round
          case rel => exact ⟨k + 1, by go_num, by omega, by rw [HJ.out]; exact hfit, by rw [HJ.out]; go_num⟩
          case measure => simp [intOf]; omega
        · go_wp2
          go_ret
          exact ⟨rfl, rfl⟩
    · obtain rfl : k = ps.length := by omega
      have e : ps.take ps.length = ps := List.take_of_length_le (Nat.le_refl _)
      have HL' := HL.out
      rw [e] at HL'
      have HF := Lib.hid HL'
      clear HL' e
      exact absurd (by rw [← HF.out]; exact hle) HQ.out

set_option maxRecDepth 100000 in
set_option maxHeartbeats 800000 in
theorem implJoin_any (g c B : Nat) (ps : List (List UInt8)) (sep : ByteArray) (w : World) (hown : w.ownsRow B 9 1 (.slice (some ⟨g, 0, none⟩) ps.length c) ps.length (strs ps)) (hn : ps.length ≤ 1048576) (hl : Lib.lens ps ≤ 1048576) (hsep : sep.size ≤ 1048576) :
    Calls Tryz.prog 35 #[.slice (some ⟨g, 0, none⟩) ps.length c, .string sep] w (JoinPost (joined ps sep.data.toList) w) := by
  by_cases hq : (Lib.join ps sep.data.toList).length ≤ 1048576
  · have HF := Lib.hid (fits_yes (some ⟨g, 0, none⟩) c ps sep w (own_SL hown) hn hl hsep hq)
    have HJ := Lib.hid (libJoin_any g c B ps sep w hown hn hq)
    have HQ := Lib.hid (joined_yes hq)
    clear hown hq
    go_enter Tryz.func35, Tryz.ntmps35
    go_wp2_with (first
      | (go_at_call 71; refine HF.out.mono ?_; rintro e w1 ⟨rfl, rfl⟩)
      | (go_at_call 72; refine HJ.out.mono ?_; rintro e w2 ⟨rfl, hb2⟩))
    go_ret
    exact ⟨by rw [HQ.out]; rfl, hb2⟩
  · have HF := Lib.hid (fits_no (some ⟨g, 0, none⟩) c ps sep w (own_SL hown) hn hl hsep hq)
    have HQ := Lib.hid (joined_no hq)
    clear hown hq
    go_enter Tryz.func35, Tryz.ntmps35
    go_wp2_with (go_at_call 71; refine HF.out.mono ?_; rintro e w1 ⟨rfl, rfl⟩)
    go_ret
    exact ⟨by rw [HQ.out]; rfl, Below.refl _ _⟩
end Go.Proofs.YtjjjdieljljcoaaGreatDoor
