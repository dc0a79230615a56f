/-
  Texts of one proof, one behind the other.
-/
import Derived.Deep.RegionHeld3
import Derived.Test.YtjjjdieljljcoaaGreatDoorxPVPack6

/-
  laws.FnExactVarsOfConstraint answers true at every constraint, where both sides answer alike.
-/
namespace Go.Proofs.YtjjjdieljljcoaaGreatDoor
open Go.RowKit

set_option maxRecDepth 100000 in
set_option maxHeartbeats 6400000 in
theorem cxLS_law (c : Cx) (xu vc : Value) (y : ByteArray) (w : World) (h : CnV w xu vc c) (HS0 : wtC c ≤ 1048576 → ∀ (V : World) (xu vc : Value), Below w.heap.size w V → CnO V xu vc c → Calls Tryz.prog 20 #[.agg #[.int .i64 c.k, .string c.l, .string c.r, .int .i64 c.xk, .string c.xl, xu, vc, .int .i64 c.b]] V fun e w' => e = .returned (.string y) ∧ Below V.heap.size V w') (HI0 : wtC c ≤ 1048576 → ∀ (V : World) (xu vc : Value), Below w.heap.size w V → CnO V xu vc c → Calls Tryz.prog 19 #[.agg #[.int .i64 c.k, .string c.l, .string c.r, .int .i64 c.xk, .string c.xl, xu, vc, .int .i64 c.b]] V fun e w' => e = .returned (.string y) ∧ Below V.heap.size V w') :
    Calls Tryz.prog 6 #[.agg #[.int .i64 c.k, .string c.l, .string c.r, .int .i64 c.xk, .string c.xl, xu, vc, .int .i64 c.b]] w fun e w' => e = .returned (.bool true) ∧ Below w.heap.size w w' := by
  obtain ⟨A, m, B, r, rfl, rfl⟩ := h.shape
  obtain ⟨W, hW⟩ : ∃ W, W = w.alloc (.cells #[.int .i64 c.k, .string c.l, .string c.r, .int .i64 c.xk, .string c.xl, .slice A c.xa.items.length m, .slice B c.cs.length r, .int .i64 c.b] 47) := ⟨_, rfl⟩
  have hb0 : Below w.heap.size w W := by rw [hW]; exact (Below.refl _ _).alloc (Nat.le_refl _) _
  have hzW : W.heap.size = w.heap.size + 1 := by rw [hW]; simp
  have hbx : BoxC W w.heap.size c (.slice A c.xa.items.length m) (.slice B c.cs.length r) := by rw [hW]; exact boxC_new w c _ _ _
  have HWE := Lib.hid hW
  have HB0 := Lib.hid hb0
  have HZW := Lib.hid hzW
  have HCX := Lib.hid (fun (V : World) (hb : Below W.heap.size W V) => (hbx.kept hb).cells)
  have HSZ := Lib.hid (szC_any c _ _ 1048576 W (h.kept hb0) (by omega) (by omega))
  have hcW := hbx.cells
  rw [hW] at hcW
  obtain ⟨c0, c1, c2, c3, c4, c5, c6, c7⟩ := hcW
  by_cases hfit : wtC c ≤ 1048576
  · have HT := Lib.hid (fun (V : World) (hb : Below W.heap.size W V) => toC_any c _ _ V (h.kept (hb0.trans (hb.mono hb0.size))) (by omega))
    have HS := Lib.hid (fun (V : World) (xu vc : Value) (hb : Below W.heap.size W V) (hc : CnO V xu vc c) => HS0 hfit V xu vc (hb0.trans (hb.mono hb0.size)) hc)
    have HI := Lib.hid (fun (V : World) (xu vc : Value) (hb : Below W.heap.size W V) (hc : CnO V xu vc c) => HI0 hfit V xu vc (hb0.trans (hb.mono hb0.size)) hc)
    obtain ⟨q, hq⟩ : ∃ q : Int, q = 1048576 - (wtC c : Int) := ⟨_, rfl⟩
    have HQ := Lib.hid ((leftOf_yes (m := wtC c) (z := 1048576) (by omega)).trans hq.symm)
    have hq0 : ¬ q < 0 := by omega
    have hny : (y.toList != y.toList) = false := bne_self_eq_false _
    clear hW hb0 hzW hbx h HS0 HI0 hfit hq
    go_enter Tryz.func6, Tryz.ntmps6
    go_wp2_with fail
    rw [← HWE.out]
    refine HSZ.out.mono ?_
    rintro e w1 ⟨he, hb1⟩
    rw [HQ.out] at he
    subst he
    have HB1 := Lib.hid hb1
    clear hb1 c0 c1 c2 c3 c4 c5 c6 c7
    obtain ⟨c0, c1, c2, c3, c4, c5, c6, c7⟩ := HCX.out w1 HB1.out
    go_wp2_with fail
    refine (HT.out w1 HB1.out).mono ?_
    rintro e w2 hp
    obtain ⟨A2, m2, B2, r2, rfl, ht2, hb2⟩ := hp.shape
    have HT2 := Lib.hid ht2.con
    have HB2 := Lib.hid (HB1.out.trans (hb2.mono HB1.out.size))
    clear hp ht2 hb2 c0 c1 c2 c3 c4 c5 c6 c7
    go_wp2_with fail
    refine (HS.out w2 _ _ HB2.out HT2.out).mono ?_
    rintro e w3 ⟨rfl, hb3⟩
    have HB3 := Lib.hid (HB2.out.trans (hb3.mono HB2.out.size))
    clear hb3
    obtain ⟨c0, c1, c2, c3, c4, c5, c6, c7⟩ := HCX.out w3 HB3.out
    go_wp2_with fail
    refine (HT.out w3 HB3.out).mono ?_
    rintro e w4 hp
    obtain ⟨A4, m4, B4, r4, rfl, ht4, hb4⟩ := hp.shape
    have HB4 := Lib.hid (HB3.out.trans (hb4.mono HB3.out.size))
    have HT4 := Lib.hid (ht4.con.kept (w' := w4.alloc (.cells #[.int .i64 c.k, .string c.l, .string c.r, .int .i64 c.xk, .string c.xl, .slice A4 c.xa.items.length m4, .slice B4 c.cs.length r4, .int .i64 c.b] 29)) ((Below.refl _ _).alloc (Nat.le_refl _) _))
    clear hp ht4 hb4 c0 c1 c2 c3 c4 c5 c6 c7
    go_wp2_with fail
    obtain ⟨W5, hW5⟩ : ∃ W5, W5 = w4.alloc (.cells #[.int .i64 c.k, .string c.l, .string c.r, .int .i64 c.xk, .string c.xl, .slice A4 c.xa.items.length m4, .slice B4 c.cs.length r4, .int .i64 c.b] 29) := ⟨_, rfl⟩
    have hb45 : Below w4.heap.size w4 W5 := by rw [hW5]; exact (Below.refl _ _).alloc (Nat.le_refl _) _
    have hbx5 : BoxC W5 w4.heap.size c (.slice A4 c.xa.items.length m4) (.slice B4 c.cs.length r4) := by rw [hW5]; exact boxC_new w4 c _ _ _
    rw [← hW5] at HT4 ⊢
    have HB5 := Lib.hid (HB4.out.trans (hb45.mono HB4.out.size))
    have HX5 := Lib.hid (fun (V : World) (hb : Below W5.heap.size W5 V) => (hbx5.kept hb).cells)
    clear hW5 hb45 hbx5
    refine (HI.out W5 _ _ HB5.out HT4.out).mono ?_
    rintro e w6 ⟨rfl, hb6⟩
    have HB56 := Lib.hid hb6
    have HB6 := Lib.hid (HB5.out.trans (hb6.mono HB5.out.size))
    have HT6 := Lib.hid (HT4.out.kept hb6)
    clear hb6
    go_wp2_with fail
    have HKB : Hid (∀ X, Below w6.heap.size w6 X → X.cell? ⟨w4.heap.size, 0, none⟩ = some (.int .i64 c.k) ∧ X.cell? ⟨w4.heap.size, 1, none⟩ = some (.string c.l) ∧ X.cell? ⟨w4.heap.size, 2, none⟩ = some (.string c.r) ∧ X.cell? ⟨w4.heap.size, 3, none⟩ = some (.int .i64 c.xk) ∧ X.cell? ⟨w4.heap.size, 4, none⟩ = some (.string c.xl) ∧ X.cell? ⟨w4.heap.size, 5, none⟩ = some (.slice A4 c.xa.items.length m4) ∧ X.cell? ⟨w4.heap.size, 6, none⟩ = some (.slice B4 c.cs.length r4) ∧ X.cell? ⟨w4.heap.size, 7, none⟩ = some (.int .i64 c.b) ∧ X.cell? ⟨w.heap.size, 0, none⟩ = some (.int .i64 c.k) ∧ X.cell? ⟨w.heap.size, 1, none⟩ = some (.string c.l) ∧ X.cell? ⟨w.heap.size, 2, none⟩ = some (.string c.r) ∧ X.cell? ⟨w.heap.size, 3, none⟩ = some (.int .i64 c.xk) ∧ X.cell? ⟨w.heap.size, 4, none⟩ = some (.string c.xl) ∧ X.cell? ⟨w.heap.size, 5, none⟩ = some (.slice A c.xa.items.length m) ∧ X.cell? ⟨w.heap.size, 6, none⟩ = some (.slice B c.cs.length r) ∧ X.cell? ⟨w.heap.size, 7, none⟩ = some (.int .i64 c.b)) := Lib.hid (fun X hb => by
      obtain ⟨a0, a1, a2, a3, a4, a5, a6, a7⟩ := HX5.out X (HB56.out.trans (hb.mono HB56.out.size))
      obtain ⟨d0, d1, d2, d3, d4, d5, d6, d7⟩ := HCX.out X (HB6.out.trans (hb.mono HB6.out.size))
      exact ⟨a0, a1, a2, a3, a4, a5, a6, a7, d0, d1, d2, d3, d4, d5, d6, d7⟩)
    have HTk := Lib.hid (fun (X : World) (hb : Below w6.heap.size w6 X) => HT.out X (HB6.out.trans (hb.mono HB6.out.size)))
    have HEQ := Lib.hid (fun (X : World) (u' v' : Value) (hb : Below w6.heap.size w6 X) (hc : CnO X u' v' c) => eqC_any c (.slice A4 c.xa.items.length m4) (.slice B4 c.cs.length r4) u' v' X (HT6.out.kept hb) hc)
    have hbw : Below w6.heap.size w6 w6 := Below.refl _ _
    go_region_held3 (fun X => X.cell? ⟨w4.heap.size, 0, none⟩ = some (.int .i64 c.k) ∧ X.cell? ⟨w4.heap.size, 1, none⟩ = some (.string c.l) ∧ X.cell? ⟨w4.heap.size, 2, none⟩ = some (.string c.r) ∧ X.cell? ⟨w4.heap.size, 3, none⟩ = some (.int .i64 c.xk) ∧ X.cell? ⟨w4.heap.size, 4, none⟩ = some (.string c.xl) ∧ X.cell? ⟨w4.heap.size, 5, none⟩ = some (.slice A4 c.xa.items.length m4) ∧ X.cell? ⟨w4.heap.size, 6, none⟩ = some (.slice B4 c.cs.length r4) ∧ X.cell? ⟨w4.heap.size, 7, none⟩ = some (.int .i64 c.b) ∧ X.cell? ⟨w.heap.size, 0, none⟩ = some (.int .i64 c.k) ∧ X.cell? ⟨w.heap.size, 1, none⟩ = some (.string c.l) ∧ X.cell? ⟨w.heap.size, 2, none⟩ = some (.string c.r) ∧ X.cell? ⟨w.heap.size, 3, none⟩ = some (.int .i64 c.xk) ∧ X.cell? ⟨w.heap.size, 4, none⟩ = some (.string c.xl) ∧ X.cell? ⟨w.heap.size, 5, none⟩ = some (.slice A c.xa.items.length m) ∧ X.cell? ⟨w.heap.size, 6, none⟩ = some (.slice B c.cs.length r) ∧ X.cell? ⟨w.heap.size, 7, none⟩ = some (.int .i64 c.b)) (with_reducible first | exact HKB.out _ hbw.drew | exact HKB.out _ hbw) (first | (go_at_call 26; (with_reducible refine (HTk.out _ hbw.drew).mono ?_); rintro e wa hp; obtain ⟨A7, m7, B7, r7, rfl, ht7, hb7⟩ := hp.shape; clear hp; have hbw := hbw.drew.trans (hb7.mono hbw.drew.size)) | (go_at_call 27; (with_reducible refine (HEQ.out _ _ _ ?hq1 ?hq2).mono ?_); (case hq1 => (first | exact hbw | exact hbw.drew)); (case hq2 => exact ht7.con); rintro e wb ⟨rfl, hb8⟩; (first | (have hbw := hbw.trans (hb8.mono hbw.size)) | (have hbw := hbw.drew.trans (hb8.mono hbw.drew.size)))))
    all_goals
      have HBZ := Lib.hid (HB6.out.trans (hbw.mono HB6.out.size))
      clear hbw ht7 hb7 hb8
      go_wp2_with fail
      go_ret
      exact ⟨rfl, HB0.out.trans (HBZ.out.mono HB0.out.size)⟩
  · have HQ := Lib.hid (leftOf_no (m := wtC c) (z := 1048576) (by omega))
    clear hW hb0 hzW hbx h HS0 HI0 hfit
    go_enter Tryz.func6, Tryz.ntmps6
    go_wp2_with fail
    rw [← HWE.out]
    refine HSZ.out.mono ?_
    rintro e w1 ⟨he, hb1⟩
    rw [HQ.out] at he
    subst he
    have HB1 := Lib.hid hb1
    clear hb1 c0 c1 c2 c3 c4 c5 c6 c7
    go_wp2_with fail
    go_ret
    exact ⟨rfl, HB0.out.trans (HB1.out.mono HB0.out.size)⟩
end Go.Proofs.YtjjjdieljljcoaaGreatDoor

/-
  What spec.VarsOfConstraint answers.
-/
namespace Go.Proofs.YtjjjdieljljcoaaGreatDoor
open Go.RowKit

theorem strL_two (l r : ByteArray) : l ++ r = strL (l.data.toList ++ r.data.toList) := by
  rw [← strL_app l.data.toList r.data.toList (t := r) rfl, strL_self]
theorem varsX_valid {c : Cx} (h : validX c = true) : varsX c = varsL (c.l.data.toList ++ c.r.data.toList ++ coefL 0 c.cs) := if_pos h
theorem coefL_three0 (a d e : Int) (k : Nat) (hk : k < 3) : coefL 0 ([a, d, e].take (k + 1)) = coefL 0 ([a, d, e].take k) ++ (if [a, d, e].getD k 0 ≠ 0 then [UInt8.ofNat (88 + k)] else []) := by
  match k, hk with
  | 0, _ => simp [coefL]
  | 1, _ => simp [coefL]
  | 2, _ => simp [coefL]
def cofK (a d e : Int) (j : Nat) : List UInt8 := coefL 0 ([a, d, e].take j)
theorem coefL_three (a d e : Int) (k : Nat) (hk : k < 3) : cofK a d e (k + 1) = cofK a d e k ++ (if [a, d, e].getD k 0 ≠ 0 then [UInt8.ofNat (88 + k)] else []) := coefL_three0 a d e k hk
theorem strL_add (l m : List UInt8) {t : ByteArray} (h : t.data.toList = m) : Value.string (strL l ++ t) = .string (strL (l ++ m)) := congrArg Value.string (strL_app l m h)

set_option maxRecDepth 100000 in
set_option maxHeartbeats 6400000 in
theorem specVarsC_any (c : Cx) (xu vc : Value) (w : World) (h : CnO w xu vc c) (hsz : c.xa.size ≤ 2097152) :
    Calls Tryz.prog 20 #[.agg #[.int .i64 c.k, .string c.l, .string c.r, .int .i64 c.xk, .string c.xl, xu, vc, .int .i64 c.b]] w fun e w' => e = .returned (.string (strL (varsX c))) ∧ Below w.heap.size w w' := by
  obtain ⟨A, m, B, r, rfl, rfl⟩ := h.shape
  obtain ⟨W, hW⟩ : ∃ W, W = w.alloc (.cells #[.int .i64 c.k, .string c.l, .string c.r, .int .i64 c.xk, .string c.xl, .slice A c.xa.items.length m, .slice B c.cs.length r, .int .i64 c.b] 29) := ⟨_, rfl⟩
  have hb0 : Below w.heap.size w W := by rw [hW]; exact (Below.refl _ _).alloc (Nat.le_refl _) _
  have hbx : BoxC W w.heap.size c (.slice A c.xa.items.length m) (.slice B c.cs.length r) := by rw [hW]; exact boxC_new w c _ _ _
  have HWE := Lib.hid hW
  have HB0 := Lib.hid hb0
  have HVC := Lib.hid (fun (V : World) (hb : Below W.heap.size W V) => specVC_any c _ _ V (h.kept (hb0.trans (hb.mono hb0.size))) hsz)
  have HCX := Lib.hid (fun (V : World) (hb : Below W.heap.size W V) => (hbx.kept hb).cells)
  have HRW := Lib.hid (fun (V : World) (hb : Below W.heap.size W V) => (h.kept (hb0.trans (hb.mono hb0.size))).2.2)
  have hcW := hbx.cells
  rw [hW] at hcW
  obtain ⟨c0, c1, c2, c3, c4, c5, c6, c7⟩ := hcW
  clear hW hbx hb0 h
  cases hv : validX c with
  | false =>
    rw [hv] at HVC
    have HR := Lib.hid (show varsX c = [] by unfold varsX; rw [hv]; rfl)
    clear hv
    go_enter Tryz.func20, Tryz.ntmps20
    go_wp2_with fail
    rw [← HWE.out]
    refine (HVC.out W (Below.refl _ _)).mono ?_
    rintro e w1 ⟨rfl, hb1⟩
    have HB1 := Lib.hid hb1
    clear hb1 c0 c1 c2 c3 c4 c5 c6 c7
    go_wp2_with fail
    go_ret
    exact ⟨by rw [HR.out]; rfl, HB0.out.trans (HB1.out.mono HB0.out.size)⟩
  | true =>
    rw [hv] at HVC
    obtain ⟨hl, hr⟩ := valid_strs hv
    obtain ⟨L, hL⟩ : ∃ L, L = c.l.data.toList ++ c.r.data.toList := ⟨_, rfl⟩
    have hLl : L.length ≤ 24 := by
      rw [hL, List.length_append, show c.l.data.toList.length = c.l.size by simp, show c.r.data.toList.length = c.r.size by simp]
      omega
    have HL0 := Lib.hid (show c.l ++ c.r = strL L by rw [hL]; exact strL_two _ _)
    have HRX := Lib.hid (show varsX c = varsL (L ++ coefL 0 c.cs) by rw [hL]; exact varsX_valid hv)
    have hcs := valid_cs hv
    clear hL hv
    obtain ⟨k, l, rr, xk, xl, xa, cs, b⟩ := c
    simp only at *
    rcases hcs with rfl | ⟨a, d, e, rfl, ha, hd, he⟩
    · have HV := Lib.hid (fun w => specVars_any (strL L) w (by rw [strL_size]; unfold maxLen; omega))
      have HRY := Lib.hid (show varsX ⟨k, l, rr, xk, xl, xa, [], b⟩ = varsL (strL L).data.toList by rw [HRX.out, strL_list, coefL, List.append_nil])
      have c6' := c6
      change _ = some (Value.slice B 0 r) at c6'
      have hCX : ∀ V, Below W.heap.size W V → V.cell? ⟨w.heap.size, 1, none⟩ = some (.string l) ∧ V.cell? ⟨w.heap.size, 2, none⟩ = some (.string rr) ∧ V.cell? ⟨w.heap.size, 6, none⟩ = some (.slice B 0 r) := fun V hb => ⟨(HCX.out V hb).2.1, (HCX.out V hb).2.2.1, (HCX.out V hb).2.2.2.2.2.2.1⟩
      have HCY := Lib.hid hCX
      have HWE3 : Hid (W = w.alloc (.cells #[.int .i64 k, .string l, .string rr, .int .i64 xk, .string xl, .slice A xa.items.length m, .slice B 0 r, .int .i64 b] 29)) := Lib.hid HWE.out
      clear c6 hCX
      go_enter Tryz.func20, Tryz.ntmps20
      go_wp2_with fail
      rw [← HWE3.out]
      refine (HVC.out W (Below.refl _ _)).mono ?_
      rintro e w1 ⟨rfl, hb1⟩
      have HB1 := Lib.hid hb1
      clear hb1 c0 c1 c2 c3 c4 c5 c6' c7
      obtain ⟨c1, c2, c6⟩ := HCY.out w1 HB1.out
      go_wp2_with fail
      go_loop [3, 4] (fun s i => s = .string (strL L) ∧ i = .int .i64 0) (fun _ _ => 0)
      case atStart => exact ⟨congrArg Value.string HL0.out, rfl⟩
      case round =>
        obtain ⟨rfl, rfl⟩ := hrel
        go_wp2_with (go_at_call 52; (with_reducible refine (HV.out _).mono ?_); rintro e w' ⟨rfl, rfl⟩)
        go_ret
        exact ⟨congrArg (fun z => Ending.returned (.string (strL z))) HRY.out.symm, HB0.out.trans (HB1.out.mono HB0.out.size)⟩
    · have hcl : (cofK a d e 3).length ≤ 3 := by
        simp only [cofK, List.take, coefL, List.length_append, List.length_nil]
        split <;> split <;> split <;> simp
      have HV := Lib.hid (fun w => specVars_any (strL (L ++ cofK a d e 3)) w (by rw [strL_size, List.length_append]; unfold maxLen; omega))
      have HRY := Lib.hid (show varsX ⟨k, l, rr, xk, xl, xa, [a, d, e], b⟩ = varsL (strL (L ++ cofK a d e 3)).data.toList by rw [HRX.out, strL_list]; rfl)
      have c6' := c6
      change _ = some (Value.slice B 3 r) at c6'
      have hCX : ∀ V, Below W.heap.size W V → V.cell? ⟨w.heap.size, 1, none⟩ = some (.string l) ∧ V.cell? ⟨w.heap.size, 2, none⟩ = some (.string rr) ∧ V.cell? ⟨w.heap.size, 6, none⟩ = some (.slice B 3 r) := fun V hb => ⟨(HCX.out V hb).2.1, (HCX.out V hb).2.2.1, (HCX.out V hb).2.2.2.2.2.2.1⟩
      have HCY := Lib.hid hCX
      have HWE3 : Hid (W = w.alloc (.cells #[.int .i64 k, .string l, .string rr, .int .i64 xk, .string xl, .slice A xa.items.length m, .slice B 3 r, .int .i64 b] 29)) := Lib.hid HWE.out
      have hlen : ∀ j, (cofK a d e j).length ≤ 3 := fun j => by
        match j with
        | 0 => simp [cofK, coefL]
        | 1 => simp only [cofK, List.take, coefL]; split <;> simp
        | 2 => simp only [cofK, List.take, coefL]; split <;> split <;> simp
        | j + 3 => simpa [cofK] using hcl
      have HLN := Lib.hid hlen
      clear c6 hCX hcl hlen ha hd he
      go_enter Tryz.func20, Tryz.ntmps20
      go_wp2_with fail
      rw [← HWE3.out]
      refine (HVC.out W (Below.refl _ _)).mono ?_
      rintro e' w1 ⟨rfl, hb1⟩
      have HB1 := Lib.hid hb1
      obtain ⟨g, rfl, q0, q1, q2⟩ := three_ints (a := a) (d := d) (e := e) (HRW.out w1 hb1)
      clear hb1 c0 c1 c2 c3 c4 c5 c6' c7
      obtain ⟨c1, c2, c6⟩ := HCY.out w1 HB1.out
      go_wp2_with fail
      go_loop [3, 4] (fun s i => ∃ j : Nat, j ≤ 3 ∧ (i = .int .i64 0 ∧ j = 0 ∨ i = .int .i64 1 ∧ j = 1 ∨ i = .int .i64 2 ∧ j = 2 ∨ i = .int .i64 3 ∧ j = 3) ∧ s = .string (strL (L ++ cofK a d e j))) (fun _ i => 3 - (intOf i).toNat)
      case atStart => exact ⟨0, Nat.zero_le _, Or.inl ⟨rfl, rfl⟩, by rw [HL0.out]; simp [cofK, coefL]⟩
      case round =>
        obtain ⟨j, hj, hij, rfl⟩ := hrel
        have hz0 := strL_size (L ++ cofK a d e j)
        rw [List.length_append] at hz0
        have hz1 := HLN.out j
        have hzs : (strL (L ++ cofK a d e j)).size ≤ 27 := by omega
        clear hz0 hz1
        rcases hij with ⟨rfl, rfl⟩ | ⟨rfl, rfl⟩ | ⟨rfl, rfl⟩ | ⟨rfl, rfl⟩
        · have HN := Lib.hid (coefL_three a d e 0 (by omega))
          by_cases hz : a = 0
          · have hz1 : (a == 0) = true := by simp [hz]
            have hz2 : (a != 0) = false := by simp [hz]
            have HN2 := Lib.hid (show cofK a d e 1 = cofK a d e 0 by rw [HN.out]; simp [hz])
            clear hz
            go_wp2_with fail
            go_round
            case rel => exact ⟨1, by omega, Or.inr (Or.inl ⟨rfl, rfl⟩), by rw [HN2.out]⟩
            case measure => simp [intOf]
          · have hz1 : (a == 0) = false := by simp [hz]
            have hz2 : (a != 0) = true := by simp [hz]
            have HN2 := Lib.hid (show cofK a d e 1 = cofK a d e 0 ++ [88] by rw [HN.out, if_pos (by simp [hz])]; rfl)
            clear hz
            go_wp2_with fail
            go_round
            case rel => exact ⟨1, by omega, Or.inr (Or.inl ⟨rfl, rfl⟩), by rw [HN2.out, ← List.append_assoc]; exact strL_add _ [88] rfl⟩
            case measure => simp [intOf]
        · have HN := Lib.hid (coefL_three a d e 1 (by omega))
          by_cases hz : d = 0
          · have hz1 : (d == 0) = true := by simp [hz]
            have hz2 : (d != 0) = false := by simp [hz]
            have HN2 := Lib.hid (show cofK a d e 2 = cofK a d e 1 by rw [HN.out]; simp [hz])
            clear hz
            go_wp2_with fail
            go_round
            case rel => exact ⟨2, by omega, Or.inr (Or.inr (Or.inl ⟨rfl, rfl⟩)), by rw [HN2.out]⟩
            case measure => simp [intOf]
          · have hz1 : (d == 0) = false := by simp [hz]
            have hz2 : (d != 0) = true := by simp [hz]
            have HN2 := Lib.hid (show cofK a d e 2 = cofK a d e 1 ++ [89] by rw [HN.out, if_pos (by simp [hz])]; rfl)
            clear hz
            go_wp2_with fail
            go_round
            case rel => exact ⟨2, by omega, Or.inr (Or.inr (Or.inl ⟨rfl, rfl⟩)), by rw [HN2.out, ← List.append_assoc]; exact strL_add _ [89] rfl⟩
            case measure => simp [intOf]
        · have HN := Lib.hid (coefL_three a d e 2 (by omega))
          by_cases hz : e = 0
          · have hz1 : (e == 0) = true := by simp [hz]
            have hz2 : (e != 0) = false := by simp [hz]
            have HN2 := Lib.hid (show cofK a d e 3 = cofK a d e 2 by rw [HN.out]; simp [hz])
            clear hz
            go_wp2_with fail
            go_round
            case rel => exact ⟨3, by omega, Or.inr (Or.inr (Or.inr (⟨rfl, rfl⟩))), by rw [HN2.out]⟩
            case measure => simp [intOf]
          · have hz1 : (e == 0) = false := by simp [hz]
            have hz2 : (e != 0) = true := by simp [hz]
            have HN2 := Lib.hid (show cofK a d e 3 = cofK a d e 2 ++ [90] by rw [HN.out, if_pos (by simp [hz])]; rfl)
            clear hz
            go_wp2_with fail
            go_round
            case rel => exact ⟨3, by omega, Or.inr (Or.inr (Or.inr (⟨rfl, rfl⟩))), by rw [HN2.out, ← List.append_assoc]; exact strL_add _ [90] rfl⟩
            case measure => simp [intOf]
        · go_wp2_with (go_at_call 52; (with_reducible refine (HV.out _).mono ?_); rintro e w' ⟨rfl, rfl⟩)
          go_ret
          exact ⟨congrArg (fun z => Ending.returned (.string (strL z))) HRY.out.symm, HB0.out.trans (HB1.out.mono HB0.out.size)⟩
end Go.Proofs.YtjjjdieljljcoaaGreatDoor

/-
  What impl.VarsOfConstraint answers.
-/
namespace Go.Proofs.YtjjjdieljljcoaaGreatDoor
open Go.RowKit

set_option maxRecDepth 100000 in
set_option maxHeartbeats 6400000 in
theorem implVarsC_any (c : Cx) (xu vc : Value) (w : World) (h : CnO w xu vc c) (hsz : c.xa.size ≤ 2097152) :
    Calls Tryz.prog 19 #[.agg #[.int .i64 c.k, .string c.l, .string c.r, .int .i64 c.xk, .string c.xl, xu, vc, .int .i64 c.b]] w fun e w' => e = .returned (.string (strL (varsX c))) ∧ Below w.heap.size w w' := by
  obtain ⟨A, m, B, r, rfl, rfl⟩ := h.shape
  obtain ⟨W, hW⟩ : ∃ W, W = w.alloc (.cells #[.int .i64 c.k, .string c.l, .string c.r, .int .i64 c.xk, .string c.xl, .slice A c.xa.items.length m, .slice B c.cs.length r, .int .i64 c.b] 29) := ⟨_, rfl⟩
  have hb0 : Below w.heap.size w W := by rw [hW]; exact (Below.refl _ _).alloc (Nat.le_refl _) _
  have hbx : BoxC W w.heap.size c (.slice A c.xa.items.length m) (.slice B c.cs.length r) := by rw [hW]; exact boxC_new w c _ _ _
  have HWE := Lib.hid hW
  have HB0 := Lib.hid hb0
  have HVC := Lib.hid (fun (V : World) (hb : Below W.heap.size W V) => implVC_any c _ _ V (h.kept (hb0.trans (hb.mono hb0.size))) hsz)
  have HCX := Lib.hid (fun (V : World) (hb : Below W.heap.size W V) => (hbx.kept hb).cells)
  have HRW := Lib.hid (fun (V : World) (hb : Below W.heap.size W V) => (h.kept (hb0.trans (hb.mono hb0.size))).2.2)
  have hcW := hbx.cells
  rw [hW] at hcW
  obtain ⟨c0, c1, c2, c3, c4, c5, c6, c7⟩ := hcW
  clear hW hbx hb0 h
  cases hv : validX c with
  | false =>
    rw [hv] at HVC
    have HR := Lib.hid (show varsX c = [] by unfold varsX; rw [hv]; rfl)
    clear hv
    go_enter Tryz.func19, Tryz.ntmps19
    go_wp2_with fail
    rw [← HWE.out]
    refine (HVC.out W (Below.refl _ _)).mono ?_
    rintro e w1 ⟨rfl, hb1⟩
    have HB1 := Lib.hid hb1
    clear hb1 c0 c1 c2 c3 c4 c5 c6 c7
    go_wp2_with fail
    go_ret
    exact ⟨by rw [HR.out]; rfl, HB0.out.trans (HB1.out.mono HB0.out.size)⟩
  | true =>
    rw [hv] at HVC
    obtain ⟨hl, hr⟩ := valid_strs hv
    obtain ⟨L, hL⟩ : ∃ L, L = c.l.data.toList ++ c.r.data.toList := ⟨_, rfl⟩
    have hLl : L.length ≤ 24 := by
      rw [hL, List.length_append, show c.l.data.toList.length = c.l.size by simp, show c.r.data.toList.length = c.r.size by simp]
      omega
    have HL0 := Lib.hid (show c.l ++ c.r = strL L by rw [hL]; exact strL_two _ _)
    have HRX := Lib.hid (show varsX c = varsL (L ++ coefL 0 c.cs) by rw [hL]; exact varsX_valid hv)
    have hcs := valid_cs hv
    clear hL hv
    obtain ⟨k, l, rr, xk, xl, xa, cs, b⟩ := c
    simp only at *
    rcases hcs with rfl | ⟨a, d, e, rfl, ha, hd, he⟩
    · have HV := Lib.hid (fun w => implVars_any (strL L) w)
      have HRY := Lib.hid (show varsX ⟨k, l, rr, xk, xl, xa, [], b⟩ = varsL (strL L).data.toList by rw [HRX.out, strL_list, coefL, List.append_nil])
      have c6' := c6
      change _ = some (Value.slice B 0 r) at c6'
      have hCX : ∀ V, Below W.heap.size W V → V.cell? ⟨w.heap.size, 1, none⟩ = some (.string l) ∧ V.cell? ⟨w.heap.size, 2, none⟩ = some (.string rr) ∧ V.cell? ⟨w.heap.size, 6, none⟩ = some (.slice B 0 r) := fun V hb => ⟨(HCX.out V hb).2.1, (HCX.out V hb).2.2.1, (HCX.out V hb).2.2.2.2.2.2.1⟩
      have HCY := Lib.hid hCX
      have HWE3 : Hid (W = w.alloc (.cells #[.int .i64 k, .string l, .string rr, .int .i64 xk, .string xl, .slice A xa.items.length m, .slice B 0 r, .int .i64 b] 29)) := Lib.hid HWE.out
      clear c6 hCX
      go_enter Tryz.func19, Tryz.ntmps19
      go_wp2_with fail
      rw [← HWE3.out]
      refine (HVC.out W (Below.refl _ _)).mono ?_
      rintro e w1 ⟨rfl, hb1⟩
      have HB1 := Lib.hid hb1
      clear hb1 c0 c1 c2 c3 c4 c5 c6' c7
      obtain ⟨c1, c2, c6⟩ := HCY.out w1 HB1.out
      go_wp2_with fail
      go_loop [3, 17] (fun s i => s = .string (strL L) ∧ i = .int .i64 0) (fun _ _ => 0)
      case atStart => exact ⟨congrArg Value.string HL0.out, rfl⟩
      case round =>
        obtain ⟨rfl, rfl⟩ := hrel
        go_wp2_with (go_at_call 51; (with_reducible refine (HV.out _).mono ?_); rintro e w2 ⟨rfl, hb2⟩)
        go_ret
        exact ⟨congrArg (fun z => Ending.returned (.string (strL z))) HRY.out.symm, HB0.out.trans ((HB1.out.trans (hb2.mono HB1.out.size)).mono HB0.out.size)⟩
    · have hcl : (cofK a d e 3).length ≤ 3 := by
        simp only [cofK, List.take, coefL, List.length_append, List.length_nil]
        split <;> split <;> split <;> simp
      have HV := Lib.hid (fun w => implVars_any (strL (L ++ cofK a d e 3)) w)
      have HRY := Lib.hid (show varsX ⟨k, l, rr, xk, xl, xa, [a, d, e], b⟩ = varsL (strL (L ++ cofK a d e 3)).data.toList by rw [HRX.out, strL_list]; rfl)
      have c6' := c6
      change _ = some (Value.slice B 3 r) at c6'
      have hCX : ∀ V, Below W.heap.size W V → V.cell? ⟨w.heap.size, 1, none⟩ = some (.string l) ∧ V.cell? ⟨w.heap.size, 2, none⟩ = some (.string rr) ∧ V.cell? ⟨w.heap.size, 6, none⟩ = some (.slice B 3 r) := fun V hb => ⟨(HCX.out V hb).2.1, (HCX.out V hb).2.2.1, (HCX.out V hb).2.2.2.2.2.2.1⟩
      have HCY := Lib.hid hCX
      have HWE3 : Hid (W = w.alloc (.cells #[.int .i64 k, .string l, .string rr, .int .i64 xk, .string xl, .slice A xa.items.length m, .slice B 3 r, .int .i64 b] 29)) := Lib.hid HWE.out
      have hlen : ∀ j, (cofK a d e j).length ≤ 3 := fun j => by
        match j with
        | 0 => simp [cofK, coefL]
        | 1 => simp only [cofK, List.take, coefL]; split <;> simp
        | 2 => simp only [cofK, List.take, coefL]; split <;> split <;> simp
        | j + 3 => simpa [cofK] using hcl
      have HLN := Lib.hid hlen
      clear c6 hCX hcl hlen ha hd he
      go_enter Tryz.func19, Tryz.ntmps19
      go_wp2_with fail
      rw [← HWE3.out]
      refine (HVC.out W (Below.refl _ _)).mono ?_
      rintro e' w1 ⟨rfl, hb1⟩
      have HB1 := Lib.hid hb1
      obtain ⟨g, rfl, q0, q1, q2⟩ := three_ints (a := a) (d := d) (e := e) (HRW.out w1 hb1)
      clear hb1 c0 c1 c2 c3 c4 c5 c6' c7
      obtain ⟨c1, c2, c6⟩ := HCY.out w1 HB1.out
      go_wp2_with fail
      go_loop [3, 17] (fun s i => ∃ j : Nat, j ≤ 3 ∧ (i = .int .i64 0 ∧ j = 0 ∨ i = .int .i64 1 ∧ j = 1 ∨ i = .int .i64 2 ∧ j = 2 ∨ i = .int .i64 3 ∧ j = 3) ∧ s = .string (strL (L ++ cofK a d e j))) (fun _ i => 3 - (intOf i).toNat)
      case atStart => exact ⟨0, Nat.zero_le _, Or.inl ⟨rfl, rfl⟩, by rw [HL0.out]; simp [cofK, coefL]⟩
      case round =>
        obtain ⟨j, hj, hij, rfl⟩ := hrel
        have hz0 := strL_size (L ++ cofK a d e j)
        rw [List.length_append] at hz0
        have hz1 := HLN.out j
        have hzs : (strL (L ++ cofK a d e j)).size ≤ 27 := by omega
        clear hz0 hz1
        rcases hij with ⟨rfl, rfl⟩ | ⟨rfl, rfl⟩ | ⟨rfl, rfl⟩ | ⟨rfl, rfl⟩
        · have HN := Lib.hid (coefL_three a d e 0 (by omega))
          by_cases hz : a = 0
          · have hz1 : (a == 0) = true := by simp [hz]
            have hz2 : (a != 0) = false := by simp [hz]
            have HN2 := Lib.hid (show cofK a d e 1 = cofK a d e 0 by rw [HN.out]; simp [hz])
            clear hz
            go_wp2_with fail
            go_round
            case rel => exact ⟨1, by omega, Or.inr (Or.inl ⟨rfl, rfl⟩), by rw [HN2.out]⟩
            case measure => simp [intOf]
          · have hz1 : (a == 0) = false := by simp [hz]
            have hz2 : (a != 0) = true := by simp [hz]
            have HN2 := Lib.hid (show cofK a d e 1 = cofK a d e 0 ++ [88] by rw [HN.out, if_pos (by simp [hz])]; rfl)
            clear hz
            go_wp2_with fail
            go_round
            case rel => exact ⟨1, by omega, Or.inr (Or.inl ⟨rfl, rfl⟩), by rw [HN2.out, ← List.append_assoc]; exact strL_add _ [88] rfl⟩
            case measure => simp [intOf]
        · have HN := Lib.hid (coefL_three a d e 1 (by omega))
          by_cases hz : d = 0
          · have hz1 : (d == 0) = true := by simp [hz]
            have hz2 : (d != 0) = false := by simp [hz]
            have HN2 := Lib.hid (show cofK a d e 2 = cofK a d e 1 by rw [HN.out]; simp [hz])
            clear hz
            go_wp2_with fail
            go_round
            case rel => exact ⟨2, by omega, Or.inr (Or.inr (Or.inl ⟨rfl, rfl⟩)), by rw [HN2.out]⟩
            case measure => simp [intOf]
          · have hz1 : (d == 0) = false := by simp [hz]
            have hz2 : (d != 0) = true := by simp [hz]
            have HN2 := Lib.hid (show cofK a d e 2 = cofK a d e 1 ++ [89] by rw [HN.out, if_pos (by simp [hz])]; rfl)
            clear hz
            go_wp2_with fail
            go_round
            case rel => exact ⟨2, by omega, Or.inr (Or.inr (Or.inl ⟨rfl, rfl⟩)), by rw [HN2.out, ← List.append_assoc]; exact strL_add _ [89] rfl⟩
            case measure => simp [intOf]
        · have HN := Lib.hid (coefL_three a d e 2 (by omega))
          by_cases hz : e = 0
          · have hz1 : (e == 0) = true := by simp [hz]
            have hz2 : (e != 0) = false := by simp [hz]
            have HN2 := Lib.hid (show cofK a d e 3 = cofK a d e 2 by rw [HN.out]; simp [hz])
            clear hz
            go_wp2_with fail
            go_round
            case rel => exact ⟨3, by omega, Or.inr (Or.inr (Or.inr (⟨rfl, rfl⟩))), by rw [HN2.out]⟩
            case measure => simp [intOf]
          · have hz1 : (e == 0) = false := by simp [hz]
            have hz2 : (e != 0) = true := by simp [hz]
            have HN2 := Lib.hid (show cofK a d e 3 = cofK a d e 2 ++ [90] by rw [HN.out, if_pos (by simp [hz])]; rfl)
            clear hz
            go_wp2_with fail
            go_round
            case rel => exact ⟨3, by omega, Or.inr (Or.inr (Or.inr (⟨rfl, rfl⟩))), by rw [HN2.out, ← List.append_assoc]; exact strL_add _ [90] rfl⟩
            case measure => simp [intOf]
        · go_wp2_with (go_at_call 51; (with_reducible refine (HV.out _).mono ?_); rintro e w2 ⟨rfl, hb2⟩)
          go_ret
          exact ⟨congrArg (fun z => Ending.returned (.string (strL z))) HRY.out.symm, HB0.out.trans ((HB1.out.trans (hb2.mono HB1.out.size)).mono HB0.out.size)⟩

end Go.Proofs.YtjjjdieljljcoaaGreatDoor
