/-
  Texts of one proof, one behind the other.
-/
import Derived.Deep.RegionWith
import Derived.Lib.ItoaLen
import Derived.Deep.RegionHeld3
import Derived.Test.YtppliiingoonlaaGreatDoorQaP1
import Derived.Test.YtppliiingoonlaaGreatDoorQaP4
import Derived.Test.YtppliiingoonlaaGreatDoorQaP5
import Derived.Test.YtppliiingoonlaaGreatDoorQaP6
import Derived.Test.YtppliiingoonlaaGreatDoorQaP7
import Derived.Test.YtppliiingoonlaaGreatDoorQaP8

/-
  What spec's l9Term and FormatConstraint answer.
-/
namespace Go.Proofs.YtppliiingoonlaaGreatDoor
open Go.RowKit
/-- A term's text: a dash for none. -/
def termB (s : ByteArray) : ByteArray := if s.size = 0 then ⟨#[45]⟩ else s
theorem termB_list (s : ByteArray) : (termB s).data.toList = termT s.data.toList := by
  unfold termB termT
  by_cases h : s.size = 0
  · have h' : s.data.toList = [] := List.eq_nil_of_length_eq_zero (by simpa using h)
    rw [if_pos h, if_pos h']
  · have h' : ¬ s.data.toList = [] := fun e => h (by
      have := congrArg List.length e
      simpa using this)
    rw [if_neg h, if_neg h']
theorem termB_size {s : ByteArray} (h : s.size ≤ 12) : (termB s).size ≤ 12 := by
  unfold termB
  split
  · simp [ByteArray.size]
  · exact h

set_option maxRecDepth 100000 in
set_option maxHeartbeats 800000 in
theorem specTerm_any (s : ByteArray) (w : World) :
    Calls Tryz.prog 56 #[.string s] w fun e w' => e = .returned (.string (termB s)) ∧ w = w' := by
  by_cases h : s.size = 0
  · have HR := Lib.hid (show termB s = ⟨#[45]⟩ from if_pos h)
    have h' := bytes_nil h
    clear h
    go_enter Tryz.func56, Tryz.ntmps56
    go_wp2
    go_ret
    exact ⟨congrArg (fun z => Ending.returned (.string z)) HR.out.symm, rfl⟩
  · have HR := Lib.hid (show termB s = s from if_neg h)
    have h' := bytes_some h
    have e2 : s.toList.isEmpty = false := by simpa using h'
    clear h
    go_enter Tryz.func56, Tryz.ntmps56
    go_wp2
    go_ret
    exact ⟨congrArg (fun z => Ending.returned (.string z)) HR.out.symm, rfl⟩

theorem str_of {t : ByteArray} {l : List UInt8} (h : t.data.toList = l) : t = strL l := bytes_eq (by rw [h, strL_list])
theorem valid_size9 {k : Int} {l : ByteArray} {a : Fr} (h : validRx k l a = true) : a.size ≤ 15 := by
  unfold validRx at h
  simp only [Bool.and_eq_true, decide_eq_true_eq] at h
  have := (left_size a 15 (by omega)).1.1 h.1.1
  omega
theorem fmt_le {k : Int} {l : ByteArray} {a : Fr} (h : a.size ≤ 32) : (⟨(formatRx k l a).toArray⟩ : ByteArray).size ≤ 132 := by
  show (formatRx k l a).toArray.size ≤ 132
  rw [List.size_toArray]
  exact format_len k l a h
theorem fmtX_of {c : Cx} (h : validX c = true) : fmtX c = bodyT c.cn := if_pos h

def lenK (a d e : Int) (j : Nat) : List UInt8 := [108, 101, 110] ++ numsT ([a, d, e].take j)
theorem lenK_succ (a d e : Int) (j : Nat) (hj : j < 3) : lenK a d e (j + 1) = lenK a d e j ++ [32] ++ Lib.itoa ([a, d, e].getD j 0) := by
  match j, hj with
  | 0, _ => simp [lenK, numsT]
  | 1, _ => simp [lenK, numsT]
  | 2, _ => simp [lenK, numsT]
theorem small_itoa {n : Int} (h0 : -99 ≤ n) (h1 : n ≤ 99) : (Lib.itoa n).length ≤ 21 := Lib.itoa_length_le n (by omega) (by omega)
theorem lenK_le {a d e : Int} (ha : -9 ≤ a ∧ a ≤ 9) (hd : -9 ≤ d ∧ d ≤ 9) (he : -9 ≤ e ∧ e ≤ 9) (j : Nat) : (lenK a d e j).length ≤ 100 := by
  have k1 := small_itoa (n := a) (by omega) (by omega)
  have k2 := small_itoa (n := d) (by omega) (by omega)
  have k3 := small_itoa (n := e) (by omega) (by omega)
  match j with
  | 0 => simp [lenK, numsT]
  | 1 => simp [lenK, numsT]; omega
  | 2 => simp [lenK, numsT]; omega
  | j + 3 => simp [lenK, numsT]; omega
theorem strL_snocs (l m : List UInt8) : strL l ++ ⟨#[32]⟩ ++ ⟨m.toArray⟩ = strL (l ++ [32] ++ m) := by
  rw [strL_app l [32] (t := ⟨#[32]⟩) rfl, strL_app _ m (t := ⟨m.toArray⟩) rfl]

set_option maxRecDepth 100000 in
set_option maxHeartbeats 6400000 in
theorem specFmtC_any (c : Cx) (xu vc : Value) (w : World) (h : CnO w xu vc c) (hsz : c.xa.size ≤ 2097152) :
    Calls Tryz.prog 15 #[.agg #[.int .i64 c.k, .string c.l, .string c.r, .int .i64 c.xk, .string c.xl, xu, vc, .int .i64 c.b]] w fun e w' => e = .returned (.string (strL (fmtX c))) ∧ Below w.heap.size w w' := by
  obtain ⟨A, m, B, r, rfl, rfl⟩ := h.shape
  obtain ⟨W, hW⟩ : ∃ W, W = w.alloc (.cells #[.int .i64 c.k, .string c.l, .string c.r, .int .i64 c.xk, .string c.xl, .slice A c.xa.items.length m, .slice B c.cs.length r, .int .i64 c.b] 29) := ⟨_, rfl⟩
  have hb0 : Below w.heap.size w W := by rw [hW]; exact (Below.refl _ _).alloc (Nat.le_refl _) _
  have hbx : BoxC W w.heap.size c (.slice A c.xa.items.length m) (.slice B c.cs.length r) := by rw [hW]; exact boxC_new w c _ _ _
  have HWE := Lib.hid hW
  have HB0 := Lib.hid hb0
  have HVC := Lib.hid (fun (V : World) (hb : Below W.heap.size W V) => specVC_any c _ _ V (h.kept (hb0.trans (hb.mono hb0.size))) hsz)
  have HCX := Lib.hid (fun (V : World) (hb : Below W.heap.size W V) => (hbx.kept hb).cells)
  have HCN := Lib.hid (fun (V : World) (hb : Below W.heap.size W V) => h.kept (hb0.trans (hb.mono hb0.size)))
  have hcW := hbx.cells
  rw [hW] at hcW
  obtain ⟨c0, c1, c2, c3, c4, c5, c6, c7⟩ := hcW
  clear hW hbx hb0
  cases hv : validX c with
  | false =>
    rw [hv] at HVC
    have HR := Lib.hid (show fmtX c = [] from if_neg (by rw [show validC c.cn = validX c from rfl, hv]; simp))
    clear hv h
    go_enter Tryz.func15, Tryz.ntmps15
    go_wp2_with fail
    rw [← HWE.out]
    refine (HVC.out W (Below.refl _ _)).mono ?_
    rintro e w1 ⟨rfl, hb1⟩
    have HB1 := Lib.hid hb1
    clear hb1 c0 c1 c2 c3 c4 c5 c6 c7
    go_wp2_with fail
    go_ret
    exact ⟨by rw [HR.out]; rfl, HB0.out.trans (HB1.out.mono HB0.out.size)⟩
  | true =>
    rw [hv] at HVC
    obtain ⟨hl, hr⟩ := valid_strs hv
    have hbody := fmtX_of hv
    have hkinds := valid_kinds (c := c.cn) hv
    have HV := Lib.hid hv
    have hxl := h.1.2.2
    unfold maxI at hxl
    clear hv h
    obtain ⟨k, l, rr, xk, xl, xa, cs, b⟩ := c
    simp only at *
    rcases hkinds with hk | hk | hk | hk | hk
    all_goals (simp only [Cx.cn] at hk; subst hk)
    · obtain ⟨tb, htb⟩ : ∃ tb, tb = termB l := ⟨_, rfl⟩
      obtain ⟨ub, hub⟩ : ∃ ub, ub = termB rr := ⟨_, rfl⟩
      have htz : tb.size ≤ 12 := by rw [htb]; exact termB_size hl
      have huz : ub.size ≤ 12 := by rw [hub]; exact termB_size hr
      have HR := Lib.hid (show tb ++ ⟨#[32, 61, 32]⟩ ++ ub = strL (fmtX ⟨1, l, rr, xk, xl, xa, cs, b⟩) from str_of (by
        rw [hbody, htb, hub]
        simp only [ByteArray.data_append, Array.toList_append, termB_list]
        rfl))
      have HTl := Lib.hid (fun w => specTerm_any l w)
      have HTr := Lib.hid (fun w => specTerm_any rr w)
      rw [← htb] at HTl
      rw [← hub] at HTr
      clear htb hub hbody
      go_enter Tryz.func15, Tryz.ntmps15
      go_wp2_with fail
      rw [← HWE.out]
      refine (HVC.out W (Below.refl _ _)).mono ?_
      rintro e w1 ⟨rfl, hb1⟩
      have HB1 := Lib.hid hb1
      clear hb1 c0 c1 c2 c3 c4 c5 c6 c7
      obtain ⟨c0, c1, c2, c3, c4, c5, c6, c7⟩ := HCX.out w1 HB1.out
      go_wp2_with fail
      go_quiet ((go_at_call 56; first | (with_reducible exact Calls.quiet_of_same ((HTl.out _).mono fun _ _ ⟨he, hw⟩ => ⟨he, hw.symm⟩)) | (with_reducible exact Calls.quiet_of_same ((HTr.out _).mono fun _ _ ⟨he, hw⟩ => ⟨he, hw.symm⟩))))
      all_goals
        go_wp2_with fail
        go_ret
        exact ⟨congrArg (fun z => Ending.returned (.string z)) HR.out, HB0.out.trans ((below_draws HB1.out _).mono HB0.out.size)⟩
    · obtain ⟨tb, htb⟩ : ∃ tb, tb = termB l := ⟨_, rfl⟩
      obtain ⟨ub, hub⟩ : ∃ ub, ub = termB rr := ⟨_, rfl⟩
      have htz : tb.size ≤ 12 := by rw [htb]; exact termB_size hl
      have huz : ub.size ≤ 12 := by rw [hub]; exact termB_size hr
      have HR := Lib.hid (show tb ++ ⟨#[32, 33, 61, 32]⟩ ++ ub = strL (fmtX ⟨2, l, rr, xk, xl, xa, cs, b⟩) from str_of (by
        rw [hbody, htb, hub]
        simp only [ByteArray.data_append, Array.toList_append, termB_list]
        rfl))
      have HTl := Lib.hid (fun w => specTerm_any l w)
      have HTr := Lib.hid (fun w => specTerm_any rr w)
      rw [← htb] at HTl
      rw [← hub] at HTr
      clear htb hub hbody
      go_enter Tryz.func15, Tryz.ntmps15
      go_wp2_with fail
      rw [← HWE.out]
      refine (HVC.out W (Below.refl _ _)).mono ?_
      rintro e w1 ⟨rfl, hb1⟩
      have HB1 := Lib.hid hb1
      clear hb1 c0 c1 c2 c3 c4 c5 c6 c7
      obtain ⟨c0, c1, c2, c3, c4, c5, c6, c7⟩ := HCX.out w1 HB1.out
      go_wp2_with fail
      go_quiet ((go_at_call 56; first | (with_reducible exact Calls.quiet_of_same ((HTl.out _).mono fun _ _ ⟨he, hw⟩ => ⟨he, hw.symm⟩)) | (with_reducible exact Calls.quiet_of_same ((HTr.out _).mono fun _ _ ⟨he, hw⟩ => ⟨he, hw.symm⟩))))
      all_goals
        go_wp2_with fail
        go_ret
        exact ⟨congrArg (fun z => Ending.returned (.string z)) HR.out, HB0.out.trans ((below_draws HB1.out _).mono HB0.out.size)⟩
    · obtain ⟨_, _, tx, _⟩ := valid_lang HV.out (.inl rfl)
      simp only [Cx.cn] at tx
      obtain ⟨tb, htb⟩ : ∃ tb, tb = termB l := ⟨_, rfl⟩
      obtain ⟨ub, hub⟩ : ∃ ub : ByteArray, ub = ⟨(formatRx xk xl xa).toArray⟩ := ⟨_, rfl⟩
      have htz : tb.size ≤ 12 := by rw [htb]; exact termB_size hl
      have huz : ub.size ≤ 132 := by rw [hub]; exact fmt_le (by have := valid_size9 tx; omega)
      have HR := Lib.hid (show tb ++ ⟨#[32, 105, 110, 32]⟩ ++ ub = strL (fmtX ⟨3, l, rr, xk, xl, xa, cs, b⟩) from str_of (by
        rw [hbody, htb, hub]
        simp only [ByteArray.data_append, Array.toList_append, termB_list]
        rw [show formatRx xk xl xa = ndTxt (xk, xl, xa) from if_pos tx]
        rfl))
      have HTl := Lib.hid (fun w => specTerm_any l w)
      have HF := Lib.hid (fun (V : World) (hb : Below W.heap.size W V) => by
        obtain ⟨_, ⟨n, hS⟩, _⟩ := (HCN.out V hb).read
        exact specFormat_any n V.heap.size xk xl (.slice A xa.items.length m) xa V hS (Nat.le_refl _) hsz hxl)
      rw [← htb] at HTl
      rw [← hub] at HF
      have HK : Hid (∀ V, Below W.heap.size W V → V.cell? ⟨w.heap.size, 1, none⟩ = some (.string l) ∧ V.cell? ⟨w.heap.size, 3, none⟩ = some (.int .i64 xk) ∧ V.cell? ⟨w.heap.size, 4, none⟩ = some (.string xl) ∧ V.cell? ⟨w.heap.size, 5, none⟩ = some (.slice A xa.items.length m)) :=
        Lib.hid (fun V hb => ⟨(HCX.out V hb).2.1, (HCX.out V hb).2.2.2.1, (HCX.out V hb).2.2.2.2.1, (HCX.out V hb).2.2.2.2.2.1⟩)
      have b1 : (9223372036854775807 < tb.size + 4) = False := by simp; omega
      have b2 : (9223372036854775807 < tb.size + 4 + ub.size) = False := by simp; omega
      have HB1b := Lib.hid b1
      have HB2b := Lib.hid b2
      clear htb hub hbody tx b1 b2
      go_enter Tryz.func15, Tryz.ntmps15
      go_wp2_with fail
      rw [← HWE.out]
      refine (HVC.out W (Below.refl _ _)).mono ?_
      rintro e w1 ⟨rfl, hb1⟩
      have HB1 := Lib.hid hb1
      clear hb1 c0 c1 c2 c3 c4 c5 c6 c7
      obtain ⟨c0, _⟩ := HCX.out w1 HB1.out
      go_wp2_with fail
      have HL := Lib.hid (fun V (hb : Below w1.heap.size w1 V) => HB1.out.trans (hb.mono HB1.out.size))
      have hbw : Below w1.heap.size w1 w1 := Below.refl _ _
      have b1 := HB1b.out
      have b2 := HB2b.out
      go_region_held3 (fun V => V.cell? ⟨w.heap.size, 1, none⟩ = some (.string l) ∧ V.cell? ⟨w.heap.size, 3, none⟩ = some (.int .i64 xk) ∧ V.cell? ⟨w.heap.size, 4, none⟩ = some (.string xl) ∧ V.cell? ⟨w.heap.size, 5, none⟩ = some (.slice A xa.items.length m)) (first | exact HK.out _ (HL.out _ hbw.drew) | exact HK.out _ (HL.out _ hbw)) (first | (go_at_call 56; (with_reducible refine (HTl.out _).mono ?_); rintro e1 w4 ⟨rfl, rfl⟩) | (go_at_call 57; (with_reducible refine (HF.out _ ?hq).mono ?_); (case hq => (first | exact HL.out _ hbw.drew | exact HL.out _ hbw)); rintro e1 w4 ⟨rfl, hb4⟩; have hbw := hbw.drew.trans (hb4.mono hbw.drew.size)))
      all_goals
        have HW := Lib.hid (HL.out _ hbw)
        clear hbw hb4 b1 b2
        go_wp2_with fail
        go_ret
        exact ⟨congrArg (fun z => Ending.returned (.string z)) HR.out, HB0.out.trans (HW.out.mono HB0.out.size)⟩
    · obtain ⟨_, _, tx, _⟩ := valid_lang HV.out (.inr rfl)
      simp only [Cx.cn] at tx
      obtain ⟨tb, htb⟩ : ∃ tb, tb = termB l := ⟨_, rfl⟩
      obtain ⟨ub, hub⟩ : ∃ ub : ByteArray, ub = ⟨(formatRx xk xl xa).toArray⟩ := ⟨_, rfl⟩
      have htz : tb.size ≤ 12 := by rw [htb]; exact termB_size hl
      have huz : ub.size ≤ 132 := by rw [hub]; exact fmt_le (by have := valid_size9 tx; omega)
      have HR := Lib.hid (show tb ++ ⟨#[32, 111, 117, 116, 32]⟩ ++ ub = strL (fmtX ⟨4, l, rr, xk, xl, xa, cs, b⟩) from str_of (by
        rw [hbody, htb, hub]
        simp only [ByteArray.data_append, Array.toList_append, termB_list]
        rw [show formatRx xk xl xa = ndTxt (xk, xl, xa) from if_pos tx]
        rfl))
      have HTl := Lib.hid (fun w => specTerm_any l w)
      have HF := Lib.hid (fun (V : World) (hb : Below W.heap.size W V) => by
        obtain ⟨_, ⟨n, hS⟩, _⟩ := (HCN.out V hb).read
        exact specFormat_any n V.heap.size xk xl (.slice A xa.items.length m) xa V hS (Nat.le_refl _) hsz hxl)
      rw [← htb] at HTl
      rw [← hub] at HF
      have HK : Hid (∀ V, Below W.heap.size W V → V.cell? ⟨w.heap.size, 1, none⟩ = some (.string l) ∧ V.cell? ⟨w.heap.size, 3, none⟩ = some (.int .i64 xk) ∧ V.cell? ⟨w.heap.size, 4, none⟩ = some (.string xl) ∧ V.cell? ⟨w.heap.size, 5, none⟩ = some (.slice A xa.items.length m)) :=
        Lib.hid (fun V hb => ⟨(HCX.out V hb).2.1, (HCX.out V hb).2.2.2.1, (HCX.out V hb).2.2.2.2.1, (HCX.out V hb).2.2.2.2.2.1⟩)
      have b1 : (9223372036854775807 < tb.size + 5) = False := by simp; omega
      have b2 : (9223372036854775807 < tb.size + 5 + ub.size) = False := by simp; omega
      have HB1b := Lib.hid b1
      have HB2b := Lib.hid b2
      clear htb hub hbody tx b1 b2
      go_enter Tryz.func15, Tryz.ntmps15
      go_wp2_with fail
      rw [← HWE.out]
      refine (HVC.out W (Below.refl _ _)).mono ?_
      rintro e w1 ⟨rfl, hb1⟩
      have HB1 := Lib.hid hb1
      clear hb1 c0 c1 c2 c3 c4 c5 c6 c7
      obtain ⟨c0, _⟩ := HCX.out w1 HB1.out
      go_wp2_with fail
      have HL := Lib.hid (fun V (hb : Below w1.heap.size w1 V) => HB1.out.trans (hb.mono HB1.out.size))
      have hbw : Below w1.heap.size w1 w1 := Below.refl _ _
      have b1 := HB1b.out
      have b2 := HB2b.out
      go_region_held3 (fun V => V.cell? ⟨w.heap.size, 1, none⟩ = some (.string l) ∧ V.cell? ⟨w.heap.size, 3, none⟩ = some (.int .i64 xk) ∧ V.cell? ⟨w.heap.size, 4, none⟩ = some (.string xl) ∧ V.cell? ⟨w.heap.size, 5, none⟩ = some (.slice A xa.items.length m)) (first | exact HK.out _ (HL.out _ hbw.drew) | exact HK.out _ (HL.out _ hbw)) (first | (go_at_call 56; (with_reducible refine (HTl.out _).mono ?_); rintro e1 w4 ⟨rfl, rfl⟩) | (go_at_call 57; (with_reducible refine (HF.out _ ?hq).mono ?_); (case hq => (first | exact HL.out _ hbw.drew | exact HL.out _ hbw)); rintro e1 w4 ⟨rfl, hb4⟩; have hbw := hbw.drew.trans (hb4.mono hbw.drew.size)))
      all_goals
        have HW := Lib.hid (HL.out _ hbw)
        clear hbw hb4 b1 b2
        go_wp2_with fail
        go_ret
        exact ⟨congrArg (fun z => Ending.returned (.string z)) HR.out, HB0.out.trans (HW.out.mono HB0.out.size)⟩
    · obtain ⟨_, _, _, ⟨a, d, e, hcs, ha, hd, he⟩, hb0, hb9⟩ := valid_len HV.out rfl
      simp only [Cx.cn] at hcs hb0 hb9
      subst hcs
      have HLN := Lib.hid (lenK_le ha hd he)
      have HR := Lib.hid (show strL (lenK a d e 3) ++ ⟨#[32]⟩ ++ ⟨(Lib.itoa b).toArray⟩ = strL (fmtX ⟨5, l, rr, xk, xl, xa, [a, d, e], b⟩) by
        rw [strL_snocs, hbody]
        simp [lenK, bodyT, Cx.cn])
      obtain ⟨ub, hub⟩ : ∃ ub : ByteArray, ub = ⟨(Lib.itoa b).toArray⟩ := ⟨_, rfl⟩
      have huz : ub.size ≤ 21 := by rw [hub]; show (Lib.itoa b).toArray.size ≤ 21; rw [List.size_toArray]; exact small_itoa (by omega) (by omega)
      have HFb := Lib.hid (fun w => specFmtInt_any b w (by omega) (by omega))
      rw [← hub] at HFb HR
      have c6' := c6
      change _ = some (Value.slice B 3 r) at c6'
      have hCX : ∀ V, Below W.heap.size W V → V.cell? ⟨w.heap.size, 0, none⟩ = some (.int .i64 5) ∧ V.cell? ⟨w.heap.size, 6, none⟩ = some (.slice B 3 r) ∧ V.cell? ⟨w.heap.size, 7, none⟩ = some (.int .i64 b) := fun V hb => ⟨(HCX.out V hb).1, (HCX.out V hb).2.2.2.2.2.2.1, (HCX.out V hb).2.2.2.2.2.2.2⟩
      have HCY := Lib.hid hCX
      have HWE3 : Hid (W = w.alloc (.cells #[.int .i64 5, .string l, .string rr, .int .i64 xk, .string xl, .slice A xa.items.length m, .slice B 3 r, .int .i64 b] 29)) := Lib.hid HWE.out
      clear c6 hCX hub hbody
      go_enter Tryz.func15, Tryz.ntmps15
      go_wp2_with fail
      rw [← HWE3.out]
      refine (HVC.out W (Below.refl _ _)).mono ?_
      rintro e' w1 ⟨rfl, hb1⟩
      have HB1 := Lib.hid hb1
      have HQ := Lib.hid (fun (V : World) (hb : Below W.heap.size W V) => three_ints (a := a) (d := d) (e := e) (HCN.out V hb).2.2)
      clear hb1 c0 c1 c2 c3 c4 c5 c6' c7
      obtain ⟨c0, c6, c7⟩ := HCY.out w1 HB1.out
      go_wp2_with fail
      clear c0 c6 c7
      go_loopw [3, 4] (fun s i wr => ∃ j : Nat, j ≤ 3 ∧ (i = .int .i64 0 ∧ j = 0 ∨ i = .int .i64 1 ∧ j = 1 ∨ i = .int .i64 2 ∧ j = 2 ∨ i = .int .i64 3 ∧ j = 3) ∧ s = .string (strL (lenK a d e j)) ∧ Below W.heap.size W wr) (fun _ i _ => 3 - (intOf i).toNat)
      case atStart => exact ⟨0, Nat.zero_le _, Or.inl ⟨rfl, rfl⟩, rfl, HB1.out⟩
      case round =>
        obtain ⟨j, hj, hij, rfl, hbr⟩ := hrel
        have HBr := Lib.hid hbr
        obtain ⟨c0, c6, c7⟩ := HCY.out _ hbr
        obtain ⟨g, hg, q0, q1, q2⟩ := HQ.out _ hbr
        subst hg
        have hzs : (strL (lenK a d e j)).size ≤ 100 := by rw [strL_size]; exact HLN.out j
        clear hbr
        rcases hij with ⟨rfl, rfl⟩ | ⟨rfl, rfl⟩ | ⟨rfl, rfl⟩ | ⟨rfl, rfl⟩
        · have HN := Lib.hid (show strL (lenK a d e 0) ++ ⟨#[32]⟩ ++ ⟨(Lib.itoa a).toArray⟩ = strL (lenK a d e 1) by rw [strL_snocs, lenK_succ a d e 0 (by omega)]; rfl)
          obtain ⟨tx, htx⟩ : ∃ tx : ByteArray, tx = ⟨(Lib.itoa a).toArray⟩ := ⟨_, rfl⟩
          have htz : tx.size ≤ 21 := by rw [htx]; show (Lib.itoa a).toArray.size ≤ 21; rw [List.size_toArray]; exact small_itoa (by omega) (by omega)
          have HF := Lib.hid (fun w => specFmtInt_any a w (by omega) (by omega))
          rw [← htx] at HF HN
          clear htx
          go_wp2_with fail
          refine (HF.out _).mono ?_
          rintro e' w2 ⟨rfl, hb2⟩
          have HB2 := Lib.hid (HBr.out.trans (hb2.mono HBr.out.size))
          clear hb2
          go_wp2_with fail
          go_roundw
          case rel => exact ⟨1, by omega, Or.inr (Or.inl ⟨rfl, rfl⟩), congrArg Value.string HN.out, HB2.out⟩
          case measure => simp [intOf]
        · have HN := Lib.hid (show strL (lenK a d e 1) ++ ⟨#[32]⟩ ++ ⟨(Lib.itoa d).toArray⟩ = strL (lenK a d e 2) by rw [strL_snocs, lenK_succ a d e 1 (by omega)]; rfl)
          obtain ⟨tx, htx⟩ : ∃ tx : ByteArray, tx = ⟨(Lib.itoa d).toArray⟩ := ⟨_, rfl⟩
          have htz : tx.size ≤ 21 := by rw [htx]; show (Lib.itoa d).toArray.size ≤ 21; rw [List.size_toArray]; exact small_itoa (by omega) (by omega)
          have HF := Lib.hid (fun w => specFmtInt_any d w (by omega) (by omega))
          rw [← htx] at HF HN
          clear htx
          go_wp2_with fail
          refine (HF.out _).mono ?_
          rintro e' w2 ⟨rfl, hb2⟩
          have HB2 := Lib.hid (HBr.out.trans (hb2.mono HBr.out.size))
          clear hb2
          go_wp2_with fail
          go_roundw
          case rel => exact ⟨2, by omega, Or.inr (Or.inr (Or.inl ⟨rfl, rfl⟩)), congrArg Value.string HN.out, HB2.out⟩
          case measure => simp [intOf]
        · have HN := Lib.hid (show strL (lenK a d e 2) ++ ⟨#[32]⟩ ++ ⟨(Lib.itoa e).toArray⟩ = strL (lenK a d e 3) by rw [strL_snocs, lenK_succ a d e 2 (by omega)]; rfl)
          obtain ⟨tx, htx⟩ : ∃ tx : ByteArray, tx = ⟨(Lib.itoa e).toArray⟩ := ⟨_, rfl⟩
          have htz : tx.size ≤ 21 := by rw [htx]; show (Lib.itoa e).toArray.size ≤ 21; rw [List.size_toArray]; exact small_itoa (by omega) (by omega)
          have HF := Lib.hid (fun w => specFmtInt_any e w (by omega) (by omega))
          rw [← htx] at HF HN
          clear htx
          go_wp2_with fail
          refine (HF.out _).mono ?_
          rintro e' w2 ⟨rfl, hb2⟩
          have HB2 := Lib.hid (HBr.out.trans (hb2.mono HBr.out.size))
          clear hb2
          go_wp2_with fail
          go_roundw
          case rel => exact ⟨3, by omega, Or.inr (Or.inr (Or.inr (⟨rfl, rfl⟩))), congrArg Value.string HN.out, HB2.out⟩
          case measure => simp [intOf]
        · go_wp2_with fail
          refine (HFb.out _).mono ?_
          rintro e' w2 ⟨rfl, hb2⟩
          have HB2 := Lib.hid (HBr.out.trans (hb2.mono HBr.out.size))
          clear hb2
          go_wp2_with fail
          go_ret
          exact ⟨congrArg (fun z => Ending.returned (.string z)) HR.out, HB0.out.trans (HB2.out.mono HB0.out.size)⟩
end Go.Proofs.YtppliiingoonlaaGreatDoor

/-
  How long a valid constraint's variables and text are; a row's texts one by one. Of no function of the program.
-/
namespace Go.Proofs.YtppliiingoonlaaGreatDoor
open Go.RowKit

theorem termT_len {l : List UInt8} (h : isT l = true) : (termT l).length ≤ 12 := by
  unfold termT
  split
  · simp
  · exact isT_len h
theorem ndTxt_len {x : Nd} (h : validRx x.1 x.2.1 x.2.2 = true) : (ndTxt x).length ≤ 132 := by
  obtain ⟨k, l, a⟩ := x
  have h9 : a.size ≤ 15 := valid_size9 h
  have := format_len k l a (by omega)
  unfold formatRx at this
  rw [if_pos h] at this
  exact this
theorem fmtX_len {c : Cx} (h : validX c = true) : (fmtX c).length ≤ 200 := by
  rw [fmtX_of h]
  rcases valid_kinds (c := c.cn) h with hk | hk | hk | hk | hk
  · obtain ⟨hl, hr, _⟩ := valid_terms h (.inl hk)
    have := termT_len hl
    have := termT_len hr
    simp [bodyT, hk]
    omega
  · obtain ⟨hl, hr, _⟩ := valid_terms h (.inr hk)
    have := termT_len hl
    have := termT_len hr
    simp [bodyT, hk]
    omega
  · obtain ⟨hl, _, hx, _⟩ := valid_lang h (.inl hk)
    have := termT_len hl
    have := ndTxt_len hx
    simp [bodyT, hk]
    omega
  · obtain ⟨hl, _, hx, _⟩ := valid_lang h (.inr hk)
    have := termT_len hl
    have := ndTxt_len hx
    simp [bodyT, hk]
    omega
  · obtain ⟨_, _, _, ⟨a, d, e, hcs, ha, hd, he⟩, hb⟩ := valid_len h hk
    have k1 := small_itoa (n := a) (by omega) (by omega)
    have k2 := small_itoa (n := d) (by omega) (by omega)
    have k3 := small_itoa (n := e) (by omega) (by omega)
    have k4 := small_itoa (n := c.cn.b) (by omega) (by omega)
    simp [bodyT, hk, hcs, numsT]
    omega
theorem varsX_len (c : Cx) : (varsX c).length ≤ 3 := by
  unfold varsX
  split
  · unfold varsL
    exact Nat.le_trans (List.length_filter_le _ _) (by decide)
  · simp
theorem fmtX_len' (c : Cx) : (fmtX c).length ≤ 200 := by
  cases h : validX c with
  | true => exact fmtX_len h
  | false =>
    rw [show fmtX c = [] from if_neg (by rw [show validC c.cn = validX c from rfl, h]; simp)]
    simp
theorem fmtN_len (c : Cx) : (fmtX c ++ [10]).length ≤ 201 := by
  have := fmtX_len' c
  rw [List.length_append]
  simp
  omega
/-- What the first j give, one behind the other. -/
def fm (f : Cx → List UInt8) (ps : List Cx) (j : Nat) : List UInt8 := (ps.take j).flatMap f
theorem fm_zero (f : Cx → List UInt8) (ps : List Cx) : fm f ps 0 = [] := by simp [fm]
theorem fm_step (f : Cx → List UInt8) {ps : List Cx} {j : Nat} {c : Cx} (h : ps[j]? = some c) : fm f ps (j + 1) = fm f ps j ++ f c := by
  have hlt := (List.getElem?_eq_some_iff.1 h).1
  unfold fm
  rw [List.take_succ_eq_append_getElem hlt, (List.getElem?_eq_some_iff.1 h).2]
  simp
theorem fm_all (f : Cx → List UInt8) (ps : List Cx) : fm f ps ps.length = ps.flatMap f := by simp [fm]
theorem fm_len (f : Cx → List UInt8) (b : Nat) {ps : List Cx} (h : ∀ c ∈ ps, (f c).length ≤ b) (j : Nat) (hj : j ≤ ps.length) : (fm f ps j).length ≤ j * b := by
  induction j with
  | zero => simp [fm]
  | succ j ih =>
    have hx := List.getElem?_eq_getElem (show j < ps.length by omega)
    rw [fm_step f hx, List.length_append, Nat.add_mul, Nat.one_mul]
    have := ih (by omega)
    have := h _ (List.getElem_mem (show j < ps.length by omega))
    omega
end Go.Proofs.YtppliiingoonlaaGreatDoor

/-
  What spec.VarsOfProblem answers.
-/
namespace Go.Proofs.YtppliiingoonlaaGreatDoor
open Go.RowKit

set_option maxRecDepth 100000 in
set_option maxHeartbeats 3200000 in
theorem specVarsP_any (ps : List Cx) (v : Value) (w : World) (h : PrO w v ps) (hsz : ∀ c ∈ ps, c.xa.size ≤ 2097152) :
    Calls Tryz.prog 39 #[.agg #[v]] w fun e w' => e = .returned (.string (strL (varsP ps))) ∧ Below w.heap.size w w' := by
  obtain ⟨hl, A, m, rfl⟩ := h.shape
  unfold maxI at hl
  obtain ⟨W, hW⟩ : ∃ W, W = w.alloc (.cells #[.slice A ps.length m] 45) := ⟨_, rfl⟩
  have hb0 : Below w.heap.size w W := by rw [hW]; exact (Below.refl _ _).alloc (Nat.le_refl _) _
  have hbx : BoxP W w.heap.size (.slice A ps.length m) := by rw [hW]; exact boxP_new w _ _
  have HWE := Lib.hid hW
  have HB0 := Lib.hid hb0
  have HBX := Lib.hid (fun (V : World) (hb : Below W.heap.size W V) => (hbx.kept hb).cell)
  have HE := Lib.hid (fun (V : World) (hb : Below W.heap.size W V) (j : Nat) (hj : j < ps.length) => PrR.at ((h.kept hb0).kept hb) hj)
  have HVP := Lib.hid (fun (V : World) (hb : Below W.heap.size W V) => specVP_any ps _ V ((h.kept hb0).kept hb) hsz)
  have HSZ := Lib.hid hsz
  clear hW hbx h hsz hb0
  cases hv : validP ps with
  | false =>
    rw [hv] at HVP
    have HR := Lib.hid (show varsP ps = varsL (strL []).data.toList by unfold varsP; rw [hv]; rfl)
    have HS := Lib.hid (fun w => specVars_any (strL []) w (by decide))
    have hpos : 0 < ps.length := by
      rcases Nat.eq_zero_or_pos ps.length with h0 | h0
      · rw [List.length_eq_zero_iff.1 h0] at hv
        cases hv
      · exact h0
    clear hv
    go_enter Tryz.func39, Tryz.ntmps39
    go_wp2_with fail
    rw [← HWE.out]
    go_loopw [3, 4] (fun s i wr => s = .string (strL []) ∧ i = .int .i64 0 ∧ Below W.heap.size W wr) (fun _ _ _ => 0)
    case atStart => exact ⟨rfl, rfl, Below.refl _ _⟩
    case round =>
      obtain ⟨rfl, rfl, hb⟩ := hrel
      have HB := Lib.hid hb
      have hbc := HBX.out wr hb
      have hlt : (0 : Int) < ps.length := by omega
      clear hb
      go_wp2_with fail
      refine (HVP.out wr HB.out).mono ?_
      rintro e w1 ⟨rfl, hb1⟩
      have HB1 := Lib.hid (HB.out.trans (hb1.mono HB.out.size))
      clear hb1
      go_wp2_with (go_at_call 70; (with_reducible refine (HS.out _).mono ?_); rintro e w' ⟨rfl, rfl⟩)
      go_ret
      exact ⟨congrArg (fun z => Ending.returned (.string (strL z))) HR.out.symm, HB0.out.trans (HB1.out.mono HB0.out.size)⟩
  | true =>
    rw [hv] at HVP
    have h6 := (validP_iff.1 hv).2
    have hlen := fm_len varsX 3 (ps := ps) (fun c _ => varsX_len c)
    have HLN := Lib.hid hlen
    have HR := Lib.hid (show varsP ps = varsL (fm varsX ps ps.length) by unfold varsP; rw [if_pos hv, fm_all])
    clear hv hlen
    go_enter Tryz.func39, Tryz.ntmps39
    go_wp2_with fail
    rw [← HWE.out]
    go_loopw [3, 4] (fun s i wr => ∃ (j : Nat) (x : List UInt8), i = .int .i64 j ∧ s = .string (strL x) ∧ Hid (x = fm varsX ps j) ∧ j ≤ ps.length ∧ Below W.heap.size W wr) (fun _ i _ => ps.length - (intOf i).toNat)
    case atStart => exact ⟨0, [], rfl, rfl, Lib.hid (fm_zero _ _).symm, Nat.zero_le _, Below.refl _ _⟩
    case round =>
      obtain ⟨j, x, rfl, rfl, HX, hj, hb⟩ := hrel
      have HB := Lib.hid hb
      have hbc := HBX.out wr hb
      have hxl : (strL x).size ≤ 18 := by
        rw [strL_size, HX.out]
        have := HLN.out j hj
        omega
      clear hb
      by_cases hlt : j < ps.length
      · obtain ⟨g, o, rfl, c, xu, vc, hx, ha, hc⟩ := HE.out wr HB.out j hlt
        obtain ⟨A1, m1, B1, r1, rfl, rfl⟩ := hc.shape
        have hlt' : (j : Int) < ps.length := by omega
        have HAT := Lib.hid (fun (V : World) (hb : Below wr.heap.size wr V) => (ha.below hb ha.lt : CxAt V g (o + j * 8) c _ _))
        have HCK := Lib.hid (fun (V : World) (hb : Below wr.heap.size wr V) => specVarsC_any c _ _ V (hc.kept hb) (HSZ.out c (List.mem_of_getElem? hx)))
        have HN := Lib.hid (fm_step varsX hx)
        have hyl : (strL (varsX c)).size ≤ 3 := by rw [strL_size]; exact varsX_len c
        obtain ⟨y, hy⟩ : ∃ y, y = varsX c := ⟨_, rfl⟩
        rw [← hy] at HCK HN hyl
        clear ha hc hx hy
        go_wp2_with fail
        refine (HVP.out wr HB.out).mono ?_
        rintro e w1 ⟨rfl, hb1⟩
        have hbc1 := HBX.out w1 (HB.out.trans (hb1.mono HB.out.size))
        obtain ⟨c0, c1, c2, c3, c4, c5, c6, c7⟩ := HAT.out w1 hb1
        have HB1 := Lib.hid hb1
        have HI := Lib.hid (HCK.out w1 hb1)
        clear hb1 hbc
        go_wp2_with fail
        refine HI.out.mono ?_
        rintro e w2 ⟨rfl, hb2⟩
        have HB2 := Lib.hid (HB.out.trans ((HB1.out.trans (hb2.mono HB1.out.size)).mono HB.out.size))
        clear hb2
        go_wp2_with fail
        go_roundw
        case rel => exact ⟨j + 1, x ++ y, by go_num, strL_add x y (strL_list _), Lib.hid (by rw [HN.out, HX.out]), by omega, HB2.out⟩
        case measure => simp [intOf]; omega
      · obtain rfl : j = ps.length := by omega
        have HS := Lib.hid (fun w => specVars_any (strL x) w (by unfold maxLen; omega))
        have HRY := Lib.hid (show varsP ps = varsL (strL x).data.toList by rw [HR.out, strL_list, HX.out])
        go_wp2_with (go_at_call 70; (with_reducible refine (HS.out _).mono ?_); rintro e w' ⟨rfl, rfl⟩)
        go_ret
        exact ⟨congrArg (fun z => Ending.returned (.string (strL z))) HRY.out.symm, HB0.out.trans (HB.out.mono HB0.out.size)⟩
end Go.Proofs.YtppliiingoonlaaGreatDoor

/-
  What impl.VarsOfConstraint answers.
-/
namespace Go.Proofs.YtppliiingoonlaaGreatDoor
open Go.RowKit
set_option maxRecDepth 100000 in
set_option maxHeartbeats 6400000 in
theorem implVarsC_any (c : Cx) (xu vc : Value) (w : World) (h : CnO w xu vc c) (hsz : c.xa.size ≤ 2097152) :
    Calls Tryz.prog 21 #[.agg #[.int .i64 c.k, .string c.l, .string c.r, .int .i64 c.xk, .string c.xl, xu, vc, .int .i64 c.b]] w fun e w' => e = .returned (.string (strL (varsX c))) ∧ Below w.heap.size w w' := by
  obtain ⟨A, m, B, r, rfl, rfl⟩ := h.shape
  obtain ⟨W, hW⟩ : ∃ W, W = w.alloc (.cells #[.int .i64 c.k, .string c.l, .string c.r, .int .i64 c.xk, .string c.xl, .slice A c.xa.items.length m, .slice B c.cs.length r, .int .i64 c.b] 29) := ⟨_, rfl⟩
  have hb0 : Below w.heap.size w W := by rw [hW]; exact (Below.refl _ _).alloc (Nat.le_refl _) _
  have hbx : BoxC W w.heap.size c (.slice A c.xa.items.length m) (.slice B c.cs.length r) := by rw [hW]; exact boxC_new w c _ _ _
  have HWE := Lib.hid hW
  have HB0 := Lib.hid hb0
  have HVC := Lib.hid (fun (V : World) (hb : Below W.heap.size W V) => implVC_any c _ _ V (h.kept (hb0.trans (hb.mono hb0.size))) hsz)
  have HCX := Lib.hid (fun (V : World) (hb : Below W.heap.size W V) => (hbx.kept hb).cells)
  have HRW := Lib.hid (fun (V : World) (hb : Below W.heap.size W V) => (h.kept (hb0.trans (hb.mono hb0.size))).2.2)
  have hcW := hbx.cells
  rw [hW] at hcW
  obtain ⟨c0, c1, c2, c3, c4, c5, c6, c7⟩ := hcW
  clear hW hbx hb0 h
  cases hv : validX c with
  | false =>
    rw [hv] at HVC
    have HR := Lib.hid (show varsX c = [] by unfold varsX; rw [hv]; rfl)
    clear hv
    go_enter Tryz.func21, Tryz.ntmps21
    go_wp2_with fail
    rw [← HWE.out]
    refine (HVC.out W (Below.refl _ _)).mono ?_
    rintro e w1 ⟨rfl, hb1⟩
    have HB1 := Lib.hid hb1
    clear hb1 c0 c1 c2 c3 c4 c5 c6 c7
    go_wp2_with fail
    go_ret
    exact ⟨by rw [HR.out]; rfl, HB0.out.trans (HB1.out.mono HB0.out.size)⟩
  | true =>
    rw [hv] at HVC
    obtain ⟨hl, hr⟩ := valid_strs hv
    obtain ⟨L, hL⟩ : ∃ L, L = c.l.data.toList ++ c.r.data.toList := ⟨_, rfl⟩
    have hLl : L.length ≤ 24 := by
      rw [hL, List.length_append, show c.l.data.toList.length = c.l.size by simp, show c.r.data.toList.length = c.r.size by simp]
      omega
    have HL0 := Lib.hid (show c.l ++ c.r = strL L by rw [hL]; exact strL_two _ _)
    have HRX := Lib.hid (show varsX c = varsL (L ++ coefL 0 c.cs) by rw [hL]; exact varsX_valid hv)
    have hcs := valid_cs hv
    clear hL hv
    obtain ⟨k, l, rr, xk, xl, xa, cs, b⟩ := c
    simp only at *
    rcases hcs with rfl | ⟨a, d, e, rfl, ha, hd, he⟩
    · have HV := Lib.hid (fun w => implVars_any (strL L) w)
      have HRY := Lib.hid (show varsX ⟨k, l, rr, xk, xl, xa, [], b⟩ = varsL (strL L).data.toList by rw [HRX.out, strL_list, coefL, List.append_nil])
      have c6' := c6
      change _ = some (Value.slice B 0 r) at c6'
      have hCX : ∀ V, Below W.heap.size W V → V.cell? ⟨w.heap.size, 1, none⟩ = some (.string l) ∧ V.cell? ⟨w.heap.size, 2, none⟩ = some (.string rr) ∧ V.cell? ⟨w.heap.size, 6, none⟩ = some (.slice B 0 r) := fun V hb => ⟨(HCX.out V hb).2.1, (HCX.out V hb).2.2.1, (HCX.out V hb).2.2.2.2.2.2.1⟩
      have HCY := Lib.hid hCX
      have HWE3 : Hid (W = w.alloc (.cells #[.int .i64 k, .string l, .string rr, .int .i64 xk, .string xl, .slice A xa.items.length m, .slice B 0 r, .int .i64 b] 29)) := Lib.hid HWE.out
      clear c6 hCX
      go_enter Tryz.func21, Tryz.ntmps21
      go_wp2_with fail
      rw [← HWE3.out]
      refine (HVC.out W (Below.refl _ _)).mono ?_
      rintro e w1 ⟨rfl, hb1⟩
      have HB1 := Lib.hid hb1
      clear hb1 c0 c1 c2 c3 c4 c5 c6' c7
      obtain ⟨c1, c2, c6⟩ := HCY.out w1 HB1.out
      go_wp2_with fail
      go_loop [3, 17] (fun s i => s = .string (strL L) ∧ i = .int .i64 0) (fun _ _ => 0)
      case atStart => exact ⟨congrArg Value.string HL0.out, rfl⟩
      case round =>
        obtain ⟨rfl, rfl⟩ := hrel
        go_wp2_with (go_at_call 69; (with_reducible refine (HV.out _).mono ?_); rintro e w2 ⟨rfl, hb2⟩)
        go_ret
        exact ⟨congrArg (fun z => Ending.returned (.string (strL z))) HRY.out.symm, HB0.out.trans ((HB1.out.trans (hb2.mono HB1.out.size)).mono HB0.out.size)⟩
    · have hcl : (cofK a d e 3).length ≤ 3 := by
        simp only [cofK, List.take, coefL, List.length_append, List.length_nil]
        split <;> split <;> split <;> simp
      have HV := Lib.hid (fun w => implVars_any (strL (L ++ cofK a d e 3)) w)
      have HRY := Lib.hid (show varsX ⟨k, l, rr, xk, xl, xa, [a, d, e], b⟩ = varsL (strL (L ++ cofK a d e 3)).data.toList by rw [HRX.out, strL_list]; rfl)
      have c6' := c6
      change _ = some (Value.slice B 3 r) at c6'
      have hCX : ∀ V, Below W.heap.size W V → V.cell? ⟨w.heap.size, 1, none⟩ = some (.string l) ∧ V.cell? ⟨w.heap.size, 2, none⟩ = some (.string rr) ∧ V.cell? ⟨w.heap.size, 6, none⟩ = some (.slice B 3 r) := fun V hb => ⟨(HCX.out V hb).2.1, (HCX.out V hb).2.2.1, (HCX.out V hb).2.2.2.2.2.2.1⟩
      have HCY := Lib.hid hCX
      have HWE3 : Hid (W = w.alloc (.cells #[.int .i64 k, .string l, .string rr, .int .i64 xk, .string xl, .slice A xa.items.length m, .slice B 3 r, .int .i64 b] 29)) := Lib.hid HWE.out
      have hlen : ∀ j, (cofK a d e j).length ≤ 3 := fun j => by
        match j with
        | 0 => simp [cofK, coefL]
        | 1 => simp only [cofK, List.take, coefL]; split <;> simp
        | 2 => simp only [cofK, List.take, coefL]; split <;> split <;> simp
        | j + 3 => simpa [cofK] using hcl
      have HLN := Lib.hid hlen
      clear c6 hCX hcl hlen ha hd he
      go_enter Tryz.func21, Tryz.ntmps21
      go_wp2_with fail
      rw [← HWE3.out]
      refine (HVC.out W (Below.refl _ _)).mono ?_
      rintro e' w1 ⟨rfl, hb1⟩
      have HB1 := Lib.hid hb1
      obtain ⟨g, rfl, q0, q1, q2⟩ := three_ints (a := a) (d := d) (e := e) (HRW.out w1 hb1)
      clear hb1 c0 c1 c2 c3 c4 c5 c6' c7
      obtain ⟨c1, c2, c6⟩ := HCY.out w1 HB1.out
      go_wp2_with fail
      go_loop [3, 17] (fun s i => ∃ j : Nat, j ≤ 3 ∧ (i = .int .i64 0 ∧ j = 0 ∨ i = .int .i64 1 ∧ j = 1 ∨ i = .int .i64 2 ∧ j = 2 ∨ i = .int .i64 3 ∧ j = 3) ∧ s = .string (strL (L ++ cofK a d e j))) (fun _ i => 3 - (intOf i).toNat)
      case atStart => exact ⟨0, Nat.zero_le _, Or.inl ⟨rfl, rfl⟩, by rw [HL0.out]; simp [cofK, coefL]⟩
      case round =>
        obtain ⟨j, hj, hij, rfl⟩ := hrel
        have hz0 := strL_size (L ++ cofK a d e j)
        rw [List.length_append] at hz0
        have hz1 := HLN.out j
        have hzs : (strL (L ++ cofK a d e j)).size ≤ 27 := by omega
        clear hz0 hz1
        rcases hij with ⟨rfl, rfl⟩ | ⟨rfl, rfl⟩ | ⟨rfl, rfl⟩ | ⟨rfl, rfl⟩
        · have HN := Lib.hid (coefL_three a d e 0 (by omega))
          by_cases hz : a = 0
          · have hz1 : (a == 0) = true := by simp [hz]
            have hz2 : (a != 0) = false := by simp [hz]
            have HN2 := Lib.hid (show cofK a d e 1 = cofK a d e 0 by rw [HN.out]; simp [hz])
            clear hz
            go_wp2_with fail
            go_round
            case rel => exact ⟨1, by omega, Or.inr (Or.inl ⟨rfl, rfl⟩), by rw [HN2.out]⟩
            case measure => simp [intOf]
          · have hz1 : (a == 0) = false := by simp [hz]
            have hz2 : (a != 0) = true := by simp [hz]
            have HN2 := Lib.hid (show cofK a d e 1 = cofK a d e 0 ++ [88] by rw [HN.out, if_pos (by simp [hz])]; rfl)
            clear hz
            go_wp2_with fail
            go_round
            case rel => exact ⟨1, by omega, Or.inr (Or.inl ⟨rfl, rfl⟩), by rw [HN2.out, ← List.append_assoc]; exact strL_add _ [88] rfl⟩
            case measure => simp [intOf]
        · have HN := Lib.hid (coefL_three a d e 1 (by omega))
          by_cases hz : d = 0
          · have hz1 : (d == 0) = true := by simp [hz]
            have hz2 : (d != 0) = false := by simp [hz]
            have HN2 := Lib.hid (show cofK a d e 2 = cofK a d e 1 by rw [HN.out]; simp [hz])
            clear hz
            go_wp2_with fail
            go_round
            case rel => exact ⟨2, by omega, Or.inr (Or.inr (Or.inl ⟨rfl, rfl⟩)), by rw [HN2.out]⟩
            case measure => simp [intOf]
          · have hz1 : (d == 0) = false := by simp [hz]
            have hz2 : (d != 0) = true := by simp [hz]
            have HN2 := Lib.hid (show cofK a d e 2 = cofK a d e 1 ++ [89] by rw [HN.out, if_pos (by simp [hz])]; rfl)
            clear hz
            go_wp2_with fail
            go_round
            case rel => exact ⟨2, by omega, Or.inr (Or.inr (Or.inl ⟨rfl, rfl⟩)), by rw [HN2.out, ← List.append_assoc]; exact strL_add _ [89] rfl⟩
            case measure => simp [intOf]
        · have HN := Lib.hid (coefL_three a d e 2 (by omega))
          by_cases hz : e = 0
          · have hz1 : (e == 0) = true := by simp [hz]
            have hz2 : (e != 0) = false := by simp [hz]
            have HN2 := Lib.hid (show cofK a d e 3 = cofK a d e 2 by rw [HN.out]; simp [hz])
            clear hz
            go_wp2_with fail
            go_round
            case rel => exact ⟨3, by omega, Or.inr (Or.inr (Or.inr (⟨rfl, rfl⟩))), by rw [HN2.out]⟩
            case measure => simp [intOf]
          · have hz1 : (e == 0) = false := by simp [hz]
            have hz2 : (e != 0) = true := by simp [hz]
            have HN2 := Lib.hid (show cofK a d e 3 = cofK a d e 2 ++ [90] by rw [HN.out, if_pos (by simp [hz])]; rfl)
            clear hz
            go_wp2_with fail
            go_round
            case rel => exact ⟨3, by omega, Or.inr (Or.inr (Or.inr (⟨rfl, rfl⟩))), by rw [HN2.out, ← List.append_assoc]; exact strL_add _ [90] rfl⟩
            case measure => simp [intOf]
        · go_wp2_with (go_at_call 69; (with_reducible refine (HV.out _).mono ?_); rintro e w2 ⟨rfl, hb2⟩)
          go_ret
          exact ⟨congrArg (fun z => Ending.returned (.string (strL z))) HRY.out.symm, HB0.out.trans ((HB1.out.trans (hb2.mono HB1.out.size)).mono HB0.out.size)⟩

end Go.Proofs.YtppliiingoonlaaGreatDoor

/-
  What impl.VarsOfProblem answers.
-/
namespace Go.Proofs.YtppliiingoonlaaGreatDoor
open Go.RowKit

set_option maxRecDepth 100000 in
set_option maxHeartbeats 6400000 in
theorem implVarsP_any (ps : List Cx) (v : Value) (w : World) (h : PrO w v ps) (hsz : ∀ c ∈ ps, c.xa.size ≤ 2097152) :
    Calls Tryz.prog 38 #[.agg #[v]] w fun e w' => e = .returned (.string (strL (varsP ps))) ∧ Below w.heap.size w w' := by
  obtain ⟨hl, A, m, rfl⟩ := h.shape
  unfold maxI at hl
  obtain ⟨W, hW⟩ : ∃ W, W = w.alloc (.cells #[.slice A ps.length m] 45) := ⟨_, rfl⟩
  have hb0 : Below w.heap.size w W := by rw [hW]; exact (Below.refl _ _).alloc (Nat.le_refl _) _
  have hbx : BoxP W w.heap.size (.slice A ps.length m) := by rw [hW]; exact boxP_new w _ _
  have HWE := Lib.hid hW
  have HB0 := Lib.hid hb0
  have HBX := Lib.hid (fun (V : World) (hb : Below W.heap.size W V) => (hbx.kept hb).cell)
  have HE := Lib.hid (fun (V : World) (hb : Below W.heap.size W V) (j : Nat) (hj : j < ps.length) => PrR.at ((h.kept hb0).kept hb) hj)
  have HVP := Lib.hid (implVP_any ps _ W (h.kept hb0) hsz)
  have HSZ := Lib.hid hsz
  have hbc := hbx.cell
  rw [hW] at hbc
  clear hW hbx h hsz hb0
  cases hv : validP ps with
  | false =>
    rw [hv] at HVP
    have HR := Lib.hid (show varsP ps = [] by unfold varsP; rw [hv]; rfl)
    clear hv
    go_enter Tryz.func38, Tryz.ntmps38
    go_wp2_with fail
    rw [← HWE.out]
    refine HVP.out.mono ?_
    rintro e w1 ⟨rfl, hb1⟩
    have HB1 := Lib.hid (HB0.out.trans (hb1.mono HB0.out.size))
    clear hb1
    go_wp2_with fail
    go_ret
    exact ⟨by rw [HR.out]; rfl, HB1.out⟩
  | true =>
    rw [hv] at HVP
    have h6 := (validP_iff.1 hv).2
    have hlen := fm_len varsX 3 (ps := ps) (fun c _ => varsX_len c)
    have HLN := Lib.hid hlen
    have HR := Lib.hid (show varsP ps = varsL (fm varsX ps ps.length) by unfold varsP; rw [if_pos hv, fm_all])
    clear hv hlen
    go_enter Tryz.func38, Tryz.ntmps38
    go_wp2_with fail
    rw [← HWE.out]
    refine HVP.out.mono ?_
    rintro e w1 ⟨rfl, hb1⟩
    have HB1 := Lib.hid hb1
    have hbc1 := HBX.out w1 hb1
    clear hb1 hbc
    go_wp2_with fail
    go_loopw [3, 12] (fun s i wr => ∃ (j : Nat) (x : List UInt8), i = .int .i64 j ∧ s = .string (strL x) ∧ Hid (x = fm varsX ps j) ∧ j ≤ ps.length ∧ Below W.heap.size W wr) (fun _ i _ => ps.length - (intOf i).toNat)
    case atStart => exact ⟨0, [], rfl, rfl, Lib.hid (fm_zero _ _).symm, Nat.zero_le _, HB1.out⟩
    case round =>
      obtain ⟨j, x, rfl, rfl, HX, hj, hb⟩ := hrel
      have HB := Lib.hid hb
      have hxl : (strL x).size ≤ 18 := by
        rw [strL_size, HX.out]
        have := HLN.out j hj
        omega
      clear hb hbc1
      by_cases hlt : j < ps.length
      · obtain ⟨g, o, rfl, c, xu, vc, hx, ha, hc⟩ := HE.out wr HB.out j hlt
        obtain ⟨A1, m1, B1, r1, rfl, rfl⟩ := hc.shape
        have hlt' : (j : Int) < ps.length := by omega
        obtain ⟨w2, hw2⟩ : ∃ w2, w2 = wr.alloc (.cells #[.int .i64 c.k, .string c.l, .string c.r, .int .i64 c.xk, .string c.xl, .slice A1 c.xa.items.length m1, .slice B1 c.cs.length r1, .int .i64 c.b] 29) := ⟨_, rfl⟩
        have hb2 : Below wr.heap.size wr w2 := by rw [hw2]; exact (Below.refl _ _).alloc (Nat.le_refl _) _
        have HI := Lib.hid (implVarsC_any c _ _ w2 (hc.kept hb2) (HSZ.out c (List.mem_of_getElem? hx)))
        have HN := Lib.hid (fm_step varsX hx)
        have hyl : (strL (varsX c)).size ≤ 3 := by rw [strL_size]; exact varsX_len c
        obtain ⟨y, hy⟩ : ∃ y, y = varsX c := ⟨_, rfl⟩
        simp only [← hy] at HI HN hyl
        obtain ⟨c0, c1, c2, c3, c4, c5, c6, c7⟩ := ha
        have HB2 := Lib.hid (HB.out.trans (hb2.mono HB.out.size))
        have HW2 := Lib.hid hw2
        clear hc hx hy hb2 hw2
        go_wp2_with fail
        rw [← HW2.out]
        refine HI.out.mono ?_
        rintro e w3 ⟨rfl, hb3⟩
        have HB3 := Lib.hid (HB2.out.trans (hb3.mono HB2.out.size))
        clear hb3 c0 c1 c2 c3 c4 c5 c6 c7
        go_wp2_with fail
        go_roundw
        case rel => exact ⟨j + 1, x ++ y, by go_num, strL_add x y (strL_list _), Lib.hid (by rw [HN.out, HX.out]), by omega, HB3.out⟩
        case measure => simp [intOf]; omega
      · obtain rfl : j = ps.length := by omega
        have HS := Lib.hid (fun w => implVars_any (strL x) w)
        have HRY := Lib.hid (show varsP ps = varsL (strL x).data.toList by rw [HR.out, strL_list, HX.out])
        go_wp2_with fail
        refine (HS.out _).mono ?_
        rintro e w4 ⟨rfl, hb4⟩
        have HB4 := Lib.hid (HB.out.trans (hb4.mono HB.out.size))
        clear hb4
        go_wp2_with fail
        go_ret
        exact ⟨congrArg (fun z => Ending.returned (.string (strL z))) HRY.out.symm, HB0.out.trans (HB4.out.mono HB0.out.size)⟩
end Go.Proofs.YtppliiingoonlaaGreatDoor

/-
  laws.FnExactFormatProblem answers true at every problem, where both sides answer alike.
-/
namespace Go.Proofs.YtppliiingoonlaaGreatDoor
open Go.RowKit

set_option maxRecDepth 100000 in
set_option maxHeartbeats 6400000 in
theorem qxLF_law (ps : List Cx) (v : Value) (y : ByteArray) (w : World) (h : PrV w v ps) (HS0 : wtP ps ≤ 1048576 → ∀ (V : World) (u : Value), Below w.heap.size w V → PrO V u ps → Calls Tryz.prog 30 #[.agg #[u]] V fun e w' => e = .returned (.string y) ∧ Below V.heap.size V w') (HI0 : wtP ps ≤ 1048576 → ∀ (V : World) (u : Value), Below w.heap.size w V → PrO V u ps → Calls Tryz.prog 28 #[.agg #[u]] V fun e w' => e = .returned (.string y) ∧ Below V.heap.size V w') :
    Calls Tryz.prog 8 #[.agg #[v]] w fun e w' => e = .returned (.bool true) ∧ Below w.heap.size w w' := by
  obtain ⟨hl, A, m, rfl⟩ := h.shape
  obtain ⟨W, hW⟩ : ∃ W, W = w.alloc (.cells #[.slice A ps.length m] 57) := ⟨_, rfl⟩
  have hb0 : Below w.heap.size w W := by rw [hW]; exact (Below.refl _ _).alloc (Nat.le_refl _) _
  have hbx : BoxP W w.heap.size (.slice A ps.length m) := by rw [hW]; exact boxP_new w _ _
  have HWE := Lib.hid hW
  have HB0 := Lib.hid hb0
  have HCX := Lib.hid (fun (V : World) (hb : Below W.heap.size W V) => (hbx.kept hb).cell)
  have HSZ := Lib.hid (szP_any ps _ 1048576 W (h.kept hb0) (by omega) (by omega))
  have hcW := hbx.cell
  rw [hW] at hcW
  clear hl
  by_cases hfit : wtP ps ≤ 1048576
  · have HT := Lib.hid (fun (V : World) (hb : Below W.heap.size W V) => toP_any ps _ V (h.kept (hb0.trans (hb.mono hb0.size))) (by omega))
    have HS := Lib.hid (fun (V : World) (u : Value) (hb : Below W.heap.size W V) (hc : PrO V u ps) => HS0 hfit V u (hb0.trans (hb.mono hb0.size)) hc)
    have HI := Lib.hid (fun (V : World) (u : Value) (hb : Below W.heap.size W V) (hc : PrO V u ps) => HI0 hfit V u (hb0.trans (hb.mono hb0.size)) hc)
    obtain ⟨q, hq⟩ : ∃ q : Int, q = 1048576 - (wtP ps : Int) := ⟨_, rfl⟩
    have HQ := Lib.hid ((leftOf_yes (m := wtP ps) (z := 1048576) (by omega)).trans hq.symm)
    have hq0 : ¬ q < 0 := by omega
    have hny : (y.toList != y.toList) = false := bne_self_eq_false _
    clear hW hb0 hbx h HS0 HI0 hfit hq
    go_enter Tryz.func8, Tryz.ntmps8
    go_wp2_with fail
    rw [← HWE.out]
    refine HSZ.out.mono ?_
    rintro e w1 ⟨he, hb1⟩
    rw [HQ.out] at he
    subst he
    have HB1 := Lib.hid hb1
    clear hb1 hcW
    have hc1 := HCX.out w1 HB1.out
    go_wp2_with fail
    refine (HT.out w1 HB1.out).mono ?_
    rintro e w2 ⟨A2, m2, rfl, ht2, hb2⟩
    have HT2 := Lib.hid ht2.own
    have HB2 := Lib.hid (HB1.out.trans (hb2.mono HB1.out.size))
    clear ht2 hb2 hc1
    go_wp2_with fail
    refine (HS.out w2 _ HB2.out HT2.out).mono ?_
    rintro e w3 ⟨rfl, hb3⟩
    have HB3 := Lib.hid (HB2.out.trans (hb3.mono HB2.out.size))
    clear hb3
    have hc3 := HCX.out w3 HB3.out
    go_wp2_with fail
    refine (HT.out w3 HB3.out).mono ?_
    rintro e w4 ⟨A4, m4, rfl, ht4, hb4⟩
    have HB4 := Lib.hid (HB3.out.trans (hb4.mono HB3.out.size))
    have HT4 := Lib.hid (ht4.own.kept (w' := w4.alloc (.cells #[.slice A4 ps.length m4] 45)) ((Below.refl _ _).alloc (Nat.le_refl _) _))
    clear ht4 hb4 hc3
    go_wp2_with fail
    obtain ⟨W5, hW5⟩ : ∃ W5, W5 = w4.alloc (.cells #[.slice A4 ps.length m4] 45) := ⟨_, rfl⟩
    have hb45 : Below w4.heap.size w4 W5 := by rw [hW5]; exact (Below.refl _ _).alloc (Nat.le_refl _) _
    have hbx5 : BoxP W5 w4.heap.size (.slice A4 ps.length m4) := by rw [hW5]; exact boxP_new w4 _ _
    rw [← hW5] at HT4 ⊢
    have HB5 := Lib.hid (HB4.out.trans (hb45.mono HB4.out.size))
    have HX5 := Lib.hid (fun (V : World) (hb : Below W5.heap.size W5 V) => (hbx5.kept hb).cell)
    clear hW5 hb45 hbx5
    refine (HI.out W5 _ HB5.out HT4.out).mono ?_
    rintro e w6 ⟨rfl, hb6⟩
    have HB56 := Lib.hid hb6
    have HB6 := Lib.hid (HB5.out.trans (hb6.mono HB5.out.size))
    have HT6 := Lib.hid (HT4.out.kept hb6)
    clear hb6
    go_wp2_with fail
    have HKB : Hid (∀ X, Below w6.heap.size w6 X → X.cell? ⟨w4.heap.size, 0, none⟩ = some (.slice A4 ps.length m4) ∧ X.cell? ⟨w.heap.size, 0, none⟩ = some (.slice A ps.length m)) := Lib.hid (fun X hb => ⟨HX5.out X (HB56.out.trans (hb.mono HB56.out.size)), HCX.out X (HB6.out.trans (hb.mono HB6.out.size))⟩)
    have HTk := Lib.hid (fun (X : World) (hb : Below w6.heap.size w6 X) => HT.out X (HB6.out.trans (hb.mono HB6.out.size)))
    have HEQ := Lib.hid (fun (X : World) (u' : Value) (hb : Below w6.heap.size w6 X) (hc : PrO X u' ps) => eqP_any ps (.slice A4 ps.length m4) u' X (HT6.out.kept hb) hc)
    have hbw : Below w6.heap.size w6 w6 := Below.refl _ _
    go_region_held3 (fun X => X.cell? ⟨w4.heap.size, 0, none⟩ = some (.slice A4 ps.length m4) ∧ X.cell? ⟨w.heap.size, 0, none⟩ = some (.slice A ps.length m)) (with_reducible first | exact HKB.out _ hbw.drew | exact HKB.out _ hbw) (first | (go_at_call 41; (with_reducible refine (HTk.out _ hbw.drew).mono ?_); rintro e wa ⟨A7, m7, rfl, ht7, hb7⟩; have hbw := hbw.drew.trans (hb7.mono hbw.drew.size)) | (go_at_call 43; (with_reducible refine (HEQ.out _ _ ?hq1 ?hq2).mono ?_); (case hq1 => (first | exact hbw | exact hbw.drew)); (case hq2 => exact ht7.own); rintro e wb ⟨rfl, hb8⟩; (first | (have hbw := hbw.trans (hb8.mono hbw.size)) | (have hbw := hbw.drew.trans (hb8.mono hbw.drew.size)))))
    all_goals
      have HBZ := Lib.hid (HB6.out.trans (hbw.mono HB6.out.size))
      clear hbw ht7 hb7 hb8
      go_wp2_with fail
      go_ret
      exact ⟨rfl, HB0.out.trans (HBZ.out.mono HB0.out.size)⟩
  · have HQ := Lib.hid (leftOf_no (m := wtP ps) (z := 1048576) (by omega))
    clear hW hb0 hbx h HS0 HI0 hfit
    go_enter Tryz.func8, Tryz.ntmps8
    go_wp2_with fail
    rw [← HWE.out]
    refine HSZ.out.mono ?_
    rintro e w1 ⟨he, hb1⟩
    rw [HQ.out] at he
    subst he
    have HB1 := Lib.hid hb1
    clear hb1 hcW
    go_wp2_with fail
    go_ret
    exact ⟨rfl, HB0.out.trans (HB1.out.mono HB0.out.size)⟩
end Go.Proofs.YtppliiingoonlaaGreatDoor

/-
  What spec.FormatProblem answers.
-/
namespace Go.Proofs.YtppliiingoonlaaGreatDoor
open Go.RowKit

theorem strL_nl (x y : List UInt8) : Value.string (strL x ++ strL y ++ ⟨#[10]⟩) = .string (strL (x ++ (y ++ [10]))) := by
  rw [strL_app x y (strL_list y), strL_app _ [10] (t := ⟨#[10]⟩) rfl, List.append_assoc]

set_option maxRecDepth 100000 in
set_option maxHeartbeats 3200000 in
theorem specFmtP_any (ps : List Cx) (v : Value) (w : World) (h : PrO w v ps) (hsz : ∀ c ∈ ps, c.xa.size ≤ 2097152) :
    Calls Tryz.prog 30 #[.agg #[v]] w fun e w' => e = .returned (.string (strL (fmtP ps))) ∧ Below w.heap.size w w' := by
  obtain ⟨hl, A, m, rfl⟩ := h.shape
  unfold maxI at hl
  obtain ⟨W, hW⟩ : ∃ W, W = w.alloc (.cells #[.slice A ps.length m] 45) := ⟨_, rfl⟩
  have hb0 : Below w.heap.size w W := by rw [hW]; exact (Below.refl _ _).alloc (Nat.le_refl _) _
  have hbx : BoxP W w.heap.size (.slice A ps.length m) := by rw [hW]; exact boxP_new w _ _
  have HWE := Lib.hid hW
  have HB0 := Lib.hid hb0
  have HBX := Lib.hid (fun (V : World) (hb : Below W.heap.size W V) => (hbx.kept hb).cell)
  have HE := Lib.hid (fun (V : World) (hb : Below W.heap.size W V) (j : Nat) (hj : j < ps.length) => PrR.at ((h.kept hb0).kept hb) hj)
  have HVP := Lib.hid (fun (V : World) (hb : Below W.heap.size W V) => specVP_any ps _ V ((h.kept hb0).kept hb) hsz)
  have HSZ := Lib.hid hsz
  clear hW hbx h hsz hb0
  cases hv : validP ps with
  | false =>
    rw [hv] at HVP
    have HR := Lib.hid (show fmtP ps = [] by unfold fmtP; rw [hv]; rfl)
    have hpos : 0 < ps.length := by
      rcases Nat.eq_zero_or_pos ps.length with h0 | h0
      · rw [List.length_eq_zero_iff.1 h0] at hv
        cases hv
      · exact h0
    clear hv
    go_enter Tryz.func30, Tryz.ntmps30
    go_wp2_with fail
    rw [← HWE.out]
    go_loopw [3, 4] (fun s i wr => s = .string (strL []) ∧ i = .int .i64 0 ∧ Below W.heap.size W wr) (fun _ _ _ => 0)
    case atStart => exact ⟨rfl, rfl, Below.refl _ _⟩
    case round =>
      obtain ⟨rfl, rfl, hb⟩ := hrel
      have HB := Lib.hid hb
      have hbc := HBX.out wr hb
      have hlt : (0 : Int) < ps.length := by omega
      clear hb
      go_wp2_with fail
      refine (HVP.out wr HB.out).mono ?_
      rintro e w1 ⟨rfl, hb1⟩
      have HB1 := Lib.hid (HB.out.trans (hb1.mono HB.out.size))
      clear hb1
      go_wp2_with fail
      go_ret
      exact ⟨congrArg (fun z => Ending.returned (.string (strL z))) HR.out.symm, HB0.out.trans (HB1.out.mono HB0.out.size)⟩
  | true =>
    rw [hv] at HVP
    have h6 := (validP_iff.1 hv).2
    have hlen := fm_len (fun c => fmtX c ++ [10]) 201 (ps := ps) (fun c _ => fmtN_len c)
    have HLN := Lib.hid hlen
    have HR := Lib.hid (show fmtP ps = fm (fun c => fmtX c ++ [10]) ps ps.length by unfold fmtP; rw [if_pos hv, fm_all])
    clear hv hlen
    go_enter Tryz.func30, Tryz.ntmps30
    go_wp2_with fail
    rw [← HWE.out]
    go_loopw [3, 4] (fun s i wr => ∃ (j : Nat) (x : List UInt8), i = .int .i64 j ∧ s = .string (strL x) ∧ Hid (x = fm (fun c => fmtX c ++ [10]) ps j) ∧ j ≤ ps.length ∧ Below W.heap.size W wr) (fun _ i _ => ps.length - (intOf i).toNat)
    case atStart => exact ⟨0, [], rfl, rfl, Lib.hid (fm_zero _ _).symm, Nat.zero_le _, Below.refl _ _⟩
    case round =>
      obtain ⟨j, x, rfl, rfl, HX, hj, hb⟩ := hrel
      have HB := Lib.hid hb
      have hbc := HBX.out wr hb
      have hxl : (strL x).size ≤ 1206 := by
        rw [strL_size, HX.out]
        have := HLN.out j hj
        omega
      clear hb
      by_cases hlt : j < ps.length
      · obtain ⟨g, o, rfl, c, xu, vc, hx, ha, hc⟩ := HE.out wr HB.out j hlt
        obtain ⟨A1, m1, B1, r1, rfl, rfl⟩ := hc.shape
        have hlt' : (j : Int) < ps.length := by omega
        have HAT := Lib.hid (fun (V : World) (hb : Below wr.heap.size wr V) => (ha.below hb ha.lt : CxAt V g (o + j * 8) c _ _))
        have HCK := Lib.hid (fun (V : World) (hb : Below wr.heap.size wr V) => specFmtC_any c _ _ V (hc.kept hb) (HSZ.out c (List.mem_of_getElem? hx)))
        have HN := Lib.hid (fm_step (fun c => fmtX c ++ [10]) hx)
        have hyl : (strL (fmtX c)).size ≤ 200 := by rw [strL_size]; exact fmtX_len' c
        obtain ⟨y, hy⟩ : ∃ y, y = fmtX c := ⟨_, rfl⟩
        simp only [← hy] at HCK HN hyl
        clear ha hc hx hy
        go_wp2_with fail
        refine (HVP.out wr HB.out).mono ?_
        rintro e w1 ⟨rfl, hb1⟩
        have hbc1 := HBX.out w1 (HB.out.trans (hb1.mono HB.out.size))
        obtain ⟨c0, c1, c2, c3, c4, c5, c6, c7⟩ := HAT.out w1 hb1
        have HB1 := Lib.hid hb1
        have HI := Lib.hid (HCK.out w1 hb1)
        clear hb1 hbc
        go_wp2_with fail
        refine HI.out.mono ?_
        rintro e w2 ⟨rfl, hb2⟩
        have HB2 := Lib.hid (HB.out.trans ((HB1.out.trans (hb2.mono HB1.out.size)).mono HB.out.size))
        clear hb2
        go_wp2_with fail
        go_roundw
        case rel => exact ⟨j + 1, x ++ (y ++ [10]), by go_num, strL_nl x y, Lib.hid (by rw [HN.out, HX.out]), by omega, HB2.out⟩
        case measure => simp [intOf]; omega
      · obtain rfl : j = ps.length := by omega
        have HRY := Lib.hid (show fmtP ps = x by rw [HR.out, HX.out])
        go_wp2_with fail
        go_ret
        exact ⟨congrArg (fun z => Ending.returned (.string (strL z))) HRY.out.symm, HB0.out.trans (HB.out.mono HB0.out.size)⟩
end Go.Proofs.YtppliiingoonlaaGreatDoor

/-
  What an assertion finds at each of the nine forms.
-/
namespace Go.Proofs.YtppliiingoonlaaGreatDoor
open Go.RowKit
theorem no_noneForm (t : TypeId) (v : Value) (w : World) (h : t ≠ 265) : (Instr.typeAssert (.iface t v) 222 265 true).run Tryz.prog w = .ok (.tuple #[.agg #[], .bool false]) w := by
  simp [Instr.typeAssert, run_underlying Tryz.underlying265, h, go_sem, Result.andThen, Tryz.zeroValue265]
theorem yes_noneForm (v : Value) (w : World) : (Instr.typeAssert (.iface 265 v) 222 265 true).run Tryz.prog w = .ok (.tuple #[v, .bool true]) w := by
  simp [Instr.typeAssert, run_underlying Tryz.underlying265, go_sem, Result.andThen]
theorem no_emptyForm (t : TypeId) (v : Value) (w : World) (h : t ≠ 227) : (Instr.typeAssert (.iface t v) 222 227 true).run Tryz.prog w = .ok (.tuple #[.agg #[], .bool false]) w := by
  simp [Instr.typeAssert, run_underlying Tryz.underlying227, h, go_sem, Result.andThen, Tryz.zeroValue227]
theorem yes_emptyForm (v : Value) (w : World) : (Instr.typeAssert (.iface 227 v) 222 227 true).run Tryz.prog w = .ok (.tuple #[v, .bool true]) w := by
  simp [Instr.typeAssert, run_underlying Tryz.underlying227, go_sem, Result.andThen]
theorem no_letterForm (t : TypeId) (v : Value) (w : World) (h : t ≠ 229) : (Instr.typeAssert (.iface t v) 222 229 true).run Tryz.prog w = .ok (.tuple #[.agg #[.string ⟨#[]⟩], .bool false]) w := by
  simp [Instr.typeAssert, run_underlying Tryz.underlying229, h, go_sem, Result.andThen, Tryz.zeroValue229]
theorem yes_letterForm (v : Value) (w : World) : (Instr.typeAssert (.iface 229 v) 222 229 true).run Tryz.prog w = .ok (.tuple #[v, .bool true]) w := by
  simp [Instr.typeAssert, run_underlying Tryz.underlying229, go_sem, Result.andThen]
theorem no_anyForm (t : TypeId) (v : Value) (w : World) (h : t ≠ 230) : (Instr.typeAssert (.iface t v) 222 230 true).run Tryz.prog w = .ok (.tuple #[.agg #[], .bool false]) w := by
  simp [Instr.typeAssert, run_underlying Tryz.underlying230, h, go_sem, Result.andThen, Tryz.zeroValue230]
theorem yes_anyForm (v : Value) (w : World) : (Instr.typeAssert (.iface 230 v) 222 230 true).run Tryz.prog w = .ok (.tuple #[v, .bool true]) w := by
  simp [Instr.typeAssert, run_underlying Tryz.underlying230, go_sem, Result.andThen]
theorem no_catForm (t : TypeId) (v : Value) (w : World) (h : t ≠ 234) : (Instr.typeAssert (.iface t v) 222 234 true).run Tryz.prog w = .ok (.tuple #[.agg #[.int .i64 0, .string ⟨#[]⟩, .slice none 0 0, .int .i64 0, .string ⟨#[]⟩, .slice none 0 0], .bool false]) w := by
  simp [Instr.typeAssert, run_underlying Tryz.underlying234, h, go_sem, Result.andThen, Tryz.zeroValue234]
theorem yes_catForm (v : Value) (w : World) : (Instr.typeAssert (.iface 234 v) 222 234 true).run Tryz.prog w = .ok (.tuple #[v, .bool true]) w := by
  simp [Instr.typeAssert, run_underlying Tryz.underlying234, go_sem, Result.andThen]
theorem no_orForm (t : TypeId) (v : Value) (w : World) (h : t ≠ 236) : (Instr.typeAssert (.iface t v) 222 236 true).run Tryz.prog w = .ok (.tuple #[.agg #[.int .i64 0, .string ⟨#[]⟩, .slice none 0 0, .int .i64 0, .string ⟨#[]⟩, .slice none 0 0], .bool false]) w := by
  simp [Instr.typeAssert, run_underlying Tryz.underlying236, h, go_sem, Result.andThen, Tryz.zeroValue236]
theorem yes_orForm (v : Value) (w : World) : (Instr.typeAssert (.iface 236 v) 222 236 true).run Tryz.prog w = .ok (.tuple #[v, .bool true]) w := by
  simp [Instr.typeAssert, run_underlying Tryz.underlying236, go_sem, Result.andThen]
theorem no_andForm (t : TypeId) (v : Value) (w : World) (h : t ≠ 237) : (Instr.typeAssert (.iface t v) 222 237 true).run Tryz.prog w = .ok (.tuple #[.agg #[.int .i64 0, .string ⟨#[]⟩, .slice none 0 0, .int .i64 0, .string ⟨#[]⟩, .slice none 0 0], .bool false]) w := by
  simp [Instr.typeAssert, run_underlying Tryz.underlying237, h, go_sem, Result.andThen, Tryz.zeroValue237]
theorem yes_andForm (v : Value) (w : World) : (Instr.typeAssert (.iface 237 v) 222 237 true).run Tryz.prog w = .ok (.tuple #[v, .bool true]) w := by
  simp [Instr.typeAssert, run_underlying Tryz.underlying237, go_sem, Result.andThen]
theorem no_starForm (t : TypeId) (v : Value) (w : World) (h : t ≠ 241) : (Instr.typeAssert (.iface t v) 222 241 true).run Tryz.prog w = .ok (.tuple #[.agg #[.int .i64 0, .string ⟨#[]⟩, .slice none 0 0], .bool false]) w := by
  simp [Instr.typeAssert, run_underlying Tryz.underlying241, h, go_sem, Result.andThen, Tryz.zeroValue241]
theorem yes_starForm (v : Value) (w : World) : (Instr.typeAssert (.iface 241 v) 222 241 true).run Tryz.prog w = .ok (.tuple #[v, .bool true]) w := by
  simp [Instr.typeAssert, run_underlying Tryz.underlying241, go_sem, Result.andThen]
theorem no_notForm (t : TypeId) (v : Value) (w : World) (h : t ≠ 243) : (Instr.typeAssert (.iface t v) 222 243 true).run Tryz.prog w = .ok (.tuple #[.agg #[.int .i64 0, .string ⟨#[]⟩, .slice none 0 0], .bool false]) w := by
  simp [Instr.typeAssert, run_underlying Tryz.underlying243, h, go_sem, Result.andThen, Tryz.zeroValue243]
theorem yes_notForm (v : Value) (w : World) : (Instr.typeAssert (.iface 243 v) 222 243 true).run Tryz.prog w = .ok (.tuple #[v, .bool true]) w := by
  simp [Instr.typeAssert, run_underlying Tryz.underlying243, go_sem, Result.andThen]
end Go.Proofs.YtppliiingoonlaaGreatDoor

/-
  What impl.textOf and impl.FormatRegex answer: the representation of an expression.
-/
namespace Go.Proofs.YtppliiingoonlaaGreatDoor
open Go.RowKit
/-- A part's call, among the cells of both. -/
theorem two_kid {w W1 W : World} {k1 k2 : Int} {l1 l2 : ByteArray} {A1 A2 : Option Addr} {m1 m2 c1 c2 : Nat} {v : Value} {s : ByteArray}
    (hI : ∀ W, Below w.heap.size w W → Calls Tryz.prog 208 #[v] W fun e W' => e = .returned (.string s) ∧ Below W.heap.size W W') (hw : Below w.heap.size w W1) (hW : Below W1.heap.size W1 W)
    (hb : W1.cell? ⟨w.heap.size, 0, none⟩ = some (.int .i64 k1) ∧ W1.cell? ⟨w.heap.size, 1, none⟩ = some (.string l1) ∧ W1.cell? ⟨w.heap.size, 2, none⟩ = some (.slice A1 m1 c1) ∧ W1.cell? ⟨w.heap.size, 3, none⟩ = some (.int .i64 k2) ∧ W1.cell? ⟨w.heap.size, 4, none⟩ = some (.string l2) ∧ W1.cell? ⟨w.heap.size, 5, none⟩ = some (.slice A2 m2 c2)) (hz : w.heap.size < W1.heap.size) :
    Calls Tryz.prog 208 #[v] W fun e w' => e = .returned (.string s) ∧ w'.cell? ⟨w.heap.size, 0, none⟩ = some (.int .i64 k1) ∧ w'.cell? ⟨w.heap.size, 1, none⟩ = some (.string l1) ∧ w'.cell? ⟨w.heap.size, 2, none⟩ = some (.slice A1 m1 c1) ∧ w'.cell? ⟨w.heap.size, 3, none⟩ = some (.int .i64 k2) ∧ w'.cell? ⟨w.heap.size, 4, none⟩ = some (.string l2) ∧ w'.cell? ⟨w.heap.size, 5, none⟩ = some (.slice A2 m2 c2) ∧ Below W1.heap.size W1 w' :=
  (hI W (hw.trans (hW.mono hw.size))).mono fun _ _ ⟨he, hb2⟩ => by
    have h := hW.trans (hb2.mono hW.size)
    exact ⟨he, (h.cell (p := ⟨w.heap.size, 0, none⟩) hz).trans hb.1, (h.cell (p := ⟨w.heap.size, 1, none⟩) hz).trans hb.2.1, (h.cell (p := ⟨w.heap.size, 2, none⟩) hz).trans hb.2.2.1, (h.cell (p := ⟨w.heap.size, 3, none⟩) hz).trans hb.2.2.2.1, (h.cell (p := ⟨w.heap.size, 4, none⟩) hz).trans hb.2.2.2.2.1, (h.cell (p := ⟨w.heap.size, 5, none⟩) hz).trans hb.2.2.2.2.2, h⟩
set_option maxRecDepth 100000 in
set_option maxHeartbeats 1600000 in
theorem textTwo (k1 k2 : Int) (l1 l2 : ByteArray) (A1 A2 : Option Addr) (m1 m2 c1 c2 : Nat) (x y sg : ByteArray) (w : World)
    (hI : ∀ W, Below w.heap.size w W → Calls Tryz.prog 208 #[.agg #[.int .i64 k1, .string l1, .slice A1 m1 c1]] W fun e W' => e = .returned (.string x) ∧ Below W.heap.size W W')
    (hI2 : ∀ W, Below w.heap.size w W → Calls Tryz.prog 208 #[.agg #[.int .i64 k2, .string l2, .slice A2 m2 c2]] W fun e W' => e = .returned (.string y) ∧ Below W.heap.size W W')
    (hx : x.size ≤ 8388608) (hy : y.size ≤ 8388608) (hs : sg.size ≤ 1) :
    Calls Tryz.prog 236 #[.agg #[.int .i64 k1, .string l1, .slice A1 m1 c1, .int .i64 k2, .string l2, .slice A2 m2 c2], .string sg] w fun e w' => e = .returned (.string ((((⟨#[40]⟩ ++ x) ++ sg) ++ y) ++ ⟨#[41]⟩)) ∧ Below w.heap.size w w' := by
  have HI := Lib.hid hI
  have HI2 := Lib.hid hI2
  have HB0 := Lib.hid ((Below.refl w.heap.size w).alloc (Nat.le_refl _) (.cells #[.int .i64 k1, .string l1, .slice A1 m1 c1, .int .i64 k2, .string l2, .slice A2 m2 c2] 232))
  clear hI hI2
  go_enter Tryz.func236, Tryz.ntmps236
  go_wp2_with fail
  obtain ⟨W1, hW1⟩ : ∃ W1, W1 = w.alloc (.cells #[.int .i64 k1, .string l1, .slice A1 m1 c1, .int .i64 k2, .string l2, .slice A2 m2 c2] 232) := ⟨_, rfl⟩
  rw [← hW1]
  have hb1 : Below w.heap.size w W1 := by rw [hW1]; exact HB0.out
  have hz : w.heap.size < W1.heap.size := by rw [hW1]; simp
  have hcs : W1.cell? ⟨w.heap.size, 0, none⟩ = some (.int .i64 k1) ∧ W1.cell? ⟨w.heap.size, 1, none⟩ = some (.string l1) ∧ W1.cell? ⟨w.heap.size, 2, none⟩ = some (.slice A1 m1 c1) ∧ W1.cell? ⟨w.heap.size, 3, none⟩ = some (.int .i64 k2) ∧ W1.cell? ⟨w.heap.size, 4, none⟩ = some (.string l2) ∧ W1.cell? ⟨w.heap.size, 5, none⟩ = some (.slice A2 m2 c2) := by rw [hW1]; exact ⟨by simp, by simp, by simp, by simp, by simp, by simp⟩
  have HJ := Lib.hid (fun W (h : Below W1.heap.size W1 W) => two_kid HI.out hb1 h hcs hz)
  have HJ2 := Lib.hid (fun W (h : Below W1.heap.size W1 W) => two_kid HI2.out hb1 h hcs hz)
  obtain ⟨b0, b1, b2, b3, b4, b5⟩ := hcs
  have HB1 := Lib.hid hb1
  have HZ := Lib.hid (Nat.le_of_lt hz)
  have hbw : Below W1.heap.size W1 W1 := Below.refl _ _
  clear hW1 hb1 hz
  have q1 : (9223372036854775807 < 1 + x.size) = False := by simp; omega
  have q2 : (9223372036854775807 < 1 + x.size + sg.size) = False := by simp; omega
  have q3 : (9223372036854775807 < 1 + x.size + sg.size + y.size) = False := by simp; omega
  have q4 : (9223372036854775807 < 1 + x.size + sg.size + y.size + 1) = False := by simp; omega
  go_region_held3 (fun w' => w'.cell? ⟨w.heap.size, 0, none⟩ = some (.int .i64 k1) ∧ w'.cell? ⟨w.heap.size, 1, none⟩ = some (.string l1) ∧ w'.cell? ⟨w.heap.size, 2, none⟩ = some (.slice A1 m1 c1) ∧ w'.cell? ⟨w.heap.size, 3, none⟩ = some (.int .i64 k2) ∧ w'.cell? ⟨w.heap.size, 4, none⟩ = some (.string l2) ∧ w'.cell? ⟨w.heap.size, 5, none⟩ = some (.slice A2 m2 c2) ∧ Below W1.heap.size W1 w') (first | exact ⟨b0, b1, b2, b3, b4, b5, hbw.drew⟩ | exact ⟨b0, b1, b2, b3, b4, b5, hbw⟩ | go_keep)
    (first | (go_at_call 208; (with_reducible refine (HJ.out _ ?_).mono ?_); (simp [*]); rintro e w' ⟨rfl, b0, b1, b2, b3, b4, b5, hbw⟩) | (go_at_call 208; (with_reducible refine (HJ2.out _ ?_).mono ?_); (simp [*]); rintro e w' ⟨rfl, b0, b1, b2, b3, b4, b5, hbw⟩))
  have HWf := Lib.hid (HB1.out.trans (hbw.mono HZ.out))
  clear b0 b1 b2 b3 b4 b5 hbw q1 q2 q3 q4
  go_wp2_with fail
  go_ret
  exact ⟨rfl, HWf.out⟩

set_option maxRecDepth 100000 in
set_option maxHeartbeats 1600000 in
theorem text_case_1 (l : ByteArray) (A : Option Addr) (c : Nat) (a : Fr) (w : World) (hnode : nodeOk 1 l 0 = true)  :
    Calls Tryz.prog 208 #[.agg #[.int .i64 1, .string l, .slice A 0 c]] w fun e w' => e = .returned (.string ⟨(nodeTxt 1 l (texts a)).toArray⟩) ∧ Below w.heap.size w w' := by
  have HB0 := Lib.hid ((Below.refl w.heap.size w).alloc (Nat.le_refl _) (.cells #[.int .i64 1, .string l, .slice A 0 c] 26))
  have HI := Lib.hid (fun wr : World => formOf_1 l A c wr (ok_zero hnode (by decide)))
  clear hnode
  have p1 := yes_noneForm
  go_enter Tryz.func208, Tryz.ntmps208
  go_wp2_with fail
  refine (HI.out _).mono ?_
  rintro e w1 ⟨rfl, hb1⟩
  have HB1 := Lib.hid (HB0.out.trans (hb1.mono HB0.out.size))
  clear hb1
  go_wp2_with fail
  go_ret
  exact ⟨rfl, HB1.out.alloc HB1.out.size _⟩

set_option maxRecDepth 100000 in
set_option maxHeartbeats 1600000 in
theorem text_case_2 (l : ByteArray) (A : Option Addr) (c : Nat) (a : Fr) (w : World) (hnode : nodeOk 2 l 0 = true)  :
    Calls Tryz.prog 208 #[.agg #[.int .i64 2, .string l, .slice A 0 c]] w fun e w' => e = .returned (.string ⟨(nodeTxt 2 l (texts a)).toArray⟩) ∧ Below w.heap.size w w' := by
  have HB0 := Lib.hid ((Below.refl w.heap.size w).alloc (Nat.le_refl _) (.cells #[.int .i64 2, .string l, .slice A 0 c] 26))
  have HI := Lib.hid (fun wr : World => formOf_2 l A c wr (ok_zero hnode (by decide)))
  clear hnode
  have q1 := no_noneForm
  have p2 := yes_emptyForm
  go_enter Tryz.func208, Tryz.ntmps208
  go_wp2_with fail
  refine (HI.out _).mono ?_
  rintro e w1 ⟨rfl, hb1⟩
  have HB1 := Lib.hid (HB0.out.trans (hb1.mono HB0.out.size))
  clear hb1
  go_wp2_with fail
  go_ret
  exact ⟨rfl, HB1.out.alloc HB1.out.size _⟩

set_option maxRecDepth 100000 in
set_option maxHeartbeats 1600000 in
theorem text_case_3 (l : ByteArray) (A : Option Addr) (c : Nat) (a : Fr) (w : World) (hnode : nodeOk 3 l 0 = true)  :
    Calls Tryz.prog 208 #[.agg #[.int .i64 3, .string l, .slice A 0 c]] w fun e w' => e = .returned (.string ⟨(nodeTxt 3 l (texts a)).toArray⟩) ∧ Below w.heap.size w w' := by
  have HB0 := Lib.hid ((Below.refl w.heap.size w).alloc (Nat.le_refl _) (.cells #[.int .i64 3, .string l, .slice A 0 c] 26))
  have HI := Lib.hid (fun wr : World => formOf_letter l A c wr (ok_letter hnode).1 (ok_letter hnode).2)
  clear hnode
  have q1 := no_noneForm
  have q2 := no_emptyForm
  have p3 := yes_letterForm
  go_enter Tryz.func208, Tryz.ntmps208
  go_wp2_with fail
  refine (HI.out _).mono ?_
  rintro e w1 ⟨rfl, hb1⟩
  have HB1 := Lib.hid (HB0.out.trans (hb1.mono HB0.out.size))
  clear hb1
  go_wp2_with fail
  go_ret
  exact ⟨by simp [nodeTxt], HB1.out.alloc HB1.out.size _⟩

set_option maxRecDepth 100000 in
set_option maxHeartbeats 1600000 in
theorem text_case_4 (l : ByteArray) (A : Option Addr) (c : Nat) (a : Fr) (w : World) (hnode : nodeOk 4 l 0 = true)  :
    Calls Tryz.prog 208 #[.agg #[.int .i64 4, .string l, .slice A 0 c]] w fun e w' => e = .returned (.string ⟨(nodeTxt 4 l (texts a)).toArray⟩) ∧ Below w.heap.size w w' := by
  have HB0 := Lib.hid ((Below.refl w.heap.size w).alloc (Nat.le_refl _) (.cells #[.int .i64 4, .string l, .slice A 0 c] 26))
  have HI := Lib.hid (fun wr : World => formOf_4 l A c wr (ok_zero hnode (by decide)))
  clear hnode
  have q1 := no_noneForm
  have q2 := no_emptyForm
  have q3 := no_letterForm
  have p4 := yes_anyForm
  go_enter Tryz.func208, Tryz.ntmps208
  go_wp2_with fail
  refine (HI.out _).mono ?_
  rintro e w1 ⟨rfl, hb1⟩
  have HB1 := Lib.hid (HB0.out.trans (hb1.mono HB0.out.size))
  clear hb1
  go_wp2_with fail
  go_ret
  exact ⟨rfl, HB1.out.alloc HB1.out.size _⟩

set_option maxRecDepth 100000 in
set_option maxHeartbeats 1600000 in
theorem text_case_5 (l : ByteArray) (A : Option Addr) (c : Nat) (a : Fr) (w : World) (hnode : nodeOk 5 l 2 = true) (hkid : ∀ j, j < 2 → ∃ g o k' l' A' m' c', A = some ⟨g, o, none⟩ ∧ g < w.heap.size ∧ ElAt w g (o + j * 3) k' l' (.slice A' m' c') ∧ ((texts a).getD j []).length ≤ 8388608 ∧
        ∀ W, Below w.heap.size w W → Calls Tryz.prog 208 #[.agg #[.int .i64 k', .string l', .slice A' m' c']] W fun e W' => e = .returned (.string ⟨((texts a).getD j []).toArray⟩) ∧ Below W.heap.size W W') :
    Calls Tryz.prog 208 #[.agg #[.int .i64 5, .string l, .slice A 2 c]] w fun e w' => e = .returned (.string ⟨(nodeTxt 5 l (texts a)).toArray⟩) ∧ Below w.heap.size w w' := by
  have HB0 := Lib.hid ((Below.refl w.heap.size w).alloc (Nat.le_refl _) (.cells #[.int .i64 5, .string l, .slice A 2 c] 26))
  obtain ⟨g, o, k1, l1, A1, m1, c1, rfl, hg, he, hlen, hI⟩ := hkid 0 (by omega)
  obtain ⟨g2, o2, k2, l2, A2, m2, c2, hA2, _, he2, hlen2, hI2⟩ := hkid 1 (by omega)
  cases hA2
  rw [Nat.zero_mul, Nat.add_zero] at he
  rw [Nat.one_mul] at he2
  have HF := Lib.hid (fun wr (hb : Below w.heap.size w wr) => formOf_5 l g o c k1 k2 l1 l2 (.slice A1 m1 c1) (.slice A2 m2 c2) wr (ok_zero hnode (by decide)) (Nat.lt_of_lt_of_le hg hb.size) (he.below hb hg) (he2.below hb hg))
  obtain ⟨x, hx⟩ : ∃ x : ByteArray, x = ⟨((texts a).getD 0 []).toArray⟩ := ⟨_, rfl⟩
  have hxs : x.size ≤ 8388608 := by rw [hx]; exact hlen
  obtain ⟨y, hy⟩ : ∃ y : ByteArray, y = ⟨((texts a).getD 1 []).toArray⟩ := ⟨_, rfl⟩
  have hys : y.size ≤ 8388608 := by rw [hy]; exact hlen2
  rw [← hx] at hI
  rw [← hy] at hI2
  have HX := Lib.hid hx
  have HY := Lib.hid hy
  have HT := Lib.hid (fun wr (hb : Below w.heap.size w wr) => textTwo k1 k2 l1 l2 A1 A2 m1 m2 c1 c2 x y ⟨#[]⟩ wr (fun W h => hI W (hb.trans (h.mono hb.size))) (fun W h => hI2 W (hb.trans (h.mono hb.size))) hxs hys (by decide))
  clear hkid he he2 hlen hlen2 hI hI2 hx hy  hnode
  have q1 := no_noneForm
  have q2 := no_emptyForm
  have q3 := no_letterForm
  have q4 := no_anyForm
  have p5 := yes_catForm
  go_enter Tryz.func208, Tryz.ntmps208
  go_wp2_with fail
  refine (HF.out _ HB0.out).mono ?_
  rintro e w1 ⟨rfl, hb1⟩
  have HB1 := Lib.hid (HB0.out.trans (hb1.mono HB0.out.size))
  clear hb1
  go_wp2_with fail
  refine (HT.out _ (HB1.out.alloc HB1.out.size _)).mono ?_
  rintro e w2 ⟨rfl, hb2⟩
  have HB2 := Lib.hid ((HB1.out.alloc HB1.out.size _).trans (hb2.mono (HB1.out.alloc HB1.out.size _).size))
  clear hb2
  go_wp2_with fail
  go_ret
  exact ⟨congrArg (fun s => Ending.returned (.string s)) (str_cat _ _ _ [41] (str_cat _ _ _ _ (str_cat _ _ _ (signOf 5) (str_cat _ _ [40] _ rfl HX.out) rfl) HY.out) rfl), HB2.out⟩

set_option maxRecDepth 100000 in
set_option maxHeartbeats 1600000 in
theorem text_case_6 (l : ByteArray) (A : Option Addr) (c : Nat) (a : Fr) (w : World) (hnode : nodeOk 6 l 2 = true) (hkid : ∀ j, j < 2 → ∃ g o k' l' A' m' c', A = some ⟨g, o, none⟩ ∧ g < w.heap.size ∧ ElAt w g (o + j * 3) k' l' (.slice A' m' c') ∧ ((texts a).getD j []).length ≤ 8388608 ∧
        ∀ W, Below w.heap.size w W → Calls Tryz.prog 208 #[.agg #[.int .i64 k', .string l', .slice A' m' c']] W fun e W' => e = .returned (.string ⟨((texts a).getD j []).toArray⟩) ∧ Below W.heap.size W W') :
    Calls Tryz.prog 208 #[.agg #[.int .i64 6, .string l, .slice A 2 c]] w fun e w' => e = .returned (.string ⟨(nodeTxt 6 l (texts a)).toArray⟩) ∧ Below w.heap.size w w' := by
  have HB0 := Lib.hid ((Below.refl w.heap.size w).alloc (Nat.le_refl _) (.cells #[.int .i64 6, .string l, .slice A 2 c] 26))
  obtain ⟨g, o, k1, l1, A1, m1, c1, rfl, hg, he, hlen, hI⟩ := hkid 0 (by omega)
  obtain ⟨g2, o2, k2, l2, A2, m2, c2, hA2, _, he2, hlen2, hI2⟩ := hkid 1 (by omega)
  cases hA2
  rw [Nat.zero_mul, Nat.add_zero] at he
  rw [Nat.one_mul] at he2
  have HF := Lib.hid (fun wr (hb : Below w.heap.size w wr) => formOf_6 l g o c k1 k2 l1 l2 (.slice A1 m1 c1) (.slice A2 m2 c2) wr (ok_zero hnode (by decide)) (Nat.lt_of_lt_of_le hg hb.size) (he.below hb hg) (he2.below hb hg))
  obtain ⟨x, hx⟩ : ∃ x : ByteArray, x = ⟨((texts a).getD 0 []).toArray⟩ := ⟨_, rfl⟩
  have hxs : x.size ≤ 8388608 := by rw [hx]; exact hlen
  obtain ⟨y, hy⟩ : ∃ y : ByteArray, y = ⟨((texts a).getD 1 []).toArray⟩ := ⟨_, rfl⟩
  have hys : y.size ≤ 8388608 := by rw [hy]; exact hlen2
  rw [← hx] at hI
  rw [← hy] at hI2
  have HX := Lib.hid hx
  have HY := Lib.hid hy
  have HT := Lib.hid (fun wr (hb : Below w.heap.size w wr) => textTwo k1 k2 l1 l2 A1 A2 m1 m2 c1 c2 x y ⟨#[124]⟩ wr (fun W h => hI W (hb.trans (h.mono hb.size))) (fun W h => hI2 W (hb.trans (h.mono hb.size))) hxs hys (by decide))
  clear hkid he he2 hlen hlen2 hI hI2 hx hy  hnode
  have q1 := no_noneForm
  have q2 := no_emptyForm
  have q3 := no_letterForm
  have q4 := no_anyForm
  have q5 := no_catForm
  have p6 := yes_orForm
  go_enter Tryz.func208, Tryz.ntmps208
  go_wp2_with fail
  refine (HF.out _ HB0.out).mono ?_
  rintro e w1 ⟨rfl, hb1⟩
  have HB1 := Lib.hid (HB0.out.trans (hb1.mono HB0.out.size))
  clear hb1
  go_wp2_with fail
  refine (HT.out _ (HB1.out.alloc HB1.out.size _)).mono ?_
  rintro e w2 ⟨rfl, hb2⟩
  have HB2 := Lib.hid ((HB1.out.alloc HB1.out.size _).trans (hb2.mono (HB1.out.alloc HB1.out.size _).size))
  clear hb2
  go_wp2_with fail
  go_ret
  exact ⟨congrArg (fun s => Ending.returned (.string s)) (str_cat _ _ _ [41] (str_cat _ _ _ _ (str_cat _ _ _ (signOf 6) (str_cat _ _ [40] _ rfl HX.out) rfl) HY.out) rfl), HB2.out⟩

set_option maxRecDepth 100000 in
set_option maxHeartbeats 1600000 in
theorem text_case_7 (l : ByteArray) (A : Option Addr) (c : Nat) (a : Fr) (w : World) (hnode : nodeOk 7 l 2 = true) (hkid : ∀ j, j < 2 → ∃ g o k' l' A' m' c', A = some ⟨g, o, none⟩ ∧ g < w.heap.size ∧ ElAt w g (o + j * 3) k' l' (.slice A' m' c') ∧ ((texts a).getD j []).length ≤ 8388608 ∧
        ∀ W, Below w.heap.size w W → Calls Tryz.prog 208 #[.agg #[.int .i64 k', .string l', .slice A' m' c']] W fun e W' => e = .returned (.string ⟨((texts a).getD j []).toArray⟩) ∧ Below W.heap.size W W') :
    Calls Tryz.prog 208 #[.agg #[.int .i64 7, .string l, .slice A 2 c]] w fun e w' => e = .returned (.string ⟨(nodeTxt 7 l (texts a)).toArray⟩) ∧ Below w.heap.size w w' := by
  have HB0 := Lib.hid ((Below.refl w.heap.size w).alloc (Nat.le_refl _) (.cells #[.int .i64 7, .string l, .slice A 2 c] 26))
  obtain ⟨g, o, k1, l1, A1, m1, c1, rfl, hg, he, hlen, hI⟩ := hkid 0 (by omega)
  obtain ⟨g2, o2, k2, l2, A2, m2, c2, hA2, _, he2, hlen2, hI2⟩ := hkid 1 (by omega)
  cases hA2
  rw [Nat.zero_mul, Nat.add_zero] at he
  rw [Nat.one_mul] at he2
  have HF := Lib.hid (fun wr (hb : Below w.heap.size w wr) => formOf_7 l g o c k1 k2 l1 l2 (.slice A1 m1 c1) (.slice A2 m2 c2) wr (ok_zero hnode (by decide)) (Nat.lt_of_lt_of_le hg hb.size) (he.below hb hg) (he2.below hb hg))
  obtain ⟨x, hx⟩ : ∃ x : ByteArray, x = ⟨((texts a).getD 0 []).toArray⟩ := ⟨_, rfl⟩
  have hxs : x.size ≤ 8388608 := by rw [hx]; exact hlen
  obtain ⟨y, hy⟩ : ∃ y : ByteArray, y = ⟨((texts a).getD 1 []).toArray⟩ := ⟨_, rfl⟩
  have hys : y.size ≤ 8388608 := by rw [hy]; exact hlen2
  rw [← hx] at hI
  rw [← hy] at hI2
  have HX := Lib.hid hx
  have HY := Lib.hid hy
  have HT := Lib.hid (fun wr (hb : Below w.heap.size w wr) => textTwo k1 k2 l1 l2 A1 A2 m1 m2 c1 c2 x y ⟨#[38]⟩ wr (fun W h => hI W (hb.trans (h.mono hb.size))) (fun W h => hI2 W (hb.trans (h.mono hb.size))) hxs hys (by decide))
  clear hkid he he2 hlen hlen2 hI hI2 hx hy  hnode
  have q1 := no_noneForm
  have q2 := no_emptyForm
  have q3 := no_letterForm
  have q4 := no_anyForm
  have q5 := no_catForm
  have q6 := no_orForm
  have p7 := yes_andForm
  go_enter Tryz.func208, Tryz.ntmps208
  go_wp2_with fail
  refine (HF.out _ HB0.out).mono ?_
  rintro e w1 ⟨rfl, hb1⟩
  have HB1 := Lib.hid (HB0.out.trans (hb1.mono HB0.out.size))
  clear hb1
  go_wp2_with fail
  refine (HT.out _ (HB1.out.alloc HB1.out.size _)).mono ?_
  rintro e w2 ⟨rfl, hb2⟩
  have HB2 := Lib.hid ((HB1.out.alloc HB1.out.size _).trans (hb2.mono (HB1.out.alloc HB1.out.size _).size))
  clear hb2
  go_wp2_with fail
  go_ret
  exact ⟨congrArg (fun s => Ending.returned (.string s)) (str_cat _ _ _ [41] (str_cat _ _ _ _ (str_cat _ _ _ (signOf 7) (str_cat _ _ [40] _ rfl HX.out) rfl) HY.out) rfl), HB2.out⟩

set_option maxRecDepth 100000 in
set_option maxHeartbeats 1600000 in
theorem text_case_8 (l : ByteArray) (A : Option Addr) (c : Nat) (a : Fr) (w : World) (hnode : nodeOk 8 l 1 = true) (hkid : ∀ j, j < 1 → ∃ g o k' l' A' m' c', A = some ⟨g, o, none⟩ ∧ g < w.heap.size ∧ ElAt w g (o + j * 3) k' l' (.slice A' m' c') ∧ ((texts a).getD j []).length ≤ 8388608 ∧
        ∀ W, Below w.heap.size w W → Calls Tryz.prog 208 #[.agg #[.int .i64 k', .string l', .slice A' m' c']] W fun e W' => e = .returned (.string ⟨((texts a).getD j []).toArray⟩) ∧ Below W.heap.size W W') :
    Calls Tryz.prog 208 #[.agg #[.int .i64 8, .string l, .slice A 1 c]] w fun e w' => e = .returned (.string ⟨(nodeTxt 8 l (texts a)).toArray⟩) ∧ Below w.heap.size w w' := by
  have HB0 := Lib.hid ((Below.refl w.heap.size w).alloc (Nat.le_refl _) (.cells #[.int .i64 8, .string l, .slice A 1 c] 26))
  obtain ⟨g, o, k', l', A', m', c', rfl, hg, he, hlen, hI⟩ := hkid 0 (by omega)
  rw [Nat.zero_mul, Nat.add_zero] at he
  have HF := Lib.hid (fun wr (hb : Below w.heap.size w wr) => formOf_8 l g o c k' l' (.slice A' m' c') wr (ok_zero hnode (by decide)) (Nat.lt_of_lt_of_le hg hb.size) (he.below hb hg))
  have HI := Lib.hid hI
  obtain ⟨x, hx⟩ : ∃ x : ByteArray, x = ⟨((texts a).getD 0 []).toArray⟩ := ⟨_, rfl⟩
  have hxs : x.size ≤ 8388608 := by rw [hx]; exact hlen
  rw [← hx] at HI
  have HX := Lib.hid hx
  clear hkid he hlen hI hx hnode
  have q1 := no_noneForm
  have q2 := no_emptyForm
  have q3 := no_letterForm
  have q4 := no_anyForm
  have q5 := no_catForm
  have q6 := no_orForm
  have q7 := no_andForm
  have p8 := yes_starForm
  go_enter Tryz.func208, Tryz.ntmps208
  go_wp2_with fail
  refine (HF.out _ HB0.out).mono ?_
  rintro e w1 ⟨rfl, hb1⟩
  have HB1 := Lib.hid (HB0.out.trans (hb1.mono HB0.out.size))
  clear hb1
  go_wp2_with fail
  refine (HI.out _ (HB1.out.alloc HB1.out.size _)).mono ?_
  rintro e w2 ⟨rfl, hb2⟩
  have HB2 := Lib.hid ((HB1.out.alloc HB1.out.size _).trans (hb2.mono (HB1.out.alloc HB1.out.size _).size))
  clear hb2
  go_wp2_with fail
  go_ret
  exact ⟨congrArg (fun s => Ending.returned (.string s)) (str_cat _ _ [42] _ rfl HX.out), HB2.out⟩

set_option maxRecDepth 100000 in
set_option maxHeartbeats 1600000 in
theorem text_case_9 (l : ByteArray) (A : Option Addr) (c : Nat) (a : Fr) (w : World) (hnode : nodeOk 9 l 1 = true) (hkid : ∀ j, j < 1 → ∃ g o k' l' A' m' c', A = some ⟨g, o, none⟩ ∧ g < w.heap.size ∧ ElAt w g (o + j * 3) k' l' (.slice A' m' c') ∧ ((texts a).getD j []).length ≤ 8388608 ∧
        ∀ W, Below w.heap.size w W → Calls Tryz.prog 208 #[.agg #[.int .i64 k', .string l', .slice A' m' c']] W fun e W' => e = .returned (.string ⟨((texts a).getD j []).toArray⟩) ∧ Below W.heap.size W W') :
    Calls Tryz.prog 208 #[.agg #[.int .i64 9, .string l, .slice A 1 c]] w fun e w' => e = .returned (.string ⟨(nodeTxt 9 l (texts a)).toArray⟩) ∧ Below w.heap.size w w' := by
  have HB0 := Lib.hid ((Below.refl w.heap.size w).alloc (Nat.le_refl _) (.cells #[.int .i64 9, .string l, .slice A 1 c] 26))
  obtain ⟨g, o, k', l', A', m', c', rfl, hg, he, hlen, hI⟩ := hkid 0 (by omega)
  rw [Nat.zero_mul, Nat.add_zero] at he
  have HF := Lib.hid (fun wr (hb : Below w.heap.size w wr) => formOf_9 l g o c k' l' (.slice A' m' c') wr (ok_zero hnode (by decide)) (Nat.lt_of_lt_of_le hg hb.size) (he.below hb hg))
  have HI := Lib.hid hI
  obtain ⟨x, hx⟩ : ∃ x : ByteArray, x = ⟨((texts a).getD 0 []).toArray⟩ := ⟨_, rfl⟩
  have hxs : x.size ≤ 8388608 := by rw [hx]; exact hlen
  rw [← hx] at HI
  have HX := Lib.hid hx
  clear hkid he hlen hI hx hnode
  have q1 := no_noneForm
  have q2 := no_emptyForm
  have q3 := no_letterForm
  have q4 := no_anyForm
  have q5 := no_catForm
  have q6 := no_orForm
  have q7 := no_andForm
  have q8 := no_starForm
  have p9 := yes_notForm
  go_enter Tryz.func208, Tryz.ntmps208
  go_wp2_with fail
  refine (HF.out _ HB0.out).mono ?_
  rintro e w1 ⟨rfl, hb1⟩
  have HB1 := Lib.hid (HB0.out.trans (hb1.mono HB0.out.size))
  clear hb1
  go_wp2_with fail
  refine (HI.out _ (HB1.out.alloc HB1.out.size _)).mono ?_
  rintro e w2 ⟨rfl, hb2⟩
  have HB2 := Lib.hid ((HB1.out.alloc HB1.out.size _).trans (hb2.mono (HB1.out.alloc HB1.out.size _).size))
  clear hb2
  go_wp2_with fail
  go_ret
  exact ⟨congrArg (fun s => Ending.returned (.string s)) (str_cat _ _ [33] _ rfl HX.out), HB2.out⟩


theorem implText_any (n : Nat) : ∀ (B : Nat) (k : Int) (l : ByteArray) (u : Value) (a : Fr) (w : World), Sl w B n u a → B ≤ w.heap.size → a.size ≤ 2097152 → (allRow a && nodeOk k l a.items.length) = true →
    Calls Tryz.prog 208 #[.agg #[.int .i64 k, .string l, u]] w fun e w' => e = .returned (.string ⟨(nodeTxt k l (texts a)).toArray⟩) ∧ Below w.heap.size w w' := by
  induction n with
  | zero => intro B k l u a w h; exact h.zero.elim
  | succ n ih =>
    intro B k l u a w hS hB hsz hok
    rw [Bool.and_eq_true] at hok
    obtain ⟨hall, hnode⟩ := hok
    obtain ⟨hl, A, c, rfl, hE⟩ := hS.open
    have hkid : ∀ j, j < a.items.length → ∃ g o k' l' A' m' c', A = some ⟨g, o, none⟩ ∧ g < w.heap.size ∧ ElAt w g (o + j * 3) k' l' (.slice A' m' c') ∧ ((texts a).getD j []).length ≤ 8388608 ∧
        ∀ W, Below w.heap.size w W → Calls Tryz.prog 208 #[.agg #[.int .i64 k', .string l', .slice A' m' c']] W fun e W' => e = .returned (.string ⟨((texts a).getD j []).toArray⟩) ∧ Below W.heap.size W W' := fun j hj => by
      obtain ⟨g, o, hA, hg, k', l', a', u', hx, hls, he, h4⟩ := hE j hj
      obtain ⟨A', c', rfl⟩ := SlP.shape h4
      have hs := Fr.size_item hx
      have hi := item_ok hall hx
      refine ⟨g, o, k', l', A', _, c', hA, Nat.lt_of_lt_of_le hg hB, he, ?_, fun W hW => ?_⟩
      · rw [texts_at hx]
        rw [Bool.and_eq_true] at hi
        have h1 := nodeTxt_le hi.2
        have h2 := texts_le a' hi.1
        omega
      · rw [texts_at hx]
        exact ih B k' l' _ a' W (h4.mono (hW.mono hB) (Nat.le_refl _)) (Nat.le_trans hB hW.size) (by omega) hi
    generalize hm : a.items.length = m at *
    clear hE hS
    rcases nodeOk_cases hnode with ⟨rfl, rfl⟩ | ⟨rfl, rfl⟩ | ⟨rfl, hl1, rfl⟩ | ⟨rfl, rfl⟩ | ⟨rfl, rfl⟩ | ⟨rfl, rfl⟩ | ⟨rfl, rfl⟩ | ⟨rfl, rfl⟩ | ⟨rfl, rfl⟩
    · exact text_case_1 l A c a w hnode
    · exact text_case_2 l A c a w hnode
    · exact text_case_3 l A c a w hnode
    · exact text_case_4 l A c a w hnode
    · exact text_case_5 l A c a w hnode hkid
    · exact text_case_6 l A c a w hnode hkid
    · exact text_case_7 l A c a w hnode hkid
    · exact text_case_8 l A c a w hnode hkid
    · exact text_case_9 l A c a w hnode hkid

set_option maxHeartbeats 800000 in
theorem implFormat_any (n B : Nat) (k : Int) (l : ByteArray) (u : Value) (a : Fr) (w : World) (hS : Sl w B n u a) (hB : B ≤ w.heap.size) (hsz : a.size ≤ 2097152) (hls : l.size ≤ 9223372036854775807) :
    Calls Tryz.prog 167 #[.agg #[.int .i64 k, .string l, u]] w fun e w' => e = .returned (.string ⟨(formatRx k l a).toArray⟩) ∧ Below w.heap.size w w' := by
  have HV := Lib.hid (fun wr (hb : Below w.heap.size w wr) (hz : B ≤ wr.heap.size) => implValid_any n B k l u a wr (hS.mono (hb.mono hB) (Nat.le_refl _)) hz hsz hls)
  have HB0 := Lib.hid ((Below.refl w.heap.size w).alloc (Nat.le_refl _) (.cells #[.int .i64 k, .string l, u] 26))
  cases hv : validRx k l a with
  | true =>
    have HT := Lib.hid (fun wr (hb : Below w.heap.size w wr) (hz : B ≤ wr.heap.size) => implText_any n B k l u a wr (hS.mono (hb.mono hB) (Nat.le_refl _)) hz hsz (valid_ok hv))
    rw [hv] at HV
    have HR : Hid (formatRx k l a = nodeTxt k l (texts a)) := Lib.hid (by unfold formatRx; rw [if_pos hv])
    clear hS hv
    go_enter Tryz.func167, Tryz.ntmps167
    go_wp2_with fail
    refine (HV.out _ HB0.out (by simp; omega)).mono ?_
    rintro e w1 ⟨rfl, hb1⟩
    have hb1' : Below (w.heap.size + 1) (w.alloc (.cells #[.int .i64 k, .string l, u] 26)) w1 := by simpa using hb1
    obtain ⟨c0, c1, c2⟩ := box_cells hb1'
    have hz1 := hb1'.size
    rw [World.size_alloc] at hz1
    have HW1 := Lib.hid (HB0.out.trans (hb1'.mono (Nat.le_succ _)))
    clear hb1 hb1'
    go_wp2_with fail
    refine (HT.out _ HW1.out (by omega)).mono ?_
    rintro e w2 ⟨rfl, hb2⟩
    have HW2 := Lib.hid (HW1.out.trans (hb2.mono (by omega)))
    clear hb2
    go_wp2_with fail
    go_ret
    exact ⟨congrArg (fun s : List UInt8 => Ending.returned (.string ⟨s.toArray⟩)) HR.out.symm, HW2.out⟩
  | false =>
    rw [hv] at HV
    have HR : Hid (formatRx k l a = []) := Lib.hid (by unfold formatRx; rw [if_neg (by rw [hv]; decide)])
    clear hS hv
    go_enter Tryz.func167, Tryz.ntmps167
    go_wp2_with fail
    refine (HV.out _ HB0.out (by simp; omega)).mono ?_
    rintro e w1 ⟨rfl, hb1⟩
    have HW1 := Lib.hid (HB0.out.trans (hb1.mono (by simp)))
    clear hb1
    go_wp2_with fail
    go_ret
    exact ⟨congrArg (fun s : List UInt8 => Ending.returned (.string ⟨s.toArray⟩)) HR.out.symm, HW1.out⟩

end Go.Proofs.YtppliiingoonlaaGreatDoor

/-
  What impl's textOfTerm, partsOfTerms, partsWithRegex and partsOfLengths answer.
-/
namespace Go.Proofs.YtppliiingoonlaaGreatDoor
open Go.RowKit
set_option maxRecDepth 100000 in
set_option maxHeartbeats 800000 in
theorem implTerm_any (s : ByteArray) (w : World) :
    Calls Tryz.prog 162 #[.string s] w fun e w' => e = .returned (.string (termB s)) ∧ w = w' := by
  by_cases h : s.size = 0
  · have HR := Lib.hid (show termB s = ⟨#[45]⟩ from if_pos h)
    have h' := bytes_nil h
    clear h
    go_enter Tryz.func162, Tryz.ntmps162
    go_wp2
    go_ret
    exact ⟨congrArg (fun z => Ending.returned (.string z)) HR.out.symm, rfl⟩
  · have HR := Lib.hid (show termB s = s from if_neg h)
    have h' := bytes_some h
    have e2 : s.toList.isEmpty = false := by simpa using h'
    clear h
    go_enter Tryz.func162, Tryz.ntmps162
    go_wp2
    go_ret
    exact ⟨congrArg (fun z => Ending.returned (.string z)) HR.out.symm, rfl⟩

/-- Three strings laid anew are a row of three texts. -/
theorem row3 {w V : World} {a b d : ByteArray} {p q r : List UInt8} (hb : Below w.heap.size w V) (ha : a.data.toList = p) (hq : b.data.toList = q) (hd : d.data.toList = r) :
    SplPost [p, q, r] w (.returned (.slice (some ⟨V.heap.size, 0, none⟩) 3 3)) (V.alloc (.cells #[.string a, .string b, .string d] 9)) := by
  refine ⟨_, rfl, ?_, hb.alloc hb.size _⟩
  have := World.ownsRow_lit (base := w.heap.size) (e := 9) (size := 1) V #[.string a, .string b, .string d] 3 hb.size (by unfold maxLen; omega) rfl
  have e1 : ∀ (x : ByteArray) (l : List UInt8), x.data.toList = l → (⟨l.toArray⟩ : ByteArray) = x := fun x l h => bytes_eq (by simpa using h.symm)
  simpa [strs, e1 a p ha, e1 b q hq, e1 d r hd] using this

set_option maxRecDepth 100000 in
set_option maxHeartbeats 1600000 in
theorem partsTerms_any (c : Cx) (xu vc : Value) (sg : ByteArray) (w : World) (h : CnO w xu vc c) :
    Calls Tryz.prog 103 #[.agg #[.int .i64 c.k, .string c.l, .string c.r, .int .i64 c.xk, .string c.xl, xu, vc, .int .i64 c.b], .string sg] w (SplPost [termT c.l.data.toList, sg.data.toList, termT c.r.data.toList] w) := by
  obtain ⟨A, m, B, r, rfl, rfl⟩ := h.shape
  obtain ⟨W, hW⟩ : ∃ W, W = w.alloc (.cells #[.int .i64 c.k, .string c.l, .string c.r, .int .i64 c.xk, .string c.xl, .slice A c.xa.items.length m, .slice B c.cs.length r, .int .i64 c.b] 29) := ⟨_, rfl⟩
  have hb0 : Below w.heap.size w W := by rw [hW]; exact (Below.refl _ _).alloc (Nat.le_refl _) _
  have hbx : BoxC W w.heap.size c (.slice A c.xa.items.length m) (.slice B c.cs.length r) := by rw [hW]; exact boxC_new w c _ _ _
  have HWE := Lib.hid hW
  have HB0 := Lib.hid hb0
  have HCX := Lib.hid (fun (V : World) (hb : Below W.heap.size W V) => (hbx.kept hb).cells)
  have HCN := Lib.hid (fun (V : World) (hb : Below W.heap.size W V) => h.kept (hb0.trans (hb.mono hb0.size)))
  have HTl := Lib.hid (fun w => implTerm_any c.l w)
  have HTr := Lib.hid (fun w => implTerm_any c.r w)
  have HR := Lib.hid (fun (V : World) (hb : Below W.heap.size W V) => row3 (w := w) (V := V) (a := termB c.l) (b := sg) (d := termB c.r) (hb0.trans (hb.mono hb0.size)) (termB_list c.l) rfl (termB_list c.r))
  obtain ⟨tl, htl⟩ : ∃ tl, tl = termB c.l := ⟨_, rfl⟩
  obtain ⟨tr, htr⟩ : ∃ tr, tr = termB c.r := ⟨_, rfl⟩
  rw [← htl] at HTl HR
  rw [← htr] at HTr HR
  have HKB : Hid (∀ V, Below W.heap.size W V → V.cell? ⟨w.heap.size, 1, none⟩ = some (.string c.l) ∧ V.cell? ⟨w.heap.size, 2, none⟩ = some (.string c.r)) := Lib.hid (fun V hb => ⟨(HCX.out V hb).2.1, (HCX.out V hb).2.2.1⟩)
  clear hW hb0 hbx h htl htr
  go_enter Tryz.func103, Tryz.ntmps103
  go_wp2_with fail
  rw [← HWE.out]
  have hbw : Below W.heap.size W W := Below.refl _ _
  go_region_held3 (fun V => V.cell? ⟨w.heap.size, 1, none⟩ = some (.string c.l) ∧ V.cell? ⟨w.heap.size, 2, none⟩ = some (.string c.r)) (with_reducible first | exact HKB.out _ hbw.drew | exact HKB.out _ hbw | exact HKB.out _ (hbw.alloc hbw.size _).drew | exact HKB.out _ (hbw.alloc hbw.size _) | fail) (first | (go_at_call 162; (with_reducible refine (HTl.out _).mono ?_); rintro e1 w4 ⟨rfl, rfl⟩) | (go_at_call 162; (with_reducible refine (HTr.out _).mono ?_); rintro e1 w4 ⟨rfl, rfl⟩))
  all_goals
    have HW := Lib.hid (HR.out _ hbw)
    clear hbw
    go_wp2_with fail
    go_ret
    obtain ⟨v, he, h1, h2⟩ := HW.out
    exact ⟨v, he, h1.drew, h2.drew⟩

set_option maxRecDepth 100000 in
set_option maxHeartbeats 1600000 in
theorem partsRegex_any (c : Cx) (xu vc : Value) (sg : ByteArray) (w : World) (h : CnO w xu vc c) (hsz : c.xa.size ≤ 2097152) :
    Calls Tryz.prog 108 #[.agg #[.int .i64 c.k, .string c.l, .string c.r, .int .i64 c.xk, .string c.xl, xu, vc, .int .i64 c.b], .string sg] w (SplPost [termT c.l.data.toList, sg.data.toList, formatRx c.xk c.xl c.xa] w) := by
  obtain ⟨A, m, B, r, rfl, rfl⟩ := h.shape
  obtain ⟨W, hW⟩ : ∃ W, W = w.alloc (.cells #[.int .i64 c.k, .string c.l, .string c.r, .int .i64 c.xk, .string c.xl, .slice A c.xa.items.length m, .slice B c.cs.length r, .int .i64 c.b] 29) := ⟨_, rfl⟩
  have hb0 : Below w.heap.size w W := by rw [hW]; exact (Below.refl _ _).alloc (Nat.le_refl _) _
  have hbx : BoxC W w.heap.size c (.slice A c.xa.items.length m) (.slice B c.cs.length r) := by rw [hW]; exact boxC_new w c _ _ _
  have HWE := Lib.hid hW
  have HB0 := Lib.hid hb0
  have HCX := Lib.hid (fun (V : World) (hb : Below W.heap.size W V) => (hbx.kept hb).cells)
  have HCN := Lib.hid (fun (V : World) (hb : Below W.heap.size W V) => h.kept (hb0.trans (hb.mono hb0.size)))
  have hx := h.1.2.2
  have HTl := Lib.hid (fun w => implTerm_any c.l w)
  have HF := Lib.hid (fun (V : World) (hb : Below W.heap.size W V) => implFormat_any _ V.heap.size c.xk c.xl (.slice A c.xa.items.length m) c.xa V (HCN.out V hb).read.2.1.choose_spec (Nat.le_refl _) hsz hx)
  obtain ⟨ub, hub⟩ : ∃ ub : ByteArray, ub = ⟨(formatRx c.xk c.xl c.xa).toArray⟩ := ⟨_, rfl⟩
  have HR := Lib.hid (fun (V : World) (hb : Below W.heap.size W V) => row3 (w := w) (V := V) (a := termB c.l) (b := sg) (d := ub) (r := formatRx c.xk c.xl c.xa) (hb0.trans (hb.mono hb0.size)) (termB_list c.l) rfl (by rw [hub]))
  obtain ⟨tl, htl⟩ : ∃ tl, tl = termB c.l := ⟨_, rfl⟩
  rw [← htl] at HTl HR
  rw [← hub] at HF
  have HKB : Hid (∀ V, Below W.heap.size W V → V.cell? ⟨w.heap.size, 1, none⟩ = some (.string c.l) ∧ V.cell? ⟨w.heap.size, 3, none⟩ = some (.int .i64 c.xk) ∧ V.cell? ⟨w.heap.size, 4, none⟩ = some (.string c.xl) ∧ V.cell? ⟨w.heap.size, 5, none⟩ = some (.slice A c.xa.items.length m)) := Lib.hid (fun V hb => ⟨(HCX.out V hb).2.1, (HCX.out V hb).2.2.2.1, (HCX.out V hb).2.2.2.2.1, (HCX.out V hb).2.2.2.2.2.1⟩)
  clear hW hb0 hbx h htl hub hx hsz
  go_enter Tryz.func108, Tryz.ntmps108
  go_wp2_with fail
  rw [← HWE.out]
  have hbw : Below W.heap.size W W := Below.refl _ _
  go_region_held3 (fun V => V.cell? ⟨w.heap.size, 1, none⟩ = some (.string c.l) ∧ V.cell? ⟨w.heap.size, 3, none⟩ = some (.int .i64 c.xk) ∧ V.cell? ⟨w.heap.size, 4, none⟩ = some (.string c.xl) ∧ V.cell? ⟨w.heap.size, 5, none⟩ = some (.slice A c.xa.items.length m)) (with_reducible first | exact HKB.out _ hbw.drew | exact HKB.out _ hbw | exact HKB.out _ (hbw.alloc hbw.size _).drew | exact HKB.out _ (hbw.alloc hbw.size _) | fail) (first | (go_at_call 162; (with_reducible refine (HTl.out _).mono ?_); rintro e1 w4 ⟨rfl, rfl⟩) | (go_at_call 167; (with_reducible refine (HF.out _ ?hq).mono ?_); (case hq => (first | exact hbw.drew | exact hbw)); rintro e1 w4 ⟨rfl, hb4⟩; (first | (have hbw := hbw.drew.trans (hb4.mono hbw.drew.size)) | (have hbw := hbw.trans (hb4.mono hbw.size)))))
  all_goals
    have HW := Lib.hid (HR.out _ hbw)
    clear hbw hb4
    go_wp2_with fail
    go_ret
    obtain ⟨v, he, h1, h2⟩ := HW.out
    exact ⟨v, he, h1, h2⟩

/-- The parts so far. -/
def lenP (sg : ByteArray) (a d e : Int) : Nat → List (List UInt8)
  | 0 => [sg.data.toList]
  | 1 => [sg.data.toList] ++ [Lib.itoa a]
  | 2 => [sg.data.toList] ++ [Lib.itoa a] ++ [Lib.itoa d]
  | _ => [sg.data.toList] ++ [Lib.itoa a] ++ [Lib.itoa d] ++ [Lib.itoa e]
theorem lenP_len (sg : ByteArray) (a d e : Int) (k : Nat) (hk : k ≤ 3) : (lenP sg a d e k).length = k + 1 := by
  match k, hk with
  | 0, _ => rfl
  | 1, _ => rfl
  | 2, _ => rfl
  | 3, _ => rfl
set_option maxRecDepth 100000 in
set_option maxHeartbeats 6400000 in
theorem partsLen_any (c : Cx) (xu vc : Value) (sg : ByteArray) (a d e : Int) (w : World) (h : CnO w xu vc c) (hcs : c.cs = [a, d, e]) (ha : -9 ≤ a ∧ a ≤ 9) (hd : -9 ≤ d ∧ d ≤ 9) (he : -9 ≤ e ∧ e ≤ 9) (hb9 : -99 ≤ c.b ∧ c.b ≤ 99) (hp : Pow10 w) :
    Calls Tryz.prog 112 #[.agg #[.int .i64 c.k, .string c.l, .string c.r, .int .i64 c.xk, .string c.xl, xu, vc, .int .i64 c.b], .string sg] w (SplPost (lenP sg a d e 3 ++ [Lib.itoa c.b]) w) := by
  obtain ⟨A, m, B, r, rfl, rfl⟩ := h.shape
  obtain ⟨W, hW⟩ : ∃ W, W = w.alloc (.cells #[.int .i64 c.k, .string c.l, .string c.r, .int .i64 c.xk, .string c.xl, .slice A c.xa.items.length m, .slice B c.cs.length r, .int .i64 c.b] 29) := ⟨_, rfl⟩
  have hb0 : Below w.heap.size w W := by rw [hW]; exact (Below.refl _ _).alloc (Nat.le_refl _) _
  have hbx : BoxC W w.heap.size c (.slice A c.xa.items.length m) (.slice B c.cs.length r) := by rw [hW]; exact boxC_new w c _ _ _
  have HWE := Lib.hid hW
  have HB0 := Lib.hid hb0
  have HCX := Lib.hid (fun (V : World) (hb : Below W.heap.size W V) => (hbx.kept hb).cells)
  have HCN := Lib.hid (fun (V : World) (hb : Below W.heap.size W V) => h.kept (hb0.trans (hb.mono hb0.size)))
  have HL := Lib.hid (fun (V : World) (hb : Below W.heap.size W V) => hp.below (hb0.trans (hb.mono hb0.size)))
  have HQ := Lib.hid (fun (V : World) (hb : Below W.heap.size W V) => three_ints (a := a) (d := d) (e := e) (by rw [← hcs, show (3 : Nat) = c.cs.length by rw [hcs]; rfl]; exact (HCN.out V hb).2.2))
  have hc6 : ∀ V, Below W.heap.size W V → V.cell? ⟨w.heap.size, 6, none⟩ = some (.slice B 3 r) ∧ V.cell? ⟨w.heap.size, 7, none⟩ = some (.int .i64 c.b) := fun V hb => ⟨by rw [show (3 : Nat) = c.cs.length by rw [hcs]; rfl]; exact (HCX.out V hb).2.2.2.2.2.2.1, (HCX.out V hb).2.2.2.2.2.2.2⟩
  have HC6 := Lib.hid hc6
  have HWE3 : Hid (W = w.alloc (.cells #[.int .i64 c.k, .string c.l, .string c.r, .int .i64 c.xk, .string c.xl, .slice A c.xa.items.length m, .slice B 3 r, .int .i64 c.b] 29)) := Lib.hid (by rw [hW, show c.cs.length = 3 by rw [hcs]; rfl])
  have hr1 : (W.alloc (.cells #[.string sg] 9)).ownsRow W.heap.size 9 1 (.slice (some ⟨W.heap.size, 0, none⟩) 1 1) (lenP sg a d e 0).length (strs (lenP sg a d e 0)) := by
    have := World.ownsRow_lit (base := W.heap.size) (e := 9) (size := 1) W #[.string sg] 1 (Nat.le_refl _) (by unfold maxLen; omega) rfl
    have e1 : (⟨sg.data.toList.toArray⟩ : ByteArray) = sg := bytes_eq (by simp)
    simpa [lenP, strs, e1] using this
  have hzW : W.heap.size = w.heap.size + 1 := by rw [hW]; simp
  have hr2 : (W.alloc (.cells #[.string sg] 9)).ownsRow W.heap.size 9 1 (.slice (some ⟨w.heap.size + 1, 0, none⟩) 1 1) (lenP sg a d e 0).length (strs (lenP sg a d e 0)) := by
    rw [← hzW]
    exact hr1
  have HR1 := Lib.hid hr2
  have hbb := hb9
  rw [show c.cs.length = 3 by rw [hcs]; rfl]
  obtain ⟨i0, hi, hz0, hz1, hz2⟩ := info_parts strInfo
  have HFB := Lib.hid (fun V (hb : Below W.heap.size W V) => implFmtInt_any c.b V (by omega) (by omega) (HL.out V hb))
  clear hW hb0 hbx h hcs hc6 hr1 hr2 hzW hp
  go_enter Tryz.func112, Tryz.ntmps112
  go_wp2_with fail
  rw [← HWE3.out]
  have HB1 := Lib.hid ((Below.refl W.heap.size W).alloc (Nat.le_refl _) (.cells #[.string sg] 9))
  obtain ⟨c6, c7⟩ := HC6.out _ HB1.out
  go_wp2_with fail
  clear c6 c7
  go_loopw [5, 13] (fun v i wr => ∃ j : Nat, j ≤ 3 ∧ (i = .int .i64 0 ∧ j = 0 ∨ i = .int .i64 1 ∧ j = 1 ∨ i = .int .i64 2 ∧ j = 2 ∨ i = .int .i64 3 ∧ j = 3) ∧ wr.ownsRow W.heap.size 9 1 v (lenP sg a d e j).length (strs (lenP sg a d e j)) ∧ Below W.heap.size W wr) (fun _ i _ => 3 - (intOf i).toNat)
  case atStart => exact ⟨0, Nat.zero_le _, Or.inl ⟨rfl, rfl⟩, HR1.out, HB1.out⟩
  case round =>
    obtain ⟨j, hj, hij, hown, hbr⟩ := hrel
    have HBr := Lib.hid hbr
    obtain ⟨g, hg, q0, q1, q2⟩ := HQ.out _ hbr
    obtain ⟨c6, c7⟩ := HC6.out _ hbr
    subst hg
    clear hbr
    rcases hij with ⟨rfl, rfl⟩ | ⟨rfl, rfl⟩ | ⟨rfl, rfl⟩ | ⟨rfl, rfl⟩
    · have HF := Lib.hid (fun V (hb : Below W.heap.size W V) => implFmtInt_any a V (by omega) (by omega) (HL.out V hb))
      have hlen := lenP_len sg a d e 0 (by omega)
      go_wp2_with fail
      refine ((HF).out _ HBr.out).mono ?_
      rintro e' w2 ⟨rfl, hb2⟩
      have HB2 := Lib.hid (HBr.out.trans (hb2.mono HBr.out.size))
      have hown2 := owns_below hown hb2
      have hsz2 := HB2.out.size
      clear hb2
      go_wp2_with (at_builtin; refine wpList_append_own _ rfl (.tmp 17) (.tmp 20) 79 rfl W.heap.size 9 i0 (.string ⟨#[]⟩) 1 16 Tryz.underlying79 hi hz0 hz1 hz2 rfl (by decide) _ _ _ rfl (hown2.alloc _) ⟨w2.heap.size, 0, none⟩ 1 1 [.string ⟨(Lib.itoa a).toArray⟩] rfl rfl (newCell w2 _ _) (oneCell_str _) (by unfold maxLen; omega) (by omega) (by simp; omega) ?_)
      intro v' w1 hown' hgrow _
      have R := grow_strs (w := W) (p := Lib.itoa a) rfl hown2 HB2.out HB2.out.size hown' hgrow
      rw [show lenP sg a d e 0 ++ [Lib.itoa a] = lenP sg a d e 1 from rfl] at R
      have HRR := Lib.hid R
      clear hown' hgrow hown hown2 R hlen
      go_wp2_with fail
      go_roundw
      case rel => exact ⟨1, by omega, Or.inr (Or.inl ⟨rfl, rfl⟩), HRR.out.1, HRR.out.2⟩
      case measure => simp [intOf]
    · have HF := Lib.hid (fun V (hb : Below W.heap.size W V) => implFmtInt_any d V (by omega) (by omega) (HL.out V hb))
      have hlen := lenP_len sg a d e 1 (by omega)
      go_wp2_with fail
      refine ((HF).out _ HBr.out).mono ?_
      rintro e' w2 ⟨rfl, hb2⟩
      have HB2 := Lib.hid (HBr.out.trans (hb2.mono HBr.out.size))
      have hown2 := owns_below hown hb2
      have hsz2 := HB2.out.size
      clear hb2
      go_wp2_with (at_builtin; refine wpList_append_own _ rfl (.tmp 17) (.tmp 20) 79 rfl W.heap.size 9 i0 (.string ⟨#[]⟩) 1 16 Tryz.underlying79 hi hz0 hz1 hz2 rfl (by decide) _ _ _ rfl (hown2.alloc _) ⟨w2.heap.size, 0, none⟩ 1 1 [.string ⟨(Lib.itoa d).toArray⟩] rfl rfl (newCell w2 _ _) (oneCell_str _) (by unfold maxLen; omega) (by omega) (by simp; omega) ?_)
      intro v' w1 hown' hgrow _
      have R := grow_strs (w := W) (p := Lib.itoa d) rfl hown2 HB2.out HB2.out.size hown' hgrow
      rw [show lenP sg a d e 1 ++ [Lib.itoa d] = lenP sg a d e 2 from rfl] at R
      have HRR := Lib.hid R
      clear hown' hgrow hown hown2 R hlen
      go_wp2_with fail
      go_roundw
      case rel => exact ⟨2, by omega, Or.inr (Or.inr (Or.inl ⟨rfl, rfl⟩)), HRR.out.1, HRR.out.2⟩
      case measure => simp [intOf]
    · have HF := Lib.hid (fun V (hb : Below W.heap.size W V) => implFmtInt_any e V (by omega) (by omega) (HL.out V hb))
      have hlen := lenP_len sg a d e 2 (by omega)
      go_wp2_with fail
      refine ((HF).out _ HBr.out).mono ?_
      rintro e' w2 ⟨rfl, hb2⟩
      have HB2 := Lib.hid (HBr.out.trans (hb2.mono HBr.out.size))
      have hown2 := owns_below hown hb2
      have hsz2 := HB2.out.size
      clear hb2
      go_wp2_with (at_builtin; refine wpList_append_own _ rfl (.tmp 17) (.tmp 20) 79 rfl W.heap.size 9 i0 (.string ⟨#[]⟩) 1 16 Tryz.underlying79 hi hz0 hz1 hz2 rfl (by decide) _ _ _ rfl (hown2.alloc _) ⟨w2.heap.size, 0, none⟩ 1 1 [.string ⟨(Lib.itoa e).toArray⟩] rfl rfl (newCell w2 _ _) (oneCell_str _) (by unfold maxLen; omega) (by omega) (by simp; omega) ?_)
      intro v' w1 hown' hgrow _
      have R := grow_strs (w := W) (p := Lib.itoa e) rfl hown2 HB2.out HB2.out.size hown' hgrow
      rw [show lenP sg a d e 2 ++ [Lib.itoa e] = lenP sg a d e 3 from rfl] at R
      have HRR := Lib.hid R
      clear hown' hgrow hown hown2 R hlen
      go_wp2_with fail
      go_roundw
      case rel => exact ⟨3, by omega, Or.inr (Or.inr (Or.inr (⟨rfl, rfl⟩))), HRR.out.1, HRR.out.2⟩
      case measure => simp [intOf]
    · have hlen := lenP_len sg a d e 3 (by omega)
      go_wp2_with fail
      refine ((HFB).out _ HBr.out).mono ?_
      rintro e' w2 ⟨rfl, hb2⟩
      have HB2 := Lib.hid (HBr.out.trans (hb2.mono HBr.out.size))
      have hown2 := owns_below hown hb2
      have hsz2 := HB2.out.size
      clear hb2
      go_wp2_with (at_builtin; refine wpList_append_own _ rfl (.tmp 23) (.tmp 27) 79 rfl W.heap.size 9 i0 (.string ⟨#[]⟩) 1 16 Tryz.underlying79 hi hz0 hz1 hz2 rfl (by decide) _ _ _ rfl (hown2.alloc _) ⟨w2.heap.size, 0, none⟩ 1 1 [.string ⟨(Lib.itoa c.b).toArray⟩] rfl rfl (newCell w2 _ _) (oneCell_str _) (by unfold maxLen; omega) (by omega) (by simp; omega) ?_)
      intro v' w1 hown' hgrow _
      have R := grow_strs (w := W) (p := Lib.itoa c.b) rfl hown2 HB2.out HB2.out.size hown' hgrow
      rw [show lenP sg a d e 3 ++ [Lib.itoa c.b] = lenP sg a d e 3 ++ [Lib.itoa c.b] from rfl] at R
      have HRR := Lib.hid R
      clear hown' hgrow hown hown2 R hlen
      go_wp2_with fail
      go_ret
      exact ⟨_, rfl, own_lower HRR.out.1 HB0.out.size, HB0.out.trans (HRR.out.2.mono HB0.out.size)⟩
end Go.Proofs.YtppliiingoonlaaGreatDoor
