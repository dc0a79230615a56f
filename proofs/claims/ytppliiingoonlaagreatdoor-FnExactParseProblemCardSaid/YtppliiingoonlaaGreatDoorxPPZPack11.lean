/- Texts of one proof. -/
import Derived.Deep.RegionWith
import Derived.Test.YtppliiingoonlaaGreatDoorxPPZPack10
set_option maxRecDepth 100000
set_option maxHeartbeats 20000000
namespace Go.Proofs.YtppliiingoonlaaGreatDoor
open Go.RowKit
theorem texts_len : ∀ (f : Fr), allRow f = true -> ((texts f).map List.length).sum <= 4 * f.size
  | .nil, _ => Nat.le_refl _
  | .cons k l a r, h => by
    simp only [allRow, Bool.and_eq_true] at h
    have ha := texts_len a h.1.1
    have hr := texts_len r h.2
    have hn := node_len k l a h.1.2 ha
    simp only [texts, List.map_cons, List.sum_cons, Fr.size]
    omega
where
  node_len (k : Int) (l : ByteArray) (a : Fr) (hn : nodeOk k l a.items.length = true) (ha : ((texts a).map List.length).sum <= 4 * a.size) : (nodeTxt k l (texts a)).length <= 4 * (a.size + 1) := by
    have hl : l.data.toList.length <= 1 := by
      unfold nodeOk at hn
      have hs : l.data.toList.length = l.size := by rw [Array.length_toList]; rfl
      split at hn <;> (simp only [Bool.and_eq_true, decide_eq_true_eq] at hn; omega)
    have h01 : ((texts a).getD 0 []).length + ((texts a).getD 1 []).length <= ((texts a).map List.length).sum := by
      match texts a with
      | [] => simp
      | [x] => simp
      | x :: y :: r =>
        simp only [List.getD_cons_zero, List.getD_cons_succ, List.map_cons, List.sum_cons]
        omega
    have hs : (signOf k).length <= 1 := by
      unfold signOf
      split
      . simp
      . split <;> simp
    unfold nodeTxt
    repeat' split
    all_goals try simp only [List.length_cons, List.length_append, List.length_nil]
    all_goals omega
theorem format_len (k : Int) (l : ByteArray) (a : Fr) (ha : a.size <= 32) : (formatRx k l a).length <= 132 := by
  unfold formatRx
  split
  . rename_i hv
    simp only [validRx, Bool.and_eq_true, decide_eq_true_eq] at hv
    have := texts_len.node_len k l a hv.2.2 (texts_len a hv.2.1)
    omega
  . simp
def termB (s : ByteArray) : ByteArray := if s.size = 0 then ⟨#[45]⟩ else s
theorem termB_list (s : ByteArray) : (termB s).data.toList = termT s.data.toList := by
  unfold termB termT
  by_cases h : s.size = 0
  . have h' : s.data.toList = [] := List.eq_nil_of_length_eq_zero (by simpa using h)
    rw [if_pos h, if_pos h']
  . have h' : ¬ s.data.toList = [] := λ e => h (by
      have := congrArg List.length e
      simpa using this)
    rw [if_neg h, if_neg h']
theorem termB_size {s : ByteArray} (h : s.size <= 12) : (termB s).size <= 12 := by
  unfold termB
  split
  . simp [ByteArray.size]
  . exact h
theorem specTerm_any (s : ByteArray) (w : World) :
    Calls Tryz.prog 56 #[.string s] w λ e w' => e = .returned (.string (termB s)) /\ w = w' := by
  by_cases h : s.size = 0
  . have HR := Lib.hid (show termB s = ⟨#[45]⟩ from if_pos h)
    have h' := bytes_nil h
    clear h
    go_enter Tryz.func56, Tryz.ntmps56
    go_wp2
    go_ret
    exact ⟨congrArg (λ z => Ending.returned (.string z)) HR.out.symm, rfl⟩
  . have HR := Lib.hid (show termB s = s from if_neg h)
    have h' := bytes_some h
    have e2 : s.toList.isEmpty = false := by simpa using h'
    clear h
    go_enter Tryz.func56, Tryz.ntmps56
    go_wp2
    go_ret
    exact ⟨congrArg (λ z => Ending.returned (.string z)) HR.out.symm, rfl⟩
theorem str_of {t : ByteArray} {l : List UInt8} (h : t.data.toList = l) : t = strL l := bytes_eq (by rw [h, strL_list])
theorem valid_size9 {k : Int} {l : ByteArray} {a : Fr} (h : validRx k l a = true) : a.size <= 15 := by
  unfold validRx at h
  simp only [Bool.and_eq_true, decide_eq_true_eq] at h
  have := (left_size a 15 (by omega)).1.1 h.1.1
  omega
theorem fmt_le {k : Int} {l : ByteArray} {a : Fr} (h : a.size <= 32) : (⟨(formatRx k l a).toArray⟩ : ByteArray).size <= 132 := by
  show (formatRx k l a).toArray.size <= 132
  rw [List.size_toArray]
  exact format_len k l a h
theorem fmtX_of {c : Cx} (h : validX c = true) : fmtX c = bodyT c.cn := if_pos h
def lenK (a d e : Int) (j : Nat) : List UInt8 := [108, 101, 110] ++ numsT ([a, d, e].take j)
theorem lenK_succ (a d e : Int) (j : Nat) (hj : j < 3) : lenK a d e (j + 1) = lenK a d e j ++ [32] ++ Lib.itoa ([a, d, e].getD j 0) := by
  match j, hj with
  | 0, _ => simp [lenK, numsT]
  | 1, _ => simp [lenK, numsT]
  | 2, _ => simp [lenK, numsT]
theorem small_itoa {n : Int} (h0 : -99 <= n) (h1 : n <= 99) : (Lib.itoa n).length <= 21 := Lib.itoa_length_le n (by omega) (by omega)
theorem lenK_le {a d e : Int} (ha : -9 <= a /\ a <= 9) (hd : -9 <= d /\ d <= 9) (he : -9 <= e /\ e <= 9) (j : Nat) : (lenK a d e j).length <= 100 := by
  have k1 := small_itoa (n := a) (by omega) (by omega)
  have k2 := small_itoa (n := d) (by omega) (by omega)
  have k3 := small_itoa (n := e) (by omega) (by omega)
  match j with
  | 0 => simp [lenK, numsT]
  | 1 => simp [lenK, numsT]; omega
  | 2 => simp [lenK, numsT]; omega
  | j + 3 => simp [lenK, numsT]; omega
theorem strL_snocs (l m : List UInt8) : strL l ++ ⟨#[32]⟩ ++ ⟨m.toArray⟩ = strL (l ++ [32] ++ m) := by
  rw [strL_app l [32] (t := ⟨#[32]⟩) rfl, strL_app _ m (t := ⟨m.toArray⟩) rfl]
theorem specFmtC_any (c : Cx) (xu vc : Value) (w : World) (h : CnO w xu vc c) (hsz : c.xa.size <= 2097152) :
    Calls Tryz.prog 15 #[.agg #[.int .i64 c.k, .string c.l, .string c.r, .int .i64 c.xk, .string c.xl, xu, vc, .int .i64 c.b]] w λ e w' => e = .returned (.string (strL (fmtX c))) /\ Below w.heap.size w w' := by
  obtain ⟨A, m, B, r, rfl, rfl⟩ := h.shape
  obtain ⟨W, hW⟩ : ∃ W, W = w.alloc (.cells #[.int .i64 c.k, .string c.l, .string c.r, .int .i64 c.xk, .string c.xl, .slice A c.xa.items.length m, .slice B c.cs.length r, .int .i64 c.b] 29) := ⟨_, rfl⟩
  have hb0 : Below w.heap.size w W := by rw [hW]; exact (Below.refl _ _).alloc (Nat.le_refl _) _
  have hbx : BoxC W w.heap.size c (.slice A c.xa.items.length m) (.slice B c.cs.length r) := by rw [hW]; exact boxC_new w c _ _ _
  have HWE := Lib.hid hW
  have HB0 := Lib.hid hb0
  have HVC := Lib.hid (λ (V : World) (hb : Below W.heap.size W V) => specVC_any c _ _ V (h.kept (hb0.trans (hb.mono hb0.size))) hsz)
  have HCX := Lib.hid (λ (V : World) (hb : Below W.heap.size W V) => (hbx.kept hb).cells)
  have HCN := Lib.hid (λ (V : World) (hb : Below W.heap.size W V) => h.kept (hb0.trans (hb.mono hb0.size)))
  have hcW := hbx.cells
  rw [hW] at hcW
  obtain ⟨c0, c1, c2, c3, c4, c5, c6, c7⟩ := hcW
  clear hW hbx hb0
  cases hv : validX c with
  | false =>
    rw [hv] at HVC
    have HR := Lib.hid (show fmtX c = [] from if_neg (by rw [show validC c.cn = validX c from rfl, hv]; simp))
    clear hv h
    go_enter Tryz.func15, Tryz.ntmps15
    go_wp2_with fail
    rw [<- HWE.out]
    refine (HVC.out W (Below.refl _ _)).mono ?_
    rintro e w1 ⟨rfl, hb1⟩
    have HB1 := Lib.hid hb1
    clear hb1 c0 c1 c2 c3 c4 c5 c6 c7
    go_wp2_with fail
    go_ret
    exact ⟨by rw [HR.out]; rfl, HB0.out.trans (HB1.out.mono HB0.out.size)⟩
  | true =>
    rw [hv] at HVC
    obtain ⟨hl, hr⟩ := valid_strs hv
    have hbody := fmtX_of hv
    have hkinds := valid_kinds (c := c.cn) hv
    have HV := Lib.hid hv
    have hxl := h.1.2.2
    unfold maxI at hxl
    clear hv h
    obtain ⟨k, l, rr, xk, xl, xa, cs, b⟩ := c
    simp only at *
    rcases hkinds with hk | hk | hk | hk | hk
    all_goals (simp only [Cx.cn] at hk; subst hk)
    . obtain ⟨tb, htb⟩ : ∃ tb, tb = termB l := ⟨_, rfl⟩
      obtain ⟨ub, hub⟩ : ∃ ub, ub = termB rr := ⟨_, rfl⟩
      have htz : tb.size <= 12 := by rw [htb]; exact termB_size hl
      have huz : ub.size <= 12 := by rw [hub]; exact termB_size hr
      have HR := Lib.hid (show tb ++ ⟨#[32, 61, 32]⟩ ++ ub = strL (fmtX ⟨1, l, rr, xk, xl, xa, cs, b⟩) from str_of (by
        rw [hbody, htb, hub]
        simp only [ByteArray.data_append, Array.toList_append, termB_list]
        rfl))
      have HTl := Lib.hid (λ w => specTerm_any l w)
      have HTr := Lib.hid (λ w => specTerm_any rr w)
      rw [<- htb] at HTl
      rw [<- hub] at HTr
      clear htb hub hbody
      go_enter Tryz.func15, Tryz.ntmps15
      go_wp2_with fail
      rw [<- HWE.out]
      refine (HVC.out W (Below.refl _ _)).mono ?_
      rintro e w1 ⟨rfl, hb1⟩
      have HB1 := Lib.hid hb1
      clear hb1 c0 c1 c2 c3 c4 c5 c6 c7
      obtain ⟨c0, c1, c2, c3, c4, c5, c6, c7⟩ := HCX.out w1 HB1.out
      go_wp2_with fail
      go_quiet ((go_at_call 56; first | (with_reducible exact Calls.quiet_of_same ((HTl.out _).mono λ _ _ ⟨he, hw⟩ => ⟨he, hw.symm⟩)) | (with_reducible exact Calls.quiet_of_same ((HTr.out _).mono λ _ _ ⟨he, hw⟩ => ⟨he, hw.symm⟩))))
      all_goals
        go_wp2_with fail
        go_ret
        exact ⟨congrArg (λ z => Ending.returned (.string z)) HR.out, HB0.out.trans ((below_draws HB1.out _).mono HB0.out.size)⟩
    . obtain ⟨tb, htb⟩ : ∃ tb, tb = termB l := ⟨_, rfl⟩
      obtain ⟨ub, hub⟩ : ∃ ub, ub = termB rr := ⟨_, rfl⟩
      have htz : tb.size <= 12 := by rw [htb]; exact termB_size hl
      have huz : ub.size <= 12 := by rw [hub]; exact termB_size hr
      have HR := Lib.hid (show tb ++ ⟨#[32, 33, 61, 32]⟩ ++ ub = strL (fmtX ⟨2, l, rr, xk, xl, xa, cs, b⟩) from str_of (by
        rw [hbody, htb, hub]
        simp only [ByteArray.data_append, Array.toList_append, termB_list]
        rfl))
      have HTl := Lib.hid (λ w => specTerm_any l w)
      have HTr := Lib.hid (λ w => specTerm_any rr w)
      rw [<- htb] at HTl
      rw [<- hub] at HTr
      clear htb hub hbody
      go_enter Tryz.func15, Tryz.ntmps15
      go_wp2_with fail
      rw [<- HWE.out]
      refine (HVC.out W (Below.refl _ _)).mono ?_
      rintro e w1 ⟨rfl, hb1⟩
      have HB1 := Lib.hid hb1
      clear hb1 c0 c1 c2 c3 c4 c5 c6 c7
      obtain ⟨c0, c1, c2, c3, c4, c5, c6, c7⟩ := HCX.out w1 HB1.out
      go_wp2_with fail
      go_quiet ((go_at_call 56; first | (with_reducible exact Calls.quiet_of_same ((HTl.out _).mono λ _ _ ⟨he, hw⟩ => ⟨he, hw.symm⟩)) | (with_reducible exact Calls.quiet_of_same ((HTr.out _).mono λ _ _ ⟨he, hw⟩ => ⟨he, hw.symm⟩))))
      all_goals
        go_wp2_with fail
        go_ret
        exact ⟨congrArg (λ z => Ending.returned (.string z)) HR.out, HB0.out.trans ((below_draws HB1.out _).mono HB0.out.size)⟩
    . obtain ⟨_, _, tx, _⟩ := valid_lang HV.out (.inl rfl)
      simp only [Cx.cn] at tx
      obtain ⟨tb, htb⟩ : ∃ tb, tb = termB l := ⟨_, rfl⟩
      obtain ⟨ub, hub⟩ : ∃ ub : ByteArray, ub = ⟨(formatRx xk xl xa).toArray⟩ := ⟨_, rfl⟩
      have htz : tb.size <= 12 := by rw [htb]; exact termB_size hl
      have huz : ub.size <= 132 := by rw [hub]; exact fmt_le (by have := valid_size9 tx; omega)
      have HR := Lib.hid (show tb ++ ⟨#[32, 105, 110, 32]⟩ ++ ub = strL (fmtX ⟨3, l, rr, xk, xl, xa, cs, b⟩) from str_of (by
        rw [hbody, htb, hub]
        simp only [ByteArray.data_append, Array.toList_append, termB_list]
        rw [show formatRx xk xl xa = ndTxt (xk, xl, xa) from if_pos tx]
        rfl))
      have HTl := Lib.hid (λ w => specTerm_any l w)
      have HF := Lib.hid (λ (V : World) (hb : Below W.heap.size W V) => by
        obtain ⟨_, ⟨n, hS⟩, _⟩ := (HCN.out V hb).read
        exact specFormat_any n V.heap.size xk xl (.slice A xa.items.length m) xa V hS (Nat.le_refl _) hsz hxl)
      rw [<- htb] at HTl
      rw [<- hub] at HF
      have HK : Hid (∀ V, Below W.heap.size W V -> V.cell? ⟨w.heap.size, 1, none⟩ = some (.string l) /\ V.cell? ⟨w.heap.size, 3, none⟩ = some (.int .i64 xk) /\ V.cell? ⟨w.heap.size, 4, none⟩ = some (.string xl) /\ V.cell? ⟨w.heap.size, 5, none⟩ = some (.slice A xa.items.length m)) :=
        Lib.hid (λ V hb => ⟨(HCX.out V hb).2.1, (HCX.out V hb).2.2.2.1, (HCX.out V hb).2.2.2.2.1, (HCX.out V hb).2.2.2.2.2.1⟩)
      have b1 : (9223372036854775807 < tb.size + 4) = False := by simp; omega
      have b2 : (9223372036854775807 < tb.size + 4 + ub.size) = False := by simp; omega
      have HB1b := Lib.hid b1
      have HB2b := Lib.hid b2
      clear htb hub hbody tx b1 b2
      go_enter Tryz.func15, Tryz.ntmps15
      go_wp2_with fail
      rw [<- HWE.out]
      refine (HVC.out W (Below.refl _ _)).mono ?_
      rintro e w1 ⟨rfl, hb1⟩
      have HB1 := Lib.hid hb1
      clear hb1 c0 c1 c2 c3 c4 c5 c6 c7
      obtain ⟨c0, _⟩ := HCX.out w1 HB1.out
      go_wp2_with fail
      have HL := Lib.hid (λ V (hb : Below w1.heap.size w1 V) => HB1.out.trans (hb.mono HB1.out.size))
      have hbw : Below w1.heap.size w1 w1 := Below.refl _ _
      have b1 := HB1b.out
      have b2 := HB2b.out
      go_region_held3 (λ V => V.cell? ⟨w.heap.size, 1, none⟩ = some (.string l) /\ V.cell? ⟨w.heap.size, 3, none⟩ = some (.int .i64 xk) /\ V.cell? ⟨w.heap.size, 4, none⟩ = some (.string xl) /\ V.cell? ⟨w.heap.size, 5, none⟩ = some (.slice A xa.items.length m)) (first | exact HK.out _ (HL.out _ hbw.drew) | exact HK.out _ (HL.out _ hbw)) (first | (go_at_call 56; (with_reducible refine (HTl.out _).mono ?_); rintro e1 w4 ⟨rfl, rfl⟩) | (go_at_call 57; (with_reducible refine (HF.out _ ?hq).mono ?_); (case hq => (first | exact HL.out _ hbw.drew | exact HL.out _ hbw)); rintro e1 w4 ⟨rfl, hb4⟩; have hbw := hbw.drew.trans (hb4.mono hbw.drew.size)))
      all_goals
        have HW := Lib.hid (HL.out _ hbw)
        clear hbw hb4 b1 b2
        go_wp2_with fail
        go_ret
        exact ⟨congrArg (λ z => Ending.returned (.string z)) HR.out, HB0.out.trans (HW.out.mono HB0.out.size)⟩
    . obtain ⟨_, _, tx, _⟩ := valid_lang HV.out (.inr rfl)
      simp only [Cx.cn] at tx
      obtain ⟨tb, htb⟩ : ∃ tb, tb = termB l := ⟨_, rfl⟩
      obtain ⟨ub, hub⟩ : ∃ ub : ByteArray, ub = ⟨(formatRx xk xl xa).toArray⟩ := ⟨_, rfl⟩
      have htz : tb.size <= 12 := by rw [htb]; exact termB_size hl
      have huz : ub.size <= 132 := by rw [hub]; exact fmt_le (by have := valid_size9 tx; omega)
      have HR := Lib.hid (show tb ++ ⟨#[32, 111, 117, 116, 32]⟩ ++ ub = strL (fmtX ⟨4, l, rr, xk, xl, xa, cs, b⟩) from str_of (by
        rw [hbody, htb, hub]
        simp only [ByteArray.data_append, Array.toList_append, termB_list]
        rw [show formatRx xk xl xa = ndTxt (xk, xl, xa) from if_pos tx]
        rfl))
      have HTl := Lib.hid (λ w => specTerm_any l w)
      have HF := Lib.hid (λ (V : World) (hb : Below W.heap.size W V) => by
        obtain ⟨_, ⟨n, hS⟩, _⟩ := (HCN.out V hb).read
        exact specFormat_any n V.heap.size xk xl (.slice A xa.items.length m) xa V hS (Nat.le_refl _) hsz hxl)
      rw [<- htb] at HTl
      rw [<- hub] at HF
      have HK : Hid (∀ V, Below W.heap.size W V -> V.cell? ⟨w.heap.size, 1, none⟩ = some (.string l) /\ V.cell? ⟨w.heap.size, 3, none⟩ = some (.int .i64 xk) /\ V.cell? ⟨w.heap.size, 4, none⟩ = some (.string xl) /\ V.cell? ⟨w.heap.size, 5, none⟩ = some (.slice A xa.items.length m)) :=
        Lib.hid (λ V hb => ⟨(HCX.out V hb).2.1, (HCX.out V hb).2.2.2.1, (HCX.out V hb).2.2.2.2.1, (HCX.out V hb).2.2.2.2.2.1⟩)
      have b1 : (9223372036854775807 < tb.size + 5) = False := by simp; omega
      have b2 : (9223372036854775807 < tb.size + 5 + ub.size) = False := by simp; omega
      have HB1b := Lib.hid b1
      have HB2b := Lib.hid b2
      clear htb hub hbody tx b1 b2
      go_enter Tryz.func15, Tryz.ntmps15
      go_wp2_with fail
      rw [<- HWE.out]
      refine (HVC.out W (Below.refl _ _)).mono ?_
      rintro e w1 ⟨rfl, hb1⟩
      have HB1 := Lib.hid hb1
      clear hb1 c0 c1 c2 c3 c4 c5 c6 c7
      obtain ⟨c0, _⟩ := HCX.out w1 HB1.out
      go_wp2_with fail
      have HL := Lib.hid (λ V (hb : Below w1.heap.size w1 V) => HB1.out.trans (hb.mono HB1.out.size))
      have hbw : Below w1.heap.size w1 w1 := Below.refl _ _
      have b1 := HB1b.out
      have b2 := HB2b.out
      go_region_held3 (λ V => V.cell? ⟨w.heap.size, 1, none⟩ = some (.string l) /\ V.cell? ⟨w.heap.size, 3, none⟩ = some (.int .i64 xk) /\ V.cell? ⟨w.heap.size, 4, none⟩ = some (.string xl) /\ V.cell? ⟨w.heap.size, 5, none⟩ = some (.slice A xa.items.length m)) (first | exact HK.out _ (HL.out _ hbw.drew) | exact HK.out _ (HL.out _ hbw)) (first | (go_at_call 56; (with_reducible refine (HTl.out _).mono ?_); rintro e1 w4 ⟨rfl, rfl⟩) | (go_at_call 57; (with_reducible refine (HF.out _ ?hq).mono ?_); (case hq => (first | exact HL.out _ hbw.drew | exact HL.out _ hbw)); rintro e1 w4 ⟨rfl, hb4⟩; have hbw := hbw.drew.trans (hb4.mono hbw.drew.size)))
      all_goals
        have HW := Lib.hid (HL.out _ hbw)
        clear hbw hb4 b1 b2
        go_wp2_with fail
        go_ret
        exact ⟨congrArg (λ z => Ending.returned (.string z)) HR.out, HB0.out.trans (HW.out.mono HB0.out.size)⟩
    . obtain ⟨_, _, _, ⟨a, d, e, hcs, ha, hd, he⟩, hb0, hb9⟩ := valid_len HV.out rfl
      simp only [Cx.cn] at hcs hb0 hb9
      subst hcs
      have HLN := Lib.hid (lenK_le ha hd he)
      have HR := Lib.hid (show strL (lenK a d e 3) ++ ⟨#[32]⟩ ++ ⟨(Lib.itoa b).toArray⟩ = strL (fmtX ⟨5, l, rr, xk, xl, xa, [a, d, e], b⟩) by
        rw [strL_snocs, hbody]
        simp [lenK, bodyT, Cx.cn])
      obtain ⟨ub, hub⟩ : ∃ ub : ByteArray, ub = ⟨(Lib.itoa b).toArray⟩ := ⟨_, rfl⟩
      have huz : ub.size <= 21 := by rw [hub]; show (Lib.itoa b).toArray.size <= 21; rw [List.size_toArray]; exact small_itoa (by omega) (by omega)
      have HFb := Lib.hid (λ w => specFmtInt_any b w (by omega) (by omega))
      rw [<- hub] at HFb HR
      have c6' := c6
      change _ = some (Value.slice B 3 r) at c6'
      have hCX : ∀ V, Below W.heap.size W V -> V.cell? ⟨w.heap.size, 0, none⟩ = some (.int .i64 5) /\ V.cell? ⟨w.heap.size, 6, none⟩ = some (.slice B 3 r) /\ V.cell? ⟨w.heap.size, 7, none⟩ = some (.int .i64 b) := λ V hb => ⟨(HCX.out V hb).1, (HCX.out V hb).2.2.2.2.2.2.1, (HCX.out V hb).2.2.2.2.2.2.2⟩
      have HCY := Lib.hid hCX
      have HWE3 : Hid (W = w.alloc (.cells #[.int .i64 5, .string l, .string rr, .int .i64 xk, .string xl, .slice A xa.items.length m, .slice B 3 r, .int .i64 b] 29)) := Lib.hid HWE.out
      clear c6 hCX hub hbody
      go_enter Tryz.func15, Tryz.ntmps15
      go_wp2_with fail
      rw [<- HWE3.out]
      refine (HVC.out W (Below.refl _ _)).mono ?_
      rintro e' w1 ⟨rfl, hb1⟩
      have HB1 := Lib.hid hb1
      have HQ := Lib.hid (λ (V : World) (hb : Below W.heap.size W V) => three_ints (a := a) (d := d) (e := e) (HCN.out V hb).2.2)
      clear hb1 c0 c1 c2 c3 c4 c5 c6' c7
      obtain ⟨c0, c6, c7⟩ := HCY.out w1 HB1.out
      go_wp2_with fail
      clear c0 c6 c7
      go_loopw [3, 4] (λ s i wr => ∃ j : Nat, j <= 3 /\ (i = .int .i64 0 /\ j = 0 \/ i = .int .i64 1 /\ j = 1 \/ i = .int .i64 2 /\ j = 2 \/ i = .int .i64 3 /\ j = 3) /\ s = .string (strL (lenK a d e j)) /\ Below W.heap.size W wr) (λ _ i _ => 3 - (intOf i).toNat)
      case atStart => exact ⟨0, Nat.zero_le _, Or.inl ⟨rfl, rfl⟩, rfl, HB1.out⟩
      case round =>
        obtain ⟨j, hj, hij, rfl, hbr⟩ := hrel
        have HBr := Lib.hid hbr
        obtain ⟨c0, c6, c7⟩ := HCY.out _ hbr
        obtain ⟨g, hg, q0, q1, q2⟩ := HQ.out _ hbr
        subst hg
        have hzs : (strL (lenK a d e j)).size <= 100 := by rw [strL_size]; exact HLN.out j
        clear hbr
        rcases hij with ⟨rfl, rfl⟩ | ⟨rfl, rfl⟩ | ⟨rfl, rfl⟩ | ⟨rfl, rfl⟩
        . have HN := Lib.hid (show strL (lenK a d e 0) ++ ⟨#[32]⟩ ++ ⟨(Lib.itoa a).toArray⟩ = strL (lenK a d e 1) by rw [strL_snocs, lenK_succ a d e 0 (by omega)]; rfl)
          obtain ⟨tx, htx⟩ : ∃ tx : ByteArray, tx = ⟨(Lib.itoa a).toArray⟩ := ⟨_, rfl⟩
          have htz : tx.size <= 21 := by rw [htx]; show (Lib.itoa a).toArray.size <= 21; rw [List.size_toArray]; exact small_itoa (by omega) (by omega)
          have HF := Lib.hid (λ w => specFmtInt_any a w (by omega) (by omega))
          rw [<- htx] at HF HN
          clear htx
          go_wp2_with fail
          refine (HF.out _).mono ?_
          rintro e' w2 ⟨rfl, hb2⟩
          have HB2 := Lib.hid (HBr.out.trans (hb2.mono HBr.out.size))
          clear hb2
          go_wp2_with fail
          go_roundw
          case rel => exact ⟨1, by omega, Or.inr (Or.inl ⟨rfl, rfl⟩), congrArg Value.string HN.out, HB2.out⟩
          case measure => simp [intOf]
        . have HN := Lib.hid (show strL (lenK a d e 1) ++ ⟨#[32]⟩ ++ ⟨(Lib.itoa d).toArray⟩ = strL (lenK a d e 2) by rw [strL_snocs, lenK_succ a d e 1 (by omega)]; rfl)
          obtain ⟨tx, htx⟩ : ∃ tx : ByteArray, tx = ⟨(Lib.itoa d).toArray⟩ := ⟨_, rfl⟩
          have htz : tx.size <= 21 := by rw [htx]; show (Lib.itoa d).toArray.size <= 21; rw [List.size_toArray]; exact small_itoa (by omega) (by omega)
          have HF := Lib.hid (λ w => specFmtInt_any d w (by omega) (by omega))
          rw [<- htx] at HF HN
          clear htx
          go_wp2_with fail
          refine (HF.out _).mono ?_
          rintro e' w2 ⟨rfl, hb2⟩
          have HB2 := Lib.hid (HBr.out.trans (hb2.mono HBr.out.size))
          clear hb2
          go_wp2_with fail
          go_roundw
          case rel => exact ⟨2, by omega, Or.inr (Or.inr (Or.inl ⟨rfl, rfl⟩)), congrArg Value.string HN.out, HB2.out⟩
          case measure => simp [intOf]
        . have HN := Lib.hid (show strL (lenK a d e 2) ++ ⟨#[32]⟩ ++ ⟨(Lib.itoa e).toArray⟩ = strL (lenK a d e 3) by rw [strL_snocs, lenK_succ a d e 2 (by omega)]; rfl)
          obtain ⟨tx, htx⟩ : ∃ tx : ByteArray, tx = ⟨(Lib.itoa e).toArray⟩ := ⟨_, rfl⟩
          have htz : tx.size <= 21 := by rw [htx]; show (Lib.itoa e).toArray.size <= 21; rw [List.size_toArray]; exact small_itoa (by omega) (by omega)
          have HF := Lib.hid (λ w => specFmtInt_any e w (by omega) (by omega))
          rw [<- htx] at HF HN
          clear htx
          go_wp2_with fail
          refine (HF.out _).mono ?_
          rintro e' w2 ⟨rfl, hb2⟩
          have HB2 := Lib.hid (HBr.out.trans (hb2.mono HBr.out.size))
          clear hb2
          go_wp2_with fail
          go_roundw
          case rel => exact ⟨3, by omega, Or.inr (Or.inr (Or.inr (⟨rfl, rfl⟩))), congrArg Value.string HN.out, HB2.out⟩
          case measure => simp [intOf]
        . go_wp2_with fail
          refine (HFb.out _).mono ?_
          rintro e' w2 ⟨rfl, hb2⟩
          have HB2 := Lib.hid (HBr.out.trans (hb2.mono HBr.out.size))
          clear hb2
          go_wp2_with fail
          go_ret
          exact ⟨congrArg (λ z => Ending.returned (.string z)) HR.out, HB0.out.trans (HB2.out.mono HB0.out.size)⟩
def PcPost (s : List UInt8) (w : World) (e : Ending) (w' : World) : Prop := ∃ ok c, CopyCB c ok w e w' /\ ParsedX s ok c
theorem fmtX_valid {c : Cx} (h : fmtX c ≠ []) : validX c = true := by
  cases hv : validX c with
  | true => rfl
  | false => exact absurd (show fmtX c = [] from if_neg (by rw [show validC c.cn = validX c from rfl, hv]; simp)) h
theorem parsed_yes {s : List UInt8} {c : Cx} (hs : s ≠ []) (h : fmtX c = s) : ParsedX s true c := .inl ⟨rfl, fmtX_valid (by rw [h]; exact hs), h⟩
theorem parsed_empty : ParsedX [] false zeroX := .inr ⟨rfl, rfl, λ _ hd => fmtC_ne hd⟩
theorem parsed_no {s : List UInt8} (h : fmtX (parseCx (spl 32 s)) ≠ s) : ParsedX s false zeroX := .inr ⟨rfl, rfl, λ d hd e => by
  have h1 := parse_fmt hd
  rw [show fmtC d.cn = s from e, <- parseCx_cn] at h1
  rw [Cx.cn_inj h1] at h
  exact h e⟩
theorem parseCx_size (ps : List (List UInt8)) (hz : ∀ p ∈ ps, p.length <= 1048576) : (parseCx ps).xa.size <= 64 := by
  have k : (readX (ps.getD 2 [])).2.2.size <= 64 := (readX_size _ (by
    rw [List.getD_eq_getElem?_getD]
    cases hp : ps[2]? with
    | none => simp
    | some x => exact hz x (List.mem_of_getElem? hp))).2
  unfold parseCx
  repeat' split
  all_goals first | exact k | exact Nat.zero_le _
theorem spl_part (c : UInt8) : ∀ (l : List UInt8), ∀ p ∈ spl c l, p.length <= l.length
  | [], p, hp => by
    simp [spl] at hp
    simp [hp]
  | b :: r, p, hp => by
    have ih := spl_part c r
    unfold spl at hp
    split at hp
    . rcases List.mem_cons.1 hp with rfl | h
      . simp
      . have := ih p h
        simp
        omega
    . split at hp
      . simp at hp
        subst hp
        simp
      . rename_i q qs hq
        rcases List.mem_cons.1 hp with rfl | h
        . have := ih q (by rw [hq]; simp)
          simp
          omega
        . have := ih p (by rw [hq]; simp [h])
          simp
          omega
theorem copyCB_end {w X : World} {y : Array Value} {t : TypeId} {c : Cx} {b : Bool} {xu vc : Value} (hb : X.heap[w.heap.size]? = some (.cells y t (0, 0))) (hy : y.size = 8) (ht : CnT X (λ h => w.heap.size < h /\ h < X.heap.size) xu vc c) (hbx : Below w.heap.size w X) :
    CellC (put8 X w.heap.size (.int .i64 c.k) (.string c.l) (.string c.r) (.int .i64 c.xk) (.string c.xl) xu vc (.int .i64 c.b)) w.heap.size c xu vc /\
    CopyCB c b w (.returned (.tuple #[.agg #[.int .i64 c.k, .string c.l, .string c.r, .int .i64 c.xk, .string c.xl, xu, vc, .int .i64 c.b], .bool b])) (put8 X w.heap.size (.int .i64 c.k) (.string c.l) (.string c.r) (.int .i64 c.xk) (.string c.xl) xu vc (.int .i64 c.b)) := by
  obtain ⟨h1, _, _, _, h2, h3⟩ := copyC_end hb hy ht hbx
  rename_i e
  injection e with e
  injection e with e
  simp at e
  obtain ⟨rfl, rfl⟩ := e
  exact ⟨h1, _, _, rfl, h2, h3⟩
theorem CopyCB.alloc {c : Cx} {b : Bool} {w w' : World} {e : Ending} (h : CopyCB c b w e w') (o : Obj) : CopyCB c b w e (w'.alloc o) := by
  obtain ⟨xu, vc, rfl, ht, hb⟩ := h
  exact ⟨xu, vc, rfl, ht.mono (λ g hg => Below.heap_alloc _ _ _ hg.2) (λ g hg => ⟨hg.1, by have := hg.2; simp; omega⟩), hb.alloc hb.size _⟩
theorem specParseC_any (s : ByteArray) (w : World) (hs : s.size <= 1048576) : Calls Tryz.prog 20 #[.string s] w (PcPost s.data.toList w) := by
  obtain ⟨W, hW⟩ : ∃ W, W = w.alloc (.cells #[.int .i64 0, .string ⟨#[]⟩, .string ⟨#[]⟩, .int .i64 0, .string ⟨#[]⟩, .slice none 0 0, .slice none 0 0, .int .i64 0] 29) := ⟨_, rfl⟩
  have hbW : Below w.heap.size w W := by rw [hW]; exact (Below.refl _ _).alloc (Nat.le_refl _) _
  have hzW : W.heap.size = w.heap.size + 1 := by rw [hW]; simp
  have hrW : W.heap[w.heap.size]? = some (.cells (cxA zeroX (.slice none 0 0) (.slice none 0 0)) 29 (0, 0)) := by rw [hW]; exact heap_alloc_new w _
  have HSP := Lib.hid (specSplit_any s 32 W hs)
  obtain ⟨ps, hps⟩ : ∃ ps, ps = spl 32 s.data.toList := ⟨_, rfl⟩
  have hz : ∀ p ∈ ps, p.length <= 1048576 := λ p hp => by
    rw [hps] at hp
    have := spl_part 32 _ p hp
    rw [show s.data.toList.length = s.size by simp] at this
    omega
  have hn : 1 <= ps.length := by
    rw [hps]
    have := spl_ne 32 s.data.toList
    cases hq : spl 32 s.data.toList with
    | nil => exact absurd hq this
    | cons _ _ => simp
  have hn2 : ps.length <= 1048577 := by
    rw [hps]
    have := spl_length 32 s.data.toList
    rw [show s.data.toList.length = s.size by simp] at this
    omega
  have hsz := parseCx_size ps hz
  have HPA := Lib.hid (λ v B V h => specParse9_any ps v B V h hn hn2 hz)
  have HNO := Lib.hid (λ (h : fmtX (parseCx ps) ≠ s.data.toList) => parsed_no (s := s.data.toList) (by rw [<- hps]; exact h))
  obtain ⟨c, hc⟩ : ∃ c, c = parseCx ps := ⟨_, rfl⟩
  rw [<- hc] at hsz HPA HNO
  rw [<- hps] at HSP
  have HF := Lib.hid (λ (xu vc : Value) (V : World) (h : CnO V xu vc c) => specFmtC_any c xu vc V h (by omega))
  have HWE := Lib.hid hW
  have HBW := Lib.hid hbW
  have HZW := Lib.hid hzW
  have HRW := Lib.hid hrW
  clear hW hbW hzW hrW hps hc hz hn hn2 hsz
  by_cases he : s.size = 0
  . have hel := bytes_nil he
    have hem : s.toList.isEmpty = true := by rw [hel]; rfl
    have HS := Lib.hid (show s.data.toList = [] by rw [<- ByteArray.toList_eq]; exact hel)
    clear he
    go_enter Tryz.func20, Tryz.ntmps20
    go_wp2_with fail
    rw [<- HWE.out]
    refine HSP.out.mono ?_
    rintro e w1 ⟨v, rfl, hown, hb1⟩
    have HB1 := Lib.hid hb1
    have HOW := Lib.hid hown
    clear hb1 hown
    go_wp2_with fail
    refine (HPA.out v _ w1 HOW.out).mono ?_
    rintro e w2 hp
    obtain ⟨A, m, B, r, rfl, ht, hb2⟩ := hp.shape
    have HB2 := Lib.hid (HB1.out.trans (hb2.mono HB1.out.size))
    have hrb := (hb2.block w.heap.size (by have := HZW.out; have := HB1.out.size; omega)).trans ((HB1.out.block w.heap.size (by have := HZW.out; omega)).trans HRW.out)
    obtain ⟨r0, r1, r2, r3, r4, r5, r6, r7⟩ := BoxC.cells (c := zeroX) ⟨_, hrb⟩
    have fr := BoxC.frozen (c := zeroX) ⟨_, hrb⟩
    have hlt : w.heap.size < w2.heap.size := by have := HZW.out; have := HB2.out.size; omega
    have HRB := Lib.hid hrb
    have f00 := fr 0
    have f01 := fr 1
    have f02 := fr 2
    have f03 := fr 3
    have f04 := fr 4
    have f05 := fr 5
    have f06 := fr 6
    have f07 := fr 7
    clear hp ht hb2 hrb fr
    go_wp2_with fail
    obtain ⟨⟨k0, k1, k2, k3, k4, k5, k6, k7⟩, hcp⟩ := copyCB_end (w := w) (c := zeroX) (b := false) HRB.out rfl (CnT.leaf w2 _ none none 0 0 zeroX (Nat.zero_le _) (Nat.zero_le _) (Nat.zero_le _) rfl rfl) (HBW.out.trans (HB2.out.mono HBW.out.size))
    unfold put8 at k0 k1 k2 k3 k4 k5 k6 k7 hcp
    simp only [zeroX] at k0 k1 k2 k3 k4 k5 k6 k7
    refine bodyPost_ret (v := .tuple #[.agg #[.int .i64 0, .string ⟨#[]⟩, .string ⟨#[]⟩, .int .i64 0, .string ⟨#[]⟩, .slice none 0 0, .slice none 0 0, .int .i64 0], .bool false]) (by simp [results, Tryz.results20, go_sem, hlt, k0, k1, k2, k3, k4, k5, k6, k7]) rfl ⟨false, zeroX, CopyCB.alloc hcp _, ?_⟩
    rw [HS.out]
    exact parsed_empty
  . have hel := bytes_some he
    have hem : s.toList.isEmpty = false := by simpa using hel
    have HNE := Lib.hid (show s.data.toList ≠ [] by rw [<- ByteArray.toList_eq]; exact hel)
    obtain ⟨ft, hft⟩ : ∃ ft, ft = strL (fmtX c) := ⟨_, rfl⟩
    have hfl : ft.toList = fmtX c := by rw [ByteArray.toList_eq, hft, strL_list]
    have HFL := Lib.hid hfl
    rw [<- hft] at HF
    clear he hft hfl
    by_cases hq : ft.toList = s.toList
    . have hq1 : (ft.toList == s.toList) = true := by rw [hq]; exact beq_self_eq_true _
      have hq2 : (ft.toList != s.toList) = false := by rw [hq]; exact bne_self_eq_false _
      have HEQ := Lib.hid (show fmtX c = s.data.toList by rw [<- HFL.out, hq, ByteArray.toList_eq])
      clear hq
      go_enter Tryz.func20, Tryz.ntmps20
      go_wp2_with fail
      rw [<- HWE.out]
      refine HSP.out.mono ?_
      rintro e w1 ⟨v, rfl, hown, hb1⟩
      have HB1 := Lib.hid hb1
      have HOW := Lib.hid hown
      clear hb1 hown
      go_wp2_with fail
      refine (HPA.out v _ w1 HOW.out).mono ?_
      rintro e w2 hp
      obtain ⟨A, m, B, r, rfl, ht, hb2⟩ := hp.shape
      have HB2 := Lib.hid (HB1.out.trans (hb2.mono HB1.out.size))
      have HT := Lib.hid ht
      have HCO := Lib.hid (ht.con.kept (w' := w2.alloc (.cells #[.int .i64 c.k, .string c.l, .string c.r, .int .i64 c.xk, .string c.xl, .slice A c.xa.items.length m, .slice B c.cs.length r, .int .i64 c.b] 29)) ((Below.refl _ _).alloc (Nat.le_refl _) _))
      have hz2 : w.heap.size + 1 <= w2.heap.size := by have := HZW.out; have := HB2.out.size; omega
      clear hp ht hb2
      go_wp2_with fail
      obtain ⟨W3, hW3⟩ : ∃ W3, W3 = w2.alloc (.cells #[.int .i64 c.k, .string c.l, .string c.r, .int .i64 c.xk, .string c.xl, .slice A c.xa.items.length m, .slice B c.cs.length r, .int .i64 c.b] 29) := ⟨_, rfl⟩
      have hbx3 : BoxC W3 w2.heap.size c (.slice A c.xa.items.length m) (.slice B c.cs.length r) := by rw [hW3]; exact boxC_new w2 c _ _ _
      have hb23 : Below w2.heap.size w2 W3 := by rw [hW3]; exact (Below.refl _ _).alloc (Nat.le_refl _) _
      rw [<- hW3] at HCO ⊢
      refine (HF.out _ _ W3 HCO.out).mono ?_
      rintro e w4 ⟨rfl, hb4⟩
      have hb24 : Below w2.heap.size w2 w4 := hb23.trans (hb4.mono hb23.size)
      have HB4 := Lib.hid (HB2.out.trans (hb24.mono HB2.out.size))
      have HT4 := Lib.hid (HT.out.kept (w' := w4) (λ g hg => hg.2) hb24)
      have hz24 : w2.heap.size <= w4.heap.size := hb24.size
      obtain ⟨b0, b1, b2, b3, b4, b5, b6, b7⟩ := (hbx3.kept hb4).cells
      have hrb := (HB4.out.block w.heap.size (by have := HZW.out; omega)).trans HRW.out
      obtain ⟨r0, r1, r2, r3, r4, r5, r6, r7⟩ := BoxC.cells (c := zeroX) ⟨_, hrb⟩
      have fr := BoxC.frozen (c := zeroX) ⟨_, hrb⟩
      have hlt : w.heap.size < w4.heap.size := by omega
      have hne : w2.heap.size ≠ w.heap.size := by omega
      have HRB := Lib.hid hrb
      have f00 := fr 0
      have f01 := fr 1
      have f02 := fr 2
      have f03 := fr 3
      have f04 := fr 4
      have f05 := fr 5
      have f06 := fr 6
      have f07 := fr 7
      clear hrb fr hb24 hb4 hb23 hbx3 hW3
      go_wp2_with fail
      obtain ⟨⟨k0, k1, k2, k3, k4, k5, k6, k7⟩, hcp⟩ := copyCB_end (w := w) (c := c) (b := true) HRB.out rfl (HT4.out.mono (λ _ _ => rfl) (λ g hg => ⟨by have := hg.1; have := HZW.out; have := HB1.out.size; omega, Nat.lt_of_lt_of_le hg.2 hz24⟩)) (HBW.out.trans (HB4.out.mono HBW.out.size))
      unfold put8 at k0 k1 k2 k3 k4 k5 k6 k7 hcp
      exact bodyPost_ret (v := .tuple #[.agg #[.int .i64 c.k, .string c.l, .string c.r, .int .i64 c.xk, .string c.xl, .slice A c.xa.items.length m, .slice B c.cs.length r, .int .i64 c.b], .bool true]) (by simp [results, Tryz.results20, go_sem, k0, k1, k2, k3, k4, k5, k6, k7]) rfl ⟨true, c, hcp, parsed_yes HNE.out HEQ.out⟩
    . have hq1 : (ft.toList == s.toList) = false := beq_eq_false_iff_ne.2 hq
      have hq2 : (ft.toList != s.toList) = true := bne_iff_ne.2 hq
      have HEQ := Lib.hid (show fmtX c ≠ s.data.toList by rw [<- HFL.out, <- ByteArray.toList_eq]; exact hq)
      go_enter Tryz.func20, Tryz.ntmps20
      go_wp2_with fail
      rw [<- HWE.out]
      refine HSP.out.mono ?_
      rintro e w1 ⟨v, rfl, hown, hb1⟩
      have HB1 := Lib.hid hb1
      have HOW := Lib.hid hown
      clear hb1 hown
      go_wp2_with fail
      refine (HPA.out v _ w1 HOW.out).mono ?_
      rintro e w2 hp
      obtain ⟨A, m, B, r, rfl, ht, hb2⟩ := hp.shape
      have HB2 := Lib.hid (HB1.out.trans (hb2.mono HB1.out.size))
      have HT := Lib.hid ht
      have HCO := Lib.hid (ht.con.kept (w' := w2.alloc (.cells #[.int .i64 c.k, .string c.l, .string c.r, .int .i64 c.xk, .string c.xl, .slice A c.xa.items.length m, .slice B c.cs.length r, .int .i64 c.b] 29)) ((Below.refl _ _).alloc (Nat.le_refl _) _))
      have hz2 : w.heap.size + 1 <= w2.heap.size := by have := HZW.out; have := HB2.out.size; omega
      clear hp ht hb2
      go_wp2_with fail
      obtain ⟨W3, hW3⟩ : ∃ W3, W3 = w2.alloc (.cells #[.int .i64 c.k, .string c.l, .string c.r, .int .i64 c.xk, .string c.xl, .slice A c.xa.items.length m, .slice B c.cs.length r, .int .i64 c.b] 29) := ⟨_, rfl⟩
      have hbx3 : BoxC W3 w2.heap.size c (.slice A c.xa.items.length m) (.slice B c.cs.length r) := by rw [hW3]; exact boxC_new w2 c _ _ _
      have hb23 : Below w2.heap.size w2 W3 := by rw [hW3]; exact (Below.refl _ _).alloc (Nat.le_refl _) _
      rw [<- hW3] at HCO ⊢
      refine (HF.out _ _ W3 HCO.out).mono ?_
      rintro e w4 ⟨rfl, hb4⟩
      have hb24 : Below w2.heap.size w2 w4 := hb23.trans (hb4.mono hb23.size)
      have HB4 := Lib.hid (HB2.out.trans (hb24.mono HB2.out.size))
      have HT4 := Lib.hid (HT.out.kept (w' := w4) (λ g hg => hg.2) hb24)
      have hz24 : w2.heap.size <= w4.heap.size := hb24.size
      obtain ⟨b0, b1, b2, b3, b4, b5, b6, b7⟩ := (hbx3.kept hb4).cells
      have hrb := (HB4.out.block w.heap.size (by have := HZW.out; omega)).trans HRW.out
      obtain ⟨r0, r1, r2, r3, r4, r5, r6, r7⟩ := BoxC.cells (c := zeroX) ⟨_, hrb⟩
      have fr := BoxC.frozen (c := zeroX) ⟨_, hrb⟩
      have hlt : w.heap.size < w4.heap.size := by omega
      have hne : w2.heap.size ≠ w.heap.size := by omega
      have HRB := Lib.hid hrb
      have f00 := fr 0
      have f01 := fr 1
      have f02 := fr 2
      have f03 := fr 3
      have f04 := fr 4
      have f05 := fr 5
      have f06 := fr 6
      have f07 := fr 7
      clear hrb fr hb24 hb4 hb23 hbx3 hW3
      go_wp2_with fail
      obtain ⟨⟨k0, k1, k2, k3, k4, k5, k6, k7⟩, hcp⟩ := copyCB_end (w := w) (c := zeroX) (b := false) HRB.out rfl (CnT.leaf w4 _ none none 0 0 zeroX (Nat.zero_le _) (Nat.zero_le _) (Nat.zero_le _) rfl rfl) (HBW.out.trans (HB4.out.mono HBW.out.size))
      unfold put8 at k0 k1 k2 k3 k4 k5 k6 k7 hcp
      simp only [zeroX] at k0 k1 k2 k3 k4 k5 k6 k7
      exact bodyPost_ret (v := .tuple #[.agg #[.int .i64 0, .string ⟨#[]⟩, .string ⟨#[]⟩, .int .i64 0, .string ⟨#[]⟩, .slice none 0 0, .slice none 0 0, .int .i64 0], .bool false]) (by simp [results, Tryz.results20, go_sem, k0, k1, k2, k3, k4, k5, k6, k7]) rfl ⟨false, zeroX, hcp, HNO.out HEQ.out⟩
theorem new_eight (w : World) (c : Cx) (xu vc : Value) (t : TypeId) : ∀ (j : Nat) (u : Value), (cxA c xu vc).toList[j]? = some u -> (w.alloc (.cells #[.int .i64 c.k, .string c.l, .string c.r, .int .i64 c.xk, .string c.xl, xu, vc, .int .i64 c.b] t)).cell? ((⟨w.heap.size, 0, none⟩ : Addr).add j) = some u := by
  intro j u h
  rw [Addr.add_lit]
  have hk := cell_of_row _ w.heap.size (0 + j) _ t (0, 0) (heap_alloc_new w (.cells #[.int .i64 c.k, .string c.l, .string c.r, .int .i64 c.xk, .string c.xl, xu, vc, .int .i64 c.b] t))
  rw [hk, Nat.zero_add, <- h]
  simp [cxA]
theorem new_eight_at {w : World} {q : Nat} (hq : w.heap.size = q) (c : Cx) (xu vc : Value) (t : TypeId) : ∀ (j : Nat) (u : Value), (cxA c xu vc).toList[j]? = some u -> (w.alloc (.cells #[.int .i64 c.k, .string c.l, .string c.r, .int .i64 c.xk, .string c.xl, xu, vc, .int .i64 c.b] t)).cell? ((⟨q, 0, none⟩ : Addr).add j) = some u := by
  subst hq
  exact new_eight w c xu vc t
theorem cx_one (c : Cx) (A B : Option Addr) (n m r q : Nat) : ∀ u ∈ (cxA c (.slice A n m) (.slice B r q)).toList, u.oneCell' = true := by
  simp [cxA, Value.oneCell']
theorem lines_of {s : List UInt8} : linesL s = if (spl 10 s).getLastD [] = [] then (spl 10 s).take ((spl 10 s).length - 1) else spl 10 s := by
  unfold linesL
  split
  . rw [List.dropLast_eq_take]
  . rfl
theorem goP_drop {ls : List (List UInt8)} {k : Nat} {p : List UInt8} (h : ls[k]? = some p) : ls.drop k = p :: ls.drop (k + 1) := by
  obtain ⟨h1, h2⟩ := List.getElem?_eq_some_iff.1 h
  rw [List.drop_eq_getElem_cons h1, h2]
theorem specParseP_any (s : ByteArray) (w : World) (hs : s.size <= 1048576) : Calls Tryz.prog 34 #[.string s] w (CopyPI (parseP s.data.toList).1 (parseP s.data.toList).2 w) := by
  obtain ⟨r0, hr0, hrz, hrs, hrb⟩ := info_parts cxInfo
  obtain ⟨W, hW⟩ : ∃ W, W = w.alloc (.cells #[.slice none 0 0] 45) := ⟨_, rfl⟩
  have hbW : Below w.heap.size w W := by rw [hW]; exact (Below.refl _ _).alloc (Nat.le_refl _) _
  have hzW : W.heap.size = w.heap.size + 1 := by rw [hW]; simp
  have hrW : W.heap[w.heap.size]? = some (.cells #[.slice none 0 0] 45 (0, 0)) := by rw [hW]; exact heap_alloc_new w _
  have HSP := Lib.hid (specSplit_any s 10 W hs)
  obtain ⟨ps, hps⟩ : ∃ ps, ps = spl 10 s.data.toList := ⟨_, rfl⟩
  have hz : ∀ p ∈ ps, p.length <= 1048576 := λ p hp => by
    rw [hps] at hp
    have := spl_part 10 _ p hp
    rw [show s.data.toList.length = s.size by simp] at this
    omega
  have hn : 1 <= ps.length := by
    rw [hps]
    have := spl_ne 10 s.data.toList
    cases hq : spl 10 s.data.toList with
    | nil => exact absurd hq this
    | cons _ _ => simp
  have hn2 : ps.length <= 1048577 := by
    rw [hps]
    have := spl_length 10 s.data.toList
    rw [show s.data.toList.length = s.size by simp] at this
    omega
  have hll : linesL s.data.toList = if ps.getLastD [] = [] then ps.take (ps.length - 1) else ps := by rw [hps]; exact lines_of
  have HPP : Hid (parseP s.data.toList = goP 0 [] (linesL s.data.toList)) := Lib.hid rfl
  rw [<- hps] at HSP
  obtain ⟨R, hR⟩ : ∃ R, R = parseP s.data.toList := ⟨_, rfl⟩
  rw [<- hR] at HPP ⊢
  have HLL := Lib.hid hll
  have HPC : Hid (∀ (p : List UInt8), p ∈ ps -> ∀ V : World, Calls Tryz.prog 20 #[.string ⟨p.toArray⟩] V (PcPost p V)) := Lib.hid (λ p hp V => specParseC_any ⟨p.toArray⟩ V (by show p.toArray.size <= 1048576; rw [List.size_toArray]; exact hz p hp))
  obtain ⟨n, hN⟩ : ∃ n, ps.length = n + 1 := ⟨ps.length - 1, by omega⟩
  have HWE := Lib.hid hW
  have HBW := Lib.hid hbW
  have HZW := Lib.hid hzW
  have HRW := Lib.hid hrW
  have hlastE : ps.getLastD [] = ps[n]'(by omega) := by
    simp only [List.getLastD_eq_getLast?, List.getLast?_eq_getElem?, show ps.length - 1 = n by omega, List.getElem?_eq_getElem (show n < ps.length by omega)]
    rfl
  clear hW hbW hzW hrW hps hR hll
  by_cases hlast : ps[n]'(by omega) = []
  . obtain ⟨ls, hls⟩ : ∃ ls, ls = ps.take n := ⟨_, rfl⟩
    have HLS := Lib.hid (show linesL s.data.toList = ls by rw [HLL.out, if_pos (hlastE.trans hlast), hls, hN, Nat.add_sub_cancel])
    have hln : ls.length = n := by rw [hls, List.length_take]; omega
    have hget : ∀ k p, k < n -> ps[k]? = some p -> ls[k]? = some p := λ k p h hp => by rw [hls, List.getElem?_take_of_lt h]; exact hp
    have hem : (ByteArray.mk (ps[n]'(by omega)).toArray).toList = [] := by rw [hlast, ByteArray.toList_eq]
    have HGET := Lib.hid hget
    have HLN := Lib.hid hln
    obtain ⟨px, hpx⟩ : ∃ px : ByteArray, px = ⟨(ps[n]'(by omega)).toArray⟩ := ⟨_, rfl⟩
    rw [<- hpx] at hem
    have HPX := Lib.hid hpx
    clear hget hln hls hlast hlastE hpx
    go_enter Tryz.func34, Tryz.ntmps34
    go_wp2_with fail
    rw [<- HWE.out]
    refine HSP.out.mono ?_
    rintro e w1 ⟨v0, rfl, hown, hb1⟩
    obtain ⟨g, cp, rfl, hg, hc⟩ := strRow_at hown hn
    have hgW : W.heap.size <= g := by
      rcases hown.2 with ⟨e, _⟩ | ⟨g', cap, cur, e, h3, _⟩
      . cases e
      . cases e
        exact h3
    have hcap : ps.length <= cp := by
      rcases hown.2 with ⟨e, _⟩ | ⟨g', cap, cur, e, _, _, h4, _⟩
      . cases e
      . cases e
        exact h4
    have hcn := hc n (by omega)
    rw [<- HPX.out] at hcn
    have HC := Lib.hid hc
    have HB1 := Lib.hid hb1
    have hz1 := hb1.size
    have hrb := (hb1.block w.heap.size (by have := HZW.out; omega)).trans HRW.out
    have HRB1 := Lib.hid hrb
    clear hown hc hb1 hrb
    rw [hN]
    go_wp2_with fail
    obtain ⟨W2, hW2⟩ : ∃ W2, W2 = w1.alloc (.cells #[.slice none 0 0] 45) := ⟨_, rfl⟩
    rw [<- hW2]
    have hb12 : Below w1.heap.size w1 W2 := by rw [hW2]; exact (Below.refl _ _).alloc (Nat.le_refl _) _
    have hz2 : W2.heap.size = w1.heap.size + 1 := by rw [hW2]; simp
    have hbo : W2.heap[w1.heap.size]? = some (.cells #[.slice none 0 0] 45 (0, 0)) := by rw [hW2]; exact heap_alloc_new w1 _
    have HBO := Lib.hid hbo
    have HB2 := Lib.hid hb12
    have HZ2 := Lib.hid hz2
    have hW1 : W.heap.size <= w1.heap.size := hz1
    clear hW2 hb12 hbo hcn
    go_loopw [6] (λ i wr => ∃ (k : Nat) (L : List Cx) (v : Value) (xs : List Value), i = .int .i64 k /\ k <= n /\ Hid (L.length = k /\ k <= 6 /\ R = goP k L (ls.drop k)) /\ RowC (w1.heap.size + 1) wr v L xs /\ wr.heap[w1.heap.size]? = some (.cells #[v] 45 (0, 0)) /\ Below w1.heap.size W2 wr) (λ i _ => n - (intOf i).toNat)
    case atStart => exact ⟨0, [], _, [], rfl, Nat.zero_le _, Lib.hid ⟨rfl, by omega, by rw [HPP.out, HLS.out]; rfl⟩, RowC.start _ _ (by have := HZ2.out; omega), HBO.out, Below.refl _ _⟩
    case round =>
      obtain ⟨k, L, v, xs, rfl, hk, HK, hrow, hbox, hb⟩ := hrel
      obtain ⟨Av, mv, rfl⟩ := hrow.shape
      have HR := Lib.hid hrow
      have HX := Lib.hid hbox
      have HB := Lib.hid hb
      have hbw := HB2.out.trans hb
      have hzr : w1.heap.size + 1 <= wr.heap.size := by have := hb.size; have := HZ2.out; omega
      have HBR := Lib.hid hbw
      have hrr := (hbw.block w.heap.size (by have := HZW.out; omega)).trans HRB1.out
      have HRR := Lib.hid hrr
      clear hrow hbox hb
      by_cases hlt : k < n
      . have hkp : k < ps.length := by omega
        have hcell := (hbw.cell (p := ⟨g, k, none⟩) hg).trans (HC.out k hkp)
        have HD := Lib.hid (goP_drop (HGET.out k ps[k] hlt (List.getElem?_eq_getElem hkp)))
        have HI := Lib.hid (HPC.out ps[k] (List.getElem_mem hkp) wr)
        have hk1 : (k : Int) < (((n : Nat)) : Int) := by omega
        obtain ⟨pk, hpk⟩ : ∃ pk : ByteArray, pk = ⟨(ps[k]).toArray⟩ := ⟨_, rfl⟩
        rw [<- hpk] at hcell HI
        clear hpk hbw hrr
        go_wp2_with fail
        refine HI.out.mono ?_
        rintro e w3 ⟨ok, c, hcp, hparsed⟩
        obtain ⟨A3, m3, B3, r3, rfl, ht3, hb3⟩ := hcp.shape
        have hpx := hparsed.px
        have HT3 := Lib.hid ht3
        have HB3 := Lib.hid hb3
        have hz3 := hb3.size
        clear hcp hparsed ht3 hb3 hcell
        have hrr3 := (HB3.out.block w.heap.size (by have := HZW.out; omega)).trans HRR.out
        have cr := (cell_of_row w3 _ 0 _ _ (0, 0) hrr3).trans (rfl : _ = some (Value.slice none 0 0))
        have fr := frozen_of_row w3 _ 0 _ _ hrr3
        have hrlt : w.heap.size < w3.heap.size := by have := HZW.out; omega
        have hrne : w.heap.size ≠ w3.heap.size := by omega
        have HRR3 := Lib.hid hrr3
        have HBw3 : Hid (Below w.heap.size w w3) := Lib.hid (HBW.out.trans ((HB1.out.trans ((HBR.out.trans (HB3.out.mono (by omega))).mono hW1)).mono (by have := HZW.out; omega)))
        clear hrr3
        have hfail : ∀ (hv : R = ([], (k : Int))), CopyPI R.1 R.2 w (.returned (.tuple #[.agg #[.slice none 0 0], .int .i64 k])) ((w3.setCell ⟨w.heap.size, 0, none⟩ (.slice none 0 0)).alloc (.cells #[.int .i64 c.k, .string c.l, .string c.r, .int .i64 c.xk, .string c.xl, .slice A3 c.xa.items.length m3, .slice B3 c.cs.length r3, .int .i64 c.b] 29)) := λ hv => by
          rw [hv]
          exact ⟨none, 0, rfl, PrT.none _ _ _ _, (HBw3.out.setCell (p := ⟨w.heap.size, 0, none⟩) (Nat.le_refl _) _).alloc (by simp [World.setCell]; omega) _⟩
        have HFAIL := Lib.hid hfail
        clear hfail
        cases ok with
        | false =>
          have HV := Lib.hid (show R = ([], (k : Int)) by rw [HK.out.2.2, HD.out, goP_none (by rw [hpx]; rfl)])
          clear hpx
          go_wp2_with fail
          exact bodyPost_ret (v := .tuple #[.agg #[.slice none 0 0], .int .i64 k]) (by simp [results, Tryz.results34, go_sem, cr, hrlt]) rfl (HFAIL.out HV.out)
        | true =>
          by_cases h6 : 6 <= k
          . have HV := Lib.hid (show R = ([], (k : Int)) by rw [HK.out.2.2, HD.out, goP_full h6])
            have h6i : (6 : Int) <= k := by omega
            clear hpx
            go_wp2_with fail
            exact bodyPost_ret (v := .tuple #[.agg #[.slice none 0 0], .int .i64 k]) (by simp [results, Tryz.results34, go_sem, cr, hrlt]) rfl (HFAIL.out HV.out)
          . have h6i : ¬ ((6 : Int) <= k) := by omega
            have HV := Lib.hid (show R = goP (k + 1) (L ++ [c]) (ls.drop (k + 1)) by rw [HK.out.2.2, HD.out, goP_some (c := c) (by rw [hpx]; rfl) (by omega)])
            have hbox3 := (HB3.out.block w1.heap.size (by omega)).trans HX.out
            have cb := (cell_of_row w3 _ 0 _ _ (0, 0) hbox3).trans (rfl : _ = some (Value.slice Av L.length mv))
            have HBOX3 := Lib.hid hbox3
            have HR3 := Lib.hid (HR.out.below HB3.out)
            have hL6 : L.length <= 6 := by have := HK.out; omega
            have hbne : w1.heap.size ≠ w3.heap.size := by omega
            have hblt : w1.heap.size < w3.heap.size := by omega
            clear hpx hbox3 fr cr
            go_wp2_with (at_builtin; refine wpList_append_own_at _ rfl (.tmp 47) (.tmp 49) 43 rfl (w1.heap.size + 1) 29 r0 _ 8 120 Tryz.underlying43 hr0 hrz hrs hrb rfl (by decide) _ _ _ rfl ((HR3.out.own.alloc _).alloc _) ⟨w3.heap.size + 1, 0, none⟩ 1 1 (cxA c (.slice A3 c.xa.items.length m3) (.slice B3 c.cs.length r3)).toList (by first | rfl | simp) rfl (new_eight_at (by simp) c _ _ _) (cx_one c _ _ _ _ _ _) (by unfold maxLen; omega) (by omega) (by simp; omega) ?_)
            intro v' w7 hown' hgrow hnil hat
            obtain ⟨g7, c7, hv7⟩ : ∃ g cap, v' = .slice (some ⟨g, 0, none⟩) (L.length + 1) cap := by
              rcases hown'.2 with ⟨_, h0⟩ | ⟨g, cap, _, rfl, _⟩
              . omega
              . exact ⟨g, cap, rfl⟩
            subst hv7
            have hrowne : ∀ q, q < w1.heap.size + 1 -> (Value.slice Av L.length mv).ownBlock ≠ some q := λ q hq e => by
              have := (HR3.out.own.lt q e).1
              omega
            have hz7 : w3.heap.size <= w7.heap.size := by have := hgrow.size; simp at this; omega
            have hkeep : ∀ q, q < w3.heap.size -> (Value.slice Av L.length mv).ownBlock ≠ some q -> w7.heap[q]? = w3.heap[q]? := λ q hq hne => by
              rw [hgrow.block q (by simp; omega) (λ e => hne e.symm), Below.heap_alloc _ _ _ (by simp; omega), Below.heap_alloc _ _ _ hq]
            have hst := HR.out.step (by omega) HB3.out HT3.out hown' hz7 hkeep (hat.imp id (λ e => ⟨_, e, by first | omega | (simp; omega)⟩))
            have hbox7 := (hkeep w1.heap.size (by omega) (hrowne _ (by omega))).trans HBOX3.out
            have cb7 := (cell_of_row w7 _ 0 _ _ (0, 0) hbox7).trans (rfl : _ = some (Value.slice Av L.length mv))
            have fb7 := frozen_of_row w7 _ 0 _ _ hbox7
            have HST := Lib.hid (hst.same (w' := w7.setCell ⟨w1.heap.size, 0, none⟩ (.slice (some ⟨g7, 0, none⟩) (L.length + 1) c7)) (λ q hq _ => Below.heap_setCell _ _ _ q (by simp; omega)) (by simp [World.setCell]))
            have HBX := Lib.hid (show (w7.setCell ⟨w1.heap.size, 0, none⟩ (.slice (some ⟨g7, 0, none⟩) (L.length + 1) c7)).heap[w1.heap.size]? = some (.cells #[.slice (some ⟨g7, 0, none⟩) (L.length + 1) c7] 45 (0, 0)) by
              have := heap_setCell_same w7 w1.heap.size 0 _ _ (.slice (some ⟨g7, 0, none⟩) (L.length + 1) c7) hbox7
              simpa using this)
            have HBN := Lib.hid (((((HB.out.trans (HB3.out.mono (by omega))).alloc (by omega) _).alloc (by simp; omega) _).grown hgrow (by simp; omega) (λ q hq => by have := (HR3.out.own.lt q hq).1; omega)).setCell (p := ⟨w1.heap.size, 0, none⟩) (Nat.le_refl _) (.slice (some ⟨g7, 0, none⟩) (L.length + 1) c7))
            clear hown' hgrow hnil hat hrowne hkeep hst hbox7 cb
            go_wp2_with fail
            go_roundw
            case rel => exact ⟨k + 1, L ++ [c], _, _, by go_num, by omega, Lib.hid ⟨by rw [List.length_append, HK.out.1]; rfl, by omega, HV.out⟩, by simpa using HST.out, HBX.out, HBN.out⟩
            case measure => simp [intOf]; omega
      . have hd : ¬ ((k : Int) < (((n : Nat)) : Int)) := by omega
        have HV := Lib.hid (show R = (L, -1) by
          rw [HK.out.2.2, List.drop_eq_nil_of_le (by have := HLN.out; omega)]
          rfl)
        have cb := (cell_of_row wr _ 0 _ _ (0, 0) HX.out).trans (rfl : _ = some (Value.slice Av L.length mv))
        have cr := (cell_of_row wr _ 0 _ _ (0, 0) hrr).trans (rfl : _ = some (Value.slice none 0 0))
        have fr := frozen_of_row wr _ 0 _ _ hrr
        have hrlt : w.heap.size < wr.heap.size := by have := HZW.out; omega
        have hbxw := HBW.out.trans ((HB1.out.trans (HBR.out.mono hW1)).mono (by have := HZW.out; omega))
        obtain ⟨k0, k1, k2⟩ := copyP_end (w := w) (ps := L) (A := Av) (m := mv) (Nat.le_refl _) hrr rfl ((HR.out.done (by have := HK.out; unfold maxI; omega)).mono (λ _ _ => rfl) (λ q hq => ⟨by have := hq.1; have := HZW.out; omega, hq.2, by have := hq.1; have := HZW.out; omega⟩)) hbxw
        have HK1 := Lib.hid k1
        have HK2 := Lib.hid k2
        clear hrr hbw hbxw k1 k2
        go_wp2_with fail
        exact bodyPost_ret (v := .tuple #[.agg #[.slice Av L.length mv], .int .i64 (-1)]) (by simp [results, Tryz.results34, go_sem, k0]) rfl (by rw [HV.out]; exact ⟨_, _, rfl, HK1.out, HK2.out⟩)
  . obtain ⟨ls, hls⟩ : ∃ ls, ls = ps := ⟨_, rfl⟩
    have HLS := Lib.hid (show linesL s.data.toList = ls by rw [HLL.out, if_neg (by rw [hlastE]; exact hlast), hls])
    have hln : ls.length = n + 1 := by rw [hls, hN]
    have hget : ∀ k p, k < n + 1 -> ps[k]? = some p -> ls[k]? = some p := λ k p _ hp => by rw [hls]; exact hp
    have hem : ¬ (ByteArray.mk (ps[n]'(by omega)).toArray).toList = [] := by rw [ByteArray.toList_eq]; simpa using hlast
    have HGET := Lib.hid hget
    have HLN := Lib.hid hln
    obtain ⟨px, hpx⟩ : ∃ px : ByteArray, px = ⟨(ps[n]'(by omega)).toArray⟩ := ⟨_, rfl⟩
    rw [<- hpx] at hem
    have hem2 : px.toList.isEmpty = false := by simpa using hem
    have HPX := Lib.hid hpx
    clear hget hln hls hlast hlastE hpx
    go_enter Tryz.func34, Tryz.ntmps34
    go_wp2_with fail
    rw [<- HWE.out]
    refine HSP.out.mono ?_
    rintro e w1 ⟨v0, rfl, hown, hb1⟩
    obtain ⟨g, cp, rfl, hg, hc⟩ := strRow_at hown hn
    have hgW : W.heap.size <= g := by
      rcases hown.2 with ⟨e, _⟩ | ⟨g', cap, cur, e, h3, _⟩
      . cases e
      . cases e
        exact h3
    have hcap : ps.length <= cp := by
      rcases hown.2 with ⟨e, _⟩ | ⟨g', cap, cur, e, _, _, h4, _⟩
      . cases e
      . cases e
        exact h4
    have hcn := hc n (by omega)
    rw [<- HPX.out] at hcn
    have HC := Lib.hid hc
    have HB1 := Lib.hid hb1
    have hz1 := hb1.size
    have hrb := (hb1.block w.heap.size (by have := HZW.out; omega)).trans HRW.out
    have HRB1 := Lib.hid hrb
    clear hown hc hb1 hrb
    rw [hN]
    go_wp2_with fail
    obtain ⟨W2, hW2⟩ : ∃ W2, W2 = w1.alloc (.cells #[.slice none 0 0] 45) := ⟨_, rfl⟩
    rw [<- hW2]
    have hb12 : Below w1.heap.size w1 W2 := by rw [hW2]; exact (Below.refl _ _).alloc (Nat.le_refl _) _
    have hz2 : W2.heap.size = w1.heap.size + 1 := by rw [hW2]; simp
    have hbo : W2.heap[w1.heap.size]? = some (.cells #[.slice none 0 0] 45 (0, 0)) := by rw [hW2]; exact heap_alloc_new w1 _
    have HBO := Lib.hid hbo
    have HB2 := Lib.hid hb12
    have HZ2 := Lib.hid hz2
    have hW1 : W.heap.size <= w1.heap.size := hz1
    clear hW2 hb12 hbo hcn
    go_loopw [6] (λ i wr => ∃ (k : Nat) (L : List Cx) (v : Value) (xs : List Value), i = .int .i64 k /\ k <= n + 1 /\ Hid (L.length = k /\ k <= 6 /\ R = goP k L (ls.drop k)) /\ RowC (w1.heap.size + 1) wr v L xs /\ wr.heap[w1.heap.size]? = some (.cells #[v] 45 (0, 0)) /\ Below w1.heap.size W2 wr) (λ i _ => n + 1 - (intOf i).toNat)
    case atStart => exact ⟨0, [], _, [], rfl, Nat.zero_le _, Lib.hid ⟨rfl, by omega, by rw [HPP.out, HLS.out]; rfl⟩, RowC.start _ _ (by have := HZ2.out; omega), HBO.out, Below.refl _ _⟩
    case round =>
      obtain ⟨k, L, v, xs, rfl, hk, HK, hrow, hbox, hb⟩ := hrel
      obtain ⟨Av, mv, rfl⟩ := hrow.shape
      have HR := Lib.hid hrow
      have HX := Lib.hid hbox
      have HB := Lib.hid hb
      have hbw := HB2.out.trans hb
      have hzr : w1.heap.size + 1 <= wr.heap.size := by have := hb.size; have := HZ2.out; omega
      have HBR := Lib.hid hbw
      have hrr := (hbw.block w.heap.size (by have := HZW.out; omega)).trans HRB1.out
      have HRR := Lib.hid hrr
      clear hrow hbox hb
      by_cases hlt : k < n + 1
      . have hkp : k < ps.length := by omega
        have hcell := (hbw.cell (p := ⟨g, k, none⟩) hg).trans (HC.out k hkp)
        have HD := Lib.hid (goP_drop (HGET.out k ps[k] hlt (List.getElem?_eq_getElem hkp)))
        have HI := Lib.hid (HPC.out ps[k] (List.getElem_mem hkp) wr)
        have hk1 : (k : Int) < (((n + 1 : Nat)) : Int) := by omega
        obtain ⟨pk, hpk⟩ : ∃ pk : ByteArray, pk = ⟨(ps[k]).toArray⟩ := ⟨_, rfl⟩
        rw [<- hpk] at hcell HI
        clear hpk hbw hrr
        go_wp2_with fail
        refine HI.out.mono ?_
        rintro e w3 ⟨ok, c, hcp, hparsed⟩
        obtain ⟨A3, m3, B3, r3, rfl, ht3, hb3⟩ := hcp.shape
        have hpx := hparsed.px
        have HT3 := Lib.hid ht3
        have HB3 := Lib.hid hb3
        have hz3 := hb3.size
        clear hcp hparsed ht3 hb3 hcell
        have hrr3 := (HB3.out.block w.heap.size (by have := HZW.out; omega)).trans HRR.out
        have cr := (cell_of_row w3 _ 0 _ _ (0, 0) hrr3).trans (rfl : _ = some (Value.slice none 0 0))
        have fr := frozen_of_row w3 _ 0 _ _ hrr3
        have hrlt : w.heap.size < w3.heap.size := by have := HZW.out; omega
        have hrne : w.heap.size ≠ w3.heap.size := by omega
        have HRR3 := Lib.hid hrr3
        have HBw3 : Hid (Below w.heap.size w w3) := Lib.hid (HBW.out.trans ((HB1.out.trans ((HBR.out.trans (HB3.out.mono (by omega))).mono hW1)).mono (by have := HZW.out; omega)))
        clear hrr3
        have hfail : ∀ (hv : R = ([], (k : Int))), CopyPI R.1 R.2 w (.returned (.tuple #[.agg #[.slice none 0 0], .int .i64 k])) ((w3.setCell ⟨w.heap.size, 0, none⟩ (.slice none 0 0)).alloc (.cells #[.int .i64 c.k, .string c.l, .string c.r, .int .i64 c.xk, .string c.xl, .slice A3 c.xa.items.length m3, .slice B3 c.cs.length r3, .int .i64 c.b] 29)) := λ hv => by
          rw [hv]
          exact ⟨none, 0, rfl, PrT.none _ _ _ _, (HBw3.out.setCell (p := ⟨w.heap.size, 0, none⟩) (Nat.le_refl _) _).alloc (by simp [World.setCell]; omega) _⟩
        have HFAIL := Lib.hid hfail
        clear hfail
        cases ok with
        | false =>
          have HV := Lib.hid (show R = ([], (k : Int)) by rw [HK.out.2.2, HD.out, goP_none (by rw [hpx]; rfl)])
          clear hpx
          go_wp2_with fail
          exact bodyPost_ret (v := .tuple #[.agg #[.slice none 0 0], .int .i64 k]) (by simp [results, Tryz.results34, go_sem, cr, hrlt]) rfl (HFAIL.out HV.out)
        | true =>
          by_cases h6 : 6 <= k
          . have HV := Lib.hid (show R = ([], (k : Int)) by rw [HK.out.2.2, HD.out, goP_full h6])
            have h6i : (6 : Int) <= k := by omega
            clear hpx
            go_wp2_with fail
            exact bodyPost_ret (v := .tuple #[.agg #[.slice none 0 0], .int .i64 k]) (by simp [results, Tryz.results34, go_sem, cr, hrlt]) rfl (HFAIL.out HV.out)
          . have h6i : ¬ ((6 : Int) <= k) := by omega
            have HV := Lib.hid (show R = goP (k + 1) (L ++ [c]) (ls.drop (k + 1)) by rw [HK.out.2.2, HD.out, goP_some (c := c) (by rw [hpx]; rfl) (by omega)])
            have hbox3 := (HB3.out.block w1.heap.size (by omega)).trans HX.out
            have cb := (cell_of_row w3 _ 0 _ _ (0, 0) hbox3).trans (rfl : _ = some (Value.slice Av L.length mv))
            have HBOX3 := Lib.hid hbox3
            have HR3 := Lib.hid (HR.out.below HB3.out)
            have hL6 : L.length <= 6 := by have := HK.out; omega
            have hbne : w1.heap.size ≠ w3.heap.size := by omega
            have hblt : w1.heap.size < w3.heap.size := by omega
            clear hpx hbox3 fr cr
            go_wp2_with (at_builtin; refine wpList_append_own_at _ rfl (.tmp 47) (.tmp 49) 43 rfl (w1.heap.size + 1) 29 r0 _ 8 120 Tryz.underlying43 hr0 hrz hrs hrb rfl (by decide) _ _ _ rfl ((HR3.out.own.alloc _).alloc _) ⟨w3.heap.size + 1, 0, none⟩ 1 1 (cxA c (.slice A3 c.xa.items.length m3) (.slice B3 c.cs.length r3)).toList (by first | rfl | simp) rfl (new_eight_at (by simp) c _ _ _) (cx_one c _ _ _ _ _ _) (by unfold maxLen; omega) (by omega) (by simp; omega) ?_)
            intro v' w7 hown' hgrow hnil hat
            obtain ⟨g7, c7, hv7⟩ : ∃ g cap, v' = .slice (some ⟨g, 0, none⟩) (L.length + 1) cap := by
              rcases hown'.2 with ⟨_, h0⟩ | ⟨g, cap, _, rfl, _⟩
              . omega
              . exact ⟨g, cap, rfl⟩
            subst hv7
            have hrowne : ∀ q, q < w1.heap.size + 1 -> (Value.slice Av L.length mv).ownBlock ≠ some q := λ q hq e => by
              have := (HR3.out.own.lt q e).1
              omega
            have hz7 : w3.heap.size <= w7.heap.size := by have := hgrow.size; simp at this; omega
            have hkeep : ∀ q, q < w3.heap.size -> (Value.slice Av L.length mv).ownBlock ≠ some q -> w7.heap[q]? = w3.heap[q]? := λ q hq hne => by
              rw [hgrow.block q (by simp; omega) (λ e => hne e.symm), Below.heap_alloc _ _ _ (by simp; omega), Below.heap_alloc _ _ _ hq]
            have hst := HR.out.step (by omega) HB3.out HT3.out hown' hz7 hkeep (hat.imp id (λ e => ⟨_, e, by first | omega | (simp; omega)⟩))
            have hbox7 := (hkeep w1.heap.size (by omega) (hrowne _ (by omega))).trans HBOX3.out
            have cb7 := (cell_of_row w7 _ 0 _ _ (0, 0) hbox7).trans (rfl : _ = some (Value.slice Av L.length mv))
            have fb7 := frozen_of_row w7 _ 0 _ _ hbox7
            have HST := Lib.hid (hst.same (w' := w7.setCell ⟨w1.heap.size, 0, none⟩ (.slice (some ⟨g7, 0, none⟩) (L.length + 1) c7)) (λ q hq _ => Below.heap_setCell _ _ _ q (by simp; omega)) (by simp [World.setCell]))
            have HBX := Lib.hid (show (w7.setCell ⟨w1.heap.size, 0, none⟩ (.slice (some ⟨g7, 0, none⟩) (L.length + 1) c7)).heap[w1.heap.size]? = some (.cells #[.slice (some ⟨g7, 0, none⟩) (L.length + 1) c7] 45 (0, 0)) by
              have := heap_setCell_same w7 w1.heap.size 0 _ _ (.slice (some ⟨g7, 0, none⟩) (L.length + 1) c7) hbox7
              simpa using this)
            have HBN := Lib.hid (((((HB.out.trans (HB3.out.mono (by omega))).alloc (by omega) _).alloc (by simp; omega) _).grown hgrow (by simp; omega) (λ q hq => by have := (HR3.out.own.lt q hq).1; omega)).setCell (p := ⟨w1.heap.size, 0, none⟩) (Nat.le_refl _) (.slice (some ⟨g7, 0, none⟩) (L.length + 1) c7))
            clear hown' hgrow hnil hat hrowne hkeep hst hbox7 cb
            go_wp2_with fail
            go_roundw
            case rel => exact ⟨k + 1, L ++ [c], _, _, by go_num, by omega, Lib.hid ⟨by rw [List.length_append, HK.out.1]; rfl, by omega, HV.out⟩, by simpa using HST.out, HBX.out, HBN.out⟩
            case measure => simp [intOf]; omega
      . have hd : ¬ ((k : Int) < (((n + 1 : Nat)) : Int)) := by omega
        have HV := Lib.hid (show R = (L, -1) by
          rw [HK.out.2.2, List.drop_eq_nil_of_le (by have := HLN.out; omega)]
          rfl)
        have cb := (cell_of_row wr _ 0 _ _ (0, 0) HX.out).trans (rfl : _ = some (Value.slice Av L.length mv))
        have cr := (cell_of_row wr _ 0 _ _ (0, 0) hrr).trans (rfl : _ = some (Value.slice none 0 0))
        have fr := frozen_of_row wr _ 0 _ _ hrr
        have hrlt : w.heap.size < wr.heap.size := by have := HZW.out; omega
        have hbxw := HBW.out.trans ((HB1.out.trans (HBR.out.mono hW1)).mono (by have := HZW.out; omega))
        obtain ⟨k0, k1, k2⟩ := copyP_end (w := w) (ps := L) (A := Av) (m := mv) (Nat.le_refl _) hrr rfl ((HR.out.done (by have := HK.out; unfold maxI; omega)).mono (λ _ _ => rfl) (λ q hq => ⟨by have := hq.1; have := HZW.out; omega, hq.2, by have := hq.1; have := HZW.out; omega⟩)) hbxw
        have HK1 := Lib.hid k1
        have HK2 := Lib.hid k2
        clear hrr hbw hbxw k1 k2
        go_wp2_with fail
        exact bodyPost_ret (v := .tuple #[.agg #[.slice Av L.length mv], .int .i64 (-1)]) (by simp [results, Tryz.results34, go_sem, k0]) rfl (by rw [HV.out]; exact ⟨_, _, rfl, HK1.out, HK2.out⟩)
end Go.Proofs.YtppliiingoonlaaGreatDoor
