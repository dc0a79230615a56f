/-
  Texts of one proof, one behind the other.
-/
import Derived.Test.YtppliiingoonlaaGreatDoorShelf
import Derived.Test.YtppliiingoonlaaGreatDoorRows
import Derived.WalkKit
import Derived.Deep.RegionWith
import Derived.Deep.QuietTactic
import Derived.BigQuiet
import Derived.RegionTactic
import Derived.Shelf.Abstract
import Derived.Outline
import Derived.Test.YtppliiingoonlaaGreatDoorQaP1
import Derived.Test.YtppliiingoonlaaGreatDoorQaP2
import Derived.Test.YtppliiingoonlaaGreatDoorQaP6
import Derived.Test.YtppliiingoonlaaGreatDoorQaP8
import Derived.Test.YtppliiingoonlaaGreatDoorQaP9
import Derived.Test.YtppliiingoonlaaGreatDoorQaP10
import Derived.Test.YtppliiingoonlaaGreatDoorQaP13

/-
  What spec.IsModel answers.
-/
namespace Go.Proofs.YtppliiingoonlaaGreatDoor
open Go.RowKit

theorem bsz_nil {s : ByteArray} (h : s.size = 0) : s = ⟨#[]⟩ := by
  apply ByteArray.ext
  exact Array.eq_empty_of_size_eq_zero h
/-- The word of the j-th variable may be as it is. -/
def okIn (names : List UInt8) (x y z : ByteArray) (j : Nat) : Bool :=
  if j = 0 then names.contains 88 || decide (x.size = 0) else if j = 1 then names.contains 89 || decide (y.size = 0) else names.contains 90 || decide (z.size = 0)
theorem onlyIn_ok (names : List UInt8) (x y z : ByteArray) : onlyIn names x y z = (okIn names x y z 0 && (okIn names x y z 1 && okIn names x y z 2)) := rfl
theorem isV_of {ps : List Cx} {x y z : ByteArray} (ha : ps.all (fun c => holdsFor c x y z) = true) (ho : onlyIn (varsP ps) x y z = true) : isV x y z = true := by
  cases ps with
  | nil =>
    have h0 : varsP [] = [] := rfl
    rw [h0] at ho
    simp only [onlyIn, List.contains_nil, Bool.false_or, Bool.and_eq_true, decide_eq_true_eq] at ho
    obtain ⟨h1, h2, h3⟩ := ho
    rw [bsz_nil h1, bsz_nil h2, bsz_nil h3]
    rfl
  | cons c r =>
    have h1 := List.all_eq_true.1 ha c (by simp)
    unfold holdsFor at h1
    simp only [Bool.and_eq_true] at h1
    exact h1.2.1
theorem cnt_contains (l : List UInt8) (b : UInt8) : ((cntL l b : Int) == 0) = !l.contains b := by
  rw [← cntL_contains]
  by_cases h : cntL l b = 0
  · rw [h]; rfl
  · have h1 : decide (0 < cntL l b) = true := by simp; omega
    rw [h1]
    simp
    omega
theorem model_no {ps : List Cx} {x y z : ByteArray} (h : onlyIn (varsP ps) x y z = false) : isModelP ps x y z = false := by
  unfold isModelP
  rw [h]
  simp
theorem model_no2 {ps : List Cx} {x y z : ByteArray} (h : ps.all (fun c => holdsFor c x y z) = false) : isModelP ps x y z = false := by
  unfold isModelP
  rw [h]
  simp
/-- A box that holds values: three cells. -/
def BoxV (w : World) (g : Nat) (x y z : ByteArray) : Prop := ∃ t, w.heap[g]? = some (.cells #[.string x, .string y, .string z] t (0, 0))
theorem BoxV.cells {w : World} {g : Nat} {x y z : ByteArray} (h : BoxV w g x y z) : w.cell? ⟨g, 0, none⟩ = some (.string x) ∧ w.cell? ⟨g, 1, none⟩ = some (.string y) ∧ w.cell? ⟨g, 2, none⟩ = some (.string z) := by
  obtain ⟨t, h⟩ := h
  have k := fun j => cell_of_row w g j _ t (0, 0) h
  exact ⟨(k 0).trans rfl, (k 1).trans rfl, (k 2).trans rfl⟩
theorem BoxV.lt {w : World} {g : Nat} {x y z : ByteArray} (h : BoxV w g x y z) : g < w.heap.size := by
  obtain ⟨t, h⟩ := h
  exact (Array.getElem?_eq_some_iff.1 h).1
theorem BoxV.kept {w w' : World} {g : Nat} {x y z : ByteArray} (h : BoxV w g x y z) (hb : Below w.heap.size w w') : BoxV w' g x y z := by
  have hl := h.lt
  obtain ⟨t, h⟩ := h
  exact ⟨t, (hb.block g hl).trans h⟩

set_option maxRecDepth 100000 in
set_option maxHeartbeats 6400000 in
theorem specModel_any (ps : List Cx) (v : Value) (x y z : ByteArray) (w : World) (h : PrO w v ps) (hsz : ∀ c ∈ ps, c.xa.size ≤ 2097152) (hx : x.size ≤ maxLen) (hy : y.size ≤ maxLen) (hz : z.size ≤ maxLen) :
    Calls Tryz.prog 45 #[.agg #[v], .agg #[.string x, .string y, .string z]] w fun e w' => e = .returned (.bool (isModelP ps x y z)) ∧ Below w.heap.size w w' := by
  obtain ⟨hl, A, m, rfl⟩ := h.shape
  unfold maxI at hl
  obtain ⟨W1, hW1⟩ : ∃ W1, W1 = w.alloc (.cells #[.slice A ps.length m] 45) := ⟨_, rfl⟩
  obtain ⟨W, hW⟩ : ∃ W, W = W1.alloc (.cells #[.string x, .string y, .string z] 38) := ⟨_, rfl⟩
  have hb1 : Below w.heap.size w W1 := by rw [hW1]; exact (Below.refl _ _).alloc (Nat.le_refl _) _
  have hb12 : Below W1.heap.size W1 W := by rw [hW]; exact (Below.refl _ _).alloc (Nat.le_refl _) _
  have hz1 : W1.heap.size = w.heap.size + 1 := by rw [hW1]; simp
  have hb0 := hb1.trans (hb12.mono hb1.size)
  have hbx : BoxP W w.heap.size (.slice A ps.length m) := BoxP.kept (by rw [hW1]; exact boxP_new w _ _) hb12
  have hbv : BoxV W (w.heap.size + 1) x y z := by rw [hW, ← hz1]; exact ⟨_, heap_alloc_new W1 _⟩
  rw [hW1] at hW
  have HWE := Lib.hid hW
  have HB0 := Lib.hid hb0
  have HBX := Lib.hid (fun (V : World) (hb : Below W.heap.size W V) => (hbx.kept hb).cell)
  have HBV := Lib.hid (fun (V : World) (hb : Below W.heap.size W V) => (hbv.kept hb).cells)
  have HE := Lib.hid (fun (V : World) (hb : Below W.heap.size W V) (j : Nat) (hj : j < ps.length) => PrR.at ((h.kept hb0).kept hb) hj)
  have HVP := Lib.hid (fun (V : World) (hb : Below W.heap.size W V) => specVP_any ps _ V ((h.kept hb0).kept hb) hsz)
  have HVV := Lib.hid (fun (V : World) (hb : Below W.heap.size W V) => specVarsP_any ps _ V ((h.kept hb0).kept hb) hsz)
  have HIV := Lib.hid (fun (V : World) => specIsV_any x y z V hx hy hz)
  have HV88 : Hid (∀ V : World, Calls Tryz.prog 90 #[.agg #[.string x, .string y, .string z], .int .u8 (((({ data := #[88, 89, 90] } : ByteArray)[0]'(by decide)).toNat : Nat) : Int)] V fun e w' => e = .returned (.string x) ∧ Below V.heap.size V w') := Lib.hid (fun V => specVal_any x y z 88 V)
  have HV89 : Hid (∀ V : World, Calls Tryz.prog 90 #[.agg #[.string x, .string y, .string z], .int .u8 (((({ data := #[88, 89, 90] } : ByteArray)[1]'(by decide)).toNat : Nat) : Int)] V fun e w' => e = .returned (.string y) ∧ Below V.heap.size V w') := Lib.hid (fun V => specVal_any x y z 89 V)
  have HV90 : Hid (∀ V : World, Calls Tryz.prog 90 #[.agg #[.string x, .string y, .string z], .int .u8 (((({ data := #[88, 89, 90] } : ByteArray)[2]'(by decide)).toNat : Nat) : Int)] V fun e w' => e = .returned (.string z) ∧ Below V.heap.size V w') := Lib.hid (fun V => specVal_any x y z 90 V)
  obtain ⟨nm, hnm⟩ : ∃ nm, nm = strL (varsP ps) := ⟨_, rfl⟩
  have hns : nm.size ≤ maxLen := by
    rw [hnm, strL_size]
    unfold varsP
    split
    · exact Nat.le_trans (List.length_filter_le _ _) (by decide)
    · simp
  have HNM := Lib.hid (show nm.data.toList = varsP ps by rw [hnm, strL_list])
  rw [← hnm] at HVV
  have HC88 : Hid (∀ V : World, Calls Tryz.prog 89 #[.string nm, .int .u8 (((({ data := #[88, 89, 90] } : ByteArray)[0]'(by decide)).toNat : Nat) : Int)] V fun e w' => e = .returned (.int .i64 (cntL nm.data.toList 88)) ∧ V = w') := Lib.hid (fun V => specCnt_any nm 88 V hns)
  have HC89 : Hid (∀ V : World, Calls Tryz.prog 89 #[.string nm, .int .u8 (((({ data := #[88, 89, 90] } : ByteArray)[1]'(by decide)).toNat : Nat) : Int)] V fun e w' => e = .returned (.int .i64 (cntL nm.data.toList 89)) ∧ V = w') := Lib.hid (fun V => specCnt_any nm 89 V hns)
  have HC90 : Hid (∀ V : World, Calls Tryz.prog 89 #[.string nm, .int .u8 (((({ data := #[88, 89, 90] } : ByteArray)[2]'(by decide)).toNat : Nat) : Int)] V fun e w' => e = .returned (.int .i64 (cntL nm.data.toList 90)) ∧ V = w') := Lib.hid (fun V => specCnt_any nm 90 V hns)
  have HHF := Lib.hid (fun (V : World) (c : Cx) (xu vc : Value) (hc : CnO V xu vc c) (hm : c ∈ ps) => specHoldsFor_any c xu vc x y z V hc (hsz c hm) hx hy hz)
  have HM := Lib.hid (fun (h : onlyIn nm.data.toList x y z = false) => model_no (ps := ps) (x := x) (y := y) (z := z) (by rw [← HNM.out]; exact h))
  clear hW1 hb1 hb12 hz1 hW hbx hbv h hsz hb0 hx hy hz hnm hns
  go_enter Tryz.func45, Tryz.ntmps45
  have hbc := HBX.out W (Below.refl _ _)
  rw [HWE.out] at hbc
  go_wp2_with fail
  rw [← HWE.out]
  refine (HVV.out W (Below.refl _ _)).mono ?_
  rintro e w1 ⟨rfl, hb1⟩
  have HB1 := Lib.hid hb1
  clear hb1 hbc
  go_wp2_with fail
  go_loopw [6] (fun i wr => ∃ j : Nat, (i = .int .i64 0 ∧ j = 0 ∨ i = .int .i64 1 ∧ j = 1 ∨ i = .int .i64 2 ∧ j = 2 ∨ i = .int .i64 3 ∧ j = 3) ∧ Hid (∀ q, q < j → okIn nm.data.toList x y z q = true) ∧ Below W.heap.size W wr) (fun i _ => 3 - (intOf i).toNat)
  case atStart => exact ⟨0, Or.inl ⟨rfl, rfl⟩, Lib.hid (fun q h => absurd h (Nat.not_lt_zero q)), HB1.out⟩
  case round =>
    obtain ⟨j, hij, HQ, hb⟩ := hrel
    have HB := Lib.hid hb
    obtain ⟨d0, d1, d2⟩ := HBV.out wr hb
    clear hb
    rcases hij with ⟨rfl, rfl⟩ | ⟨rfl, rfl⟩ | ⟨rfl, rfl⟩ | ⟨rfl, rfl⟩
    · have HCU := Lib.hid (fun (m : UpW wr) => up_call (W := wr) (n := m) ((HC88.out m.w).mono fun _ w' ⟨he, hw⟩ => ⟨he, by rw [← hw]; exact Below.refl _ _⟩))
      have HVU := Lib.hid (fun (m : UpW wr) => up_call (W := wr) (n := m) (HV88.out m.w))
      have k1 := fun (m : UpW wr) => (HBV.out m.w (HB.out.trans (m.up.mono HB.out.size))).1
      have k2 := fun (m : UpW wr) => (HBV.out m.w (HB.out.trans (m.up.mono HB.out.size))).2.1
      have k3 := fun (m : UpW wr) => (HBV.out m.w (HB.out.trans (m.up.mono HB.out.size))).2.2
      have hcb := cnt_contains nm.data.toList 88
      obtain ⟨n0, hn0⟩ : ∃ n0 : Int, n0 = (cntL nm.data.toList 88 : Int) := ⟨_, rfl⟩
      rw [← hn0] at HCU hcb
      clear hn0 d0 d1 d2
      cases hct : nm.data.toList.contains 88 with
      | true =>
        rw [hct] at hcb
        have hcb' : (n0 == 0) = false := hcb
        have HOK := Lib.hid (show okIn nm.data.toList x y z 0 = true by simp only [okIn]; rw [hct]; rfl)
        have HQ2 : Hid (∀ q, q < 1 → okIn nm.data.toList x y z q = true) := Lib.hid (fun q hq => by
          rcases Nat.lt_or_eq_of_le (Nat.le_of_lt_succ hq) with h | h
          · exact HQ.out q h
          · rw [h]
            exact HOK.out)
        clear hct hcb HQ HOK
        go_wp2_with fail
        refine wp_region_up (by kernel_rfl) (by kernel_rfl) ?_
        repeat (go_big_quiet_step ((first | with_reducible exact HCU.out _ | with_reducible exact HVU.out _)))
        refine wpQuiet_nil ?_
        rintro _ ⟨⟨wd, hbw⟩, rfl⟩
        have HBd := Lib.hid (HB.out.trans (hbw.mono HB.out.size))
        clear hbw k1 k2 k3
        go_wp2_with fail
        go_roundw
        case rel => exact ⟨1, Or.inr (Or.inl ⟨rfl, rfl⟩), HQ2, HBd.out⟩
        case measure => simp [intOf]
      | false =>
        rw [hct] at hcb
        have hcb' : (n0 == 0) = true := hcb
        by_cases h0 : x.size = 0
        · have h0' := bytes_nil h0
          have HOK := Lib.hid (show okIn nm.data.toList x y z 0 = true by simp [okIn, h0])
          have HQ2 : Hid (∀ q, q < 1 → okIn nm.data.toList x y z q = true) := Lib.hid (fun q hq => by
            rcases Nat.lt_or_eq_of_le (Nat.le_of_lt_succ hq) with h | h
            · exact HQ.out q h
            · rw [h]
              exact HOK.out)
          clear hct hcb HQ HOK h0
          go_wp2_with fail
          refine wp_region_up (by kernel_rfl) (by kernel_rfl) ?_
          repeat (go_big_quiet_step ((first | with_reducible exact HCU.out _ | with_reducible exact HVU.out _)))
          refine wpQuiet_nil ?_
          rintro _ ⟨⟨wd, hbw⟩, rfl⟩
          have HBd := Lib.hid (HB.out.trans (hbw.mono HB.out.size))
          clear hbw k1 k2 k3
          go_wp2_with fail
          go_roundw
          case rel => exact ⟨1, Or.inr (Or.inl ⟨rfl, rfl⟩), HQ2, HBd.out⟩
          case measure => simp [intOf]
        · have h0' := bytes_some h0
          have e2 : x.toList.isEmpty = false := by simpa using h0'
          have HR := Lib.hid (HM.out (by rw [onlyIn_ok, show okIn nm.data.toList x y z 0 = false by simp only [okIn]; rw [hct]; simpa using h0]; simp))
          clear hct hcb HQ h0
          go_wp2_with fail
          refine wp_region_up (by kernel_rfl) (by kernel_rfl) ?_
          repeat (go_big_quiet_step ((first | with_reducible exact HCU.out _ | with_reducible exact HVU.out _)))
          refine wpQuiet_nil ?_
          rintro _ ⟨⟨wd, hbw⟩, rfl⟩
          have HBd := Lib.hid (HB.out.trans (hbw.mono HB.out.size))
          clear hbw k1 k2 k3
          go_wp2_with fail
          go_ret
          exact ⟨by rw [HR.out]; rfl, HB0.out.trans (HBd.out.mono HB0.out.size)⟩
    · have HCU := Lib.hid (fun (m : UpW wr) => up_call (W := wr) (n := m) ((HC89.out m.w).mono fun _ w' ⟨he, hw⟩ => ⟨he, by rw [← hw]; exact Below.refl _ _⟩))
      have HVU := Lib.hid (fun (m : UpW wr) => up_call (W := wr) (n := m) (HV89.out m.w))
      have k1 := fun (m : UpW wr) => (HBV.out m.w (HB.out.trans (m.up.mono HB.out.size))).1
      have k2 := fun (m : UpW wr) => (HBV.out m.w (HB.out.trans (m.up.mono HB.out.size))).2.1
      have k3 := fun (m : UpW wr) => (HBV.out m.w (HB.out.trans (m.up.mono HB.out.size))).2.2
      have hcb := cnt_contains nm.data.toList 89
      obtain ⟨n0, hn0⟩ : ∃ n0 : Int, n0 = (cntL nm.data.toList 89 : Int) := ⟨_, rfl⟩
      rw [← hn0] at HCU hcb
      clear hn0 d0 d1 d2
      cases hct : nm.data.toList.contains 89 with
      | true =>
        rw [hct] at hcb
        have hcb' : (n0 == 0) = false := hcb
        have HOK := Lib.hid (show okIn nm.data.toList x y z 1 = true by simp only [okIn]; rw [hct]; rfl)
        have HQ2 : Hid (∀ q, q < 2 → okIn nm.data.toList x y z q = true) := Lib.hid (fun q hq => by
          rcases Nat.lt_or_eq_of_le (Nat.le_of_lt_succ hq) with h | h
          · exact HQ.out q h
          · rw [h]
            exact HOK.out)
        clear hct hcb HQ HOK
        go_wp2_with fail
        refine wp_region_up (by kernel_rfl) (by kernel_rfl) ?_
        repeat (go_big_quiet_step ((first | with_reducible exact HCU.out _ | with_reducible exact HVU.out _)))
        refine wpQuiet_nil ?_
        rintro _ ⟨⟨wd, hbw⟩, rfl⟩
        have HBd := Lib.hid (HB.out.trans (hbw.mono HB.out.size))
        clear hbw k1 k2 k3
        go_wp2_with fail
        go_roundw
        case rel => exact ⟨2, Or.inr (Or.inr (Or.inl ⟨rfl, rfl⟩)), HQ2, HBd.out⟩
        case measure => simp [intOf]
      | false =>
        rw [hct] at hcb
        have hcb' : (n0 == 0) = true := hcb
        by_cases h0 : y.size = 0
        · have h0' := bytes_nil h0
          have HOK := Lib.hid (show okIn nm.data.toList x y z 1 = true by simp [okIn, h0])
          have HQ2 : Hid (∀ q, q < 2 → okIn nm.data.toList x y z q = true) := Lib.hid (fun q hq => by
            rcases Nat.lt_or_eq_of_le (Nat.le_of_lt_succ hq) with h | h
            · exact HQ.out q h
            · rw [h]
              exact HOK.out)
          clear hct hcb HQ HOK h0
          go_wp2_with fail
          refine wp_region_up (by kernel_rfl) (by kernel_rfl) ?_
          repeat (go_big_quiet_step ((first | with_reducible exact HCU.out _ | with_reducible exact HVU.out _)))
          refine wpQuiet_nil ?_
          rintro _ ⟨⟨wd, hbw⟩, rfl⟩
          have HBd := Lib.hid (HB.out.trans (hbw.mono HB.out.size))
          clear hbw k1 k2 k3
          go_wp2_with fail
          go_roundw
          case rel => exact ⟨2, Or.inr (Or.inr (Or.inl ⟨rfl, rfl⟩)), HQ2, HBd.out⟩
          case measure => simp [intOf]
        · have h0' := bytes_some h0
          have e2 : y.toList.isEmpty = false := by simpa using h0'
          have HR := Lib.hid (HM.out (by rw [onlyIn_ok, show okIn nm.data.toList x y z 1 = false by simp only [okIn]; rw [hct]; simpa using h0]; simp))
          clear hct hcb HQ h0
          go_wp2_with fail
          refine wp_region_up (by kernel_rfl) (by kernel_rfl) ?_
          repeat (go_big_quiet_step ((first | with_reducible exact HCU.out _ | with_reducible exact HVU.out _)))
          refine wpQuiet_nil ?_
          rintro _ ⟨⟨wd, hbw⟩, rfl⟩
          have HBd := Lib.hid (HB.out.trans (hbw.mono HB.out.size))
          clear hbw k1 k2 k3
          go_wp2_with fail
          go_ret
          exact ⟨by rw [HR.out]; rfl, HB0.out.trans (HBd.out.mono HB0.out.size)⟩
    · have HCU := Lib.hid (fun (m : UpW wr) => up_call (W := wr) (n := m) ((HC90.out m.w).mono fun _ w' ⟨he, hw⟩ => ⟨he, by rw [← hw]; exact Below.refl _ _⟩))
      have HVU := Lib.hid (fun (m : UpW wr) => up_call (W := wr) (n := m) (HV90.out m.w))
      have k1 := fun (m : UpW wr) => (HBV.out m.w (HB.out.trans (m.up.mono HB.out.size))).1
      have k2 := fun (m : UpW wr) => (HBV.out m.w (HB.out.trans (m.up.mono HB.out.size))).2.1
      have k3 := fun (m : UpW wr) => (HBV.out m.w (HB.out.trans (m.up.mono HB.out.size))).2.2
      have hcb := cnt_contains nm.data.toList 90
      obtain ⟨n0, hn0⟩ : ∃ n0 : Int, n0 = (cntL nm.data.toList 90 : Int) := ⟨_, rfl⟩
      rw [← hn0] at HCU hcb
      clear hn0 d0 d1 d2
      cases hct : nm.data.toList.contains 90 with
      | true =>
        rw [hct] at hcb
        have hcb' : (n0 == 0) = false := hcb
        have HOK := Lib.hid (show okIn nm.data.toList x y z 2 = true by simp only [okIn]; rw [hct]; rfl)
        have HQ2 : Hid (∀ q, q < 3 → okIn nm.data.toList x y z q = true) := Lib.hid (fun q hq => by
          rcases Nat.lt_or_eq_of_le (Nat.le_of_lt_succ hq) with h | h
          · exact HQ.out q h
          · rw [h]
            exact HOK.out)
        clear hct hcb HQ HOK
        go_wp2_with fail
        refine wp_region_up (by kernel_rfl) (by kernel_rfl) ?_
        repeat (go_big_quiet_step ((first | with_reducible exact HCU.out _ | with_reducible exact HVU.out _)))
        refine wpQuiet_nil ?_
        rintro _ ⟨⟨wd, hbw⟩, rfl⟩
        have HBd := Lib.hid (HB.out.trans (hbw.mono HB.out.size))
        clear hbw k1 k2 k3
        go_wp2_with fail
        go_roundw
        case rel => exact ⟨3, Or.inr (Or.inr (Or.inr ⟨rfl, rfl⟩)), HQ2, HBd.out⟩
        case measure => simp [intOf]
      | false =>
        rw [hct] at hcb
        have hcb' : (n0 == 0) = true := hcb
        by_cases h0 : z.size = 0
        · have h0' := bytes_nil h0
          have HOK := Lib.hid (show okIn nm.data.toList x y z 2 = true by simp [okIn, h0])
          have HQ2 : Hid (∀ q, q < 3 → okIn nm.data.toList x y z q = true) := Lib.hid (fun q hq => by
            rcases Nat.lt_or_eq_of_le (Nat.le_of_lt_succ hq) with h | h
            · exact HQ.out q h
            · rw [h]
              exact HOK.out)
          clear hct hcb HQ HOK h0
          go_wp2_with fail
          refine wp_region_up (by kernel_rfl) (by kernel_rfl) ?_
          repeat (go_big_quiet_step ((first | with_reducible exact HCU.out _ | with_reducible exact HVU.out _)))
          refine wpQuiet_nil ?_
          rintro _ ⟨⟨wd, hbw⟩, rfl⟩
          have HBd := Lib.hid (HB.out.trans (hbw.mono HB.out.size))
          clear hbw k1 k2 k3
          go_wp2_with fail
          go_roundw
          case rel => exact ⟨3, Or.inr (Or.inr (Or.inr ⟨rfl, rfl⟩)), HQ2, HBd.out⟩
          case measure => simp [intOf]
        · have h0' := bytes_some h0
          have e2 : z.toList.isEmpty = false := by simpa using h0'
          have HR := Lib.hid (HM.out (by rw [onlyIn_ok, show okIn nm.data.toList x y z 2 = false by simp only [okIn]; rw [hct]; simpa using h0]; simp))
          clear hct hcb HQ h0
          go_wp2_with fail
          refine wp_region_up (by kernel_rfl) (by kernel_rfl) ?_
          repeat (go_big_quiet_step ((first | with_reducible exact HCU.out _ | with_reducible exact HVU.out _)))
          refine wpQuiet_nil ?_
          rintro _ ⟨⟨wd, hbw⟩, rfl⟩
          have HBd := Lib.hid (HB.out.trans (hbw.mono HB.out.size))
          clear hbw k1 k2 k3
          go_wp2_with fail
          go_ret
          exact ⟨by rw [HR.out]; rfl, HB0.out.trans (HBd.out.mono HB0.out.size)⟩
    · have HON := Lib.hid (show onlyIn nm.data.toList x y z = true by rw [onlyIn_ok, HQ.out 0 (by omega), HQ.out 1 (by omega), HQ.out 2 (by omega)]; rfl)
      clear HQ d0 d1 d2
      go_wp2_with fail
      go_loopw [7] (fun i wr => ∃ j : Nat, i = .int .i64 j ∧ j ≤ ps.length ∧ Hid ((ps.take j).all (fun c => holdsFor c x y z) = true) ∧ Below W.heap.size W wr) (fun i _ => ps.length - (intOf i).toNat)
      case atStart => exact ⟨0, rfl, Nat.zero_le _, Lib.hid rfl, HB.out⟩
      case round =>
        obtain ⟨j, rfl, hj, HA, hb⟩ := hrel
        have HB2 := Lib.hid hb
        have hbc := HBX.out _ hb
        by_cases hlt : j < ps.length
        · obtain ⟨g, o, rfl, c, xu, vc, hx, ha, hc⟩ := HE.out _ hb j hlt
          obtain ⟨A1, m1, B1, r1, rfl, rfl⟩ := hc.shape
          have hlt' : (j : Int) < ps.length := by omega
          have hj0 : (0 : Int) ≤ j := by omega
          have hcm := List.mem_of_getElem? hx
          have HX := Lib.hid hx
          have HHU := Lib.hid (fun (m : UpW wr) => up_call (W := wr) (n := m) (HHF.out m.w c _ _ (hc.kept m.up) hcm))
          have q := fun (m : UpW wr) => (ha.below m.up ha.lt : CxAt m.w g (o + j * 8) c _ _)
          have k0 := fun (m : UpW wr) => (q m).1
          have k1 := fun (m : UpW wr) => (q m).2.1
          have k2 := fun (m : UpW wr) => (q m).2.2.1
          have k3 := fun (m : UpW wr) => (q m).2.2.2.1
          have k4 := fun (m : UpW wr) => (q m).2.2.2.2.1
          have k5 := fun (m : UpW wr) => (q m).2.2.2.2.2.1
          have k6 := fun (m : UpW wr) => (q m).2.2.2.2.2.2.1
          have k7 := fun (m : UpW wr) => (q m).2.2.2.2.2.2.2
          have kb := fun (m : UpW wr) => HBX.out m.w (HB2.out.trans (m.up.mono HB2.out.size))
          have d0 := fun (m : UpW wr) => (HBV.out m.w (HB2.out.trans (m.up.mono HB2.out.size))).1
          have d1 := fun (m : UpW wr) => (HBV.out m.w (HB2.out.trans (m.up.mono HB2.out.size))).2.1
          have d2 := fun (m : UpW wr) => (HBV.out m.w (HB2.out.trans (m.up.mono HB2.out.size))).2.2
          clear q ha hc hx hb hcm
          cases hh : holdsFor c x y z with
          | true =>
            rw [hh] at HHU
            have HN := Lib.hid (take_all_step (fun c => holdsFor c x y z) HX.out HA.out hh)
            clear hh
            go_wp2_with fail
            refine wp_region_up (by kernel_rfl) (by kernel_rfl) ?_
            repeat (go_big_quiet_step (with_reducible exact HHU.out _))
            refine wpQuiet_nil ?_
            rintro _ ⟨⟨wd, hbw⟩, rfl⟩
            have HBd := Lib.hid (HB2.out.trans (hbw.mono HB2.out.size))
            clear hbw k0 k1 k2 k3 k4 k5 k6 k7 kb d0 d1 d2 hbc
            go_wp2_with fail
            go_roundw
            case rel => exact ⟨j + 1, by go_num, by omega, HN, HBd.out⟩
            case measure => simp [intOf]; omega
          | false =>
            rw [hh] at HHU
            have HR := Lib.hid (model_no2 (all_no (fun c => holdsFor c x y z) HX.out hh))
            clear hh
            go_wp2_with fail
            refine wp_region_up (by kernel_rfl) (by kernel_rfl) ?_
            repeat (go_big_quiet_step (with_reducible exact HHU.out _))
            refine wpQuiet_nil ?_
            rintro _ ⟨⟨wd, hbw⟩, rfl⟩
            have HBd := Lib.hid (HB2.out.trans (hbw.mono HB2.out.size))
            clear hbw k0 k1 k2 k3 k4 k5 k6 k7 kb d0 d1 d2 hbc
            go_wp2_with fail
            go_ret
            exact ⟨by rw [HR.out]; rfl, HB0.out.trans (HBd.out.mono HB0.out.size)⟩
        · obtain rfl : j = ps.length := by omega
          have hall : ps.all (fun c => holdsFor c x y z) = true := by
            have := HA.out
            rwa [List.take_length] at this
          have hv := isV_of hall (by rw [← HNM.out]; exact HON.out)
          have HR := Lib.hid (show isModelP ps x y z = validP ps by unfold isModelP; rw [hall, ← HNM.out, HON.out]; simp)
          rw [hv] at HIV
          have hd : ¬ ((ps.length : Int) < ps.length) := by omega
          clear hv hall hb
          cases hvp : validP ps with
          | true =>
            rw [hvp] at HVP
            have HR2 := Lib.hid (HR.out.trans hvp)
            clear hvp
            go_wp2_with fail
            refine (HVP.out _ HB2.out).mono ?_
            rintro e w5 ⟨rfl, hb5⟩
            have HB5 := Lib.hid (HB2.out.trans (hb5.mono HB2.out.size))
            obtain ⟨d0, d1, d2⟩ := HBV.out w5 HB5.out
            clear hb5 hbc
            go_wp2_with fail
            refine (HIV.out _).mono ?_
            rintro e w6 ⟨rfl, hb6⟩
            have HB6 := Lib.hid (HB5.out.trans (hb6.mono HB5.out.size))
            clear hb6
            go_wp2_with fail
            go_ret
            exact ⟨by rw [HR2.out]; rfl, HB0.out.trans (HB6.out.mono HB0.out.size)⟩
          | false =>
            rw [hvp] at HVP
            have HR2 := Lib.hid (HR.out.trans hvp)
            clear hvp
            go_wp2_with fail
            refine (HVP.out _ HB2.out).mono ?_
            rintro e w5 ⟨rfl, hb5⟩
            have HB5 := Lib.hid (HB2.out.trans (hb5.mono HB2.out.size))
            clear hb5 hbc
            go_wp2_with fail
            go_ret
            exact ⟨by rw [HR2.out]; rfl, HB0.out.trans (HB5.out.mono HB0.out.size)⟩
end Go.Proofs.YtppliiingoonlaaGreatDoor

/-
  What impl.ValueOf, impl.WithValue and impl.IsValues answer.
-/
namespace Go.Proofs.YtppliiingoonlaaGreatDoor
open Go.RowKit
set_option maxRecDepth 100000 in
theorem implVal_any (x y z : ByteArray) (b : UInt8) (w : World) :
    Calls Tryz.prog 145 #[.agg #[.string x, .string y, .string z], .int .u8 b.toNat] w fun e w' => e = .returned (.string (valB x y z b)) ∧ Below w.heap.size w w' := by
  have hb := Lib.hid ((Below.refl w.heap.size w).alloc (Nat.le_refl _) (.cells #[.string x, .string y, .string z] 38))
  by_cases h0 : b = 88
  · subst h0
    go_enter Tryz.func145, Tryz.ntmps145
    go_wp2
    go_ret
    exact ⟨rfl, hb.out⟩
  by_cases h1 : b = 89
  · subst h1
    go_enter Tryz.func145, Tryz.ntmps145
    go_wp2
    go_ret
    exact ⟨rfl, hb.out⟩
  by_cases h2 : b = 90
  · subst h2
    go_enter Tryz.func145, Tryz.ntmps145
    go_wp2
    go_ret
    exact ⟨rfl, hb.out⟩
  have HE := Lib.hid (show valB x y z b = ⟨#[]⟩ by unfold valB; rw [if_neg h0, if_neg h1, if_neg h2])
  have n0 : ¬ ((b.toNat : Int) = 88) := fun e => h0 (UInt8.toNat_inj.1 (show b.toNat = 88 by omega))
  have n1 : ¬ ((b.toNat : Int) = 89) := fun e => h1 (UInt8.toNat_inj.1 (show b.toNat = 89 by omega))
  have n2 : ¬ ((b.toNat : Int) = 90) := fun e => h2 (UInt8.toNat_inj.1 (show b.toNat = 90 by omega))
  clear h0 h1 h2
  go_enter Tryz.func145, Tryz.ntmps145
  go_wp2
  go_ret
  exact ⟨by rw [HE.out]; rfl, hb.out⟩

set_option maxRecDepth 100000 in
theorem implIsV_any (x y z : ByteArray) (w : World) (hx : x.size ≤ maxLen) (hy : y.size ≤ maxLen) (hz : z.size ≤ maxLen) :
    Calls Tryz.prog 72 #[.agg #[.string x, .string y, .string z]] w fun e w' => e = .returned (.bool (isV x y z)) ∧ Below w.heap.size w w' := by
  have hb := Lib.hid ((Below.refl w.heap.size w).alloc (Nat.le_refl _) (.cells #[.string x, .string y, .string z] 38))
  have HX := Lib.hid (fun w => implIsWord_any x w hx)
  have HY := Lib.hid (fun w => implIsWord_any y w hy)
  have HZ := Lib.hid (fun w => implIsWord_any z w hz)
  clear hx hy hz
  unfold isV
  generalize isW x.data.toList = p at *
  generalize isW y.data.toList = q at *
  generalize isW z.data.toList = r at *
  cases p with
  | false =>
    go_enter Tryz.func72, Tryz.ntmps72
    go_wp2_with (go_at_call 129; refine (HX.out _).mono ?_; rintro e w' ⟨rfl, rfl⟩)
    go_ret
    exact ⟨rfl, hb.out⟩
  | true =>
    cases q with
    | false =>
      go_enter Tryz.func72, Tryz.ntmps72
      go_wp2_with (go_at_call 129; first | (with_reducible refine (HX.out _).mono ?_; rintro e w' ⟨rfl, rfl⟩) | (with_reducible refine (HY.out _).mono ?_; rintro e w' ⟨rfl, rfl⟩))
      go_ret
      exact ⟨rfl, hb.out⟩
    | true =>
      go_enter Tryz.func72, Tryz.ntmps72
      go_wp2_with (go_at_call 129; first | (with_reducible refine (HX.out _).mono ?_; rintro e w' ⟨rfl, rfl⟩) | (with_reducible refine (HY.out _).mono ?_; rintro e w' ⟨rfl, rfl⟩) | (refine (HZ.out _).mono ?_; rintro e w' ⟨rfl, rfl⟩))
      go_ret
      exact ⟨rfl, hb.out⟩
end Go.Proofs.YtppliiingoonlaaGreatDoor

/-
  What impl.hasNoOtherWords answers.
-/
namespace Go.Proofs.YtppliiingoonlaaGreatDoor
open Go.RowKit

set_option maxRecDepth 100000 in
set_option maxHeartbeats 6400000 in
theorem implOnly_any (x y z nm : ByteArray) (w : World) :
    Calls Tryz.prog 92 #[.agg #[.string x, .string y, .string z], .string nm] w fun e w' => e = .returned (.bool (onlyIn nm.data.toList x y z)) ∧ Below w.heap.size w w' := by
  obtain ⟨W, hW⟩ : ∃ W, W = w.alloc (.cells #[.string x, .string y, .string z] 38) := ⟨_, rfl⟩
  have hb0 : Below w.heap.size w W := by rw [hW]; exact (Below.refl _ _).alloc (Nat.le_refl _) _
  have hbv : BoxV W w.heap.size x y z := by rw [hW]; exact ⟨_, heap_alloc_new w _⟩
  have hzW : W.heap.size = w.heap.size + 1 := by rw [hW]; simp
  obtain ⟨B, hB⟩ : ∃ B, B = w.heap.size + 1 := ⟨_, rfl⟩
  have hI0 : (W.iter xyz 0).heap[B]? = some (.stringIter xyz 0) := by rw [hB, ← hzW]; exact World.iter_heap W xyz 0
  have hbI : Below B W (W.iter xyz 0) := by rw [hB, ← hzW]; exact (Below.refl _ _).alloc (Nat.le_refl _) _
  have HBV := Lib.hid (fun (V : World) (hb : Below B W V) => (BoxV.cells (w := V) (g := w.heap.size) (x := x) (y := y) (z := z) (by obtain ⟨t, ht⟩ := hbv; exact ⟨t, (hb.block _ (by omega)).trans ht⟩)))
  have HB0 := Lib.hid (fun (V : World) (hb : Below B W V) => hb0.trans (hb.mono (by omega)))
  have HI0 := Lib.hid hI0
  have HBI := Lib.hid hbI
  have HWE := Lib.hid hW
  have HBE := Lib.hid (hB.trans hzW.symm)
  have C88 : Hid (∀ V : World, Calls Tryz.prog 125 #[.string nm, .int .i32 88] V fun e w' => e = .returned (.bool (nm.data.toList.contains 88)) ∧ w' = V) := Lib.hid (fun V => (Tryz.strings_ContainsRune_ascii nm 88 V (by omega) (by omega)).mono fun e w' ⟨he, hw⟩ => ⟨by rw [he, ← cntL_contains, show (((88 : Int).toNat).toUInt8) = (88 : UInt8) from rfl, index_cnt], hw⟩)
  have V88 : Hid (∀ V : World, Calls Tryz.prog 145 #[.agg #[.string x, .string y, .string z], .int .u8 88] V fun e w' => e = .returned (.string x) ∧ Below V.heap.size V w') := Lib.hid (fun V => implVal_any x y z 88 V)
  have C89 : Hid (∀ V : World, Calls Tryz.prog 125 #[.string nm, .int .i32 89] V fun e w' => e = .returned (.bool (nm.data.toList.contains 89)) ∧ w' = V) := Lib.hid (fun V => (Tryz.strings_ContainsRune_ascii nm 89 V (by omega) (by omega)).mono fun e w' ⟨he, hw⟩ => ⟨by rw [he, ← cntL_contains, show (((89 : Int).toNat).toUInt8) = (89 : UInt8) from rfl, index_cnt], hw⟩)
  have V89 : Hid (∀ V : World, Calls Tryz.prog 145 #[.agg #[.string x, .string y, .string z], .int .u8 89] V fun e w' => e = .returned (.string y) ∧ Below V.heap.size V w') := Lib.hid (fun V => implVal_any x y z 89 V)
  have C90 : Hid (∀ V : World, Calls Tryz.prog 125 #[.string nm, .int .i32 90] V fun e w' => e = .returned (.bool (nm.data.toList.contains 90)) ∧ w' = V) := Lib.hid (fun V => (Tryz.strings_ContainsRune_ascii nm 90 V (by omega) (by omega)).mono fun e w' ⟨he, hw⟩ => ⟨by rw [he, ← cntL_contains, show (((90 : Int).toNat).toUInt8) = (90 : UInt8) from rfl, index_cnt], hw⟩)
  have V90 : Hid (∀ V : World, Calls Tryz.prog 145 #[.agg #[.string x, .string y, .string z], .int .u8 90] V fun e w' => e = .returned (.string z) ∧ Below V.heap.size V w') := Lib.hid (fun V => implVal_any x y z 90 V)
  clear hb0 hbv hI0 hbI hzW
  go_enter Tryz.func92, Tryz.ntmps92
  go_wp2_with fail
  rw [← hW, ← hB]
  rw [show (ByteArray.mk #[88, 89, 90]) = xyz from rfl]
  clear hW hB
  go_loopw [] (fun wr => ∃ k : Nat, (k = 0 ∨ k = 1 ∨ k = 2 ∨ k = 3) ∧ wr.heap[B]? = some (.stringIter xyz k) ∧ Hid (∀ q, q < k → okIn nm.data.toList x y z q = true) ∧ Below B W wr) (fun wr => 3 - wr.iterPos B)
  case atStart => exact ⟨0, Or.inl rfl, HI0.out, Lib.hid (fun q h => absurd h (Nat.not_lt_zero q)), HBI.out⟩
  case round =>
    obtain ⟨k, hk, hit, HQ, hbw⟩ := hrel
    have hsz : B < wr.heap.size := (Array.getElem?_eq_some_iff.1 hit).1
    rcases hk with rfl | rfl | rfl | rfl
    · have hnx : ∀ ty, (Instr.next (.pointer (some ⟨B, 0, none⟩)) true ty).run Tryz.prog wr = .ok (.tuple #[.bool true, .int .i64 0, .int .i32 88]) (wr.iterAt B xyz 1) := fun ty => Lib.run_next_ascii_at wr B xyz 0 ty hit (by decide) (by decide)
      have hit2 := Lib.iterAt_heap wr B xyz 0 1 hit
      have hbw2 := Lib.below_iterAt hbw (k := B) (by omega) xyz 1
      have hip := iterPos_of hit
      have hip2 := iterPos_of hit2
      have hsz2 : B < (wr.iterAt B xyz 1).heap.size := (Array.getElem?_eq_some_iff.1 hit2).1
      obtain ⟨w2, hw2⟩ : ∃ w2, w2 = wr.iterAt B xyz 1 := ⟨_, rfl⟩
      rw [← hw2] at hnx hit2 hbw2 hip2 hsz2
      have HIT2 := Lib.hid hit2
      have HBW2 := Lib.hid hbw2
      have HCC := C88
      obtain ⟨d0, d1, d2⟩ := HBV.out w2 hbw2
      clear hit hit2 hbw hbw2 hw2
      cases hct : nm.data.toList.contains 88 with
      | true =>
        rw [hct] at HCC
        have HOK := Lib.hid (show okIn nm.data.toList x y z 0 = true by simp only [okIn]; rw [hct]; rfl)
        have HQ2 : Hid (∀ q, q < 1 → okIn nm.data.toList x y z q = true) := Lib.hid (fun q hq => by
          rcases Nat.lt_or_eq_of_le (Nat.le_of_lt_succ hq) with h | h
          · exact HQ.out q h
          · rw [h]
            exact HOK.out)
        clear hct HQ HOK
        go_wp2_with (go_at_call 125; refine (HCC.out _).mono ?_; rintro e w' ⟨rfl, rfl⟩)
        go_roundw
        case rel => exact ⟨1, Or.inr (Or.inl rfl), HIT2.out, HQ2, HBW2.out⟩
        case measure => rw [hip, hip2]; omega
      | false =>
        rw [hct] at HCC
        by_cases h0 : x.size = 0
        · have h0' := bytes_nil h0
          have HOK := Lib.hid (show okIn nm.data.toList x y z 0 = true by simp [okIn, h0])
          have HQ2 : Hid (∀ q, q < 1 → okIn nm.data.toList x y z q = true) := Lib.hid (fun q hq => by
            rcases Nat.lt_or_eq_of_le (Nat.le_of_lt_succ hq) with h | h
            · exact HQ.out q h
            · rw [h]
              exact HOK.out)
          clear hct HQ HOK h0
          go_wp2_with (go_at_call 125; refine (HCC.out _).mono ?_; rintro e w' ⟨rfl, rfl⟩)
          refine (V88.out _).mono ?_
          rintro e w3 ⟨rfl, hb3⟩
          have hit3 := (hb3.block B hsz2).trans HIT2.out
          have HIT3 := Lib.hid hit3
          have hip3 := iterPos_of hit3
          have HB3 := Lib.hid (HBW2.out.trans (hb3.mono (Nat.le_of_lt hsz2)))
          clear hb3 hit3 d0 d1 d2
          go_wp2_with fail
          go_roundw
          case rel => exact ⟨1, Or.inr (Or.inl rfl), HIT3.out, HQ2, HB3.out⟩
          case measure => rw [hip, hip3]; omega
        · have h0' := bytes_some h0
          have e2 : x.toList.isEmpty = false := by simpa using h0'
          have HR := Lib.hid (show onlyIn nm.data.toList x y z = false by rw [onlyIn_ok, show okIn nm.data.toList x y z 0 = false by simp only [okIn]; rw [hct]; simpa using h0]; simp)
          clear hct HQ h0
          go_wp2_with (go_at_call 125; refine (HCC.out _).mono ?_; rintro e w' ⟨rfl, rfl⟩)
          refine (V88.out _).mono ?_
          rintro e w3 ⟨rfl, hb3⟩
          have HB3 := Lib.hid (HBW2.out.trans (hb3.mono (Nat.le_of_lt hsz2)))
          clear hb3 d0 d1 d2
          go_wp2_with fail
          go_ret
          exact ⟨by rw [HR.out]; rfl, HB0.out _ HB3.out⟩
    · have hnx : ∀ ty, (Instr.next (.pointer (some ⟨B, 0, none⟩)) true ty).run Tryz.prog wr = .ok (.tuple #[.bool true, .int .i64 1, .int .i32 89]) (wr.iterAt B xyz 2) := fun ty => Lib.run_next_ascii_at wr B xyz 1 ty hit (by decide) (by decide)
      have hit2 := Lib.iterAt_heap wr B xyz 1 2 hit
      have hbw2 := Lib.below_iterAt hbw (k := B) (by omega) xyz 2
      have hip := iterPos_of hit
      have hip2 := iterPos_of hit2
      have hsz2 : B < (wr.iterAt B xyz 2).heap.size := (Array.getElem?_eq_some_iff.1 hit2).1
      obtain ⟨w2, hw2⟩ : ∃ w2, w2 = wr.iterAt B xyz 2 := ⟨_, rfl⟩
      rw [← hw2] at hnx hit2 hbw2 hip2 hsz2
      have HIT2 := Lib.hid hit2
      have HBW2 := Lib.hid hbw2
      have HCC := C89
      obtain ⟨d0, d1, d2⟩ := HBV.out w2 hbw2
      clear hit hit2 hbw hbw2 hw2
      cases hct : nm.data.toList.contains 89 with
      | true =>
        rw [hct] at HCC
        have HOK := Lib.hid (show okIn nm.data.toList x y z 1 = true by simp only [okIn]; rw [hct]; rfl)
        have HQ2 : Hid (∀ q, q < 2 → okIn nm.data.toList x y z q = true) := Lib.hid (fun q hq => by
          rcases Nat.lt_or_eq_of_le (Nat.le_of_lt_succ hq) with h | h
          · exact HQ.out q h
          · rw [h]
            exact HOK.out)
        clear hct HQ HOK
        go_wp2_with (go_at_call 125; refine (HCC.out _).mono ?_; rintro e w' ⟨rfl, rfl⟩)
        go_roundw
        case rel => exact ⟨2, Or.inr (Or.inr (Or.inl rfl)), HIT2.out, HQ2, HBW2.out⟩
        case measure => rw [hip, hip2]; omega
      | false =>
        rw [hct] at HCC
        by_cases h0 : y.size = 0
        · have h0' := bytes_nil h0
          have HOK := Lib.hid (show okIn nm.data.toList x y z 1 = true by simp [okIn, h0])
          have HQ2 : Hid (∀ q, q < 2 → okIn nm.data.toList x y z q = true) := Lib.hid (fun q hq => by
            rcases Nat.lt_or_eq_of_le (Nat.le_of_lt_succ hq) with h | h
            · exact HQ.out q h
            · rw [h]
              exact HOK.out)
          clear hct HQ HOK h0
          go_wp2_with (go_at_call 125; refine (HCC.out _).mono ?_; rintro e w' ⟨rfl, rfl⟩)
          refine (V89.out _).mono ?_
          rintro e w3 ⟨rfl, hb3⟩
          have hit3 := (hb3.block B hsz2).trans HIT2.out
          have HIT3 := Lib.hid hit3
          have hip3 := iterPos_of hit3
          have HB3 := Lib.hid (HBW2.out.trans (hb3.mono (Nat.le_of_lt hsz2)))
          clear hb3 hit3 d0 d1 d2
          go_wp2_with fail
          go_roundw
          case rel => exact ⟨2, Or.inr (Or.inr (Or.inl rfl)), HIT3.out, HQ2, HB3.out⟩
          case measure => rw [hip, hip3]; omega
        · have h0' := bytes_some h0
          have e2 : y.toList.isEmpty = false := by simpa using h0'
          have HR := Lib.hid (show onlyIn nm.data.toList x y z = false by rw [onlyIn_ok, show okIn nm.data.toList x y z 1 = false by simp only [okIn]; rw [hct]; simpa using h0]; simp)
          clear hct HQ h0
          go_wp2_with (go_at_call 125; refine (HCC.out _).mono ?_; rintro e w' ⟨rfl, rfl⟩)
          refine (V89.out _).mono ?_
          rintro e w3 ⟨rfl, hb3⟩
          have HB3 := Lib.hid (HBW2.out.trans (hb3.mono (Nat.le_of_lt hsz2)))
          clear hb3 d0 d1 d2
          go_wp2_with fail
          go_ret
          exact ⟨by rw [HR.out]; rfl, HB0.out _ HB3.out⟩
    · have hnx : ∀ ty, (Instr.next (.pointer (some ⟨B, 0, none⟩)) true ty).run Tryz.prog wr = .ok (.tuple #[.bool true, .int .i64 2, .int .i32 90]) (wr.iterAt B xyz 3) := fun ty => Lib.run_next_ascii_at wr B xyz 2 ty hit (by decide) (by decide)
      have hit2 := Lib.iterAt_heap wr B xyz 2 3 hit
      have hbw2 := Lib.below_iterAt hbw (k := B) (by omega) xyz 3
      have hip := iterPos_of hit
      have hip2 := iterPos_of hit2
      have hsz2 : B < (wr.iterAt B xyz 3).heap.size := (Array.getElem?_eq_some_iff.1 hit2).1
      obtain ⟨w2, hw2⟩ : ∃ w2, w2 = wr.iterAt B xyz 3 := ⟨_, rfl⟩
      rw [← hw2] at hnx hit2 hbw2 hip2 hsz2
      have HIT2 := Lib.hid hit2
      have HBW2 := Lib.hid hbw2
      have HCC := C90
      obtain ⟨d0, d1, d2⟩ := HBV.out w2 hbw2
      clear hit hit2 hbw hbw2 hw2
      cases hct : nm.data.toList.contains 90 with
      | true =>
        rw [hct] at HCC
        have HOK := Lib.hid (show okIn nm.data.toList x y z 2 = true by simp only [okIn]; rw [hct]; rfl)
        have HQ2 : Hid (∀ q, q < 3 → okIn nm.data.toList x y z q = true) := Lib.hid (fun q hq => by
          rcases Nat.lt_or_eq_of_le (Nat.le_of_lt_succ hq) with h | h
          · exact HQ.out q h
          · rw [h]
            exact HOK.out)
        clear hct HQ HOK
        go_wp2_with (go_at_call 125; refine (HCC.out _).mono ?_; rintro e w' ⟨rfl, rfl⟩)
        go_roundw
        case rel => exact ⟨3, Or.inr (Or.inr (Or.inr rfl)), HIT2.out, HQ2, HBW2.out⟩
        case measure => rw [hip, hip2]; omega
      | false =>
        rw [hct] at HCC
        by_cases h0 : z.size = 0
        · have h0' := bytes_nil h0
          have HOK := Lib.hid (show okIn nm.data.toList x y z 2 = true by simp [okIn, h0])
          have HQ2 : Hid (∀ q, q < 3 → okIn nm.data.toList x y z q = true) := Lib.hid (fun q hq => by
            rcases Nat.lt_or_eq_of_le (Nat.le_of_lt_succ hq) with h | h
            · exact HQ.out q h
            · rw [h]
              exact HOK.out)
          clear hct HQ HOK h0
          go_wp2_with (go_at_call 125; refine (HCC.out _).mono ?_; rintro e w' ⟨rfl, rfl⟩)
          refine (V90.out _).mono ?_
          rintro e w3 ⟨rfl, hb3⟩
          have hit3 := (hb3.block B hsz2).trans HIT2.out
          have HIT3 := Lib.hid hit3
          have hip3 := iterPos_of hit3
          have HB3 := Lib.hid (HBW2.out.trans (hb3.mono (Nat.le_of_lt hsz2)))
          clear hb3 hit3 d0 d1 d2
          go_wp2_with fail
          go_roundw
          case rel => exact ⟨3, Or.inr (Or.inr (Or.inr rfl)), HIT3.out, HQ2, HB3.out⟩
          case measure => rw [hip, hip3]; omega
        · have h0' := bytes_some h0
          have e2 : z.toList.isEmpty = false := by simpa using h0'
          have HR := Lib.hid (show onlyIn nm.data.toList x y z = false by rw [onlyIn_ok, show okIn nm.data.toList x y z 2 = false by simp only [okIn]; rw [hct]; simpa using h0]; simp)
          clear hct HQ h0
          go_wp2_with (go_at_call 125; refine (HCC.out _).mono ?_; rintro e w' ⟨rfl, rfl⟩)
          refine (V90.out _).mono ?_
          rintro e w3 ⟨rfl, hb3⟩
          have HB3 := Lib.hid (HBW2.out.trans (hb3.mono (Nat.le_of_lt hsz2)))
          clear hb3 d0 d1 d2
          go_wp2_with fail
          go_ret
          exact ⟨by rw [HR.out]; rfl, HB0.out _ HB3.out⟩
    · have hnx : ∀ ty, (Instr.next (.pointer (some ⟨B, 0, none⟩)) true ty).run Tryz.prog wr = _ := fun ty => Lib.run_next_end_at wr B xyz 3 ty hit (by decide)
      have HR := Lib.hid (show onlyIn nm.data.toList x y z = true by rw [onlyIn_ok, HQ.out 0 (by omega), HQ.out 1 (by omega), HQ.out 2 (by omega)]; rfl)
      have HE := Lib.hid hbw
      clear hbw HQ
      go_wp2_with fail
      go_ret
      exact ⟨by rw [HR.out]; rfl, HB0.out _ HE.out⟩
end Go.Proofs.YtppliiingoonlaaGreatDoor

/-
  What the methods of strings.Builder answer here: Len, WriteString, String.
-/
namespace Go.Proofs.YtppliiingoonlaaGreatDoor
open Go.RowKit
theorem libLen_any (B b : Nat) (bs : List Value) (w : World) (h : Lib.IsBuilder 174 5 B b bs w) :
    Calls Tryz.prog 228 #[.pointer (some ⟨b, 0, none⟩)] w fun e w' => e = .returned (.int .i64 bs.length) ∧ w' = w := Tryz.Builder_Len B b bs w h
theorem libWrite_any (B b : Nat) (bs : List Value) (s : ByteArray) (w : World) (h : Lib.IsBuilder 174 5 B b bs w) (hlen : bs.length + s.size ≤ 140737488355328) (hBw : B ≤ w.heap.size) :
    Calls Tryz.prog 155 #[.pointer (some ⟨b, 0, none⟩), .string s] w fun e w' => e = .returned (.tuple #[.int .i64 s.size, .nilIface]) ∧ (Lib.BuilderAt 174 5 B b (.pointer (some ⟨b, 0, none⟩)) (bs ++ Lib.strCells s) w' ∧ Below B w w') :=
  Any.Builder_WriteString (ρ := Tryz.lays156_ren) { Tryz.lays156 with } Tryz.Builder_Extra_156 B b bs s w h hlen hBw
theorem libString_any (B b : Nat) (l : List UInt8) (w : World) (h : Lib.IsBuilder 174 5 B b (Lib.byteCells l) w) (hBw : B ≤ w.heap.size) :
    Calls Tryz.prog 156 #[.pointer (some ⟨b, 0, none⟩)] w fun e w' => e = .returned (.string ⟨l.toArray⟩) ∧ Below B w w' := Tryz.Builder_String_any B b l w h hBw
end Go.Proofs.YtppliiingoonlaaGreatDoor

/-
  What impl.substitute answers, where the function that it is handed answers; what impl.ReplaceVar and impl.ApplyValues answer.
-/
namespace Go.Proofs.YtppliiingoonlaaGreatDoor
open Go.RowKit
theorem isB_below {T e : TypeId} {B b : Nat} {bs : List Value} {w w' : World} (h : Lib.IsBuilder T e B b bs w) (hb : Below w.heap.size w w') : Lib.IsBuilder T e B b bs w' := by
  have key : ∀ p, Lib.BuilderAt T e B b p bs w → Lib.BuilderAt T e B b p bs w' := fun p k => by
    have hlt := k.lt
    obtain ⟨h1, v, h2, h3, h4⟩ := k
    exact ⟨h1, v, (hb.block b hlt).trans h2, owns_below h3 hb, h4⟩
  rcases h with h | h
  · exact Or.inl (key _ h)
  · exact Or.inr (key _ h)

/-- What a function says of a byte: a part in its place, or nothing. -/
def SayPost (f : UInt8 → List UInt8) (b : UInt8) (V : World) (e : Ending) (w' : World) : Prop :=
  ∃ (t : ByteArray) (yes : Bool), e = .returned (.tuple #[.string t, .bool yes]) ∧ t.size ≤ 1048576 ∧ f b = (if yes then t.data.toList else [b]) ∧ Below V.heap.size V w'

set_option maxRecDepth 100000 in
set_option maxHeartbeats 3200000 in
theorem subst_any (f : UInt8 → List UInt8) (q : Nat) (cap : Array Value) (s : ByteArray) (w : World) (hs : s.size ≤ 1048576) (hen : ∀ args w, (callFunc q args).run Tryz.prog w = .ok (.enter q args) w)
    (hc : ∀ (b : UInt8) (V : World), Below w.heap.size w V → Calls Tryz.prog q (#[.int .u8 b.toNat] ++ cap) V (SayPost f b V)) :
    Calls Tryz.prog 195 #[.string s, .func (.func q) #[] cap] w fun e w' => e = .returned (.string (strL (limB (subL f s.data.toList)))) ∧ Below w.heap.size w w' := by
  have HC := Lib.hid hc
  clear hc
  obtain ⟨B, hB⟩ : ∃ B, B = w.heap.size := ⟨_, rfl⟩
  have HI0 := Lib.hid (Lib.fresh_isBuilder 174 5 w)
  have HB0 : Hid (Below w.heap.size w (w.alloc (.cells #[.pointer none, .slice none 0 0] 174))) := Lib.hid ((Below.refl _ _).alloc (Nat.le_refl _) _)
  have HS0 := Lib.hid HB0.out.size
  rw [← hB] at HC HI0 HB0 HS0 ⊢
  go_enter Tryz.func195, Tryz.ntmps195
  go_wp2
  rw [← hB]
  clear hB
  go_loopw [11] (fun i wr => ∃ (k : Nat) (L : List UInt8), i = .int .i64 k ∧ k ≤ s.size ∧ L = subL f (s.data.toList.take k) ∧ L.length ≤ 1048576 ∧ Lib.IsBuilder 174 5 B B (Lib.byteCells L) wr ∧ Below B w wr ∧ B ≤ wr.heap.size) (fun i _ => s.size - (intOf i).toNat)
  case atStart => exact ⟨0, [], rfl, Nat.zero_le _, rfl, by simp, HI0.out, HB0.out, HS0.out⟩
  case round =>
    obtain ⟨k, L, rfl, hk, hL, hl, hib, hbw, hsz⟩ := hrel
    have hl2 : (Lib.byteCells L).length = L.length := by rw [Lib.byteCells_length]
    have HL := Lib.hid hL
    clear hL
    by_cases hlt : k < s.size
    · have HS := Lib.hid (sub_succ f s k hlt)
      have HX := Lib.hid (one_extract s k hlt)
      have HI := Lib.hid hib
      have HW := Lib.hid hbw
      have HCC := Lib.hid (HC.out s[k] wr hbw)
      clear hib hbw
      go_wp2_with (go_at_fn q; refine HCC.out.mono ?_)
      rintro e w1 ⟨t, yes, rfl, ht, hf, hb1⟩
      have HI1 := Lib.hid (isB_below HI.out hb1)
      have HW1 := Lib.hid (HW.out.trans (hb1.mono hsz))
      have hz1 : B ≤ w1.heap.size := Nat.le_trans hsz hb1.size
      clear hb1
      have HLN := Lib.hid (libLen_any B B _ w1 HI1.out)
      cases yes with
      | true =>
        have HN := Lib.hid (show subL f (s.data.toList.take (k + 1)) = L ++ t.data.toList by rw [HS.out, ← HL.out, hf]; rfl)
        clear hf
        have hn : (L ++ t.data.toList).length = L.length + t.size := by simp
        by_cases hq : L.length + t.size ≤ 1048576
        · have HWR := Lib.hid (libWrite_any B B _ t w1 HI1.out (by rw [hl2]; omega) hz1)
          go_wp2_with (first | (go_at_call 228; refine HLN.out.mono ?_; rintro e w' ⟨rfl, rfl⟩) | (go_at_call 155; refine HWR.out.mono ?_; rintro e w2 ⟨rfl, hi2, hb2⟩))
          have HE := Lib.hid (And.intro hi2 (And.intro (HW1.out.trans hb2) (Nat.le_trans hz1 hb2.size)))
          clear hi2 hb2
          go_wp2
          go_roundw
          case rel => exact ⟨k + 1, L ++ t.data.toList, by go_num, by omega, HN.out.symm, by omega, Or.inr (by rw [Lib.byteCells_append]; exact HE.out.1), HE.out.2.1, HE.out.2.2⟩
          case measure => simp [intOf]; omega
        · have HO := Lib.hid (sub_over (f := f) (l := s.data.toList) (k := k + 1) (by rw [HN.out]; omega))
          go_wp2_with (first | (go_at_call 228; refine HLN.out.mono ?_; rintro e w' ⟨rfl, rfl⟩) | fail)
          go_ret
          exact ⟨by rw [HO.out]; rfl, HW1.out⟩
      | false =>
        have HN := Lib.hid (show subL f (s.data.toList.take (k + 1)) = L ++ (s.extract k (k + 1)).data.toList by rw [HS.out, ← HL.out, hf, HX.out]; rfl)
        clear hf
        have hz3 : (s.extract k (k + 1)).size = 1 := by simp; omega
        have HNL := Lib.hid (show (L ++ (s.extract k (k + 1)).data.toList).length = L.length + 1 by rw [HX.out]; simp)
        by_cases hq : L.length + 1 ≤ 1048576
        · have HWR := Lib.hid (libWrite_any B B _ (s.extract k (k + 1)) w1 HI1.out (by rw [hl2, hz3]; omega) hz1)
          clear hz3
          go_wp2_with (first | (go_at_call 228; refine HLN.out.mono ?_; rintro e w' ⟨rfl, rfl⟩) | (go_at_call 155; refine HWR.out.mono ?_; rintro e w2 ⟨rfl, hi2, hb2⟩))
          have HE := Lib.hid (And.intro hi2 (And.intro (HW1.out.trans hb2) (Nat.le_trans hz1 hb2.size)))
          clear hi2 hb2
          go_wp2
          go_roundw
          case rel => exact ⟨k + 1, L ++ (s.extract k (k + 1)).data.toList, by go_num, by omega, HN.out.symm, by rw [HNL.out]; exact hq, Or.inr (by rw [Lib.byteCells_append]; exact HE.out.1), HE.out.2.1, HE.out.2.2⟩
          case measure => simp [intOf]; omega
        · have HO := Lib.hid (sub_over (f := f) (l := s.data.toList) (k := k + 1) (by rw [HN.out, HNL.out]; exact hq))
          clear hz3
          go_wp2_with (first | (go_at_call 228; refine HLN.out.mono ?_; rintro e w' ⟨rfl, rfl⟩) | fail)
          go_ret
          exact ⟨by rw [HO.out]; rfl, HW1.out⟩
    · obtain rfl : k = s.size := by omega
      have HN := Lib.hid (sub_fits (f := f) (s := s) (by rw [← HL.out]; exact hl))
      rw [← HL.out] at HN
      have HST := Lib.hid (libString_any B B L wr hib hsz)
      have HW := Lib.hid hbw
      clear hib hbw
      go_wp2_with (go_at_call 156; refine HST.out.mono ?_; rintro e w' ⟨rfl, hb2⟩)
      go_ret
      exact ⟨by rw [HN.out]; rfl, HW.out.trans hb2⟩

set_option maxRecDepth 100000 in
set_option maxHeartbeats 3200000 in
theorem appClo_any (x y z : ByteArray) (b : UInt8) (g : Nat) (V : World) (hx : x.size ≤ 1048576) (hy : y.size ≤ 1048576) (hz : z.size ≤ 1048576)
    (h0 : V.cell? ⟨g, 0, none⟩ = some (.string x)) (h1 : V.cell? ⟨g, 1, none⟩ = some (.string y)) (h2 : V.cell? ⟨g, 2, none⟩ = some (.string z)) :
    Calls Tryz.prog 196 (#[.int .u8 b.toNat] ++ #[.pointer (some ⟨g, 0, none⟩)]) V (SayPost (appF x y z) b V) := by
  have HV := Lib.hid (implVal_any x y z b V)
  have HL := Lib.hid (valB_le (n := 1048576) hx hy hz b)
  have HI := Lib.hid (fun w => (Tryz.strings_IndexByte ⟨#[88, 89, 90]⟩ b.toNat w).mono (R' := fun e w' => e = .returned (.int .i64 (Lib.indexByte [88, 89, 90] b)) ∧ w' = w) fun e w' ⟨h, k⟩ => ⟨by rw [h]; simp, k⟩)
  have HF : Hid (appF x y z b = if decide (0 ≤ Lib.indexByte [88, 89, 90] b) then (valB x y z b).data.toList else [b]) := Lib.hid (by rw [varIdx_lib]; rfl)
  clear hx hy hz
  generalize valB x y z b = t at *
  generalize Lib.indexByte [88, 89, 90] b = r at *
  go_enter Tryz.func196, Tryz.ntmps196
  go_wp2_with (first | (go_at_call 145; refine HV.out.mono ?_; rintro e w1 ⟨rfl, hb⟩) | (go_at_call 100; refine (HI.out _).mono ?_; rintro e w' ⟨rfl, rfl⟩))
  go_ret2
  exact ⟨t, decide (0 ≤ r), rfl, HL.out, HF.out, hb⟩

set_option maxRecDepth 100000 in
theorem implApp_any (s x y z : ByteArray) (w : World) (hs : s.size ≤ 1048576) (hx : x.size ≤ 1048576) (hy : y.size ≤ 1048576) (hz : z.size ≤ 1048576) :
    Calls Tryz.prog 161 #[.string s, .agg #[.string x, .string y, .string z]] w fun e w' => e = .returned (.string (strL (limB (subL (appF x y z) s.data.toList)))) ∧ Below w.heap.size w w' := by
  obtain ⟨W, hW⟩ : ∃ W, W = w.alloc (.cells #[.string x, .string y, .string z] 38) := ⟨_, rfl⟩
  have hz' : W.heap.size = w.heap.size + 1 := by rw [hW]; simp
  have g0 : W.heap[w.heap.size]? = some (.cells #[.string x, .string y, .string z] 38) := by rw [hW]; exact heap_alloc_new w _
  have HB : Hid (Below w.heap.size w W) := Lib.hid (by rw [hW]; exact (Below.refl _ _).alloc (Nat.le_refl _) _)
  have HS := Lib.hid (subst_any (appF x y z) 196 #[.pointer (some ⟨w.heap.size, 0, none⟩)] s W hs (enters_of Tryz.func196 (by kernel_rfl) rfl)
    (fun c V hV => have k := (hV.block _ (by omega)).trans g0
      appClo_any x y z c w.heap.size V hx hy hz (cell_of_row V w.heap.size 0 _ _ (0, 0) k) (cell_of_row V w.heap.size 1 _ _ (0, 0) k) (cell_of_row V w.heap.size 2 _ _ (0, 0) k)))
  have HZ := Lib.hid hz'
  clear g0 hz' hx hy hz hs
  go_enter Tryz.func161, Tryz.ntmps161
  go_wp2_with fail
  rw [← hW]
  refine HS.out.mono ?_
  rintro e w1 ⟨rfl, hb⟩
  have HE := Lib.hid (HB.out.trans (hb.mono (by rw [HZ.out]; omega)))
  clear hb
  go_wp2_with fail
  go_ret
  exact ⟨rfl, HE.out⟩
end Go.Proofs.YtppliiingoonlaaGreatDoor

/-
  What impl's functions that tell whether a constraint holds answer: hasEqualWords, hasWordInLanguage, hasLengthsWithinBound, and the opposite of the first two.
-/
namespace Go.Proofs.YtppliiingoonlaaGreatDoor
open Go.RowKit
def eqW (c : Cx) (x y z : ByteArray) : Bool := decide (appL x y z c.l.data.toList = appL x y z c.r.data.toList)

set_option maxRecDepth 100000 in
set_option maxHeartbeats 3200000 in
theorem eqWords_any (c : Cx) (xu vc : Value) (x y z : ByteArray) (w : World) (h : CnO w xu vc c) (hl : c.l.size ≤ 12) (hr : c.r.size ≤ 12) (hV : isV x y z = true) :
    Calls Tryz.prog 102 #[.agg #[.int .i64 c.k, .string c.l, .string c.r, .int .i64 c.xk, .string c.xl, xu, vc, .int .i64 c.b], .agg #[.string x, .string y, .string z]] w fun e w' => e = .returned (.bool (eqW c x y z)) ∧ Below w.heap.size w w' := by
  obtain ⟨A, m, B, r, rfl, rfl⟩ := h.shape
  obtain ⟨hx, hy, hz⟩ := isV_sizes hV
  have HT := Lib.hid (twoC_new w c (.slice A c.xa.items.length m) (.slice B c.cs.length r) x y z 29 38)
  obtain ⟨W, hW⟩ : ∃ W, W = (w.alloc (.cells #[.int .i64 c.k, .string c.l, .string c.r, .int .i64 c.xk, .string c.xl, .slice A c.xa.items.length m, .slice B c.cs.length r, .int .i64 c.b] 29)).alloc (.cells #[.string x, .string y, .string z] 38) := ⟨_, rfl⟩
  have k := HT.out
  rw [← hW] at k
  have HK := Lib.hid k
  have HWE := Lib.hid hW
  have HAl := Lib.hid (fun V => implApp_any c.l x y z V (by omega) (by omega) (by omega) (by omega))
  have HAr := Lib.hid (fun V => implApp_any c.r x y z V (by omega) (by omega) (by omega) (by omega))
  obtain ⟨wa, hwa⟩ : ∃ wa, wa = strL (limB (subL (appF x y z) c.l.data.toList)) := ⟨_, rfl⟩
  obtain ⟨wb, hwb⟩ : ∃ wb, wb = strL (limB (subL (appF x y z) c.r.data.toList)) := ⟨_, rfl⟩
  rw [← hwa] at HAl
  rw [← hwb] at HAr
  have HR : Hid (eqW c x y z = (wa.toList == wb.toList)) := Lib.hid (by
    have e1 : wa.toList = appL x y z c.l.data.toList := by rw [ByteArray.toList_eq, hwa, strL_list]; rfl
    have e2 : wb.toList = appL x y z c.r.data.toList := by rw [ByteArray.toList_eq, hwb, strL_list]; rfl
    rw [e1, e2]
    unfold eqW
    rw [Bool.eq_iff_iff]
    simp)
  have HKB : Hid (∀ V, Below W.heap.size W V → V.cell? ⟨w.heap.size, 1, none⟩ = some (.string c.l) ∧ V.cell? ⟨w.heap.size, 2, none⟩ = some (.string c.r) ∧ V.cell? ⟨w.heap.size + 1, 0, none⟩ = some (.string x) ∧ V.cell? ⟨w.heap.size + 1, 1, none⟩ = some (.string y) ∧ V.cell? ⟨w.heap.size + 1, 2, none⟩ = some (.string z)) :=
    Lib.hid (fun V hb => ⟨(HK.out.box V hb).2.1, (HK.out.box V hb).2.2.1, HK.out.val V hb⟩)
  clear k hW hwa hwb h
  go_enter Tryz.func102, Tryz.ntmps102
  go_wp2_with fail
  rw [← HWE.out]
  have hbw : Below W.heap.size W W := Below.refl _ _
  go_region_held3 (fun V => V.cell? ⟨w.heap.size, 1, none⟩ = some (.string c.l) ∧ V.cell? ⟨w.heap.size, 2, none⟩ = some (.string c.r) ∧ V.cell? ⟨w.heap.size + 1, 0, none⟩ = some (.string x) ∧ V.cell? ⟨w.heap.size + 1, 1, none⟩ = some (.string y) ∧ V.cell? ⟨w.heap.size + 1, 2, none⟩ = some (.string z)) (with_reducible first | exact HKB.out _ hbw.drew | exact HKB.out _ hbw) (first | (go_at_call 161; (with_reducible refine (HAl.out _).mono ?_); rintro e1 w4 ⟨rfl, hb4⟩; (first | (have hbw := hbw.drew.trans (hb4.mono hbw.drew.size)) | (have hbw := hbw.trans (hb4.mono hbw.size)))) | (go_at_call 161; (with_reducible refine (HAr.out _).mono ?_); rintro e1 w4 ⟨rfl, hb4⟩; (first | (have hbw := hbw.drew.trans (hb4.mono hbw.drew.size)) | (have hbw := hbw.trans (hb4.mono hbw.size)))))
  all_goals
    have HW := Lib.hid hbw
    clear hbw hb4
    go_wp2_with fail
    go_ret
    exact ⟨congrArg (fun z => Ending.returned (.bool z)) HR.out.symm, HK.out.was HW.out⟩

set_option maxRecDepth 100000 in
set_option maxHeartbeats 3200000 in
theorem inLang_any (c : Cx) (xu vc : Value) (x y z : ByteArray) (w : World) (h : CnO w xu vc c) (hl : isT c.l.data.toList = true) (hv : validRx c.xk c.xl c.xa = true) (hV : isV x y z = true) :
    Calls Tryz.prog 107 #[.agg #[.int .i64 c.k, .string c.l, .string c.r, .int .i64 c.xk, .string c.xl, xu, vc, .int .i64 c.b], .agg #[.string x, .string y, .string z]] w fun e w' => e = .returned (.bool (inLang c.xk c.xl c.xa (appL x y z c.l.data.toList))) ∧ Below w.heap.size w w' := by
  obtain ⟨A, m, B, r, rfl, rfl⟩ := h.shape
  obtain ⟨hx, hy, hz⟩ := isV_sizes hV
  have HT := Lib.hid (twoC_new w c (.slice A c.xa.items.length m) (.slice B c.cs.length r) x y z 29 38)
  obtain ⟨W, hW⟩ : ∃ W, W = (w.alloc (.cells #[.int .i64 c.k, .string c.l, .string c.r, .int .i64 c.xk, .string c.xl, .slice A c.xa.items.length m, .slice B c.cs.length r, .int .i64 c.b] 29)).alloc (.cells #[.string x, .string y, .string z] 38) := ⟨_, rfl⟩
  have k := HT.out
  rw [← hW] at k
  have HK := Lib.hid k
  have HWE := Lib.hid hW
  have hls : c.l.size ≤ 12 := by simpa using isT_len hl
  have HAl := Lib.hid (fun V => implApp_any c.l x y z V (by omega) (by omega) (by omega) (by omega))
  obtain ⟨wa, hwa⟩ : ∃ wa, wa = strL (limB (subL (appF x y z) c.l.data.toList)) := ⟨_, rfl⟩
  have hws : wa.size ≤ 400 := by rw [hwa, strL_size]; exact Nat.le_trans (app_word hV hl) (by omega)
  have hcn : ∀ V, Below W.heap.size W V → CnO V (.slice A c.xa.items.length m) (.slice B c.cs.length r) c := fun V hb => h.kept (HK.out.was hb)
  have HM := Lib.hid (fun (V : World) (hb : Below W.heap.size W V) => by
    obtain ⟨_, ⟨n, hS⟩, _⟩ := (hcn V hb).read
    exact matcherOf_any wa hws n V.heap.size c.xk c.xl (.slice A c.xa.items.length m) c.xa V hS (Nat.le_refl _) (valid_ok hv))
  have HR : Hid (inLang c.xk c.xl c.xa (appL x y z c.l.data.toList) = nodeM wa.data.toList c.xk c.xl.data.toList (mts wa.data.toList c.xa) 0 wa.size) := Lib.hid (by
    rw [hwa, inLang_str]
    rfl)
  rw [← hwa] at HAl
  obtain ⟨c0, c1, c2, c3, c4, c5, c6, c7⟩ := HT.out.box _ (Below.refl _ _)
  obtain ⟨v0, v1, v2⟩ := HT.out.val _ (Below.refl _ _)
  clear k hW hwa h hls hl hv hV hcn
  go_enter Tryz.func107, Tryz.ntmps107
  go_wp2_with fail
  rw [← HWE.out]
  refine (HAl.out W).mono ?_
  rintro e w1 ⟨rfl, hb1⟩
  have HB1 := Lib.hid hb1
  clear hb1 c0 c1 c2 c3 c4 c5 c6 c7 v0 v1 v2
  obtain ⟨c0, c1, c2, c3, c4, c5, c6, c7⟩ := HK.out.box w1 HB1.out
  go_wp2_with fail
  refine (HM.out w1 HB1.out).mono ?_
  rintro e w2 ⟨k2, cap2, J2, S2, rfl, m2, h2, hS2, hb2⟩
  have HB2 := Lib.hid (HB1.out.trans (hb2.mono HB1.out.size))
  have en := m2.enter
  have HC := Lib.hid (m2.call 0 wa.size (Nat.zero_le _) (Nat.le_refl _) w2 h2)
  have HS2 := Lib.hid hS2
  clear m2 h2 hS2 hb2
  go_wp2_with (go_at_fn k2; refine HC.out.mono ?_; rintro e w3 ⟨rfl, hJ3, hc3⟩)
  have HB3 := Lib.hid (hc3.old (B := W.heap.size) (fun g hg => Nat.le_trans HB1.out.size ((HS2.out g hg).resolve_left id)) HB2.out.size)
  clear hJ3 hc3
  go_ret
  exact ⟨congrArg (fun b => Ending.returned (.bool b)) HR.out.symm, HK.out.was (HB2.out.trans HB3.out)⟩

set_option maxRecDepth 100000 in
set_option maxHeartbeats 3200000 in
theorem inBound_any (c : Cx) (xu vc : Value) (x y z : ByteArray) (a d e : Int) (w : World) (h : CnO w xu vc c) (hcs : c.cs = [a, d, e]) (ha : -9 ≤ a ∧ a ≤ 9) (hd : -9 ≤ d ∧ d ≤ 9) (he : -9 ≤ e ∧ e ≤ 9) (hV : isV x y z = true) :
    Calls Tryz.prog 111 #[.agg #[.int .i64 c.k, .string c.l, .string c.r, .int .i64 c.xk, .string c.xl, xu, vc, .int .i64 c.b], .agg #[.string x, .string y, .string z]] w fun r w' => r = .returned (.bool (decide (sumX c.cs x y z ≤ c.b))) ∧ Below w.heap.size w w' := by
  obtain ⟨A, m, B, r, rfl, rfl⟩ := h.shape
  obtain ⟨hx, hy, hz⟩ := isV_sizes hV
  have HT := Lib.hid (twoC_new w c (.slice A c.xa.items.length m) (.slice B c.cs.length r) x y z 29 38)
  obtain ⟨W, hW⟩ : ∃ W, W = (w.alloc (.cells #[.int .i64 c.k, .string c.l, .string c.r, .int .i64 c.xk, .string c.xl, .slice A c.xa.items.length m, .slice B c.cs.length r, .int .i64 c.b] 29)).alloc (.cells #[.string x, .string y, .string z] 38) := ⟨_, rfl⟩
  have k := HT.out
  rw [← hW] at k
  have HK := Lib.hid k
  have HWE := Lib.hid hW
  clear k HT
  obtain ⟨k, l, rr, xk, xl, xa, cs, b⟩ := c
  simp only at hcs
  subst hcs
  simp only
  have m1 := mul_bound ha.1 ha.2 hx
  have m2 := mul_bound hd.1 hd.2 hy
  have m3 := mul_bound he.1 he.2 hz
  obtain ⟨p1, hp1⟩ : ∃ p, p = a * (x.size : Int) := ⟨_, rfl⟩
  obtain ⟨p2, hp2⟩ : ∃ p, p = d * (y.size : Int) := ⟨_, rfl⟩
  obtain ⟨p3, hp3⟩ : ∃ p, p = e * (z.size : Int) := ⟨_, rfl⟩
  rw [← hp1] at m1
  rw [← hp2] at m2
  rw [← hp3] at m3
  obtain ⟨s1, hs1⟩ : ∃ s, s = p1 := ⟨_, rfl⟩
  obtain ⟨s2, hs2⟩ : ∃ s, s = s1 + p2 := ⟨_, rfl⟩
  obtain ⟨s3, hs3⟩ : ∃ s, s = s2 + p3 := ⟨_, rfl⟩
  have HM0 := Lib.hid (show IntKind.i64.wrap (a * (x.size : Int)) = p1 by rw [← hp1]; exact IntWalk.i64_in _ (by omega))
  have HM1 := Lib.hid (show IntKind.i64.wrap (d * (y.size : Int)) = p2 by rw [← hp2]; exact IntWalk.i64_in _ (by omega))
  have HM2 := Lib.hid (show IntKind.i64.wrap (e * (z.size : Int)) = p3 by rw [← hp3]; exact IntWalk.i64_in _ (by omega))
  have HS0 := Lib.hid (show IntKind.i64.wrap p1 = s1 by rw [hs1]; exact IntWalk.i64_in _ (by omega))
  have HS1 := Lib.hid (show IntKind.i64.wrap (s1 + p2) = s2 by rw [hs2]; exact IntWalk.i64_in _ (by omega))
  have HS2 := Lib.hid (show IntKind.i64.wrap (s2 + p3) = s3 by rw [hs3]; exact IntWalk.i64_in _ (by omega))
  have HR : Hid (decide (sumX [a, d, e] x y z ≤ b) = decide (s3 ≤ b)) := Lib.hid (by
    rw [show sumX [a, d, e] x y z = s3 by rw [hs3, hs2, hs1, hp1, hp2, hp3]; rfl])
  have HV0 := Lib.hid (fun V => (implVal_any x y z 88 V))
  have HV1 := Lib.hid (fun V => (implVal_any x y z 89 V))
  have HV2 := Lib.hid (fun V => (implVal_any x y z 90 V))
  rw [show valB x y z 88 = x from rfl, show ((88 : UInt8).toNat : Int) = 88 from rfl] at HV0
  rw [show valB x y z 89 = y from rfl, show ((89 : UInt8).toNat : Int) = 89 from rfl] at HV1
  rw [show valB x y z 90 = z from rfl, show ((90 : UInt8).toNat : Int) = 90 from rfl] at HV2
  have HCN := Lib.hid (fun (V : World) (hb : Below W.heap.size W V) => three_ints (a := a) (d := d) (e := e) ((h.kept (HK.out.was hb)).2.2))
  have HC67 : Hid (∀ V, Below W.heap.size W V → V.cell? ⟨w.heap.size, 6, none⟩ = some (.slice B 3 r) ∧ V.cell? ⟨w.heap.size, 7, none⟩ = some (.int .i64 b)) := Lib.hid (fun V hb => ⟨(HK.out.box V hb).2.2.2.2.2.2.1, (HK.out.box V hb).2.2.2.2.2.2.2⟩)
  have HWE3 : Hid (W = (w.alloc (.cells #[.int .i64 k, .string l, .string rr, .int .i64 xk, .string xl, .slice A xa.items.length m, .slice B 3 r, .int .i64 b] 29)).alloc (.cells #[.string x, .string y, .string z] 38)) := Lib.hid HWE.out
  clear hp1 hp2 hp3 hs1 hs2 hs3 m1 m2 m3 hW h ha hd he
  go_enter Tryz.func111, Tryz.ntmps111
  go_wp2_with fail
  rw [← HWE3.out]
  go_loopw [5, 11] (fun s i wr => ∃ j : Nat, j ≤ 3 ∧ (i = .int .i64 0 ∧ j = 0 ∧ s = .int .i64 0 ∨ i = .int .i64 1 ∧ j = 1 ∧ s = .int .i64 s1 ∨ i = .int .i64 2 ∧ j = 2 ∧ s = .int .i64 s2 ∨ i = .int .i64 3 ∧ j = 3 ∧ s = .int .i64 s3) ∧ Below W.heap.size W wr) (fun _ i _ => 3 - (intOf i).toNat)
  case atStart => exact ⟨0, Nat.zero_le _, Or.inl ⟨rfl, rfl, rfl⟩, Below.refl _ _⟩
  case round =>
    obtain ⟨j, hj, hij, hbr⟩ := hrel
    have HBr := Lib.hid hbr
    obtain ⟨g, hg, q0, q1, q2⟩ := HCN.out _ hbr
    obtain ⟨c6, c7⟩ := HC67.out _ hbr
    subst hg
    clear hbr
    rcases hij with ⟨rfl, rfl, rfl⟩ | ⟨rfl, rfl, rfl⟩ | ⟨rfl, rfl, rfl⟩ | ⟨rfl, rfl, rfl⟩
    · have k1 := HM0.out
      have k2 := HS0.out
      have hbw : Below wr.heap.size wr wr := Below.refl _ _
      have HL := Lib.hid (fun V (hb : Below wr.heap.size wr V) => HBr.out.trans (hb.mono HBr.out.size))
      go_wp2_with fail
      go_region_held3 (fun V => V.cell? ⟨w.heap.size + 1, 0, none⟩ = some (.string x) ∧ V.cell? ⟨w.heap.size + 1, 1, none⟩ = some (.string y) ∧ V.cell? ⟨w.heap.size + 1, 2, none⟩ = some (.string z)) (with_reducible first | exact HK.out.val _ (HL.out _ hbw.drew) | exact HK.out.val _ (HL.out _ hbw)) (first | (go_at_call 145; (refine (HV0.out _).mono ?_); rintro e1 w4 ⟨rfl, hb4⟩; (first | (have hbw := hbw.drew.trans (hb4.mono hbw.drew.size)) | (have hbw := hbw.trans (hb4.mono hbw.size)))))
      all_goals
        have HB4 := Lib.hid (HL.out _ hbw)
        clear hbw hb4 k1 k2
        go_wp2_with fail
        go_roundw
        case rel => exact ⟨1, by omega, Or.inr (Or.inl ⟨rfl, rfl, rfl⟩), HB4.out⟩
        case measure => simp [intOf]
    · have k1 := HM1.out
      have k2 := HS1.out
      have hbw : Below wr.heap.size wr wr := Below.refl _ _
      have HL := Lib.hid (fun V (hb : Below wr.heap.size wr V) => HBr.out.trans (hb.mono HBr.out.size))
      go_wp2_with fail
      go_region_held3 (fun V => V.cell? ⟨w.heap.size + 1, 0, none⟩ = some (.string x) ∧ V.cell? ⟨w.heap.size + 1, 1, none⟩ = some (.string y) ∧ V.cell? ⟨w.heap.size + 1, 2, none⟩ = some (.string z)) (with_reducible first | exact HK.out.val _ (HL.out _ hbw.drew) | exact HK.out.val _ (HL.out _ hbw)) (first | (go_at_call 145; (refine (HV1.out _).mono ?_); rintro e1 w4 ⟨rfl, hb4⟩; (first | (have hbw := hbw.drew.trans (hb4.mono hbw.drew.size)) | (have hbw := hbw.trans (hb4.mono hbw.size)))))
      all_goals
        have HB4 := Lib.hid (HL.out _ hbw)
        clear hbw hb4 k1 k2
        go_wp2_with fail
        go_roundw
        case rel => exact ⟨2, by omega, Or.inr (Or.inr (Or.inl ⟨rfl, rfl, rfl⟩)), HB4.out⟩
        case measure => simp [intOf]
    · have k1 := HM2.out
      have k2 := HS2.out
      have hbw : Below wr.heap.size wr wr := Below.refl _ _
      have HL := Lib.hid (fun V (hb : Below wr.heap.size wr V) => HBr.out.trans (hb.mono HBr.out.size))
      go_wp2_with fail
      go_region_held3 (fun V => V.cell? ⟨w.heap.size + 1, 0, none⟩ = some (.string x) ∧ V.cell? ⟨w.heap.size + 1, 1, none⟩ = some (.string y) ∧ V.cell? ⟨w.heap.size + 1, 2, none⟩ = some (.string z)) (with_reducible first | exact HK.out.val _ (HL.out _ hbw.drew) | exact HK.out.val _ (HL.out _ hbw)) (first | (go_at_call 145; (refine (HV2.out _).mono ?_); rintro e1 w4 ⟨rfl, hb4⟩; (first | (have hbw := hbw.drew.trans (hb4.mono hbw.drew.size)) | (have hbw := hbw.trans (hb4.mono hbw.size)))))
      all_goals
        have HB4 := Lib.hid (HL.out _ hbw)
        clear hbw hb4 k1 k2
        go_wp2_with fail
        go_roundw
        case rel => exact ⟨3, by omega, Or.inr (Or.inr (Or.inr (⟨rfl, rfl, rfl⟩))), HB4.out⟩
        case measure => simp [intOf]
    · go_wp2_with fail
      go_ret
      exact ⟨congrArg (fun z => Ending.returned (.bool z)) HR.out.symm, HK.out.was HBr.out⟩

set_option maxRecDepth 100000 in
set_option maxHeartbeats 3200000 in
theorem oppEq_any (c : Cx) (xu vc : Value) (x y z : ByteArray) (s : Nat) (w : World) (hcell : w.cell? ⟨s, 0, none⟩ = some (.func (.func 102) #[] #[])) (h : CnO w xu vc c) (hl : c.l.size ≤ 12) (hr : c.r.size ≤ 12) (hV : isV x y z = true) :
    Calls Tryz.prog 164 #[.agg #[.int .i64 c.k, .string c.l, .string c.r, .int .i64 c.xk, .string c.xl, xu, vc, .int .i64 c.b], .agg #[.string x, .string y, .string z], .pointer (some ⟨s, 0, none⟩)] w fun e w' => e = .returned (.bool (!eqW c x y z)) ∧ Below w.heap.size w w' := by
  obtain ⟨A, m, B, r, rfl, rfl⟩ := h.shape
  have hsl : s < w.heap.size := World.block_lt_of_cell? w _ hcell
  have HT := Lib.hid (twoC_new w c (.slice A c.xa.items.length m) (.slice B c.cs.length r) x y z 29 38)
  obtain ⟨W, hW⟩ : ∃ W, W = (w.alloc (.cells #[.int .i64 c.k, .string c.l, .string c.r, .int .i64 c.xk, .string c.xl, .slice A c.xa.items.length m, .slice B c.cs.length r, .int .i64 c.b] 29)).alloc (.cells #[.string x, .string y, .string z] 38) := ⟨_, rfl⟩
  have k := HT.out
  rw [← hW] at k
  have HK := Lib.hid k
  have HWE := Lib.hid hW
  have HC := Lib.hid ((fun V h => eqWords_any c _ _ x y z V h hl hr hV) W (h.kept k.old))
  obtain ⟨c0, c1, c2, c3, c4, c5, c6, c7⟩ := HT.out.box _ (Below.refl _ _)
  obtain ⟨v0, v1, v2⟩ := HT.out.val _ (Below.refl _ _)
  obtain ⟨res, hres⟩ : ∃ res, res = eqW c x y z := ⟨_, rfl⟩
  rw [← hres] at HC ⊢
  clear k hW h hres
  go_enter Tryz.func164, Tryz.ntmps164
  go_wp2_with fail
  rw [← HWE.out]
  refine HC.out.mono ?_
  rintro e w1 ⟨rfl, hb1⟩
  have HB1 := Lib.hid hb1
  clear hb1
  go_wp2_with fail
  go_ret
  exact ⟨rfl, HK.out.was HB1.out⟩

set_option maxRecDepth 100000 in
set_option maxHeartbeats 3200000 in
theorem oppIn_any (c : Cx) (xu vc : Value) (x y z : ByteArray) (s : Nat) (w : World) (hcell : w.cell? ⟨s, 0, none⟩ = some (.func (.func 107) #[] #[])) (h : CnO w xu vc c) (hl : isT c.l.data.toList = true) (hv : validRx c.xk c.xl c.xa = true) (hV : isV x y z = true) :
    Calls Tryz.prog 164 #[.agg #[.int .i64 c.k, .string c.l, .string c.r, .int .i64 c.xk, .string c.xl, xu, vc, .int .i64 c.b], .agg #[.string x, .string y, .string z], .pointer (some ⟨s, 0, none⟩)] w fun e w' => e = .returned (.bool (!inLang c.xk c.xl c.xa (appL x y z c.l.data.toList))) ∧ Below w.heap.size w w' := by
  obtain ⟨A, m, B, r, rfl, rfl⟩ := h.shape
  have hsl : s < w.heap.size := World.block_lt_of_cell? w _ hcell
  have HT := Lib.hid (twoC_new w c (.slice A c.xa.items.length m) (.slice B c.cs.length r) x y z 29 38)
  obtain ⟨W, hW⟩ : ∃ W, W = (w.alloc (.cells #[.int .i64 c.k, .string c.l, .string c.r, .int .i64 c.xk, .string c.xl, .slice A c.xa.items.length m, .slice B c.cs.length r, .int .i64 c.b] 29)).alloc (.cells #[.string x, .string y, .string z] 38) := ⟨_, rfl⟩
  have k := HT.out
  rw [← hW] at k
  have HK := Lib.hid k
  have HWE := Lib.hid hW
  have HC := Lib.hid ((fun V h => inLang_any c _ _ x y z V h hl hv hV) W (h.kept k.old))
  obtain ⟨c0, c1, c2, c3, c4, c5, c6, c7⟩ := HT.out.box _ (Below.refl _ _)
  obtain ⟨v0, v1, v2⟩ := HT.out.val _ (Below.refl _ _)
  obtain ⟨res, hres⟩ : ∃ res, res = inLang c.xk c.xl c.xa (appL x y z c.l.data.toList) := ⟨_, rfl⟩
  rw [← hres] at HC ⊢
  clear k hW h hres
  go_enter Tryz.func164, Tryz.ntmps164
  go_wp2_with fail
  rw [← HWE.out]
  refine HC.out.mono ?_
  rintro e w1 ⟨rfl, hb1⟩
  have HB1 := Lib.hid hb1
  clear hb1
  go_wp2_with fail
  go_ret
  exact ⟨rfl, HK.out.was HB1.out⟩
end Go.Proofs.YtppliiingoonlaaGreatDoor

/-
  What impl.HoldsFor answers.
-/
namespace Go.Proofs.YtppliiingoonlaaGreatDoor
open Go.RowKit
set_option maxRecDepth 100000 in
set_option maxHeartbeats 12800000 in
theorem implHoldsFor_any (c : Cx) (xu vc : Value) (x y z : ByteArray) (w : World) (h : CnO w xu vc c) (hsz : c.xa.size ≤ 2097152) (hx : x.size ≤ maxLen) (hy : y.size ≤ maxLen) (hz : z.size ≤ maxLen) :
    Calls Tryz.prog 24 #[.agg #[.int .i64 c.k, .string c.l, .string c.r, .int .i64 c.xk, .string c.xl, xu, vc, .int .i64 c.b], .agg #[.string x, .string y, .string z]] w fun e w' => e = .returned (.bool (holdsFor c x y z)) ∧ Below w.heap.size w w' := by
  obtain ⟨A, m, B, r, rfl, rfl⟩ := h.shape
  have HT := Lib.hid (twoC_new w c (.slice A c.xa.items.length m) (.slice B c.cs.length r) x y z 29 38)
  obtain ⟨W, hW⟩ : ∃ W, W = (w.alloc (.cells #[.int .i64 c.k, .string c.l, .string c.r, .int .i64 c.xk, .string c.xl, .slice A c.xa.items.length m, .slice B c.cs.length r, .int .i64 c.b] 29)).alloc (.cells #[.string x, .string y, .string z] 38) := ⟨_, rfl⟩
  have HWE := Lib.hid hW
  have k := HT.out
  rw [← hW] at k
  have HK := Lib.hid k
  have HFO := Lib.hid (formOf9_any c _ _ W (h.kept k.old) hsz)
  have HCN := Lib.hid (fun (V : World) (hb : Below W.heap.size W V) => h.kept (k.was hb))
  have HVV := Lib.hid (fun (V : World) => implIsV_any x y z V hx hy hz)
  obtain ⟨c0, c1, c2, c3, c4, c5, c6, c7⟩ := HT.out.box _ (Below.refl _ _)
  obtain ⟨v0, v1, v2⟩ := HT.out.val _ (Below.refl _ _)
  clear k hW h hsz hx hy hz
  cases hv : validX c with
  | false =>
    have HR := Lib.hid (show holdsFor c x y z = false by unfold holdsFor; rw [hv]; rfl)
    unfold FoPost at HFO
    rw [hv] at HFO
    clear hv
    rcases kinds6 c.k with hk | hk | hk | hk | hk | hk
    · have HA : Hid (∀ s, formArr s c.k.toNat = #[.int .i64 1, .string ⟨#[61]⟩, .func (.func 101) #[] #[], .func (.func 102) #[] #[], .func (.func 103) #[] #[], .func (.func 104) #[] #[]]) := Lib.hid (fun s => by rw [hk]; rfl)
      clear hk
      go_enter Tryz.func24, Tryz.ntmps24
      go_wp2_with fail
      rw [← HWE.out]
      refine HFO.out.mono ?_
      rintro e w1 ⟨s, hs, hf, rfl, hb1⟩
      rw [HA.out]
      have HB1 := Lib.hid hb1
      have HF1 := Lib.hid hf
      have hsw : s + 1 < w1.heap.size := (Array.getElem?_eq_some_iff.1 hf.2.1).1
      clear hf hb1 hs c0 c1 c2 c3 c4 c5 c6 c7 v0 v1 v2
      go_wp2_with fail
      go_ret
      exact ⟨congrArg (fun z => Ending.returned (.bool z)) HR.out.symm, (HK.out.was HB1.out).alloc (HK.out.was HB1.out).size _⟩
    · have HA : Hid (∀ s, formArr s c.k.toNat = #[.int .i64 2, .string ⟨#[33, 61]⟩, .func (.func 101) #[] #[], .func (.func 164) #[] #[.pointer (some ⟨s, 0, none⟩)], .func (.func 103) #[] #[], .func (.func 104) #[] #[]]) := Lib.hid (fun s => by rw [hk]; rfl)
      clear hk
      go_enter Tryz.func24, Tryz.ntmps24
      go_wp2_with fail
      rw [← HWE.out]
      refine HFO.out.mono ?_
      rintro e w1 ⟨s, hs, hf, rfl, hb1⟩
      rw [HA.out]
      have HB1 := Lib.hid hb1
      have HF1 := Lib.hid hf
      have hsw : s + 1 < w1.heap.size := (Array.getElem?_eq_some_iff.1 hf.2.1).1
      clear hf hb1 hs c0 c1 c2 c3 c4 c5 c6 c7 v0 v1 v2
      go_wp2_with fail
      go_ret
      exact ⟨congrArg (fun z => Ending.returned (.bool z)) HR.out.symm, (HK.out.was HB1.out).alloc (HK.out.was HB1.out).size _⟩
    · have HA : Hid (∀ s, formArr s c.k.toNat = #[.int .i64 3, .string ⟨#[105, 110]⟩, .func (.func 106) #[] #[], .func (.func 107) #[] #[], .func (.func 108) #[] #[], .func (.func 109) #[] #[]]) := Lib.hid (fun s => by rw [hk]; rfl)
      clear hk
      go_enter Tryz.func24, Tryz.ntmps24
      go_wp2_with fail
      rw [← HWE.out]
      refine HFO.out.mono ?_
      rintro e w1 ⟨s, hs, hf, rfl, hb1⟩
      rw [HA.out]
      have HB1 := Lib.hid hb1
      have HF1 := Lib.hid hf
      have hsw : s + 1 < w1.heap.size := (Array.getElem?_eq_some_iff.1 hf.2.1).1
      clear hf hb1 hs c0 c1 c2 c3 c4 c5 c6 c7 v0 v1 v2
      go_wp2_with fail
      go_ret
      exact ⟨congrArg (fun z => Ending.returned (.bool z)) HR.out.symm, (HK.out.was HB1.out).alloc (HK.out.was HB1.out).size _⟩
    · have HA : Hid (∀ s, formArr s c.k.toNat = #[.int .i64 4, .string ⟨#[111, 117, 116]⟩, .func (.func 106) #[] #[], .func (.func 164) #[] #[.pointer (some ⟨s + 1, 0, none⟩)], .func (.func 108) #[] #[], .func (.func 109) #[] #[]]) := Lib.hid (fun s => by rw [hk]; rfl)
      clear hk
      go_enter Tryz.func24, Tryz.ntmps24
      go_wp2_with fail
      rw [← HWE.out]
      refine HFO.out.mono ?_
      rintro e w1 ⟨s, hs, hf, rfl, hb1⟩
      rw [HA.out]
      have HB1 := Lib.hid hb1
      have HF1 := Lib.hid hf
      have hsw : s + 1 < w1.heap.size := (Array.getElem?_eq_some_iff.1 hf.2.1).1
      clear hf hb1 hs c0 c1 c2 c3 c4 c5 c6 c7 v0 v1 v2
      go_wp2_with fail
      go_ret
      exact ⟨congrArg (fun z => Ending.returned (.bool z)) HR.out.symm, (HK.out.was HB1.out).alloc (HK.out.was HB1.out).size _⟩
    · have HA : Hid (∀ s, formArr s c.k.toNat = #[.int .i64 5, .string ⟨#[108, 101, 110]⟩, .func (.func 110) #[] #[], .func (.func 111) #[] #[], .func (.func 112) #[] #[], .func (.func 113) #[] #[]]) := Lib.hid (fun s => by rw [hk]; rfl)
      clear hk
      go_enter Tryz.func24, Tryz.ntmps24
      go_wp2_with fail
      rw [← HWE.out]
      refine HFO.out.mono ?_
      rintro e w1 ⟨s, hs, hf, rfl, hb1⟩
      rw [HA.out]
      have HB1 := Lib.hid hb1
      have HF1 := Lib.hid hf
      have hsw : s + 1 < w1.heap.size := (Array.getElem?_eq_some_iff.1 hf.2.1).1
      clear hf hb1 hs c0 c1 c2 c3 c4 c5 c6 c7 v0 v1 v2
      go_wp2_with fail
      go_ret
      exact ⟨congrArg (fun z => Ending.returned (.bool z)) HR.out.symm, (HK.out.was HB1.out).alloc (HK.out.was HB1.out).size _⟩
    · have HA : Hid (∀ s, formArr s c.k.toNat = #[.int .i64 0, .string ⟨#[]⟩, .nilFunc, .nilFunc, .nilFunc, .nilFunc]) := Lib.hid (fun s => formArr_none (by omega) (by omega) (by omega) (by omega) (by omega))
      clear hk
      go_enter Tryz.func24, Tryz.ntmps24
      go_wp2_with fail
      rw [← HWE.out]
      refine HFO.out.mono ?_
      rintro e w1 ⟨s, hs, hf, rfl, hb1⟩
      rw [HA.out]
      have HB1 := Lib.hid hb1
      have HF1 := Lib.hid hf
      have hsw : s + 1 < w1.heap.size := (Array.getElem?_eq_some_iff.1 hf.2.1).1
      clear hf hb1 hs c0 c1 c2 c3 c4 c5 c6 c7 v0 v1 v2
      go_wp2_with fail
      go_ret
      exact ⟨congrArg (fun z => Ending.returned (.bool z)) HR.out.symm, (HK.out.was HB1.out).alloc (HK.out.was HB1.out).size _⟩
  | true =>
    unfold FoPost at HFO
    rw [hv] at HFO
    have hkk := valid_kinds (c := c.cn) hv
    have HVA := Lib.hid hv
    cases hi : isV x y z with
    | false =>
      rw [hi] at HVV
      have HR := Lib.hid (show holdsFor c x y z = false by unfold holdsFor; rw [hv, hi]; rfl)
      clear hv hi
      rcases hkk with hk | hk | hk | hk | hk
      all_goals (have hk : c.k = _ := hk)
      · have HA : Hid (∀ s, formArr s c.k.toNat = #[.int .i64 1, .string ⟨#[61]⟩, .func (.func 101) #[] #[], .func (.func 102) #[] #[], .func (.func 103) #[] #[], .func (.func 104) #[] #[]]) := Lib.hid (fun s => by rw [hk]; rfl)
        clear hk
        go_enter Tryz.func24, Tryz.ntmps24
        go_wp2_with fail
        rw [← HWE.out]
        refine HFO.out.mono ?_
        rintro e w1 ⟨s, hs, hf, rfl, hb1⟩
        rw [HA.out]
        have HB1 := Lib.hid hb1
        have HF1 := Lib.hid hf
        have hsw : s + 1 < w1.heap.size := (Array.getElem?_eq_some_iff.1 hf.2.1).1
        clear hf hb1 hs c0 c1 c2 c3 c4 c5 c6 c7 v0 v1 v2
        obtain ⟨v0, v1, v2⟩ := HK.out.val w1 HB1.out
        have hlt1 : w.heap.size + 1 < w1.heap.size := by have := HB1.out.size; have := HK.out.size; omega
        have hne1 : w.heap.size + 1 ≠ w1.heap.size := by omega
        go_wp2_with fail
        obtain ⟨V, hVe⟩ : ∃ V, V = w1.alloc (.cells #[.int .i64 1, .string ⟨#[61]⟩, .func (.func 101) #[] #[], .func (.func 102) #[] #[], .func (.func 103) #[] #[], .func (.func 104) #[] #[]] 75) := ⟨_, rfl⟩
        have hbV : Below w1.heap.size w1 V := by rw [hVe]; exact (Below.refl _ _).alloc (Nat.le_refl _) _
        have hfV : V.heap[w1.heap.size]? = some (.cells #[.int .i64 1, .string ⟨#[61]⟩, .func (.func 101) #[] #[], .func (.func 102) #[] #[], .func (.func 103) #[] #[], .func (.func 104) #[] #[]] 75 (0, 0)) := by rw [hVe]; exact heap_alloc_new w1 _
        rw [← hVe]
        have HBV := Lib.hid (HB1.out.trans (hbV.mono HB1.out.size))
        have HFV := Lib.hid (HF1.out.below hbV)
        have HFB := Lib.hid hfV
        clear hVe hbV hfV
        refine (HVV.out V).mono ?_
        rintro e w2 ⟨rfl, hb2⟩
        have HB2 := Lib.hid (HBV.out.trans (hb2.mono HBV.out.size))
        clear hb2 v0 v1 v2
        go_wp2_with fail
        go_ret
        exact ⟨congrArg (fun z => Ending.returned (.bool z)) HR.out.symm, HK.out.was HB2.out⟩
      · have HA : Hid (∀ s, formArr s c.k.toNat = #[.int .i64 2, .string ⟨#[33, 61]⟩, .func (.func 101) #[] #[], .func (.func 164) #[] #[.pointer (some ⟨s, 0, none⟩)], .func (.func 103) #[] #[], .func (.func 104) #[] #[]]) := Lib.hid (fun s => by rw [hk]; rfl)
        clear hk
        go_enter Tryz.func24, Tryz.ntmps24
        go_wp2_with fail
        rw [← HWE.out]
        refine HFO.out.mono ?_
        rintro e w1 ⟨s, hs, hf, rfl, hb1⟩
        rw [HA.out]
        have HB1 := Lib.hid hb1
        have HF1 := Lib.hid hf
        have hsw : s + 1 < w1.heap.size := (Array.getElem?_eq_some_iff.1 hf.2.1).1
        clear hf hb1 hs c0 c1 c2 c3 c4 c5 c6 c7 v0 v1 v2
        obtain ⟨v0, v1, v2⟩ := HK.out.val w1 HB1.out
        have hlt1 : w.heap.size + 1 < w1.heap.size := by have := HB1.out.size; have := HK.out.size; omega
        have hne1 : w.heap.size + 1 ≠ w1.heap.size := by omega
        go_wp2_with fail
        obtain ⟨V, hVe⟩ : ∃ V, V = w1.alloc (.cells #[.int .i64 2, .string ⟨#[33, 61]⟩, .func (.func 101) #[] #[], .func (.func 164) #[] #[.pointer (some ⟨s, 0, none⟩)], .func (.func 103) #[] #[], .func (.func 104) #[] #[]] 75) := ⟨_, rfl⟩
        have hbV : Below w1.heap.size w1 V := by rw [hVe]; exact (Below.refl _ _).alloc (Nat.le_refl _) _
        have hfV : V.heap[w1.heap.size]? = some (.cells #[.int .i64 2, .string ⟨#[33, 61]⟩, .func (.func 101) #[] #[], .func (.func 164) #[] #[.pointer (some ⟨s, 0, none⟩)], .func (.func 103) #[] #[], .func (.func 104) #[] #[]] 75 (0, 0)) := by rw [hVe]; exact heap_alloc_new w1 _
        rw [← hVe]
        have HBV := Lib.hid (HB1.out.trans (hbV.mono HB1.out.size))
        have HFV := Lib.hid (HF1.out.below hbV)
        have HFB := Lib.hid hfV
        clear hVe hbV hfV
        refine (HVV.out V).mono ?_
        rintro e w2 ⟨rfl, hb2⟩
        have HB2 := Lib.hid (HBV.out.trans (hb2.mono HBV.out.size))
        clear hb2 v0 v1 v2
        go_wp2_with fail
        go_ret
        exact ⟨congrArg (fun z => Ending.returned (.bool z)) HR.out.symm, HK.out.was HB2.out⟩
      · have HA : Hid (∀ s, formArr s c.k.toNat = #[.int .i64 3, .string ⟨#[105, 110]⟩, .func (.func 106) #[] #[], .func (.func 107) #[] #[], .func (.func 108) #[] #[], .func (.func 109) #[] #[]]) := Lib.hid (fun s => by rw [hk]; rfl)
        clear hk
        go_enter Tryz.func24, Tryz.ntmps24
        go_wp2_with fail
        rw [← HWE.out]
        refine HFO.out.mono ?_
        rintro e w1 ⟨s, hs, hf, rfl, hb1⟩
        rw [HA.out]
        have HB1 := Lib.hid hb1
        have HF1 := Lib.hid hf
        have hsw : s + 1 < w1.heap.size := (Array.getElem?_eq_some_iff.1 hf.2.1).1
        clear hf hb1 hs c0 c1 c2 c3 c4 c5 c6 c7 v0 v1 v2
        obtain ⟨v0, v1, v2⟩ := HK.out.val w1 HB1.out
        have hlt1 : w.heap.size + 1 < w1.heap.size := by have := HB1.out.size; have := HK.out.size; omega
        have hne1 : w.heap.size + 1 ≠ w1.heap.size := by omega
        go_wp2_with fail
        obtain ⟨V, hVe⟩ : ∃ V, V = w1.alloc (.cells #[.int .i64 3, .string ⟨#[105, 110]⟩, .func (.func 106) #[] #[], .func (.func 107) #[] #[], .func (.func 108) #[] #[], .func (.func 109) #[] #[]] 75) := ⟨_, rfl⟩
        have hbV : Below w1.heap.size w1 V := by rw [hVe]; exact (Below.refl _ _).alloc (Nat.le_refl _) _
        have hfV : V.heap[w1.heap.size]? = some (.cells #[.int .i64 3, .string ⟨#[105, 110]⟩, .func (.func 106) #[] #[], .func (.func 107) #[] #[], .func (.func 108) #[] #[], .func (.func 109) #[] #[]] 75 (0, 0)) := by rw [hVe]; exact heap_alloc_new w1 _
        rw [← hVe]
        have HBV := Lib.hid (HB1.out.trans (hbV.mono HB1.out.size))
        have HFV := Lib.hid (HF1.out.below hbV)
        have HFB := Lib.hid hfV
        clear hVe hbV hfV
        refine (HVV.out V).mono ?_
        rintro e w2 ⟨rfl, hb2⟩
        have HB2 := Lib.hid (HBV.out.trans (hb2.mono HBV.out.size))
        clear hb2 v0 v1 v2
        go_wp2_with fail
        go_ret
        exact ⟨congrArg (fun z => Ending.returned (.bool z)) HR.out.symm, HK.out.was HB2.out⟩
      · have HA : Hid (∀ s, formArr s c.k.toNat = #[.int .i64 4, .string ⟨#[111, 117, 116]⟩, .func (.func 106) #[] #[], .func (.func 164) #[] #[.pointer (some ⟨s + 1, 0, none⟩)], .func (.func 108) #[] #[], .func (.func 109) #[] #[]]) := Lib.hid (fun s => by rw [hk]; rfl)
        clear hk
        go_enter Tryz.func24, Tryz.ntmps24
        go_wp2_with fail
        rw [← HWE.out]
        refine HFO.out.mono ?_
        rintro e w1 ⟨s, hs, hf, rfl, hb1⟩
        rw [HA.out]
        have HB1 := Lib.hid hb1
        have HF1 := Lib.hid hf
        have hsw : s + 1 < w1.heap.size := (Array.getElem?_eq_some_iff.1 hf.2.1).1
        clear hf hb1 hs c0 c1 c2 c3 c4 c5 c6 c7 v0 v1 v2
        obtain ⟨v0, v1, v2⟩ := HK.out.val w1 HB1.out
        have hlt1 : w.heap.size + 1 < w1.heap.size := by have := HB1.out.size; have := HK.out.size; omega
        have hne1 : w.heap.size + 1 ≠ w1.heap.size := by omega
        go_wp2_with fail
        obtain ⟨V, hVe⟩ : ∃ V, V = w1.alloc (.cells #[.int .i64 4, .string ⟨#[111, 117, 116]⟩, .func (.func 106) #[] #[], .func (.func 164) #[] #[.pointer (some ⟨s + 1, 0, none⟩)], .func (.func 108) #[] #[], .func (.func 109) #[] #[]] 75) := ⟨_, rfl⟩
        have hbV : Below w1.heap.size w1 V := by rw [hVe]; exact (Below.refl _ _).alloc (Nat.le_refl _) _
        have hfV : V.heap[w1.heap.size]? = some (.cells #[.int .i64 4, .string ⟨#[111, 117, 116]⟩, .func (.func 106) #[] #[], .func (.func 164) #[] #[.pointer (some ⟨s + 1, 0, none⟩)], .func (.func 108) #[] #[], .func (.func 109) #[] #[]] 75 (0, 0)) := by rw [hVe]; exact heap_alloc_new w1 _
        rw [← hVe]
        have HBV := Lib.hid (HB1.out.trans (hbV.mono HB1.out.size))
        have HFV := Lib.hid (HF1.out.below hbV)
        have HFB := Lib.hid hfV
        clear hVe hbV hfV
        refine (HVV.out V).mono ?_
        rintro e w2 ⟨rfl, hb2⟩
        have HB2 := Lib.hid (HBV.out.trans (hb2.mono HBV.out.size))
        clear hb2 v0 v1 v2
        go_wp2_with fail
        go_ret
        exact ⟨congrArg (fun z => Ending.returned (.bool z)) HR.out.symm, HK.out.was HB2.out⟩
      · have HA : Hid (∀ s, formArr s c.k.toNat = #[.int .i64 5, .string ⟨#[108, 101, 110]⟩, .func (.func 110) #[] #[], .func (.func 111) #[] #[], .func (.func 112) #[] #[], .func (.func 113) #[] #[]]) := Lib.hid (fun s => by rw [hk]; rfl)
        clear hk
        go_enter Tryz.func24, Tryz.ntmps24
        go_wp2_with fail
        rw [← HWE.out]
        refine HFO.out.mono ?_
        rintro e w1 ⟨s, hs, hf, rfl, hb1⟩
        rw [HA.out]
        have HB1 := Lib.hid hb1
        have HF1 := Lib.hid hf
        have hsw : s + 1 < w1.heap.size := (Array.getElem?_eq_some_iff.1 hf.2.1).1
        clear hf hb1 hs c0 c1 c2 c3 c4 c5 c6 c7 v0 v1 v2
        obtain ⟨v0, v1, v2⟩ := HK.out.val w1 HB1.out
        have hlt1 : w.heap.size + 1 < w1.heap.size := by have := HB1.out.size; have := HK.out.size; omega
        have hne1 : w.heap.size + 1 ≠ w1.heap.size := by omega
        go_wp2_with fail
        obtain ⟨V, hVe⟩ : ∃ V, V = w1.alloc (.cells #[.int .i64 5, .string ⟨#[108, 101, 110]⟩, .func (.func 110) #[] #[], .func (.func 111) #[] #[], .func (.func 112) #[] #[], .func (.func 113) #[] #[]] 75) := ⟨_, rfl⟩
        have hbV : Below w1.heap.size w1 V := by rw [hVe]; exact (Below.refl _ _).alloc (Nat.le_refl _) _
        have hfV : V.heap[w1.heap.size]? = some (.cells #[.int .i64 5, .string ⟨#[108, 101, 110]⟩, .func (.func 110) #[] #[], .func (.func 111) #[] #[], .func (.func 112) #[] #[], .func (.func 113) #[] #[]] 75 (0, 0)) := by rw [hVe]; exact heap_alloc_new w1 _
        rw [← hVe]
        have HBV := Lib.hid (HB1.out.trans (hbV.mono HB1.out.size))
        have HFV := Lib.hid (HF1.out.below hbV)
        have HFB := Lib.hid hfV
        clear hVe hbV hfV
        refine (HVV.out V).mono ?_
        rintro e w2 ⟨rfl, hb2⟩
        have HB2 := Lib.hid (HBV.out.trans (hb2.mono HBV.out.size))
        clear hb2 v0 v1 v2
        go_wp2_with fail
        go_ret
        exact ⟨congrArg (fun z => Ending.returned (.bool z)) HR.out.symm, HK.out.was HB2.out⟩
    | true =>
      rw [hi] at HVV
      have HR := Lib.hid (show holdsFor c x y z = holdsX c x y z by unfold holdsFor; rw [hv, hi]; rfl)
      have HII := Lib.hid hi
      clear hv hi
      rcases hkk with hk | hk | hk | hk | hk
      all_goals (have hk : c.k = _ := hk)
      · obtain ⟨hsl, hsr⟩ := valid_strs HVA.out
        have HH := Lib.hid (fun (X : World) (hb : Below W.heap.size W X) => eqWords_any c _ _ x y z X (HCN.out X hb) hsl hsr HII.out)
        have HX : Hid (holdsX c x y z = (eqW c x y z)) := Lib.hid (by unfold holdsX; rw [if_pos hk]; try rfl)
        clear hsl hsr
        have HA : Hid (∀ s, formArr s c.k.toNat = #[.int .i64 1, .string ⟨#[61]⟩, .func (.func 101) #[] #[], .func (.func 102) #[] #[], .func (.func 103) #[] #[], .func (.func 104) #[] #[]]) := Lib.hid (fun s => by rw [hk]; rfl)
        clear hk
        go_enter Tryz.func24, Tryz.ntmps24
        go_wp2_with fail
        rw [← HWE.out]
        refine HFO.out.mono ?_
        rintro e w1 ⟨s, hs, hf, rfl, hb1⟩
        rw [HA.out]
        have HB1 := Lib.hid hb1
        have HF1 := Lib.hid hf
        have hsw : s + 1 < w1.heap.size := (Array.getElem?_eq_some_iff.1 hf.2.1).1
        clear hf hb1 hs c0 c1 c2 c3 c4 c5 c6 c7 v0 v1 v2
        obtain ⟨v0, v1, v2⟩ := HK.out.val w1 HB1.out
        have hlt1 : w.heap.size + 1 < w1.heap.size := by have := HB1.out.size; have := HK.out.size; omega
        have hne1 : w.heap.size + 1 ≠ w1.heap.size := by omega
        go_wp2_with fail
        obtain ⟨V, hVe⟩ : ∃ V, V = w1.alloc (.cells #[.int .i64 1, .string ⟨#[61]⟩, .func (.func 101) #[] #[], .func (.func 102) #[] #[], .func (.func 103) #[] #[], .func (.func 104) #[] #[]] 75) := ⟨_, rfl⟩
        have hbV : Below w1.heap.size w1 V := by rw [hVe]; exact (Below.refl _ _).alloc (Nat.le_refl _) _
        have hfV : V.heap[w1.heap.size]? = some (.cells #[.int .i64 1, .string ⟨#[61]⟩, .func (.func 101) #[] #[], .func (.func 102) #[] #[], .func (.func 103) #[] #[], .func (.func 104) #[] #[]] 75 (0, 0)) := by rw [hVe]; exact heap_alloc_new w1 _
        rw [← hVe]
        have HBV := Lib.hid (HB1.out.trans (hbV.mono HB1.out.size))
        have HFV := Lib.hid (HF1.out.below hbV)
        have HFB := Lib.hid hfV
        clear hVe hbV hfV
        refine (HVV.out V).mono ?_
        rintro e w2 ⟨rfl, hb2⟩
        have HB2 := Lib.hid (HBV.out.trans (hb2.mono HBV.out.size))
        have hfb := (hb2.block w1.heap.size (Array.getElem?_eq_some_iff.1 HFB.out).1).trans HFB.out
        have f3 := cell_of_row w2 w1.heap.size 3 _ _ (0, 0) hfb
        simp only [List.getElem?_toArray, List.getElem?_cons_succ, List.getElem?_cons_zero] at f3
        have HF2 := Lib.hid (HFV.out.below hb2)
        clear hb2 v0 v1 v2 hfb
        obtain ⟨v0, v1, v2⟩ := HK.out.val w2 HB2.out
        obtain ⟨c0, c1, c2, c3, c4, c5, c6, c7⟩ := HK.out.box w2 HB2.out
        go_wp2_with fail
        refine (HH.out w2 HB2.out).mono ?_
        rintro e w3 ⟨rfl, hb3⟩
        have HB3 := Lib.hid (HB2.out.trans (hb3.mono HB2.out.size))
        clear hb3
        go_wp2_with fail
        go_ret
        exact ⟨congrArg (fun z => Ending.returned (.bool z)) (by rw [HR.out, HX.out]), HK.out.was HB3.out⟩
      · obtain ⟨hsl, hsr⟩ := valid_strs HVA.out
        have HH := Lib.hid (fun (X : World) (s : Nat) (hc : X.cell? ⟨s, 0, none⟩ = some (.func (.func 102) #[] #[])) (hb : Below W.heap.size W X) => oppEq_any c _ _ x y z s X hc (HCN.out X hb) hsl hsr HII.out)
        have HX : Hid (holdsX c x y z = (!eqW c x y z)) := Lib.hid (by unfold holdsX; rw [if_neg (show ¬ c.k = 1 by omega), if_pos hk]; try rfl)
        clear hsl hsr
        have HA : Hid (∀ s, formArr s c.k.toNat = #[.int .i64 2, .string ⟨#[33, 61]⟩, .func (.func 101) #[] #[], .func (.func 164) #[] #[.pointer (some ⟨s, 0, none⟩)], .func (.func 103) #[] #[], .func (.func 104) #[] #[]]) := Lib.hid (fun s => by rw [hk]; rfl)
        clear hk
        go_enter Tryz.func24, Tryz.ntmps24
        go_wp2_with fail
        rw [← HWE.out]
        refine HFO.out.mono ?_
        rintro e w1 ⟨s, hs, hf, rfl, hb1⟩
        rw [HA.out]
        have HB1 := Lib.hid hb1
        have HF1 := Lib.hid hf
        have hsw : s + 1 < w1.heap.size := (Array.getElem?_eq_some_iff.1 hf.2.1).1
        clear hf hb1 hs c0 c1 c2 c3 c4 c5 c6 c7 v0 v1 v2
        obtain ⟨v0, v1, v2⟩ := HK.out.val w1 HB1.out
        have hlt1 : w.heap.size + 1 < w1.heap.size := by have := HB1.out.size; have := HK.out.size; omega
        have hne1 : w.heap.size + 1 ≠ w1.heap.size := by omega
        go_wp2_with fail
        obtain ⟨V, hVe⟩ : ∃ V, V = w1.alloc (.cells #[.int .i64 2, .string ⟨#[33, 61]⟩, .func (.func 101) #[] #[], .func (.func 164) #[] #[.pointer (some ⟨s, 0, none⟩)], .func (.func 103) #[] #[], .func (.func 104) #[] #[]] 75) := ⟨_, rfl⟩
        have hbV : Below w1.heap.size w1 V := by rw [hVe]; exact (Below.refl _ _).alloc (Nat.le_refl _) _
        have hfV : V.heap[w1.heap.size]? = some (.cells #[.int .i64 2, .string ⟨#[33, 61]⟩, .func (.func 101) #[] #[], .func (.func 164) #[] #[.pointer (some ⟨s, 0, none⟩)], .func (.func 103) #[] #[], .func (.func 104) #[] #[]] 75 (0, 0)) := by rw [hVe]; exact heap_alloc_new w1 _
        rw [← hVe]
        have HBV := Lib.hid (HB1.out.trans (hbV.mono HB1.out.size))
        have HFV := Lib.hid (HF1.out.below hbV)
        have HFB := Lib.hid hfV
        clear hVe hbV hfV
        refine (HVV.out V).mono ?_
        rintro e w2 ⟨rfl, hb2⟩
        have HB2 := Lib.hid (HBV.out.trans (hb2.mono HBV.out.size))
        have hfb := (hb2.block w1.heap.size (Array.getElem?_eq_some_iff.1 HFB.out).1).trans HFB.out
        have f3 := cell_of_row w2 w1.heap.size 3 _ _ (0, 0) hfb
        simp only [List.getElem?_toArray, List.getElem?_cons_succ, List.getElem?_cons_zero] at f3
        have HF2 := Lib.hid (HFV.out.below hb2)
        clear hb2 v0 v1 v2 hfb
        obtain ⟨v0, v1, v2⟩ := HK.out.val w2 HB2.out
        obtain ⟨c0, c1, c2, c3, c4, c5, c6, c7⟩ := HK.out.box w2 HB2.out
        go_wp2_with fail
        refine (HH.out w2 s (cell_of_row w2 s 0 _ _ (0, 0) HF2.out.1) HB2.out).mono ?_
        rintro e w3 ⟨rfl, hb3⟩
        have HB3 := Lib.hid (HB2.out.trans (hb3.mono HB2.out.size))
        clear hb3
        go_wp2_with fail
        go_ret
        exact ⟨congrArg (fun z => Ending.returned (.bool z)) (by rw [HR.out, HX.out]), HK.out.was HB3.out⟩
      · obtain ⟨tl, _, tx, _⟩ := valid_lang HVA.out (.inl hk)
        simp only [Cx.cn] at tl tx
        have HH := Lib.hid (fun (X : World) (hb : Below W.heap.size W X) => inLang_any c _ _ x y z X (HCN.out X hb) tl tx HII.out)
        have HX : Hid (holdsX c x y z = (inLang c.xk c.xl c.xa (appL x y z c.l.data.toList))) := Lib.hid (by unfold holdsX; rw [if_neg (show ¬ c.k = 1 by omega), if_neg (show ¬ c.k = 2 by omega), if_pos hk]; try rfl)
        clear tl tx
        have HA : Hid (∀ s, formArr s c.k.toNat = #[.int .i64 3, .string ⟨#[105, 110]⟩, .func (.func 106) #[] #[], .func (.func 107) #[] #[], .func (.func 108) #[] #[], .func (.func 109) #[] #[]]) := Lib.hid (fun s => by rw [hk]; rfl)
        clear hk
        go_enter Tryz.func24, Tryz.ntmps24
        go_wp2_with fail
        rw [← HWE.out]
        refine HFO.out.mono ?_
        rintro e w1 ⟨s, hs, hf, rfl, hb1⟩
        rw [HA.out]
        have HB1 := Lib.hid hb1
        have HF1 := Lib.hid hf
        have hsw : s + 1 < w1.heap.size := (Array.getElem?_eq_some_iff.1 hf.2.1).1
        clear hf hb1 hs c0 c1 c2 c3 c4 c5 c6 c7 v0 v1 v2
        obtain ⟨v0, v1, v2⟩ := HK.out.val w1 HB1.out
        have hlt1 : w.heap.size + 1 < w1.heap.size := by have := HB1.out.size; have := HK.out.size; omega
        have hne1 : w.heap.size + 1 ≠ w1.heap.size := by omega
        go_wp2_with fail
        obtain ⟨V, hVe⟩ : ∃ V, V = w1.alloc (.cells #[.int .i64 3, .string ⟨#[105, 110]⟩, .func (.func 106) #[] #[], .func (.func 107) #[] #[], .func (.func 108) #[] #[], .func (.func 109) #[] #[]] 75) := ⟨_, rfl⟩
        have hbV : Below w1.heap.size w1 V := by rw [hVe]; exact (Below.refl _ _).alloc (Nat.le_refl _) _
        have hfV : V.heap[w1.heap.size]? = some (.cells #[.int .i64 3, .string ⟨#[105, 110]⟩, .func (.func 106) #[] #[], .func (.func 107) #[] #[], .func (.func 108) #[] #[], .func (.func 109) #[] #[]] 75 (0, 0)) := by rw [hVe]; exact heap_alloc_new w1 _
        rw [← hVe]
        have HBV := Lib.hid (HB1.out.trans (hbV.mono HB1.out.size))
        have HFV := Lib.hid (HF1.out.below hbV)
        have HFB := Lib.hid hfV
        clear hVe hbV hfV
        refine (HVV.out V).mono ?_
        rintro e w2 ⟨rfl, hb2⟩
        have HB2 := Lib.hid (HBV.out.trans (hb2.mono HBV.out.size))
        have hfb := (hb2.block w1.heap.size (Array.getElem?_eq_some_iff.1 HFB.out).1).trans HFB.out
        have f3 := cell_of_row w2 w1.heap.size 3 _ _ (0, 0) hfb
        simp only [List.getElem?_toArray, List.getElem?_cons_succ, List.getElem?_cons_zero] at f3
        have HF2 := Lib.hid (HFV.out.below hb2)
        clear hb2 v0 v1 v2 hfb
        obtain ⟨v0, v1, v2⟩ := HK.out.val w2 HB2.out
        obtain ⟨c0, c1, c2, c3, c4, c5, c6, c7⟩ := HK.out.box w2 HB2.out
        go_wp2_with fail
        refine (HH.out w2 HB2.out).mono ?_
        rintro e w3 ⟨rfl, hb3⟩
        have HB3 := Lib.hid (HB2.out.trans (hb3.mono HB2.out.size))
        clear hb3
        go_wp2_with fail
        go_ret
        exact ⟨congrArg (fun z => Ending.returned (.bool z)) (by rw [HR.out, HX.out]), HK.out.was HB3.out⟩
      · obtain ⟨tl, _, tx, _⟩ := valid_lang HVA.out (.inr hk)
        simp only [Cx.cn] at tl tx
        have HH := Lib.hid (fun (X : World) (s : Nat) (hc : X.cell? ⟨s + 1, 0, none⟩ = some (.func (.func 107) #[] #[])) (hb : Below W.heap.size W X) => oppIn_any c _ _ x y z (s + 1) X hc (HCN.out X hb) tl tx HII.out)
        have HX : Hid (holdsX c x y z = (!inLang c.xk c.xl c.xa (appL x y z c.l.data.toList))) := Lib.hid (by unfold holdsX; rw [if_neg (show ¬ c.k = 1 by omega), if_neg (show ¬ c.k = 2 by omega), if_neg (show ¬ c.k = 3 by omega), if_pos hk]; try rfl)
        clear tl tx
        have HA : Hid (∀ s, formArr s c.k.toNat = #[.int .i64 4, .string ⟨#[111, 117, 116]⟩, .func (.func 106) #[] #[], .func (.func 164) #[] #[.pointer (some ⟨s + 1, 0, none⟩)], .func (.func 108) #[] #[], .func (.func 109) #[] #[]]) := Lib.hid (fun s => by rw [hk]; rfl)
        clear hk
        go_enter Tryz.func24, Tryz.ntmps24
        go_wp2_with fail
        rw [← HWE.out]
        refine HFO.out.mono ?_
        rintro e w1 ⟨s, hs, hf, rfl, hb1⟩
        rw [HA.out]
        have HB1 := Lib.hid hb1
        have HF1 := Lib.hid hf
        have hsw : s + 1 < w1.heap.size := (Array.getElem?_eq_some_iff.1 hf.2.1).1
        clear hf hb1 hs c0 c1 c2 c3 c4 c5 c6 c7 v0 v1 v2
        obtain ⟨v0, v1, v2⟩ := HK.out.val w1 HB1.out
        have hlt1 : w.heap.size + 1 < w1.heap.size := by have := HB1.out.size; have := HK.out.size; omega
        have hne1 : w.heap.size + 1 ≠ w1.heap.size := by omega
        go_wp2_with fail
        obtain ⟨V, hVe⟩ : ∃ V, V = w1.alloc (.cells #[.int .i64 4, .string ⟨#[111, 117, 116]⟩, .func (.func 106) #[] #[], .func (.func 164) #[] #[.pointer (some ⟨s + 1, 0, none⟩)], .func (.func 108) #[] #[], .func (.func 109) #[] #[]] 75) := ⟨_, rfl⟩
        have hbV : Below w1.heap.size w1 V := by rw [hVe]; exact (Below.refl _ _).alloc (Nat.le_refl _) _
        have hfV : V.heap[w1.heap.size]? = some (.cells #[.int .i64 4, .string ⟨#[111, 117, 116]⟩, .func (.func 106) #[] #[], .func (.func 164) #[] #[.pointer (some ⟨s + 1, 0, none⟩)], .func (.func 108) #[] #[], .func (.func 109) #[] #[]] 75 (0, 0)) := by rw [hVe]; exact heap_alloc_new w1 _
        rw [← hVe]
        have HBV := Lib.hid (HB1.out.trans (hbV.mono HB1.out.size))
        have HFV := Lib.hid (HF1.out.below hbV)
        have HFB := Lib.hid hfV
        clear hVe hbV hfV
        refine (HVV.out V).mono ?_
        rintro e w2 ⟨rfl, hb2⟩
        have HB2 := Lib.hid (HBV.out.trans (hb2.mono HBV.out.size))
        have hfb := (hb2.block w1.heap.size (Array.getElem?_eq_some_iff.1 HFB.out).1).trans HFB.out
        have f3 := cell_of_row w2 w1.heap.size 3 _ _ (0, 0) hfb
        simp only [List.getElem?_toArray, List.getElem?_cons_succ, List.getElem?_cons_zero] at f3
        have HF2 := Lib.hid (HFV.out.below hb2)
        clear hb2 v0 v1 v2 hfb
        obtain ⟨v0, v1, v2⟩ := HK.out.val w2 HB2.out
        obtain ⟨c0, c1, c2, c3, c4, c5, c6, c7⟩ := HK.out.box w2 HB2.out
        go_wp2_with fail
        refine (HH.out w2 s (cell_of_row w2 (s + 1) 0 _ _ (0, 0) HF2.out.2.1) HB2.out).mono ?_
        rintro e w3 ⟨rfl, hb3⟩
        have HB3 := Lib.hid (HB2.out.trans (hb3.mono HB2.out.size))
        clear hb3
        go_wp2_with fail
        go_ret
        exact ⟨congrArg (fun z => Ending.returned (.bool z)) (by rw [HR.out, HX.out]), HK.out.was HB3.out⟩
      · obtain ⟨_, _, _, ⟨na, nd, ne, hcs, ha, hd, he⟩, _, _⟩ := valid_len HVA.out hk
        simp only [Cx.cn] at hcs
        have HH := Lib.hid (fun (X : World) (hb : Below W.heap.size W X) => inBound_any c _ _ x y z na nd ne X (HCN.out X hb) hcs ha hd he HII.out)
        have HX : Hid (holdsX c x y z = (decide (sumX c.cs x y z ≤ c.b))) := Lib.hid (by unfold holdsX; rw [if_neg (show ¬ c.k = 1 by omega), if_neg (show ¬ c.k = 2 by omega), if_neg (show ¬ c.k = 3 by omega), if_neg (show ¬ c.k = 4 by omega)]; try rfl)
        clear hcs ha hd he
        have HA : Hid (∀ s, formArr s c.k.toNat = #[.int .i64 5, .string ⟨#[108, 101, 110]⟩, .func (.func 110) #[] #[], .func (.func 111) #[] #[], .func (.func 112) #[] #[], .func (.func 113) #[] #[]]) := Lib.hid (fun s => by rw [hk]; rfl)
        clear hk
        go_enter Tryz.func24, Tryz.ntmps24
        go_wp2_with fail
        rw [← HWE.out]
        refine HFO.out.mono ?_
        rintro e w1 ⟨s, hs, hf, rfl, hb1⟩
        rw [HA.out]
        have HB1 := Lib.hid hb1
        have HF1 := Lib.hid hf
        have hsw : s + 1 < w1.heap.size := (Array.getElem?_eq_some_iff.1 hf.2.1).1
        clear hf hb1 hs c0 c1 c2 c3 c4 c5 c6 c7 v0 v1 v2
        obtain ⟨v0, v1, v2⟩ := HK.out.val w1 HB1.out
        have hlt1 : w.heap.size + 1 < w1.heap.size := by have := HB1.out.size; have := HK.out.size; omega
        have hne1 : w.heap.size + 1 ≠ w1.heap.size := by omega
        go_wp2_with fail
        obtain ⟨V, hVe⟩ : ∃ V, V = w1.alloc (.cells #[.int .i64 5, .string ⟨#[108, 101, 110]⟩, .func (.func 110) #[] #[], .func (.func 111) #[] #[], .func (.func 112) #[] #[], .func (.func 113) #[] #[]] 75) := ⟨_, rfl⟩
        have hbV : Below w1.heap.size w1 V := by rw [hVe]; exact (Below.refl _ _).alloc (Nat.le_refl _) _
        have hfV : V.heap[w1.heap.size]? = some (.cells #[.int .i64 5, .string ⟨#[108, 101, 110]⟩, .func (.func 110) #[] #[], .func (.func 111) #[] #[], .func (.func 112) #[] #[], .func (.func 113) #[] #[]] 75 (0, 0)) := by rw [hVe]; exact heap_alloc_new w1 _
        rw [← hVe]
        have HBV := Lib.hid (HB1.out.trans (hbV.mono HB1.out.size))
        have HFV := Lib.hid (HF1.out.below hbV)
        have HFB := Lib.hid hfV
        clear hVe hbV hfV
        refine (HVV.out V).mono ?_
        rintro e w2 ⟨rfl, hb2⟩
        have HB2 := Lib.hid (HBV.out.trans (hb2.mono HBV.out.size))
        have hfb := (hb2.block w1.heap.size (Array.getElem?_eq_some_iff.1 HFB.out).1).trans HFB.out
        have f3 := cell_of_row w2 w1.heap.size 3 _ _ (0, 0) hfb
        simp only [List.getElem?_toArray, List.getElem?_cons_succ, List.getElem?_cons_zero] at f3
        have HF2 := Lib.hid (HFV.out.below hb2)
        clear hb2 v0 v1 v2 hfb
        obtain ⟨v0, v1, v2⟩ := HK.out.val w2 HB2.out
        obtain ⟨c0, c1, c2, c3, c4, c5, c6, c7⟩ := HK.out.box w2 HB2.out
        go_wp2_with fail
        refine (HH.out w2 HB2.out).mono ?_
        rintro e w3 ⟨rfl, hb3⟩
        have HB3 := Lib.hid (HB2.out.trans (hb3.mono HB2.out.size))
        clear hb3
        go_wp2_with fail
        go_ret
        exact ⟨congrArg (fun z => Ending.returned (.bool z)) (by rw [HR.out, HX.out]), HK.out.was HB3.out⟩
end Go.Proofs.YtppliiingoonlaaGreatDoor
