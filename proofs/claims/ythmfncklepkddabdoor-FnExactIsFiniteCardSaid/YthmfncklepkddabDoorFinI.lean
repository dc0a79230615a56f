/-
  What slices.Contains answers over truth values, and what impl.IsFinite answers.
-/
import Derived.Test.YthmfncklepkddabDoorIxB
import Derived.Test.YthmfncklepkddabDoorLenI
import Derived.Test.YthmfncklepkddabDoorCntM
namespace Go.Proofs.YthmfncklepkddabDoor
open Go.RowKit

set_option maxRecDepth 100000 in
theorem libConB_any (ad : Addr) (n c : Nat) (A : Nat → Bool) (b : Bool) (w : World) (hn : n ≤ 1099511627776) (hb : b = decide (0 ≤ ixI A n)) (hc : ∀ j, j < n → w.cell? (ad.add j) = some (.bool (A j))) :
    Calls Tryd.prog 26 #[.slice (some ad) n c, .bool true] w fun e w' => e = .returned (.bool b) ∧ w = w' := by
  have HI := Lib.hid (libIxB_any ad n c A w hn hc)
  obtain ⟨z, hz⟩ : ∃ z, z = ixI A n := ⟨_, rfl⟩
  rw [← hz] at HI hb
  have HZ := Lib.hid hb
  clear hc hz hb
  go_enter Tryd.func26, Tryd.ntmps26
  go_wp2_with fail
  go_at_call 39
  refine HI.out.mono ?_
  rintro e w' ⟨rfl, rfl⟩
  go_wp2_with fail
  go_ret
  exact ⟨congrArg (fun b : Bool => Ending.returned (.bool b)) HZ.out.symm, rfl⟩

theorem finB_yes {d : Dx} (hv : validD d = true) {o : List Bool} {q : Nat} (h : LenR (auD d) o q) : finB d = !decide (0 ≤ ixI (fun j => o.getD (o.length - q + j) false) q) := by
  have hat := h.at
  have hf := fin_lens h
  rw [Bool.eq_iff_iff, finB_iff]
  by_cases hex : ∃ j, j < q ∧ o.getD (o.length - q + j) false = true
  · have key : ∀ i, i < q → o.getD (o.length - q + i) false = true → ∃ j, j < q ∧ o.getD (o.length - q + j) false = true ∧ ∀ m, m < j → o.getD (o.length - q + m) false = false := by
      intro i
      induction i using Nat.strongRecOn with
      | ind i ih =>
        intro hi hg
        by_cases hm : ∃ m, m < i ∧ o.getD (o.length - q + m) false = true
        · obtain ⟨m, h1, h2⟩ := hm
          exact ih m h1 (by omega) h2
        · refine ⟨i, hi, hg, fun m hmi => ?_⟩
          rw [← Bool.not_eq_true]
          exact fun hh => hm ⟨m, hmi, hh⟩
    obtain ⟨i, hi, hg⟩ := hex
    obtain ⟨j, hj, hg, hn⟩ := key i hi hg
    rw [ixI_at hj hg hn]
    constructor
    · rintro ⟨-, hfin⟩
      have h1 := hf.1 hfin (o.getD (o.length - q + j) false) (by
        rw [List.getD_eq_getElem?_getD, List.getElem?_eq_getElem (by omega)]
        rw [List.mem_iff_getElem]
        exact ⟨j, by rw [List.length_drop]; omega, by rw [List.getElem_drop]; rfl⟩)
      rw [hg] at h1
      cases h1
    · intro h1
      simp at h1
  · rw [ixI_none (fun i hi => by
      rw [← Bool.not_eq_true]
      exact fun hh => hex ⟨i, hi, hh⟩)]
    constructor
    · intro _
      decide
    · intro _
      refine ⟨hv, hf.2 (fun b hb => ?_)⟩
      obtain ⟨i, hi, rfl⟩ := List.mem_iff_getElem.1 hb
      rw [List.length_drop] at hi
      rw [List.getElem_drop, ← Bool.not_eq_true]
      intro hh
      refine hex ⟨i, by omega, ?_⟩
      rw [List.getD_eq_getElem?_getD, List.getElem?_eq_getElem (by omega)]
      exact hh
theorem finB_no {d : Dx} (hv : validD d = false) : finB d = false := by
  rw [← Bool.not_eq_true, finB_iff]
  rintro ⟨h, -⟩
  rw [hv] at h
  cases h

set_option maxRecDepth 100000 in
set_option maxHeartbeats 3200000 in
theorem implFin_any (va vn : Value) (d : Dx) (S : Nat → Prop) (w : World) (h : DfaV w S va vn d) (hTab : Tab w) :
    Calls Tryd.prog 8 #[.agg #[va, vn]] w fun e w' => e = .returned (.bool (finB d)) ∧ Below w.heap.size w w' := by
  obtain ⟨W0, hW0⟩ : ∃ W0, W0 = w.alloc (.cells #[va, vn] 28) := ⟨_, rfl⟩
  have HB0 : Hid (Below w.heap.size w W0) := Lib.hid (by rw [hW0]; exact (Below.refl _ _).alloc (Nat.le_refl _) _)
  have HX : Hid (Bx2 W0 w.heap.size va vn) := Lib.hid (by
    have k := box2_kept (w := w) (w1 := W0) (a := va) (b := vn) (t := 28) (by rw [hW0]; exact Below.refl _ _)
    exact ⟨k.2.1, k.2.2.1⟩)
  have HV := Lib.hid (implValidD_any va vn d S W0 (h.kept HB0.out))
  have HL := Lib.hid (fun (V : World) (hV : Below w.heap.size w V) => implLen_any va vn d S V (h.kept hV) (hTab.kept hV))
  obtain ⟨⟨A, c, rfl⟩, A', c', rfl⟩ := h.shape
  obtain ⟨c0, c1⟩ := HX.out
  rw [hW0] at c0 c1
  cases hv : validD d with
  | false =>
    rw [hv] at HV
    have HF := Lib.hid (finB_no hv)
    clear h hv hTab
    go_enter Tryd.func8, Tryd.ntmps8
    go_wp2_with fail
    go_at_call 25
    rw [← hW0]
    clear hW0 c0 c1
    refine HV.out.mono ?_
    rintro e w1 ⟨rfl, hb1⟩
    have HB1 := Lib.hid (HB0.out.trans (hb1.mono HB0.out.size))
    clear hb1
    go_wp2_with fail
    go_ret
    exact ⟨congrArg (fun b : Bool => Ending.returned (.bool b)) HF.out.symm, HB1.out⟩
  | true =>
    rw [hv] at HV
    have HFy := Lib.hid (fun (o : List Bool) (p : Int) (hr : lenR d o p) => (by
      unfold lenR at hr
      rw [if_pos hv] at hr
      obtain ⟨q, h1, h2⟩ := hr
      obtain ⟨g1, g2, -, -⟩ := h1.at
      exact ⟨q, h2, g1, g2, finB_yes hv h1⟩ : ∃ q : Nat, p = (q : Int) ∧ 0 < q ∧ q ≤ o.length ∧ finB d = !decide (0 ≤ ixI (fun j => o.getD (o.length - q + j) false) q)))
    clear h hv hTab
    go_enter Tryd.func8, Tryd.ntmps8
    go_wp2_with fail
    go_at_call 25
    rw [← hW0]
    clear hW0 c0 c1
    refine HV.out.mono ?_
    rintro e w1 ⟨rfl, hb1⟩
    have HB1 := Lib.hid (HB0.out.trans (hb1.mono HB0.out.size))
    obtain ⟨c0, c1⟩ := HX.out.kept hb1
    clear hb1
    go_wp2_with fail
    go_at_call 11
    refine (HL.out w1 HB1.out).mono ?_
    rintro e w2 ⟨v, o, p, hr, ho40, rfl, hown, hb2⟩
    obtain ⟨q, rfl, hq0, hqo, hfin⟩ := HFy.out o p hr
    obtain ⟨k, hk⟩ : ∃ k, o.length = k + q := ⟨o.length - q, by omega⟩
    rw [hk, Nat.add_sub_cancel] at hfin
    obtain ⟨g, cap, hv, hg, hcell⟩ := own_cell (w := w2) (n := o.length) (by exact hown) (by omega)
    subst hv
    have hcap : o.length ≤ cap := by
      rcases hown.2 with ⟨e, _⟩ | ⟨g', cap', cur, e, _, _, h1, _⟩
      · cases e
      · injection e with _ _ e3
        omega
    have HB2 := Lib.hid (HB1.out.trans (hb2.mono HB1.out.size))
    obtain ⟨b, hb⟩ : ∃ b, b = decide (0 ≤ ixI (fun j => o.getD (k + j) false) q) := ⟨_, rfl⟩
    have HC := Lib.hid (libConB_any ⟨g, k, none⟩ q (cap - k) (fun j => o.getD (k + j) false) b w2 (by omega) hb (fun j hj => by
      rw [Addr.add_lit, hcell (k + j) (by omega)]
      simp [bools, List.getD_eq_getElem?_getD, List.getElem?_eq_getElem (show k + j < o.length by omega)]))
    rw [← hb] at hfin
    have HF := Lib.hid hfin
    rw [hk] at hcap ⊢
    have s0 : (0 : Int) ≤ (k : Int) := by omega
    have s1 : k ≤ cap := by omega
    have s2 : ¬ k = cap := by omega
    have s3 : k + q ≤ 1099511627776 := by omega
    clear hr hown hb2 c0 c1 hcell hb hfin hk ho40 hqo
    go_wp2_with fail
    go_at_call 26
    refine HC.out.mono ?_
    rintro e w3 ⟨rfl, rfl⟩
    go_wp2_with fail
    go_ret
    exact ⟨congrArg (fun b : Bool => Ending.returned (.bool b)) HF.out.symm, HB2.out⟩
end Go.Proofs.YthmfncklepkddabDoor
