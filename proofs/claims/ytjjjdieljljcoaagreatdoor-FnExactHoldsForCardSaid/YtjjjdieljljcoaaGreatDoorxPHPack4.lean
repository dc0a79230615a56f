/-
  Texts of one proof, one behind the other.
-/
import Derived.Test.YtjjjdieljljcoaaGreatDoorxPHPack3

/-
  What impl.HoldsFor answers.
-/
namespace Go.Proofs.YtjjjdieljljcoaaGreatDoor
open Go.RowKit

set_option maxRecDepth 100000 in
set_option maxHeartbeats 12800000 in
theorem implHoldsFor_any (c : Cx) (xu vc : Value) (x y z : ByteArray) (w : World) (h : CnO w xu vc c) (hsz : c.xa.size ≤ 2097152) (hx : x.size ≤ maxLen) (hy : y.size ≤ maxLen) (hz : z.size ≤ maxLen) :
    Calls Tryz.prog 22 #[.agg #[.int .i64 c.k, .string c.l, .string c.r, .int .i64 c.xk, .string c.xl, xu, vc, .int .i64 c.b], .agg #[.string x, .string y, .string z]] w fun e w' => e = .returned (.bool (holdsFor c x y z)) ∧ Below w.heap.size w w' := by
  obtain ⟨A, m, B, r, rfl, rfl⟩ := h.shape
  have HT := Lib.hid (twoC_new w c (.slice A c.xa.items.length m) (.slice B c.cs.length r) x y z 29 38)
  obtain ⟨W, hW⟩ : ∃ W, W = (w.alloc (.cells #[.int .i64 c.k, .string c.l, .string c.r, .int .i64 c.xk, .string c.xl, .slice A c.xa.items.length m, .slice B c.cs.length r, .int .i64 c.b] 29)).alloc (.cells #[.string x, .string y, .string z] 38) := ⟨_, rfl⟩
  have HWE := Lib.hid hW
  have k := HT.out
  rw [← hW] at k
  have HK := Lib.hid k
  have HFO := Lib.hid (formOf9_any c _ _ W (h.kept k.old) hsz)
  have HCN := Lib.hid (fun (V : World) (hb : Below W.heap.size W V) => h.kept (k.was hb))
  have HVV := Lib.hid (fun (V : World) => implIsV_any x y z V hx hy hz)
  obtain ⟨c0, c1, c2, c3, c4, c5, c6, c7⟩ := HT.out.box _ (Below.refl _ _)
  obtain ⟨v0, v1, v2⟩ := HT.out.val _ (Below.refl _ _)
  clear k hW h hsz hx hy hz
  cases hv : validX c with
  | false =>
    have HR := Lib.hid (show holdsFor c x y z = false by unfold holdsFor; rw [hv]; rfl)
    unfold FoPost at HFO
    rw [hv] at HFO
    clear hv
    rcases kinds6 c.k with hk | hk | hk | hk | hk | hk
    · have HA : Hid (∀ s, formArr s c.k.toNat = #[.int .i64 1, .string ⟨#[61]⟩, .func (.func 74) #[] #[], .func (.func 75) #[] #[], .func (.func 76) #[] #[], .func (.func 77) #[] #[]]) := Lib.hid (fun s => by rw [hk]; rfl)
      clear hk
      go_enter Tryz.func22, Tryz.ntmps22
      go_wp2_with fail
      rw [← HWE.out]
      refine HFO.out.mono ?_
      rintro e w1 ⟨s, hs, hf, rfl, hb1⟩
      rw [HA.out]
      have HB1 := Lib.hid hb1
      have HF1 := Lib.hid hf
      have hsw : s + 1 < w1.heap.size := (Array.getElem?_eq_some_iff.1 hf.2.1).1
      clear hf hb1 hs c0 c1 c2 c3 c4 c5 c6 c7 v0 v1 v2
      go_wp2_with fail
      go_ret
      exact ⟨congrArg (fun z => Ending.returned (.bool z)) HR.out.symm, (HK.out.was HB1.out).alloc (HK.out.was HB1.out).size _⟩
    · have HA : Hid (∀ s, formArr s c.k.toNat = #[.int .i64 2, .string ⟨#[33, 61]⟩, .func (.func 74) #[] #[], .func (.func 126) #[] #[.pointer (some ⟨s, 0, none⟩)], .func (.func 76) #[] #[], .func (.func 77) #[] #[]]) := Lib.hid (fun s => by rw [hk]; rfl)
      clear hk
      go_enter Tryz.func22, Tryz.ntmps22
      go_wp2_with fail
      rw [← HWE.out]
      refine HFO.out.mono ?_
      rintro e w1 ⟨s, hs, hf, rfl, hb1⟩
      rw [HA.out]
      have HB1 := Lib.hid hb1
      have HF1 := Lib.hid hf
      have hsw : s + 1 < w1.heap.size := (Array.getElem?_eq_some_iff.1 hf.2.1).1
      clear hf hb1 hs c0 c1 c2 c3 c4 c5 c6 c7 v0 v1 v2
      go_wp2_with fail
      go_ret
      exact ⟨congrArg (fun z => Ending.returned (.bool z)) HR.out.symm, (HK.out.was HB1.out).alloc (HK.out.was HB1.out).size _⟩
    · have HA : Hid (∀ s, formArr s c.k.toNat = #[.int .i64 3, .string ⟨#[105, 110]⟩, .func (.func 79) #[] #[], .func (.func 80) #[] #[], .func (.func 81) #[] #[], .func (.func 82) #[] #[]]) := Lib.hid (fun s => by rw [hk]; rfl)
      clear hk
      go_enter Tryz.func22, Tryz.ntmps22
      go_wp2_with fail
      rw [← HWE.out]
      refine HFO.out.mono ?_
      rintro e w1 ⟨s, hs, hf, rfl, hb1⟩
      rw [HA.out]
      have HB1 := Lib.hid hb1
      have HF1 := Lib.hid hf
      have hsw : s + 1 < w1.heap.size := (Array.getElem?_eq_some_iff.1 hf.2.1).1
      clear hf hb1 hs c0 c1 c2 c3 c4 c5 c6 c7 v0 v1 v2
      go_wp2_with fail
      go_ret
      exact ⟨congrArg (fun z => Ending.returned (.bool z)) HR.out.symm, (HK.out.was HB1.out).alloc (HK.out.was HB1.out).size _⟩
    · have HA : Hid (∀ s, formArr s c.k.toNat = #[.int .i64 4, .string ⟨#[111, 117, 116]⟩, .func (.func 79) #[] #[], .func (.func 126) #[] #[.pointer (some ⟨s + 1, 0, none⟩)], .func (.func 81) #[] #[], .func (.func 82) #[] #[]]) := Lib.hid (fun s => by rw [hk]; rfl)
      clear hk
      go_enter Tryz.func22, Tryz.ntmps22
      go_wp2_with fail
      rw [← HWE.out]
      refine HFO.out.mono ?_
      rintro e w1 ⟨s, hs, hf, rfl, hb1⟩
      rw [HA.out]
      have HB1 := Lib.hid hb1
      have HF1 := Lib.hid hf
      have hsw : s + 1 < w1.heap.size := (Array.getElem?_eq_some_iff.1 hf.2.1).1
      clear hf hb1 hs c0 c1 c2 c3 c4 c5 c6 c7 v0 v1 v2
      go_wp2_with fail
      go_ret
      exact ⟨congrArg (fun z => Ending.returned (.bool z)) HR.out.symm, (HK.out.was HB1.out).alloc (HK.out.was HB1.out).size _⟩
    · have HA : Hid (∀ s, formArr s c.k.toNat = #[.int .i64 5, .string ⟨#[108, 101, 110]⟩, .func (.func 83) #[] #[], .func (.func 84) #[] #[], .func (.func 85) #[] #[], .func (.func 86) #[] #[]]) := Lib.hid (fun s => by rw [hk]; rfl)
      clear hk
      go_enter Tryz.func22, Tryz.ntmps22
      go_wp2_with fail
      rw [← HWE.out]
      refine HFO.out.mono ?_
      rintro e w1 ⟨s, hs, hf, rfl, hb1⟩
      rw [HA.out]
      have HB1 := Lib.hid hb1
      have HF1 := Lib.hid hf
      have hsw : s + 1 < w1.heap.size := (Array.getElem?_eq_some_iff.1 hf.2.1).1
      clear hf hb1 hs c0 c1 c2 c3 c4 c5 c6 c7 v0 v1 v2
      go_wp2_with fail
      go_ret
      exact ⟨congrArg (fun z => Ending.returned (.bool z)) HR.out.symm, (HK.out.was HB1.out).alloc (HK.out.was HB1.out).size _⟩
    · have HA : Hid (∀ s, formArr s c.k.toNat = #[.int .i64 0, .string ⟨#[]⟩, .nilFunc, .nilFunc, .nilFunc, .nilFunc]) := Lib.hid (fun s => formArr_none (by omega) (by omega) (by omega) (by omega) (by omega))
      clear hk
      go_enter Tryz.func22, Tryz.ntmps22
      go_wp2_with fail
      rw [← HWE.out]
      refine HFO.out.mono ?_
      rintro e w1 ⟨s, hs, hf, rfl, hb1⟩
      rw [HA.out]
      have HB1 := Lib.hid hb1
      have HF1 := Lib.hid hf
      have hsw : s + 1 < w1.heap.size := (Array.getElem?_eq_some_iff.1 hf.2.1).1
      clear hf hb1 hs c0 c1 c2 c3 c4 c5 c6 c7 v0 v1 v2
      go_wp2_with fail
      go_ret
      exact ⟨congrArg (fun z => Ending.returned (.bool z)) HR.out.symm, (HK.out.was HB1.out).alloc (HK.out.was HB1.out).size _⟩
  | true =>
    unfold FoPost at HFO
    rw [hv] at HFO
    have hkk := valid_kinds (c := c.cn) hv
    have HVA := Lib.hid hv
    cases hi : isV x y z with
    | false =>
      rw [hi] at HVV
      have HR := Lib.hid (show holdsFor c x y z = false by unfold holdsFor; rw [hv, hi]; rfl)
      clear hv hi
      rcases hkk with hk | hk | hk | hk | hk
      all_goals (have hk : c.k = _ := hk)
      · have HA : Hid (∀ s, formArr s c.k.toNat = #[.int .i64 1, .string ⟨#[61]⟩, .func (.func 74) #[] #[], .func (.func 75) #[] #[], .func (.func 76) #[] #[], .func (.func 77) #[] #[]]) := Lib.hid (fun s => by rw [hk]; rfl)
        clear hk
        go_enter Tryz.func22, Tryz.ntmps22
        go_wp2_with fail
        rw [← HWE.out]
        refine HFO.out.mono ?_
        rintro e w1 ⟨s, hs, hf, rfl, hb1⟩
        rw [HA.out]
        have HB1 := Lib.hid hb1
        have HF1 := Lib.hid hf
        have hsw : s + 1 < w1.heap.size := (Array.getElem?_eq_some_iff.1 hf.2.1).1
        clear hf hb1 hs c0 c1 c2 c3 c4 c5 c6 c7 v0 v1 v2
        obtain ⟨v0, v1, v2⟩ := HK.out.val w1 HB1.out
        have hlt1 : w.heap.size + 1 < w1.heap.size := by have := HB1.out.size; have := HK.out.size; omega
        have hne1 : w.heap.size + 1 ≠ w1.heap.size := by omega
        go_wp2_with fail
        obtain ⟨V, hVe⟩ : ∃ V, V = w1.alloc (.cells #[.int .i64 1, .string ⟨#[61]⟩, .func (.func 74) #[] #[], .func (.func 75) #[] #[], .func (.func 76) #[] #[], .func (.func 77) #[] #[]] 63) := ⟨_, rfl⟩
        have hbV : Below w1.heap.size w1 V := by rw [hVe]; exact (Below.refl _ _).alloc (Nat.le_refl _) _
        have hfV : V.heap[w1.heap.size]? = some (.cells #[.int .i64 1, .string ⟨#[61]⟩, .func (.func 74) #[] #[], .func (.func 75) #[] #[], .func (.func 76) #[] #[], .func (.func 77) #[] #[]] 63 (0, 0)) := by rw [hVe]; exact heap_alloc_new w1 _
        rw [← hVe]
        have HBV := Lib.hid (HB1.out.trans (hbV.mono HB1.out.size))
        have HFV := Lib.hid (HF1.out.below hbV)
        have HFB := Lib.hid hfV
        clear hVe hbV hfV
        refine (HVV.out V).mono ?_
        rintro e w2 ⟨rfl, hb2⟩
        have HB2 := Lib.hid (HBV.out.trans (hb2.mono HBV.out.size))
        clear hb2 v0 v1 v2
        go_wp2_with fail
        go_ret
        exact ⟨congrArg (fun z => Ending.returned (.bool z)) HR.out.symm, HK.out.was HB2.out⟩
      · have HA : Hid (∀ s, formArr s c.k.toNat = #[.int .i64 2, .string ⟨#[33, 61]⟩, .func (.func 74) #[] #[], .func (.func 126) #[] #[.pointer (some ⟨s, 0, none⟩)], .func (.func 76) #[] #[], .func (.func 77) #[] #[]]) := Lib.hid (fun s => by rw [hk]; rfl)
        clear hk
        go_enter Tryz.func22, Tryz.ntmps22
        go_wp2_with fail
        rw [← HWE.out]
        refine HFO.out.mono ?_
        rintro e w1 ⟨s, hs, hf, rfl, hb1⟩
        rw [HA.out]
        have HB1 := Lib.hid hb1
        have HF1 := Lib.hid hf
        have hsw : s + 1 < w1.heap.size := (Array.getElem?_eq_some_iff.1 hf.2.1).1
        clear hf hb1 hs c0 c1 c2 c3 c4 c5 c6 c7 v0 v1 v2
        obtain ⟨v0, v1, v2⟩ := HK.out.val w1 HB1.out
        have hlt1 : w.heap.size + 1 < w1.heap.size := by have := HB1.out.size; have := HK.out.size; omega
        have hne1 : w.heap.size + 1 ≠ w1.heap.size := by omega
        go_wp2_with fail
        obtain ⟨V, hVe⟩ : ∃ V, V = w1.alloc (.cells #[.int .i64 2, .string ⟨#[33, 61]⟩, .func (.func 74) #[] #[], .func (.func 126) #[] #[.pointer (some ⟨s, 0, none⟩)], .func (.func 76) #[] #[], .func (.func 77) #[] #[]] 63) := ⟨_, rfl⟩
        have hbV : Below w1.heap.size w1 V := by rw [hVe]; exact (Below.refl _ _).alloc (Nat.le_refl _) _
        have hfV : V.heap[w1.heap.size]? = some (.cells #[.int .i64 2, .string ⟨#[33, 61]⟩, .func (.func 74) #[] #[], .func (.func 126) #[] #[.pointer (some ⟨s, 0, none⟩)], .func (.func 76) #[] #[], .func (.func 77) #[] #[]] 63 (0, 0)) := by rw [hVe]; exact heap_alloc_new w1 _
        rw [← hVe]
        have HBV := Lib.hid (HB1.out.trans (hbV.mono HB1.out.size))
        have HFV := Lib.hid (HF1.out.below hbV)
        have HFB := Lib.hid hfV
        clear hVe hbV hfV
        refine (HVV.out V).mono ?_
        rintro e w2 ⟨rfl, hb2⟩
        have HB2 := Lib.hid (HBV.out.trans (hb2.mono HBV.out.size))
        clear hb2 v0 v1 v2
        go_wp2_with fail
        go_ret
        exact ⟨congrArg (fun z => Ending.returned (.bool z)) HR.out.symm, HK.out.was HB2.out⟩
      · have HA : Hid (∀ s, formArr s c.k.toNat = #[.int .i64 3, .string ⟨#[105, 110]⟩, .func (.func 79) #[] #[], .func (.func 80) #[] #[], .func (.func 81) #[] #[], .func (.func 82) #[] #[]]) := Lib.hid (fun s => by rw [hk]; rfl)
        clear hk
        go_enter Tryz.func22, Tryz.ntmps22
        go_wp2_with fail
        rw [← HWE.out]
        refine HFO.out.mono ?_
        rintro e w1 ⟨s, hs, hf, rfl, hb1⟩
        rw [HA.out]
        have HB1 := Lib.hid hb1
        have HF1 := Lib.hid hf
        have hsw : s + 1 < w1.heap.size := (Array.getElem?_eq_some_iff.1 hf.2.1).1
        clear hf hb1 hs c0 c1 c2 c3 c4 c5 c6 c7 v0 v1 v2
        obtain ⟨v0, v1, v2⟩ := HK.out.val w1 HB1.out
        have hlt1 : w.heap.size + 1 < w1.heap.size := by have := HB1.out.size; have := HK.out.size; omega
        have hne1 : w.heap.size + 1 ≠ w1.heap.size := by omega
        go_wp2_with fail
        obtain ⟨V, hVe⟩ : ∃ V, V = w1.alloc (.cells #[.int .i64 3, .string ⟨#[105, 110]⟩, .func (.func 79) #[] #[], .func (.func 80) #[] #[], .func (.func 81) #[] #[], .func (.func 82) #[] #[]] 63) := ⟨_, rfl⟩
        have hbV : Below w1.heap.size w1 V := by rw [hVe]; exact (Below.refl _ _).alloc (Nat.le_refl _) _
        have hfV : V.heap[w1.heap.size]? = some (.cells #[.int .i64 3, .string ⟨#[105, 110]⟩, .func (.func 79) #[] #[], .func (.func 80) #[] #[], .func (.func 81) #[] #[], .func (.func 82) #[] #[]] 63 (0, 0)) := by rw [hVe]; exact heap_alloc_new w1 _
        rw [← hVe]
        have HBV := Lib.hid (HB1.out.trans (hbV.mono HB1.out.size))
        have HFV := Lib.hid (HF1.out.below hbV)
        have HFB := Lib.hid hfV
        clear hVe hbV hfV
        refine (HVV.out V).mono ?_
        rintro e w2 ⟨rfl, hb2⟩
        have HB2 := Lib.hid (HBV.out.trans (hb2.mono HBV.out.size))
        clear hb2 v0 v1 v2
        go_wp2_with fail
        go_ret
        exact ⟨congrArg (fun z => Ending.returned (.bool z)) HR.out.symm, HK.out.was HB2.out⟩
      · have HA : Hid (∀ s, formArr s c.k.toNat = #[.int .i64 4, .string ⟨#[111, 117, 116]⟩, .func (.func 79) #[] #[], .func (.func 126) #[] #[.pointer (some ⟨s + 1, 0, none⟩)], .func (.func 81) #[] #[], .func (.func 82) #[] #[]]) := Lib.hid (fun s => by rw [hk]; rfl)
        clear hk
        go_enter Tryz.func22, Tryz.ntmps22
        go_wp2_with fail
        rw [← HWE.out]
        refine HFO.out.mono ?_
        rintro e w1 ⟨s, hs, hf, rfl, hb1⟩
        rw [HA.out]
        have HB1 := Lib.hid hb1
        have HF1 := Lib.hid hf
        have hsw : s + 1 < w1.heap.size := (Array.getElem?_eq_some_iff.1 hf.2.1).1
        clear hf hb1 hs c0 c1 c2 c3 c4 c5 c6 c7 v0 v1 v2
        obtain ⟨v0, v1, v2⟩ := HK.out.val w1 HB1.out
        have hlt1 : w.heap.size + 1 < w1.heap.size := by have := HB1.out.size; have := HK.out.size; omega
        have hne1 : w.heap.size + 1 ≠ w1.heap.size := by omega
        go_wp2_with fail
        obtain ⟨V, hVe⟩ : ∃ V, V = w1.alloc (.cells #[.int .i64 4, .string ⟨#[111, 117, 116]⟩, .func (.func 79) #[] #[], .func (.func 126) #[] #[.pointer (some ⟨s + 1, 0, none⟩)], .func (.func 81) #[] #[], .func (.func 82) #[] #[]] 63) := ⟨_, rfl⟩
        have hbV : Below w1.heap.size w1 V := by rw [hVe]; exact (Below.refl _ _).alloc (Nat.le_refl _) _
        have hfV : V.heap[w1.heap.size]? = some (.cells #[.int .i64 4, .string ⟨#[111, 117, 116]⟩, .func (.func 79) #[] #[], .func (.func 126) #[] #[.pointer (some ⟨s + 1, 0, none⟩)], .func (.func 81) #[] #[], .func (.func 82) #[] #[]] 63 (0, 0)) := by rw [hVe]; exact heap_alloc_new w1 _
        rw [← hVe]
        have HBV := Lib.hid (HB1.out.trans (hbV.mono HB1.out.size))
        have HFV := Lib.hid (HF1.out.below hbV)
        have HFB := Lib.hid hfV
        clear hVe hbV hfV
        refine (HVV.out V).mono ?_
        rintro e w2 ⟨rfl, hb2⟩
        have HB2 := Lib.hid (HBV.out.trans (hb2.mono HBV.out.size))
        clear hb2 v0 v1 v2
        go_wp2_with fail
        go_ret
        exact ⟨congrArg (fun z => Ending.returned (.bool z)) HR.out.symm, HK.out.was HB2.out⟩
      · have HA : Hid (∀ s, formArr s c.k.toNat = #[.int .i64 5, .string ⟨#[108, 101, 110]⟩, .func (.func 83) #[] #[], .func (.func 84) #[] #[], .func (.func 85) #[] #[], .func (.func 86) #[] #[]]) := Lib.hid (fun s => by rw [hk]; rfl)
        clear hk
        go_enter Tryz.func22, Tryz.ntmps22
        go_wp2_with fail
        rw [← HWE.out]
        refine HFO.out.mono ?_
        rintro e w1 ⟨s, hs, hf, rfl, hb1⟩
        rw [HA.out]
        have HB1 := Lib.hid hb1
        have HF1 := Lib.hid hf
        have hsw : s + 1 < w1.heap.size := (Array.getElem?_eq_some_iff.1 hf.2.1).1
        clear hf hb1 hs c0 c1 c2 c3 c4 c5 c6 c7 v0 v1 v2
        obtain ⟨v0, v1, v2⟩ := HK.out.val w1 HB1.out
        have hlt1 : w.heap.size + 1 < w1.heap.size := by have := HB1.out.size; have := HK.out.size; omega
        have hne1 : w.heap.size + 1 ≠ w1.heap.size := by omega
        go_wp2_with fail
        obtain ⟨V, hVe⟩ : ∃ V, V = w1.alloc (.cells #[.int .i64 5, .string ⟨#[108, 101, 110]⟩, .func (.func 83) #[] #[], .func (.func 84) #[] #[], .func (.func 85) #[] #[], .func (.func 86) #[] #[]] 63) := ⟨_, rfl⟩
        have hbV : Below w1.heap.size w1 V := by rw [hVe]; exact (Below.refl _ _).alloc (Nat.le_refl _) _
        have hfV : V.heap[w1.heap.size]? = some (.cells #[.int .i64 5, .string ⟨#[108, 101, 110]⟩, .func (.func 83) #[] #[], .func (.func 84) #[] #[], .func (.func 85) #[] #[], .func (.func 86) #[] #[]] 63 (0, 0)) := by rw [hVe]; exact heap_alloc_new w1 _
        rw [← hVe]
        have HBV := Lib.hid (HB1.out.trans (hbV.mono HB1.out.size))
        have HFV := Lib.hid (HF1.out.below hbV)
        have HFB := Lib.hid hfV
        clear hVe hbV hfV
        refine (HVV.out V).mono ?_
        rintro e w2 ⟨rfl, hb2⟩
        have HB2 := Lib.hid (HBV.out.trans (hb2.mono HBV.out.size))
        clear hb2 v0 v1 v2
        go_wp2_with fail
        go_ret
        exact ⟨congrArg (fun z => Ending.returned (.bool z)) HR.out.symm, HK.out.was HB2.out⟩
    | true =>
      rw [hi] at HVV
      have HR := Lib.hid (show holdsFor c x y z = holdsX c x y z by unfold holdsFor; rw [hv, hi]; rfl)
      have HII := Lib.hid hi
      clear hv hi
      rcases hkk with hk | hk | hk | hk | hk
      all_goals (have hk : c.k = _ := hk)
      · obtain ⟨hsl, hsr⟩ := valid_strs HVA.out
        have HH := Lib.hid (fun (X : World) (hb : Below W.heap.size W X) => eqWords_any c _ _ x y z X (HCN.out X hb) hsl hsr HII.out)
        have HX : Hid (holdsX c x y z = (eqW c x y z)) := Lib.hid (by unfold holdsX; rw [if_pos hk]; try rfl)
        clear hsl hsr
        have HA : Hid (∀ s, formArr s c.k.toNat = #[.int .i64 1, .string ⟨#[61]⟩, .func (.func 74) #[] #[], .func (.func 75) #[] #[], .func (.func 76) #[] #[], .func (.func 77) #[] #[]]) := Lib.hid (fun s => by rw [hk]; rfl)
        clear hk
        go_enter Tryz.func22, Tryz.ntmps22
        go_wp2_with fail
        rw [← HWE.out]
        refine HFO.out.mono ?_
        rintro e w1 ⟨s, hs, hf, rfl, hb1⟩
        rw [HA.out]
        have HB1 := Lib.hid hb1
        have HF1 := Lib.hid hf
        have hsw : s + 1 < w1.heap.size := (Array.getElem?_eq_some_iff.1 hf.2.1).1
        clear hf hb1 hs c0 c1 c2 c3 c4 c5 c6 c7 v0 v1 v2
        obtain ⟨v0, v1, v2⟩ := HK.out.val w1 HB1.out
        have hlt1 : w.heap.size + 1 < w1.heap.size := by have := HB1.out.size; have := HK.out.size; omega
        have hne1 : w.heap.size + 1 ≠ w1.heap.size := by omega
        go_wp2_with fail
        obtain ⟨V, hVe⟩ : ∃ V, V = w1.alloc (.cells #[.int .i64 1, .string ⟨#[61]⟩, .func (.func 74) #[] #[], .func (.func 75) #[] #[], .func (.func 76) #[] #[], .func (.func 77) #[] #[]] 63) := ⟨_, rfl⟩
        have hbV : Below w1.heap.size w1 V := by rw [hVe]; exact (Below.refl _ _).alloc (Nat.le_refl _) _
        have hfV : V.heap[w1.heap.size]? = some (.cells #[.int .i64 1, .string ⟨#[61]⟩, .func (.func 74) #[] #[], .func (.func 75) #[] #[], .func (.func 76) #[] #[], .func (.func 77) #[] #[]] 63 (0, 0)) := by rw [hVe]; exact heap_alloc_new w1 _
        rw [← hVe]
        have HBV := Lib.hid (HB1.out.trans (hbV.mono HB1.out.size))
        have HFV := Lib.hid (HF1.out.below hbV)
        have HFB := Lib.hid hfV
        clear hVe hbV hfV
        refine (HVV.out V).mono ?_
        rintro e w2 ⟨rfl, hb2⟩
        have HB2 := Lib.hid (HBV.out.trans (hb2.mono HBV.out.size))
        have hfb := (hb2.block w1.heap.size (Array.getElem?_eq_some_iff.1 HFB.out).1).trans HFB.out
        have f3 := cell_of_row w2 w1.heap.size 3 _ _ (0, 0) hfb
        simp only [List.getElem?_toArray, List.getElem?_cons_succ, List.getElem?_cons_zero] at f3
        have HF2 := Lib.hid (HFV.out.below hb2)
        clear hb2 v0 v1 v2 hfb
        obtain ⟨v0, v1, v2⟩ := HK.out.val w2 HB2.out
        obtain ⟨c0, c1, c2, c3, c4, c5, c6, c7⟩ := HK.out.box w2 HB2.out
        go_wp2_with fail
        refine (HH.out w2 HB2.out).mono ?_
        rintro e w3 ⟨rfl, hb3⟩
        have HB3 := Lib.hid (HB2.out.trans (hb3.mono HB2.out.size))
        clear hb3
        go_wp2_with fail
        go_ret
        exact ⟨congrArg (fun z => Ending.returned (.bool z)) (by rw [HR.out, HX.out]), HK.out.was HB3.out⟩
      · obtain ⟨hsl, hsr⟩ := valid_strs HVA.out
        have HH := Lib.hid (fun (X : World) (s : Nat) (hc : X.cell? ⟨s, 0, none⟩ = some (.func (.func 75) #[] #[])) (hb : Below W.heap.size W X) => oppEq_any c _ _ x y z s X hc (HCN.out X hb) hsl hsr HII.out)
        have HX : Hid (holdsX c x y z = (!eqW c x y z)) := Lib.hid (by unfold holdsX; rw [if_neg (show ¬ c.k = 1 by omega), if_pos hk]; try rfl)
        clear hsl hsr
        have HA : Hid (∀ s, formArr s c.k.toNat = #[.int .i64 2, .string ⟨#[33, 61]⟩, .func (.func 74) #[] #[], .func (.func 126) #[] #[.pointer (some ⟨s, 0, none⟩)], .func (.func 76) #[] #[], .func (.func 77) #[] #[]]) := Lib.hid (fun s => by rw [hk]; rfl)
        clear hk
        go_enter Tryz.func22, Tryz.ntmps22
        go_wp2_with fail
        rw [← HWE.out]
        refine HFO.out.mono ?_
        rintro e w1 ⟨s, hs, hf, rfl, hb1⟩
        rw [HA.out]
        have HB1 := Lib.hid hb1
        have HF1 := Lib.hid hf
        have hsw : s + 1 < w1.heap.size := (Array.getElem?_eq_some_iff.1 hf.2.1).1
        clear hf hb1 hs c0 c1 c2 c3 c4 c5 c6 c7 v0 v1 v2
        obtain ⟨v0, v1, v2⟩ := HK.out.val w1 HB1.out
        have hlt1 : w.heap.size + 1 < w1.heap.size := by have := HB1.out.size; have := HK.out.size; omega
        have hne1 : w.heap.size + 1 ≠ w1.heap.size := by omega
        go_wp2_with fail
        obtain ⟨V, hVe⟩ : ∃ V, V = w1.alloc (.cells #[.int .i64 2, .string ⟨#[33, 61]⟩, .func (.func 74) #[] #[], .func (.func 126) #[] #[.pointer (some ⟨s, 0, none⟩)], .func (.func 76) #[] #[], .func (.func 77) #[] #[]] 63) := ⟨_, rfl⟩
        have hbV : Below w1.heap.size w1 V := by rw [hVe]; exact (Below.refl _ _).alloc (Nat.le_refl _) _
        have hfV : V.heap[w1.heap.size]? = some (.cells #[.int .i64 2, .string ⟨#[33, 61]⟩, .func (.func 74) #[] #[], .func (.func 126) #[] #[.pointer (some ⟨s, 0, none⟩)], .func (.func 76) #[] #[], .func (.func 77) #[] #[]] 63 (0, 0)) := by rw [hVe]; exact heap_alloc_new w1 _
        rw [← hVe]
        have HBV := Lib.hid (HB1.out.trans (hbV.mono HB1.out.size))
        have HFV := Lib.hid (HF1.out.below hbV)
        have HFB := Lib.hid hfV
        clear hVe hbV hfV
        refine (HVV.out V).mono ?_
        rintro e w2 ⟨rfl, hb2⟩
        have HB2 := Lib.hid (HBV.out.trans (hb2.mono HBV.out.size))
        have hfb := (hb2.block w1.heap.size (Array.getElem?_eq_some_iff.1 HFB.out).1).trans HFB.out
        have f3 := cell_of_row w2 w1.heap.size 3 _ _ (0, 0) hfb
        simp only [List.getElem?_toArray, List.getElem?_cons_succ, List.getElem?_cons_zero] at f3
        have HF2 := Lib.hid (HFV.out.below hb2)
        clear hb2 v0 v1 v2 hfb
        obtain ⟨v0, v1, v2⟩ := HK.out.val w2 HB2.out
        obtain ⟨c0, c1, c2, c3, c4, c5, c6, c7⟩ := HK.out.box w2 HB2.out
        go_wp2_with fail
        refine (HH.out w2 s (cell_of_row w2 s 0 _ _ (0, 0) HF2.out.1) HB2.out).mono ?_
        rintro e w3 ⟨rfl, hb3⟩
        have HB3 := Lib.hid (HB2.out.trans (hb3.mono HB2.out.size))
        clear hb3
        go_wp2_with fail
        go_ret
        exact ⟨congrArg (fun z => Ending.returned (.bool z)) (by rw [HR.out, HX.out]), HK.out.was HB3.out⟩
      · obtain ⟨tl, _, tx, _⟩ := valid_lang HVA.out (.inl hk)
        simp only [Cx.cn] at tl tx
        have HH := Lib.hid (fun (X : World) (hb : Below W.heap.size W X) => inLang_any c _ _ x y z X (HCN.out X hb) tl tx HII.out)
        have HX : Hid (holdsX c x y z = (inLang c.xk c.xl c.xa (appL x y z c.l.data.toList))) := Lib.hid (by unfold holdsX; rw [if_neg (show ¬ c.k = 1 by omega), if_neg (show ¬ c.k = 2 by omega), if_pos hk]; try rfl)
        clear tl tx
        have HA : Hid (∀ s, formArr s c.k.toNat = #[.int .i64 3, .string ⟨#[105, 110]⟩, .func (.func 79) #[] #[], .func (.func 80) #[] #[], .func (.func 81) #[] #[], .func (.func 82) #[] #[]]) := Lib.hid (fun s => by rw [hk]; rfl)
        clear hk
        go_enter Tryz.func22, Tryz.ntmps22
        go_wp2_with fail
        rw [← HWE.out]
        refine HFO.out.mono ?_
        rintro e w1 ⟨s, hs, hf, rfl, hb1⟩
        rw [HA.out]
        have HB1 := Lib.hid hb1
        have HF1 := Lib.hid hf
        have hsw : s + 1 < w1.heap.size := (Array.getElem?_eq_some_iff.1 hf.2.1).1
        clear hf hb1 hs c0 c1 c2 c3 c4 c5 c6 c7 v0 v1 v2
        obtain ⟨v0, v1, v2⟩ := HK.out.val w1 HB1.out
        have hlt1 : w.heap.size + 1 < w1.heap.size := by have := HB1.out.size; have := HK.out.size; omega
        have hne1 : w.heap.size + 1 ≠ w1.heap.size := by omega
        go_wp2_with fail
        obtain ⟨V, hVe⟩ : ∃ V, V = w1.alloc (.cells #[.int .i64 3, .string ⟨#[105, 110]⟩, .func (.func 79) #[] #[], .func (.func 80) #[] #[], .func (.func 81) #[] #[], .func (.func 82) #[] #[]] 63) := ⟨_, rfl⟩
        have hbV : Below w1.heap.size w1 V := by rw [hVe]; exact (Below.refl _ _).alloc (Nat.le_refl _) _
        have hfV : V.heap[w1.heap.size]? = some (.cells #[.int .i64 3, .string ⟨#[105, 110]⟩, .func (.func 79) #[] #[], .func (.func 80) #[] #[], .func (.func 81) #[] #[], .func (.func 82) #[] #[]] 63 (0, 0)) := by rw [hVe]; exact heap_alloc_new w1 _
        rw [← hVe]
        have HBV := Lib.hid (HB1.out.trans (hbV.mono HB1.out.size))
        have HFV := Lib.hid (HF1.out.below hbV)
        have HFB := Lib.hid hfV
        clear hVe hbV hfV
        refine (HVV.out V).mono ?_
        rintro e w2 ⟨rfl, hb2⟩
        have HB2 := Lib.hid (HBV.out.trans (hb2.mono HBV.out.size))
        have hfb := (hb2.block w1.heap.size (Array.getElem?_eq_some_iff.1 HFB.out).1).trans HFB.out
        have f3 := cell_of_row w2 w1.heap.size 3 _ _ (0, 0) hfb
        simp only [List.getElem?_toArray, List.getElem?_cons_succ, List.getElem?_cons_zero] at f3
        have HF2 := Lib.hid (HFV.out.below hb2)
        clear hb2 v0 v1 v2 hfb
        obtain ⟨v0, v1, v2⟩ := HK.out.val w2 HB2.out
        obtain ⟨c0, c1, c2, c3, c4, c5, c6, c7⟩ := HK.out.box w2 HB2.out
        go_wp2_with fail
        refine (HH.out w2 HB2.out).mono ?_
        rintro e w3 ⟨rfl, hb3⟩
        have HB3 := Lib.hid (HB2.out.trans (hb3.mono HB2.out.size))
        clear hb3
        go_wp2_with fail
        go_ret
        exact ⟨congrArg (fun z => Ending.returned (.bool z)) (by rw [HR.out, HX.out]), HK.out.was HB3.out⟩
      · obtain ⟨tl, _, tx, _⟩ := valid_lang HVA.out (.inr hk)
        simp only [Cx.cn] at tl tx
        have HH := Lib.hid (fun (X : World) (s : Nat) (hc : X.cell? ⟨s + 1, 0, none⟩ = some (.func (.func 80) #[] #[])) (hb : Below W.heap.size W X) => oppIn_any c _ _ x y z (s + 1) X hc (HCN.out X hb) tl tx HII.out)
        have HX : Hid (holdsX c x y z = (!inLang c.xk c.xl c.xa (appL x y z c.l.data.toList))) := Lib.hid (by unfold holdsX; rw [if_neg (show ¬ c.k = 1 by omega), if_neg (show ¬ c.k = 2 by omega), if_neg (show ¬ c.k = 3 by omega), if_pos hk]; try rfl)
        clear tl tx
        have HA : Hid (∀ s, formArr s c.k.toNat = #[.int .i64 4, .string ⟨#[111, 117, 116]⟩, .func (.func 79) #[] #[], .func (.func 126) #[] #[.pointer (some ⟨s + 1, 0, none⟩)], .func (.func 81) #[] #[], .func (.func 82) #[] #[]]) := Lib.hid (fun s => by rw [hk]; rfl)
        clear hk
        go_enter Tryz.func22, Tryz.ntmps22
        go_wp2_with fail
        rw [← HWE.out]
        refine HFO.out.mono ?_
        rintro e w1 ⟨s, hs, hf, rfl, hb1⟩
        rw [HA.out]
        have HB1 := Lib.hid hb1
        have HF1 := Lib.hid hf
        have hsw : s + 1 < w1.heap.size := (Array.getElem?_eq_some_iff.1 hf.2.1).1
        clear hf hb1 hs c0 c1 c2 c3 c4 c5 c6 c7 v0 v1 v2
        obtain ⟨v0, v1, v2⟩ := HK.out.val w1 HB1.out
        have hlt1 : w.heap.size + 1 < w1.heap.size := by have := HB1.out.size; have := HK.out.size; omega
        have hne1 : w.heap.size + 1 ≠ w1.heap.size := by omega
        go_wp2_with fail
        obtain ⟨V, hVe⟩ : ∃ V, V = w1.alloc (.cells #[.int .i64 4, .string ⟨#[111, 117, 116]⟩, .func (.func 79) #[] #[], .func (.func 126) #[] #[.pointer (some ⟨s + 1, 0, none⟩)], .func (.func 81) #[] #[], .func (.func 82) #[] #[]] 63) := ⟨_, rfl⟩
        have hbV : Below w1.heap.size w1 V := by rw [hVe]; exact (Below.refl _ _).alloc (Nat.le_refl _) _
        have hfV : V.heap[w1.heap.size]? = some (.cells #[.int .i64 4, .string ⟨#[111, 117, 116]⟩, .func (.func 79) #[] #[], .func (.func 126) #[] #[.pointer (some ⟨s + 1, 0, none⟩)], .func (.func 81) #[] #[], .func (.func 82) #[] #[]] 63 (0, 0)) := by rw [hVe]; exact heap_alloc_new w1 _
        rw [← hVe]
        have HBV := Lib.hid (HB1.out.trans (hbV.mono HB1.out.size))
        have HFV := Lib.hid (HF1.out.below hbV)
        have HFB := Lib.hid hfV
        clear hVe hbV hfV
        refine (HVV.out V).mono ?_
        rintro e w2 ⟨rfl, hb2⟩
        have HB2 := Lib.hid (HBV.out.trans (hb2.mono HBV.out.size))
        have hfb := (hb2.block w1.heap.size (Array.getElem?_eq_some_iff.1 HFB.out).1).trans HFB.out
        have f3 := cell_of_row w2 w1.heap.size 3 _ _ (0, 0) hfb
        simp only [List.getElem?_toArray, List.getElem?_cons_succ, List.getElem?_cons_zero] at f3
        have HF2 := Lib.hid (HFV.out.below hb2)
        clear hb2 v0 v1 v2 hfb
        obtain ⟨v0, v1, v2⟩ := HK.out.val w2 HB2.out
        obtain ⟨c0, c1, c2, c3, c4, c5, c6, c7⟩ := HK.out.box w2 HB2.out
        go_wp2_with fail
        refine (HH.out w2 s (cell_of_row w2 (s + 1) 0 _ _ (0, 0) HF2.out.2.1) HB2.out).mono ?_
        rintro e w3 ⟨rfl, hb3⟩
        have HB3 := Lib.hid (HB2.out.trans (hb3.mono HB2.out.size))
        clear hb3
        go_wp2_with fail
        go_ret
        exact ⟨congrArg (fun z => Ending.returned (.bool z)) (by rw [HR.out, HX.out]), HK.out.was HB3.out⟩
      · obtain ⟨_, _, _, ⟨na, nd, ne, hcs, ha, hd, he⟩, _, _⟩ := valid_len HVA.out hk
        simp only [Cx.cn] at hcs
        have HH := Lib.hid (fun (X : World) (hb : Below W.heap.size W X) => inBound_any c _ _ x y z na nd ne X (HCN.out X hb) hcs ha hd he HII.out)
        have HX : Hid (holdsX c x y z = (decide (sumX c.cs x y z ≤ c.b))) := Lib.hid (by unfold holdsX; rw [if_neg (show ¬ c.k = 1 by omega), if_neg (show ¬ c.k = 2 by omega), if_neg (show ¬ c.k = 3 by omega), if_neg (show ¬ c.k = 4 by omega)]; try rfl)
        clear hcs ha hd he
        have HA : Hid (∀ s, formArr s c.k.toNat = #[.int .i64 5, .string ⟨#[108, 101, 110]⟩, .func (.func 83) #[] #[], .func (.func 84) #[] #[], .func (.func 85) #[] #[], .func (.func 86) #[] #[]]) := Lib.hid (fun s => by rw [hk]; rfl)
        clear hk
        go_enter Tryz.func22, Tryz.ntmps22
        go_wp2_with fail
        rw [← HWE.out]
        refine HFO.out.mono ?_
        rintro e w1 ⟨s, hs, hf, rfl, hb1⟩
        rw [HA.out]
        have HB1 := Lib.hid hb1
        have HF1 := Lib.hid hf
        have hsw : s + 1 < w1.heap.size := (Array.getElem?_eq_some_iff.1 hf.2.1).1
        clear hf hb1 hs c0 c1 c2 c3 c4 c5 c6 c7 v0 v1 v2
        obtain ⟨v0, v1, v2⟩ := HK.out.val w1 HB1.out
        have hlt1 : w.heap.size + 1 < w1.heap.size := by have := HB1.out.size; have := HK.out.size; omega
        have hne1 : w.heap.size + 1 ≠ w1.heap.size := by omega
        go_wp2_with fail
        obtain ⟨V, hVe⟩ : ∃ V, V = w1.alloc (.cells #[.int .i64 5, .string ⟨#[108, 101, 110]⟩, .func (.func 83) #[] #[], .func (.func 84) #[] #[], .func (.func 85) #[] #[], .func (.func 86) #[] #[]] 63) := ⟨_, rfl⟩
        have hbV : Below w1.heap.size w1 V := by rw [hVe]; exact (Below.refl _ _).alloc (Nat.le_refl _) _
        have hfV : V.heap[w1.heap.size]? = some (.cells #[.int .i64 5, .string ⟨#[108, 101, 110]⟩, .func (.func 83) #[] #[], .func (.func 84) #[] #[], .func (.func 85) #[] #[], .func (.func 86) #[] #[]] 63 (0, 0)) := by rw [hVe]; exact heap_alloc_new w1 _
        rw [← hVe]
        have HBV := Lib.hid (HB1.out.trans (hbV.mono HB1.out.size))
        have HFV := Lib.hid (HF1.out.below hbV)
        have HFB := Lib.hid hfV
        clear hVe hbV hfV
        refine (HVV.out V).mono ?_
        rintro e w2 ⟨rfl, hb2⟩
        have HB2 := Lib.hid (HBV.out.trans (hb2.mono HBV.out.size))
        have hfb := (hb2.block w1.heap.size (Array.getElem?_eq_some_iff.1 HFB.out).1).trans HFB.out
        have f3 := cell_of_row w2 w1.heap.size 3 _ _ (0, 0) hfb
        simp only [List.getElem?_toArray, List.getElem?_cons_succ, List.getElem?_cons_zero] at f3
        have HF2 := Lib.hid (HFV.out.below hb2)
        clear hb2 v0 v1 v2 hfb
        obtain ⟨v0, v1, v2⟩ := HK.out.val w2 HB2.out
        obtain ⟨c0, c1, c2, c3, c4, c5, c6, c7⟩ := HK.out.box w2 HB2.out
        go_wp2_with fail
        refine (HH.out w2 HB2.out).mono ?_
        rintro e w3 ⟨rfl, hb3⟩
        have HB3 := Lib.hid (HB2.out.trans (hb3.mono HB2.out.size))
        clear hb3
        go_wp2_with fail
        go_ret
        exact ⟨congrArg (fun z => Ending.returned (.bool z)) (by rw [HR.out, HX.out]), HK.out.was HB3.out⟩
end Go.Proofs.YtjjjdieljljcoaaGreatDoor
