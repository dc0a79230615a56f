/-
  Texts of one proof, one behind the other.
-/
import Derived.Test.YtppliiingoonlaaGreatDoorQaP9
import Derived.Test.YtppliiingoonlaaGreatDoorQaP14

/-
  What impl.IsModel answers.
-/
namespace Go.Proofs.YtppliiingoonlaaGreatDoor
open Go.RowKit

set_option maxRecDepth 100000 in
set_option maxHeartbeats 1600000 in
theorem implFails_any (c : Cx) (xu vc : Value) (x y z : ByteArray) (s : Nat) (w : World) (h : CnO w xu vc c) (hv : w.cell? ⟨s, 0, none⟩ = some (.string x) ∧ w.cell? ⟨s, 1, none⟩ = some (.string y) ∧ w.cell? ⟨s, 2, none⟩ = some (.string z)) (hsz : c.xa.size ≤ 2097152) (hx : x.size ≤ maxLen) (hy : y.size ≤ maxLen) (hz : z.size ≤ maxLen) :
    Calls Tryz.prog 91 #[.agg #[.int .i64 c.k, .string c.l, .string c.r, .int .i64 c.xk, .string c.xl, xu, vc, .int .i64 c.b], .pointer (some ⟨s, 0, none⟩)] w fun e w' => e = .returned (.bool (!holdsFor c x y z)) ∧ Below w.heap.size w w' := by
  obtain ⟨A, m, B, r, rfl, rfl⟩ := h.shape
  obtain ⟨W, hW⟩ : ∃ W, W = w.alloc (.cells #[.int .i64 c.k, .string c.l, .string c.r, .int .i64 c.xk, .string c.xl, .slice A c.xa.items.length m, .slice B c.cs.length r, .int .i64 c.b] 29) := ⟨_, rfl⟩
  have hb0 : Below w.heap.size w W := by rw [hW]; exact (Below.refl _ _).alloc (Nat.le_refl _) _
  have hbx : BoxC W w.heap.size c (.slice A c.xa.items.length m) (.slice B c.cs.length r) := by rw [hW]; exact boxC_new w c _ _ _
  have HI := Lib.hid (implHoldsFor_any c _ _ x y z W (h.kept hb0) hsz hx hy hz)
  have hk : ∀ j u, w.cell? ⟨s, j, none⟩ = some u → W.cell? ⟨s, j, none⟩ = some u := fun j u hu => (hb0.cell (p := ⟨s, j, none⟩) (World.block_lt_of_cell? w _ hu)).trans hu
  have hcW := hbx.cells
  have d0 := hk _ _ hv.1
  have d1 := hk _ _ hv.2.1
  have d2 := hk _ _ hv.2.2
  rw [hW] at hcW d0 d1 d2
  obtain ⟨c0, c1, c2, c3, c4, c5, c6, c7⟩ := hcW
  have HWE := Lib.hid hW
  have HB0 := Lib.hid hb0
  obtain ⟨b, hb⟩ : ∃ b, b = holdsFor c x y z := ⟨_, rfl⟩
  rw [← hb] at HI ⊢
  clear hW hb0 hbx h hb hk hv
  go_enter Tryz.func91, Tryz.ntmps91
  go_wp2_with fail
  rw [← HWE.out]
  refine HI.out.mono ?_
  rintro e w1 ⟨rfl, hb1⟩
  have HB1 := Lib.hid (HB0.out.trans (hb1.mono HB0.out.size))
  clear hb1 c0 c1 c2 c3 c4 c5 c6 c7 d0 d1 d2
  go_wp2_with fail
  go_ret
  exact ⟨rfl, HB1.out⟩

theorem model_any (ps : List Cx) (x y z : ByteArray) : isModelP ps x y z = (validP ps && (!(ps.any (fun c => !holdsFor c x y z)) && onlyIn (varsP ps) x y z)) := by
  unfold isModelP
  rw [List.not_any_eq_all_not]
  simp

set_option maxRecDepth 100000 in
set_option maxHeartbeats 6400000 in
theorem implModel_any (ps : List Cx) (v : Value) (x y z : ByteArray) (w : World) (h : PrO w v ps) (hsz : ∀ c ∈ ps, c.xa.size ≤ 2097152) (hx : x.size ≤ maxLen) (hy : y.size ≤ maxLen) (hz : z.size ≤ maxLen) :
    Calls Tryz.prog 47 #[.agg #[v], .agg #[.string x, .string y, .string z]] w fun e w' => e = .returned (.bool (isModelP ps x y z)) ∧ Below w.heap.size w w' := by
  obtain ⟨hl, A, m, rfl⟩ := h.shape
  unfold maxI at hl
  obtain ⟨W1, hW1⟩ : ∃ W1, W1 = w.alloc (.cells #[.slice A ps.length m] 45) := ⟨_, rfl⟩
  obtain ⟨W, hW⟩ : ∃ W, W = W1.alloc (.cells #[.string x, .string y, .string z] 38) := ⟨_, rfl⟩
  have hb1 : Below w.heap.size w W1 := by rw [hW1]; exact (Below.refl _ _).alloc (Nat.le_refl _) _
  have hb12 : Below W1.heap.size W1 W := by rw [hW]; exact (Below.refl _ _).alloc (Nat.le_refl _) _
  have hz1 : W1.heap.size = w.heap.size + 1 := by rw [hW1]; simp
  have hb0 := hb1.trans (hb12.mono hb1.size)
  have hbx : BoxP W w.heap.size (.slice A ps.length m) := BoxP.kept (by rw [hW1]; exact boxP_new w _ _) hb12
  have hbv : BoxV W (w.heap.size + 1) x y z := by rw [hW, ← hz1]; exact ⟨_, heap_alloc_new W1 _⟩
  rw [hW1] at hW
  have HWE := Lib.hid hW
  have HB0 := Lib.hid hb0
  have kb := fun (n : UpW W) => (hbx.kept n.up).cell
  have d0 := fun (n : UpW W) => (hbv.kept n.up).cells.1
  have d1 := fun (n : UpW W) => (hbv.kept n.up).cells.2.1
  have d2 := fun (n : UpW W) => (hbv.kept n.up).cells.2.2
  obtain ⟨nm, hnm⟩ : ∃ nm, nm = strL (varsP ps) := ⟨_, rfl⟩
  have HNM := Lib.hid (show varsP ps = nm.data.toList by rw [hnm, strL_list])
  have HVP := Lib.hid (fun (n : UpW W) => up_call (W := W) (n := n) (implVP_any ps _ n.w ((h.kept hb0).kept n.up) hsz))
  have HVV := Lib.hid (fun (n : UpW W) => up_call (W := W) (n := n) (implVarsP_any ps _ n.w ((h.kept hb0).kept n.up) hsz))
  have HCF := Lib.hid (fun (n : UpW W) => up_call (W := W) (n := n) (conC_any ps A m 91 #[.pointer (some ⟨w.heap.size + 1, 0, none⟩)] (fun c => !holdsFor c x y z) n.w (enters_of Tryz.func91 (by kernel_rfl) rfl) ((h.kept hb0).kept n.up) (fun V c xu vc hbV hc hm => implFails_any c xu vc x y z (w.heap.size + 1) V hc (hbv.kept (n.up.trans (hbV.mono n.up.size))).cells (hsz c hm) hx hy hz)))
  have HON := Lib.hid (fun (n : UpW W) => up_call (W := W) (n := n) (implOnly_any x y z nm n.w))
  rw [← hnm] at HVV
  have HR : Hid (isModelP ps x y z = (validP ps && (!(ps.any (fun c => !holdsFor c x y z)) && onlyIn nm.data.toList x y z))) := Lib.hid (by rw [model_any, ← HNM.out])
  obtain ⟨q1, hq1⟩ : ∃ b, b = validP ps := ⟨_, rfl⟩
  obtain ⟨q2, hq2⟩ : ∃ b, b = ps.any (fun c => !holdsFor c x y z) := ⟨_, rfl⟩
  obtain ⟨q3, hq3⟩ : ∃ b, b = onlyIn nm.data.toList x y z := ⟨_, rfl⟩
  rw [← hq1, ← hq2, ← hq3] at HR
  rw [← hq1] at HVP
  rw [← hq2] at HCF
  rw [← hq3] at HON
  clear hW1 hb1 hb12 hz1 hW hbx hbv h hsz hb0 hx hy hz hnm hq1 hq2 hq3 HNM
  cases q1 with
  | false =>
    go_enter Tryz.func47, Tryz.ntmps47
    go_wp2_with fail
    rw [← HWE.out]
    refine wp_region_up (by kernel_rfl) (by kernel_rfl) ?_
    repeat (go_big_quiet_step ((first | with_reducible exact HVP.out _ | with_reducible exact HCF.out _ | with_reducible exact HVV.out _ | with_reducible exact HON.out _)))
    refine wpQuiet_nil ?_
    rintro _ ⟨⟨wd, hbw⟩, rfl⟩
    have HBd := Lib.hid (HB0.out.trans (hbw.mono HB0.out.size))
    clear hbw kb d0 d1 d2
    go_wp2_with fail
    go_ret
    exact ⟨by rw [HR.out]; rfl, HBd.out⟩
  | true =>
    cases q2 with
    | true =>
      go_enter Tryz.func47, Tryz.ntmps47
      go_wp2_with fail
      rw [← HWE.out]
      refine wp_region_up (by kernel_rfl) (by kernel_rfl) ?_
      repeat (go_big_quiet_step ((first | with_reducible exact HVP.out _ | with_reducible exact HCF.out _ | with_reducible exact HVV.out _ | with_reducible exact HON.out _)))
      refine wpQuiet_nil ?_
      rintro _ ⟨⟨wd, hbw⟩, rfl⟩
      have HBd := Lib.hid (HB0.out.trans (hbw.mono HB0.out.size))
      clear hbw kb d0 d1 d2
      go_wp2_with fail
      go_ret
      exact ⟨by rw [HR.out]; rfl, HBd.out⟩
    | false =>
      go_enter Tryz.func47, Tryz.ntmps47
      go_wp2_with fail
      rw [← HWE.out]
      refine wp_region_up (by kernel_rfl) (by kernel_rfl) ?_
      repeat (go_big_quiet_step ((first | with_reducible exact HVP.out _ | with_reducible exact HCF.out _ | with_reducible exact HVV.out _ | with_reducible exact HON.out _)))
      refine wpQuiet_nil ?_
      rintro _ ⟨⟨wd, hbw⟩, rfl⟩
      have HBd := Lib.hid (HB0.out.trans (hbw.mono HB0.out.size))
      clear hbw kb d0 d1 d2
      go_wp2_with fail
      go_ret
      exact ⟨by rw [HR.out]; rfl, HBd.out⟩
end Go.Proofs.YtppliiingoonlaaGreatDoor
