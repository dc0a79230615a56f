/- Texts of one proof. -/
import Derived.Test.YtppliiingoonlaaGreatDoorxPPZPack13
set_option maxRecDepth 100000
set_option maxHeartbeats 20000000
namespace Go.Proofs.YtppliiingoonlaaGreatDoor
open Go.RowKit
theorem relTerms_any (c : Cx) (xu vc : Value) (w : World) (h : CnO w xu vc c) (hsz : c.xa.size <= 2097152) :
    Calls Tryz.prog 101 #[.agg #[.int .i64 c.k, .string c.l, .string c.r, .int .i64 c.xk, .string c.xl, xu, vc, .int .i64 c.b]] w λ e w' => e = .returned (.bool (isT c.l.data.toList && isT c.r.data.toList && zB c.xk c.xl c.xa.items.length && noN c)) /\ Below w.heap.size w w' := by
  obtain ⟨A, m, B, r, rfl, rfl⟩ := h.shape
  obtain ⟨W, hW⟩ : ∃ W, W = w.alloc (.cells #[.int .i64 c.k, .string c.l, .string c.r, .int .i64 c.xk, .string c.xl, .slice A c.xa.items.length m, .slice B c.cs.length r, .int .i64 c.b] 29) := ⟨_, rfl⟩
  have hb0 : Below w.heap.size w W := by rw [hW]; exact (Below.refl _ _).alloc (Nat.le_refl _) _
  have hbx : BoxC W w.heap.size c (.slice A c.xa.items.length m) (.slice B c.cs.length r) := by rw [hW]; exact boxC_new w c _ _ _
  have HWE := Lib.hid hW
  have HB0 := Lib.hid hb0
  have HCX := Lib.hid (λ (V : World) (hb : Below W.heap.size W V) => (hbx.kept hb).cells)
  have hcw : ∀ V, Below W.heap.size W V -> CnO V (.slice A c.xa.items.length m) (.slice B c.cs.length r) c := λ V hb => h.kept (hb0.trans (hb.mono hb0.size))
  have HCN := Lib.hid hcw
  have hcW := hbx.cells
  rw [hW] at hcW
  obtain ⟨c0, c1, c2, c3, c4, c5, c6, c7⟩ := hcW
  have hls := h.1
  unfold maxI at hls
  obtain ⟨hl, hr, hx⟩ := hls
  have hR := h.2.2
  have Htl := Lib.hid (λ V => implIsT_any c.l V (by unfold maxLen; omega))
  have Htr := Lib.hid (λ V => implIsT_any c.r V (by unfold maxLen; omega))
  have Hz := Lib.hid (λ V (hb : Below W.heap.size W V) => noRx_any c _ _ V (HCN.out V hb) hsz)
  have Hnn := Lib.hid (λ V (hb : Below W.heap.size W V) => noNum_any c _ _ V (HCN.out V hb))
  obtain ⟨tl, htl⟩ : ∃ tl, tl = isT c.l.data.toList := ⟨_, rfl⟩
  rw [<- htl] at Htl ⊢
  clear htl
  obtain ⟨tr, htr⟩ : ∃ tr, tr = isT c.r.data.toList := ⟨_, rfl⟩
  rw [<- htr] at Htr ⊢
  clear htr
  obtain ⟨z, hz⟩ : ∃ z, z = zB c.xk c.xl c.xa.items.length := ⟨_, rfl⟩
  rw [<- hz] at Hz ⊢
  clear hz
  obtain ⟨nn, hnn⟩ : ∃ nn, nn = noN c := ⟨_, rfl⟩
  rw [<- hnn] at Hnn ⊢
  clear hnn
  clear hW hbx hb0 h hcw hR hsz
  cases tl with
  | false =>
    go_enter Tryz.func101, Tryz.ntmps101
    go_wp2_with fail
    rw [<- HWE.out]
    refine (Htl.out W).mono ?_
    rintro e w1 ⟨rfl, hb⟩
    have HB1 := Lib.hid ((Below.refl W.heap.size W).trans (hb.mono (Below.refl W.heap.size W).size))
    clear hb
    clear c0 c1 c2 c3 c4 c5 c6 c7
    obtain ⟨c0, c1, c2, c3, c4, c5, c6, c7⟩ := HCX.out w1 HB1.out
    go_wp2_with fail
    go_ret
    exact ⟨rfl, HB0.out.trans (HB1.out.mono HB0.out.size)⟩
  | true =>
    cases tr with
    | false =>
      go_enter Tryz.func101, Tryz.ntmps101
      go_wp2_with fail
      rw [<- HWE.out]
      refine (Htl.out W).mono ?_
      rintro e w1 ⟨rfl, hb⟩
      have HB1 := Lib.hid ((Below.refl W.heap.size W).trans (hb.mono (Below.refl W.heap.size W).size))
      clear hb
      clear c0 c1 c2 c3 c4 c5 c6 c7
      obtain ⟨c0, c1, c2, c3, c4, c5, c6, c7⟩ := HCX.out w1 HB1.out
      go_wp2_with fail
      refine (Htr.out w1).mono ?_
      rintro e w2 ⟨rfl, hb⟩
      have HB2 := Lib.hid ((HB1.out).trans (hb.mono (HB1.out).size))
      clear hb
      clear c0 c1 c2 c3 c4 c5 c6 c7
      obtain ⟨c0, c1, c2, c3, c4, c5, c6, c7⟩ := HCX.out w2 HB2.out
      go_wp2_with fail
      go_ret
      exact ⟨rfl, HB0.out.trans (HB2.out.mono HB0.out.size)⟩
    | true =>
      cases z with
      | false =>
        go_enter Tryz.func101, Tryz.ntmps101
        go_wp2_with fail
        rw [<- HWE.out]
        refine (Htl.out W).mono ?_
        rintro e w1 ⟨rfl, hb⟩
        have HB1 := Lib.hid ((Below.refl W.heap.size W).trans (hb.mono (Below.refl W.heap.size W).size))
        clear hb
        clear c0 c1 c2 c3 c4 c5 c6 c7
        obtain ⟨c0, c1, c2, c3, c4, c5, c6, c7⟩ := HCX.out w1 HB1.out
        go_wp2_with fail
        refine (Htr.out w1).mono ?_
        rintro e w2 ⟨rfl, hb⟩
        have HB2 := Lib.hid ((HB1.out).trans (hb.mono (HB1.out).size))
        clear hb
        clear c0 c1 c2 c3 c4 c5 c6 c7
        obtain ⟨c0, c1, c2, c3, c4, c5, c6, c7⟩ := HCX.out w2 HB2.out
        go_wp2_with fail
        refine (Hz.out w2 (HB2.out)).mono ?_
        rintro e w3 ⟨rfl, hb⟩
        have HB3 := Lib.hid ((HB2.out).trans (hb.mono (HB2.out).size))
        clear hb
        clear c0 c1 c2 c3 c4 c5 c6 c7
        obtain ⟨c0, c1, c2, c3, c4, c5, c6, c7⟩ := HCX.out w3 HB3.out
        go_wp2_with fail
        go_ret
        exact ⟨rfl, HB0.out.trans (HB3.out.mono HB0.out.size)⟩
      | true =>
        cases nn with
        | false =>
          go_enter Tryz.func101, Tryz.ntmps101
          go_wp2_with fail
          rw [<- HWE.out]
          refine (Htl.out W).mono ?_
          rintro e w1 ⟨rfl, hb⟩
          have HB1 := Lib.hid ((Below.refl W.heap.size W).trans (hb.mono (Below.refl W.heap.size W).size))
          clear hb
          clear c0 c1 c2 c3 c4 c5 c6 c7
          obtain ⟨c0, c1, c2, c3, c4, c5, c6, c7⟩ := HCX.out w1 HB1.out
          go_wp2_with fail
          refine (Htr.out w1).mono ?_
          rintro e w2 ⟨rfl, hb⟩
          have HB2 := Lib.hid ((HB1.out).trans (hb.mono (HB1.out).size))
          clear hb
          clear c0 c1 c2 c3 c4 c5 c6 c7
          obtain ⟨c0, c1, c2, c3, c4, c5, c6, c7⟩ := HCX.out w2 HB2.out
          go_wp2_with fail
          refine (Hz.out w2 (HB2.out)).mono ?_
          rintro e w3 ⟨rfl, hb⟩
          have HB3 := Lib.hid ((HB2.out).trans (hb.mono (HB2.out).size))
          clear hb
          clear c0 c1 c2 c3 c4 c5 c6 c7
          obtain ⟨c0, c1, c2, c3, c4, c5, c6, c7⟩ := HCX.out w3 HB3.out
          go_wp2_with fail
          refine (Hnn.out w3 (HB3.out)).mono ?_
          rintro e w4 ⟨rfl, hb⟩
          have HB4 := Lib.hid ((HB3.out).trans (hb.mono (HB3.out).size))
          clear hb
          clear c0 c1 c2 c3 c4 c5 c6 c7
          obtain ⟨c0, c1, c2, c3, c4, c5, c6, c7⟩ := HCX.out w4 HB4.out
          go_wp2_with fail
          go_ret
          exact ⟨rfl, HB0.out.trans (HB4.out.mono HB0.out.size)⟩
        | true =>
          go_enter Tryz.func101, Tryz.ntmps101
          go_wp2_with fail
          rw [<- HWE.out]
          refine (Htl.out W).mono ?_
          rintro e w1 ⟨rfl, hb⟩
          have HB1 := Lib.hid ((Below.refl W.heap.size W).trans (hb.mono (Below.refl W.heap.size W).size))
          clear hb
          clear c0 c1 c2 c3 c4 c5 c6 c7
          obtain ⟨c0, c1, c2, c3, c4, c5, c6, c7⟩ := HCX.out w1 HB1.out
          go_wp2_with fail
          refine (Htr.out w1).mono ?_
          rintro e w2 ⟨rfl, hb⟩
          have HB2 := Lib.hid ((HB1.out).trans (hb.mono (HB1.out).size))
          clear hb
          clear c0 c1 c2 c3 c4 c5 c6 c7
          obtain ⟨c0, c1, c2, c3, c4, c5, c6, c7⟩ := HCX.out w2 HB2.out
          go_wp2_with fail
          refine (Hz.out w2 (HB2.out)).mono ?_
          rintro e w3 ⟨rfl, hb⟩
          have HB3 := Lib.hid ((HB2.out).trans (hb.mono (HB2.out).size))
          clear hb
          clear c0 c1 c2 c3 c4 c5 c6 c7
          obtain ⟨c0, c1, c2, c3, c4, c5, c6, c7⟩ := HCX.out w3 HB3.out
          go_wp2_with fail
          refine (Hnn.out w3 (HB3.out)).mono ?_
          rintro e w4 ⟨rfl, hb⟩
          have HB4 := Lib.hid ((HB3.out).trans (hb.mono (HB3.out).size))
          clear hb
          clear c0 c1 c2 c3 c4 c5 c6 c7
          obtain ⟨c0, c1, c2, c3, c4, c5, c6, c7⟩ := HCX.out w4 HB4.out
          go_wp2_with fail
          go_ret
          exact ⟨rfl, HB0.out.trans (HB4.out.mono HB0.out.size)⟩
theorem relRegex_any (c : Cx) (xu vc : Value) (w : World) (h : CnO w xu vc c) (hsz : c.xa.size <= 2097152) :
    Calls Tryz.prog 106 #[.agg #[.int .i64 c.k, .string c.l, .string c.r, .int .i64 c.xk, .string c.xl, xu, vc, .int .i64 c.b]] w λ e w' => e = .returned (.bool (isT c.l.data.toList && decide (c.r.size = 0) && validRx c.xk c.xl c.xa && noN c)) /\ Below w.heap.size w w' := by
  obtain ⟨A, m, B, r, rfl, rfl⟩ := h.shape
  obtain ⟨W, hW⟩ : ∃ W, W = w.alloc (.cells #[.int .i64 c.k, .string c.l, .string c.r, .int .i64 c.xk, .string c.xl, .slice A c.xa.items.length m, .slice B c.cs.length r, .int .i64 c.b] 29) := ⟨_, rfl⟩
  have hb0 : Below w.heap.size w W := by rw [hW]; exact (Below.refl _ _).alloc (Nat.le_refl _) _
  have hbx : BoxC W w.heap.size c (.slice A c.xa.items.length m) (.slice B c.cs.length r) := by rw [hW]; exact boxC_new w c _ _ _
  have HWE := Lib.hid hW
  have HB0 := Lib.hid hb0
  have HCX := Lib.hid (λ (V : World) (hb : Below W.heap.size W V) => (hbx.kept hb).cells)
  have hcw : ∀ V, Below W.heap.size W V -> CnO V (.slice A c.xa.items.length m) (.slice B c.cs.length r) c := λ V hb => h.kept (hb0.trans (hb.mono hb0.size))
  have HCN := Lib.hid hcw
  have hcW := hbx.cells
  rw [hW] at hcW
  obtain ⟨c0, c1, c2, c3, c4, c5, c6, c7⟩ := hcW
  have hls := h.1
  unfold maxI at hls
  obtain ⟨hl, hr, hx⟩ := hls
  have hR := h.2.2
  have Htl := Lib.hid (λ V => implIsT_any c.l V (by unfold maxLen; omega))
  have Hv := Lib.hid (λ V (hb : Below W.heap.size W V) => implValid_any _ V.heap.size c.xk c.xl _ c.xa V (HCN.out V hb).read.2.1.choose_spec (Nat.le_refl _) hsz hx)
  have Hnn := Lib.hid (λ V (hb : Below W.heap.size W V) => noNum_any c _ _ V (HCN.out V hb))
  obtain ⟨tl, htl⟩ : ∃ tl, tl = isT c.l.data.toList := ⟨_, rfl⟩
  rw [<- htl] at Htl ⊢
  clear htl
  obtain ⟨v, hv⟩ : ∃ v, v = validRx c.xk c.xl c.xa := ⟨_, rfl⟩
  rw [<- hv] at Hv ⊢
  clear hv
  obtain ⟨nn, hnn⟩ : ∃ nn, nn = noN c := ⟨_, rfl⟩
  rw [<- hnn] at Hnn ⊢
  clear hnn
  clear hW hbx hb0 h hcw hR hsz
  cases tl with
  | false =>
    go_enter Tryz.func106, Tryz.ntmps106
    go_wp2_with fail
    rw [<- HWE.out]
    refine (Htl.out W).mono ?_
    rintro e w1 ⟨rfl, hb⟩
    have HB1 := Lib.hid ((Below.refl W.heap.size W).trans (hb.mono (Below.refl W.heap.size W).size))
    clear hb
    clear c0 c1 c2 c3 c4 c5 c6 c7
    obtain ⟨c0, c1, c2, c3, c4, c5, c6, c7⟩ := HCX.out w1 HB1.out
    go_wp2_with fail
    go_ret
    exact ⟨rfl, HB0.out.trans (HB1.out.mono HB0.out.size)⟩
  | true =>
    by_cases q1 : c.r.size = 0
    . have k1 := bytes_nil q1
      have k1e : c.r.toList.isEmpty = true := by rw [k1]; rfl
      rw [show decide (c.r.size = 0) = true from decide_eq_true q1]
      clear q1
      cases v with
      | false =>
        go_enter Tryz.func106, Tryz.ntmps106
        go_wp2_with fail
        rw [<- HWE.out]
        refine (Htl.out W).mono ?_
        rintro e w1 ⟨rfl, hb⟩
        have HB1 := Lib.hid ((Below.refl W.heap.size W).trans (hb.mono (Below.refl W.heap.size W).size))
        clear hb
        clear c0 c1 c2 c3 c4 c5 c6 c7
        obtain ⟨c0, c1, c2, c3, c4, c5, c6, c7⟩ := HCX.out w1 HB1.out
        go_wp2_with fail
        refine (Hv.out w1 (HB1.out)).mono ?_
        rintro e w2 ⟨rfl, hb⟩
        have HB2 := Lib.hid ((HB1.out).trans (hb.mono (HB1.out).size))
        clear hb
        clear c0 c1 c2 c3 c4 c5 c6 c7
        obtain ⟨c0, c1, c2, c3, c4, c5, c6, c7⟩ := HCX.out w2 HB2.out
        go_wp2_with fail
        go_ret
        exact ⟨rfl, HB0.out.trans (HB2.out.mono HB0.out.size)⟩
      | true =>
        cases nn with
        | false =>
          go_enter Tryz.func106, Tryz.ntmps106
          go_wp2_with fail
          rw [<- HWE.out]
          refine (Htl.out W).mono ?_
          rintro e w1 ⟨rfl, hb⟩
          have HB1 := Lib.hid ((Below.refl W.heap.size W).trans (hb.mono (Below.refl W.heap.size W).size))
          clear hb
          clear c0 c1 c2 c3 c4 c5 c6 c7
          obtain ⟨c0, c1, c2, c3, c4, c5, c6, c7⟩ := HCX.out w1 HB1.out
          go_wp2_with fail
          refine (Hv.out w1 (HB1.out)).mono ?_
          rintro e w2 ⟨rfl, hb⟩
          have HB2 := Lib.hid ((HB1.out).trans (hb.mono (HB1.out).size))
          clear hb
          clear c0 c1 c2 c3 c4 c5 c6 c7
          obtain ⟨c0, c1, c2, c3, c4, c5, c6, c7⟩ := HCX.out w2 HB2.out
          go_wp2_with fail
          refine (Hnn.out w2 (HB2.out)).mono ?_
          rintro e w3 ⟨rfl, hb⟩
          have HB3 := Lib.hid ((HB2.out).trans (hb.mono (HB2.out).size))
          clear hb
          clear c0 c1 c2 c3 c4 c5 c6 c7
          obtain ⟨c0, c1, c2, c3, c4, c5, c6, c7⟩ := HCX.out w3 HB3.out
          go_wp2_with fail
          go_ret
          exact ⟨rfl, HB0.out.trans (HB3.out.mono HB0.out.size)⟩
        | true =>
          go_enter Tryz.func106, Tryz.ntmps106
          go_wp2_with fail
          rw [<- HWE.out]
          refine (Htl.out W).mono ?_
          rintro e w1 ⟨rfl, hb⟩
          have HB1 := Lib.hid ((Below.refl W.heap.size W).trans (hb.mono (Below.refl W.heap.size W).size))
          clear hb
          clear c0 c1 c2 c3 c4 c5 c6 c7
          obtain ⟨c0, c1, c2, c3, c4, c5, c6, c7⟩ := HCX.out w1 HB1.out
          go_wp2_with fail
          refine (Hv.out w1 (HB1.out)).mono ?_
          rintro e w2 ⟨rfl, hb⟩
          have HB2 := Lib.hid ((HB1.out).trans (hb.mono (HB1.out).size))
          clear hb
          clear c0 c1 c2 c3 c4 c5 c6 c7
          obtain ⟨c0, c1, c2, c3, c4, c5, c6, c7⟩ := HCX.out w2 HB2.out
          go_wp2_with fail
          refine (Hnn.out w2 (HB2.out)).mono ?_
          rintro e w3 ⟨rfl, hb⟩
          have HB3 := Lib.hid ((HB2.out).trans (hb.mono (HB2.out).size))
          clear hb
          clear c0 c1 c2 c3 c4 c5 c6 c7
          obtain ⟨c0, c1, c2, c3, c4, c5, c6, c7⟩ := HCX.out w3 HB3.out
          go_wp2_with fail
          go_ret
          exact ⟨rfl, HB0.out.trans (HB3.out.mono HB0.out.size)⟩
    . have k1 := bytes_some q1
      have k1e : c.r.toList.isEmpty = false := by simpa using k1
      rw [show decide (c.r.size = 0) = false from decide_eq_false q1]
      clear q1
      go_enter Tryz.func106, Tryz.ntmps106
      go_wp2_with fail
      rw [<- HWE.out]
      refine (Htl.out W).mono ?_
      rintro e w1 ⟨rfl, hb⟩
      have HB1 := Lib.hid ((Below.refl W.heap.size W).trans (hb.mono (Below.refl W.heap.size W).size))
      clear hb
      clear c0 c1 c2 c3 c4 c5 c6 c7
      obtain ⟨c0, c1, c2, c3, c4, c5, c6, c7⟩ := HCX.out w1 HB1.out
      go_wp2_with fail
      go_ret
      exact ⟨rfl, HB0.out.trans (HB1.out.mono HB0.out.size)⟩
theorem bounds_any (c : Cx) (xu vc : Value) (w : World) (h : CnO w xu vc c) (hsz : c.xa.size <= 2097152) :
    Calls Tryz.prog 110 #[.agg #[.int .i64 c.k, .string c.l, .string c.r, .int .i64 c.xk, .string c.xl, xu, vc, .int .i64 c.b]] w λ e w' => e = .returned (.bool (decide (c.l.size = 0) && decide (c.r.size = 0) && zB c.xk c.xl c.xa.items.length && coB c.cs && inR (-99) 99 c.b)) /\ Below w.heap.size w w' := by
  obtain ⟨A, m, B, r, rfl, rfl⟩ := h.shape
  obtain ⟨W, hW⟩ : ∃ W, W = w.alloc (.cells #[.int .i64 c.k, .string c.l, .string c.r, .int .i64 c.xk, .string c.xl, .slice A c.xa.items.length m, .slice B c.cs.length r, .int .i64 c.b] 29) := ⟨_, rfl⟩
  have hb0 : Below w.heap.size w W := by rw [hW]; exact (Below.refl _ _).alloc (Nat.le_refl _) _
  have hbx : BoxC W w.heap.size c (.slice A c.xa.items.length m) (.slice B c.cs.length r) := by rw [hW]; exact boxC_new w c _ _ _
  have HWE := Lib.hid hW
  have HB0 := Lib.hid hb0
  have HCX := Lib.hid (λ (V : World) (hb : Below W.heap.size W V) => (hbx.kept hb).cells)
  have hcw : ∀ V, Below W.heap.size W V -> CnO V (.slice A c.xa.items.length m) (.slice B c.cs.length r) c := λ V hb => h.kept (hb0.trans (hb.mono hb0.size))
  have HCN := Lib.hid hcw
  have hcW := hbx.cells
  rw [hW] at hcW
  obtain ⟨c0, c1, c2, c3, c4, c5, c6, c7⟩ := hcW
  have hls := h.1
  unfold maxI at hls
  obtain ⟨hl, hr, hx⟩ := hls
  have hR := h.2.2
  have Hz := Lib.hid (λ V (hb : Below W.heap.size W V) => noRx_any c _ _ V (HCN.out V hb) hsz)
  have Hco := Lib.hid (λ V (hb : Below W.heap.size W V) => areCoeffs_any _ c.cs _ V (HCN.out V hb).2.2)
  have Hbo := Lib.hid (λ V => isBound_any c.b V)
  obtain ⟨z, hz⟩ : ∃ z, z = zB c.xk c.xl c.xa.items.length := ⟨_, rfl⟩
  rw [<- hz] at Hz ⊢
  clear hz
  obtain ⟨co, hco⟩ : ∃ co, co = coB c.cs := ⟨_, rfl⟩
  rw [<- hco] at Hco ⊢
  clear hco
  obtain ⟨bo, hbo⟩ : ∃ bo, bo = inR (-99) 99 c.b := ⟨_, rfl⟩
  rw [<- hbo] at Hbo ⊢
  clear hbo
  clear hW hbx hb0 h hcw hR hsz
  by_cases q0 : c.l.size = 0
  . have k0 := bytes_nil q0
    have k0e : c.l.toList.isEmpty = true := by rw [k0]; rfl
    rw [show decide (c.l.size = 0) = true from decide_eq_true q0]
    clear q0
    by_cases q1 : c.r.size = 0
    . have k1 := bytes_nil q1
      have k1e : c.r.toList.isEmpty = true := by rw [k1]; rfl
      rw [show decide (c.r.size = 0) = true from decide_eq_true q1]
      clear q1
      cases z with
      | false =>
        go_enter Tryz.func110, Tryz.ntmps110
        go_wp2_with fail
        rw [<- HWE.out]
        refine (Hz.out W (Below.refl W.heap.size W)).mono ?_
        rintro e w1 ⟨rfl, hb⟩
        have HB1 := Lib.hid ((Below.refl W.heap.size W).trans (hb.mono (Below.refl W.heap.size W).size))
        clear hb
        clear c0 c1 c2 c3 c4 c5 c6 c7
        obtain ⟨c0, c1, c2, c3, c4, c5, c6, c7⟩ := HCX.out w1 HB1.out
        go_wp2_with fail
        go_ret
        exact ⟨rfl, HB0.out.trans (HB1.out.mono HB0.out.size)⟩
      | true =>
        cases co with
        | false =>
          go_enter Tryz.func110, Tryz.ntmps110
          go_wp2_with fail
          rw [<- HWE.out]
          refine (Hz.out W (Below.refl W.heap.size W)).mono ?_
          rintro e w1 ⟨rfl, hb⟩
          have HB1 := Lib.hid ((Below.refl W.heap.size W).trans (hb.mono (Below.refl W.heap.size W).size))
          clear hb
          clear c0 c1 c2 c3 c4 c5 c6 c7
          obtain ⟨c0, c1, c2, c3, c4, c5, c6, c7⟩ := HCX.out w1 HB1.out
          go_wp2_with fail
          refine (Hco.out w1 (HB1.out)).mono ?_
          rintro e w' ⟨rfl, rfl⟩
          have HB2 := Lib.hid (HB1.out)
          clear c0 c1 c2 c3 c4 c5 c6 c7
          obtain ⟨c0, c1, c2, c3, c4, c5, c6, c7⟩ := HCX.out w1 HB2.out
          go_wp2_with fail
          go_ret
          exact ⟨rfl, HB0.out.trans (HB2.out.mono HB0.out.size)⟩
        | true =>
          cases bo with
          | false =>
            go_enter Tryz.func110, Tryz.ntmps110
            go_wp2_with fail
            rw [<- HWE.out]
            refine (Hz.out W (Below.refl W.heap.size W)).mono ?_
            rintro e w1 ⟨rfl, hb⟩
            have HB1 := Lib.hid ((Below.refl W.heap.size W).trans (hb.mono (Below.refl W.heap.size W).size))
            clear hb
            clear c0 c1 c2 c3 c4 c5 c6 c7
            obtain ⟨c0, c1, c2, c3, c4, c5, c6, c7⟩ := HCX.out w1 HB1.out
            go_wp2_with fail
            refine (Hco.out w1 (HB1.out)).mono ?_
            rintro e w' ⟨rfl, rfl⟩
            have HB2 := Lib.hid (HB1.out)
            clear c0 c1 c2 c3 c4 c5 c6 c7
            obtain ⟨c0, c1, c2, c3, c4, c5, c6, c7⟩ := HCX.out w1 HB2.out
            go_wp2_with fail
            refine (Hbo.out w1).mono ?_
            rintro e w' ⟨rfl, rfl⟩
            have HB3 := Lib.hid (HB2.out)
            clear c0 c1 c2 c3 c4 c5 c6 c7
            obtain ⟨c0, c1, c2, c3, c4, c5, c6, c7⟩ := HCX.out w1 HB3.out
            go_wp2_with fail
            go_ret
            exact ⟨rfl, HB0.out.trans (HB3.out.mono HB0.out.size)⟩
          | true =>
            go_enter Tryz.func110, Tryz.ntmps110
            go_wp2_with fail
            rw [<- HWE.out]
            refine (Hz.out W (Below.refl W.heap.size W)).mono ?_
            rintro e w1 ⟨rfl, hb⟩
            have HB1 := Lib.hid ((Below.refl W.heap.size W).trans (hb.mono (Below.refl W.heap.size W).size))
            clear hb
            clear c0 c1 c2 c3 c4 c5 c6 c7
            obtain ⟨c0, c1, c2, c3, c4, c5, c6, c7⟩ := HCX.out w1 HB1.out
            go_wp2_with fail
            refine (Hco.out w1 (HB1.out)).mono ?_
            rintro e w' ⟨rfl, rfl⟩
            have HB2 := Lib.hid (HB1.out)
            clear c0 c1 c2 c3 c4 c5 c6 c7
            obtain ⟨c0, c1, c2, c3, c4, c5, c6, c7⟩ := HCX.out w1 HB2.out
            go_wp2_with fail
            refine (Hbo.out w1).mono ?_
            rintro e w' ⟨rfl, rfl⟩
            have HB3 := Lib.hid (HB2.out)
            clear c0 c1 c2 c3 c4 c5 c6 c7
            obtain ⟨c0, c1, c2, c3, c4, c5, c6, c7⟩ := HCX.out w1 HB3.out
            go_wp2_with fail
            go_ret
            exact ⟨rfl, HB0.out.trans (HB3.out.mono HB0.out.size)⟩
    . have k1 := bytes_some q1
      have k1e : c.r.toList.isEmpty = false := by simpa using k1
      rw [show decide (c.r.size = 0) = false from decide_eq_false q1]
      clear q1
      go_enter Tryz.func110, Tryz.ntmps110
      go_wp2_with fail
      go_ret
      exact ⟨rfl, by rw [<- HWE.out]; exact HB0.out⟩
  . have k0 := bytes_some q0
    have k0e : c.l.toList.isEmpty = false := by simpa using k0
    rw [show decide (c.l.size = 0) = false from decide_eq_false q0]
    clear q0
    go_enter Tryz.func110, Tryz.ntmps110
    go_wp2_with fail
    go_ret
    exact ⟨rfl, by rw [<- HWE.out]; exact HB0.out⟩
end Go.Proofs.YtppliiingoonlaaGreatDoor
