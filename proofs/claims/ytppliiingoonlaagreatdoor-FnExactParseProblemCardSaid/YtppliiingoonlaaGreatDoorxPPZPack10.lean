/- Texts of one proof. -/
import Derived.Test.YtppliiingoonlaaGreatDoorxPPZPack9
set_option maxRecDepth 100000
set_option maxHeartbeats 20000000
namespace Go.Proofs.YtppliiingoonlaaGreatDoor
open Go.RowKit
theorem specVC_12 (c : Cx) (xu vc : Value) (w : World) (h : CnO w xu vc c) (hsz : c.xa.size <= 2097152) (hk : c.k = 1 \/ c.k = 2) :
    Calls Tryz.prog 16 #[.agg #[.int .i64 c.k, .string c.l, .string c.r, .int .i64 c.xk, .string c.xl, xu, vc, .int .i64 c.b]] w λ e w' => e = .returned (.bool (validX c)) /\ Below w.heap.size w w' := by
  obtain ⟨A, m, B, r, rfl, rfl⟩ := h.shape
  have HR : Hid (validX c = (isT c.l.data.toList && isT c.r.data.toList && zB c.xk c.xl c.xa.items.length && (decide (c.cs.length = 0) && decide (c.b = 0)))) := Lib.hid (by
    show validC c.cn = _
    unfold validC
    rw [if_pos (show c.cn.k = 1 \/ c.cn.k = 2 from hk)]
    all_goals rfl)
  obtain ⟨⟨hl, hr, hx⟩, ⟨n, hS⟩, hRow⟩ := h.read
  obtain ⟨k, l, rr, xk, xl, xa, cs, b⟩ := c
  simp only at hl hr hx hS hRow HR hsz hk ⊢
  unfold maxI at hl hr hx
  have hcl := hRow.1
  rw [ints_length] at hcl
  have HTl := Lib.hid (λ w => specIsT_any l w (by unfold maxLen; omega))
  have HTr := Lib.hid (λ w => specIsT_any rr w (by unfold maxLen; omega))
  have HZ := Lib.hid (λ w => specZero_any xk xl A xa.items.length m w (SlP.len hS))
  have HV := Lib.hid (λ wr (hb : Below w.heap.size w wr) => specValid_any n w.heap.size xk xl _ xa wr (hS.mono hb (Nat.le_refl _)) hb.size hsz hx)
  have HC := Lib.hid (λ wr (hb : Below w.heap.size w wr) => specCoeffs_any _ cs _ wr (hRow.row.kept hb))
  have HI := Lib.hid (λ wr => l1In_all b (-99) 99 (inR (-99) 99 b) wr rfl)
  have HB0 := Lib.hid ((Below.refl w.heap.size w).alloc (Nat.le_refl _) (.cells #[.int .i64 k, .string l, .string rr, .int .i64 xk, .string xl, .slice A xa.items.length m, .slice B cs.length r, .int .i64 b] 29))
  have HBX := Lib.hid (boxC_new w ⟨k, l, rr, xk, xl, xa, cs, b⟩ (.slice A xa.items.length m) (.slice B cs.length r) 29)
  obtain ⟨tl, htl⟩ : ∃ tl, tl = isT l.data.toList := ⟨_, rfl⟩
  rw [<- htl] at HR
  rw [<- htl] at HTl
  clear htl
  obtain ⟨tr, htr⟩ : ∃ tr, tr = isT rr.data.toList := ⟨_, rfl⟩
  rw [<- htr] at HR
  rw [<- htr] at HTr
  clear htr
  obtain ⟨z, hz⟩ : ∃ z, z = zB xk xl xa.items.length := ⟨_, rfl⟩
  rw [<- hz] at HR
  rw [<- hz] at HZ
  clear hz
  clear hS hRow hl hr hx hsz
  rcases hk with rfl | rfl
  . by_cases qn : cs.length = 0
    . have kn : ((cs.length : Int) == 0) = true := by simp [qn]
      have HLen := Lib.hid (show decide (cs.length = 0) = true from decide_eq_true qn)
      clear qn
      by_cases qb : b = 0
      . have kb : (b == 0) = true := by simp [qb]
        have HB := Lib.hid (show decide (b = 0) = true by simp [qb])
        clear qb
        cases tl with
        | false =>
          go_enter Tryz.func16, Tryz.ntmps16
          go_wp2_with (first | (go_at_call 59; first | ((with_reducible refine (HTl.out _).mono ?_); rintro e w' ⟨rfl, rfl⟩) | ((with_reducible refine (HTr.out _).mono ?_); rintro e w' ⟨rfl, rfl⟩)) | (go_at_call 60; (with_reducible refine (HZ.out _).mono ?_); rintro e w1 ⟨rfl, hb1⟩; have HB1 := Lib.hid hb1; obtain ⟨c0, c1, c2, c3, c4, c5, c6, c7⟩ := (HBX.out.kept hb1).cells; clear hb1) | (go_at_call 61; (with_reducible refine (HV.out _ HB0.out).mono ?_); rintro e w1 ⟨rfl, hb1⟩; have HB1 := Lib.hid hb1; clear hb1) | (go_at_call 62; (with_reducible refine (HC.out _ (HB0.out.trans (HB1.out.mono HB0.out.size))).mono ?_); rintro e w' ⟨rfl, rfl⟩) | (go_at_call 63; (with_reducible refine (HI.out _).mono ?_); rintro e w' ⟨rfl, rfl⟩))
          go_ret
          exact ⟨congrArg (λ z => Ending.returned (.bool z)) (by rw [HR.out]; first | done | rfl | (rw [HLen.out, HB.out]; rfl) | (rw [HLen.out]; rfl)), HB0.out⟩
        | true =>
          cases tr with
          | false =>
            go_enter Tryz.func16, Tryz.ntmps16
            go_wp2_with (first | (go_at_call 59; first | ((with_reducible refine (HTl.out _).mono ?_); rintro e w' ⟨rfl, rfl⟩) | ((with_reducible refine (HTr.out _).mono ?_); rintro e w' ⟨rfl, rfl⟩)) | (go_at_call 60; (with_reducible refine (HZ.out _).mono ?_); rintro e w1 ⟨rfl, hb1⟩; have HB1 := Lib.hid hb1; obtain ⟨c0, c1, c2, c3, c4, c5, c6, c7⟩ := (HBX.out.kept hb1).cells; clear hb1) | (go_at_call 61; (with_reducible refine (HV.out _ HB0.out).mono ?_); rintro e w1 ⟨rfl, hb1⟩; have HB1 := Lib.hid hb1; clear hb1) | (go_at_call 62; (with_reducible refine (HC.out _ (HB0.out.trans (HB1.out.mono HB0.out.size))).mono ?_); rintro e w' ⟨rfl, rfl⟩) | (go_at_call 63; (with_reducible refine (HI.out _).mono ?_); rintro e w' ⟨rfl, rfl⟩))
            go_ret
            exact ⟨congrArg (λ z => Ending.returned (.bool z)) (by rw [HR.out]; first | done | rfl | (rw [HLen.out, HB.out]; rfl) | (rw [HLen.out]; rfl)), HB0.out⟩
          | true =>
            cases z with
            | false =>
              go_enter Tryz.func16, Tryz.ntmps16
              go_wp2_with (first | (go_at_call 59; first | ((with_reducible refine (HTl.out _).mono ?_); rintro e w' ⟨rfl, rfl⟩) | ((with_reducible refine (HTr.out _).mono ?_); rintro e w' ⟨rfl, rfl⟩)) | (go_at_call 60; (with_reducible refine (HZ.out _).mono ?_); rintro e w1 ⟨rfl, hb1⟩; have HB1 := Lib.hid hb1; obtain ⟨c0, c1, c2, c3, c4, c5, c6, c7⟩ := (HBX.out.kept hb1).cells; clear hb1) | (go_at_call 61; (with_reducible refine (HV.out _ HB0.out).mono ?_); rintro e w1 ⟨rfl, hb1⟩; have HB1 := Lib.hid hb1; clear hb1) | (go_at_call 62; (with_reducible refine (HC.out _ (HB0.out.trans (HB1.out.mono HB0.out.size))).mono ?_); rintro e w' ⟨rfl, rfl⟩) | (go_at_call 63; (with_reducible refine (HI.out _).mono ?_); rintro e w' ⟨rfl, rfl⟩))
              go_ret
              exact ⟨congrArg (λ z => Ending.returned (.bool z)) (by rw [HR.out]; first | done | rfl | (rw [HLen.out, HB.out]; rfl) | (rw [HLen.out]; rfl)), HB0.out.trans (HB1.out.mono HB0.out.size)⟩
            | true =>
              go_enter Tryz.func16, Tryz.ntmps16
              go_wp2_with (first | (go_at_call 59; first | ((with_reducible refine (HTl.out _).mono ?_); rintro e w' ⟨rfl, rfl⟩) | ((with_reducible refine (HTr.out _).mono ?_); rintro e w' ⟨rfl, rfl⟩)) | (go_at_call 60; (with_reducible refine (HZ.out _).mono ?_); rintro e w1 ⟨rfl, hb1⟩; have HB1 := Lib.hid hb1; obtain ⟨c0, c1, c2, c3, c4, c5, c6, c7⟩ := (HBX.out.kept hb1).cells; clear hb1) | (go_at_call 61; (with_reducible refine (HV.out _ HB0.out).mono ?_); rintro e w1 ⟨rfl, hb1⟩; have HB1 := Lib.hid hb1; clear hb1) | (go_at_call 62; (with_reducible refine (HC.out _ (HB0.out.trans (HB1.out.mono HB0.out.size))).mono ?_); rintro e w' ⟨rfl, rfl⟩) | (go_at_call 63; (with_reducible refine (HI.out _).mono ?_); rintro e w' ⟨rfl, rfl⟩))
              go_ret
              exact ⟨congrArg (λ z => Ending.returned (.bool z)) (by rw [HR.out]; first | done | rfl | (rw [HLen.out, HB.out]; rfl) | (rw [HLen.out]; rfl)), HB0.out.trans (HB1.out.mono HB0.out.size)⟩
      . have kb : (b == 0) = false := by simp [qb]
        have HB := Lib.hid (show decide (b = 0) = false by simp [qb])
        clear qb
        cases tl with
        | false =>
          go_enter Tryz.func16, Tryz.ntmps16
          go_wp2_with (first | (go_at_call 59; first | ((with_reducible refine (HTl.out _).mono ?_); rintro e w' ⟨rfl, rfl⟩) | ((with_reducible refine (HTr.out _).mono ?_); rintro e w' ⟨rfl, rfl⟩)) | (go_at_call 60; (with_reducible refine (HZ.out _).mono ?_); rintro e w1 ⟨rfl, hb1⟩; have HB1 := Lib.hid hb1; obtain ⟨c0, c1, c2, c3, c4, c5, c6, c7⟩ := (HBX.out.kept hb1).cells; clear hb1) | (go_at_call 61; (with_reducible refine (HV.out _ HB0.out).mono ?_); rintro e w1 ⟨rfl, hb1⟩; have HB1 := Lib.hid hb1; clear hb1) | (go_at_call 62; (with_reducible refine (HC.out _ (HB0.out.trans (HB1.out.mono HB0.out.size))).mono ?_); rintro e w' ⟨rfl, rfl⟩) | (go_at_call 63; (with_reducible refine (HI.out _).mono ?_); rintro e w' ⟨rfl, rfl⟩))
          go_ret
          exact ⟨congrArg (λ z => Ending.returned (.bool z)) (by rw [HR.out]; first | done | rfl | (rw [HLen.out, HB.out]; rfl) | (rw [HLen.out]; rfl)), HB0.out⟩
        | true =>
          cases tr with
          | false =>
            go_enter Tryz.func16, Tryz.ntmps16
            go_wp2_with (first | (go_at_call 59; first | ((with_reducible refine (HTl.out _).mono ?_); rintro e w' ⟨rfl, rfl⟩) | ((with_reducible refine (HTr.out _).mono ?_); rintro e w' ⟨rfl, rfl⟩)) | (go_at_call 60; (with_reducible refine (HZ.out _).mono ?_); rintro e w1 ⟨rfl, hb1⟩; have HB1 := Lib.hid hb1; obtain ⟨c0, c1, c2, c3, c4, c5, c6, c7⟩ := (HBX.out.kept hb1).cells; clear hb1) | (go_at_call 61; (with_reducible refine (HV.out _ HB0.out).mono ?_); rintro e w1 ⟨rfl, hb1⟩; have HB1 := Lib.hid hb1; clear hb1) | (go_at_call 62; (with_reducible refine (HC.out _ (HB0.out.trans (HB1.out.mono HB0.out.size))).mono ?_); rintro e w' ⟨rfl, rfl⟩) | (go_at_call 63; (with_reducible refine (HI.out _).mono ?_); rintro e w' ⟨rfl, rfl⟩))
            go_ret
            exact ⟨congrArg (λ z => Ending.returned (.bool z)) (by rw [HR.out]; first | done | rfl | (rw [HLen.out, HB.out]; rfl) | (rw [HLen.out]; rfl)), HB0.out⟩
          | true =>
            cases z with
            | false =>
              go_enter Tryz.func16, Tryz.ntmps16
              go_wp2_with (first | (go_at_call 59; first | ((with_reducible refine (HTl.out _).mono ?_); rintro e w' ⟨rfl, rfl⟩) | ((with_reducible refine (HTr.out _).mono ?_); rintro e w' ⟨rfl, rfl⟩)) | (go_at_call 60; (with_reducible refine (HZ.out _).mono ?_); rintro e w1 ⟨rfl, hb1⟩; have HB1 := Lib.hid hb1; obtain ⟨c0, c1, c2, c3, c4, c5, c6, c7⟩ := (HBX.out.kept hb1).cells; clear hb1) | (go_at_call 61; (with_reducible refine (HV.out _ HB0.out).mono ?_); rintro e w1 ⟨rfl, hb1⟩; have HB1 := Lib.hid hb1; clear hb1) | (go_at_call 62; (with_reducible refine (HC.out _ (HB0.out.trans (HB1.out.mono HB0.out.size))).mono ?_); rintro e w' ⟨rfl, rfl⟩) | (go_at_call 63; (with_reducible refine (HI.out _).mono ?_); rintro e w' ⟨rfl, rfl⟩))
              go_ret
              exact ⟨congrArg (λ z => Ending.returned (.bool z)) (by rw [HR.out]; first | done | rfl | (rw [HLen.out, HB.out]; rfl) | (rw [HLen.out]; rfl)), HB0.out.trans (HB1.out.mono HB0.out.size)⟩
            | true =>
              go_enter Tryz.func16, Tryz.ntmps16
              go_wp2_with (first | (go_at_call 59; first | ((with_reducible refine (HTl.out _).mono ?_); rintro e w' ⟨rfl, rfl⟩) | ((with_reducible refine (HTr.out _).mono ?_); rintro e w' ⟨rfl, rfl⟩)) | (go_at_call 60; (with_reducible refine (HZ.out _).mono ?_); rintro e w1 ⟨rfl, hb1⟩; have HB1 := Lib.hid hb1; obtain ⟨c0, c1, c2, c3, c4, c5, c6, c7⟩ := (HBX.out.kept hb1).cells; clear hb1) | (go_at_call 61; (with_reducible refine (HV.out _ HB0.out).mono ?_); rintro e w1 ⟨rfl, hb1⟩; have HB1 := Lib.hid hb1; clear hb1) | (go_at_call 62; (with_reducible refine (HC.out _ (HB0.out.trans (HB1.out.mono HB0.out.size))).mono ?_); rintro e w' ⟨rfl, rfl⟩) | (go_at_call 63; (with_reducible refine (HI.out _).mono ?_); rintro e w' ⟨rfl, rfl⟩))
              go_ret
              exact ⟨congrArg (λ z => Ending.returned (.bool z)) (by rw [HR.out]; first | done | rfl | (rw [HLen.out, HB.out]; rfl) | (rw [HLen.out]; rfl)), HB0.out.trans (HB1.out.mono HB0.out.size)⟩
    . have kn : ((cs.length : Int) == 0) = false := by rw [beq_eq_false_iff_ne]; omega
      have HLen := Lib.hid (show decide (cs.length = 0) = false from decide_eq_false qn)
      have HB := Lib.hid (show True = True by rfl)
      clear qn
      cases tl with
      | false =>
        go_enter Tryz.func16, Tryz.ntmps16
        go_wp2_with (first | (go_at_call 59; first | ((with_reducible refine (HTl.out _).mono ?_); rintro e w' ⟨rfl, rfl⟩) | ((with_reducible refine (HTr.out _).mono ?_); rintro e w' ⟨rfl, rfl⟩)) | (go_at_call 60; (with_reducible refine (HZ.out _).mono ?_); rintro e w1 ⟨rfl, hb1⟩; have HB1 := Lib.hid hb1; obtain ⟨c0, c1, c2, c3, c4, c5, c6, c7⟩ := (HBX.out.kept hb1).cells; clear hb1) | (go_at_call 61; (with_reducible refine (HV.out _ HB0.out).mono ?_); rintro e w1 ⟨rfl, hb1⟩; have HB1 := Lib.hid hb1; clear hb1) | (go_at_call 62; (with_reducible refine (HC.out _ (HB0.out.trans (HB1.out.mono HB0.out.size))).mono ?_); rintro e w' ⟨rfl, rfl⟩) | (go_at_call 63; (with_reducible refine (HI.out _).mono ?_); rintro e w' ⟨rfl, rfl⟩))
        go_ret
        exact ⟨congrArg (λ z => Ending.returned (.bool z)) (by rw [HR.out]; first | done | rfl | (rw [HLen.out, HB.out]; rfl) | (rw [HLen.out]; rfl)), HB0.out⟩
      | true =>
        cases tr with
        | false =>
          go_enter Tryz.func16, Tryz.ntmps16
          go_wp2_with (first | (go_at_call 59; first | ((with_reducible refine (HTl.out _).mono ?_); rintro e w' ⟨rfl, rfl⟩) | ((with_reducible refine (HTr.out _).mono ?_); rintro e w' ⟨rfl, rfl⟩)) | (go_at_call 60; (with_reducible refine (HZ.out _).mono ?_); rintro e w1 ⟨rfl, hb1⟩; have HB1 := Lib.hid hb1; obtain ⟨c0, c1, c2, c3, c4, c5, c6, c7⟩ := (HBX.out.kept hb1).cells; clear hb1) | (go_at_call 61; (with_reducible refine (HV.out _ HB0.out).mono ?_); rintro e w1 ⟨rfl, hb1⟩; have HB1 := Lib.hid hb1; clear hb1) | (go_at_call 62; (with_reducible refine (HC.out _ (HB0.out.trans (HB1.out.mono HB0.out.size))).mono ?_); rintro e w' ⟨rfl, rfl⟩) | (go_at_call 63; (with_reducible refine (HI.out _).mono ?_); rintro e w' ⟨rfl, rfl⟩))
          go_ret
          exact ⟨congrArg (λ z => Ending.returned (.bool z)) (by rw [HR.out]; first | done | rfl | (rw [HLen.out, HB.out]; rfl) | (rw [HLen.out]; rfl)), HB0.out⟩
        | true =>
          cases z with
          | false =>
            go_enter Tryz.func16, Tryz.ntmps16
            go_wp2_with (first | (go_at_call 59; first | ((with_reducible refine (HTl.out _).mono ?_); rintro e w' ⟨rfl, rfl⟩) | ((with_reducible refine (HTr.out _).mono ?_); rintro e w' ⟨rfl, rfl⟩)) | (go_at_call 60; (with_reducible refine (HZ.out _).mono ?_); rintro e w1 ⟨rfl, hb1⟩; have HB1 := Lib.hid hb1; obtain ⟨c0, c1, c2, c3, c4, c5, c6, c7⟩ := (HBX.out.kept hb1).cells; clear hb1) | (go_at_call 61; (with_reducible refine (HV.out _ HB0.out).mono ?_); rintro e w1 ⟨rfl, hb1⟩; have HB1 := Lib.hid hb1; clear hb1) | (go_at_call 62; (with_reducible refine (HC.out _ (HB0.out.trans (HB1.out.mono HB0.out.size))).mono ?_); rintro e w' ⟨rfl, rfl⟩) | (go_at_call 63; (with_reducible refine (HI.out _).mono ?_); rintro e w' ⟨rfl, rfl⟩))
            go_ret
            exact ⟨congrArg (λ z => Ending.returned (.bool z)) (by rw [HR.out]; first | done | rfl | (rw [HLen.out, HB.out]; rfl) | (rw [HLen.out]; rfl)), HB0.out.trans (HB1.out.mono HB0.out.size)⟩
          | true =>
            go_enter Tryz.func16, Tryz.ntmps16
            go_wp2_with (first | (go_at_call 59; first | ((with_reducible refine (HTl.out _).mono ?_); rintro e w' ⟨rfl, rfl⟩) | ((with_reducible refine (HTr.out _).mono ?_); rintro e w' ⟨rfl, rfl⟩)) | (go_at_call 60; (with_reducible refine (HZ.out _).mono ?_); rintro e w1 ⟨rfl, hb1⟩; have HB1 := Lib.hid hb1; obtain ⟨c0, c1, c2, c3, c4, c5, c6, c7⟩ := (HBX.out.kept hb1).cells; clear hb1) | (go_at_call 61; (with_reducible refine (HV.out _ HB0.out).mono ?_); rintro e w1 ⟨rfl, hb1⟩; have HB1 := Lib.hid hb1; clear hb1) | (go_at_call 62; (with_reducible refine (HC.out _ (HB0.out.trans (HB1.out.mono HB0.out.size))).mono ?_); rintro e w' ⟨rfl, rfl⟩) | (go_at_call 63; (with_reducible refine (HI.out _).mono ?_); rintro e w' ⟨rfl, rfl⟩))
            go_ret
            exact ⟨congrArg (λ z => Ending.returned (.bool z)) (by rw [HR.out]; first | done | rfl | (rw [HLen.out, HB.out]; rfl) | (rw [HLen.out]; rfl)), HB0.out.trans (HB1.out.mono HB0.out.size)⟩
  . by_cases qn : cs.length = 0
    . have kn : ((cs.length : Int) == 0) = true := by simp [qn]
      have HLen := Lib.hid (show decide (cs.length = 0) = true from decide_eq_true qn)
      clear qn
      by_cases qb : b = 0
      . have kb : (b == 0) = true := by simp [qb]
        have HB := Lib.hid (show decide (b = 0) = true by simp [qb])
        clear qb
        cases tl with
        | false =>
          go_enter Tryz.func16, Tryz.ntmps16
          go_wp2_with (first | (go_at_call 59; first | ((with_reducible refine (HTl.out _).mono ?_); rintro e w' ⟨rfl, rfl⟩) | ((with_reducible refine (HTr.out _).mono ?_); rintro e w' ⟨rfl, rfl⟩)) | (go_at_call 60; (with_reducible refine (HZ.out _).mono ?_); rintro e w1 ⟨rfl, hb1⟩; have HB1 := Lib.hid hb1; obtain ⟨c0, c1, c2, c3, c4, c5, c6, c7⟩ := (HBX.out.kept hb1).cells; clear hb1) | (go_at_call 61; (with_reducible refine (HV.out _ HB0.out).mono ?_); rintro e w1 ⟨rfl, hb1⟩; have HB1 := Lib.hid hb1; clear hb1) | (go_at_call 62; (with_reducible refine (HC.out _ (HB0.out.trans (HB1.out.mono HB0.out.size))).mono ?_); rintro e w' ⟨rfl, rfl⟩) | (go_at_call 63; (with_reducible refine (HI.out _).mono ?_); rintro e w' ⟨rfl, rfl⟩))
          go_ret
          exact ⟨congrArg (λ z => Ending.returned (.bool z)) (by rw [HR.out]; first | done | rfl | (rw [HLen.out, HB.out]; rfl) | (rw [HLen.out]; rfl)), HB0.out⟩
        | true =>
          cases tr with
          | false =>
            go_enter Tryz.func16, Tryz.ntmps16
            go_wp2_with (first | (go_at_call 59; first | ((with_reducible refine (HTl.out _).mono ?_); rintro e w' ⟨rfl, rfl⟩) | ((with_reducible refine (HTr.out _).mono ?_); rintro e w' ⟨rfl, rfl⟩)) | (go_at_call 60; (with_reducible refine (HZ.out _).mono ?_); rintro e w1 ⟨rfl, hb1⟩; have HB1 := Lib.hid hb1; obtain ⟨c0, c1, c2, c3, c4, c5, c6, c7⟩ := (HBX.out.kept hb1).cells; clear hb1) | (go_at_call 61; (with_reducible refine (HV.out _ HB0.out).mono ?_); rintro e w1 ⟨rfl, hb1⟩; have HB1 := Lib.hid hb1; clear hb1) | (go_at_call 62; (with_reducible refine (HC.out _ (HB0.out.trans (HB1.out.mono HB0.out.size))).mono ?_); rintro e w' ⟨rfl, rfl⟩) | (go_at_call 63; (with_reducible refine (HI.out _).mono ?_); rintro e w' ⟨rfl, rfl⟩))
            go_ret
            exact ⟨congrArg (λ z => Ending.returned (.bool z)) (by rw [HR.out]; first | done | rfl | (rw [HLen.out, HB.out]; rfl) | (rw [HLen.out]; rfl)), HB0.out⟩
          | true =>
            cases z with
            | false =>
              go_enter Tryz.func16, Tryz.ntmps16
              go_wp2_with (first | (go_at_call 59; first | ((with_reducible refine (HTl.out _).mono ?_); rintro e w' ⟨rfl, rfl⟩) | ((with_reducible refine (HTr.out _).mono ?_); rintro e w' ⟨rfl, rfl⟩)) | (go_at_call 60; (with_reducible refine (HZ.out _).mono ?_); rintro e w1 ⟨rfl, hb1⟩; have HB1 := Lib.hid hb1; obtain ⟨c0, c1, c2, c3, c4, c5, c6, c7⟩ := (HBX.out.kept hb1).cells; clear hb1) | (go_at_call 61; (with_reducible refine (HV.out _ HB0.out).mono ?_); rintro e w1 ⟨rfl, hb1⟩; have HB1 := Lib.hid hb1; clear hb1) | (go_at_call 62; (with_reducible refine (HC.out _ (HB0.out.trans (HB1.out.mono HB0.out.size))).mono ?_); rintro e w' ⟨rfl, rfl⟩) | (go_at_call 63; (with_reducible refine (HI.out _).mono ?_); rintro e w' ⟨rfl, rfl⟩))
              go_ret
              exact ⟨congrArg (λ z => Ending.returned (.bool z)) (by rw [HR.out]; first | done | rfl | (rw [HLen.out, HB.out]; rfl) | (rw [HLen.out]; rfl)), HB0.out.trans (HB1.out.mono HB0.out.size)⟩
            | true =>
              go_enter Tryz.func16, Tryz.ntmps16
              go_wp2_with (first | (go_at_call 59; first | ((with_reducible refine (HTl.out _).mono ?_); rintro e w' ⟨rfl, rfl⟩) | ((with_reducible refine (HTr.out _).mono ?_); rintro e w' ⟨rfl, rfl⟩)) | (go_at_call 60; (with_reducible refine (HZ.out _).mono ?_); rintro e w1 ⟨rfl, hb1⟩; have HB1 := Lib.hid hb1; obtain ⟨c0, c1, c2, c3, c4, c5, c6, c7⟩ := (HBX.out.kept hb1).cells; clear hb1) | (go_at_call 61; (with_reducible refine (HV.out _ HB0.out).mono ?_); rintro e w1 ⟨rfl, hb1⟩; have HB1 := Lib.hid hb1; clear hb1) | (go_at_call 62; (with_reducible refine (HC.out _ (HB0.out.trans (HB1.out.mono HB0.out.size))).mono ?_); rintro e w' ⟨rfl, rfl⟩) | (go_at_call 63; (with_reducible refine (HI.out _).mono ?_); rintro e w' ⟨rfl, rfl⟩))
              go_ret
              exact ⟨congrArg (λ z => Ending.returned (.bool z)) (by rw [HR.out]; first | done | rfl | (rw [HLen.out, HB.out]; rfl) | (rw [HLen.out]; rfl)), HB0.out.trans (HB1.out.mono HB0.out.size)⟩
      . have kb : (b == 0) = false := by simp [qb]
        have HB := Lib.hid (show decide (b = 0) = false by simp [qb])
        clear qb
        cases tl with
        | false =>
          go_enter Tryz.func16, Tryz.ntmps16
          go_wp2_with (first | (go_at_call 59; first | ((with_reducible refine (HTl.out _).mono ?_); rintro e w' ⟨rfl, rfl⟩) | ((with_reducible refine (HTr.out _).mono ?_); rintro e w' ⟨rfl, rfl⟩)) | (go_at_call 60; (with_reducible refine (HZ.out _).mono ?_); rintro e w1 ⟨rfl, hb1⟩; have HB1 := Lib.hid hb1; obtain ⟨c0, c1, c2, c3, c4, c5, c6, c7⟩ := (HBX.out.kept hb1).cells; clear hb1) | (go_at_call 61; (with_reducible refine (HV.out _ HB0.out).mono ?_); rintro e w1 ⟨rfl, hb1⟩; have HB1 := Lib.hid hb1; clear hb1) | (go_at_call 62; (with_reducible refine (HC.out _ (HB0.out.trans (HB1.out.mono HB0.out.size))).mono ?_); rintro e w' ⟨rfl, rfl⟩) | (go_at_call 63; (with_reducible refine (HI.out _).mono ?_); rintro e w' ⟨rfl, rfl⟩))
          go_ret
          exact ⟨congrArg (λ z => Ending.returned (.bool z)) (by rw [HR.out]; first | done | rfl | (rw [HLen.out, HB.out]; rfl) | (rw [HLen.out]; rfl)), HB0.out⟩
        | true =>
          cases tr with
          | false =>
            go_enter Tryz.func16, Tryz.ntmps16
            go_wp2_with (first | (go_at_call 59; first | ((with_reducible refine (HTl.out _).mono ?_); rintro e w' ⟨rfl, rfl⟩) | ((with_reducible refine (HTr.out _).mono ?_); rintro e w' ⟨rfl, rfl⟩)) | (go_at_call 60; (with_reducible refine (HZ.out _).mono ?_); rintro e w1 ⟨rfl, hb1⟩; have HB1 := Lib.hid hb1; obtain ⟨c0, c1, c2, c3, c4, c5, c6, c7⟩ := (HBX.out.kept hb1).cells; clear hb1) | (go_at_call 61; (with_reducible refine (HV.out _ HB0.out).mono ?_); rintro e w1 ⟨rfl, hb1⟩; have HB1 := Lib.hid hb1; clear hb1) | (go_at_call 62; (with_reducible refine (HC.out _ (HB0.out.trans (HB1.out.mono HB0.out.size))).mono ?_); rintro e w' ⟨rfl, rfl⟩) | (go_at_call 63; (with_reducible refine (HI.out _).mono ?_); rintro e w' ⟨rfl, rfl⟩))
            go_ret
            exact ⟨congrArg (λ z => Ending.returned (.bool z)) (by rw [HR.out]; first | done | rfl | (rw [HLen.out, HB.out]; rfl) | (rw [HLen.out]; rfl)), HB0.out⟩
          | true =>
            cases z with
            | false =>
              go_enter Tryz.func16, Tryz.ntmps16
              go_wp2_with (first | (go_at_call 59; first | ((with_reducible refine (HTl.out _).mono ?_); rintro e w' ⟨rfl, rfl⟩) | ((with_reducible refine (HTr.out _).mono ?_); rintro e w' ⟨rfl, rfl⟩)) | (go_at_call 60; (with_reducible refine (HZ.out _).mono ?_); rintro e w1 ⟨rfl, hb1⟩; have HB1 := Lib.hid hb1; obtain ⟨c0, c1, c2, c3, c4, c5, c6, c7⟩ := (HBX.out.kept hb1).cells; clear hb1) | (go_at_call 61; (with_reducible refine (HV.out _ HB0.out).mono ?_); rintro e w1 ⟨rfl, hb1⟩; have HB1 := Lib.hid hb1; clear hb1) | (go_at_call 62; (with_reducible refine (HC.out _ (HB0.out.trans (HB1.out.mono HB0.out.size))).mono ?_); rintro e w' ⟨rfl, rfl⟩) | (go_at_call 63; (with_reducible refine (HI.out _).mono ?_); rintro e w' ⟨rfl, rfl⟩))
              go_ret
              exact ⟨congrArg (λ z => Ending.returned (.bool z)) (by rw [HR.out]; first | done | rfl | (rw [HLen.out, HB.out]; rfl) | (rw [HLen.out]; rfl)), HB0.out.trans (HB1.out.mono HB0.out.size)⟩
            | true =>
              go_enter Tryz.func16, Tryz.ntmps16
              go_wp2_with (first | (go_at_call 59; first | ((with_reducible refine (HTl.out _).mono ?_); rintro e w' ⟨rfl, rfl⟩) | ((with_reducible refine (HTr.out _).mono ?_); rintro e w' ⟨rfl, rfl⟩)) | (go_at_call 60; (with_reducible refine (HZ.out _).mono ?_); rintro e w1 ⟨rfl, hb1⟩; have HB1 := Lib.hid hb1; obtain ⟨c0, c1, c2, c3, c4, c5, c6, c7⟩ := (HBX.out.kept hb1).cells; clear hb1) | (go_at_call 61; (with_reducible refine (HV.out _ HB0.out).mono ?_); rintro e w1 ⟨rfl, hb1⟩; have HB1 := Lib.hid hb1; clear hb1) | (go_at_call 62; (with_reducible refine (HC.out _ (HB0.out.trans (HB1.out.mono HB0.out.size))).mono ?_); rintro e w' ⟨rfl, rfl⟩) | (go_at_call 63; (with_reducible refine (HI.out _).mono ?_); rintro e w' ⟨rfl, rfl⟩))
              go_ret
              exact ⟨congrArg (λ z => Ending.returned (.bool z)) (by rw [HR.out]; first | done | rfl | (rw [HLen.out, HB.out]; rfl) | (rw [HLen.out]; rfl)), HB0.out.trans (HB1.out.mono HB0.out.size)⟩
    . have kn : ((cs.length : Int) == 0) = false := by rw [beq_eq_false_iff_ne]; omega
      have HLen := Lib.hid (show decide (cs.length = 0) = false from decide_eq_false qn)
      have HB := Lib.hid (show True = True by rfl)
      clear qn
      cases tl with
      | false =>
        go_enter Tryz.func16, Tryz.ntmps16
        go_wp2_with (first | (go_at_call 59; first | ((with_reducible refine (HTl.out _).mono ?_); rintro e w' ⟨rfl, rfl⟩) | ((with_reducible refine (HTr.out _).mono ?_); rintro e w' ⟨rfl, rfl⟩)) | (go_at_call 60; (with_reducible refine (HZ.out _).mono ?_); rintro e w1 ⟨rfl, hb1⟩; have HB1 := Lib.hid hb1; obtain ⟨c0, c1, c2, c3, c4, c5, c6, c7⟩ := (HBX.out.kept hb1).cells; clear hb1) | (go_at_call 61; (with_reducible refine (HV.out _ HB0.out).mono ?_); rintro e w1 ⟨rfl, hb1⟩; have HB1 := Lib.hid hb1; clear hb1) | (go_at_call 62; (with_reducible refine (HC.out _ (HB0.out.trans (HB1.out.mono HB0.out.size))).mono ?_); rintro e w' ⟨rfl, rfl⟩) | (go_at_call 63; (with_reducible refine (HI.out _).mono ?_); rintro e w' ⟨rfl, rfl⟩))
        go_ret
        exact ⟨congrArg (λ z => Ending.returned (.bool z)) (by rw [HR.out]; first | done | rfl | (rw [HLen.out, HB.out]; rfl) | (rw [HLen.out]; rfl)), HB0.out⟩
      | true =>
        cases tr with
        | false =>
          go_enter Tryz.func16, Tryz.ntmps16
          go_wp2_with (first | (go_at_call 59; first | ((with_reducible refine (HTl.out _).mono ?_); rintro e w' ⟨rfl, rfl⟩) | ((with_reducible refine (HTr.out _).mono ?_); rintro e w' ⟨rfl, rfl⟩)) | (go_at_call 60; (with_reducible refine (HZ.out _).mono ?_); rintro e w1 ⟨rfl, hb1⟩; have HB1 := Lib.hid hb1; obtain ⟨c0, c1, c2, c3, c4, c5, c6, c7⟩ := (HBX.out.kept hb1).cells; clear hb1) | (go_at_call 61; (with_reducible refine (HV.out _ HB0.out).mono ?_); rintro e w1 ⟨rfl, hb1⟩; have HB1 := Lib.hid hb1; clear hb1) | (go_at_call 62; (with_reducible refine (HC.out _ (HB0.out.trans (HB1.out.mono HB0.out.size))).mono ?_); rintro e w' ⟨rfl, rfl⟩) | (go_at_call 63; (with_reducible refine (HI.out _).mono ?_); rintro e w' ⟨rfl, rfl⟩))
          go_ret
          exact ⟨congrArg (λ z => Ending.returned (.bool z)) (by rw [HR.out]; first | done | rfl | (rw [HLen.out, HB.out]; rfl) | (rw [HLen.out]; rfl)), HB0.out⟩
        | true =>
          cases z with
          | false =>
            go_enter Tryz.func16, Tryz.ntmps16
            go_wp2_with (first | (go_at_call 59; first | ((with_reducible refine (HTl.out _).mono ?_); rintro e w' ⟨rfl, rfl⟩) | ((with_reducible refine (HTr.out _).mono ?_); rintro e w' ⟨rfl, rfl⟩)) | (go_at_call 60; (with_reducible refine (HZ.out _).mono ?_); rintro e w1 ⟨rfl, hb1⟩; have HB1 := Lib.hid hb1; obtain ⟨c0, c1, c2, c3, c4, c5, c6, c7⟩ := (HBX.out.kept hb1).cells; clear hb1) | (go_at_call 61; (with_reducible refine (HV.out _ HB0.out).mono ?_); rintro e w1 ⟨rfl, hb1⟩; have HB1 := Lib.hid hb1; clear hb1) | (go_at_call 62; (with_reducible refine (HC.out _ (HB0.out.trans (HB1.out.mono HB0.out.size))).mono ?_); rintro e w' ⟨rfl, rfl⟩) | (go_at_call 63; (with_reducible refine (HI.out _).mono ?_); rintro e w' ⟨rfl, rfl⟩))
            go_ret
            exact ⟨congrArg (λ z => Ending.returned (.bool z)) (by rw [HR.out]; first | done | rfl | (rw [HLen.out, HB.out]; rfl) | (rw [HLen.out]; rfl)), HB0.out.trans (HB1.out.mono HB0.out.size)⟩
          | true =>
            go_enter Tryz.func16, Tryz.ntmps16
            go_wp2_with (first | (go_at_call 59; first | ((with_reducible refine (HTl.out _).mono ?_); rintro e w' ⟨rfl, rfl⟩) | ((with_reducible refine (HTr.out _).mono ?_); rintro e w' ⟨rfl, rfl⟩)) | (go_at_call 60; (with_reducible refine (HZ.out _).mono ?_); rintro e w1 ⟨rfl, hb1⟩; have HB1 := Lib.hid hb1; obtain ⟨c0, c1, c2, c3, c4, c5, c6, c7⟩ := (HBX.out.kept hb1).cells; clear hb1) | (go_at_call 61; (with_reducible refine (HV.out _ HB0.out).mono ?_); rintro e w1 ⟨rfl, hb1⟩; have HB1 := Lib.hid hb1; clear hb1) | (go_at_call 62; (with_reducible refine (HC.out _ (HB0.out.trans (HB1.out.mono HB0.out.size))).mono ?_); rintro e w' ⟨rfl, rfl⟩) | (go_at_call 63; (with_reducible refine (HI.out _).mono ?_); rintro e w' ⟨rfl, rfl⟩))
            go_ret
            exact ⟨congrArg (λ z => Ending.returned (.bool z)) (by rw [HR.out]; first | done | rfl | (rw [HLen.out, HB.out]; rfl) | (rw [HLen.out]; rfl)), HB0.out.trans (HB1.out.mono HB0.out.size)⟩
theorem specVC_34 (c : Cx) (xu vc : Value) (w : World) (h : CnO w xu vc c) (hsz : c.xa.size <= 2097152) (hk : c.k = 3 \/ c.k = 4) :
    Calls Tryz.prog 16 #[.agg #[.int .i64 c.k, .string c.l, .string c.r, .int .i64 c.xk, .string c.xl, xu, vc, .int .i64 c.b]] w λ e w' => e = .returned (.bool (validX c)) /\ Below w.heap.size w w' := by
  obtain ⟨A, m, B, r, rfl, rfl⟩ := h.shape
  have HR : Hid (validX c = (isT c.l.data.toList && decide (c.r.size = 0) && validRx c.xk c.xl c.xa && (decide (c.cs.length = 0) && decide (c.b = 0)))) := Lib.hid (by
    show validC c.cn = _
    unfold validC
    rw [if_neg (show ¬ (c.cn.k = 1 \/ c.cn.k = 2) by show ¬ (c.k = 1 \/ c.k = 2); omega), if_pos (show c.cn.k = 3 \/ c.cn.k = 4 from hk)]
    all_goals rfl)
  obtain ⟨⟨hl, hr, hx⟩, ⟨n, hS⟩, hRow⟩ := h.read
  obtain ⟨k, l, rr, xk, xl, xa, cs, b⟩ := c
  simp only at hl hr hx hS hRow HR hsz hk ⊢
  unfold maxI at hl hr hx
  have hcl := hRow.1
  rw [ints_length] at hcl
  have HTl := Lib.hid (λ w => specIsT_any l w (by unfold maxLen; omega))
  have HTr := Lib.hid (λ w => specIsT_any rr w (by unfold maxLen; omega))
  have HZ := Lib.hid (λ w => specZero_any xk xl A xa.items.length m w (SlP.len hS))
  have HV := Lib.hid (λ wr (hb : Below w.heap.size w wr) => specValid_any n w.heap.size xk xl _ xa wr (hS.mono hb (Nat.le_refl _)) hb.size hsz hx)
  have HC := Lib.hid (λ wr (hb : Below w.heap.size w wr) => specCoeffs_any _ cs _ wr (hRow.row.kept hb))
  have HI := Lib.hid (λ wr => l1In_all b (-99) 99 (inR (-99) 99 b) wr rfl)
  have HB0 := Lib.hid ((Below.refl w.heap.size w).alloc (Nat.le_refl _) (.cells #[.int .i64 k, .string l, .string rr, .int .i64 xk, .string xl, .slice A xa.items.length m, .slice B cs.length r, .int .i64 b] 29))
  have HBX := Lib.hid (boxC_new w ⟨k, l, rr, xk, xl, xa, cs, b⟩ (.slice A xa.items.length m) (.slice B cs.length r) 29)
  obtain ⟨tl, htl⟩ : ∃ tl, tl = isT l.data.toList := ⟨_, rfl⟩
  rw [<- htl] at HR
  rw [<- htl] at HTl
  clear htl
  obtain ⟨v, hv⟩ : ∃ v, v = validRx xk xl xa := ⟨_, rfl⟩
  rw [<- hv] at HR
  rw [<- hv] at HV
  clear hv
  clear hS hRow hl hr hx hsz
  rcases hk with rfl | rfl
  . by_cases qn : cs.length = 0
    . have kn : ((cs.length : Int) == 0) = true := by simp [qn]
      have HLen := Lib.hid (show decide (cs.length = 0) = true from decide_eq_true qn)
      clear qn
      by_cases qb : b = 0
      . have kb : (b == 0) = true := by simp [qb]
        have HB := Lib.hid (show decide (b = 0) = true by simp [qb])
        clear qb
        cases tl with
        | false =>
          go_enter Tryz.func16, Tryz.ntmps16
          go_wp2_with (first | (go_at_call 59; first | ((with_reducible refine (HTl.out _).mono ?_); rintro e w' ⟨rfl, rfl⟩) | ((with_reducible refine (HTr.out _).mono ?_); rintro e w' ⟨rfl, rfl⟩)) | (go_at_call 60; (with_reducible refine (HZ.out _).mono ?_); rintro e w1 ⟨rfl, hb1⟩; have HB1 := Lib.hid hb1; obtain ⟨c0, c1, c2, c3, c4, c5, c6, c7⟩ := (HBX.out.kept hb1).cells; clear hb1) | (go_at_call 61; (with_reducible refine (HV.out _ HB0.out).mono ?_); rintro e w1 ⟨rfl, hb1⟩; have HB1 := Lib.hid hb1; clear hb1) | (go_at_call 62; (with_reducible refine (HC.out _ (HB0.out.trans (HB1.out.mono HB0.out.size))).mono ?_); rintro e w' ⟨rfl, rfl⟩) | (go_at_call 63; (with_reducible refine (HI.out _).mono ?_); rintro e w' ⟨rfl, rfl⟩))
          go_ret
          exact ⟨congrArg (λ z => Ending.returned (.bool z)) (by rw [HR.out]; first | done | rfl | (rw [HLen.out, HB.out]; rfl) | (rw [HLen.out]; rfl)), HB0.out⟩
        | true =>
          by_cases qrr : rr.size = 0
          . have krr := bytes_nil qrr
            have HXrr := Lib.hid qrr
            rw [show decide (rr.size = 0) = true by simp [qrr]] at HR
            clear qrr
            cases v with
            | false =>
              go_enter Tryz.func16, Tryz.ntmps16
              go_wp2_with (first | (go_at_call 59; first | ((with_reducible refine (HTl.out _).mono ?_); rintro e w' ⟨rfl, rfl⟩) | ((with_reducible refine (HTr.out _).mono ?_); rintro e w' ⟨rfl, rfl⟩)) | (go_at_call 60; (with_reducible refine (HZ.out _).mono ?_); rintro e w1 ⟨rfl, hb1⟩; have HB1 := Lib.hid hb1; obtain ⟨c0, c1, c2, c3, c4, c5, c6, c7⟩ := (HBX.out.kept hb1).cells; clear hb1) | (go_at_call 61; (with_reducible refine (HV.out _ HB0.out).mono ?_); rintro e w1 ⟨rfl, hb1⟩; have HB1 := Lib.hid hb1; clear hb1) | (go_at_call 62; (with_reducible refine (HC.out _ (HB0.out.trans (HB1.out.mono HB0.out.size))).mono ?_); rintro e w' ⟨rfl, rfl⟩) | (go_at_call 63; (with_reducible refine (HI.out _).mono ?_); rintro e w' ⟨rfl, rfl⟩))
              go_ret
              exact ⟨congrArg (λ z => Ending.returned (.bool z)) (by rw [HR.out]; first | done | rfl | (rw [HLen.out, HB.out]; rfl) | (rw [HLen.out]; rfl)), HB0.out.trans (HB1.out.mono HB0.out.size)⟩
            | true =>
              go_enter Tryz.func16, Tryz.ntmps16
              go_wp2_with (first | (go_at_call 59; first | ((with_reducible refine (HTl.out _).mono ?_); rintro e w' ⟨rfl, rfl⟩) | ((with_reducible refine (HTr.out _).mono ?_); rintro e w' ⟨rfl, rfl⟩)) | (go_at_call 60; (with_reducible refine (HZ.out _).mono ?_); rintro e w1 ⟨rfl, hb1⟩; have HB1 := Lib.hid hb1; obtain ⟨c0, c1, c2, c3, c4, c5, c6, c7⟩ := (HBX.out.kept hb1).cells; clear hb1) | (go_at_call 61; (with_reducible refine (HV.out _ HB0.out).mono ?_); rintro e w1 ⟨rfl, hb1⟩; have HB1 := Lib.hid hb1; clear hb1) | (go_at_call 62; (with_reducible refine (HC.out _ (HB0.out.trans (HB1.out.mono HB0.out.size))).mono ?_); rintro e w' ⟨rfl, rfl⟩) | (go_at_call 63; (with_reducible refine (HI.out _).mono ?_); rintro e w' ⟨rfl, rfl⟩))
              go_ret
              exact ⟨congrArg (λ z => Ending.returned (.bool z)) (by rw [HR.out]; first | done | rfl | (rw [HLen.out, HB.out]; rfl) | (rw [HLen.out]; rfl)), HB0.out.trans (HB1.out.mono HB0.out.size)⟩
          . have krr := bytes_some qrr
            rw [show decide (rr.size = 0) = false by simp [qrr]] at HR
            clear qrr
            go_enter Tryz.func16, Tryz.ntmps16
            go_wp2_with (first | (go_at_call 59; first | ((with_reducible refine (HTl.out _).mono ?_); rintro e w' ⟨rfl, rfl⟩) | ((with_reducible refine (HTr.out _).mono ?_); rintro e w' ⟨rfl, rfl⟩)) | (go_at_call 60; (with_reducible refine (HZ.out _).mono ?_); rintro e w1 ⟨rfl, hb1⟩; have HB1 := Lib.hid hb1; obtain ⟨c0, c1, c2, c3, c4, c5, c6, c7⟩ := (HBX.out.kept hb1).cells; clear hb1) | (go_at_call 61; (with_reducible refine (HV.out _ HB0.out).mono ?_); rintro e w1 ⟨rfl, hb1⟩; have HB1 := Lib.hid hb1; clear hb1) | (go_at_call 62; (with_reducible refine (HC.out _ (HB0.out.trans (HB1.out.mono HB0.out.size))).mono ?_); rintro e w' ⟨rfl, rfl⟩) | (go_at_call 63; (with_reducible refine (HI.out _).mono ?_); rintro e w' ⟨rfl, rfl⟩))
            go_ret
            exact ⟨congrArg (λ z => Ending.returned (.bool z)) (by rw [HR.out]; first | done | rfl | (rw [HLen.out, HB.out]; rfl) | (rw [HLen.out]; rfl)), HB0.out⟩
      . have kb : (b == 0) = false := by simp [qb]
        have HB := Lib.hid (show decide (b = 0) = false by simp [qb])
        clear qb
        cases tl with
        | false =>
          go_enter Tryz.func16, Tryz.ntmps16
          go_wp2_with (first | (go_at_call 59; first | ((with_reducible refine (HTl.out _).mono ?_); rintro e w' ⟨rfl, rfl⟩) | ((with_reducible refine (HTr.out _).mono ?_); rintro e w' ⟨rfl, rfl⟩)) | (go_at_call 60; (with_reducible refine (HZ.out _).mono ?_); rintro e w1 ⟨rfl, hb1⟩; have HB1 := Lib.hid hb1; obtain ⟨c0, c1, c2, c3, c4, c5, c6, c7⟩ := (HBX.out.kept hb1).cells; clear hb1) | (go_at_call 61; (with_reducible refine (HV.out _ HB0.out).mono ?_); rintro e w1 ⟨rfl, hb1⟩; have HB1 := Lib.hid hb1; clear hb1) | (go_at_call 62; (with_reducible refine (HC.out _ (HB0.out.trans (HB1.out.mono HB0.out.size))).mono ?_); rintro e w' ⟨rfl, rfl⟩) | (go_at_call 63; (with_reducible refine (HI.out _).mono ?_); rintro e w' ⟨rfl, rfl⟩))
          go_ret
          exact ⟨congrArg (λ z => Ending.returned (.bool z)) (by rw [HR.out]; first | done | rfl | (rw [HLen.out, HB.out]; rfl) | (rw [HLen.out]; rfl)), HB0.out⟩
        | true =>
          by_cases qrr : rr.size = 0
          . have krr := bytes_nil qrr
            have HXrr := Lib.hid qrr
            rw [show decide (rr.size = 0) = true by simp [qrr]] at HR
            clear qrr
            cases v with
            | false =>
              go_enter Tryz.func16, Tryz.ntmps16
              go_wp2_with (first | (go_at_call 59; first | ((with_reducible refine (HTl.out _).mono ?_); rintro e w' ⟨rfl, rfl⟩) | ((with_reducible refine (HTr.out _).mono ?_); rintro e w' ⟨rfl, rfl⟩)) | (go_at_call 60; (with_reducible refine (HZ.out _).mono ?_); rintro e w1 ⟨rfl, hb1⟩; have HB1 := Lib.hid hb1; obtain ⟨c0, c1, c2, c3, c4, c5, c6, c7⟩ := (HBX.out.kept hb1).cells; clear hb1) | (go_at_call 61; (with_reducible refine (HV.out _ HB0.out).mono ?_); rintro e w1 ⟨rfl, hb1⟩; have HB1 := Lib.hid hb1; clear hb1) | (go_at_call 62; (with_reducible refine (HC.out _ (HB0.out.trans (HB1.out.mono HB0.out.size))).mono ?_); rintro e w' ⟨rfl, rfl⟩) | (go_at_call 63; (with_reducible refine (HI.out _).mono ?_); rintro e w' ⟨rfl, rfl⟩))
              go_ret
              exact ⟨congrArg (λ z => Ending.returned (.bool z)) (by rw [HR.out]; first | done | rfl | (rw [HLen.out, HB.out]; rfl) | (rw [HLen.out]; rfl)), HB0.out.trans (HB1.out.mono HB0.out.size)⟩
            | true =>
              go_enter Tryz.func16, Tryz.ntmps16
              go_wp2_with (first | (go_at_call 59; first | ((with_reducible refine (HTl.out _).mono ?_); rintro e w' ⟨rfl, rfl⟩) | ((with_reducible refine (HTr.out _).mono ?_); rintro e w' ⟨rfl, rfl⟩)) | (go_at_call 60; (with_reducible refine (HZ.out _).mono ?_); rintro e w1 ⟨rfl, hb1⟩; have HB1 := Lib.hid hb1; obtain ⟨c0, c1, c2, c3, c4, c5, c6, c7⟩ := (HBX.out.kept hb1).cells; clear hb1) | (go_at_call 61; (with_reducible refine (HV.out _ HB0.out).mono ?_); rintro e w1 ⟨rfl, hb1⟩; have HB1 := Lib.hid hb1; clear hb1) | (go_at_call 62; (with_reducible refine (HC.out _ (HB0.out.trans (HB1.out.mono HB0.out.size))).mono ?_); rintro e w' ⟨rfl, rfl⟩) | (go_at_call 63; (with_reducible refine (HI.out _).mono ?_); rintro e w' ⟨rfl, rfl⟩))
              go_ret
              exact ⟨congrArg (λ z => Ending.returned (.bool z)) (by rw [HR.out]; first | done | rfl | (rw [HLen.out, HB.out]; rfl) | (rw [HLen.out]; rfl)), HB0.out.trans (HB1.out.mono HB0.out.size)⟩
          . have krr := bytes_some qrr
            rw [show decide (rr.size = 0) = false by simp [qrr]] at HR
            clear qrr
            go_enter Tryz.func16, Tryz.ntmps16
            go_wp2_with (first | (go_at_call 59; first | ((with_reducible refine (HTl.out _).mono ?_); rintro e w' ⟨rfl, rfl⟩) | ((with_reducible refine (HTr.out _).mono ?_); rintro e w' ⟨rfl, rfl⟩)) | (go_at_call 60; (with_reducible refine (HZ.out _).mono ?_); rintro e w1 ⟨rfl, hb1⟩; have HB1 := Lib.hid hb1; obtain ⟨c0, c1, c2, c3, c4, c5, c6, c7⟩ := (HBX.out.kept hb1).cells; clear hb1) | (go_at_call 61; (with_reducible refine (HV.out _ HB0.out).mono ?_); rintro e w1 ⟨rfl, hb1⟩; have HB1 := Lib.hid hb1; clear hb1) | (go_at_call 62; (with_reducible refine (HC.out _ (HB0.out.trans (HB1.out.mono HB0.out.size))).mono ?_); rintro e w' ⟨rfl, rfl⟩) | (go_at_call 63; (with_reducible refine (HI.out _).mono ?_); rintro e w' ⟨rfl, rfl⟩))
            go_ret
            exact ⟨congrArg (λ z => Ending.returned (.bool z)) (by rw [HR.out]; first | done | rfl | (rw [HLen.out, HB.out]; rfl) | (rw [HLen.out]; rfl)), HB0.out⟩
    . have kn : ((cs.length : Int) == 0) = false := by rw [beq_eq_false_iff_ne]; omega
      have HLen := Lib.hid (show decide (cs.length = 0) = false from decide_eq_false qn)
      have HB := Lib.hid (show True = True by rfl)
      clear qn
      cases tl with
      | false =>
        go_enter Tryz.func16, Tryz.ntmps16
        go_wp2_with (first | (go_at_call 59; first | ((with_reducible refine (HTl.out _).mono ?_); rintro e w' ⟨rfl, rfl⟩) | ((with_reducible refine (HTr.out _).mono ?_); rintro e w' ⟨rfl, rfl⟩)) | (go_at_call 60; (with_reducible refine (HZ.out _).mono ?_); rintro e w1 ⟨rfl, hb1⟩; have HB1 := Lib.hid hb1; obtain ⟨c0, c1, c2, c3, c4, c5, c6, c7⟩ := (HBX.out.kept hb1).cells; clear hb1) | (go_at_call 61; (with_reducible refine (HV.out _ HB0.out).mono ?_); rintro e w1 ⟨rfl, hb1⟩; have HB1 := Lib.hid hb1; clear hb1) | (go_at_call 62; (with_reducible refine (HC.out _ (HB0.out.trans (HB1.out.mono HB0.out.size))).mono ?_); rintro e w' ⟨rfl, rfl⟩) | (go_at_call 63; (with_reducible refine (HI.out _).mono ?_); rintro e w' ⟨rfl, rfl⟩))
        go_ret
        exact ⟨congrArg (λ z => Ending.returned (.bool z)) (by rw [HR.out]; first | done | rfl | (rw [HLen.out, HB.out]; rfl) | (rw [HLen.out]; rfl)), HB0.out⟩
      | true =>
        by_cases qrr : rr.size = 0
        . have krr := bytes_nil qrr
          have HXrr := Lib.hid qrr
          rw [show decide (rr.size = 0) = true by simp [qrr]] at HR
          clear qrr
          cases v with
          | false =>
            go_enter Tryz.func16, Tryz.ntmps16
            go_wp2_with (first | (go_at_call 59; first | ((with_reducible refine (HTl.out _).mono ?_); rintro e w' ⟨rfl, rfl⟩) | ((with_reducible refine (HTr.out _).mono ?_); rintro e w' ⟨rfl, rfl⟩)) | (go_at_call 60; (with_reducible refine (HZ.out _).mono ?_); rintro e w1 ⟨rfl, hb1⟩; have HB1 := Lib.hid hb1; obtain ⟨c0, c1, c2, c3, c4, c5, c6, c7⟩ := (HBX.out.kept hb1).cells; clear hb1) | (go_at_call 61; (with_reducible refine (HV.out _ HB0.out).mono ?_); rintro e w1 ⟨rfl, hb1⟩; have HB1 := Lib.hid hb1; clear hb1) | (go_at_call 62; (with_reducible refine (HC.out _ (HB0.out.trans (HB1.out.mono HB0.out.size))).mono ?_); rintro e w' ⟨rfl, rfl⟩) | (go_at_call 63; (with_reducible refine (HI.out _).mono ?_); rintro e w' ⟨rfl, rfl⟩))
            go_ret
            exact ⟨congrArg (λ z => Ending.returned (.bool z)) (by rw [HR.out]; first | done | rfl | (rw [HLen.out, HB.out]; rfl) | (rw [HLen.out]; rfl)), HB0.out.trans (HB1.out.mono HB0.out.size)⟩
          | true =>
            go_enter Tryz.func16, Tryz.ntmps16
            go_wp2_with (first | (go_at_call 59; first | ((with_reducible refine (HTl.out _).mono ?_); rintro e w' ⟨rfl, rfl⟩) | ((with_reducible refine (HTr.out _).mono ?_); rintro e w' ⟨rfl, rfl⟩)) | (go_at_call 60; (with_reducible refine (HZ.out _).mono ?_); rintro e w1 ⟨rfl, hb1⟩; have HB1 := Lib.hid hb1; obtain ⟨c0, c1, c2, c3, c4, c5, c6, c7⟩ := (HBX.out.kept hb1).cells; clear hb1) | (go_at_call 61; (with_reducible refine (HV.out _ HB0.out).mono ?_); rintro e w1 ⟨rfl, hb1⟩; have HB1 := Lib.hid hb1; clear hb1) | (go_at_call 62; (with_reducible refine (HC.out _ (HB0.out.trans (HB1.out.mono HB0.out.size))).mono ?_); rintro e w' ⟨rfl, rfl⟩) | (go_at_call 63; (with_reducible refine (HI.out _).mono ?_); rintro e w' ⟨rfl, rfl⟩))
            go_ret
            exact ⟨congrArg (λ z => Ending.returned (.bool z)) (by rw [HR.out]; first | done | rfl | (rw [HLen.out, HB.out]; rfl) | (rw [HLen.out]; rfl)), HB0.out.trans (HB1.out.mono HB0.out.size)⟩
        . have krr := bytes_some qrr
          rw [show decide (rr.size = 0) = false by simp [qrr]] at HR
          clear qrr
          go_enter Tryz.func16, Tryz.ntmps16
          go_wp2_with (first | (go_at_call 59; first | ((with_reducible refine (HTl.out _).mono ?_); rintro e w' ⟨rfl, rfl⟩) | ((with_reducible refine (HTr.out _).mono ?_); rintro e w' ⟨rfl, rfl⟩)) | (go_at_call 60; (with_reducible refine (HZ.out _).mono ?_); rintro e w1 ⟨rfl, hb1⟩; have HB1 := Lib.hid hb1; obtain ⟨c0, c1, c2, c3, c4, c5, c6, c7⟩ := (HBX.out.kept hb1).cells; clear hb1) | (go_at_call 61; (with_reducible refine (HV.out _ HB0.out).mono ?_); rintro e w1 ⟨rfl, hb1⟩; have HB1 := Lib.hid hb1; clear hb1) | (go_at_call 62; (with_reducible refine (HC.out _ (HB0.out.trans (HB1.out.mono HB0.out.size))).mono ?_); rintro e w' ⟨rfl, rfl⟩) | (go_at_call 63; (with_reducible refine (HI.out _).mono ?_); rintro e w' ⟨rfl, rfl⟩))
          go_ret
          exact ⟨congrArg (λ z => Ending.returned (.bool z)) (by rw [HR.out]; first | done | rfl | (rw [HLen.out, HB.out]; rfl) | (rw [HLen.out]; rfl)), HB0.out⟩
  . by_cases qn : cs.length = 0
    . have kn : ((cs.length : Int) == 0) = true := by simp [qn]
      have HLen := Lib.hid (show decide (cs.length = 0) = true from decide_eq_true qn)
      clear qn
      by_cases qb : b = 0
      . have kb : (b == 0) = true := by simp [qb]
        have HB := Lib.hid (show decide (b = 0) = true by simp [qb])
        clear qb
        cases tl with
        | false =>
          go_enter Tryz.func16, Tryz.ntmps16
          go_wp2_with (first | (go_at_call 59; first | ((with_reducible refine (HTl.out _).mono ?_); rintro e w' ⟨rfl, rfl⟩) | ((with_reducible refine (HTr.out _).mono ?_); rintro e w' ⟨rfl, rfl⟩)) | (go_at_call 60; (with_reducible refine (HZ.out _).mono ?_); rintro e w1 ⟨rfl, hb1⟩; have HB1 := Lib.hid hb1; obtain ⟨c0, c1, c2, c3, c4, c5, c6, c7⟩ := (HBX.out.kept hb1).cells; clear hb1) | (go_at_call 61; (with_reducible refine (HV.out _ HB0.out).mono ?_); rintro e w1 ⟨rfl, hb1⟩; have HB1 := Lib.hid hb1; clear hb1) | (go_at_call 62; (with_reducible refine (HC.out _ (HB0.out.trans (HB1.out.mono HB0.out.size))).mono ?_); rintro e w' ⟨rfl, rfl⟩) | (go_at_call 63; (with_reducible refine (HI.out _).mono ?_); rintro e w' ⟨rfl, rfl⟩))
          go_ret
          exact ⟨congrArg (λ z => Ending.returned (.bool z)) (by rw [HR.out]; first | done | rfl | (rw [HLen.out, HB.out]; rfl) | (rw [HLen.out]; rfl)), HB0.out⟩
        | true =>
          by_cases qrr : rr.size = 0
          . have krr := bytes_nil qrr
            have HXrr := Lib.hid qrr
            rw [show decide (rr.size = 0) = true by simp [qrr]] at HR
            clear qrr
            cases v with
            | false =>
              go_enter Tryz.func16, Tryz.ntmps16
              go_wp2_with (first | (go_at_call 59; first | ((with_reducible refine (HTl.out _).mono ?_); rintro e w' ⟨rfl, rfl⟩) | ((with_reducible refine (HTr.out _).mono ?_); rintro e w' ⟨rfl, rfl⟩)) | (go_at_call 60; (with_reducible refine (HZ.out _).mono ?_); rintro e w1 ⟨rfl, hb1⟩; have HB1 := Lib.hid hb1; obtain ⟨c0, c1, c2, c3, c4, c5, c6, c7⟩ := (HBX.out.kept hb1).cells; clear hb1) | (go_at_call 61; (with_reducible refine (HV.out _ HB0.out).mono ?_); rintro e w1 ⟨rfl, hb1⟩; have HB1 := Lib.hid hb1; clear hb1) | (go_at_call 62; (with_reducible refine (HC.out _ (HB0.out.trans (HB1.out.mono HB0.out.size))).mono ?_); rintro e w' ⟨rfl, rfl⟩) | (go_at_call 63; (with_reducible refine (HI.out _).mono ?_); rintro e w' ⟨rfl, rfl⟩))
              go_ret
              exact ⟨congrArg (λ z => Ending.returned (.bool z)) (by rw [HR.out]; first | done | rfl | (rw [HLen.out, HB.out]; rfl) | (rw [HLen.out]; rfl)), HB0.out.trans (HB1.out.mono HB0.out.size)⟩
            | true =>
              go_enter Tryz.func16, Tryz.ntmps16
              go_wp2_with (first | (go_at_call 59; first | ((with_reducible refine (HTl.out _).mono ?_); rintro e w' ⟨rfl, rfl⟩) | ((with_reducible refine (HTr.out _).mono ?_); rintro e w' ⟨rfl, rfl⟩)) | (go_at_call 60; (with_reducible refine (HZ.out _).mono ?_); rintro e w1 ⟨rfl, hb1⟩; have HB1 := Lib.hid hb1; obtain ⟨c0, c1, c2, c3, c4, c5, c6, c7⟩ := (HBX.out.kept hb1).cells; clear hb1) | (go_at_call 61; (with_reducible refine (HV.out _ HB0.out).mono ?_); rintro e w1 ⟨rfl, hb1⟩; have HB1 := Lib.hid hb1; clear hb1) | (go_at_call 62; (with_reducible refine (HC.out _ (HB0.out.trans (HB1.out.mono HB0.out.size))).mono ?_); rintro e w' ⟨rfl, rfl⟩) | (go_at_call 63; (with_reducible refine (HI.out _).mono ?_); rintro e w' ⟨rfl, rfl⟩))
              go_ret
              exact ⟨congrArg (λ z => Ending.returned (.bool z)) (by rw [HR.out]; first | done | rfl | (rw [HLen.out, HB.out]; rfl) | (rw [HLen.out]; rfl)), HB0.out.trans (HB1.out.mono HB0.out.size)⟩
          . have krr := bytes_some qrr
            rw [show decide (rr.size = 0) = false by simp [qrr]] at HR
            clear qrr
            go_enter Tryz.func16, Tryz.ntmps16
            go_wp2_with (first | (go_at_call 59; first | ((with_reducible refine (HTl.out _).mono ?_); rintro e w' ⟨rfl, rfl⟩) | ((with_reducible refine (HTr.out _).mono ?_); rintro e w' ⟨rfl, rfl⟩)) | (go_at_call 60; (with_reducible refine (HZ.out _).mono ?_); rintro e w1 ⟨rfl, hb1⟩; have HB1 := Lib.hid hb1; obtain ⟨c0, c1, c2, c3, c4, c5, c6, c7⟩ := (HBX.out.kept hb1).cells; clear hb1) | (go_at_call 61; (with_reducible refine (HV.out _ HB0.out).mono ?_); rintro e w1 ⟨rfl, hb1⟩; have HB1 := Lib.hid hb1; clear hb1) | (go_at_call 62; (with_reducible refine (HC.out _ (HB0.out.trans (HB1.out.mono HB0.out.size))).mono ?_); rintro e w' ⟨rfl, rfl⟩) | (go_at_call 63; (with_reducible refine (HI.out _).mono ?_); rintro e w' ⟨rfl, rfl⟩))
            go_ret
            exact ⟨congrArg (λ z => Ending.returned (.bool z)) (by rw [HR.out]; first | done | rfl | (rw [HLen.out, HB.out]; rfl) | (rw [HLen.out]; rfl)), HB0.out⟩
      . have kb : (b == 0) = false := by simp [qb]
        have HB := Lib.hid (show decide (b = 0) = false by simp [qb])
        clear qb
        cases tl with
        | false =>
          go_enter Tryz.func16, Tryz.ntmps16
          go_wp2_with (first | (go_at_call 59; first | ((with_reducible refine (HTl.out _).mono ?_); rintro e w' ⟨rfl, rfl⟩) | ((with_reducible refine (HTr.out _).mono ?_); rintro e w' ⟨rfl, rfl⟩)) | (go_at_call 60; (with_reducible refine (HZ.out _).mono ?_); rintro e w1 ⟨rfl, hb1⟩; have HB1 := Lib.hid hb1; obtain ⟨c0, c1, c2, c3, c4, c5, c6, c7⟩ := (HBX.out.kept hb1).cells; clear hb1) | (go_at_call 61; (with_reducible refine (HV.out _ HB0.out).mono ?_); rintro e w1 ⟨rfl, hb1⟩; have HB1 := Lib.hid hb1; clear hb1) | (go_at_call 62; (with_reducible refine (HC.out _ (HB0.out.trans (HB1.out.mono HB0.out.size))).mono ?_); rintro e w' ⟨rfl, rfl⟩) | (go_at_call 63; (with_reducible refine (HI.out _).mono ?_); rintro e w' ⟨rfl, rfl⟩))
          go_ret
          exact ⟨congrArg (λ z => Ending.returned (.bool z)) (by rw [HR.out]; first | done | rfl | (rw [HLen.out, HB.out]; rfl) | (rw [HLen.out]; rfl)), HB0.out⟩
        | true =>
          by_cases qrr : rr.size = 0
          . have krr := bytes_nil qrr
            have HXrr := Lib.hid qrr
            rw [show decide (rr.size = 0) = true by simp [qrr]] at HR
            clear qrr
            cases v with
            | false =>
              go_enter Tryz.func16, Tryz.ntmps16
              go_wp2_with (first | (go_at_call 59; first | ((with_reducible refine (HTl.out _).mono ?_); rintro e w' ⟨rfl, rfl⟩) | ((with_reducible refine (HTr.out _).mono ?_); rintro e w' ⟨rfl, rfl⟩)) | (go_at_call 60; (with_reducible refine (HZ.out _).mono ?_); rintro e w1 ⟨rfl, hb1⟩; have HB1 := Lib.hid hb1; obtain ⟨c0, c1, c2, c3, c4, c5, c6, c7⟩ := (HBX.out.kept hb1).cells; clear hb1) | (go_at_call 61; (with_reducible refine (HV.out _ HB0.out).mono ?_); rintro e w1 ⟨rfl, hb1⟩; have HB1 := Lib.hid hb1; clear hb1) | (go_at_call 62; (with_reducible refine (HC.out _ (HB0.out.trans (HB1.out.mono HB0.out.size))).mono ?_); rintro e w' ⟨rfl, rfl⟩) | (go_at_call 63; (with_reducible refine (HI.out _).mono ?_); rintro e w' ⟨rfl, rfl⟩))
              go_ret
              exact ⟨congrArg (λ z => Ending.returned (.bool z)) (by rw [HR.out]; first | done | rfl | (rw [HLen.out, HB.out]; rfl) | (rw [HLen.out]; rfl)), HB0.out.trans (HB1.out.mono HB0.out.size)⟩
            | true =>
              go_enter Tryz.func16, Tryz.ntmps16
              go_wp2_with (first | (go_at_call 59; first | ((with_reducible refine (HTl.out _).mono ?_); rintro e w' ⟨rfl, rfl⟩) | ((with_reducible refine (HTr.out _).mono ?_); rintro e w' ⟨rfl, rfl⟩)) | (go_at_call 60; (with_reducible refine (HZ.out _).mono ?_); rintro e w1 ⟨rfl, hb1⟩; have HB1 := Lib.hid hb1; obtain ⟨c0, c1, c2, c3, c4, c5, c6, c7⟩ := (HBX.out.kept hb1).cells; clear hb1) | (go_at_call 61; (with_reducible refine (HV.out _ HB0.out).mono ?_); rintro e w1 ⟨rfl, hb1⟩; have HB1 := Lib.hid hb1; clear hb1) | (go_at_call 62; (with_reducible refine (HC.out _ (HB0.out.trans (HB1.out.mono HB0.out.size))).mono ?_); rintro e w' ⟨rfl, rfl⟩) | (go_at_call 63; (with_reducible refine (HI.out _).mono ?_); rintro e w' ⟨rfl, rfl⟩))
              go_ret
              exact ⟨congrArg (λ z => Ending.returned (.bool z)) (by rw [HR.out]; first | done | rfl | (rw [HLen.out, HB.out]; rfl) | (rw [HLen.out]; rfl)), HB0.out.trans (HB1.out.mono HB0.out.size)⟩
          . have krr := bytes_some qrr
            rw [show decide (rr.size = 0) = false by simp [qrr]] at HR
            clear qrr
            go_enter Tryz.func16, Tryz.ntmps16
            go_wp2_with (first | (go_at_call 59; first | ((with_reducible refine (HTl.out _).mono ?_); rintro e w' ⟨rfl, rfl⟩) | ((with_reducible refine (HTr.out _).mono ?_); rintro e w' ⟨rfl, rfl⟩)) | (go_at_call 60; (with_reducible refine (HZ.out _).mono ?_); rintro e w1 ⟨rfl, hb1⟩; have HB1 := Lib.hid hb1; obtain ⟨c0, c1, c2, c3, c4, c5, c6, c7⟩ := (HBX.out.kept hb1).cells; clear hb1) | (go_at_call 61; (with_reducible refine (HV.out _ HB0.out).mono ?_); rintro e w1 ⟨rfl, hb1⟩; have HB1 := Lib.hid hb1; clear hb1) | (go_at_call 62; (with_reducible refine (HC.out _ (HB0.out.trans (HB1.out.mono HB0.out.size))).mono ?_); rintro e w' ⟨rfl, rfl⟩) | (go_at_call 63; (with_reducible refine (HI.out _).mono ?_); rintro e w' ⟨rfl, rfl⟩))
            go_ret
            exact ⟨congrArg (λ z => Ending.returned (.bool z)) (by rw [HR.out]; first | done | rfl | (rw [HLen.out, HB.out]; rfl) | (rw [HLen.out]; rfl)), HB0.out⟩
    . have kn : ((cs.length : Int) == 0) = false := by rw [beq_eq_false_iff_ne]; omega
      have HLen := Lib.hid (show decide (cs.length = 0) = false from decide_eq_false qn)
      have HB := Lib.hid (show True = True by rfl)
      clear qn
      cases tl with
      | false =>
        go_enter Tryz.func16, Tryz.ntmps16
        go_wp2_with (first | (go_at_call 59; first | ((with_reducible refine (HTl.out _).mono ?_); rintro e w' ⟨rfl, rfl⟩) | ((with_reducible refine (HTr.out _).mono ?_); rintro e w' ⟨rfl, rfl⟩)) | (go_at_call 60; (with_reducible refine (HZ.out _).mono ?_); rintro e w1 ⟨rfl, hb1⟩; have HB1 := Lib.hid hb1; obtain ⟨c0, c1, c2, c3, c4, c5, c6, c7⟩ := (HBX.out.kept hb1).cells; clear hb1) | (go_at_call 61; (with_reducible refine (HV.out _ HB0.out).mono ?_); rintro e w1 ⟨rfl, hb1⟩; have HB1 := Lib.hid hb1; clear hb1) | (go_at_call 62; (with_reducible refine (HC.out _ (HB0.out.trans (HB1.out.mono HB0.out.size))).mono ?_); rintro e w' ⟨rfl, rfl⟩) | (go_at_call 63; (with_reducible refine (HI.out _).mono ?_); rintro e w' ⟨rfl, rfl⟩))
        go_ret
        exact ⟨congrArg (λ z => Ending.returned (.bool z)) (by rw [HR.out]; first | done | rfl | (rw [HLen.out, HB.out]; rfl) | (rw [HLen.out]; rfl)), HB0.out⟩
      | true =>
        by_cases qrr : rr.size = 0
        . have krr := bytes_nil qrr
          have HXrr := Lib.hid qrr
          rw [show decide (rr.size = 0) = true by simp [qrr]] at HR
          clear qrr
          cases v with
          | false =>
            go_enter Tryz.func16, Tryz.ntmps16
            go_wp2_with (first | (go_at_call 59; first | ((with_reducible refine (HTl.out _).mono ?_); rintro e w' ⟨rfl, rfl⟩) | ((with_reducible refine (HTr.out _).mono ?_); rintro e w' ⟨rfl, rfl⟩)) | (go_at_call 60; (with_reducible refine (HZ.out _).mono ?_); rintro e w1 ⟨rfl, hb1⟩; have HB1 := Lib.hid hb1; obtain ⟨c0, c1, c2, c3, c4, c5, c6, c7⟩ := (HBX.out.kept hb1).cells; clear hb1) | (go_at_call 61; (with_reducible refine (HV.out _ HB0.out).mono ?_); rintro e w1 ⟨rfl, hb1⟩; have HB1 := Lib.hid hb1; clear hb1) | (go_at_call 62; (with_reducible refine (HC.out _ (HB0.out.trans (HB1.out.mono HB0.out.size))).mono ?_); rintro e w' ⟨rfl, rfl⟩) | (go_at_call 63; (with_reducible refine (HI.out _).mono ?_); rintro e w' ⟨rfl, rfl⟩))
            go_ret
            exact ⟨congrArg (λ z => Ending.returned (.bool z)) (by rw [HR.out]; first | done | rfl | (rw [HLen.out, HB.out]; rfl) | (rw [HLen.out]; rfl)), HB0.out.trans (HB1.out.mono HB0.out.size)⟩
          | true =>
            go_enter Tryz.func16, Tryz.ntmps16
            go_wp2_with (first | (go_at_call 59; first | ((with_reducible refine (HTl.out _).mono ?_); rintro e w' ⟨rfl, rfl⟩) | ((with_reducible refine (HTr.out _).mono ?_); rintro e w' ⟨rfl, rfl⟩)) | (go_at_call 60; (with_reducible refine (HZ.out _).mono ?_); rintro e w1 ⟨rfl, hb1⟩; have HB1 := Lib.hid hb1; obtain ⟨c0, c1, c2, c3, c4, c5, c6, c7⟩ := (HBX.out.kept hb1).cells; clear hb1) | (go_at_call 61; (with_reducible refine (HV.out _ HB0.out).mono ?_); rintro e w1 ⟨rfl, hb1⟩; have HB1 := Lib.hid hb1; clear hb1) | (go_at_call 62; (with_reducible refine (HC.out _ (HB0.out.trans (HB1.out.mono HB0.out.size))).mono ?_); rintro e w' ⟨rfl, rfl⟩) | (go_at_call 63; (with_reducible refine (HI.out _).mono ?_); rintro e w' ⟨rfl, rfl⟩))
            go_ret
            exact ⟨congrArg (λ z => Ending.returned (.bool z)) (by rw [HR.out]; first | done | rfl | (rw [HLen.out, HB.out]; rfl) | (rw [HLen.out]; rfl)), HB0.out.trans (HB1.out.mono HB0.out.size)⟩
        . have krr := bytes_some qrr
          rw [show decide (rr.size = 0) = false by simp [qrr]] at HR
          clear qrr
          go_enter Tryz.func16, Tryz.ntmps16
          go_wp2_with (first | (go_at_call 59; first | ((with_reducible refine (HTl.out _).mono ?_); rintro e w' ⟨rfl, rfl⟩) | ((with_reducible refine (HTr.out _).mono ?_); rintro e w' ⟨rfl, rfl⟩)) | (go_at_call 60; (with_reducible refine (HZ.out _).mono ?_); rintro e w1 ⟨rfl, hb1⟩; have HB1 := Lib.hid hb1; obtain ⟨c0, c1, c2, c3, c4, c5, c6, c7⟩ := (HBX.out.kept hb1).cells; clear hb1) | (go_at_call 61; (with_reducible refine (HV.out _ HB0.out).mono ?_); rintro e w1 ⟨rfl, hb1⟩; have HB1 := Lib.hid hb1; clear hb1) | (go_at_call 62; (with_reducible refine (HC.out _ (HB0.out.trans (HB1.out.mono HB0.out.size))).mono ?_); rintro e w' ⟨rfl, rfl⟩) | (go_at_call 63; (with_reducible refine (HI.out _).mono ?_); rintro e w' ⟨rfl, rfl⟩))
          go_ret
          exact ⟨congrArg (λ z => Ending.returned (.bool z)) (by rw [HR.out]; first | done | rfl | (rw [HLen.out, HB.out]; rfl) | (rw [HLen.out]; rfl)), HB0.out⟩
theorem specVC_5 (c : Cx) (xu vc : Value) (w : World) (h : CnO w xu vc c) (hsz : c.xa.size <= 2097152) (hk : c.k = 5) :
    Calls Tryz.prog 16 #[.agg #[.int .i64 c.k, .string c.l, .string c.r, .int .i64 c.xk, .string c.xl, xu, vc, .int .i64 c.b]] w λ e w' => e = .returned (.bool (validX c)) /\ Below w.heap.size w w' := by
  obtain ⟨A, m, B, r, rfl, rfl⟩ := h.shape
  have HR : Hid (validX c = (decide (c.l.size = 0) && decide (c.r.size = 0) && zB c.xk c.xl c.xa.items.length && coB c.cs && inR (-99) 99 c.b)) := Lib.hid (by
    show validC c.cn = _
    unfold validC
    rw [if_neg (show ¬ (c.cn.k = 1 \/ c.cn.k = 2) by show ¬ (c.k = 1 \/ c.k = 2); omega), if_neg (show ¬ (c.cn.k = 3 \/ c.cn.k = 4) by show ¬ (c.k = 3 \/ c.k = 4); omega), if_pos (show c.cn.k = 5 from hk)]
    all_goals rfl)
  obtain ⟨⟨hl, hr, hx⟩, ⟨n, hS⟩, hRow⟩ := h.read
  obtain ⟨k, l, rr, xk, xl, xa, cs, b⟩ := c
  simp only at hl hr hx hS hRow HR hsz hk ⊢
  unfold maxI at hl hr hx
  have hcl := hRow.1
  rw [ints_length] at hcl
  have HTl := Lib.hid (λ w => specIsT_any l w (by unfold maxLen; omega))
  have HTr := Lib.hid (λ w => specIsT_any rr w (by unfold maxLen; omega))
  have HZ := Lib.hid (λ w => specZero_any xk xl A xa.items.length m w (SlP.len hS))
  have HV := Lib.hid (λ wr (hb : Below w.heap.size w wr) => specValid_any n w.heap.size xk xl _ xa wr (hS.mono hb (Nat.le_refl _)) hb.size hsz hx)
  have HC := Lib.hid (λ wr (hb : Below w.heap.size w wr) => specCoeffs_any _ cs _ wr (hRow.row.kept hb))
  have HI := Lib.hid (λ wr => l1In_all b (-99) 99 (inR (-99) 99 b) wr rfl)
  have HB0 := Lib.hid ((Below.refl w.heap.size w).alloc (Nat.le_refl _) (.cells #[.int .i64 k, .string l, .string rr, .int .i64 xk, .string xl, .slice A xa.items.length m, .slice B cs.length r, .int .i64 b] 29))
  have HBX := Lib.hid (boxC_new w ⟨k, l, rr, xk, xl, xa, cs, b⟩ (.slice A xa.items.length m) (.slice B cs.length r) 29)
  obtain ⟨z, hz⟩ : ∃ z, z = zB xk xl xa.items.length := ⟨_, rfl⟩
  rw [<- hz] at HR
  rw [<- hz] at HZ
  clear hz
  obtain ⟨co, hco⟩ : ∃ co, co = coB cs := ⟨_, rfl⟩
  rw [<- hco] at HR
  rw [<- hco] at HC
  clear hco
  obtain ⟨bo, hbo⟩ : ∃ bo, bo = inR (-99) 99 b := ⟨_, rfl⟩
  rw [<- hbo] at HR HI
  clear hbo
  clear hS hRow hl hr hx hsz
  subst hk
  by_cases qn : cs.length = 0
  . have kn : ((cs.length : Int) == 0) = true := by simp [qn]
    have HLen := Lib.hid (show decide (cs.length = 0) = true from decide_eq_true qn)
    clear qn
    by_cases qb : b = 0
    . have kb : (b == 0) = true := by simp [qb]
      have HB := Lib.hid (show decide (b = 0) = true by simp [qb])
      clear qb
      by_cases ql : l.size = 0
      . have kl := bytes_nil ql
        have HXl := Lib.hid ql
        rw [show decide (l.size = 0) = true by simp [ql]] at HR
        clear ql
        by_cases qrr : rr.size = 0
        . have krr := bytes_nil qrr
          have HXrr := Lib.hid qrr
          rw [show decide (rr.size = 0) = true by simp [qrr]] at HR
          clear qrr
          cases z with
          | false =>
            go_enter Tryz.func16, Tryz.ntmps16
            go_wp2_with (first | (go_at_call 59; first | ((with_reducible refine (HTl.out _).mono ?_); rintro e w' ⟨rfl, rfl⟩) | ((with_reducible refine (HTr.out _).mono ?_); rintro e w' ⟨rfl, rfl⟩)) | (go_at_call 60; (with_reducible refine (HZ.out _).mono ?_); rintro e w1 ⟨rfl, hb1⟩; have HB1 := Lib.hid hb1; obtain ⟨c0, c1, c2, c3, c4, c5, c6, c7⟩ := (HBX.out.kept hb1).cells; clear hb1) | (go_at_call 61; (with_reducible refine (HV.out _ HB0.out).mono ?_); rintro e w1 ⟨rfl, hb1⟩; have HB1 := Lib.hid hb1; clear hb1) | (go_at_call 62; (with_reducible refine (HC.out _ (HB0.out.trans (HB1.out.mono HB0.out.size))).mono ?_); rintro e w' ⟨rfl, rfl⟩) | (go_at_call 63; (with_reducible refine (HI.out _).mono ?_); rintro e w' ⟨rfl, rfl⟩))
            go_ret
            exact ⟨congrArg (λ z => Ending.returned (.bool z)) (by rw [HR.out]; first | done | rfl | (rw [HLen.out, HB.out]; rfl) | (rw [HLen.out]; rfl)), HB0.out.trans (HB1.out.mono HB0.out.size)⟩
          | true =>
            cases co with
            | false =>
              go_enter Tryz.func16, Tryz.ntmps16
              go_wp2_with (first | (go_at_call 59; first | ((with_reducible refine (HTl.out _).mono ?_); rintro e w' ⟨rfl, rfl⟩) | ((with_reducible refine (HTr.out _).mono ?_); rintro e w' ⟨rfl, rfl⟩)) | (go_at_call 60; (with_reducible refine (HZ.out _).mono ?_); rintro e w1 ⟨rfl, hb1⟩; have HB1 := Lib.hid hb1; obtain ⟨c0, c1, c2, c3, c4, c5, c6, c7⟩ := (HBX.out.kept hb1).cells; clear hb1) | (go_at_call 61; (with_reducible refine (HV.out _ HB0.out).mono ?_); rintro e w1 ⟨rfl, hb1⟩; have HB1 := Lib.hid hb1; clear hb1) | (go_at_call 62; (with_reducible refine (HC.out _ (HB0.out.trans (HB1.out.mono HB0.out.size))).mono ?_); rintro e w' ⟨rfl, rfl⟩) | (go_at_call 63; (with_reducible refine (HI.out _).mono ?_); rintro e w' ⟨rfl, rfl⟩))
              go_ret
              exact ⟨congrArg (λ z => Ending.returned (.bool z)) (by rw [HR.out]; first | done | rfl | (rw [HLen.out, HB.out]; rfl) | (rw [HLen.out]; rfl)), HB0.out.trans (HB1.out.mono HB0.out.size)⟩
            | true =>
              cases bo with
              | false =>
                go_enter Tryz.func16, Tryz.ntmps16
                go_wp2_with (first | (go_at_call 59; first | ((with_reducible refine (HTl.out _).mono ?_); rintro e w' ⟨rfl, rfl⟩) | ((with_reducible refine (HTr.out _).mono ?_); rintro e w' ⟨rfl, rfl⟩)) | (go_at_call 60; (with_reducible refine (HZ.out _).mono ?_); rintro e w1 ⟨rfl, hb1⟩; have HB1 := Lib.hid hb1; obtain ⟨c0, c1, c2, c3, c4, c5, c6, c7⟩ := (HBX.out.kept hb1).cells; clear hb1) | (go_at_call 61; (with_reducible refine (HV.out _ HB0.out).mono ?_); rintro e w1 ⟨rfl, hb1⟩; have HB1 := Lib.hid hb1; clear hb1) | (go_at_call 62; (with_reducible refine (HC.out _ (HB0.out.trans (HB1.out.mono HB0.out.size))).mono ?_); rintro e w' ⟨rfl, rfl⟩) | (go_at_call 63; (with_reducible refine (HI.out _).mono ?_); rintro e w' ⟨rfl, rfl⟩))
                go_ret
                exact ⟨congrArg (λ z => Ending.returned (.bool z)) (by rw [HR.out]; first | done | rfl | (rw [HLen.out, HB.out]; rfl) | (rw [HLen.out]; rfl)), HB0.out.trans (HB1.out.mono HB0.out.size)⟩
              | true =>
                go_enter Tryz.func16, Tryz.ntmps16
                go_wp2_with (first | (go_at_call 59; first | ((with_reducible refine (HTl.out _).mono ?_); rintro e w' ⟨rfl, rfl⟩) | ((with_reducible refine (HTr.out _).mono ?_); rintro e w' ⟨rfl, rfl⟩)) | (go_at_call 60; (with_reducible refine (HZ.out _).mono ?_); rintro e w1 ⟨rfl, hb1⟩; have HB1 := Lib.hid hb1; obtain ⟨c0, c1, c2, c3, c4, c5, c6, c7⟩ := (HBX.out.kept hb1).cells; clear hb1) | (go_at_call 61; (with_reducible refine (HV.out _ HB0.out).mono ?_); rintro e w1 ⟨rfl, hb1⟩; have HB1 := Lib.hid hb1; clear hb1) | (go_at_call 62; (with_reducible refine (HC.out _ (HB0.out.trans (HB1.out.mono HB0.out.size))).mono ?_); rintro e w' ⟨rfl, rfl⟩) | (go_at_call 63; (with_reducible refine (HI.out _).mono ?_); rintro e w' ⟨rfl, rfl⟩))
                go_ret
                exact ⟨congrArg (λ z => Ending.returned (.bool z)) (by rw [HR.out]; first | done | rfl | (rw [HLen.out, HB.out]; rfl) | (rw [HLen.out]; rfl)), HB0.out.trans (HB1.out.mono HB0.out.size)⟩
        . have krr := bytes_some qrr
          rw [show decide (rr.size = 0) = false by simp [qrr]] at HR
          clear qrr
          go_enter Tryz.func16, Tryz.ntmps16
          go_wp2_with (first | (go_at_call 59; first | ((with_reducible refine (HTl.out _).mono ?_); rintro e w' ⟨rfl, rfl⟩) | ((with_reducible refine (HTr.out _).mono ?_); rintro e w' ⟨rfl, rfl⟩)) | (go_at_call 60; (with_reducible refine (HZ.out _).mono ?_); rintro e w1 ⟨rfl, hb1⟩; have HB1 := Lib.hid hb1; obtain ⟨c0, c1, c2, c3, c4, c5, c6, c7⟩ := (HBX.out.kept hb1).cells; clear hb1) | (go_at_call 61; (with_reducible refine (HV.out _ HB0.out).mono ?_); rintro e w1 ⟨rfl, hb1⟩; have HB1 := Lib.hid hb1; clear hb1) | (go_at_call 62; (with_reducible refine (HC.out _ (HB0.out.trans (HB1.out.mono HB0.out.size))).mono ?_); rintro e w' ⟨rfl, rfl⟩) | (go_at_call 63; (with_reducible refine (HI.out _).mono ?_); rintro e w' ⟨rfl, rfl⟩))
          go_ret
          exact ⟨congrArg (λ z => Ending.returned (.bool z)) (by rw [HR.out]; first | done | rfl | (rw [HLen.out, HB.out]; rfl) | (rw [HLen.out]; rfl)), HB0.out⟩
      . have kl := bytes_some ql
        rw [show decide (l.size = 0) = false by simp [ql]] at HR
        clear ql
        go_enter Tryz.func16, Tryz.ntmps16
        go_wp2_with (first | (go_at_call 59; first | ((with_reducible refine (HTl.out _).mono ?_); rintro e w' ⟨rfl, rfl⟩) | ((with_reducible refine (HTr.out _).mono ?_); rintro e w' ⟨rfl, rfl⟩)) | (go_at_call 60; (with_reducible refine (HZ.out _).mono ?_); rintro e w1 ⟨rfl, hb1⟩; have HB1 := Lib.hid hb1; obtain ⟨c0, c1, c2, c3, c4, c5, c6, c7⟩ := (HBX.out.kept hb1).cells; clear hb1) | (go_at_call 61; (with_reducible refine (HV.out _ HB0.out).mono ?_); rintro e w1 ⟨rfl, hb1⟩; have HB1 := Lib.hid hb1; clear hb1) | (go_at_call 62; (with_reducible refine (HC.out _ (HB0.out.trans (HB1.out.mono HB0.out.size))).mono ?_); rintro e w' ⟨rfl, rfl⟩) | (go_at_call 63; (with_reducible refine (HI.out _).mono ?_); rintro e w' ⟨rfl, rfl⟩))
        go_ret
        exact ⟨congrArg (λ z => Ending.returned (.bool z)) (by rw [HR.out]; first | done | rfl | (rw [HLen.out, HB.out]; rfl) | (rw [HLen.out]; rfl)), HB0.out⟩
    . have kb : (b == 0) = false := by simp [qb]
      have HB := Lib.hid (show decide (b = 0) = false by simp [qb])
      clear qb
      by_cases ql : l.size = 0
      . have kl := bytes_nil ql
        have HXl := Lib.hid ql
        rw [show decide (l.size = 0) = true by simp [ql]] at HR
        clear ql
        by_cases qrr : rr.size = 0
        . have krr := bytes_nil qrr
          have HXrr := Lib.hid qrr
          rw [show decide (rr.size = 0) = true by simp [qrr]] at HR
          clear qrr
          cases z with
          | false =>
            go_enter Tryz.func16, Tryz.ntmps16
            go_wp2_with (first | (go_at_call 59; first | ((with_reducible refine (HTl.out _).mono ?_); rintro e w' ⟨rfl, rfl⟩) | ((with_reducible refine (HTr.out _).mono ?_); rintro e w' ⟨rfl, rfl⟩)) | (go_at_call 60; (with_reducible refine (HZ.out _).mono ?_); rintro e w1 ⟨rfl, hb1⟩; have HB1 := Lib.hid hb1; obtain ⟨c0, c1, c2, c3, c4, c5, c6, c7⟩ := (HBX.out.kept hb1).cells; clear hb1) | (go_at_call 61; (with_reducible refine (HV.out _ HB0.out).mono ?_); rintro e w1 ⟨rfl, hb1⟩; have HB1 := Lib.hid hb1; clear hb1) | (go_at_call 62; (with_reducible refine (HC.out _ (HB0.out.trans (HB1.out.mono HB0.out.size))).mono ?_); rintro e w' ⟨rfl, rfl⟩) | (go_at_call 63; (with_reducible refine (HI.out _).mono ?_); rintro e w' ⟨rfl, rfl⟩))
            go_ret
            exact ⟨congrArg (λ z => Ending.returned (.bool z)) (by rw [HR.out]; first | done | rfl | (rw [HLen.out, HB.out]; rfl) | (rw [HLen.out]; rfl)), HB0.out.trans (HB1.out.mono HB0.out.size)⟩
          | true =>
            cases co with
            | false =>
              go_enter Tryz.func16, Tryz.ntmps16
              go_wp2_with (first | (go_at_call 59; first | ((with_reducible refine (HTl.out _).mono ?_); rintro e w' ⟨rfl, rfl⟩) | ((with_reducible refine (HTr.out _).mono ?_); rintro e w' ⟨rfl, rfl⟩)) | (go_at_call 60; (with_reducible refine (HZ.out _).mono ?_); rintro e w1 ⟨rfl, hb1⟩; have HB1 := Lib.hid hb1; obtain ⟨c0, c1, c2, c3, c4, c5, c6, c7⟩ := (HBX.out.kept hb1).cells; clear hb1) | (go_at_call 61; (with_reducible refine (HV.out _ HB0.out).mono ?_); rintro e w1 ⟨rfl, hb1⟩; have HB1 := Lib.hid hb1; clear hb1) | (go_at_call 62; (with_reducible refine (HC.out _ (HB0.out.trans (HB1.out.mono HB0.out.size))).mono ?_); rintro e w' ⟨rfl, rfl⟩) | (go_at_call 63; (with_reducible refine (HI.out _).mono ?_); rintro e w' ⟨rfl, rfl⟩))
              go_ret
              exact ⟨congrArg (λ z => Ending.returned (.bool z)) (by rw [HR.out]; first | done | rfl | (rw [HLen.out, HB.out]; rfl) | (rw [HLen.out]; rfl)), HB0.out.trans (HB1.out.mono HB0.out.size)⟩
            | true =>
              cases bo with
              | false =>
                go_enter Tryz.func16, Tryz.ntmps16
                go_wp2_with (first | (go_at_call 59; first | ((with_reducible refine (HTl.out _).mono ?_); rintro e w' ⟨rfl, rfl⟩) | ((with_reducible refine (HTr.out _).mono ?_); rintro e w' ⟨rfl, rfl⟩)) | (go_at_call 60; (with_reducible refine (HZ.out _).mono ?_); rintro e w1 ⟨rfl, hb1⟩; have HB1 := Lib.hid hb1; obtain ⟨c0, c1, c2, c3, c4, c5, c6, c7⟩ := (HBX.out.kept hb1).cells; clear hb1) | (go_at_call 61; (with_reducible refine (HV.out _ HB0.out).mono ?_); rintro e w1 ⟨rfl, hb1⟩; have HB1 := Lib.hid hb1; clear hb1) | (go_at_call 62; (with_reducible refine (HC.out _ (HB0.out.trans (HB1.out.mono HB0.out.size))).mono ?_); rintro e w' ⟨rfl, rfl⟩) | (go_at_call 63; (with_reducible refine (HI.out _).mono ?_); rintro e w' ⟨rfl, rfl⟩))
                go_ret
                exact ⟨congrArg (λ z => Ending.returned (.bool z)) (by rw [HR.out]; first | done | rfl | (rw [HLen.out, HB.out]; rfl) | (rw [HLen.out]; rfl)), HB0.out.trans (HB1.out.mono HB0.out.size)⟩
              | true =>
                go_enter Tryz.func16, Tryz.ntmps16
                go_wp2_with (first | (go_at_call 59; first | ((with_reducible refine (HTl.out _).mono ?_); rintro e w' ⟨rfl, rfl⟩) | ((with_reducible refine (HTr.out _).mono ?_); rintro e w' ⟨rfl, rfl⟩)) | (go_at_call 60; (with_reducible refine (HZ.out _).mono ?_); rintro e w1 ⟨rfl, hb1⟩; have HB1 := Lib.hid hb1; obtain ⟨c0, c1, c2, c3, c4, c5, c6, c7⟩ := (HBX.out.kept hb1).cells; clear hb1) | (go_at_call 61; (with_reducible refine (HV.out _ HB0.out).mono ?_); rintro e w1 ⟨rfl, hb1⟩; have HB1 := Lib.hid hb1; clear hb1) | (go_at_call 62; (with_reducible refine (HC.out _ (HB0.out.trans (HB1.out.mono HB0.out.size))).mono ?_); rintro e w' ⟨rfl, rfl⟩) | (go_at_call 63; (with_reducible refine (HI.out _).mono ?_); rintro e w' ⟨rfl, rfl⟩))
                go_ret
                exact ⟨congrArg (λ z => Ending.returned (.bool z)) (by rw [HR.out]; first | done | rfl | (rw [HLen.out, HB.out]; rfl) | (rw [HLen.out]; rfl)), HB0.out.trans (HB1.out.mono HB0.out.size)⟩
        . have krr := bytes_some qrr
          rw [show decide (rr.size = 0) = false by simp [qrr]] at HR
          clear qrr
          go_enter Tryz.func16, Tryz.ntmps16
          go_wp2_with (first | (go_at_call 59; first | ((with_reducible refine (HTl.out _).mono ?_); rintro e w' ⟨rfl, rfl⟩) | ((with_reducible refine (HTr.out _).mono ?_); rintro e w' ⟨rfl, rfl⟩)) | (go_at_call 60; (with_reducible refine (HZ.out _).mono ?_); rintro e w1 ⟨rfl, hb1⟩; have HB1 := Lib.hid hb1; obtain ⟨c0, c1, c2, c3, c4, c5, c6, c7⟩ := (HBX.out.kept hb1).cells; clear hb1) | (go_at_call 61; (with_reducible refine (HV.out _ HB0.out).mono ?_); rintro e w1 ⟨rfl, hb1⟩; have HB1 := Lib.hid hb1; clear hb1) | (go_at_call 62; (with_reducible refine (HC.out _ (HB0.out.trans (HB1.out.mono HB0.out.size))).mono ?_); rintro e w' ⟨rfl, rfl⟩) | (go_at_call 63; (with_reducible refine (HI.out _).mono ?_); rintro e w' ⟨rfl, rfl⟩))
          go_ret
          exact ⟨congrArg (λ z => Ending.returned (.bool z)) (by rw [HR.out]; first | done | rfl | (rw [HLen.out, HB.out]; rfl) | (rw [HLen.out]; rfl)), HB0.out⟩
      . have kl := bytes_some ql
        rw [show decide (l.size = 0) = false by simp [ql]] at HR
        clear ql
        go_enter Tryz.func16, Tryz.ntmps16
        go_wp2_with (first | (go_at_call 59; first | ((with_reducible refine (HTl.out _).mono ?_); rintro e w' ⟨rfl, rfl⟩) | ((with_reducible refine (HTr.out _).mono ?_); rintro e w' ⟨rfl, rfl⟩)) | (go_at_call 60; (with_reducible refine (HZ.out _).mono ?_); rintro e w1 ⟨rfl, hb1⟩; have HB1 := Lib.hid hb1; obtain ⟨c0, c1, c2, c3, c4, c5, c6, c7⟩ := (HBX.out.kept hb1).cells; clear hb1) | (go_at_call 61; (with_reducible refine (HV.out _ HB0.out).mono ?_); rintro e w1 ⟨rfl, hb1⟩; have HB1 := Lib.hid hb1; clear hb1) | (go_at_call 62; (with_reducible refine (HC.out _ (HB0.out.trans (HB1.out.mono HB0.out.size))).mono ?_); rintro e w' ⟨rfl, rfl⟩) | (go_at_call 63; (with_reducible refine (HI.out _).mono ?_); rintro e w' ⟨rfl, rfl⟩))
        go_ret
        exact ⟨congrArg (λ z => Ending.returned (.bool z)) (by rw [HR.out]; first | done | rfl | (rw [HLen.out, HB.out]; rfl) | (rw [HLen.out]; rfl)), HB0.out⟩
  . have kn : ((cs.length : Int) == 0) = false := by rw [beq_eq_false_iff_ne]; omega
    have HLen := Lib.hid (show decide (cs.length = 0) = false from decide_eq_false qn)
    have HB := Lib.hid (show True = True by rfl)
    clear qn
    by_cases ql : l.size = 0
    . have kl := bytes_nil ql
      have HXl := Lib.hid ql
      rw [show decide (l.size = 0) = true by simp [ql]] at HR
      clear ql
      by_cases qrr : rr.size = 0
      . have krr := bytes_nil qrr
        have HXrr := Lib.hid qrr
        rw [show decide (rr.size = 0) = true by simp [qrr]] at HR
        clear qrr
        cases z with
        | false =>
          go_enter Tryz.func16, Tryz.ntmps16
          go_wp2_with (first | (go_at_call 59; first | ((with_reducible refine (HTl.out _).mono ?_); rintro e w' ⟨rfl, rfl⟩) | ((with_reducible refine (HTr.out _).mono ?_); rintro e w' ⟨rfl, rfl⟩)) | (go_at_call 60; (with_reducible refine (HZ.out _).mono ?_); rintro e w1 ⟨rfl, hb1⟩; have HB1 := Lib.hid hb1; obtain ⟨c0, c1, c2, c3, c4, c5, c6, c7⟩ := (HBX.out.kept hb1).cells; clear hb1) | (go_at_call 61; (with_reducible refine (HV.out _ HB0.out).mono ?_); rintro e w1 ⟨rfl, hb1⟩; have HB1 := Lib.hid hb1; clear hb1) | (go_at_call 62; (with_reducible refine (HC.out _ (HB0.out.trans (HB1.out.mono HB0.out.size))).mono ?_); rintro e w' ⟨rfl, rfl⟩) | (go_at_call 63; (with_reducible refine (HI.out _).mono ?_); rintro e w' ⟨rfl, rfl⟩))
          go_ret
          exact ⟨congrArg (λ z => Ending.returned (.bool z)) (by rw [HR.out]; first | done | rfl | (rw [HLen.out, HB.out]; rfl) | (rw [HLen.out]; rfl)), HB0.out.trans (HB1.out.mono HB0.out.size)⟩
        | true =>
          cases co with
          | false =>
            go_enter Tryz.func16, Tryz.ntmps16
            go_wp2_with (first | (go_at_call 59; first | ((with_reducible refine (HTl.out _).mono ?_); rintro e w' ⟨rfl, rfl⟩) | ((with_reducible refine (HTr.out _).mono ?_); rintro e w' ⟨rfl, rfl⟩)) | (go_at_call 60; (with_reducible refine (HZ.out _).mono ?_); rintro e w1 ⟨rfl, hb1⟩; have HB1 := Lib.hid hb1; obtain ⟨c0, c1, c2, c3, c4, c5, c6, c7⟩ := (HBX.out.kept hb1).cells; clear hb1) | (go_at_call 61; (with_reducible refine (HV.out _ HB0.out).mono ?_); rintro e w1 ⟨rfl, hb1⟩; have HB1 := Lib.hid hb1; clear hb1) | (go_at_call 62; (with_reducible refine (HC.out _ (HB0.out.trans (HB1.out.mono HB0.out.size))).mono ?_); rintro e w' ⟨rfl, rfl⟩) | (go_at_call 63; (with_reducible refine (HI.out _).mono ?_); rintro e w' ⟨rfl, rfl⟩))
            go_ret
            exact ⟨congrArg (λ z => Ending.returned (.bool z)) (by rw [HR.out]; first | done | rfl | (rw [HLen.out, HB.out]; rfl) | (rw [HLen.out]; rfl)), HB0.out.trans (HB1.out.mono HB0.out.size)⟩
          | true =>
            cases bo with
            | false =>
              go_enter Tryz.func16, Tryz.ntmps16
              go_wp2_with (first | (go_at_call 59; first | ((with_reducible refine (HTl.out _).mono ?_); rintro e w' ⟨rfl, rfl⟩) | ((with_reducible refine (HTr.out _).mono ?_); rintro e w' ⟨rfl, rfl⟩)) | (go_at_call 60; (with_reducible refine (HZ.out _).mono ?_); rintro e w1 ⟨rfl, hb1⟩; have HB1 := Lib.hid hb1; obtain ⟨c0, c1, c2, c3, c4, c5, c6, c7⟩ := (HBX.out.kept hb1).cells; clear hb1) | (go_at_call 61; (with_reducible refine (HV.out _ HB0.out).mono ?_); rintro e w1 ⟨rfl, hb1⟩; have HB1 := Lib.hid hb1; clear hb1) | (go_at_call 62; (with_reducible refine (HC.out _ (HB0.out.trans (HB1.out.mono HB0.out.size))).mono ?_); rintro e w' ⟨rfl, rfl⟩) | (go_at_call 63; (with_reducible refine (HI.out _).mono ?_); rintro e w' ⟨rfl, rfl⟩))
              go_ret
              exact ⟨congrArg (λ z => Ending.returned (.bool z)) (by rw [HR.out]; first | done | rfl | (rw [HLen.out, HB.out]; rfl) | (rw [HLen.out]; rfl)), HB0.out.trans (HB1.out.mono HB0.out.size)⟩
            | true =>
              go_enter Tryz.func16, Tryz.ntmps16
              go_wp2_with (first | (go_at_call 59; first | ((with_reducible refine (HTl.out _).mono ?_); rintro e w' ⟨rfl, rfl⟩) | ((with_reducible refine (HTr.out _).mono ?_); rintro e w' ⟨rfl, rfl⟩)) | (go_at_call 60; (with_reducible refine (HZ.out _).mono ?_); rintro e w1 ⟨rfl, hb1⟩; have HB1 := Lib.hid hb1; obtain ⟨c0, c1, c2, c3, c4, c5, c6, c7⟩ := (HBX.out.kept hb1).cells; clear hb1) | (go_at_call 61; (with_reducible refine (HV.out _ HB0.out).mono ?_); rintro e w1 ⟨rfl, hb1⟩; have HB1 := Lib.hid hb1; clear hb1) | (go_at_call 62; (with_reducible refine (HC.out _ (HB0.out.trans (HB1.out.mono HB0.out.size))).mono ?_); rintro e w' ⟨rfl, rfl⟩) | (go_at_call 63; (with_reducible refine (HI.out _).mono ?_); rintro e w' ⟨rfl, rfl⟩))
              go_ret
              exact ⟨congrArg (λ z => Ending.returned (.bool z)) (by rw [HR.out]; first | done | rfl | (rw [HLen.out, HB.out]; rfl) | (rw [HLen.out]; rfl)), HB0.out.trans (HB1.out.mono HB0.out.size)⟩
      . have krr := bytes_some qrr
        rw [show decide (rr.size = 0) = false by simp [qrr]] at HR
        clear qrr
        go_enter Tryz.func16, Tryz.ntmps16
        go_wp2_with (first | (go_at_call 59; first | ((with_reducible refine (HTl.out _).mono ?_); rintro e w' ⟨rfl, rfl⟩) | ((with_reducible refine (HTr.out _).mono ?_); rintro e w' ⟨rfl, rfl⟩)) | (go_at_call 60; (with_reducible refine (HZ.out _).mono ?_); rintro e w1 ⟨rfl, hb1⟩; have HB1 := Lib.hid hb1; obtain ⟨c0, c1, c2, c3, c4, c5, c6, c7⟩ := (HBX.out.kept hb1).cells; clear hb1) | (go_at_call 61; (with_reducible refine (HV.out _ HB0.out).mono ?_); rintro e w1 ⟨rfl, hb1⟩; have HB1 := Lib.hid hb1; clear hb1) | (go_at_call 62; (with_reducible refine (HC.out _ (HB0.out.trans (HB1.out.mono HB0.out.size))).mono ?_); rintro e w' ⟨rfl, rfl⟩) | (go_at_call 63; (with_reducible refine (HI.out _).mono ?_); rintro e w' ⟨rfl, rfl⟩))
        go_ret
        exact ⟨congrArg (λ z => Ending.returned (.bool z)) (by rw [HR.out]; first | done | rfl | (rw [HLen.out, HB.out]; rfl) | (rw [HLen.out]; rfl)), HB0.out⟩
    . have kl := bytes_some ql
      rw [show decide (l.size = 0) = false by simp [ql]] at HR
      clear ql
      go_enter Tryz.func16, Tryz.ntmps16
      go_wp2_with (first | (go_at_call 59; first | ((with_reducible refine (HTl.out _).mono ?_); rintro e w' ⟨rfl, rfl⟩) | ((with_reducible refine (HTr.out _).mono ?_); rintro e w' ⟨rfl, rfl⟩)) | (go_at_call 60; (with_reducible refine (HZ.out _).mono ?_); rintro e w1 ⟨rfl, hb1⟩; have HB1 := Lib.hid hb1; obtain ⟨c0, c1, c2, c3, c4, c5, c6, c7⟩ := (HBX.out.kept hb1).cells; clear hb1) | (go_at_call 61; (with_reducible refine (HV.out _ HB0.out).mono ?_); rintro e w1 ⟨rfl, hb1⟩; have HB1 := Lib.hid hb1; clear hb1) | (go_at_call 62; (with_reducible refine (HC.out _ (HB0.out.trans (HB1.out.mono HB0.out.size))).mono ?_); rintro e w' ⟨rfl, rfl⟩) | (go_at_call 63; (with_reducible refine (HI.out _).mono ?_); rintro e w' ⟨rfl, rfl⟩))
      go_ret
      exact ⟨congrArg (λ z => Ending.returned (.bool z)) (by rw [HR.out]; first | done | rfl | (rw [HLen.out, HB.out]; rfl) | (rw [HLen.out]; rfl)), HB0.out⟩
theorem specVC_no (c : Cx) (xu vc : Value) (w : World) (h : CnO w xu vc c) (hsz : c.xa.size <= 2097152) (hk : c.k ≠ 1 /\ c.k ≠ 2 /\ c.k ≠ 3 /\ c.k ≠ 4 /\ c.k ≠ 5) :
    Calls Tryz.prog 16 #[.agg #[.int .i64 c.k, .string c.l, .string c.r, .int .i64 c.xk, .string c.xl, xu, vc, .int .i64 c.b]] w λ e w' => e = .returned (.bool (validX c)) /\ Below w.heap.size w w' := by
  obtain ⟨A, m, B, r, rfl, rfl⟩ := h.shape
  have HR : Hid (validX c = (false)) := Lib.hid (by
    show validC c.cn = _
    unfold validC
    rw [if_neg (show ¬ (c.cn.k = 1 \/ c.cn.k = 2) by show ¬ (c.k = 1 \/ c.k = 2); omega), if_neg (show ¬ (c.cn.k = 3 \/ c.cn.k = 4) by show ¬ (c.k = 3 \/ c.k = 4); omega), if_neg (show ¬ c.cn.k = 5 by show ¬ c.k = 5; omega)]
    all_goals rfl)
  obtain ⟨⟨hl, hr, hx⟩, ⟨n, hS⟩, hRow⟩ := h.read
  obtain ⟨k, l, rr, xk, xl, xa, cs, b⟩ := c
  simp only at hl hr hx hS hRow HR hsz hk ⊢
  unfold maxI at hl hr hx
  have hcl := hRow.1
  rw [ints_length] at hcl
  have HTl := Lib.hid (λ w => specIsT_any l w (by unfold maxLen; omega))
  have HTr := Lib.hid (λ w => specIsT_any rr w (by unfold maxLen; omega))
  have HZ := Lib.hid (λ w => specZero_any xk xl A xa.items.length m w (SlP.len hS))
  have HV := Lib.hid (λ wr (hb : Below w.heap.size w wr) => specValid_any n w.heap.size xk xl _ xa wr (hS.mono hb (Nat.le_refl _)) hb.size hsz hx)
  have HC := Lib.hid (λ wr (hb : Below w.heap.size w wr) => specCoeffs_any _ cs _ wr (hRow.row.kept hb))
  have HI := Lib.hid (λ wr => l1In_all b (-99) 99 (inR (-99) 99 b) wr rfl)
  have HB0 := Lib.hid ((Below.refl w.heap.size w).alloc (Nat.le_refl _) (.cells #[.int .i64 k, .string l, .string rr, .int .i64 xk, .string xl, .slice A xa.items.length m, .slice B cs.length r, .int .i64 b] 29))
  have HBX := Lib.hid (boxC_new w ⟨k, l, rr, xk, xl, xa, cs, b⟩ (.slice A xa.items.length m) (.slice B cs.length r) 29)
  clear hS hRow hl hr hx hsz
  obtain ⟨k1, k2, k3, k4, k5⟩ : (k == 1) = false /\ (k == 2) = false /\ (k == 3) = false /\ (k == 4) = false /\ (k == 5) = false := by simp only [beq_eq_false_iff_ne]; omega
  clear hk
  by_cases qn : cs.length = 0
  . have kn : ((cs.length : Int) == 0) = true := by simp [qn]
    have HLen := Lib.hid (show decide (cs.length = 0) = true from decide_eq_true qn)
    clear qn
    by_cases qb : b = 0
    . have kb : (b == 0) = true := by simp [qb]
      have HB := Lib.hid (show decide (b = 0) = true by simp [qb])
      clear qb
      go_enter Tryz.func16, Tryz.ntmps16
      go_wp2_with (first | (go_at_call 59; first | ((with_reducible refine (HTl.out _).mono ?_); rintro e w' ⟨rfl, rfl⟩) | ((with_reducible refine (HTr.out _).mono ?_); rintro e w' ⟨rfl, rfl⟩)) | (go_at_call 60; (with_reducible refine (HZ.out _).mono ?_); rintro e w1 ⟨rfl, hb1⟩; have HB1 := Lib.hid hb1; obtain ⟨c0, c1, c2, c3, c4, c5, c6, c7⟩ := (HBX.out.kept hb1).cells; clear hb1) | (go_at_call 61; (with_reducible refine (HV.out _ HB0.out).mono ?_); rintro e w1 ⟨rfl, hb1⟩; have HB1 := Lib.hid hb1; clear hb1) | (go_at_call 62; (with_reducible refine (HC.out _ (HB0.out.trans (HB1.out.mono HB0.out.size))).mono ?_); rintro e w' ⟨rfl, rfl⟩) | (go_at_call 63; (with_reducible refine (HI.out _).mono ?_); rintro e w' ⟨rfl, rfl⟩))
      go_ret
      exact ⟨congrArg (λ z => Ending.returned (.bool z)) (by rw [HR.out]; first | done | rfl | (rw [HLen.out, HB.out]; rfl) | (rw [HLen.out]; rfl)), HB0.out⟩
    . have kb : (b == 0) = false := by simp [qb]
      have HB := Lib.hid (show decide (b = 0) = false by simp [qb])
      clear qb
      go_enter Tryz.func16, Tryz.ntmps16
      go_wp2_with (first | (go_at_call 59; first | ((with_reducible refine (HTl.out _).mono ?_); rintro e w' ⟨rfl, rfl⟩) | ((with_reducible refine (HTr.out _).mono ?_); rintro e w' ⟨rfl, rfl⟩)) | (go_at_call 60; (with_reducible refine (HZ.out _).mono ?_); rintro e w1 ⟨rfl, hb1⟩; have HB1 := Lib.hid hb1; obtain ⟨c0, c1, c2, c3, c4, c5, c6, c7⟩ := (HBX.out.kept hb1).cells; clear hb1) | (go_at_call 61; (with_reducible refine (HV.out _ HB0.out).mono ?_); rintro e w1 ⟨rfl, hb1⟩; have HB1 := Lib.hid hb1; clear hb1) | (go_at_call 62; (with_reducible refine (HC.out _ (HB0.out.trans (HB1.out.mono HB0.out.size))).mono ?_); rintro e w' ⟨rfl, rfl⟩) | (go_at_call 63; (with_reducible refine (HI.out _).mono ?_); rintro e w' ⟨rfl, rfl⟩))
      go_ret
      exact ⟨congrArg (λ z => Ending.returned (.bool z)) (by rw [HR.out]; first | done | rfl | (rw [HLen.out, HB.out]; rfl) | (rw [HLen.out]; rfl)), HB0.out⟩
  . have kn : ((cs.length : Int) == 0) = false := by rw [beq_eq_false_iff_ne]; omega
    have HLen := Lib.hid (show decide (cs.length = 0) = false from decide_eq_false qn)
    have HB := Lib.hid (show True = True by rfl)
    clear qn
    go_enter Tryz.func16, Tryz.ntmps16
    go_wp2_with (first | (go_at_call 59; first | ((with_reducible refine (HTl.out _).mono ?_); rintro e w' ⟨rfl, rfl⟩) | ((with_reducible refine (HTr.out _).mono ?_); rintro e w' ⟨rfl, rfl⟩)) | (go_at_call 60; (with_reducible refine (HZ.out _).mono ?_); rintro e w1 ⟨rfl, hb1⟩; have HB1 := Lib.hid hb1; obtain ⟨c0, c1, c2, c3, c4, c5, c6, c7⟩ := (HBX.out.kept hb1).cells; clear hb1) | (go_at_call 61; (with_reducible refine (HV.out _ HB0.out).mono ?_); rintro e w1 ⟨rfl, hb1⟩; have HB1 := Lib.hid hb1; clear hb1) | (go_at_call 62; (with_reducible refine (HC.out _ (HB0.out.trans (HB1.out.mono HB0.out.size))).mono ?_); rintro e w' ⟨rfl, rfl⟩) | (go_at_call 63; (with_reducible refine (HI.out _).mono ?_); rintro e w' ⟨rfl, rfl⟩))
    go_ret
    exact ⟨congrArg (λ z => Ending.returned (.bool z)) (by rw [HR.out]; first | done | rfl | (rw [HLen.out, HB.out]; rfl) | (rw [HLen.out]; rfl)), HB0.out⟩
theorem specVC_any (c : Cx) (xu vc : Value) (w : World) (h : CnO w xu vc c) (hsz : c.xa.size <= 2097152) :
    Calls Tryz.prog 16 #[.agg #[.int .i64 c.k, .string c.l, .string c.r, .int .i64 c.xk, .string c.xl, xu, vc, .int .i64 c.b]] w λ e w' => e = .returned (.bool (validX c)) /\ Below w.heap.size w w' := by
  by_cases h12 : c.k = 1 \/ c.k = 2
  . exact specVC_12 c xu vc w h hsz h12
  . by_cases h34 : c.k = 3 \/ c.k = 4
    . exact specVC_34 c xu vc w h hsz h34
    . by_cases h5 : c.k = 5
      . exact specVC_5 c xu vc w h hsz h5
      . exact specVC_no c xu vc w h hsz (by omega)
end Go.Proofs.YtppliiingoonlaaGreatDoor
