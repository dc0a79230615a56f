/-
  Texts of one proof, one behind the other.
-/
import Derived.StillTailTactics
import Derived.Outline
import Derived.Test.YtppliiingoonlaaGreatDoorQaP1
import Derived.Test.YtppliiingoonlaaGreatDoorQaP4

/-
  What spec.IsValidConstraint answers.
-/
namespace Go.Proofs.YtppliiingoonlaaGreatDoor
open Go.RowKit
set_option maxRecDepth 100000 in
set_option maxHeartbeats 12800000 in
theorem specVC_12 (c : Cx) (xu vc : Value) (w : World) (h : CnO w xu vc c) (hsz : c.xa.size ≤ 2097152) (hk : c.k = 1 ∨ c.k = 2) :
    Calls Tryz.prog 16 #[.agg #[.int .i64 c.k, .string c.l, .string c.r, .int .i64 c.xk, .string c.xl, xu, vc, .int .i64 c.b]] w fun e w' => e = .returned (.bool (validX c)) ∧ Below w.heap.size w w' := by
  obtain ⟨A, m, B, r, rfl, rfl⟩ := h.shape
  have HR : Hid (validX c = (isT c.l.data.toList && isT c.r.data.toList && zB c.xk c.xl c.xa.items.length && (decide (c.cs.length = 0) && decide (c.b = 0)))) := Lib.hid (by
    show validC c.cn = _
    unfold validC
    rw [if_pos (show c.cn.k = 1 ∨ c.cn.k = 2 from hk)]
    all_goals rfl)
  obtain ⟨⟨hl, hr, hx⟩, ⟨n, hS⟩, hRow⟩ := h.read
  obtain ⟨k, l, rr, xk, xl, xa, cs, b⟩ := c
  simp only at hl hr hx hS hRow HR hsz hk ⊢
  unfold maxI at hl hr hx
  have hcl := hRow.1
  rw [ints_length] at hcl
  have HTl := Lib.hid (fun w => specIsT_any l w (by unfold maxLen; omega))
  have HTr := Lib.hid (fun w => specIsT_any rr w (by unfold maxLen; omega))
  have HZ := Lib.hid (fun w => specZero_any xk xl A xa.items.length m w (SlP.len hS))
  have HV := Lib.hid (fun wr (hb : Below w.heap.size w wr) => specValid_any n w.heap.size xk xl _ xa wr (hS.mono hb (Nat.le_refl _)) hb.size hsz hx)
  have HC := Lib.hid (fun wr (hb : Below w.heap.size w wr) => specCoeffs_any _ cs _ wr (hRow.row.kept hb))
  have HI := Lib.hid (fun wr => l1In_all b (-99) 99 (inR (-99) 99 b) wr rfl)
  have HB0 := Lib.hid ((Below.refl w.heap.size w).alloc (Nat.le_refl _) (.cells #[.int .i64 k, .string l, .string rr, .int .i64 xk, .string xl, .slice A xa.items.length m, .slice B cs.length r, .int .i64 b] 29))
  have HBX := Lib.hid (boxC_new w ⟨k, l, rr, xk, xl, xa, cs, b⟩ (.slice A xa.items.length m) (.slice B cs.length r) 29)
  obtain ⟨tl, htl⟩ : ∃ tl, tl = isT l.data.toList := ⟨_, rfl⟩
  rw [← htl] at HR
  rw [← htl] at HTl
  clear htl
  obtain ⟨tr, htr⟩ : ∃ tr, tr = isT rr.data.toList := ⟨_, rfl⟩
  rw [← htr] at HR
  rw [← htr] at HTr
  clear htr
  obtain ⟨z, hz⟩ : ∃ z, z = zB xk xl xa.items.length := ⟨_, rfl⟩
  rw [← hz] at HR
  rw [← hz] at HZ
  clear hz
  clear hS hRow hl hr hx hsz
  rcases hk with rfl | rfl
  · by_cases qn : cs.length = 0
    · have kn : ((cs.length : Int) == 0) = true := by simp [qn]
      have HLen := Lib.hid (show decide (cs.length = 0) = true from decide_eq_true qn)
      clear qn
      by_cases qb : b = 0
      · have kb : (b == 0) = true := by simp [qb]
        have HB := Lib.hid (show decide (b = 0) = true by simp [qb])
        clear qb
        cases tl with
        | false =>
          go_enter Tryz.func16, Tryz.ntmps16
          go_wp2_with (first | (go_at_call 59; first | ((with_reducible refine (HTl.out _).mono ?_); rintro e w' ⟨rfl, rfl⟩) | ((with_reducible refine (HTr.out _).mono ?_); rintro e w' ⟨rfl, rfl⟩)) | (go_at_call 60; (with_reducible refine (HZ.out _).mono ?_); rintro e w1 ⟨rfl, hb1⟩; have HB1 := Lib.hid hb1; obtain ⟨c0, c1, c2, c3, c4, c5, c6, c7⟩ := (HBX.out.kept hb1).cells; clear hb1) | (go_at_call 61; (with_reducible refine (HV.out _ HB0.out).mono ?_); rintro e w1 ⟨rfl, hb1⟩; have HB1 := Lib.hid hb1; clear hb1) | (go_at_call 62; (with_reducible refine (HC.out _ (HB0.out.trans (HB1.out.mono HB0.out.size))).mono ?_); rintro e w' ⟨rfl, rfl⟩) | (go_at_call 63; (with_reducible refine (HI.out _).mono ?_); rintro e w' ⟨rfl, rfl⟩))
          go_ret
          exact ⟨congrArg (fun z => Ending.returned (.bool z)) (by rw [HR.out]; first | done | rfl | (rw [HLen.out, HB.out]; rfl) | (rw [HLen.out]; rfl)), HB0.out⟩
        | true =>
          cases tr with
          | false =>
            go_enter Tryz.func16, Tryz.ntmps16
            go_wp2_with (first | (go_at_call 59; first | ((with_reducible refine (HTl.out _).mono ?_); rintro e w' ⟨rfl, rfl⟩) | ((with_reducible refine (HTr.out _).mono ?_); rintro e w' ⟨rfl, rfl⟩)) | (go_at_call 60; (with_reducible refine (HZ.out _).mono ?_); rintro e w1 ⟨rfl, hb1⟩; have HB1 := Lib.hid hb1; obtain ⟨c0, c1, c2, c3, c4, c5, c6, c7⟩ := (HBX.out.kept hb1).cells; clear hb1) | (go_at_call 61; (with_reducible refine (HV.out _ HB0.out).mono ?_); rintro e w1 ⟨rfl, hb1⟩; have HB1 := Lib.hid hb1; clear hb1) | (go_at_call 62; (with_reducible refine (HC.out _ (HB0.out.trans (HB1.out.mono HB0.out.size))).mono ?_); rintro e w' ⟨rfl, rfl⟩) | (go_at_call 63; (with_reducible refine (HI.out _).mono ?_); rintro e w' ⟨rfl, rfl⟩))
            go_ret
            exact ⟨congrArg (fun z => Ending.returned (.bool z)) (by rw [HR.out]; first | done | rfl | (rw [HLen.out, HB.out]; rfl) | (rw [HLen.out]; rfl)), HB0.out⟩
          | true =>
            cases z with
            | false =>
              go_enter Tryz.func16, Tryz.ntmps16
              go_wp2_with (first | (go_at_call 59; first | ((with_reducible refine (HTl.out _).mono ?_); rintro e w' ⟨rfl, rfl⟩) | ((with_reducible refine (HTr.out _).mono ?_); rintro e w' ⟨rfl, rfl⟩)) | (go_at_call 60; (with_reducible refine (HZ.out _).mono ?_); rintro e w1 ⟨rfl, hb1⟩; have HB1 := Lib.hid hb1; obtain ⟨c0, c1, c2, c3, c4, c5, c6, c7⟩ := (HBX.out.kept hb1).cells; clear hb1) | (go_at_call 61; (with_reducible refine (HV.out _ HB0.out).mono ?_); rintro e w1 ⟨rfl, hb1⟩; have HB1 := Lib.hid hb1; clear hb1) | (go_at_call 62; (with_reducible refine (HC.out _ (HB0.out.trans (HB1.out.mono HB0.out.size))).mono ?_); rintro e w' ⟨rfl, rfl⟩) | (go_at_call 63; (with_reducible refine (HI.out _).mono ?_); rintro e w' ⟨rfl, rfl⟩))
              go_ret
              exact ⟨congrArg (fun z => Ending.returned (.bool z)) (by rw [HR.out]; first | done | rfl | (rw [HLen.out, HB.out]; rfl) | (rw [HLen.out]; rfl)), HB0.out.trans (HB1.out.mono HB0.out.size)⟩
            | true =>
              go_enter Tryz.func16, Tryz.ntmps16
              go_wp2_with (first | (go_at_call 59; first | ((with_reducible refine (HTl.out _).mono ?_); rintro e w' ⟨rfl, rfl⟩) | ((with_reducible refine (HTr.out _).mono ?_); rintro e w' ⟨rfl, rfl⟩)) | (go_at_call 60; (with_reducible refine (HZ.out _).mono ?_); rintro e w1 ⟨rfl, hb1⟩; have HB1 := Lib.hid hb1; obtain ⟨c0, c1, c2, c3, c4, c5, c6, c7⟩ := (HBX.out.kept hb1).cells; clear hb1) | (go_at_call 61; (with_reducible refine (HV.out _ HB0.out).mono ?_); rintro e w1 ⟨rfl, hb1⟩; have HB1 := Lib.hid hb1; clear hb1) | (go_at_call 62; (with_reducible refine (HC.out _ (HB0.out.trans (HB1.out.mono HB0.out.size))).mono ?_); rintro e w' ⟨rfl, rfl⟩) | (go_at_call 63; (with_reducible refine (HI.out _).mono ?_); rintro e w' ⟨rfl, rfl⟩))
              go_ret
              exact ⟨congrArg (fun z => Ending.returned (.bool z)) (by rw [HR.out]; first | done | rfl | (rw [HLen.out, HB.out]; rfl) | (rw [HLen.out]; rfl)), HB0.out.trans (HB1.out.mono HB0.out.size)⟩
      · have kb : (b == 0) = false := by simp [qb]
        have HB := Lib.hid (show decide (b = 0) = false by simp [qb])
        clear qb
        cases tl with
        | false =>
          go_enter Tryz.func16, Tryz.ntmps16
          go_wp2_with (first | (go_at_call 59; first | ((with_reducible refine (HTl.out _).mono ?_); rintro e w' ⟨rfl, rfl⟩) | ((with_reducible refine (HTr.out _).mono ?_); rintro e w' ⟨rfl, rfl⟩)) | (go_at_call 60; (with_reducible refine (HZ.out _).mono ?_); rintro e w1 ⟨rfl, hb1⟩; have HB1 := Lib.hid hb1; obtain ⟨c0, c1, c2, c3, c4, c5, c6, c7⟩ := (HBX.out.kept hb1).cells; clear hb1) | (go_at_call 61; (with_reducible refine (HV.out _ HB0.out).mono ?_); rintro e w1 ⟨rfl, hb1⟩; have HB1 := Lib.hid hb1; clear hb1) | (go_at_call 62; (with_reducible refine (HC.out _ (HB0.out.trans (HB1.out.mono HB0.out.size))).mono ?_); rintro e w' ⟨rfl, rfl⟩) | (go_at_call 63; (with_reducible refine (HI.out _).mono ?_); rintro e w' ⟨rfl, rfl⟩))
          go_ret
          exact ⟨congrArg (fun z => Ending.returned (.bool z)) (by rw [HR.out]; first | done | rfl | (rw [HLen.out, HB.out]; rfl) | (rw [HLen.out]; rfl)), HB0.out⟩
        | true =>
          cases tr with
          | false =>
            go_enter Tryz.func16, Tryz.ntmps16
            go_wp2_with (first | (go_at_call 59; first | ((with_reducible refine (HTl.out _).mono ?_); rintro e w' ⟨rfl, rfl⟩) | ((with_reducible refine (HTr.out _).mono ?_); rintro e w' ⟨rfl, rfl⟩)) | (go_at_call 60; (with_reducible refine (HZ.out _).mono ?_); rintro e w1 ⟨rfl, hb1⟩; have HB1 := Lib.hid hb1; obtain ⟨c0, c1, c2, c3, c4, c5, c6, c7⟩ := (HBX.out.kept hb1).cells; clear hb1) | (go_at_call 61; (with_reducible refine (HV.out _ HB0.out).mono ?_); rintro e w1 ⟨rfl, hb1⟩; have HB1 := Lib.hid hb1; clear hb1) | (go_at_call 62; (with_reducible refine (HC.out _ (HB0.out.trans (HB1.out.mono HB0.out.size))).mono ?_); rintro e w' ⟨rfl, rfl⟩) | (go_at_call 63; (with_reducible refine (HI.out _).mono ?_); rintro e w' ⟨rfl, rfl⟩))
            go_ret
            exact ⟨congrArg (fun z => Ending.returned (.bool z)) (by rw [HR.out]; first | done | rfl | (rw [HLen.out, HB.out]; rfl) | (rw [HLen.out]; rfl)), HB0.out⟩
          | true =>
            cases z with
            | false =>
              go_enter Tryz.func16, Tryz.ntmps16
              go_wp2_with (first | (go_at_call 59; first | ((with_reducible refine (HTl.out _).mono ?_); rintro e w' ⟨rfl, rfl⟩) | ((with_reducible refine (HTr.out _).mono ?_); rintro e w' ⟨rfl, rfl⟩)) | (go_at_call 60; (with_reducible refine (HZ.out _).mono ?_); rintro e w1 ⟨rfl, hb1⟩; have HB1 := Lib.hid hb1; obtain ⟨c0, c1, c2, c3, c4, c5, c6, c7⟩ := (HBX.out.kept hb1).cells; clear hb1) | (go_at_call 61; (with_reducible refine (HV.out _ HB0.out).mono ?_); rintro e w1 ⟨rfl, hb1⟩; have HB1 := Lib.hid hb1; clear hb1) | (go_at_call 62; (with_reducible refine (HC.out _ (HB0.out.trans (HB1.out.mono HB0.out.size))).mono ?_); rintro e w' ⟨rfl, rfl⟩) | (go_at_call 63; (with_reducible refine (HI.out _).mono ?_); rintro e w' ⟨rfl, rfl⟩))
              go_ret
              exact ⟨congrArg (fun z => Ending.returned (.bool z)) (by rw [HR.out]; first | done | rfl | (rw [HLen.out, HB.out]; rfl) | (rw [HLen.out]; rfl)), HB0.out.trans (HB1.out.mono HB0.out.size)⟩
            | true =>
              go_enter Tryz.func16, Tryz.ntmps16
              go_wp2_with (first | (go_at_call 59; first | ((with_reducible refine (HTl.out _).mono ?_); rintro e w' ⟨rfl, rfl⟩) | ((with_reducible refine (HTr.out _).mono ?_); rintro e w' ⟨rfl, rfl⟩)) | (go_at_call 60; (with_reducible refine (HZ.out _).mono ?_); rintro e w1 ⟨rfl, hb1⟩; have HB1 := Lib.hid hb1; obtain ⟨c0, c1, c2, c3, c4, c5, c6, c7⟩ := (HBX.out.kept hb1).cells; clear hb1) | (go_at_call 61; (with_reducible refine (HV.out _ HB0.out).mono ?_); rintro e w1 ⟨rfl, hb1⟩; have HB1 := Lib.hid hb1; clear hb1) | (go_at_call 62; (with_reducible refine (HC.out _ (HB0.out.trans (HB1.out.mono HB0.out.size))).mono ?_); rintro e w' ⟨rfl, rfl⟩) | (go_at_call 63; (with_reducible refine (HI.out _).mono ?_); rintro e w' ⟨rfl, rfl⟩))
              go_ret
              exact ⟨congrArg (fun z => Ending.returned (.bool z)) (by rw [HR.out]; first | done | rfl | (rw [HLen.out, HB.out]; rfl) | (rw [HLen.out]; rfl)), HB0.out.trans (HB1.out.mono HB0.out.size)⟩
    · have kn : ((cs.length : Int) == 0) = false := by rw [beq_eq_false_iff_ne]; omega
      have HLen := Lib.hid (show decide (cs.length = 0) = false from decide_eq_false qn)
      have HB := Lib.hid (show True = True by rfl)
      clear qn
      cases tl with
      | false =>
        go_enter Tryz.func16, Tryz.ntmps16
        go_wp2_with (first | (go_at_call 59; first | ((with_reducible refine (HTl.out _).mono ?_); rintro e w' ⟨rfl, rfl⟩) | ((with_reducible refine (HTr.out _).mono ?_); rintro e w' ⟨rfl, rfl⟩)) | (go_at_call 60; (with_reducible refine (HZ.out _).mono ?_); rintro e w1 ⟨rfl, hb1⟩; have HB1 := Lib.hid hb1; obtain ⟨c0, c1, c2, c3, c4, c5, c6, c7⟩ := (HBX.out.kept hb1).cells; clear hb1) | (go_at_call 61; (with_reducible refine (HV.out _ HB0.out).mono ?_); rintro e w1 ⟨rfl, hb1⟩; have HB1 := Lib.hid hb1; clear hb1) | (go_at_call 62; (with_reducible refine (HC.out _ (HB0.out.trans (HB1.out.mono HB0.out.size))).mono ?_); rintro e w' ⟨rfl, rfl⟩) | (go_at_call 63; (with_reducible refine (HI.out _).mono ?_); rintro e w' ⟨rfl, rfl⟩))
        go_ret
        exact ⟨congrArg (fun z => Ending.returned (.bool z)) (by rw [HR.out]; first | done | rfl | (rw [HLen.out, HB.out]; rfl) | (rw [HLen.out]; rfl)), HB0.out⟩
      | true =>
        cases tr with
        | false =>
          go_enter Tryz.func16, Tryz.ntmps16
          go_wp2_with (first | (go_at_call 59; first | ((with_reducible refine (HTl.out _).mono ?_); rintro e w' ⟨rfl, rfl⟩) | ((with_reducible refine (HTr.out _).mono ?_); rintro e w' ⟨rfl, rfl⟩)) | (go_at_call 60; (with_reducible refine (HZ.out _).mono ?_); rintro e w1 ⟨rfl, hb1⟩; have HB1 := Lib.hid hb1; obtain ⟨c0, c1, c2, c3, c4, c5, c6, c7⟩ := (HBX.out.kept hb1).cells; clear hb1) | (go_at_call 61; (with_reducible refine (HV.out _ HB0.out).mono ?_); rintro e w1 ⟨rfl, hb1⟩; have HB1 := Lib.hid hb1; clear hb1) | (go_at_call 62; (with_reducible refine (HC.out _ (HB0.out.trans (HB1.out.mono HB0.out.size))).mono ?_); rintro e w' ⟨rfl, rfl⟩) | (go_at_call 63; (with_reducible refine (HI.out _).mono ?_); rintro e w' ⟨rfl, rfl⟩))
          go_ret
          exact ⟨congrArg (fun z => Ending.returned (.bool z)) (by rw [HR.out]; first | done | rfl | (rw [HLen.out, HB.out]; rfl) | (rw [HLen.out]; rfl)), HB0.out⟩
        | true =>
          cases z with
          | false =>
            go_enter Tryz.func16, Tryz.ntmps16
            go_wp2_with (first | (go_at_call 59; first | ((with_reducible refine (HTl.out _).mono ?_); rintro e w' ⟨rfl, rfl⟩) | ((with_reducible refine (HTr.out _).mono ?_); rintro e w' ⟨rfl, rfl⟩)) | (go_at_call 60; (with_reducible refine (HZ.out _).mono ?_); rintro e w1 ⟨rfl, hb1⟩; have HB1 := Lib.hid hb1; obtain ⟨c0, c1, c2, c3, c4, c5, c6, c7⟩ := (HBX.out.kept hb1).cells; clear hb1) | (go_at_call 61; (with_reducible refine (HV.out _ HB0.out).mono ?_); rintro e w1 ⟨rfl, hb1⟩; have HB1 := Lib.hid hb1; clear hb1) | (go_at_call 62; (with_reducible refine (HC.out _ (HB0.out.trans (HB1.out.mono HB0.out.size))).mono ?_); rintro e w' ⟨rfl, rfl⟩) | (go_at_call 63; (with_reducible refine (HI.out _).mono ?_); rintro e w' ⟨rfl, rfl⟩))
            go_ret
            exact ⟨congrArg (fun z => Ending.returned (.bool z)) (by rw [HR.out]; first | done | rfl | (rw [HLen.out, HB.out]; rfl) | (rw [HLen.out]; rfl)), HB0.out.trans (HB1.out.mono HB0.out.size)⟩
          | true =>
            go_enter Tryz.func16, Tryz.ntmps16
            go_wp2_with (first | (go_at_call 59; first | ((with_reducible refine (HTl.out _).mono ?_); rintro e w' ⟨rfl, rfl⟩) | ((with_reducible refine (HTr.out _).mono ?_); rintro e w' ⟨rfl, rfl⟩)) | (go_at_call 60; (with_reducible refine (HZ.out _).mono ?_); rintro e w1 ⟨rfl, hb1⟩; have HB1 := Lib.hid hb1; obtain ⟨c0, c1, c2, c3, c4, c5, c6, c7⟩ := (HBX.out.kept hb1).cells; clear hb1) | (go_at_call 61; (with_reducible refine (HV.out _ HB0.out).mono ?_); rintro e w1 ⟨rfl, hb1⟩; have HB1 := Lib.hid hb1; clear hb1) | (go_at_call 62; (with_reducible refine (HC.out _ (HB0.out.trans (HB1.out.mono HB0.out.size))).mono ?_); rintro e w' ⟨rfl, rfl⟩) | (go_at_call 63; (with_reducible refine (HI.out _).mono ?_); rintro e w' ⟨rfl, rfl⟩))
            go_ret
            exact ⟨congrArg (fun z => Ending.returned (.bool z)) (by rw [HR.out]; first | done | rfl | (rw [HLen.out, HB.out]; rfl) | (rw [HLen.out]; rfl)), HB0.out.trans (HB1.out.mono HB0.out.size)⟩
  · by_cases qn : cs.length = 0
    · have kn : ((cs.length : Int) == 0) = true := by simp [qn]
      have HLen := Lib.hid (show decide (cs.length = 0) = true from decide_eq_true qn)
      clear qn
      by_cases qb : b = 0
      · have kb : (b == 0) = true := by simp [qb]
        have HB := Lib.hid (show decide (b = 0) = true by simp [qb])
        clear qb
        cases tl with
        | false =>
          go_enter Tryz.func16, Tryz.ntmps16
          go_wp2_with (first | (go_at_call 59; first | ((with_reducible refine (HTl.out _).mono ?_); rintro e w' ⟨rfl, rfl⟩) | ((with_reducible refine (HTr.out _).mono ?_); rintro e w' ⟨rfl, rfl⟩)) | (go_at_call 60; (with_reducible refine (HZ.out _).mono ?_); rintro e w1 ⟨rfl, hb1⟩; have HB1 := Lib.hid hb1; obtain ⟨c0, c1, c2, c3, c4, c5, c6, c7⟩ := (HBX.out.kept hb1).cells; clear hb1) | (go_at_call 61; (with_reducible refine (HV.out _ HB0.out).mono ?_); rintro e w1 ⟨rfl, hb1⟩; have HB1 := Lib.hid hb1; clear hb1) | (go_at_call 62; (with_reducible refine (HC.out _ (HB0.out.trans (HB1.out.mono HB0.out.size))).mono ?_); rintro e w' ⟨rfl, rfl⟩) | (go_at_call 63; (with_reducible refine (HI.out _).mono ?_); rintro e w' ⟨rfl, rfl⟩))
          go_ret
          exact ⟨congrArg (fun z => Ending.returned (.bool z)) (by rw [HR.out]; first | done | rfl | (rw [HLen.out, HB.out]; rfl) | (rw [HLen.out]; rfl)), HB0.out⟩
        | true =>
          cases tr with
          | false =>
            go_enter Tryz.func16, Tryz.ntmps16
            go_wp2_with (first | (go_at_call 59; first | ((with_reducible refine (HTl.out _).mono ?_); rintro e w' ⟨rfl, rfl⟩) | ((with_reducible refine (HTr.out _).mono ?_); rintro e w' ⟨rfl, rfl⟩)) | (go_at_call 60; (with_reducible refine (HZ.out _).mono ?_); rintro e w1 ⟨rfl, hb1⟩; have HB1 := Lib.hid hb1; obtain ⟨c0, c1, c2, c3, c4, c5, c6, c7⟩ := (HBX.out.kept hb1).cells; clear hb1) | (go_at_call 61; (with_reducible refine (HV.out _ HB0.out).mono ?_); rintro e w1 ⟨rfl, hb1⟩; have HB1 := Lib.hid hb1; clear hb1) | (go_at_call 62; (with_reducible refine (HC.out _ (HB0.out.trans (HB1.out.mono HB0.out.size))).mono ?_); rintro e w' ⟨rfl, rfl⟩) | (go_at_call 63; (with_reducible refine (HI.out _).mono ?_); rintro e w' ⟨rfl, rfl⟩))
            go_ret
            exact ⟨congrArg (fun z => Ending.returned (.bool z)) (by rw [HR.out]; first | done | rfl | (rw [HLen.out, HB.out]; rfl) | (rw [HLen.out]; rfl)), HB0.out⟩
          | true =>
            cases z with
            | false =>
              go_enter Tryz.func16, Tryz.ntmps16
              go_wp2_with (first | (go_at_call 59; first | ((with_reducible refine (HTl.out _).mono ?_); rintro e w' ⟨rfl, rfl⟩) | ((with_reducible refine (HTr.out _).mono ?_); rintro e w' ⟨rfl, rfl⟩)) | (go_at_call 60; (with_reducible refine (HZ.out _).mono ?_); rintro e w1 ⟨rfl, hb1⟩; have HB1 := Lib.hid hb1; obtain ⟨c0, c1, c2, c3, c4, c5, c6, c7⟩ := (HBX.out.kept hb1).cells; clear hb1) | (go_at_call 61; (with_reducible refine (HV.out _ HB0.out).mono ?_); rintro e w1 ⟨rfl, hb1⟩; have HB1 := Lib.hid hb1; clear hb1) | (go_at_call 62; (with_reducible refine (HC.out _ (HB0.out.trans (HB1.out.mono HB0.out.size))).mono ?_); rintro e w' ⟨rfl, rfl⟩) | (go_at_call 63; (with_reducible refine (HI.out _).mono ?_); rintro e w' ⟨rfl, rfl⟩))
              go_ret
              exact ⟨congrArg (fun z => Ending.returned (.bool z)) (by rw [HR.out]; first | done | rfl | (rw [HLen.out, HB.out]; rfl) | (rw [HLen.out]; rfl)), HB0.out.trans (HB1.out.mono HB0.out.size)⟩
            | true =>
              go_enter Tryz.func16, Tryz.ntmps16
              go_wp2_with (first | (go_at_call 59; first | ((with_reducible refine (HTl.out _).mono ?_); rintro e w' ⟨rfl, rfl⟩) | ((with_reducible refine (HTr.out _).mono ?_); rintro e w' ⟨rfl, rfl⟩)) | (go_at_call 60; (with_reducible refine (HZ.out _).mono ?_); rintro e w1 ⟨rfl, hb1⟩; have HB1 := Lib.hid hb1; obtain ⟨c0, c1, c2, c3, c4, c5, c6, c7⟩ := (HBX.out.kept hb1).cells; clear hb1) | (go_at_call 61; (with_reducible refine (HV.out _ HB0.out).mono ?_); rintro e w1 ⟨rfl, hb1⟩; have HB1 := Lib.hid hb1; clear hb1) | (go_at_call 62; (with_reducible refine (HC.out _ (HB0.out.trans (HB1.out.mono HB0.out.size))).mono ?_); rintro e w' ⟨rfl, rfl⟩) | (go_at_call 63; (with_reducible refine (HI.out _).mono ?_); rintro e w' ⟨rfl, rfl⟩))
              go_ret
              exact ⟨congrArg (fun z => Ending.returned (.bool z)) (by rw [HR.out]; first | done | rfl | (rw [HLen.out, HB.out]; rfl) | (rw [HLen.out]; rfl)), HB0.out.trans (HB1.out.mono HB0.out.size)⟩
      · have kb : (b == 0) = false := by simp [qb]
        have HB := Lib.hid (show decide (b = 0) = false by simp [qb])
        clear qb
        cases tl with
        | false =>
          go_enter Tryz.func16, Tryz.ntmps16
          go_wp2_with (first | (go_at_call 59; first | ((with_reducible refine (HTl.out _).mono ?_); rintro e w' ⟨rfl, rfl⟩) | ((with_reducible refine (HTr.out _).mono ?_); rintro e w' ⟨rfl, rfl⟩)) | (go_at_call 60; (with_reducible refine (HZ.out _).mono ?_); rintro e w1 ⟨rfl, hb1⟩; have HB1 := Lib.hid hb1; obtain ⟨c0, c1, c2, c3, c4, c5, c6, c7⟩ := (HBX.out.kept hb1).cells; clear hb1) | (go_at_call 61; (with_reducible refine (HV.out _ HB0.out).mono ?_); rintro e w1 ⟨rfl, hb1⟩; have HB1 := Lib.hid hb1; clear hb1) | (go_at_call 62; (with_reducible refine (HC.out _ (HB0.out.trans (HB1.out.mono HB0.out.size))).mono ?_); rintro e w' ⟨rfl, rfl⟩) | (go_at_call 63; (with_reducible refine (HI.out _).mono ?_); rintro e w' ⟨rfl, rfl⟩))
          go_ret
          exact ⟨congrArg (fun z => Ending.returned (.bool z)) (by rw [HR.out]; first | done | rfl | (rw [HLen.out, HB.out]; rfl) | (rw [HLen.out]; rfl)), HB0.out⟩
        | true =>
          cases tr with
          | false =>
            go_enter Tryz.func16, Tryz.ntmps16
            go_wp2_with (first | (go_at_call 59; first | ((with_reducible refine (HTl.out _).mono ?_); rintro e w' ⟨rfl, rfl⟩) | ((with_reducible refine (HTr.out _).mono ?_); rintro e w' ⟨rfl, rfl⟩)) | (go_at_call 60; (with_reducible refine (HZ.out _).mono ?_); rintro e w1 ⟨rfl, hb1⟩; have HB1 := Lib.hid hb1; obtain ⟨c0, c1, c2, c3, c4, c5, c6, c7⟩ := (HBX.out.kept hb1).cells; clear hb1) | (go_at_call 61; (with_reducible refine (HV.out _ HB0.out).mono ?_); rintro e w1 ⟨rfl, hb1⟩; have HB1 := Lib.hid hb1; clear hb1) | (go_at_call 62; (with_reducible refine (HC.out _ (HB0.out.trans (HB1.out.mono HB0.out.size))).mono ?_); rintro e w' ⟨rfl, rfl⟩) | (go_at_call 63; (with_reducible refine (HI.out _).mono ?_); rintro e w' ⟨rfl, rfl⟩))
            go_ret
            exact ⟨congrArg (fun z => Ending.returned (.bool z)) (by rw [HR.out]; first | done | rfl | (rw [HLen.out, HB.out]; rfl) | (rw [HLen.out]; rfl)), HB0.out⟩
          | true =>
            cases z with
            | false =>
              go_enter Tryz.func16, Tryz.ntmps16
              go_wp2_with (first | (go_at_call 59; first | ((with_reducible refine (HTl.out _).mono ?_); rintro e w' ⟨rfl, rfl⟩) | ((with_reducible refine (HTr.out _).mono ?_); rintro e w' ⟨rfl, rfl⟩)) | (go_at_call 60; (with_reducible refine (HZ.out _).mono ?_); rintro e w1 ⟨rfl, hb1⟩; have HB1 := Lib.hid hb1; obtain ⟨c0, c1, c2, c3, c4, c5, c6, c7⟩ := (HBX.out.kept hb1).cells; clear hb1) | (go_at_call 61; (with_reducible refine (HV.out _ HB0.out).mono ?_); rintro e w1 ⟨rfl, hb1⟩; have HB1 := Lib.hid hb1; clear hb1) | (go_at_call 62; (with_reducible refine (HC.out _ (HB0.out.trans (HB1.out.mono HB0.out.size))).mono ?_); rintro e w' ⟨rfl, rfl⟩) | (go_at_call 63; (with_reducible refine (HI.out _).mono ?_); rintro e w' ⟨rfl, rfl⟩))
              go_ret
              exact ⟨congrArg (fun z => Ending.returned (.bool z)) (by rw [HR.out]; first | done | rfl | (rw [HLen.out, HB.out]; rfl) | (rw [HLen.out]; rfl)), HB0.out.trans (HB1.out.mono HB0.out.size)⟩
            | true =>
              go_enter Tryz.func16, Tryz.ntmps16
              go_wp2_with (first | (go_at_call 59; first | ((with_reducible refine (HTl.out _).mono ?_); rintro e w' ⟨rfl, rfl⟩) | ((with_reducible refine (HTr.out _).mono ?_); rintro e w' ⟨rfl, rfl⟩)) | (go_at_call 60; (with_reducible refine (HZ.out _).mono ?_); rintro e w1 ⟨rfl, hb1⟩; have HB1 := Lib.hid hb1; obtain ⟨c0, c1, c2, c3, c4, c5, c6, c7⟩ := (HBX.out.kept hb1).cells; clear hb1) | (go_at_call 61; (with_reducible refine (HV.out _ HB0.out).mono ?_); rintro e w1 ⟨rfl, hb1⟩; have HB1 := Lib.hid hb1; clear hb1) | (go_at_call 62; (with_reducible refine (HC.out _ (HB0.out.trans (HB1.out.mono HB0.out.size))).mono ?_); rintro e w' ⟨rfl, rfl⟩) | (go_at_call 63; (with_reducible refine (HI.out _).mono ?_); rintro e w' ⟨rfl, rfl⟩))
              go_ret
              exact ⟨congrArg (fun z => Ending.returned (.bool z)) (by rw [HR.out]; first | done | rfl | (rw [HLen.out, HB.out]; rfl) | (rw [HLen.out]; rfl)), HB0.out.trans (HB1.out.mono HB0.out.size)⟩
    · have kn : ((cs.length : Int) == 0) = false := by rw [beq_eq_false_iff_ne]; omega
      have HLen := Lib.hid (show decide (cs.length = 0) = false from decide_eq_false qn)
      have HB := Lib.hid (show True = True by rfl)
      clear qn
      cases tl with
      | false =>
        go_enter Tryz.func16, Tryz.ntmps16
        go_wp2_with (first | (go_at_call 59; first | ((with_reducible refine (HTl.out _).mono ?_); rintro e w' ⟨rfl, rfl⟩) | ((with_reducible refine (HTr.out _).mono ?_); rintro e w' ⟨rfl, rfl⟩)) | (go_at_call 60; (with_reducible refine (HZ.out _).mono ?_); rintro e w1 ⟨rfl, hb1⟩; have HB1 := Lib.hid hb1; obtain ⟨c0, c1, c2, c3, c4, c5, c6, c7⟩ := (HBX.out.kept hb1).cells; clear hb1) | (go_at_call 61; (with_reducible refine (HV.out _ HB0.out).mono ?_); rintro e w1 ⟨rfl, hb1⟩; have HB1 := Lib.hid hb1; clear hb1) | (go_at_call 62; (with_reducible refine (HC.out _ (HB0.out.trans (HB1.out.mono HB0.out.size))).mono ?_); rintro e w' ⟨rfl, rfl⟩) | (go_at_call 63; (with_reducible refine (HI.out _).mono ?_); rintro e w' ⟨rfl, rfl⟩))
        go_ret
        exact ⟨congrArg (fun z => Ending.returned (.bool z)) (by rw [HR.out]; first | done | rfl | (rw [HLen.out, HB.out]; rfl) | (rw [HLen.out]; rfl)), HB0.out⟩
      | true =>
        cases tr with
        | false =>
          go_enter Tryz.func16, Tryz.ntmps16
          go_wp2_with (first | (go_at_call 59; first | ((with_reducible refine (HTl.out _).mono ?_); rintro e w' ⟨rfl, rfl⟩) | ((with_reducible refine (HTr.out _).mono ?_); rintro e w' ⟨rfl, rfl⟩)) | (go_at_call 60; (with_reducible refine (HZ.out _).mono ?_); rintro e w1 ⟨rfl, hb1⟩; have HB1 := Lib.hid hb1; obtain ⟨c0, c1, c2, c3, c4, c5, c6, c7⟩ := (HBX.out.kept hb1).cells; clear hb1) | (go_at_call 61; (with_reducible refine (HV.out _ HB0.out).mono ?_); rintro e w1 ⟨rfl, hb1⟩; have HB1 := Lib.hid hb1; clear hb1) | (go_at_call 62; (with_reducible refine (HC.out _ (HB0.out.trans (HB1.out.mono HB0.out.size))).mono ?_); rintro e w' ⟨rfl, rfl⟩) | (go_at_call 63; (with_reducible refine (HI.out _).mono ?_); rintro e w' ⟨rfl, rfl⟩))
          go_ret
          exact ⟨congrArg (fun z => Ending.returned (.bool z)) (by rw [HR.out]; first | done | rfl | (rw [HLen.out, HB.out]; rfl) | (rw [HLen.out]; rfl)), HB0.out⟩
        | true =>
          cases z with
          | false =>
            go_enter Tryz.func16, Tryz.ntmps16
            go_wp2_with (first | (go_at_call 59; first | ((with_reducible refine (HTl.out _).mono ?_); rintro e w' ⟨rfl, rfl⟩) | ((with_reducible refine (HTr.out _).mono ?_); rintro e w' ⟨rfl, rfl⟩)) | (go_at_call 60; (with_reducible refine (HZ.out _).mono ?_); rintro e w1 ⟨rfl, hb1⟩; have HB1 := Lib.hid hb1; obtain ⟨c0, c1, c2, c3, c4, c5, c6, c7⟩ := (HBX.out.kept hb1).cells; clear hb1) | (go_at_call 61; (with_reducible refine (HV.out _ HB0.out).mono ?_); rintro e w1 ⟨rfl, hb1⟩; have HB1 := Lib.hid hb1; clear hb1) | (go_at_call 62; (with_reducible refine (HC.out _ (HB0.out.trans (HB1.out.mono HB0.out.size))).mono ?_); rintro e w' ⟨rfl, rfl⟩) | (go_at_call 63; (with_reducible refine (HI.out _).mono ?_); rintro e w' ⟨rfl, rfl⟩))
            go_ret
            exact ⟨congrArg (fun z => Ending.returned (.bool z)) (by rw [HR.out]; first | done | rfl | (rw [HLen.out, HB.out]; rfl) | (rw [HLen.out]; rfl)), HB0.out.trans (HB1.out.mono HB0.out.size)⟩
          | true =>
            go_enter Tryz.func16, Tryz.ntmps16
            go_wp2_with (first | (go_at_call 59; first | ((with_reducible refine (HTl.out _).mono ?_); rintro e w' ⟨rfl, rfl⟩) | ((with_reducible refine (HTr.out _).mono ?_); rintro e w' ⟨rfl, rfl⟩)) | (go_at_call 60; (with_reducible refine (HZ.out _).mono ?_); rintro e w1 ⟨rfl, hb1⟩; have HB1 := Lib.hid hb1; obtain ⟨c0, c1, c2, c3, c4, c5, c6, c7⟩ := (HBX.out.kept hb1).cells; clear hb1) | (go_at_call 61; (with_reducible refine (HV.out _ HB0.out).mono ?_); rintro e w1 ⟨rfl, hb1⟩; have HB1 := Lib.hid hb1; clear hb1) | (go_at_call 62; (with_reducible refine (HC.out _ (HB0.out.trans (HB1.out.mono HB0.out.size))).mono ?_); rintro e w' ⟨rfl, rfl⟩) | (go_at_call 63; (with_reducible refine (HI.out _).mono ?_); rintro e w' ⟨rfl, rfl⟩))
            go_ret
            exact ⟨congrArg (fun z => Ending.returned (.bool z)) (by rw [HR.out]; first | done | rfl | (rw [HLen.out, HB.out]; rfl) | (rw [HLen.out]; rfl)), HB0.out.trans (HB1.out.mono HB0.out.size)⟩

set_option maxRecDepth 100000 in
set_option maxHeartbeats 12800000 in
theorem specVC_34 (c : Cx) (xu vc : Value) (w : World) (h : CnO w xu vc c) (hsz : c.xa.size ≤ 2097152) (hk : c.k = 3 ∨ c.k = 4) :
    Calls Tryz.prog 16 #[.agg #[.int .i64 c.k, .string c.l, .string c.r, .int .i64 c.xk, .string c.xl, xu, vc, .int .i64 c.b]] w fun e w' => e = .returned (.bool (validX c)) ∧ Below w.heap.size w w' := by
  obtain ⟨A, m, B, r, rfl, rfl⟩ := h.shape
  have HR : Hid (validX c = (isT c.l.data.toList && decide (c.r.size = 0) && validRx c.xk c.xl c.xa && (decide (c.cs.length = 0) && decide (c.b = 0)))) := Lib.hid (by
    show validC c.cn = _
    unfold validC
    rw [if_neg (show ¬ (c.cn.k = 1 ∨ c.cn.k = 2) by show ¬ (c.k = 1 ∨ c.k = 2); omega), if_pos (show c.cn.k = 3 ∨ c.cn.k = 4 from hk)]
    all_goals rfl)
  obtain ⟨⟨hl, hr, hx⟩, ⟨n, hS⟩, hRow⟩ := h.read
  obtain ⟨k, l, rr, xk, xl, xa, cs, b⟩ := c
  simp only at hl hr hx hS hRow HR hsz hk ⊢
  unfold maxI at hl hr hx
  have hcl := hRow.1
  rw [ints_length] at hcl
  have HTl := Lib.hid (fun w => specIsT_any l w (by unfold maxLen; omega))
  have HTr := Lib.hid (fun w => specIsT_any rr w (by unfold maxLen; omega))
  have HZ := Lib.hid (fun w => specZero_any xk xl A xa.items.length m w (SlP.len hS))
  have HV := Lib.hid (fun wr (hb : Below w.heap.size w wr) => specValid_any n w.heap.size xk xl _ xa wr (hS.mono hb (Nat.le_refl _)) hb.size hsz hx)
  have HC := Lib.hid (fun wr (hb : Below w.heap.size w wr) => specCoeffs_any _ cs _ wr (hRow.row.kept hb))
  have HI := Lib.hid (fun wr => l1In_all b (-99) 99 (inR (-99) 99 b) wr rfl)
  have HB0 := Lib.hid ((Below.refl w.heap.size w).alloc (Nat.le_refl _) (.cells #[.int .i64 k, .string l, .string rr, .int .i64 xk, .string xl, .slice A xa.items.length m, .slice B cs.length r, .int .i64 b] 29))
  have HBX := Lib.hid (boxC_new w ⟨k, l, rr, xk, xl, xa, cs, b⟩ (.slice A xa.items.length m) (.slice B cs.length r) 29)
  obtain ⟨tl, htl⟩ : ∃ tl, tl = isT l.data.toList := ⟨_, rfl⟩
  rw [← htl] at HR
  rw [← htl] at HTl
  clear htl
  obtain ⟨v, hv⟩ : ∃ v, v = validRx xk xl xa := ⟨_, rfl⟩
  rw [← hv] at HR
  rw [← hv] at HV
  clear hv
  clear hS hRow hl hr hx hsz
  rcases hk with rfl | rfl
  · by_cases qn : cs.length = 0
    · have kn : ((cs.length : Int) == 0) = true := by simp [qn]
      have HLen := Lib.hid (show decide (cs.length = 0) = true from decide_eq_true qn)
      clear qn
      by_cases qb : b = 0
      · have kb : (b == 0) = true := by simp [qb]
        have HB := Lib.hid (show decide (b = 0) = true by simp [qb])
        clear qb
        cases tl with
        | false =>
          go_enter Tryz.func16, Tryz.ntmps16
          go_wp2_with (first | (go_at_call 59; first | ((with_reducible refine (HTl.out _).mono ?_); rintro e w' ⟨rfl, rfl⟩) | ((with_reducible refine (HTr.out _).mono ?_); rintro e w' ⟨rfl, rfl⟩)) | (go_at_call 60; (with_reducible refine (HZ.out _).mono ?_); rintro e w1 ⟨rfl, hb1⟩; have HB1 := Lib.hid hb1; obtain ⟨c0, c1, c2, c3, c4, c5, c6, c7⟩ := (HBX.out.kept hb1).cells; clear hb1) | (go_at_call 61; (with_reducible refine (HV.out _ HB0.out).mono ?_); rintro e w1 ⟨rfl, hb1⟩; have HB1 := Lib.hid hb1; clear hb1) | (go_at_call 62; (with_reducible refine (HC.out _ (HB0.out.trans (HB1.out.mono HB0.out.size))).mono ?_); rintro e w' ⟨rfl, rfl⟩) | (go_at_call 63; (with_reducible refine (HI.out _).mono ?_); rintro e w' ⟨rfl, rfl⟩))
          go_ret
          exact ⟨congrArg (fun z => Ending.returned (.bool z)) (by rw [HR.out]; first | done | rfl | (rw [HLen.out, HB.out]; rfl) | (rw [HLen.out]; rfl)), HB0.out⟩
        | true =>
          by_cases qrr : rr.size = 0
          · have krr := bytes_nil qrr
            have HXrr := Lib.hid qrr
            rw [show decide (rr.size = 0) = true by simp [qrr]] at HR
            clear qrr
            cases v with
            | false =>
              go_enter Tryz.func16, Tryz.ntmps16
              go_wp2_with (first | (go_at_call 59; first | ((with_reducible refine (HTl.out _).mono ?_); rintro e w' ⟨rfl, rfl⟩) | ((with_reducible refine (HTr.out _).mono ?_); rintro e w' ⟨rfl, rfl⟩)) | (go_at_call 60; (with_reducible refine (HZ.out _).mono ?_); rintro e w1 ⟨rfl, hb1⟩; have HB1 := Lib.hid hb1; obtain ⟨c0, c1, c2, c3, c4, c5, c6, c7⟩ := (HBX.out.kept hb1).cells; clear hb1) | (go_at_call 61; (with_reducible refine (HV.out _ HB0.out).mono ?_); rintro e w1 ⟨rfl, hb1⟩; have HB1 := Lib.hid hb1; clear hb1) | (go_at_call 62; (with_reducible refine (HC.out _ (HB0.out.trans (HB1.out.mono HB0.out.size))).mono ?_); rintro e w' ⟨rfl, rfl⟩) | (go_at_call 63; (with_reducible refine (HI.out _).mono ?_); rintro e w' ⟨rfl, rfl⟩))
              go_ret
              exact ⟨congrArg (fun z => Ending.returned (.bool z)) (by rw [HR.out]; first | done | rfl | (rw [HLen.out, HB.out]; rfl) | (rw [HLen.out]; rfl)), HB0.out.trans (HB1.out.mono HB0.out.size)⟩
            | true =>
              go_enter Tryz.func16, Tryz.ntmps16
              go_wp2_with (first | (go_at_call 59; first | ((with_reducible refine (HTl.out _).mono ?_); rintro e w' ⟨rfl, rfl⟩) | ((with_reducible refine (HTr.out _).mono ?_); rintro e w' ⟨rfl, rfl⟩)) | (go_at_call 60; (with_reducible refine (HZ.out _).mono ?_); rintro e w1 ⟨rfl, hb1⟩; have HB1 := Lib.hid hb1; obtain ⟨c0, c1, c2, c3, c4, c5, c6, c7⟩ := (HBX.out.kept hb1).cells; clear hb1) | (go_at_call 61; (with_reducible refine (HV.out _ HB0.out).mono ?_); rintro e w1 ⟨rfl, hb1⟩; have HB1 := Lib.hid hb1; clear hb1) | (go_at_call 62; (with_reducible refine (HC.out _ (HB0.out.trans (HB1.out.mono HB0.out.size))).mono ?_); rintro e w' ⟨rfl, rfl⟩) | (go_at_call 63; (with_reducible refine (HI.out _).mono ?_); rintro e w' ⟨rfl, rfl⟩))
              go_ret
              exact ⟨congrArg (fun z => Ending.returned (.bool z)) (by rw [HR.out]; first | done | rfl | (rw [HLen.out, HB.out]; rfl) | (rw [HLen.out]; rfl)), HB0.out.trans (HB1.out.mono HB0.out.size)⟩
          · have krr := bytes_some qrr
            rw [show decide (rr.size = 0) = false by simp [qrr]] at HR
            clear qrr
            go_enter Tryz.func16, Tryz.ntmps16
            go_wp2_with (first | (go_at_call 59; first | ((with_reducible refine (HTl.out _).mono ?_); rintro e w' ⟨rfl, rfl⟩) | ((with_reducible refine (HTr.out _).mono ?_); rintro e w' ⟨rfl, rfl⟩)) | (go_at_call 60; (with_reducible refine (HZ.out _).mono ?_); rintro e w1 ⟨rfl, hb1⟩; have HB1 := Lib.hid hb1; obtain ⟨c0, c1, c2, c3, c4, c5, c6, c7⟩ := (HBX.out.kept hb1).cells; clear hb1) | (go_at_call 61; (with_reducible refine (HV.out _ HB0.out).mono ?_); rintro e w1 ⟨rfl, hb1⟩; have HB1 := Lib.hid hb1; clear hb1) | (go_at_call 62; (with_reducible refine (HC.out _ (HB0.out.trans (HB1.out.mono HB0.out.size))).mono ?_); rintro e w' ⟨rfl, rfl⟩) | (go_at_call 63; (with_reducible refine (HI.out _).mono ?_); rintro e w' ⟨rfl, rfl⟩))
            go_ret
            exact ⟨congrArg (fun z => Ending.returned (.bool z)) (by rw [HR.out]; first | done | rfl | (rw [HLen.out, HB.out]; rfl) | (rw [HLen.out]; rfl)), HB0.out⟩
      · have kb : (b == 0) = false := by simp [qb]
        have HB := Lib.hid (show decide (b = 0) = false by simp [qb])
        clear qb
        cases tl with
        | false =>
          go_enter Tryz.func16, Tryz.ntmps16
          go_wp2_with (first | (go_at_call 59; first | ((with_reducible refine (HTl.out _).mono ?_); rintro e w' ⟨rfl, rfl⟩) | ((with_reducible refine (HTr.out _).mono ?_); rintro e w' ⟨rfl, rfl⟩)) | (go_at_call 60; (with_reducible refine (HZ.out _).mono ?_); rintro e w1 ⟨rfl, hb1⟩; have HB1 := Lib.hid hb1; obtain ⟨c0, c1, c2, c3, c4, c5, c6, c7⟩ := (HBX.out.kept hb1).cells; clear hb1) | (go_at_call 61; (with_reducible refine (HV.out _ HB0.out).mono ?_); rintro e w1 ⟨rfl, hb1⟩; have HB1 := Lib.hid hb1; clear hb1) | (go_at_call 62; (with_reducible refine (HC.out _ (HB0.out.trans (HB1.out.mono HB0.out.size))).mono ?_); rintro e w' ⟨rfl, rfl⟩) | (go_at_call 63; (with_reducible refine (HI.out _).mono ?_); rintro e w' ⟨rfl, rfl⟩))
          go_ret
          exact ⟨congrArg (fun z => Ending.returned (.bool z)) (by rw [HR.out]; first | done | rfl | (rw [HLen.out, HB.out]; rfl) | (rw [HLen.out]; rfl)), HB0.out⟩
        | true =>
          by_cases qrr : rr.size = 0
          · have krr := bytes_nil qrr
            have HXrr := Lib.hid qrr
            rw [show decide (rr.size = 0) = true by simp [qrr]] at HR
            clear qrr
            cases v with
            | false =>
              go_enter Tryz.func16, Tryz.ntmps16
              go_wp2_with (first | (go_at_call 59; first | ((with_reducible refine (HTl.out _).mono ?_); rintro e w' ⟨rfl, rfl⟩) | ((with_reducible refine (HTr.out _).mono ?_); rintro e w' ⟨rfl, rfl⟩)) | (go_at_call 60; (with_reducible refine (HZ.out _).mono ?_); rintro e w1 ⟨rfl, hb1⟩; have HB1 := Lib.hid hb1; obtain ⟨c0, c1, c2, c3, c4, c5, c6, c7⟩ := (HBX.out.kept hb1).cells; clear hb1) | (go_at_call 61; (with_reducible refine (HV.out _ HB0.out).mono ?_); rintro e w1 ⟨rfl, hb1⟩; have HB1 := Lib.hid hb1; clear hb1) | (go_at_call 62; (with_reducible refine (HC.out _ (HB0.out.trans (HB1.out.mono HB0.out.size))).mono ?_); rintro e w' ⟨rfl, rfl⟩) | (go_at_call 63; (with_reducible refine (HI.out _).mono ?_); rintro e w' ⟨rfl, rfl⟩))
              go_ret
              exact ⟨congrArg (fun z => Ending.returned (.bool z)) (by rw [HR.out]; first | done | rfl | (rw [HLen.out, HB.out]; rfl) | (rw [HLen.out]; rfl)), HB0.out.trans (HB1.out.mono HB0.out.size)⟩
            | true =>
              go_enter Tryz.func16, Tryz.ntmps16
              go_wp2_with (first | (go_at_call 59; first | ((with_reducible refine (HTl.out _).mono ?_); rintro e w' ⟨rfl, rfl⟩) | ((with_reducible refine (HTr.out _).mono ?_); rintro e w' ⟨rfl, rfl⟩)) | (go_at_call 60; (with_reducible refine (HZ.out _).mono ?_); rintro e w1 ⟨rfl, hb1⟩; have HB1 := Lib.hid hb1; obtain ⟨c0, c1, c2, c3, c4, c5, c6, c7⟩ := (HBX.out.kept hb1).cells; clear hb1) | (go_at_call 61; (with_reducible refine (HV.out _ HB0.out).mono ?_); rintro e w1 ⟨rfl, hb1⟩; have HB1 := Lib.hid hb1; clear hb1) | (go_at_call 62; (with_reducible refine (HC.out _ (HB0.out.trans (HB1.out.mono HB0.out.size))).mono ?_); rintro e w' ⟨rfl, rfl⟩) | (go_at_call 63; (with_reducible refine (HI.out _).mono ?_); rintro e w' ⟨rfl, rfl⟩))
              go_ret
              exact ⟨congrArg (fun z => Ending.returned (.bool z)) (by rw [HR.out]; first | done | rfl | (rw [HLen.out, HB.out]; rfl) | (rw [HLen.out]; rfl)), HB0.out.trans (HB1.out.mono HB0.out.size)⟩
          · have krr := bytes_some qrr
            rw [show decide (rr.size = 0) = false by simp [qrr]] at HR
            clear qrr
            go_enter Tryz.func16, Tryz.ntmps16
            go_wp2_with (first | (go_at_call 59; first | ((with_reducible refine (HTl.out _).mono ?_); rintro e w' ⟨rfl, rfl⟩) | ((with_reducible refine (HTr.out _).mono ?_); rintro e w' ⟨rfl, rfl⟩)) | (go_at_call 60; (with_reducible refine (HZ.out _).mono ?_); rintro e w1 ⟨rfl, hb1⟩; have HB1 := Lib.hid hb1; obtain ⟨c0, c1, c2, c3, c4, c5, c6, c7⟩ := (HBX.out.kept hb1).cells; clear hb1) | (go_at_call 61; (with_reducible refine (HV.out _ HB0.out).mono ?_); rintro e w1 ⟨rfl, hb1⟩; have HB1 := Lib.hid hb1; clear hb1) | (go_at_call 62; (with_reducible refine (HC.out _ (HB0.out.trans (HB1.out.mono HB0.out.size))).mono ?_); rintro e w' ⟨rfl, rfl⟩) | (go_at_call 63; (with_reducible refine (HI.out _).mono ?_); rintro e w' ⟨rfl, rfl⟩))
            go_ret
            exact ⟨congrArg (fun z => Ending.returned (.bool z)) (by rw [HR.out]; first | done | rfl | (rw [HLen.out, HB.out]; rfl) | (rw [HLen.out]; rfl)), HB0.out⟩
    · have kn : ((cs.length : Int) == 0) = false := by rw [beq_eq_false_iff_ne]; omega
      have HLen := Lib.hid (show decide (cs.length = 0) = false from decide_eq_false qn)
      have HB := Lib.hid (show True = True by rfl)
      clear qn
      cases tl with
      | false =>
        go_enter Tryz.func16, Tryz.ntmps16
        go_wp2_with (first | (go_at_call 59; first | ((with_reducible refine (HTl.out _).mono ?_); rintro e w' ⟨rfl, rfl⟩) | ((with_reducible refine (HTr.out _).mono ?_); rintro e w' ⟨rfl, rfl⟩)) | (go_at_call 60; (with_reducible refine (HZ.out _).mono ?_); rintro e w1 ⟨rfl, hb1⟩; have HB1 := Lib.hid hb1; obtain ⟨c0, c1, c2, c3, c4, c5, c6, c7⟩ := (HBX.out.kept hb1).cells; clear hb1) | (go_at_call 61; (with_reducible refine (HV.out _ HB0.out).mono ?_); rintro e w1 ⟨rfl, hb1⟩; have HB1 := Lib.hid hb1; clear hb1) | (go_at_call 62; (with_reducible refine (HC.out _ (HB0.out.trans (HB1.out.mono HB0.out.size))).mono ?_); rintro e w' ⟨rfl, rfl⟩) | (go_at_call 63; (with_reducible refine (HI.out _).mono ?_); rintro e w' ⟨rfl, rfl⟩))
        go_ret
        exact ⟨congrArg (fun z => Ending.returned (.bool z)) (by rw [HR.out]; first | done | rfl | (rw [HLen.out, HB.out]; rfl) | (rw [HLen.out]; rfl)), HB0.out⟩
      | true =>
        by_cases qrr : rr.size = 0
        · have krr := bytes_nil qrr
          have HXrr := Lib.hid qrr
          rw [show decide (rr.size = 0) = true by simp [qrr]] at HR
          clear qrr
          cases v with
          | false =>
            go_enter Tryz.func16, Tryz.ntmps16
            go_wp2_with (first | (go_at_call 59; first | ((with_reducible refine (HTl.out _).mono ?_); rintro e w' ⟨rfl, rfl⟩) | ((with_reducible refine (HTr.out _).mono ?_); rintro e w' ⟨rfl, rfl⟩)) | (go_at_call 60; (with_reducible refine (HZ.out _).mono ?_); rintro e w1 ⟨rfl, hb1⟩; have HB1 := Lib.hid hb1; obtain ⟨c0, c1, c2, c3, c4, c5, c6, c7⟩ := (HBX.out.kept hb1).cells; clear hb1) | (go_at_call 61; (with_reducible refine (HV.out _ HB0.out).mono ?_); rintro e w1 ⟨rfl, hb1⟩; have HB1 := Lib.hid hb1; clear hb1) | (go_at_call 62; (with_reducible refine (HC.out _ (HB0.out.trans (HB1.out.mono HB0.out.size))).mono ?_); rintro e w' ⟨rfl, rfl⟩) | (go_at_call 63; (with_reducible refine (HI.out _).mono ?_); rintro e w' ⟨rfl, rfl⟩))
            go_ret
            exact ⟨congrArg (fun z => Ending.returned (.bool z)) (by rw [HR.out]; first | done | rfl | (rw [HLen.out, HB.out]; rfl) | (rw [HLen.out]; rfl)), HB0.out.trans (HB1.out.mono HB0.out.size)⟩
          | true =>
            go_enter Tryz.func16, Tryz.ntmps16
            go_wp2_with (first | (go_at_call 59; first | ((with_reducible refine (HTl.out _).mono ?_); rintro e w' ⟨rfl, rfl⟩) | ((with_reducible refine (HTr.out _).mono ?_); rintro e w' ⟨rfl, rfl⟩)) | (go_at_call 60; (with_reducible refine (HZ.out _).mono ?_); rintro e w1 ⟨rfl, hb1⟩; have HB1 := Lib.hid hb1; obtain ⟨c0, c1, c2, c3, c4, c5, c6, c7⟩ := (HBX.out.kept hb1).cells; clear hb1) | (go_at_call 61; (with_reducible refine (HV.out _ HB0.out).mono ?_); rintro e w1 ⟨rfl, hb1⟩; have HB1 := Lib.hid hb1; clear hb1) | (go_at_call 62; (with_reducible refine (HC.out _ (HB0.out.trans (HB1.out.mono HB0.out.size))).mono ?_); rintro e w' ⟨rfl, rfl⟩) | (go_at_call 63; (with_reducible refine (HI.out _).mono ?_); rintro e w' ⟨rfl, rfl⟩))
            go_ret
            exact ⟨congrArg (fun z => Ending.returned (.bool z)) (by rw [HR.out]; first | done | rfl | (rw [HLen.out, HB.out]; rfl) | (rw [HLen.out]; rfl)), HB0.out.trans (HB1.out.mono HB0.out.size)⟩
        · have krr := bytes_some qrr
          rw [show decide (rr.size = 0) = false by simp [qrr]] at HR
          clear qrr
          go_enter Tryz.func16, Tryz.ntmps16
          go_wp2_with (first | (go_at_call 59; first | ((with_reducible refine (HTl.out _).mono ?_); rintro e w' ⟨rfl, rfl⟩) | ((with_reducible refine (HTr.out _).mono ?_); rintro e w' ⟨rfl, rfl⟩)) | (go_at_call 60; (with_reducible refine (HZ.out _).mono ?_); rintro e w1 ⟨rfl, hb1⟩; have HB1 := Lib.hid hb1; obtain ⟨c0, c1, c2, c3, c4, c5, c6, c7⟩ := (HBX.out.kept hb1).cells; clear hb1) | (go_at_call 61; (with_reducible refine (HV.out _ HB0.out).mono ?_); rintro e w1 ⟨rfl, hb1⟩; have HB1 := Lib.hid hb1; clear hb1) | (go_at_call 62; (with_reducible refine (HC.out _ (HB0.out.trans (HB1.out.mono HB0.out.size))).mono ?_); rintro e w' ⟨rfl, rfl⟩) | (go_at_call 63; (with_reducible refine (HI.out _).mono ?_); rintro e w' ⟨rfl, rfl⟩))
          go_ret
          exact ⟨congrArg (fun z => Ending.returned (.bool z)) (by rw [HR.out]; first | done | rfl | (rw [HLen.out, HB.out]; rfl) | (rw [HLen.out]; rfl)), HB0.out⟩
  · by_cases qn : cs.length = 0
    · have kn : ((cs.length : Int) == 0) = true := by simp [qn]
      have HLen := Lib.hid (show decide (cs.length = 0) = true from decide_eq_true qn)
      clear qn
      by_cases qb : b = 0
      · have kb : (b == 0) = true := by simp [qb]
        have HB := Lib.hid (show decide (b = 0) = true by simp [qb])
        clear qb
        cases tl with
        | false =>
          go_enter Tryz.func16, Tryz.ntmps16
          go_wp2_with (first | (go_at_call 59; first | ((with_reducible refine (HTl.out _).mono ?_); rintro e w' ⟨rfl, rfl⟩) | ((with_reducible refine (HTr.out _).mono ?_); rintro e w' ⟨rfl, rfl⟩)) | (go_at_call 60; (with_reducible refine (HZ.out _).mono ?_); rintro e w1 ⟨rfl, hb1⟩; have HB1 := Lib.hid hb1; obtain ⟨c0, c1, c2, c3, c4, c5, c6, c7⟩ := (HBX.out.kept hb1).cells; clear hb1) | (go_at_call 61; (with_reducible refine (HV.out _ HB0.out).mono ?_); rintro e w1 ⟨rfl, hb1⟩; have HB1 := Lib.hid hb1; clear hb1) | (go_at_call 62; (with_reducible refine (HC.out _ (HB0.out.trans (HB1.out.mono HB0.out.size))).mono ?_); rintro e w' ⟨rfl, rfl⟩) | (go_at_call 63; (with_reducible refine (HI.out _).mono ?_); rintro e w' ⟨rfl, rfl⟩))
          go_ret
          exact ⟨congrArg (fun z => Ending.returned (.bool z)) (by rw [HR.out]; first | done | rfl | (rw [HLen.out, HB.out]; rfl) | (rw [HLen.out]; rfl)), HB0.out⟩
        | true =>
          by_cases qrr : rr.size = 0
          · have krr := bytes_nil qrr
            have HXrr := Lib.hid qrr
            rw [show decide (rr.size = 0) = true by simp [qrr]] at HR
            clear qrr
            cases v with
            | false =>
              go_enter Tryz.func16, Tryz.ntmps16
              go_wp2_with (first | (go_at_call 59; first | ((with_reducible refine (HTl.out _).mono ?_); rintro e w' ⟨rfl, rfl⟩) | ((with_reducible refine (HTr.out _).mono ?_); rintro e w' ⟨rfl, rfl⟩)) | (go_at_call 60; (with_reducible refine (HZ.out _).mono ?_); rintro e w1 ⟨rfl, hb1⟩; have HB1 := Lib.hid hb1; obtain ⟨c0, c1, c2, c3, c4, c5, c6, c7⟩ := (HBX.out.kept hb1).cells; clear hb1) | (go_at_call 61; (with_reducible refine (HV.out _ HB0.out).mono ?_); rintro e w1 ⟨rfl, hb1⟩; have HB1 := Lib.hid hb1; clear hb1) | (go_at_call 62; (with_reducible refine (HC.out _ (HB0.out.trans (HB1.out.mono HB0.out.size))).mono ?_); rintro e w' ⟨rfl, rfl⟩) | (go_at_call 63; (with_reducible refine (HI.out _).mono ?_); rintro e w' ⟨rfl, rfl⟩))
              go_ret
              exact ⟨congrArg (fun z => Ending.returned (.bool z)) (by rw [HR.out]; first | done | rfl | (rw [HLen.out, HB.out]; rfl) | (rw [HLen.out]; rfl)), HB0.out.trans (HB1.out.mono HB0.out.size)⟩
            | true =>
              go_enter Tryz.func16, Tryz.ntmps16
              go_wp2_with (first | (go_at_call 59; first | ((with_reducible refine (HTl.out _).mono ?_); rintro e w' ⟨rfl, rfl⟩) | ((with_reducible refine (HTr.out _).mono ?_); rintro e w' ⟨rfl, rfl⟩)) | (go_at_call 60; (with_reducible refine (HZ.out _).mono ?_); rintro e w1 ⟨rfl, hb1⟩; have HB1 := Lib.hid hb1; obtain ⟨c0, c1, c2, c3, c4, c5, c6, c7⟩ := (HBX.out.kept hb1).cells; clear hb1) | (go_at_call 61; (with_reducible refine (HV.out _ HB0.out).mono ?_); rintro e w1 ⟨rfl, hb1⟩; have HB1 := Lib.hid hb1; clear hb1) | (go_at_call 62; (with_reducible refine (HC.out _ (HB0.out.trans (HB1.out.mono HB0.out.size))).mono ?_); rintro e w' ⟨rfl, rfl⟩) | (go_at_call 63; (with_reducible refine (HI.out _).mono ?_); rintro e w' ⟨rfl, rfl⟩))
              go_ret
              exact ⟨congrArg (fun z => Ending.returned (.bool z)) (by rw [HR.out]; first | done | rfl | (rw [HLen.out, HB.out]; rfl) | (rw [HLen.out]; rfl)), HB0.out.trans (HB1.out.mono HB0.out.size)⟩
          · have krr := bytes_some qrr
            rw [show decide (rr.size = 0) = false by simp [qrr]] at HR
            clear qrr
            go_enter Tryz.func16, Tryz.ntmps16
            go_wp2_with (first | (go_at_call 59; first | ((with_reducible refine (HTl.out _).mono ?_); rintro e w' ⟨rfl, rfl⟩) | ((with_reducible refine (HTr.out _).mono ?_); rintro e w' ⟨rfl, rfl⟩)) | (go_at_call 60; (with_reducible refine (HZ.out _).mono ?_); rintro e w1 ⟨rfl, hb1⟩; have HB1 := Lib.hid hb1; obtain ⟨c0, c1, c2, c3, c4, c5, c6, c7⟩ := (HBX.out.kept hb1).cells; clear hb1) | (go_at_call 61; (with_reducible refine (HV.out _ HB0.out).mono ?_); rintro e w1 ⟨rfl, hb1⟩; have HB1 := Lib.hid hb1; clear hb1) | (go_at_call 62; (with_reducible refine (HC.out _ (HB0.out.trans (HB1.out.mono HB0.out.size))).mono ?_); rintro e w' ⟨rfl, rfl⟩) | (go_at_call 63; (with_reducible refine (HI.out _).mono ?_); rintro e w' ⟨rfl, rfl⟩))
            go_ret
            exact ⟨congrArg (fun z => Ending.returned (.bool z)) (by rw [HR.out]; first | done | rfl | (rw [HLen.out, HB.out]; rfl) | (rw [HLen.out]; rfl)), HB0.out⟩
      · have kb : (b == 0) = false := by simp [qb]
        have HB := Lib.hid (show decide (b = 0) = false by simp [qb])
        clear qb
        cases tl with
        | false =>
          go_enter Tryz.func16, Tryz.ntmps16
          go_wp2_with (first | (go_at_call 59; first | ((with_reducible refine (HTl.out _).mono ?_); rintro e w' ⟨rfl, rfl⟩) | ((with_reducible refine (HTr.out _).mono ?_); rintro e w' ⟨rfl, rfl⟩)) | (go_at_call 60; (with_reducible refine (HZ.out _).mono ?_); rintro e w1 ⟨rfl, hb1⟩; have HB1 := Lib.hid hb1; obtain ⟨c0, c1, c2, c3, c4, c5, c6, c7⟩ := (HBX.out.kept hb1).cells; clear hb1) | (go_at_call 61; (with_reducible refine (HV.out _ HB0.out).mono ?_); rintro e w1 ⟨rfl, hb1⟩; have HB1 := Lib.hid hb1; clear hb1) | (go_at_call 62; (with_reducible refine (HC.out _ (HB0.out.trans (HB1.out.mono HB0.out.size))).mono ?_); rintro e w' ⟨rfl, rfl⟩) | (go_at_call 63; (with_reducible refine (HI.out _).mono ?_); rintro e w' ⟨rfl, rfl⟩))
          go_ret
          exact ⟨congrArg (fun z => Ending.returned (.bool z)) (by rw [HR.out]; first | done | rfl | (rw [HLen.out, HB.out]; rfl) | (rw [HLen.out]; rfl)), HB0.out⟩
        | true =>
          by_cases qrr : rr.size = 0
          · have krr := bytes_nil qrr
            have HXrr := Lib.hid qrr
            rw [show decide (rr.size = 0) = true by simp [qrr]] at HR
            clear qrr
            cases v with
            | false =>
              go_enter Tryz.func16, Tryz.ntmps16
              go_wp2_with (first | (go_at_call 59; first | ((with_reducible refine (HTl.out _).mono ?_); rintro e w' ⟨rfl, rfl⟩) | ((with_reducible refine (HTr.out _).mono ?_); rintro e w' ⟨rfl, rfl⟩)) | (go_at_call 60; (with_reducible refine (HZ.out _).mono ?_); rintro e w1 ⟨rfl, hb1⟩; have HB1 := Lib.hid hb1; obtain ⟨c0, c1, c2, c3, c4, c5, c6, c7⟩ := (HBX.out.kept hb1).cells; clear hb1) | (go_at_call 61; (with_reducible refine (HV.out _ HB0.out).mono ?_); rintro e w1 ⟨rfl, hb1⟩; have HB1 := Lib.hid hb1; clear hb1) | (go_at_call 62; (with_reducible refine (HC.out _ (HB0.out.trans (HB1.out.mono HB0.out.size))).mono ?_); rintro e w' ⟨rfl, rfl⟩) | (go_at_call 63; (with_reducible refine (HI.out _).mono ?_); rintro e w' ⟨rfl, rfl⟩))
              go_ret
              exact ⟨congrArg (fun z => Ending.returned (.bool z)) (by rw [HR.out]; first | done | rfl | (rw [HLen.out, HB.out]; rfl) | (rw [HLen.out]; rfl)), HB0.out.trans (HB1.out.mono HB0.out.size)⟩
            | true =>
              go_enter Tryz.func16, Tryz.ntmps16
              go_wp2_with (first | (go_at_call 59; first | ((with_reducible refine (HTl.out _).mono ?_); rintro e w' ⟨rfl, rfl⟩) | ((with_reducible refine (HTr.out _).mono ?_); rintro e w' ⟨rfl, rfl⟩)) | (go_at_call 60; (with_reducible refine (HZ.out _).mono ?_); rintro e w1 ⟨rfl, hb1⟩; have HB1 := Lib.hid hb1; obtain ⟨c0, c1, c2, c3, c4, c5, c6, c7⟩ := (HBX.out.kept hb1).cells; clear hb1) | (go_at_call 61; (with_reducible refine (HV.out _ HB0.out).mono ?_); rintro e w1 ⟨rfl, hb1⟩; have HB1 := Lib.hid hb1; clear hb1) | (go_at_call 62; (with_reducible refine (HC.out _ (HB0.out.trans (HB1.out.mono HB0.out.size))).mono ?_); rintro e w' ⟨rfl, rfl⟩) | (go_at_call 63; (with_reducible refine (HI.out _).mono ?_); rintro e w' ⟨rfl, rfl⟩))
              go_ret
              exact ⟨congrArg (fun z => Ending.returned (.bool z)) (by rw [HR.out]; first | done | rfl | (rw [HLen.out, HB.out]; rfl) | (rw [HLen.out]; rfl)), HB0.out.trans (HB1.out.mono HB0.out.size)⟩
          · have krr := bytes_some qrr
            rw [show decide (rr.size = 0) = false by simp [qrr]] at HR
            clear qrr
            go_enter Tryz.func16, Tryz.ntmps16
            go_wp2_with (first | (go_at_call 59; first | ((with_reducible refine (HTl.out _).mono ?_); rintro e w' ⟨rfl, rfl⟩) | ((with_reducible refine (HTr.out _).mono ?_); rintro e w' ⟨rfl, rfl⟩)) | (go_at_call 60; (with_reducible refine (HZ.out _).mono ?_); rintro e w1 ⟨rfl, hb1⟩; have HB1 := Lib.hid hb1; obtain ⟨c0, c1, c2, c3, c4, c5, c6, c7⟩ := (HBX.out.kept hb1).cells; clear hb1) | (go_at_call 61; (with_reducible refine (HV.out _ HB0.out).mono ?_); rintro e w1 ⟨rfl, hb1⟩; have HB1 := Lib.hid hb1; clear hb1) | (go_at_call 62; (with_reducible refine (HC.out _ (HB0.out.trans (HB1.out.mono HB0.out.size))).mono ?_); rintro e w' ⟨rfl, rfl⟩) | (go_at_call 63; (with_reducible refine (HI.out _).mono ?_); rintro e w' ⟨rfl, rfl⟩))
            go_ret
            exact ⟨congrArg (fun z => Ending.returned (.bool z)) (by rw [HR.out]; first | done | rfl | (rw [HLen.out, HB.out]; rfl) | (rw [HLen.out]; rfl)), HB0.out⟩
    · have kn : ((cs.length : Int) == 0) = false := by rw [beq_eq_false_iff_ne]; omega
      have HLen := Lib.hid (show decide (cs.length = 0) = false from decide_eq_false qn)
      have HB := Lib.hid (show True = True by rfl)
      clear qn
      cases tl with
      | false =>
        go_enter Tryz.func16, Tryz.ntmps16
        go_wp2_with (first | (go_at_call 59; first | ((with_reducible refine (HTl.out _).mono ?_); rintro e w' ⟨rfl, rfl⟩) | ((with_reducible refine (HTr.out _).mono ?_); rintro e w' ⟨rfl, rfl⟩)) | (go_at_call 60; (with_reducible refine (HZ.out _).mono ?_); rintro e w1 ⟨rfl, hb1⟩; have HB1 := Lib.hid hb1; obtain ⟨c0, c1, c2, c3, c4, c5, c6, c7⟩ := (HBX.out.kept hb1).cells; clear hb1) | (go_at_call 61; (with_reducible refine (HV.out _ HB0.out).mono ?_); rintro e w1 ⟨rfl, hb1⟩; have HB1 := Lib.hid hb1; clear hb1) | (go_at_call 62; (with_reducible refine (HC.out _ (HB0.out.trans (HB1.out.mono HB0.out.size))).mono ?_); rintro e w' ⟨rfl, rfl⟩) | (go_at_call 63; (with_reducible refine (HI.out _).mono ?_); rintro e w' ⟨rfl, rfl⟩))
        go_ret
        exact ⟨congrArg (fun z => Ending.returned (.bool z)) (by rw [HR.out]; first | done | rfl | (rw [HLen.out, HB.out]; rfl) | (rw [HLen.out]; rfl)), HB0.out⟩
      | true =>
        by_cases qrr : rr.size = 0
        · have krr := bytes_nil qrr
          have HXrr := Lib.hid qrr
          rw [show decide (rr.size = 0) = true by simp [qrr]] at HR
          clear qrr
          cases v with
          | false =>
            go_enter Tryz.func16, Tryz.ntmps16
            go_wp2_with (first | (go_at_call 59; first | ((with_reducible refine (HTl.out _).mono ?_); rintro e w' ⟨rfl, rfl⟩) | ((with_reducible refine (HTr.out _).mono ?_); rintro e w' ⟨rfl, rfl⟩)) | (go_at_call 60; (with_reducible refine (HZ.out _).mono ?_); rintro e w1 ⟨rfl, hb1⟩; have HB1 := Lib.hid hb1; obtain ⟨c0, c1, c2, c3, c4, c5, c6, c7⟩ := (HBX.out.kept hb1).cells; clear hb1) | (go_at_call 61; (with_reducible refine (HV.out _ HB0.out).mono ?_); rintro e w1 ⟨rfl, hb1⟩; have HB1 := Lib.hid hb1; clear hb1) | (go_at_call 62; (with_reducible refine (HC.out _ (HB0.out.trans (HB1.out.mono HB0.out.size))).mono ?_); rintro e w' ⟨rfl, rfl⟩) | (go_at_call 63; (with_reducible refine (HI.out _).mono ?_); rintro e w' ⟨rfl, rfl⟩))
            go_ret
            exact ⟨congrArg (fun z => Ending.returned (.bool z)) (by rw [HR.out]; first | done | rfl | (rw [HLen.out, HB.out]; rfl) | (rw [HLen.out]; rfl)), HB0.out.trans (HB1.out.mono HB0.out.size)⟩
          | true =>
            go_enter Tryz.func16, Tryz.ntmps16
            go_wp2_with (first | (go_at_call 59; first | ((with_reducible refine (HTl.out _).mono ?_); rintro e w' ⟨rfl, rfl⟩) | ((with_reducible refine (HTr.out _).mono ?_); rintro e w' ⟨rfl, rfl⟩)) | (go_at_call 60; (with_reducible refine (HZ.out _).mono ?_); rintro e w1 ⟨rfl, hb1⟩; have HB1 := Lib.hid hb1; obtain ⟨c0, c1, c2, c3, c4, c5, c6, c7⟩ := (HBX.out.kept hb1).cells; clear hb1) | (go_at_call 61; (with_reducible refine (HV.out _ HB0.out).mono ?_); rintro e w1 ⟨rfl, hb1⟩; have HB1 := Lib.hid hb1; clear hb1) | (go_at_call 62; (with_reducible refine (HC.out _ (HB0.out.trans (HB1.out.mono HB0.out.size))).mono ?_); rintro e w' ⟨rfl, rfl⟩) | (go_at_call 63; (with_reducible refine (HI.out _).mono ?_); rintro e w' ⟨rfl, rfl⟩))
            go_ret
            exact ⟨congrArg (fun z => Ending.returned (.bool z)) (by rw [HR.out]; first | done | rfl | (rw [HLen.out, HB.out]; rfl) | (rw [HLen.out]; rfl)), HB0.out.trans (HB1.out.mono HB0.out.size)⟩
        · have krr := bytes_some qrr
          rw [show decide (rr.size = 0) = false by simp [qrr]] at HR
          clear qrr
          go_enter Tryz.func16, Tryz.ntmps16
          go_wp2_with (first | (go_at_call 59; first | ((with_reducible refine (HTl.out _).mono ?_); rintro e w' ⟨rfl, rfl⟩) | ((with_reducible refine (HTr.out _).mono ?_); rintro e w' ⟨rfl, rfl⟩)) | (go_at_call 60; (with_reducible refine (HZ.out _).mono ?_); rintro e w1 ⟨rfl, hb1⟩; have HB1 := Lib.hid hb1; obtain ⟨c0, c1, c2, c3, c4, c5, c6, c7⟩ := (HBX.out.kept hb1).cells; clear hb1) | (go_at_call 61; (with_reducible refine (HV.out _ HB0.out).mono ?_); rintro e w1 ⟨rfl, hb1⟩; have HB1 := Lib.hid hb1; clear hb1) | (go_at_call 62; (with_reducible refine (HC.out _ (HB0.out.trans (HB1.out.mono HB0.out.size))).mono ?_); rintro e w' ⟨rfl, rfl⟩) | (go_at_call 63; (with_reducible refine (HI.out _).mono ?_); rintro e w' ⟨rfl, rfl⟩))
          go_ret
          exact ⟨congrArg (fun z => Ending.returned (.bool z)) (by rw [HR.out]; first | done | rfl | (rw [HLen.out, HB.out]; rfl) | (rw [HLen.out]; rfl)), HB0.out⟩

set_option maxRecDepth 100000 in
set_option maxHeartbeats 12800000 in
theorem specVC_5 (c : Cx) (xu vc : Value) (w : World) (h : CnO w xu vc c) (hsz : c.xa.size ≤ 2097152) (hk : c.k = 5) :
    Calls Tryz.prog 16 #[.agg #[.int .i64 c.k, .string c.l, .string c.r, .int .i64 c.xk, .string c.xl, xu, vc, .int .i64 c.b]] w fun e w' => e = .returned (.bool (validX c)) ∧ Below w.heap.size w w' := by
  obtain ⟨A, m, B, r, rfl, rfl⟩ := h.shape
  have HR : Hid (validX c = (decide (c.l.size = 0) && decide (c.r.size = 0) && zB c.xk c.xl c.xa.items.length && coB c.cs && inR (-99) 99 c.b)) := Lib.hid (by
    show validC c.cn = _
    unfold validC
    rw [if_neg (show ¬ (c.cn.k = 1 ∨ c.cn.k = 2) by show ¬ (c.k = 1 ∨ c.k = 2); omega), if_neg (show ¬ (c.cn.k = 3 ∨ c.cn.k = 4) by show ¬ (c.k = 3 ∨ c.k = 4); omega), if_pos (show c.cn.k = 5 from hk)]
    all_goals rfl)
  obtain ⟨⟨hl, hr, hx⟩, ⟨n, hS⟩, hRow⟩ := h.read
  obtain ⟨k, l, rr, xk, xl, xa, cs, b⟩ := c
  simp only at hl hr hx hS hRow HR hsz hk ⊢
  unfold maxI at hl hr hx
  have hcl := hRow.1
  rw [ints_length] at hcl
  have HTl := Lib.hid (fun w => specIsT_any l w (by unfold maxLen; omega))
  have HTr := Lib.hid (fun w => specIsT_any rr w (by unfold maxLen; omega))
  have HZ := Lib.hid (fun w => specZero_any xk xl A xa.items.length m w (SlP.len hS))
  have HV := Lib.hid (fun wr (hb : Below w.heap.size w wr) => specValid_any n w.heap.size xk xl _ xa wr (hS.mono hb (Nat.le_refl _)) hb.size hsz hx)
  have HC := Lib.hid (fun wr (hb : Below w.heap.size w wr) => specCoeffs_any _ cs _ wr (hRow.row.kept hb))
  have HI := Lib.hid (fun wr => l1In_all b (-99) 99 (inR (-99) 99 b) wr rfl)
  have HB0 := Lib.hid ((Below.refl w.heap.size w).alloc (Nat.le_refl _) (.cells #[.int .i64 k, .string l, .string rr, .int .i64 xk, .string xl, .slice A xa.items.length m, .slice B cs.length r, .int .i64 b] 29))
  have HBX := Lib.hid (boxC_new w ⟨k, l, rr, xk, xl, xa, cs, b⟩ (.slice A xa.items.length m) (.slice B cs.length r) 29)
  obtain ⟨z, hz⟩ : ∃ z, z = zB xk xl xa.items.length := ⟨_, rfl⟩
  rw [← hz] at HR
  rw [← hz] at HZ
  clear hz
  obtain ⟨co, hco⟩ : ∃ co, co = coB cs := ⟨_, rfl⟩
  rw [← hco] at HR
  rw [← hco] at HC
  clear hco
  obtain ⟨bo, hbo⟩ : ∃ bo, bo = inR (-99) 99 b := ⟨_, rfl⟩
  rw [← hbo] at HR HI
  clear hbo
  clear hS hRow hl hr hx hsz
  subst hk
  by_cases qn : cs.length = 0
  · have kn : ((cs.length : Int) == 0) = true := by simp [qn]
    have HLen := Lib.hid (show decide (cs.length = 0) = true from decide_eq_true qn)
    clear qn
    by_cases qb : b = 0
    · have kb : (b == 0) = true := by simp [qb]
      have HB := Lib.hid (show decide (b = 0) = true by simp [qb])
      clear qb
      by_cases ql : l.size = 0
      · have kl := bytes_nil ql
        have HXl := Lib.hid ql
        rw [show decide (l.size = 0) = true by simp [ql]] at HR
        clear ql
        by_cases qrr : rr.size = 0
        · have krr := bytes_nil qrr
          have HXrr := Lib.hid qrr
          rw [show decide (rr.size = 0) = true by simp [qrr]] at HR
          clear qrr
          cases z with
          | false =>
            go_enter Tryz.func16, Tryz.ntmps16
            go_wp2_with (first | (go_at_call 59; first | ((with_reducible refine (HTl.out _).mono ?_); rintro e w' ⟨rfl, rfl⟩) | ((with_reducible refine (HTr.out _).mono ?_); rintro e w' ⟨rfl, rfl⟩)) | (go_at_call 60; (with_reducible refine (HZ.out _).mono ?_); rintro e w1 ⟨rfl, hb1⟩; have HB1 := Lib.hid hb1; obtain ⟨c0, c1, c2, c3, c4, c5, c6, c7⟩ := (HBX.out.kept hb1).cells; clear hb1) | (go_at_call 61; (with_reducible refine (HV.out _ HB0.out).mono ?_); rintro e w1 ⟨rfl, hb1⟩; have HB1 := Lib.hid hb1; clear hb1) | (go_at_call 62; (with_reducible refine (HC.out _ (HB0.out.trans (HB1.out.mono HB0.out.size))).mono ?_); rintro e w' ⟨rfl, rfl⟩) | (go_at_call 63; (with_reducible refine (HI.out _).mono ?_); rintro e w' ⟨rfl, rfl⟩))
            go_ret
            exact ⟨congrArg (fun z => Ending.returned (.bool z)) (by rw [HR.out]; first | done | rfl | (rw [HLen.out, HB.out]; rfl) | (rw [HLen.out]; rfl)), HB0.out.trans (HB1.out.mono HB0.out.size)⟩
          | true =>
            cases co with
            | false =>
              go_enter Tryz.func16, Tryz.ntmps16
              go_wp2_with (first | (go_at_call 59; first | ((with_reducible refine (HTl.out _).mono ?_); rintro e w' ⟨rfl, rfl⟩) | ((with_reducible refine (HTr.out _).mono ?_); rintro e w' ⟨rfl, rfl⟩)) | (go_at_call 60; (with_reducible refine (HZ.out _).mono ?_); rintro e w1 ⟨rfl, hb1⟩; have HB1 := Lib.hid hb1; obtain ⟨c0, c1, c2, c3, c4, c5, c6, c7⟩ := (HBX.out.kept hb1).cells; clear hb1) | (go_at_call 61; (with_reducible refine (HV.out _ HB0.out).mono ?_); rintro e w1 ⟨rfl, hb1⟩; have HB1 := Lib.hid hb1; clear hb1) | (go_at_call 62; (with_reducible refine (HC.out _ (HB0.out.trans (HB1.out.mono HB0.out.size))).mono ?_); rintro e w' ⟨rfl, rfl⟩) | (go_at_call 63; (with_reducible refine (HI.out _).mono ?_); rintro e w' ⟨rfl, rfl⟩))
              go_ret
              exact ⟨congrArg (fun z => Ending.returned (.bool z)) (by rw [HR.out]; first | done | rfl | (rw [HLen.out, HB.out]; rfl) | (rw [HLen.out]; rfl)), HB0.out.trans (HB1.out.mono HB0.out.size)⟩
            | true =>
              cases bo with
              | false =>
                go_enter Tryz.func16, Tryz.ntmps16
                go_wp2_with (first | (go_at_call 59; first | ((with_reducible refine (HTl.out _).mono ?_); rintro e w' ⟨rfl, rfl⟩) | ((with_reducible refine (HTr.out _).mono ?_); rintro e w' ⟨rfl, rfl⟩)) | (go_at_call 60; (with_reducible refine (HZ.out _).mono ?_); rintro e w1 ⟨rfl, hb1⟩; have HB1 := Lib.hid hb1; obtain ⟨c0, c1, c2, c3, c4, c5, c6, c7⟩ := (HBX.out.kept hb1).cells; clear hb1) | (go_at_call 61; (with_reducible refine (HV.out _ HB0.out).mono ?_); rintro e w1 ⟨rfl, hb1⟩; have HB1 := Lib.hid hb1; clear hb1) | (go_at_call 62; (with_reducible refine (HC.out _ (HB0.out.trans (HB1.out.mono HB0.out.size))).mono ?_); rintro e w' ⟨rfl, rfl⟩) | (go_at_call 63; (with_reducible refine (HI.out _).mono ?_); rintro e w' ⟨rfl, rfl⟩))
                go_ret
                exact ⟨congrArg (fun z => Ending.returned (.bool z)) (by rw [HR.out]; first | done | rfl | (rw [HLen.out, HB.out]; rfl) | (rw [HLen.out]; rfl)), HB0.out.trans (HB1.out.mono HB0.out.size)⟩
              | true =>
                go_enter Tryz.func16, Tryz.ntmps16
                go_wp2_with (first | (go_at_call 59; first | ((with_reducible refine (HTl.out _).mono ?_); rintro e w' ⟨rfl, rfl⟩) | ((with_reducible refine (HTr.out _).mono ?_); rintro e w' ⟨rfl, rfl⟩)) | (go_at_call 60; (with_reducible refine (HZ.out _).mono ?_); rintro e w1 ⟨rfl, hb1⟩; have HB1 := Lib.hid hb1; obtain ⟨c0, c1, c2, c3, c4, c5, c6, c7⟩ := (HBX.out.kept hb1).cells; clear hb1) | (go_at_call 61; (with_reducible refine (HV.out _ HB0.out).mono ?_); rintro e w1 ⟨rfl, hb1⟩; have HB1 := Lib.hid hb1; clear hb1) | (go_at_call 62; (with_reducible refine (HC.out _ (HB0.out.trans (HB1.out.mono HB0.out.size))).mono ?_); rintro e w' ⟨rfl, rfl⟩) | (go_at_call 63; (with_reducible refine (HI.out _).mono ?_); rintro e w' ⟨rfl, rfl⟩))
                go_ret
                exact ⟨congrArg (fun z => Ending.returned (.bool z)) (by rw [HR.out]; first | done | rfl | (rw [HLen.out, HB.out]; rfl) | (rw [HLen.out]; rfl)), HB0.out.trans (HB1.out.mono HB0.out.size)⟩
        · have krr := bytes_some qrr
          rw [show decide (rr.size = 0) = false by simp [qrr]] at HR
          clear qrr
          go_enter Tryz.func16, Tryz.ntmps16
          go_wp2_with (first | (go_at_call 59; first | ((with_reducible refine (HTl.out _).mono ?_); rintro e w' ⟨rfl, rfl⟩) | ((with_reducible refine (HTr.out _).mono ?_); rintro e w' ⟨rfl, rfl⟩)) | (go_at_call 60; (with_reducible refine (HZ.out _).mono ?_); rintro e w1 ⟨rfl, hb1⟩; have HB1 := Lib.hid hb1; obtain ⟨c0, c1, c2, c3, c4, c5, c6, c7⟩ := (HBX.out.kept hb1).cells; clear hb1) | (go_at_call 61; (with_reducible refine (HV.out _ HB0.out).mono ?_); rintro e w1 ⟨rfl, hb1⟩; have HB1 := Lib.hid hb1; clear hb1) | (go_at_call 62; (with_reducible refine (HC.out _ (HB0.out.trans (HB1.out.mono HB0.out.size))).mono ?_); rintro e w' ⟨rfl, rfl⟩) | (go_at_call 63; (with_reducible refine (HI.out _).mono ?_); rintro e w' ⟨rfl, rfl⟩))
          go_ret
          exact ⟨congrArg (fun z => Ending.returned (.bool z)) (by rw [HR.out]; first | done | rfl | (rw [HLen.out, HB.out]; rfl) | (rw [HLen.out]; rfl)), HB0.out⟩
      · have kl := bytes_some ql
        rw [show decide (l.size = 0) = false by simp [ql]] at HR
        clear ql
        go_enter Tryz.func16, Tryz.ntmps16
        go_wp2_with (first | (go_at_call 59; first | ((with_reducible refine (HTl.out _).mono ?_); rintro e w' ⟨rfl, rfl⟩) | ((with_reducible refine (HTr.out _).mono ?_); rintro e w' ⟨rfl, rfl⟩)) | (go_at_call 60; (with_reducible refine (HZ.out _).mono ?_); rintro e w1 ⟨rfl, hb1⟩; have HB1 := Lib.hid hb1; obtain ⟨c0, c1, c2, c3, c4, c5, c6, c7⟩ := (HBX.out.kept hb1).cells; clear hb1) | (go_at_call 61; (with_reducible refine (HV.out _ HB0.out).mono ?_); rintro e w1 ⟨rfl, hb1⟩; have HB1 := Lib.hid hb1; clear hb1) | (go_at_call 62; (with_reducible refine (HC.out _ (HB0.out.trans (HB1.out.mono HB0.out.size))).mono ?_); rintro e w' ⟨rfl, rfl⟩) | (go_at_call 63; (with_reducible refine (HI.out _).mono ?_); rintro e w' ⟨rfl, rfl⟩))
        go_ret
        exact ⟨congrArg (fun z => Ending.returned (.bool z)) (by rw [HR.out]; first | done | rfl | (rw [HLen.out, HB.out]; rfl) | (rw [HLen.out]; rfl)), HB0.out⟩
    · have kb : (b == 0) = false := by simp [qb]
      have HB := Lib.hid (show decide (b = 0) = false by simp [qb])
      clear qb
      by_cases ql : l.size = 0
      · have kl := bytes_nil ql
        have HXl := Lib.hid ql
        rw [show decide (l.size = 0) = true by simp [ql]] at HR
        clear ql
        by_cases qrr : rr.size = 0
        · have krr := bytes_nil qrr
          have HXrr := Lib.hid qrr
          rw [show decide (rr.size = 0) = true by simp [qrr]] at HR
          clear qrr
          cases z with
          | false =>
            go_enter Tryz.func16, Tryz.ntmps16
            go_wp2_with (first | (go_at_call 59; first | ((with_reducible refine (HTl.out _).mono ?_); rintro e w' ⟨rfl, rfl⟩) | ((with_reducible refine (HTr.out _).mono ?_); rintro e w' ⟨rfl, rfl⟩)) | (go_at_call 60; (with_reducible refine (HZ.out _).mono ?_); rintro e w1 ⟨rfl, hb1⟩; have HB1 := Lib.hid hb1; obtain ⟨c0, c1, c2, c3, c4, c5, c6, c7⟩ := (HBX.out.kept hb1).cells; clear hb1) | (go_at_call 61; (with_reducible refine (HV.out _ HB0.out).mono ?_); rintro e w1 ⟨rfl, hb1⟩; have HB1 := Lib.hid hb1; clear hb1) | (go_at_call 62; (with_reducible refine (HC.out _ (HB0.out.trans (HB1.out.mono HB0.out.size))).mono ?_); rintro e w' ⟨rfl, rfl⟩) | (go_at_call 63; (with_reducible refine (HI.out _).mono ?_); rintro e w' ⟨rfl, rfl⟩))
            go_ret
            exact ⟨congrArg (fun z => Ending.returned (.bool z)) (by rw [HR.out]; first | done | rfl | (rw [HLen.out, HB.out]; rfl) | (rw [HLen.out]; rfl)), HB0.out.trans (HB1.out.mono HB0.out.size)⟩
          | true =>
            cases co with
            | false =>
              go_enter Tryz.func16, Tryz.ntmps16
              go_wp2_with (first | (go_at_call 59; first | ((with_reducible refine (HTl.out _).mono ?_); rintro e w' ⟨rfl, rfl⟩) | ((with_reducible refine (HTr.out _).mono ?_); rintro e w' ⟨rfl, rfl⟩)) | (go_at_call 60; (with_reducible refine (HZ.out _).mono ?_); rintro e w1 ⟨rfl, hb1⟩; have HB1 := Lib.hid hb1; obtain ⟨c0, c1, c2, c3, c4, c5, c6, c7⟩ := (HBX.out.kept hb1).cells; clear hb1) | (go_at_call 61; (with_reducible refine (HV.out _ HB0.out).mono ?_); rintro e w1 ⟨rfl, hb1⟩; have HB1 := Lib.hid hb1; clear hb1) | (go_at_call 62; (with_reducible refine (HC.out _ (HB0.out.trans (HB1.out.mono HB0.out.size))).mono ?_); rintro e w' ⟨rfl, rfl⟩) | (go_at_call 63; (with_reducible refine (HI.out _).mono ?_); rintro e w' ⟨rfl, rfl⟩))
              go_ret
              exact ⟨congrArg (fun z => Ending.returned (.bool z)) (by rw [HR.out]; first | done | rfl | (rw [HLen.out, HB.out]; rfl) | (rw [HLen.out]; rfl)), HB0.out.trans (HB1.out.mono HB0.out.size)⟩
            | true =>
              cases bo with
              | false =>
                go_enter Tryz.func16, Tryz.ntmps16
                go_wp2_with (first | (go_at_call 59; first | ((with_reducible refine (HTl.out _).mono ?_); rintro e w' ⟨rfl, rfl⟩) | ((with_reducible refine (HTr.out _).mono ?_); rintro e w' ⟨rfl, rfl⟩)) | (go_at_call 60; (with_reducible refine (HZ.out _).mono ?_); rintro e w1 ⟨rfl, hb1⟩; have HB1 := Lib.hid hb1; obtain ⟨c0, c1, c2, c3, c4, c5, c6, c7⟩ := (HBX.out.kept hb1).cells; clear hb1) | (go_at_call 61; (with_reducible refine (HV.out _ HB0.out).mono ?_); rintro e w1 ⟨rfl, hb1⟩; have HB1 := Lib.hid hb1; clear hb1) | (go_at_call 62; (with_reducible refine (HC.out _ (HB0.out.trans (HB1.out.mono HB0.out.size))).mono ?_); rintro e w' ⟨rfl, rfl⟩) | (go_at_call 63; (with_reducible refine (HI.out _).mono ?_); rintro e w' ⟨rfl, rfl⟩))
                go_ret
                exact ⟨congrArg (fun z => Ending.returned (.bool z)) (by rw [HR.out]; first | done | rfl | (rw [HLen.out, HB.out]; rfl) | (rw [HLen.out]; rfl)), HB0.out.trans (HB1.out.mono HB0.out.size)⟩
              | true =>
                go_enter Tryz.func16, Tryz.ntmps16
                go_wp2_with (first | (go_at_call 59; first | ((with_reducible refine (HTl.out _).mono ?_); rintro e w' ⟨rfl, rfl⟩) | ((with_reducible refine (HTr.out _).mono ?_); rintro e w' ⟨rfl, rfl⟩)) | (go_at_call 60; (with_reducible refine (HZ.out _).mono ?_); rintro e w1 ⟨rfl, hb1⟩; have HB1 := Lib.hid hb1; obtain ⟨c0, c1, c2, c3, c4, c5, c6, c7⟩ := (HBX.out.kept hb1).cells; clear hb1) | (go_at_call 61; (with_reducible refine (HV.out _ HB0.out).mono ?_); rintro e w1 ⟨rfl, hb1⟩; have HB1 := Lib.hid hb1; clear hb1) | (go_at_call 62; (with_reducible refine (HC.out _ (HB0.out.trans (HB1.out.mono HB0.out.size))).mono ?_); rintro e w' ⟨rfl, rfl⟩) | (go_at_call 63; (with_reducible refine (HI.out _).mono ?_); rintro e w' ⟨rfl, rfl⟩))
                go_ret
                exact ⟨congrArg (fun z => Ending.returned (.bool z)) (by rw [HR.out]; first | done | rfl | (rw [HLen.out, HB.out]; rfl) | (rw [HLen.out]; rfl)), HB0.out.trans (HB1.out.mono HB0.out.size)⟩
        · have krr := bytes_some qrr
          rw [show decide (rr.size = 0) = false by simp [qrr]] at HR
          clear qrr
          go_enter Tryz.func16, Tryz.ntmps16
          go_wp2_with (first | (go_at_call 59; first | ((with_reducible refine (HTl.out _).mono ?_); rintro e w' ⟨rfl, rfl⟩) | ((with_reducible refine (HTr.out _).mono ?_); rintro e w' ⟨rfl, rfl⟩)) | (go_at_call 60; (with_reducible refine (HZ.out _).mono ?_); rintro e w1 ⟨rfl, hb1⟩; have HB1 := Lib.hid hb1; obtain ⟨c0, c1, c2, c3, c4, c5, c6, c7⟩ := (HBX.out.kept hb1).cells; clear hb1) | (go_at_call 61; (with_reducible refine (HV.out _ HB0.out).mono ?_); rintro e w1 ⟨rfl, hb1⟩; have HB1 := Lib.hid hb1; clear hb1) | (go_at_call 62; (with_reducible refine (HC.out _ (HB0.out.trans (HB1.out.mono HB0.out.size))).mono ?_); rintro e w' ⟨rfl, rfl⟩) | (go_at_call 63; (with_reducible refine (HI.out _).mono ?_); rintro e w' ⟨rfl, rfl⟩))
          go_ret
          exact ⟨congrArg (fun z => Ending.returned (.bool z)) (by rw [HR.out]; first | done | rfl | (rw [HLen.out, HB.out]; rfl) | (rw [HLen.out]; rfl)), HB0.out⟩
      · have kl := bytes_some ql
        rw [show decide (l.size = 0) = false by simp [ql]] at HR
        clear ql
        go_enter Tryz.func16, Tryz.ntmps16
        go_wp2_with (first | (go_at_call 59; first | ((with_reducible refine (HTl.out _).mono ?_); rintro e w' ⟨rfl, rfl⟩) | ((with_reducible refine (HTr.out _).mono ?_); rintro e w' ⟨rfl, rfl⟩)) | (go_at_call 60; (with_reducible refine (HZ.out _).mono ?_); rintro e w1 ⟨rfl, hb1⟩; have HB1 := Lib.hid hb1; obtain ⟨c0, c1, c2, c3, c4, c5, c6, c7⟩ := (HBX.out.kept hb1).cells; clear hb1) | (go_at_call 61; (with_reducible refine (HV.out _ HB0.out).mono ?_); rintro e w1 ⟨rfl, hb1⟩; have HB1 := Lib.hid hb1; clear hb1) | (go_at_call 62; (with_reducible refine (HC.out _ (HB0.out.trans (HB1.out.mono HB0.out.size))).mono ?_); rintro e w' ⟨rfl, rfl⟩) | (go_at_call 63; (with_reducible refine (HI.out _).mono ?_); rintro e w' ⟨rfl, rfl⟩))
        go_ret
        exact ⟨congrArg (fun z => Ending.returned (.bool z)) (by rw [HR.out]; first | done | rfl | (rw [HLen.out, HB.out]; rfl) | (rw [HLen.out]; rfl)), HB0.out⟩
  · have kn : ((cs.length : Int) == 0) = false := by rw [beq_eq_false_iff_ne]; omega
    have HLen := Lib.hid (show decide (cs.length = 0) = false from decide_eq_false qn)
    have HB := Lib.hid (show True = True by rfl)
    clear qn
    by_cases ql : l.size = 0
    · have kl := bytes_nil ql
      have HXl := Lib.hid ql
      rw [show decide (l.size = 0) = true by simp [ql]] at HR
      clear ql
      by_cases qrr : rr.size = 0
      · have krr := bytes_nil qrr
        have HXrr := Lib.hid qrr
        rw [show decide (rr.size = 0) = true by simp [qrr]] at HR
        clear qrr
        cases z with
        | false =>
          go_enter Tryz.func16, Tryz.ntmps16
          go_wp2_with (first | (go_at_call 59; first | ((with_reducible refine (HTl.out _).mono ?_); rintro e w' ⟨rfl, rfl⟩) | ((with_reducible refine (HTr.out _).mono ?_); rintro e w' ⟨rfl, rfl⟩)) | (go_at_call 60; (with_reducible refine (HZ.out _).mono ?_); rintro e w1 ⟨rfl, hb1⟩; have HB1 := Lib.hid hb1; obtain ⟨c0, c1, c2, c3, c4, c5, c6, c7⟩ := (HBX.out.kept hb1).cells; clear hb1) | (go_at_call 61; (with_reducible refine (HV.out _ HB0.out).mono ?_); rintro e w1 ⟨rfl, hb1⟩; have HB1 := Lib.hid hb1; clear hb1) | (go_at_call 62; (with_reducible refine (HC.out _ (HB0.out.trans (HB1.out.mono HB0.out.size))).mono ?_); rintro e w' ⟨rfl, rfl⟩) | (go_at_call 63; (with_reducible refine (HI.out _).mono ?_); rintro e w' ⟨rfl, rfl⟩))
          go_ret
          exact ⟨congrArg (fun z => Ending.returned (.bool z)) (by rw [HR.out]; first | done | rfl | (rw [HLen.out, HB.out]; rfl) | (rw [HLen.out]; rfl)), HB0.out.trans (HB1.out.mono HB0.out.size)⟩
        | true =>
          cases co with
          | false =>
            go_enter Tryz.func16, Tryz.ntmps16
            go_wp2_with (first | (go_at_call 59; first | ((with_reducible refine (HTl.out _).mono ?_); rintro e w' ⟨rfl, rfl⟩) | ((with_reducible refine (HTr.out _).mono ?_); rintro e w' ⟨rfl, rfl⟩)) | (go_at_call 60; (with_reducible refine (HZ.out _).mono ?_); rintro e w1 ⟨rfl, hb1⟩; have HB1 := Lib.hid hb1; obtain ⟨c0, c1, c2, c3, c4, c5, c6, c7⟩ := (HBX.out.kept hb1).cells; clear hb1) | (go_at_call 61; (with_reducible refine (HV.out _ HB0.out).mono ?_); rintro e w1 ⟨rfl, hb1⟩; have HB1 := Lib.hid hb1; clear hb1) | (go_at_call 62; (with_reducible refine (HC.out _ (HB0.out.trans (HB1.out.mono HB0.out.size))).mono ?_); rintro e w' ⟨rfl, rfl⟩) | (go_at_call 63; (with_reducible refine (HI.out _).mono ?_); rintro e w' ⟨rfl, rfl⟩))
            go_ret
            exact ⟨congrArg (fun z => Ending.returned (.bool z)) (by rw [HR.out]; first | done | rfl | (rw [HLen.out, HB.out]; rfl) | (rw [HLen.out]; rfl)), HB0.out.trans (HB1.out.mono HB0.out.size)⟩
          | true =>
            cases bo with
            | false =>
              go_enter Tryz.func16, Tryz.ntmps16
              go_wp2_with (first | (go_at_call 59; first | ((with_reducible refine (HTl.out _).mono ?_); rintro e w' ⟨rfl, rfl⟩) | ((with_reducible refine (HTr.out _).mono ?_); rintro e w' ⟨rfl, rfl⟩)) | (go_at_call 60; (with_reducible refine (HZ.out _).mono ?_); rintro e w1 ⟨rfl, hb1⟩; have HB1 := Lib.hid hb1; obtain ⟨c0, c1, c2, c3, c4, c5, c6, c7⟩ := (HBX.out.kept hb1).cells; clear hb1) | (go_at_call 61; (with_reducible refine (HV.out _ HB0.out).mono ?_); rintro e w1 ⟨rfl, hb1⟩; have HB1 := Lib.hid hb1; clear hb1) | (go_at_call 62; (with_reducible refine (HC.out _ (HB0.out.trans (HB1.out.mono HB0.out.size))).mono ?_); rintro e w' ⟨rfl, rfl⟩) | (go_at_call 63; (with_reducible refine (HI.out _).mono ?_); rintro e w' ⟨rfl, rfl⟩))
              go_ret
              exact ⟨congrArg (fun z => Ending.returned (.bool z)) (by rw [HR.out]; first | done | rfl | (rw [HLen.out, HB.out]; rfl) | (rw [HLen.out]; rfl)), HB0.out.trans (HB1.out.mono HB0.out.size)⟩
            | true =>
              go_enter Tryz.func16, Tryz.ntmps16
              go_wp2_with (first | (go_at_call 59; first | ((with_reducible refine (HTl.out _).mono ?_); rintro e w' ⟨rfl, rfl⟩) | ((with_reducible refine (HTr.out _).mono ?_); rintro e w' ⟨rfl, rfl⟩)) | (go_at_call 60; (with_reducible refine (HZ.out _).mono ?_); rintro e w1 ⟨rfl, hb1⟩; have HB1 := Lib.hid hb1; obtain ⟨c0, c1, c2, c3, c4, c5, c6, c7⟩ := (HBX.out.kept hb1).cells; clear hb1) | (go_at_call 61; (with_reducible refine (HV.out _ HB0.out).mono ?_); rintro e w1 ⟨rfl, hb1⟩; have HB1 := Lib.hid hb1; clear hb1) | (go_at_call 62; (with_reducible refine (HC.out _ (HB0.out.trans (HB1.out.mono HB0.out.size))).mono ?_); rintro e w' ⟨rfl, rfl⟩) | (go_at_call 63; (with_reducible refine (HI.out _).mono ?_); rintro e w' ⟨rfl, rfl⟩))
              go_ret
              exact ⟨congrArg (fun z => Ending.returned (.bool z)) (by rw [HR.out]; first | done | rfl | (rw [HLen.out, HB.out]; rfl) | (rw [HLen.out]; rfl)), HB0.out.trans (HB1.out.mono HB0.out.size)⟩
      · have krr := bytes_some qrr
        rw [show decide (rr.size = 0) = false by simp [qrr]] at HR
        clear qrr
        go_enter Tryz.func16, Tryz.ntmps16
        go_wp2_with (first | (go_at_call 59; first | ((with_reducible refine (HTl.out _).mono ?_); rintro e w' ⟨rfl, rfl⟩) | ((with_reducible refine (HTr.out _).mono ?_); rintro e w' ⟨rfl, rfl⟩)) | (go_at_call 60; (with_reducible refine (HZ.out _).mono ?_); rintro e w1 ⟨rfl, hb1⟩; have HB1 := Lib.hid hb1; obtain ⟨c0, c1, c2, c3, c4, c5, c6, c7⟩ := (HBX.out.kept hb1).cells; clear hb1) | (go_at_call 61; (with_reducible refine (HV.out _ HB0.out).mono ?_); rintro e w1 ⟨rfl, hb1⟩; have HB1 := Lib.hid hb1; clear hb1) | (go_at_call 62; (with_reducible refine (HC.out _ (HB0.out.trans (HB1.out.mono HB0.out.size))).mono ?_); rintro e w' ⟨rfl, rfl⟩) | (go_at_call 63; (with_reducible refine (HI.out _).mono ?_); rintro e w' ⟨rfl, rfl⟩))
        go_ret
        exact ⟨congrArg (fun z => Ending.returned (.bool z)) (by rw [HR.out]; first | done | rfl | (rw [HLen.out, HB.out]; rfl) | (rw [HLen.out]; rfl)), HB0.out⟩
    · have kl := bytes_some ql
      rw [show decide (l.size = 0) = false by simp [ql]] at HR
      clear ql
      go_enter Tryz.func16, Tryz.ntmps16
      go_wp2_with (first | (go_at_call 59; first | ((with_reducible refine (HTl.out _).mono ?_); rintro e w' ⟨rfl, rfl⟩) | ((with_reducible refine (HTr.out _).mono ?_); rintro e w' ⟨rfl, rfl⟩)) | (go_at_call 60; (with_reducible refine (HZ.out _).mono ?_); rintro e w1 ⟨rfl, hb1⟩; have HB1 := Lib.hid hb1; obtain ⟨c0, c1, c2, c3, c4, c5, c6, c7⟩ := (HBX.out.kept hb1).cells; clear hb1) | (go_at_call 61; (with_reducible refine (HV.out _ HB0.out).mono ?_); rintro e w1 ⟨rfl, hb1⟩; have HB1 := Lib.hid hb1; clear hb1) | (go_at_call 62; (with_reducible refine (HC.out _ (HB0.out.trans (HB1.out.mono HB0.out.size))).mono ?_); rintro e w' ⟨rfl, rfl⟩) | (go_at_call 63; (with_reducible refine (HI.out _).mono ?_); rintro e w' ⟨rfl, rfl⟩))
      go_ret
      exact ⟨congrArg (fun z => Ending.returned (.bool z)) (by rw [HR.out]; first | done | rfl | (rw [HLen.out, HB.out]; rfl) | (rw [HLen.out]; rfl)), HB0.out⟩

set_option maxRecDepth 100000 in
set_option maxHeartbeats 12800000 in
theorem specVC_no (c : Cx) (xu vc : Value) (w : World) (h : CnO w xu vc c) (hsz : c.xa.size ≤ 2097152) (hk : c.k ≠ 1 ∧ c.k ≠ 2 ∧ c.k ≠ 3 ∧ c.k ≠ 4 ∧ c.k ≠ 5) :
    Calls Tryz.prog 16 #[.agg #[.int .i64 c.k, .string c.l, .string c.r, .int .i64 c.xk, .string c.xl, xu, vc, .int .i64 c.b]] w fun e w' => e = .returned (.bool (validX c)) ∧ Below w.heap.size w w' := by
  obtain ⟨A, m, B, r, rfl, rfl⟩ := h.shape
  have HR : Hid (validX c = (false)) := Lib.hid (by
    show validC c.cn = _
    unfold validC
    rw [if_neg (show ¬ (c.cn.k = 1 ∨ c.cn.k = 2) by show ¬ (c.k = 1 ∨ c.k = 2); omega), if_neg (show ¬ (c.cn.k = 3 ∨ c.cn.k = 4) by show ¬ (c.k = 3 ∨ c.k = 4); omega), if_neg (show ¬ c.cn.k = 5 by show ¬ c.k = 5; omega)]
    all_goals rfl)
  obtain ⟨⟨hl, hr, hx⟩, ⟨n, hS⟩, hRow⟩ := h.read
  obtain ⟨k, l, rr, xk, xl, xa, cs, b⟩ := c
  simp only at hl hr hx hS hRow HR hsz hk ⊢
  unfold maxI at hl hr hx
  have hcl := hRow.1
  rw [ints_length] at hcl
  have HTl := Lib.hid (fun w => specIsT_any l w (by unfold maxLen; omega))
  have HTr := Lib.hid (fun w => specIsT_any rr w (by unfold maxLen; omega))
  have HZ := Lib.hid (fun w => specZero_any xk xl A xa.items.length m w (SlP.len hS))
  have HV := Lib.hid (fun wr (hb : Below w.heap.size w wr) => specValid_any n w.heap.size xk xl _ xa wr (hS.mono hb (Nat.le_refl _)) hb.size hsz hx)
  have HC := Lib.hid (fun wr (hb : Below w.heap.size w wr) => specCoeffs_any _ cs _ wr (hRow.row.kept hb))
  have HI := Lib.hid (fun wr => l1In_all b (-99) 99 (inR (-99) 99 b) wr rfl)
  have HB0 := Lib.hid ((Below.refl w.heap.size w).alloc (Nat.le_refl _) (.cells #[.int .i64 k, .string l, .string rr, .int .i64 xk, .string xl, .slice A xa.items.length m, .slice B cs.length r, .int .i64 b] 29))
  have HBX := Lib.hid (boxC_new w ⟨k, l, rr, xk, xl, xa, cs, b⟩ (.slice A xa.items.length m) (.slice B cs.length r) 29)
  clear hS hRow hl hr hx hsz
  obtain ⟨k1, k2, k3, k4, k5⟩ : (k == 1) = false ∧ (k == 2) = false ∧ (k == 3) = false ∧ (k == 4) = false ∧ (k == 5) = false := by simp only [beq_eq_false_iff_ne]; omega
  clear hk
  by_cases qn : cs.length = 0
  · have kn : ((cs.length : Int) == 0) = true := by simp [qn]
    have HLen := Lib.hid (show decide (cs.length = 0) = true from decide_eq_true qn)
    clear qn
    by_cases qb : b = 0
    · have kb : (b == 0) = true := by simp [qb]
      have HB := Lib.hid (show decide (b = 0) = true by simp [qb])
      clear qb
      go_enter Tryz.func16, Tryz.ntmps16
      go_wp2_with (first | (go_at_call 59; first | ((with_reducible refine (HTl.out _).mono ?_); rintro e w' ⟨rfl, rfl⟩) | ((with_reducible refine (HTr.out _).mono ?_); rintro e w' ⟨rfl, rfl⟩)) | (go_at_call 60; (with_reducible refine (HZ.out _).mono ?_); rintro e w1 ⟨rfl, hb1⟩; have HB1 := Lib.hid hb1; obtain ⟨c0, c1, c2, c3, c4, c5, c6, c7⟩ := (HBX.out.kept hb1).cells; clear hb1) | (go_at_call 61; (with_reducible refine (HV.out _ HB0.out).mono ?_); rintro e w1 ⟨rfl, hb1⟩; have HB1 := Lib.hid hb1; clear hb1) | (go_at_call 62; (with_reducible refine (HC.out _ (HB0.out.trans (HB1.out.mono HB0.out.size))).mono ?_); rintro e w' ⟨rfl, rfl⟩) | (go_at_call 63; (with_reducible refine (HI.out _).mono ?_); rintro e w' ⟨rfl, rfl⟩))
      go_ret
      exact ⟨congrArg (fun z => Ending.returned (.bool z)) (by rw [HR.out]; first | done | rfl | (rw [HLen.out, HB.out]; rfl) | (rw [HLen.out]; rfl)), HB0.out⟩
    · have kb : (b == 0) = false := by simp [qb]
      have HB := Lib.hid (show decide (b = 0) = false by simp [qb])
      clear qb
      go_enter Tryz.func16, Tryz.ntmps16
      go_wp2_with (first | (go_at_call 59; first | ((with_reducible refine (HTl.out _).mono ?_); rintro e w' ⟨rfl, rfl⟩) | ((with_reducible refine (HTr.out _).mono ?_); rintro e w' ⟨rfl, rfl⟩)) | (go_at_call 60; (with_reducible refine (HZ.out _).mono ?_); rintro e w1 ⟨rfl, hb1⟩; have HB1 := Lib.hid hb1; obtain ⟨c0, c1, c2, c3, c4, c5, c6, c7⟩ := (HBX.out.kept hb1).cells; clear hb1) | (go_at_call 61; (with_reducible refine (HV.out _ HB0.out).mono ?_); rintro e w1 ⟨rfl, hb1⟩; have HB1 := Lib.hid hb1; clear hb1) | (go_at_call 62; (with_reducible refine (HC.out _ (HB0.out.trans (HB1.out.mono HB0.out.size))).mono ?_); rintro e w' ⟨rfl, rfl⟩) | (go_at_call 63; (with_reducible refine (HI.out _).mono ?_); rintro e w' ⟨rfl, rfl⟩))
      go_ret
      exact ⟨congrArg (fun z => Ending.returned (.bool z)) (by rw [HR.out]; first | done | rfl | (rw [HLen.out, HB.out]; rfl) | (rw [HLen.out]; rfl)), HB0.out⟩
  · have kn : ((cs.length : Int) == 0) = false := by rw [beq_eq_false_iff_ne]; omega
    have HLen := Lib.hid (show decide (cs.length = 0) = false from decide_eq_false qn)
    have HB := Lib.hid (show True = True by rfl)
    clear qn
    go_enter Tryz.func16, Tryz.ntmps16
    go_wp2_with (first | (go_at_call 59; first | ((with_reducible refine (HTl.out _).mono ?_); rintro e w' ⟨rfl, rfl⟩) | ((with_reducible refine (HTr.out _).mono ?_); rintro e w' ⟨rfl, rfl⟩)) | (go_at_call 60; (with_reducible refine (HZ.out _).mono ?_); rintro e w1 ⟨rfl, hb1⟩; have HB1 := Lib.hid hb1; obtain ⟨c0, c1, c2, c3, c4, c5, c6, c7⟩ := (HBX.out.kept hb1).cells; clear hb1) | (go_at_call 61; (with_reducible refine (HV.out _ HB0.out).mono ?_); rintro e w1 ⟨rfl, hb1⟩; have HB1 := Lib.hid hb1; clear hb1) | (go_at_call 62; (with_reducible refine (HC.out _ (HB0.out.trans (HB1.out.mono HB0.out.size))).mono ?_); rintro e w' ⟨rfl, rfl⟩) | (go_at_call 63; (with_reducible refine (HI.out _).mono ?_); rintro e w' ⟨rfl, rfl⟩))
    go_ret
    exact ⟨congrArg (fun z => Ending.returned (.bool z)) (by rw [HR.out]; first | done | rfl | (rw [HLen.out, HB.out]; rfl) | (rw [HLen.out]; rfl)), HB0.out⟩

theorem specVC_any (c : Cx) (xu vc : Value) (w : World) (h : CnO w xu vc c) (hsz : c.xa.size ≤ 2097152) :
    Calls Tryz.prog 16 #[.agg #[.int .i64 c.k, .string c.l, .string c.r, .int .i64 c.xk, .string c.xl, xu, vc, .int .i64 c.b]] w fun e w' => e = .returned (.bool (validX c)) ∧ Below w.heap.size w w' := by
  by_cases h12 : c.k = 1 ∨ c.k = 2
  · exact specVC_12 c xu vc w h hsz h12
  · by_cases h34 : c.k = 3 ∨ c.k = 4
    · exact specVC_34 c xu vc w h hsz h34
    · by_cases h5 : c.k = 5
      · exact specVC_5 c xu vc w h hsz h5
      · exact specVC_no c xu vc w h hsz (by omega)
end Go.Proofs.YtppliiingoonlaaGreatDoor

/-
  What spec.IsValidProblem answers.
-/
namespace Go.Proofs.YtppliiingoonlaaGreatDoor
open Go.RowKit

theorem take_all_step {ps : List Cx} {j : Nat} {c : Cx} (f : Cx → Bool) (h : ps[j]? = some c) (ha : (ps.take j).all f = true) (hc : f c = true) : (ps.take (j + 1)).all f = true := by
  have hlt := (List.getElem?_eq_some_iff.1 h).1
  rw [List.take_succ_eq_append_getElem hlt, (List.getElem?_eq_some_iff.1 h).2, List.all_append, ha]
  simp [hc]
theorem all_no {ps : List Cx} {j : Nat} {c : Cx} (f : Cx → Bool) (h : ps[j]? = some c) (hc : f c = false) : ps.all f = false := by
  rw [Bool.eq_false_iff]
  intro e
  have := List.all_eq_true.1 e c (List.mem_of_getElem? h)
  rw [hc] at this
  cases this

set_option maxRecDepth 100000 in
set_option maxHeartbeats 3200000 in
theorem specVP_any (ps : List Cx) (v : Value) (w : World) (h : PrO w v ps) (hsz : ∀ c ∈ ps, c.xa.size ≤ 2097152) :
    Calls Tryz.prog 31 #[.agg #[v]] w fun e w' => e = .returned (.bool (validP ps)) ∧ Below w.heap.size w w' := by
  obtain ⟨hl, A, m, rfl⟩ := h.shape
  unfold maxI at hl
  obtain ⟨W, hW⟩ : ∃ W, W = w.alloc (.cells #[.slice A ps.length m] 45) := ⟨_, rfl⟩
  have hb0 : Below w.heap.size w W := by rw [hW]; exact (Below.refl _ _).alloc (Nat.le_refl _) _
  have hbx : BoxP W w.heap.size (.slice A ps.length m) := by rw [hW]; exact boxP_new w _ _
  have HWE := Lib.hid hW
  have HB0 := Lib.hid hb0
  have HBX := Lib.hid (fun (V : World) (hb : Below W.heap.size W V) => (hbx.kept hb).cell)
  have HE := Lib.hid (fun (V : World) (hb : Below W.heap.size W V) (j : Nat) (hj : j < ps.length) => PrR.at ((h.kept hb0).kept hb) hj)
  have HSZ := Lib.hid hsz
  have HV := Lib.hid (fun (e : validP ps = false → False) => e)
  clear hW hb0 hbx h hsz HV
  go_enter Tryz.func31, Tryz.ntmps31
  go_wp2_with fail
  rw [← HWE.out]
  go_loopw [3] (fun i wr => ∃ j : Nat, i = .int .i64 j ∧ j ≤ ps.length ∧ Hid ((ps.take j).all validX = true) ∧ Below W.heap.size W wr) (fun i _ => ps.length - (intOf i).toNat)
  case atStart => exact ⟨0, rfl, Nat.zero_le _, Lib.hid rfl, Below.refl _ _⟩
  case round =>
    obtain ⟨j, rfl, hj, HA, hb⟩ := hrel
    have HB := Lib.hid hb
    have hbc := HBX.out wr hb
    clear hb
    by_cases hlt : j < ps.length
    · obtain ⟨g, o, rfl, c, xu, vc, hx, ha, hc⟩ := HE.out wr HB.out j hlt
      obtain ⟨A1, m1, B1, r1, rfl, rfl⟩ := hc.shape
      obtain ⟨c0, c1, c2, c3, c4, c5, c6, c7⟩ := ha
      have HI := Lib.hid (specVC_any c _ _ wr hc (HSZ.out c (List.mem_of_getElem? hx)))
      have HX := Lib.hid hx
      clear hc hx
      cases hv : validX c with
      | true =>
        rw [hv] at HI
        have HV := Lib.hid hv
        clear hv
        go_wp2_with fail
        refine HI.out.mono ?_
        rintro e w1 ⟨rfl, hb1⟩
        have HB1 := Lib.hid (HB.out.trans (hb1.mono HB.out.size))
        clear hb1
        go_wp2_with fail
        go_roundw
        case rel => exact ⟨j + 1, by go_num, by omega, Lib.hid (take_all_step validX HX.out HA.out HV.out), HB1.out⟩
        case measure => simp [intOf]; omega
      | false =>
        rw [hv] at HI
        have HR := Lib.hid (show validP ps = false by unfold validP; rw [all_no validX HX.out hv]; rfl)
        clear hv
        go_wp2_with fail
        refine HI.out.mono ?_
        rintro e w1 ⟨rfl, hb1⟩
        have HB1 := Lib.hid (HB.out.trans (hb1.mono HB.out.size))
        clear hb1
        go_wp2_with fail
        go_ret
        exact ⟨by rw [HR.out]; rfl, HB0.out.trans (HB1.out.mono HB0.out.size)⟩
    · obtain rfl : j = ps.length := by omega
      have HR := Lib.hid (show validP ps = decide ((ps.length : Int) ≤ 6) by
        have := HA.out
        rw [List.take_length] at this
        unfold validP
        rw [this, Bool.true_and]
        congr 1
        exact propext ⟨fun h => by omega, fun h => by omega⟩)
      go_wp2_with fail
      go_ret
      exact ⟨by rw [HR.out]; rfl, HB0.out.trans (HB.out.mono HB0.out.size)⟩
end Go.Proofs.YtppliiingoonlaaGreatDoor

/-
  What spec.EqualRegex answers: whether two expressions are the same.
-/
namespace Go.Proofs.YtppliiingoonlaaGreatDoor
open Go.RowKit
/-- Whether two nodes are the same, in all that lies beneath. -/
def sameRx (k k' : Int) (l l' : ByteArray) (a b : Fr) : Bool := decide (k = k' ∧ l = l' ∧ a = b)
theorem items_inj : ∀ {f g : Fr}, f.items = g.items → f = g
  | .nil, .nil, _ => rfl
  | .nil, .cons _ _ _ _, h => by simp [Fr.items] at h
  | .cons _ _ _ _, .nil, h => by simp [Fr.items] at h
  | .cons k l a r, .cons k' l' a' r', h => by
    simp only [Fr.items, List.cons.injEq, Prod.mk.injEq] at h
    obtain ⟨⟨rfl, rfl, rfl⟩, h2⟩ := h
    rw [items_inj h2]
theorem eq_take {f g : Fr} {j : Nat} {x : Int × ByteArray × Fr} (h : f.items.take j = g.items.take j) (hf : f.items[j]? = some x) (hg : g.items[j]? = some x) : f.items.take (j + 1) = g.items.take (j + 1) := by
  rw [List.take_succ_eq_append_getElem (List.getElem?_eq_some_iff.1 hf).1, List.take_succ_eq_append_getElem (List.getElem?_eq_some_iff.1 hg).1, h, (List.getElem?_eq_some_iff.1 hf).2, (List.getElem?_eq_some_iff.1 hg).2]

theorem bytes_ne {l l' : ByteArray} (h : ¬ l = l') : (l.toList == l'.toList) = false ∧ (l.toList != l'.toList) = true := by
  have hn : ¬ l.toList = l'.toList := fun e => h (by rw [ByteArray.toList_eq, ByteArray.toList_eq] at e; exact ByteArray.ext (Array.toList_inj.1 e))
  exact ⟨by simpa using hn, by simpa using hn⟩
theorem boxes {w wr : World} {k k' : Int} {l l' : ByteArray} {u u' : Value} {t : TypeId} (hb : Below (w.heap.size + 1 + 1) ((w.alloc (.cells #[.int .i64 k, .string l, u] t)).alloc (.cells #[.int .i64 k', .string l', u'] t)) wr) :
    wr.cell? ⟨w.heap.size, 2, none⟩ = some u ∧ wr.cell? ⟨w.heap.size + 1, 2, none⟩ = some u' :=
  ⟨(hb.cell (p := ⟨w.heap.size, 2, none⟩) (by show w.heap.size < w.heap.size + 1 + 1; omega)).trans (by simp), (hb.cell (p := ⟨w.heap.size + 1, 2, none⟩) (Nat.lt_succ_self _)).trans (by simp)⟩

end Go.Proofs.YtppliiingoonlaaGreatDoor
