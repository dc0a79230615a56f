/-
  Texts of one proof, one behind the other.
-/
import Derived.StillTailTactics
import Derived.Outline
import Derived.LaidEql
import Derived.Maps.Own
import Derived.Deep.RegionLaw
import Derived.OwnWalk
import Derived.WalkKit
import Derived.Maps.AppendAt
import Derived.Test.YtjjjdieljljcoaaGreatDoorxPVPack3

/-
  What spec.IsValidConstraint answers.
-/
namespace Go.Proofs.YtjjjdieljljcoaaGreatDoor
open Go.RowKit


set_option maxRecDepth 100000 in
set_option maxHeartbeats 12800000 in
theorem specVC_12 (c : Cx) (xu vc : Value) (w : World) (h : CnO w xu vc c) (hsz : c.xa.size ≤ 2097152) (hk : c.k = 1 ∨ c.k = 2) :
    Calls Tryz.prog 14 #[.agg #[.int .i64 c.k, .string c.l, .string c.r, .int .i64 c.xk, .string c.xl, xu, vc, .int .i64 c.b]] w fun e w' => e = .returned (.bool (validX c)) ∧ Below w.heap.size w w' := by
  obtain ⟨A, m, B, r, rfl, rfl⟩ := h.shape
  have HR : Hid (validX c = (isT c.l.data.toList && isT c.r.data.toList && zB c.xk c.xl c.xa.items.length && (decide (c.cs.length = 0) && decide (c.b = 0)))) := Lib.hid (by
    show validC c.cn = _
    unfold validC
    rw [if_pos (show c.cn.k = 1 ∨ c.cn.k = 2 from hk)]
    all_goals rfl)
  obtain ⟨⟨hl, hr, hx⟩, ⟨n, hS⟩, hRow⟩ := h.read
  obtain ⟨k, l, rr, xk, xl, xa, cs, b⟩ := c
  simp only at hl hr hx hS hRow HR hsz hk ⊢
  unfold maxI at hl hr hx
  have hcl := hRow.1
  rw [ints_length] at hcl
  have HTl := Lib.hid (fun w => specIsT_any l w (by unfold maxLen; omega))
  have HTr := Lib.hid (fun w => specIsT_any rr w (by unfold maxLen; omega))
  have HZ := Lib.hid (fun w => specZero_any xk xl A xa.items.length m w (SlP.len hS))
  have HV := Lib.hid (fun wr (hb : Below w.heap.size w wr) => specValid_any n w.heap.size xk xl _ xa wr (hS.mono hb (Nat.le_refl _)) hb.size hsz hx)
  have HC := Lib.hid (fun wr (hb : Below w.heap.size w wr) => specCoeffs_any _ cs _ wr (hRow.row.kept hb))
  have HI := Lib.hid (fun wr => l1In_all b (-99) 99 (inR (-99) 99 b) wr rfl)
  have HB0 := Lib.hid ((Below.refl w.heap.size w).alloc (Nat.le_refl _) (.cells #[.int .i64 k, .string l, .string rr, .int .i64 xk, .string xl, .slice A xa.items.length m, .slice B cs.length r, .int .i64 b] 29))
  have HBX := Lib.hid (boxC_new w ⟨k, l, rr, xk, xl, xa, cs, b⟩ (.slice A xa.items.length m) (.slice B cs.length r) 29)
  obtain ⟨tl, htl⟩ : ∃ tl, tl = isT l.data.toList := ⟨_, rfl⟩
  rw [← htl] at HR
  rw [← htl] at HTl
  clear htl
  obtain ⟨tr, htr⟩ : ∃ tr, tr = isT rr.data.toList := ⟨_, rfl⟩
  rw [← htr] at HR
  rw [← htr] at HTr
  clear htr
  obtain ⟨z, hz⟩ : ∃ z, z = zB xk xl xa.items.length := ⟨_, rfl⟩
  rw [← hz] at HR
  rw [← hz] at HZ
  clear hz
  clear hS hRow hl hr hx hsz
  rcases hk with rfl | rfl
  · by_cases qn : cs.length = 0
    · have kn : ((cs.length : Int) == 0) = true := by simp [qn]
      have HLen := Lib.hid (show decide (cs.length = 0) = true from decide_eq_true qn)
      clear qn
      by_cases qb : b = 0
      · have kb : (b == 0) = true := by simp [qb]
        have HB := Lib.hid (show decide (b = 0) = true by simp [qb])
        clear qb
        cases tl with
        | false =>
          go_enter Tryz.func14, Tryz.ntmps14
          go_wp2_with (first | (go_at_call 41; first | ((with_reducible refine (HTl.out _).mono ?_); rintro e w' ⟨rfl, rfl⟩) | ((with_reducible refine (HTr.out _).mono ?_); rintro e w' ⟨rfl, rfl⟩)) | (go_at_call 42; (with_reducible refine (HZ.out _).mono ?_); rintro e w1 ⟨rfl, hb1⟩; have HB1 := Lib.hid hb1; obtain ⟨c0, c1, c2, c3, c4, c5, c6, c7⟩ := (HBX.out.kept hb1).cells; clear hb1) | (go_at_call 43; (with_reducible refine (HV.out _ HB0.out).mono ?_); rintro e w1 ⟨rfl, hb1⟩; have HB1 := Lib.hid hb1; clear hb1) | (go_at_call 44; (with_reducible refine (HC.out _ (HB0.out.trans (HB1.out.mono HB0.out.size))).mono ?_); rintro e w' ⟨rfl, rfl⟩) | (go_at_call 45; (with_reducible refine (HI.out _).mono ?_); rintro e w' ⟨rfl, rfl⟩))
          go_ret
          exact ⟨congrArg (fun z => Ending.returned (.bool z)) (by rw [HR.out]; first | done | rfl | (rw [HLen.out, HB.out]; rfl) | (rw [HLen.out]; rfl)), HB0.out⟩
        | true =>
          cases tr with
          | false =>
            go_enter Tryz.func14, Tryz.ntmps14
            go_wp2_with (first | (go_at_call 41; first | ((with_reducible refine (HTl.out _).mono ?_); rintro e w' ⟨rfl, rfl⟩) | ((with_reducible refine (HTr.out _).mono ?_); rintro e w' ⟨rfl, rfl⟩)) | (go_at_call 42; (with_reducible refine (HZ.out _).mono ?_); rintro e w1 ⟨rfl, hb1⟩; have HB1 := Lib.hid hb1; obtain ⟨c0, c1, c2, c3, c4, c5, c6, c7⟩ := (HBX.out.kept hb1).cells; clear hb1) | (go_at_call 43; (with_reducible refine (HV.out _ HB0.out).mono ?_); rintro e w1 ⟨rfl, hb1⟩; have HB1 := Lib.hid hb1; clear hb1) | (go_at_call 44; (with_reducible refine (HC.out _ (HB0.out.trans (HB1.out.mono HB0.out.size))).mono ?_); rintro e w' ⟨rfl, rfl⟩) | (go_at_call 45; (with_reducible refine (HI.out _).mono ?_); rintro e w' ⟨rfl, rfl⟩))
            go_ret
            exact ⟨congrArg (fun z => Ending.returned (.bool z)) (by rw [HR.out]; first | done | rfl | (rw [HLen.out, HB.out]; rfl) | (rw [HLen.out]; rfl)), HB0.out⟩
          | true =>
            cases z with
            | false =>
              go_enter Tryz.func14, Tryz.ntmps14
              go_wp2_with (first | (go_at_call 41; first | ((with_reducible refine (HTl.out _).mono ?_); rintro e w' ⟨rfl, rfl⟩) | ((with_reducible refine (HTr.out _).mono ?_); rintro e w' ⟨rfl, rfl⟩)) | (go_at_call 42; (with_reducible refine (HZ.out _).mono ?_); rintro e w1 ⟨rfl, hb1⟩; have HB1 := Lib.hid hb1; obtain ⟨c0, c1, c2, c3, c4, c5, c6, c7⟩ := (HBX.out.kept hb1).cells; clear hb1) | (go_at_call 43; (with_reducible refine (HV.out _ HB0.out).mono ?_); rintro e w1 ⟨rfl, hb1⟩; have HB1 := Lib.hid hb1; clear hb1) | (go_at_call 44; (with_reducible refine (HC.out _ (HB0.out.trans (HB1.out.mono HB0.out.size))).mono ?_); rintro e w' ⟨rfl, rfl⟩) | (go_at_call 45; (with_reducible refine (HI.out _).mono ?_); rintro e w' ⟨rfl, rfl⟩))
              go_ret
              exact ⟨congrArg (fun z => Ending.returned (.bool z)) (by rw [HR.out]; first | done | rfl | (rw [HLen.out, HB.out]; rfl) | (rw [HLen.out]; rfl)), HB0.out.trans (HB1.out.mono HB0.out.size)⟩
            | true =>
              go_enter Tryz.func14, Tryz.ntmps14
              go_wp2_with (first | (go_at_call 41; first | ((with_reducible refine (HTl.out _).mono ?_); rintro e w' ⟨rfl, rfl⟩) | ((with_reducible refine (HTr.out _).mono ?_); rintro e w' ⟨rfl, rfl⟩)) | (go_at_call 42; (with_reducible refine (HZ.out _).mono ?_); rintro e w1 ⟨rfl, hb1⟩; have HB1 := Lib.hid hb1; obtain ⟨c0, c1, c2, c3, c4, c5, c6, c7⟩ := (HBX.out.kept hb1).cells; clear hb1) | (go_at_call 43; (with_reducible refine (HV.out _ HB0.out).mono ?_); rintro e w1 ⟨rfl, hb1⟩; have HB1 := Lib.hid hb1; clear hb1) | (go_at_call 44; (with_reducible refine (HC.out _ (HB0.out.trans (HB1.out.mono HB0.out.size))).mono ?_); rintro e w' ⟨rfl, rfl⟩) | (go_at_call 45; (with_reducible refine (HI.out _).mono ?_); rintro e w' ⟨rfl, rfl⟩))
              go_ret
              exact ⟨congrArg (fun z => Ending.returned (.bool z)) (by rw [HR.out]; first | done | rfl | (rw [HLen.out, HB.out]; rfl) | (rw [HLen.out]; rfl)), HB0.out.trans (HB1.out.mono HB0.out.size)⟩
      · have kb : (b == 0) = false := by simp [qb]
        have HB := Lib.hid (show decide (b = 0) = false by simp [qb])
        clear qb
        cases tl with
        | false =>
          go_enter Tryz.func14, Tryz.ntmps14
          go_wp2_with (first | (go_at_call 41; first | ((with_reducible refine (HTl.out _).mono ?_); rintro e w' ⟨rfl, rfl⟩) | ((with_reducible refine (HTr.out _).mono ?_); rintro e w' ⟨rfl, rfl⟩)) | (go_at_call 42; (with_reducible refine (HZ.out _).mono ?_); rintro e w1 ⟨rfl, hb1⟩; have HB1 := Lib.hid hb1; obtain ⟨c0, c1, c2, c3, c4, c5, c6, c7⟩ := (HBX.out.kept hb1).cells; clear hb1) | (go_at_call 43; (with_reducible refine (HV.out _ HB0.out).mono ?_); rintro e w1 ⟨rfl, hb1⟩; have HB1 := Lib.hid hb1; clear hb1) | (go_at_call 44; (with_reducible refine (HC.out _ (HB0.out.trans (HB1.out.mono HB0.out.size))).mono ?_); rintro e w' ⟨rfl, rfl⟩) | (go_at_call 45; (with_reducible refine (HI.out _).mono ?_); rintro e w' ⟨rfl, rfl⟩))
          go_ret
          exact ⟨congrArg (fun z => Ending.returned (.bool z)) (by rw [HR.out]; first | done | rfl | (rw [HLen.out, HB.out]; rfl) | (rw [HLen.out]; rfl)), HB0.out⟩
        | true =>
          cases tr with
          | false =>
            go_enter Tryz.func14, Tryz.ntmps14
            go_wp2_with (first | (go_at_call 41; first | ((with_reducible refine (HTl.out _).mono ?_); rintro e w' ⟨rfl, rfl⟩) | ((with_reducible refine (HTr.out _).mono ?_); rintro e w' ⟨rfl, rfl⟩)) | (go_at_call 42; (with_reducible refine (HZ.out _).mono ?_); rintro e w1 ⟨rfl, hb1⟩; have HB1 := Lib.hid hb1; obtain ⟨c0, c1, c2, c3, c4, c5, c6, c7⟩ := (HBX.out.kept hb1).cells; clear hb1) | (go_at_call 43; (with_reducible refine (HV.out _ HB0.out).mono ?_); rintro e w1 ⟨rfl, hb1⟩; have HB1 := Lib.hid hb1; clear hb1) | (go_at_call 44; (with_reducible refine (HC.out _ (HB0.out.trans (HB1.out.mono HB0.out.size))).mono ?_); rintro e w' ⟨rfl, rfl⟩) | (go_at_call 45; (with_reducible refine (HI.out _).mono ?_); rintro e w' ⟨rfl, rfl⟩))
            go_ret
            exact ⟨congrArg (fun z => Ending.returned (.bool z)) (by rw [HR.out]; first | done | rfl | (rw [HLen.out, HB.out]; rfl) | (rw [HLen.out]; rfl)), HB0.out⟩
          | true =>
            cases z with
            | false =>
              go_enter Tryz.func14, Tryz.ntmps14
              go_wp2_with (first | (go_at_call 41; first | ((with_reducible refine (HTl.out _).mono ?_); rintro e w' ⟨rfl, rfl⟩) | ((with_reducible refine (HTr.out _).mono ?_); rintro e w' ⟨rfl, rfl⟩)) | (go_at_call 42; (with_reducible refine (HZ.out _).mono ?_); rintro e w1 ⟨rfl, hb1⟩; have HB1 := Lib.hid hb1; obtain ⟨c0, c1, c2, c3, c4, c5, c6, c7⟩ := (HBX.out.kept hb1).cells; clear hb1) | (go_at_call 43; (with_reducible refine (HV.out _ HB0.out).mono ?_); rintro e w1 ⟨rfl, hb1⟩; have HB1 := Lib.hid hb1; clear hb1) | (go_at_call 44; (with_reducible refine (HC.out _ (HB0.out.trans (HB1.out.mono HB0.out.size))).mono ?_); rintro e w' ⟨rfl, rfl⟩) | (go_at_call 45; (with_reducible refine (HI.out _).mono ?_); rintro e w' ⟨rfl, rfl⟩))
              go_ret
              exact ⟨congrArg (fun z => Ending.returned (.bool z)) (by rw [HR.out]; first | done | rfl | (rw [HLen.out, HB.out]; rfl) | (rw [HLen.out]; rfl)), HB0.out.trans (HB1.out.mono HB0.out.size)⟩
            | true =>
              go_enter Tryz.func14, Tryz.ntmps14
              go_wp2_with (first | (go_at_call 41; first | ((with_reducible refine (HTl.out _).mono ?_); rintro e w' ⟨rfl, rfl⟩) | ((with_reducible refine (HTr.out _).mono ?_); rintro e w' ⟨rfl, rfl⟩)) | (go_at_call 42; (with_reducible refine (HZ.out _).mono ?_); rintro e w1 ⟨rfl, hb1⟩; have HB1 := Lib.hid hb1; obtain ⟨c0, c1, c2, c3, c4, c5, c6, c7⟩ := (HBX.out.kept hb1).cells; clear hb1) | (go_at_call 43; (with_reducible refine (HV.out _ HB0.out).mono ?_); rintro e w1 ⟨rfl, hb1⟩; have HB1 := Lib.hid hb1; clear hb1) | (go_at_call 44; (with_reducible refine (HC.out _ (HB0.out.trans (HB1.out.mono HB0.out.size))).mono ?_); rintro e w' ⟨rfl, rfl⟩) | (go_at_call 45; (with_reducible refine (HI.out _).mono ?_); rintro e w' ⟨rfl, rfl⟩))
              go_ret
              exact ⟨congrArg (fun z => Ending.returned (.bool z)) (by rw [HR.out]; first | done | rfl | (rw [HLen.out, HB.out]; rfl) | (rw [HLen.out]; rfl)), HB0.out.trans (HB1.out.mono HB0.out.size)⟩
    · have kn : ((cs.length : Int) == 0) = false := by rw [beq_eq_false_iff_ne]; omega
      have HLen := Lib.hid (show decide (cs.length = 0) = false from decide_eq_false qn)
      have HB := Lib.hid (show True = True by rfl)
      clear qn
      cases tl with
      | false =>
        go_enter Tryz.func14, Tryz.ntmps14
        go_wp2_with (first | (go_at_call 41; first | ((with_reducible refine (HTl.out _).mono ?_); rintro e w' ⟨rfl, rfl⟩) | ((with_reducible refine (HTr.out _).mono ?_); rintro e w' ⟨rfl, rfl⟩)) | (go_at_call 42; (with_reducible refine (HZ.out _).mono ?_); rintro e w1 ⟨rfl, hb1⟩; have HB1 := Lib.hid hb1; obtain ⟨c0, c1, c2, c3, c4, c5, c6, c7⟩ := (HBX.out.kept hb1).cells; clear hb1) | (go_at_call 43; (with_reducible refine (HV.out _ HB0.out).mono ?_); rintro e w1 ⟨rfl, hb1⟩; have HB1 := Lib.hid hb1; clear hb1) | (go_at_call 44; (with_reducible refine (HC.out _ (HB0.out.trans (HB1.out.mono HB0.out.size))).mono ?_); rintro e w' ⟨rfl, rfl⟩) | (go_at_call 45; (with_reducible refine (HI.out _).mono ?_); rintro e w' ⟨rfl, rfl⟩))
        go_ret
        exact ⟨congrArg (fun z => Ending.returned (.bool z)) (by rw [HR.out]; first | done | rfl | (rw [HLen.out, HB.out]; rfl) | (rw [HLen.out]; rfl)), HB0.out⟩
      | true =>
        cases tr with
        | false =>
          go_enter Tryz.func14, Tryz.ntmps14
          go_wp2_with (first | (go_at_call 41; first | ((with_reducible refine (HTl.out _).mono ?_); rintro e w' ⟨rfl, rfl⟩) | ((with_reducible refine (HTr.out _).mono ?_); rintro e w' ⟨rfl, rfl⟩)) | (go_at_call 42; (with_reducible refine (HZ.out _).mono ?_); rintro e w1 ⟨rfl, hb1⟩; have HB1 := Lib.hid hb1; obtain ⟨c0, c1, c2, c3, c4, c5, c6, c7⟩ := (HBX.out.kept hb1).cells; clear hb1) | (go_at_call 43; (with_reducible refine (HV.out _ HB0.out).mono ?_); rintro e w1 ⟨rfl, hb1⟩; have HB1 := Lib.hid hb1; clear hb1) | (go_at_call 44; (with_reducible refine (HC.out _ (HB0.out.trans (HB1.out.mono HB0.out.size))).mono ?_); rintro e w' ⟨rfl, rfl⟩) | (go_at_call 45; (with_reducible refine (HI.out _).mono ?_); rintro e w' ⟨rfl, rfl⟩))
          go_ret
          exact ⟨congrArg (fun z => Ending.returned (.bool z)) (by rw [HR.out]; first | done | rfl | (rw [HLen.out, HB.out]; rfl) | (rw [HLen.out]; rfl)), HB0.out⟩
        | true =>
          cases z with
          | false =>
            go_enter Tryz.func14, Tryz.ntmps14
            go_wp2_with (first | (go_at_call 41; first | ((with_reducible refine (HTl.out _).mono ?_); rintro e w' ⟨rfl, rfl⟩) | ((with_reducible refine (HTr.out _).mono ?_); rintro e w' ⟨rfl, rfl⟩)) | (go_at_call 42; (with_reducible refine (HZ.out _).mono ?_); rintro e w1 ⟨rfl, hb1⟩; have HB1 := Lib.hid hb1; obtain ⟨c0, c1, c2, c3, c4, c5, c6, c7⟩ := (HBX.out.kept hb1).cells; clear hb1) | (go_at_call 43; (with_reducible refine (HV.out _ HB0.out).mono ?_); rintro e w1 ⟨rfl, hb1⟩; have HB1 := Lib.hid hb1; clear hb1) | (go_at_call 44; (with_reducible refine (HC.out _ (HB0.out.trans (HB1.out.mono HB0.out.size))).mono ?_); rintro e w' ⟨rfl, rfl⟩) | (go_at_call 45; (with_reducible refine (HI.out _).mono ?_); rintro e w' ⟨rfl, rfl⟩))
            go_ret
            exact ⟨congrArg (fun z => Ending.returned (.bool z)) (by rw [HR.out]; first | done | rfl | (rw [HLen.out, HB.out]; rfl) | (rw [HLen.out]; rfl)), HB0.out.trans (HB1.out.mono HB0.out.size)⟩
          | true =>
            go_enter Tryz.func14, Tryz.ntmps14
            go_wp2_with (first | (go_at_call 41; first | ((with_reducible refine (HTl.out _).mono ?_); rintro e w' ⟨rfl, rfl⟩) | ((with_reducible refine (HTr.out _).mono ?_); rintro e w' ⟨rfl, rfl⟩)) | (go_at_call 42; (with_reducible refine (HZ.out _).mono ?_); rintro e w1 ⟨rfl, hb1⟩; have HB1 := Lib.hid hb1; obtain ⟨c0, c1, c2, c3, c4, c5, c6, c7⟩ := (HBX.out.kept hb1).cells; clear hb1) | (go_at_call 43; (with_reducible refine (HV.out _ HB0.out).mono ?_); rintro e w1 ⟨rfl, hb1⟩; have HB1 := Lib.hid hb1; clear hb1) | (go_at_call 44; (with_reducible refine (HC.out _ (HB0.out.trans (HB1.out.mono HB0.out.size))).mono ?_); rintro e w' ⟨rfl, rfl⟩) | (go_at_call 45; (with_reducible refine (HI.out _).mono ?_); rintro e w' ⟨rfl, rfl⟩))
            go_ret
            exact ⟨congrArg (fun z => Ending.returned (.bool z)) (by rw [HR.out]; first | done | rfl | (rw [HLen.out, HB.out]; rfl) | (rw [HLen.out]; rfl)), HB0.out.trans (HB1.out.mono HB0.out.size)⟩
  · by_cases qn : cs.length = 0
    · have kn : ((cs.length : Int) == 0) = true := by simp [qn]
      have HLen := Lib.hid (show decide (cs.length = 0) = true from decide_eq_true qn)
      clear qn
      by_cases qb : b = 0
      · have kb : (b == 0) = true := by simp [qb]
        have HB := Lib.hid (show decide (b = 0) = true by simp [qb])
        clear qb
        cases tl with
        | false =>
          go_enter Tryz.func14, Tryz.ntmps14
          go_wp2_with (first | (go_at_call 41; first | ((with_reducible refine (HTl.out _).mono ?_); rintro e w' ⟨rfl, rfl⟩) | ((with_reducible refine (HTr.out _).mono ?_); rintro e w' ⟨rfl, rfl⟩)) | (go_at_call 42; (with_reducible refine (HZ.out _).mono ?_); rintro e w1 ⟨rfl, hb1⟩; have HB1 := Lib.hid hb1; obtain ⟨c0, c1, c2, c3, c4, c5, c6, c7⟩ := (HBX.out.kept hb1).cells; clear hb1) | (go_at_call 43; (with_reducible refine (HV.out _ HB0.out).mono ?_); rintro e w1 ⟨rfl, hb1⟩; have HB1 := Lib.hid hb1; clear hb1) | (go_at_call 44; (with_reducible refine (HC.out _ (HB0.out.trans (HB1.out.mono HB0.out.size))).mono ?_); rintro e w' ⟨rfl, rfl⟩) | (go_at_call 45; (with_reducible refine (HI.out _).mono ?_); rintro e w' ⟨rfl, rfl⟩))
          go_ret
          exact ⟨congrArg (fun z => Ending.returned (.bool z)) (by rw [HR.out]; first | done | rfl | (rw [HLen.out, HB.out]; rfl) | (rw [HLen.out]; rfl)), HB0.out⟩
        | true =>
          cases tr with
          | false =>
            go_enter Tryz.func14, Tryz.ntmps14
            go_wp2_with (first | (go_at_call 41; first | ((with_reducible refine (HTl.out _).mono ?_); rintro e w' ⟨rfl, rfl⟩) | ((with_reducible refine (HTr.out _).mono ?_); rintro e w' ⟨rfl, rfl⟩)) | (go_at_call 42; (with_reducible refine (HZ.out _).mono ?_); rintro e w1 ⟨rfl, hb1⟩; have HB1 := Lib.hid hb1; obtain ⟨c0, c1, c2, c3, c4, c5, c6, c7⟩ := (HBX.out.kept hb1).cells; clear hb1) | (go_at_call 43; (with_reducible refine (HV.out _ HB0.out).mono ?_); rintro e w1 ⟨rfl, hb1⟩; have HB1 := Lib.hid hb1; clear hb1) | (go_at_call 44; (with_reducible refine (HC.out _ (HB0.out.trans (HB1.out.mono HB0.out.size))).mono ?_); rintro e w' ⟨rfl, rfl⟩) | (go_at_call 45; (with_reducible refine (HI.out _).mono ?_); rintro e w' ⟨rfl, rfl⟩))
            go_ret
            exact ⟨congrArg (fun z => Ending.returned (.bool z)) (by rw [HR.out]; first | done | rfl | (rw [HLen.out, HB.out]; rfl) | (rw [HLen.out]; rfl)), HB0.out⟩
          | true =>
            cases z with
            | false =>
              go_enter Tryz.func14, Tryz.ntmps14
              go_wp2_with (first | (go_at_call 41; first | ((with_reducible refine (HTl.out _).mono ?_); rintro e w' ⟨rfl, rfl⟩) | ((with_reducible refine (HTr.out _).mono ?_); rintro e w' ⟨rfl, rfl⟩)) | (go_at_call 42; (with_reducible refine (HZ.out _).mono ?_); rintro e w1 ⟨rfl, hb1⟩; have HB1 := Lib.hid hb1; obtain ⟨c0, c1, c2, c3, c4, c5, c6, c7⟩ := (HBX.out.kept hb1).cells; clear hb1) | (go_at_call 43; (with_reducible refine (HV.out _ HB0.out).mono ?_); rintro e w1 ⟨rfl, hb1⟩; have HB1 := Lib.hid hb1; clear hb1) | (go_at_call 44; (with_reducible refine (HC.out _ (HB0.out.trans (HB1.out.mono HB0.out.size))).mono ?_); rintro e w' ⟨rfl, rfl⟩) | (go_at_call 45; (with_reducible refine (HI.out _).mono ?_); rintro e w' ⟨rfl, rfl⟩))
              go_ret
              exact ⟨congrArg (fun z => Ending.returned (.bool z)) (by rw [HR.out]; first | done | rfl | (rw [HLen.out, HB.out]; rfl) | (rw [HLen.out]; rfl)), HB0.out.trans (HB1.out.mono HB0.out.size)⟩
            | true =>
              go_enter Tryz.func14, Tryz.ntmps14
              go_wp2_with (first | (go_at_call 41; first | ((with_reducible refine (HTl.out _).mono ?_); rintro e w' ⟨rfl, rfl⟩) | ((with_reducible refine (HTr.out _).mono ?_); rintro e w' ⟨rfl, rfl⟩)) | (go_at_call 42; (with_reducible refine (HZ.out _).mono ?_); rintro e w1 ⟨rfl, hb1⟩; have HB1 := Lib.hid hb1; obtain ⟨c0, c1, c2, c3, c4, c5, c6, c7⟩ := (HBX.out.kept hb1).cells; clear hb1) | (go_at_call 43; (with_reducible refine (HV.out _ HB0.out).mono ?_); rintro e w1 ⟨rfl, hb1⟩; have HB1 := Lib.hid hb1; clear hb1) | (go_at_call 44; (with_reducible refine (HC.out _ (HB0.out.trans (HB1.out.mono HB0.out.size))).mono ?_); rintro e w' ⟨rfl, rfl⟩) | (go_at_call 45; (with_reducible refine (HI.out _).mono ?_); rintro e w' ⟨rfl, rfl⟩))
              go_ret
              exact ⟨congrArg (fun z => Ending.returned (.bool z)) (by rw [HR.out]; first | done | rfl | (rw [HLen.out, HB.out]; rfl) | (rw [HLen.out]; rfl)), HB0.out.trans (HB1.out.mono HB0.out.size)⟩
      · have kb : (b == 0) = false := by simp [qb]
        have HB := Lib.hid (show decide (b = 0) = false by simp [qb])
        clear qb
        cases tl with
        | false =>
          go_enter Tryz.func14, Tryz.ntmps14
          go_wp2_with (first | (go_at_call 41; first | ((with_reducible refine (HTl.out _).mono ?_); rintro e w' ⟨rfl, rfl⟩) | ((with_reducible refine (HTr.out _).mono ?_); rintro e w' ⟨rfl, rfl⟩)) | (go_at_call 42; (with_reducible refine (HZ.out _).mono ?_); rintro e w1 ⟨rfl, hb1⟩; have HB1 := Lib.hid hb1; obtain ⟨c0, c1, c2, c3, c4, c5, c6, c7⟩ := (HBX.out.kept hb1).cells; clear hb1) | (go_at_call 43; (with_reducible refine (HV.out _ HB0.out).mono ?_); rintro e w1 ⟨rfl, hb1⟩; have HB1 := Lib.hid hb1; clear hb1) | (go_at_call 44; (with_reducible refine (HC.out _ (HB0.out.trans (HB1.out.mono HB0.out.size))).mono ?_); rintro e w' ⟨rfl, rfl⟩) | (go_at_call 45; (with_reducible refine (HI.out _).mono ?_); rintro e w' ⟨rfl, rfl⟩))
          go_ret
          exact ⟨congrArg (fun z => Ending.returned (.bool z)) (by rw [HR.out]; first | done | rfl | (rw [HLen.out, HB.out]; rfl) | (rw [HLen.out]; rfl)), HB0.out⟩
        | true =>
          cases tr with
          | false =>
            go_enter Tryz.func14, Tryz.ntmps14
            go_wp2_with (first | (go_at_call 41; first | ((with_reducible refine (HTl.out _).mono ?_); rintro e w' ⟨rfl, rfl⟩) | ((with_reducible refine (HTr.out _).mono ?_); rintro e w' ⟨rfl, rfl⟩)) | (go_at_call 42; (with_reducible refine (HZ.out _).mono ?_); rintro e w1 ⟨rfl, hb1⟩; have HB1 := Lib.hid hb1; obtain ⟨c0, c1, c2, c3, c4, c5, c6, c7⟩ := (HBX.out.kept hb1).cells; clear hb1) | (go_at_call 43; (with_reducible refine (HV.out _ HB0.out).mono ?_); rintro e w1 ⟨rfl, hb1⟩; have HB1 := Lib.hid hb1; clear hb1) | (go_at_call 44; (with_reducible refine (HC.out _ (HB0.out.trans (HB1.out.mono HB0.out.size))).mono ?_); rintro e w' ⟨rfl, rfl⟩) | (go_at_call 45; (with_reducible refine (HI.out _).mono ?_); rintro e w' ⟨rfl, rfl⟩))
            go_ret
            exact ⟨congrArg (fun z => Ending.returned (.bool z)) (by rw [HR.out]; first | done | rfl | (rw [HLen.out, HB.out]; rfl) | (rw [HLen.out]; rfl)), HB0.out⟩
          | true =>
            cases z with
            | false =>
              go_enter Tryz.func14, Tryz.ntmps14
              go_wp2_with (first | (go_at_call 41; first | ((with_reducible refine (HTl.out _).mono ?_); rintro e w' ⟨rfl, rfl⟩) | ((with_reducible refine (HTr.out _).mono ?_); rintro e w' ⟨rfl, rfl⟩)) | (go_at_call 42; (with_reducible refine (HZ.out _).mono ?_); rintro e w1 ⟨rfl, hb1⟩; have HB1 := Lib.hid hb1; obtain ⟨c0, c1, c2, c3, c4, c5, c6, c7⟩ := (HBX.out.kept hb1).cells; clear hb1) | (go_at_call 43; (with_reducible refine (HV.out _ HB0.out).mono ?_); rintro e w1 ⟨rfl, hb1⟩; have HB1 := Lib.hid hb1; clear hb1) | (go_at_call 44; (with_reducible refine (HC.out _ (HB0.out.trans (HB1.out.mono HB0.out.size))).mono ?_); rintro e w' ⟨rfl, rfl⟩) | (go_at_call 45; (with_reducible refine (HI.out _).mono ?_); rintro e w' ⟨rfl, rfl⟩))
              go_ret
              exact ⟨congrArg (fun z => Ending.returned (.bool z)) (by rw [HR.out]; first | done | rfl | (rw [HLen.out, HB.out]; rfl) | (rw [HLen.out]; rfl)), HB0.out.trans (HB1.out.mono HB0.out.size)⟩
            | true =>
              go_enter Tryz.func14, Tryz.ntmps14
              go_wp2_with (first | (go_at_call 41; first | ((with_reducible refine (HTl.out _).mono ?_); rintro e w' ⟨rfl, rfl⟩) | ((with_reducible refine (HTr.out _).mono ?_); rintro e w' ⟨rfl, rfl⟩)) | (go_at_call 42; (with_reducible refine (HZ.out _).mono ?_); rintro e w1 ⟨rfl, hb1⟩; have HB1 := Lib.hid hb1; obtain ⟨c0, c1, c2, c3, c4, c5, c6, c7⟩ := (HBX.out.kept hb1).cells; clear hb1) | (go_at_call 43; (with_reducible refine (HV.out _ HB0.out).mono ?_); rintro e w1 ⟨rfl, hb1⟩; have HB1 := Lib.hid hb1; clear hb1) | (go_at_call 44; (with_reducible refine (HC.out _ (HB0.out.trans (HB1.out.mono HB0.out.size))).mono ?_); rintro e w' ⟨rfl, rfl⟩) | (go_at_call 45; (with_reducible refine (HI.out _).mono ?_); rintro e w' ⟨rfl, rfl⟩))
              go_ret
              exact ⟨congrArg (fun z => Ending.returned (.bool z)) (by rw [HR.out]; first | done | rfl | (rw [HLen.out, HB.out]; rfl) | (rw [HLen.out]; rfl)), HB0.out.trans (HB1.out.mono HB0.out.size)⟩
    · have kn : ((cs.length : Int) == 0) = false := by rw [beq_eq_false_iff_ne]; omega
      have HLen := Lib.hid (show decide (cs.length = 0) = false from decide_eq_false qn)
      have HB := Lib.hid (show True = True by rfl)
      clear qn
      cases tl with
      | false =>
        go_enter Tryz.func14, Tryz.ntmps14
        go_wp2_with (first | (go_at_call 41; first | ((with_reducible refine (HTl.out _).mono ?_); rintro e w' ⟨rfl, rfl⟩) | ((with_reducible refine (HTr.out _).mono ?_); rintro e w' ⟨rfl, rfl⟩)) | (go_at_call 42; (with_reducible refine (HZ.out _).mono ?_); rintro e w1 ⟨rfl, hb1⟩; have HB1 := Lib.hid hb1; obtain ⟨c0, c1, c2, c3, c4, c5, c6, c7⟩ := (HBX.out.kept hb1).cells; clear hb1) | (go_at_call 43; (with_reducible refine (HV.out _ HB0.out).mono ?_); rintro e w1 ⟨rfl, hb1⟩; have HB1 := Lib.hid hb1; clear hb1) | (go_at_call 44; (with_reducible refine (HC.out _ (HB0.out.trans (HB1.out.mono HB0.out.size))).mono ?_); rintro e w' ⟨rfl, rfl⟩) | (go_at_call 45; (with_reducible refine (HI.out _).mono ?_); rintro e w' ⟨rfl, rfl⟩))
        go_ret
        exact ⟨congrArg (fun z => Ending.returned (.bool z)) (by rw [HR.out]; first | done | rfl | (rw [HLen.out, HB.out]; rfl) | (rw [HLen.out]; rfl)), HB0.out⟩
      | true =>
        cases tr with
        | false =>
          go_enter Tryz.func14, Tryz.ntmps14
          go_wp2_with (first | (go_at_call 41; first | ((with_reducible refine (HTl.out _).mono ?_); rintro e w' ⟨rfl, rfl⟩) | ((with_reducible refine (HTr.out _).mono ?_); rintro e w' ⟨rfl, rfl⟩)) | (go_at_call 42; (with_reducible refine (HZ.out _).mono ?_); rintro e w1 ⟨rfl, hb1⟩; have HB1 := Lib.hid hb1; obtain ⟨c0, c1, c2, c3, c4, c5, c6, c7⟩ := (HBX.out.kept hb1).cells; clear hb1) | (go_at_call 43; (with_reducible refine (HV.out _ HB0.out).mono ?_); rintro e w1 ⟨rfl, hb1⟩; have HB1 := Lib.hid hb1; clear hb1) | (go_at_call 44; (with_reducible refine (HC.out _ (HB0.out.trans (HB1.out.mono HB0.out.size))).mono ?_); rintro e w' ⟨rfl, rfl⟩) | (go_at_call 45; (with_reducible refine (HI.out _).mono ?_); rintro e w' ⟨rfl, rfl⟩))
          go_ret
          exact ⟨congrArg (fun z => Ending.returned (.bool z)) (by rw [HR.out]; first | done | rfl | (rw [HLen.out, HB.out]; rfl) | (rw [HLen.out]; rfl)), HB0.out⟩
        | true =>
          cases z with
          | false =>
            go_enter Tryz.func14, Tryz.ntmps14
            go_wp2_with (first | (go_at_call 41; first | ((with_reducible refine (HTl.out _).mono ?_); rintro e w' ⟨rfl, rfl⟩) | ((with_reducible refine (HTr.out _).mono ?_); rintro e w' ⟨rfl, rfl⟩)) | (go_at_call 42; (with_reducible refine (HZ.out _).mono ?_); rintro e w1 ⟨rfl, hb1⟩; have HB1 := Lib.hid hb1; obtain ⟨c0, c1, c2, c3, c4, c5, c6, c7⟩ := (HBX.out.kept hb1).cells; clear hb1) | (go_at_call 43; (with_reducible refine (HV.out _ HB0.out).mono ?_); rintro e w1 ⟨rfl, hb1⟩; have HB1 := Lib.hid hb1; clear hb1) | (go_at_call 44; (with_reducible refine (HC.out _ (HB0.out.trans (HB1.out.mono HB0.out.size))).mono ?_); rintro e w' ⟨rfl, rfl⟩) | (go_at_call 45; (with_reducible refine (HI.out _).mono ?_); rintro e w' ⟨rfl, rfl⟩))
            go_ret
            exact ⟨congrArg (fun z => Ending.returned (.bool z)) (by rw [HR.out]; first | done | rfl | (rw [HLen.out, HB.out]; rfl) | (rw [HLen.out]; rfl)), HB0.out.trans (HB1.out.mono HB0.out.size)⟩
          | true =>
            go_enter Tryz.func14, Tryz.ntmps14
            go_wp2_with (first | (go_at_call 41; first | ((with_reducible refine (HTl.out _).mono ?_); rintro e w' ⟨rfl, rfl⟩) | ((with_reducible refine (HTr.out _).mono ?_); rintro e w' ⟨rfl, rfl⟩)) | (go_at_call 42; (with_reducible refine (HZ.out _).mono ?_); rintro e w1 ⟨rfl, hb1⟩; have HB1 := Lib.hid hb1; obtain ⟨c0, c1, c2, c3, c4, c5, c6, c7⟩ := (HBX.out.kept hb1).cells; clear hb1) | (go_at_call 43; (with_reducible refine (HV.out _ HB0.out).mono ?_); rintro e w1 ⟨rfl, hb1⟩; have HB1 := Lib.hid hb1; clear hb1) | (go_at_call 44; (with_reducible refine (HC.out _ (HB0.out.trans (HB1.out.mono HB0.out.size))).mono ?_); rintro e w' ⟨rfl, rfl⟩) | (go_at_call 45; (with_reducible refine (HI.out _).mono ?_); rintro e w' ⟨rfl, rfl⟩))
            go_ret
            exact ⟨congrArg (fun z => Ending.returned (.bool z)) (by rw [HR.out]; first | done | rfl | (rw [HLen.out, HB.out]; rfl) | (rw [HLen.out]; rfl)), HB0.out.trans (HB1.out.mono HB0.out.size)⟩

set_option maxRecDepth 100000 in
set_option maxHeartbeats 12800000 in
theorem specVC_34 (c : Cx) (xu vc : Value) (w : World) (h : CnO w xu vc c) (hsz : c.xa.size ≤ 2097152) (hk : c.k = 3 ∨ c.k = 4) :
    Calls Tryz.prog 14 #[.agg #[.int .i64 c.k, .string c.l, .string c.r, .int .i64 c.xk, .string c.xl, xu, vc, .int .i64 c.b]] w fun e w' => e = .returned (.bool (validX c)) ∧ Below w.heap.size w w' := by
  obtain ⟨A, m, B, r, rfl, rfl⟩ := h.shape
  have HR : Hid (validX c = (isT c.l.data.toList && decide (c.r.size = 0) && validRx c.xk c.xl c.xa && (decide (c.cs.length = 0) && decide (c.b = 0)))) := Lib.hid (by
    show validC c.cn = _
    unfold validC
    rw [if_neg (show ¬ (c.cn.k = 1 ∨ c.cn.k = 2) by show ¬ (c.k = 1 ∨ c.k = 2); omega), if_pos (show c.cn.k = 3 ∨ c.cn.k = 4 from hk)]
    all_goals rfl)
  obtain ⟨⟨hl, hr, hx⟩, ⟨n, hS⟩, hRow⟩ := h.read
  obtain ⟨k, l, rr, xk, xl, xa, cs, b⟩ := c
  simp only at hl hr hx hS hRow HR hsz hk ⊢
  unfold maxI at hl hr hx
  have hcl := hRow.1
  rw [ints_length] at hcl
  have HTl := Lib.hid (fun w => specIsT_any l w (by unfold maxLen; omega))
  have HTr := Lib.hid (fun w => specIsT_any rr w (by unfold maxLen; omega))
  have HZ := Lib.hid (fun w => specZero_any xk xl A xa.items.length m w (SlP.len hS))
  have HV := Lib.hid (fun wr (hb : Below w.heap.size w wr) => specValid_any n w.heap.size xk xl _ xa wr (hS.mono hb (Nat.le_refl _)) hb.size hsz hx)
  have HC := Lib.hid (fun wr (hb : Below w.heap.size w wr) => specCoeffs_any _ cs _ wr (hRow.row.kept hb))
  have HI := Lib.hid (fun wr => l1In_all b (-99) 99 (inR (-99) 99 b) wr rfl)
  have HB0 := Lib.hid ((Below.refl w.heap.size w).alloc (Nat.le_refl _) (.cells #[.int .i64 k, .string l, .string rr, .int .i64 xk, .string xl, .slice A xa.items.length m, .slice B cs.length r, .int .i64 b] 29))
  have HBX := Lib.hid (boxC_new w ⟨k, l, rr, xk, xl, xa, cs, b⟩ (.slice A xa.items.length m) (.slice B cs.length r) 29)
  obtain ⟨tl, htl⟩ : ∃ tl, tl = isT l.data.toList := ⟨_, rfl⟩
  rw [← htl] at HR
  rw [← htl] at HTl
  clear htl
  obtain ⟨v, hv⟩ : ∃ v, v = validRx xk xl xa := ⟨_, rfl⟩
  rw [← hv] at HR
  rw [← hv] at HV
  clear hv
  clear hS hRow hl hr hx hsz
  rcases hk with rfl | rfl
  · by_cases qn : cs.length = 0
    · have kn : ((cs.length : Int) == 0) = true := by simp [qn]
      have HLen := Lib.hid (show decide (cs.length = 0) = true from decide_eq_true qn)
      clear qn
      by_cases qb : b = 0
      · have kb : (b == 0) = true := by simp [qb]
        have HB := Lib.hid (show decide (b = 0) = true by simp [qb])
        clear qb
        cases tl with
        | false =>
          go_enter Tryz.func14, Tryz.ntmps14
          go_wp2_with (first | (go_at_call 41; first | ((with_reducible refine (HTl.out _).mono ?_); rintro e w' ⟨rfl, rfl⟩) | ((with_reducible refine (HTr.out _).mono ?_); rintro e w' ⟨rfl, rfl⟩)) | (go_at_call 42; (with_reducible refine (HZ.out _).mono ?_); rintro e w1 ⟨rfl, hb1⟩; have HB1 := Lib.hid hb1; obtain ⟨c0, c1, c2, c3, c4, c5, c6, c7⟩ := (HBX.out.kept hb1).cells; clear hb1) | (go_at_call 43; (with_reducible refine (HV.out _ HB0.out).mono ?_); rintro e w1 ⟨rfl, hb1⟩; have HB1 := Lib.hid hb1; clear hb1) | (go_at_call 44; (with_reducible refine (HC.out _ (HB0.out.trans (HB1.out.mono HB0.out.size))).mono ?_); rintro e w' ⟨rfl, rfl⟩) | (go_at_call 45; (with_reducible refine (HI.out _).mono ?_); rintro e w' ⟨rfl, rfl⟩))
          go_ret
          exact ⟨congrArg (fun z => Ending.returned (.bool z)) (by rw [HR.out]; first | done | rfl | (rw [HLen.out, HB.out]; rfl) | (rw [HLen.out]; rfl)), HB0.out⟩
        | true =>
          by_cases qrr : rr.size = 0
          · have krr := bytes_nil qrr
            have HXrr := Lib.hid qrr
            rw [show decide (rr.size = 0) = true by simp [qrr]] at HR
            clear qrr
            cases v with
            | false =>
              go_enter Tryz.func14, Tryz.ntmps14
              go_wp2_with (first | (go_at_call 41; first | ((with_reducible refine (HTl.out _).mono ?_); rintro e w' ⟨rfl, rfl⟩) | ((with_reducible refine (HTr.out _).mono ?_); rintro e w' ⟨rfl, rfl⟩)) | (go_at_call 42; (with_reducible refine (HZ.out _).mono ?_); rintro e w1 ⟨rfl, hb1⟩; have HB1 := Lib.hid hb1; obtain ⟨c0, c1, c2, c3, c4, c5, c6, c7⟩ := (HBX.out.kept hb1).cells; clear hb1) | (go_at_call 43; (with_reducible refine (HV.out _ HB0.out).mono ?_); rintro e w1 ⟨rfl, hb1⟩; have HB1 := Lib.hid hb1; clear hb1) | (go_at_call 44; (with_reducible refine (HC.out _ (HB0.out.trans (HB1.out.mono HB0.out.size))).mono ?_); rintro e w' ⟨rfl, rfl⟩) | (go_at_call 45; (with_reducible refine (HI.out _).mono ?_); rintro e w' ⟨rfl, rfl⟩))
              go_ret
              exact ⟨congrArg (fun z => Ending.returned (.bool z)) (by rw [HR.out]; first | done | rfl | (rw [HLen.out, HB.out]; rfl) | (rw [HLen.out]; rfl)), HB0.out.trans (HB1.out.mono HB0.out.size)⟩
            | true =>
              go_enter Tryz.func14, Tryz.ntmps14
              go_wp2_with (first | (go_at_call 41; first | ((with_reducible refine (HTl.out _).mono ?_); rintro e w' ⟨rfl, rfl⟩) | ((with_reducible refine (HTr.out _).mono ?_); rintro e w' ⟨rfl, rfl⟩)) | (go_at_call 42; (with_reducible refine (HZ.out _).mono ?_); rintro e w1 ⟨rfl, hb1⟩; have HB1 := Lib.hid hb1; obtain ⟨c0, c1, c2, c3, c4, c5, c6, c7⟩ := (HBX.out.kept hb1).cells; clear hb1) | (go_at_call 43; (with_reducible refine (HV.out _ HB0.out).mono ?_); rintro e w1 ⟨rfl, hb1⟩; have HB1 := Lib.hid hb1; clear hb1) | (go_at_call 44; (with_reducible refine (HC.out _ (HB0.out.trans (HB1.out.mono HB0.out.size))).mono ?_); rintro e w' ⟨rfl, rfl⟩) | (go_at_call 45; (with_reducible refine (HI.out _).mono ?_); rintro e w' ⟨rfl, rfl⟩))
              go_ret
              exact ⟨congrArg (fun z => Ending.returned (.bool z)) (by rw [HR.out]; first | done | rfl | (rw [HLen.out, HB.out]; rfl) | (rw [HLen.out]; rfl)), HB0.out.trans (HB1.out.mono HB0.out.size)⟩
          · have krr := bytes_some qrr
            rw [show decide (rr.size = 0) = false by simp [qrr]] at HR
            clear qrr
            go_enter Tryz.func14, Tryz.ntmps14
            go_wp2_with (first | (go_at_call 41; first | ((with_reducible refine (HTl.out _).mono ?_); rintro e w' ⟨rfl, rfl⟩) | ((with_reducible refine (HTr.out _).mono ?_); rintro e w' ⟨rfl, rfl⟩)) | (go_at_call 42; (with_reducible refine (HZ.out _).mono ?_); rintro e w1 ⟨rfl, hb1⟩; have HB1 := Lib.hid hb1; obtain ⟨c0, c1, c2, c3, c4, c5, c6, c7⟩ := (HBX.out.kept hb1).cells; clear hb1) | (go_at_call 43; (with_reducible refine (HV.out _ HB0.out).mono ?_); rintro e w1 ⟨rfl, hb1⟩; have HB1 := Lib.hid hb1; clear hb1) | (go_at_call 44; (with_reducible refine (HC.out _ (HB0.out.trans (HB1.out.mono HB0.out.size))).mono ?_); rintro e w' ⟨rfl, rfl⟩) | (go_at_call 45; (with_reducible refine (HI.out _).mono ?_); rintro e w' ⟨rfl, rfl⟩))
            go_ret
            exact ⟨congrArg (fun z => Ending.returned (.bool z)) (by rw [HR.out]; first | done | rfl | (rw [HLen.out, HB.out]; rfl) | (rw [HLen.out]; rfl)), HB0.out⟩
      · have kb : (b == 0) = false := by simp [qb]
        have HB := Lib.hid (show decide (b = 0) = false by simp [qb])
        clear qb
        cases tl with
        | false =>
          go_enter Tryz.func14, Tryz.ntmps14
          go_wp2_with (first | (go_at_call 41; first | ((with_reducible refine (HTl.out _).mono ?_); rintro e w' ⟨rfl, rfl⟩) | ((with_reducible refine (HTr.out _).mono ?_); rintro e w' ⟨rfl, rfl⟩)) | (go_at_call 42; (with_reducible refine (HZ.out _).mono ?_); rintro e w1 ⟨rfl, hb1⟩; have HB1 := Lib.hid hb1; obtain ⟨c0, c1, c2, c3, c4, c5, c6, c7⟩ := (HBX.out.kept hb1).cells; clear hb1) | (go_at_call 43; (with_reducible refine (HV.out _ HB0.out).mono ?_); rintro e w1 ⟨rfl, hb1⟩; have HB1 := Lib.hid hb1; clear hb1) | (go_at_call 44; (with_reducible refine (HC.out _ (HB0.out.trans (HB1.out.mono HB0.out.size))).mono ?_); rintro e w' ⟨rfl, rfl⟩) | (go_at_call 45; (with_reducible refine (HI.out _).mono ?_); rintro e w' ⟨rfl, rfl⟩))
          go_ret
          exact ⟨congrArg (fun z => Ending.returned (.bool z)) (by rw [HR.out]; first | done | rfl | (rw [HLen.out, HB.out]; rfl) | (rw [HLen.out]; rfl)), HB0.out⟩
        | true =>
          by_cases qrr : rr.size = 0
          · have krr := bytes_nil qrr
            have HXrr := Lib.hid qrr
            rw [show decide (rr.size = 0) = true by simp [qrr]] at HR
            clear qrr
            cases v with
            | false =>
              go_enter Tryz.func14, Tryz.ntmps14
              go_wp2_with (first | (go_at_call 41; first | ((with_reducible refine (HTl.out _).mono ?_); rintro e w' ⟨rfl, rfl⟩) | ((with_reducible refine (HTr.out _).mono ?_); rintro e w' ⟨rfl, rfl⟩)) | (go_at_call 42; (with_reducible refine (HZ.out _).mono ?_); rintro e w1 ⟨rfl, hb1⟩; have HB1 := Lib.hid hb1; obtain ⟨c0, c1, c2, c3, c4, c5, c6, c7⟩ := (HBX.out.kept hb1).cells; clear hb1) | (go_at_call 43; (with_reducible refine (HV.out _ HB0.out).mono ?_); rintro e w1 ⟨rfl, hb1⟩; have HB1 := Lib.hid hb1; clear hb1) | (go_at_call 44; (with_reducible refine (HC.out _ (HB0.out.trans (HB1.out.mono HB0.out.size))).mono ?_); rintro e w' ⟨rfl, rfl⟩) | (go_at_call 45; (with_reducible refine (HI.out _).mono ?_); rintro e w' ⟨rfl, rfl⟩))
              go_ret
              exact ⟨congrArg (fun z => Ending.returned (.bool z)) (by rw [HR.out]; first | done | rfl | (rw [HLen.out, HB.out]; rfl) | (rw [HLen.out]; rfl)), HB0.out.trans (HB1.out.mono HB0.out.size)⟩
            | true =>
              go_enter Tryz.func14, Tryz.ntmps14
              go_wp2_with (first | (go_at_call 41; first | ((with_reducible refine (HTl.out _).mono ?_); rintro e w' ⟨rfl, rfl⟩) | ((with_reducible refine (HTr.out _).mono ?_); rintro e w' ⟨rfl, rfl⟩)) | (go_at_call 42; (with_reducible refine (HZ.out _).mono ?_); rintro e w1 ⟨rfl, hb1⟩; have HB1 := Lib.hid hb1; obtain ⟨c0, c1, c2, c3, c4, c5, c6, c7⟩ := (HBX.out.kept hb1).cells; clear hb1) | (go_at_call 43; (with_reducible refine (HV.out _ HB0.out).mono ?_); rintro e w1 ⟨rfl, hb1⟩; have HB1 := Lib.hid hb1; clear hb1) | (go_at_call 44; (with_reducible refine (HC.out _ (HB0.out.trans (HB1.out.mono HB0.out.size))).mono ?_); rintro e w' ⟨rfl, rfl⟩) | (go_at_call 45; (with_reducible refine (HI.out _).mono ?_); rintro e w' ⟨rfl, rfl⟩))
              go_ret
              exact ⟨congrArg (fun z => Ending.returned (.bool z)) (by rw [HR.out]; first | done | rfl | (rw [HLen.out, HB.out]; rfl) | (rw [HLen.out]; rfl)), HB0.out.trans (HB1.out.mono HB0.out.size)⟩
          · have krr := bytes_some qrr
            rw [show decide (rr.size = 0) = false by simp [qrr]] at HR
            clear qrr
            go_enter Tryz.func14, Tryz.ntmps14
            go_wp2_with (first | (go_at_call 41; first | ((with_reducible refine (HTl.out _).mono ?_); rintro e w' ⟨rfl, rfl⟩) | ((with_reducible refine (HTr.out _).mono ?_); rintro e w' ⟨rfl, rfl⟩)) | (go_at_call 42; (with_reducible refine (HZ.out _).mono ?_); rintro e w1 ⟨rfl, hb1⟩; have HB1 := Lib.hid hb1; obtain ⟨c0, c1, c2, c3, c4, c5, c6, c7⟩ := (HBX.out.kept hb1).cells; clear hb1) | (go_at_call 43; (with_reducible refine (HV.out _ HB0.out).mono ?_); rintro e w1 ⟨rfl, hb1⟩; have HB1 := Lib.hid hb1; clear hb1) | (go_at_call 44; (with_reducible refine (HC.out _ (HB0.out.trans (HB1.out.mono HB0.out.size))).mono ?_); rintro e w' ⟨rfl, rfl⟩) | (go_at_call 45; (with_reducible refine (HI.out _).mono ?_); rintro e w' ⟨rfl, rfl⟩))
            go_ret
            exact ⟨congrArg (fun z => Ending.returned (.bool z)) (by rw [HR.out]; first | done | rfl | (rw [HLen.out, HB.out]; rfl) | (rw [HLen.out]; rfl)), HB0.out⟩
    · have kn : ((cs.length : Int) == 0) = false := by rw [beq_eq_false_iff_ne]; omega
      have HLen := Lib.hid (show decide (cs.length = 0) = false from decide_eq_false qn)
      have HB := Lib.hid (show True = True by rfl)
      clear qn
      cases tl with
      | false =>
        go_enter Tryz.func14, Tryz.ntmps14
        go_wp2_with (first | (go_at_call 41; first | ((with_reducible refine (HTl.out _).mono ?_); rintro e w' ⟨rfl, rfl⟩) | ((with_reducible refine (HTr.out _).mono ?_); rintro e w' ⟨rfl, rfl⟩)) | (go_at_call 42; (with_reducible refine (HZ.out _).mono ?_); rintro e w1 ⟨rfl, hb1⟩; have HB1 := Lib.hid hb1; obtain ⟨c0, c1, c2, c3, c4, c5, c6, c7⟩ := (HBX.out.kept hb1).cells; clear hb1) | (go_at_call 43; (with_reducible refine (HV.out _ HB0.out).mono ?_); rintro e w1 ⟨rfl, hb1⟩; have HB1 := Lib.hid hb1; clear hb1) | (go_at_call 44; (with_reducible refine (HC.out _ (HB0.out.trans (HB1.out.mono HB0.out.size))).mono ?_); rintro e w' ⟨rfl, rfl⟩) | (go_at_call 45; (with_reducible refine (HI.out _).mono ?_); rintro e w' ⟨rfl, rfl⟩))
        go_ret
        exact ⟨congrArg (fun z => Ending.returned (.bool z)) (by rw [HR.out]; first | done | rfl | (rw [HLen.out, HB.out]; rfl) | (rw [HLen.out]; rfl)), HB0.out⟩
      | true =>
        by_cases qrr : rr.size = 0
        · have krr := bytes_nil qrr
          have HXrr := Lib.hid qrr
          rw [show decide (rr.size = 0) = true by simp [qrr]] at HR
          clear qrr
          cases v with
          | false =>
            go_enter Tryz.func14, Tryz.ntmps14
            go_wp2_with (first | (go_at_call 41; first | ((with_reducible refine (HTl.out _).mono ?_); rintro e w' ⟨rfl, rfl⟩) | ((with_reducible refine (HTr.out _).mono ?_); rintro e w' ⟨rfl, rfl⟩)) | (go_at_call 42; (with_reducible refine (HZ.out _).mono ?_); rintro e w1 ⟨rfl, hb1⟩; have HB1 := Lib.hid hb1; obtain ⟨c0, c1, c2, c3, c4, c5, c6, c7⟩ := (HBX.out.kept hb1).cells; clear hb1) | (go_at_call 43; (with_reducible refine (HV.out _ HB0.out).mono ?_); rintro e w1 ⟨rfl, hb1⟩; have HB1 := Lib.hid hb1; clear hb1) | (go_at_call 44; (with_reducible refine (HC.out _ (HB0.out.trans (HB1.out.mono HB0.out.size))).mono ?_); rintro e w' ⟨rfl, rfl⟩) | (go_at_call 45; (with_reducible refine (HI.out _).mono ?_); rintro e w' ⟨rfl, rfl⟩))
            go_ret
            exact ⟨congrArg (fun z => Ending.returned (.bool z)) (by rw [HR.out]; first | done | rfl | (rw [HLen.out, HB.out]; rfl) | (rw [HLen.out]; rfl)), HB0.out.trans (HB1.out.mono HB0.out.size)⟩
          | true =>
            go_enter Tryz.func14, Tryz.ntmps14
            go_wp2_with (first | (go_at_call 41; first | ((with_reducible refine (HTl.out _).mono ?_); rintro e w' ⟨rfl, rfl⟩) | ((with_reducible refine (HTr.out _).mono ?_); rintro e w' ⟨rfl, rfl⟩)) | (go_at_call 42; (with_reducible refine (HZ.out _).mono ?_); rintro e w1 ⟨rfl, hb1⟩; have HB1 := Lib.hid hb1; obtain ⟨c0, c1, c2, c3, c4, c5, c6, c7⟩ := (HBX.out.kept hb1).cells; clear hb1) | (go_at_call 43; (with_reducible refine (HV.out _ HB0.out).mono ?_); rintro e w1 ⟨rfl, hb1⟩; have HB1 := Lib.hid hb1; clear hb1) | (go_at_call 44; (with_reducible refine (HC.out _ (HB0.out.trans (HB1.out.mono HB0.out.size))).mono ?_); rintro e w' ⟨rfl, rfl⟩) | (go_at_call 45; (with_reducible refine (HI.out _).mono ?_); rintro e w' ⟨rfl, rfl⟩))
            go_ret
            exact ⟨congrArg (fun z => Ending.returned (.bool z)) (by rw [HR.out]; first | done | rfl | (rw [HLen.out, HB.out]; rfl) | (rw [HLen.out]; rfl)), HB0.out.trans (HB1.out.mono HB0.out.size)⟩
        · have krr := bytes_some qrr
          rw [show decide (rr.size = 0) = false by simp [qrr]] at HR
          clear qrr
          go_enter Tryz.func14, Tryz.ntmps14
          go_wp2_with (first | (go_at_call 41; first | ((with_reducible refine (HTl.out _).mono ?_); rintro e w' ⟨rfl, rfl⟩) | ((with_reducible refine (HTr.out _).mono ?_); rintro e w' ⟨rfl, rfl⟩)) | (go_at_call 42; (with_reducible refine (HZ.out _).mono ?_); rintro e w1 ⟨rfl, hb1⟩; have HB1 := Lib.hid hb1; obtain ⟨c0, c1, c2, c3, c4, c5, c6, c7⟩ := (HBX.out.kept hb1).cells; clear hb1) | (go_at_call 43; (with_reducible refine (HV.out _ HB0.out).mono ?_); rintro e w1 ⟨rfl, hb1⟩; have HB1 := Lib.hid hb1; clear hb1) | (go_at_call 44; (with_reducible refine (HC.out _ (HB0.out.trans (HB1.out.mono HB0.out.size))).mono ?_); rintro e w' ⟨rfl, rfl⟩) | (go_at_call 45; (with_reducible refine (HI.out _).mono ?_); rintro e w' ⟨rfl, rfl⟩))
          go_ret
          exact ⟨congrArg (fun z => Ending.returned (.bool z)) (by rw [HR.out]; first | done | rfl | (rw [HLen.out, HB.out]; rfl) | (rw [HLen.out]; rfl)), HB0.out⟩
  · by_cases qn : cs.length = 0
    · have kn : ((cs.length : Int) == 0) = true := by simp [qn]
      have HLen := Lib.hid (show decide (cs.length = 0) = true from decide_eq_true qn)
      clear qn
      by_cases qb : b = 0
      · have kb : (b == 0) = true := by simp [qb]
        have HB := Lib.hid (show decide (b = 0) = true by simp [qb])
        clear qb
        cases tl with
        | false =>
          go_enter Tryz.func14, Tryz.ntmps14
          go_wp2_with (first | (go_at_call 41; first | ((with_reducible refine (HTl.out _).mono ?_); rintro e w' ⟨rfl, rfl⟩) | ((with_reducible refine (HTr.out _).mono ?_); rintro e w' ⟨rfl, rfl⟩)) | (go_at_call 42; (with_reducible refine (HZ.out _).mono ?_); rintro e w1 ⟨rfl, hb1⟩; have HB1 := Lib.hid hb1; obtain ⟨c0, c1, c2, c3, c4, c5, c6, c7⟩ := (HBX.out.kept hb1).cells; clear hb1) | (go_at_call 43; (with_reducible refine (HV.out _ HB0.out).mono ?_); rintro e w1 ⟨rfl, hb1⟩; have HB1 := Lib.hid hb1; clear hb1) | (go_at_call 44; (with_reducible refine (HC.out _ (HB0.out.trans (HB1.out.mono HB0.out.size))).mono ?_); rintro e w' ⟨rfl, rfl⟩) | (go_at_call 45; (with_reducible refine (HI.out _).mono ?_); rintro e w' ⟨rfl, rfl⟩))
          go_ret
          exact ⟨congrArg (fun z => Ending.returned (.bool z)) (by rw [HR.out]; first | done | rfl | (rw [HLen.out, HB.out]; rfl) | (rw [HLen.out]; rfl)), HB0.out⟩
        | true =>
          by_cases qrr : rr.size = 0
          · have krr := bytes_nil qrr
            have HXrr := Lib.hid qrr
            rw [show decide (rr.size = 0) = true by simp [qrr]] at HR
            clear qrr
            cases v with
            | false =>
              go_enter Tryz.func14, Tryz.ntmps14
              go_wp2_with (first | (go_at_call 41; first | ((with_reducible refine (HTl.out _).mono ?_); rintro e w' ⟨rfl, rfl⟩) | ((with_reducible refine (HTr.out _).mono ?_); rintro e w' ⟨rfl, rfl⟩)) | (go_at_call 42; (with_reducible refine (HZ.out _).mono ?_); rintro e w1 ⟨rfl, hb1⟩; have HB1 := Lib.hid hb1; obtain ⟨c0, c1, c2, c3, c4, c5, c6, c7⟩ := (HBX.out.kept hb1).cells; clear hb1) | (go_at_call 43; (with_reducible refine (HV.out _ HB0.out).mono ?_); rintro e w1 ⟨rfl, hb1⟩; have HB1 := Lib.hid hb1; clear hb1) | (go_at_call 44; (with_reducible refine (HC.out _ (HB0.out.trans (HB1.out.mono HB0.out.size))).mono ?_); rintro e w' ⟨rfl, rfl⟩) | (go_at_call 45; (with_reducible refine (HI.out _).mono ?_); rintro e w' ⟨rfl, rfl⟩))
              go_ret
              exact ⟨congrArg (fun z => Ending.returned (.bool z)) (by rw [HR.out]; first | done | rfl | (rw [HLen.out, HB.out]; rfl) | (rw [HLen.out]; rfl)), HB0.out.trans (HB1.out.mono HB0.out.size)⟩
            | true =>
              go_enter Tryz.func14, Tryz.ntmps14
              go_wp2_with (first | (go_at_call 41; first | ((with_reducible refine (HTl.out _).mono ?_); rintro e w' ⟨rfl, rfl⟩) | ((with_reducible refine (HTr.out _).mono ?_); rintro e w' ⟨rfl, rfl⟩)) | (go_at_call 42; (with_reducible refine (HZ.out _).mono ?_); rintro e w1 ⟨rfl, hb1⟩; have HB1 := Lib.hid hb1; obtain ⟨c0, c1, c2, c3, c4, c5, c6, c7⟩ := (HBX.out.kept hb1).cells; clear hb1) | (go_at_call 43; (with_reducible refine (HV.out _ HB0.out).mono ?_); rintro e w1 ⟨rfl, hb1⟩; have HB1 := Lib.hid hb1; clear hb1) | (go_at_call 44; (with_reducible refine (HC.out _ (HB0.out.trans (HB1.out.mono HB0.out.size))).mono ?_); rintro e w' ⟨rfl, rfl⟩) | (go_at_call 45; (with_reducible refine (HI.out _).mono ?_); rintro e w' ⟨rfl, rfl⟩))
              go_ret
              exact ⟨congrArg (fun z => Ending.returned (.bool z)) (by rw [HR.out]; first | done | rfl | (rw [HLen.out, HB.out]; rfl) | (rw [HLen.out]; rfl)), HB0.out.trans (HB1.out.mono HB0.out.size)⟩
          · have krr := bytes_some qrr
            rw [show decide (rr.size = 0) = false by simp [qrr]] at HR
            clear qrr
            go_enter Tryz.func14, Tryz.ntmps14
            go_wp2_with (first | (go_at_call 41; first | ((with_reducible refine (HTl.out _).mono ?_); rintro e w' ⟨rfl, rfl⟩) | ((with_reducible refine (HTr.out _).mono ?_); rintro e w' ⟨rfl, rfl⟩)) | (go_at_call 42; (with_reducible refine (HZ.out _).mono ?_); rintro e w1 ⟨rfl, hb1⟩; have HB1 := Lib.hid hb1; obtain ⟨c0, c1, c2, c3, c4, c5, c6, c7⟩ := (HBX.out.kept hb1).cells; clear hb1) | (go_at_call 43; (with_reducible refine (HV.out _ HB0.out).mono ?_); rintro e w1 ⟨rfl, hb1⟩; have HB1 := Lib.hid hb1; clear hb1) | (go_at_call 44; (with_reducible refine (HC.out _ (HB0.out.trans (HB1.out.mono HB0.out.size))).mono ?_); rintro e w' ⟨rfl, rfl⟩) | (go_at_call 45; (with_reducible refine (HI.out _).mono ?_); rintro e w' ⟨rfl, rfl⟩))
            go_ret
            exact ⟨congrArg (fun z => Ending.returned (.bool z)) (by rw [HR.out]; first | done | rfl | (rw [HLen.out, HB.out]; rfl) | (rw [HLen.out]; rfl)), HB0.out⟩
      · have kb : (b == 0) = false := by simp [qb]
        have HB := Lib.hid (show decide (b = 0) = false by simp [qb])
        clear qb
        cases tl with
        | false =>
          go_enter Tryz.func14, Tryz.ntmps14
          go_wp2_with (first | (go_at_call 41; first | ((with_reducible refine (HTl.out _).mono ?_); rintro e w' ⟨rfl, rfl⟩) | ((with_reducible refine (HTr.out _).mono ?_); rintro e w' ⟨rfl, rfl⟩)) | (go_at_call 42; (with_reducible refine (HZ.out _).mono ?_); rintro e w1 ⟨rfl, hb1⟩; have HB1 := Lib.hid hb1; obtain ⟨c0, c1, c2, c3, c4, c5, c6, c7⟩ := (HBX.out.kept hb1).cells; clear hb1) | (go_at_call 43; (with_reducible refine (HV.out _ HB0.out).mono ?_); rintro e w1 ⟨rfl, hb1⟩; have HB1 := Lib.hid hb1; clear hb1) | (go_at_call 44; (with_reducible refine (HC.out _ (HB0.out.trans (HB1.out.mono HB0.out.size))).mono ?_); rintro e w' ⟨rfl, rfl⟩) | (go_at_call 45; (with_reducible refine (HI.out _).mono ?_); rintro e w' ⟨rfl, rfl⟩))
          go_ret
          exact ⟨congrArg (fun z => Ending.returned (.bool z)) (by rw [HR.out]; first | done | rfl | (rw [HLen.out, HB.out]; rfl) | (rw [HLen.out]; rfl)), HB0.out⟩
        | true =>
          by_cases qrr : rr.size = 0
          · have krr := bytes_nil qrr
            have HXrr := Lib.hid qrr
            rw [show decide (rr.size = 0) = true by simp [qrr]] at HR
            clear qrr
            cases v with
            | false =>
              go_enter Tryz.func14, Tryz.ntmps14
              go_wp2_with (first | (go_at_call 41; first | ((with_reducible refine (HTl.out _).mono ?_); rintro e w' ⟨rfl, rfl⟩) | ((with_reducible refine (HTr.out _).mono ?_); rintro e w' ⟨rfl, rfl⟩)) | (go_at_call 42; (with_reducible refine (HZ.out _).mono ?_); rintro e w1 ⟨rfl, hb1⟩; have HB1 := Lib.hid hb1; obtain ⟨c0, c1, c2, c3, c4, c5, c6, c7⟩ := (HBX.out.kept hb1).cells; clear hb1) | (go_at_call 43; (with_reducible refine (HV.out _ HB0.out).mono ?_); rintro e w1 ⟨rfl, hb1⟩; have HB1 := Lib.hid hb1; clear hb1) | (go_at_call 44; (with_reducible refine (HC.out _ (HB0.out.trans (HB1.out.mono HB0.out.size))).mono ?_); rintro e w' ⟨rfl, rfl⟩) | (go_at_call 45; (with_reducible refine (HI.out _).mono ?_); rintro e w' ⟨rfl, rfl⟩))
              go_ret
              exact ⟨congrArg (fun z => Ending.returned (.bool z)) (by rw [HR.out]; first | done | rfl | (rw [HLen.out, HB.out]; rfl) | (rw [HLen.out]; rfl)), HB0.out.trans (HB1.out.mono HB0.out.size)⟩
            | true =>
              go_enter Tryz.func14, Tryz.ntmps14
              go_wp2_with (first | (go_at_call 41; first | ((with_reducible refine (HTl.out _).mono ?_); rintro e w' ⟨rfl, rfl⟩) | ((with_reducible refine (HTr.out _).mono ?_); rintro e w' ⟨rfl, rfl⟩)) | (go_at_call 42; (with_reducible refine (HZ.out _).mono ?_); rintro e w1 ⟨rfl, hb1⟩; have HB1 := Lib.hid hb1; obtain ⟨c0, c1, c2, c3, c4, c5, c6, c7⟩ := (HBX.out.kept hb1).cells; clear hb1) | (go_at_call 43; (with_reducible refine (HV.out _ HB0.out).mono ?_); rintro e w1 ⟨rfl, hb1⟩; have HB1 := Lib.hid hb1; clear hb1) | (go_at_call 44; (with_reducible refine (HC.out _ (HB0.out.trans (HB1.out.mono HB0.out.size))).mono ?_); rintro e w' ⟨rfl, rfl⟩) | (go_at_call 45; (with_reducible refine (HI.out _).mono ?_); rintro e w' ⟨rfl, rfl⟩))
              go_ret
              exact ⟨congrArg (fun z => Ending.returned (.bool z)) (by rw [HR.out]; first | done | rfl | (rw [HLen.out, HB.out]; rfl) | (rw [HLen.out]; rfl)), HB0.out.trans (HB1.out.mono HB0.out.size)⟩
          · have krr := bytes_some qrr
            rw [show decide (rr.size = 0) = false by simp [qrr]] at HR
            clear qrr
            go_enter Tryz.func14, Tryz.ntmps14
            go_wp2_with (first | (go_at_call 41; first | ((with_reducible refine (HTl.out _).mono ?_); rintro e w' ⟨rfl, rfl⟩) | ((with_reducible refine (HTr.out _).mono ?_); rintro e w' ⟨rfl, rfl⟩)) | (go_at_call 42; (with_reducible refine (HZ.out _).mono ?_); rintro e w1 ⟨rfl, hb1⟩; have HB1 := Lib.hid hb1; obtain ⟨c0, c1, c2, c3, c4, c5, c6, c7⟩ := (HBX.out.kept hb1).cells; clear hb1) | (go_at_call 43; (with_reducible refine (HV.out _ HB0.out).mono ?_); rintro e w1 ⟨rfl, hb1⟩; have HB1 := Lib.hid hb1; clear hb1) | (go_at_call 44; (with_reducible refine (HC.out _ (HB0.out.trans (HB1.out.mono HB0.out.size))).mono ?_); rintro e w' ⟨rfl, rfl⟩) | (go_at_call 45; (with_reducible refine (HI.out _).mono ?_); rintro e w' ⟨rfl, rfl⟩))
            go_ret
            exact ⟨congrArg (fun z => Ending.returned (.bool z)) (by rw [HR.out]; first | done | rfl | (rw [HLen.out, HB.out]; rfl) | (rw [HLen.out]; rfl)), HB0.out⟩
    · have kn : ((cs.length : Int) == 0) = false := by rw [beq_eq_false_iff_ne]; omega
      have HLen := Lib.hid (show decide (cs.length = 0) = false from decide_eq_false qn)
      have HB := Lib.hid (show True = True by rfl)
      clear qn
      cases tl with
      | false =>
        go_enter Tryz.func14, Tryz.ntmps14
        go_wp2_with (first | (go_at_call 41; first | ((with_reducible refine (HTl.out _).mono ?_); rintro e w' ⟨rfl, rfl⟩) | ((with_reducible refine (HTr.out _).mono ?_); rintro e w' ⟨rfl, rfl⟩)) | (go_at_call 42; (with_reducible refine (HZ.out _).mono ?_); rintro e w1 ⟨rfl, hb1⟩; have HB1 := Lib.hid hb1; obtain ⟨c0, c1, c2, c3, c4, c5, c6, c7⟩ := (HBX.out.kept hb1).cells; clear hb1) | (go_at_call 43; (with_reducible refine (HV.out _ HB0.out).mono ?_); rintro e w1 ⟨rfl, hb1⟩; have HB1 := Lib.hid hb1; clear hb1) | (go_at_call 44; (with_reducible refine (HC.out _ (HB0.out.trans (HB1.out.mono HB0.out.size))).mono ?_); rintro e w' ⟨rfl, rfl⟩) | (go_at_call 45; (with_reducible refine (HI.out _).mono ?_); rintro e w' ⟨rfl, rfl⟩))
        go_ret
        exact ⟨congrArg (fun z => Ending.returned (.bool z)) (by rw [HR.out]; first | done | rfl | (rw [HLen.out, HB.out]; rfl) | (rw [HLen.out]; rfl)), HB0.out⟩
      | true =>
        by_cases qrr : rr.size = 0
        · have krr := bytes_nil qrr
          have HXrr := Lib.hid qrr
          rw [show decide (rr.size = 0) = true by simp [qrr]] at HR
          clear qrr
          cases v with
          | false =>
            go_enter Tryz.func14, Tryz.ntmps14
            go_wp2_with (first | (go_at_call 41; first | ((with_reducible refine (HTl.out _).mono ?_); rintro e w' ⟨rfl, rfl⟩) | ((with_reducible refine (HTr.out _).mono ?_); rintro e w' ⟨rfl, rfl⟩)) | (go_at_call 42; (with_reducible refine (HZ.out _).mono ?_); rintro e w1 ⟨rfl, hb1⟩; have HB1 := Lib.hid hb1; obtain ⟨c0, c1, c2, c3, c4, c5, c6, c7⟩ := (HBX.out.kept hb1).cells; clear hb1) | (go_at_call 43; (with_reducible refine (HV.out _ HB0.out).mono ?_); rintro e w1 ⟨rfl, hb1⟩; have HB1 := Lib.hid hb1; clear hb1) | (go_at_call 44; (with_reducible refine (HC.out _ (HB0.out.trans (HB1.out.mono HB0.out.size))).mono ?_); rintro e w' ⟨rfl, rfl⟩) | (go_at_call 45; (with_reducible refine (HI.out _).mono ?_); rintro e w' ⟨rfl, rfl⟩))
            go_ret
            exact ⟨congrArg (fun z => Ending.returned (.bool z)) (by rw [HR.out]; first | done | rfl | (rw [HLen.out, HB.out]; rfl) | (rw [HLen.out]; rfl)), HB0.out.trans (HB1.out.mono HB0.out.size)⟩
          | true =>
            go_enter Tryz.func14, Tryz.ntmps14
            go_wp2_with (first | (go_at_call 41; first | ((with_reducible refine (HTl.out _).mono ?_); rintro e w' ⟨rfl, rfl⟩) | ((with_reducible refine (HTr.out _).mono ?_); rintro e w' ⟨rfl, rfl⟩)) | (go_at_call 42; (with_reducible refine (HZ.out _).mono ?_); rintro e w1 ⟨rfl, hb1⟩; have HB1 := Lib.hid hb1; obtain ⟨c0, c1, c2, c3, c4, c5, c6, c7⟩ := (HBX.out.kept hb1).cells; clear hb1) | (go_at_call 43; (with_reducible refine (HV.out _ HB0.out).mono ?_); rintro e w1 ⟨rfl, hb1⟩; have HB1 := Lib.hid hb1; clear hb1) | (go_at_call 44; (with_reducible refine (HC.out _ (HB0.out.trans (HB1.out.mono HB0.out.size))).mono ?_); rintro e w' ⟨rfl, rfl⟩) | (go_at_call 45; (with_reducible refine (HI.out _).mono ?_); rintro e w' ⟨rfl, rfl⟩))
            go_ret
            exact ⟨congrArg (fun z => Ending.returned (.bool z)) (by rw [HR.out]; first | done | rfl | (rw [HLen.out, HB.out]; rfl) | (rw [HLen.out]; rfl)), HB0.out.trans (HB1.out.mono HB0.out.size)⟩
        · have krr := bytes_some qrr
          rw [show decide (rr.size = 0) = false by simp [qrr]] at HR
          clear qrr
          go_enter Tryz.func14, Tryz.ntmps14
          go_wp2_with (first | (go_at_call 41; first | ((with_reducible refine (HTl.out _).mono ?_); rintro e w' ⟨rfl, rfl⟩) | ((with_reducible refine (HTr.out _).mono ?_); rintro e w' ⟨rfl, rfl⟩)) | (go_at_call 42; (with_reducible refine (HZ.out _).mono ?_); rintro e w1 ⟨rfl, hb1⟩; have HB1 := Lib.hid hb1; obtain ⟨c0, c1, c2, c3, c4, c5, c6, c7⟩ := (HBX.out.kept hb1).cells; clear hb1) | (go_at_call 43; (with_reducible refine (HV.out _ HB0.out).mono ?_); rintro e w1 ⟨rfl, hb1⟩; have HB1 := Lib.hid hb1; clear hb1) | (go_at_call 44; (with_reducible refine (HC.out _ (HB0.out.trans (HB1.out.mono HB0.out.size))).mono ?_); rintro e w' ⟨rfl, rfl⟩) | (go_at_call 45; (with_reducible refine (HI.out _).mono ?_); rintro e w' ⟨rfl, rfl⟩))
          go_ret
          exact ⟨congrArg (fun z => Ending.returned (.bool z)) (by rw [HR.out]; first | done | rfl | (rw [HLen.out, HB.out]; rfl) | (rw [HLen.out]; rfl)), HB0.out⟩

set_option maxRecDepth 100000 in
set_option maxHeartbeats 12800000 in
theorem specVC_5 (c : Cx) (xu vc : Value) (w : World) (h : CnO w xu vc c) (hsz : c.xa.size ≤ 2097152) (hk : c.k = 5) :
    Calls Tryz.prog 14 #[.agg #[.int .i64 c.k, .string c.l, .string c.r, .int .i64 c.xk, .string c.xl, xu, vc, .int .i64 c.b]] w fun e w' => e = .returned (.bool (validX c)) ∧ Below w.heap.size w w' := by
  obtain ⟨A, m, B, r, rfl, rfl⟩ := h.shape
  have HR : Hid (validX c = (decide (c.l.size = 0) && decide (c.r.size = 0) && zB c.xk c.xl c.xa.items.length && coB c.cs && inR (-99) 99 c.b)) := Lib.hid (by
    show validC c.cn = _
    unfold validC
    rw [if_neg (show ¬ (c.cn.k = 1 ∨ c.cn.k = 2) by show ¬ (c.k = 1 ∨ c.k = 2); omega), if_neg (show ¬ (c.cn.k = 3 ∨ c.cn.k = 4) by show ¬ (c.k = 3 ∨ c.k = 4); omega), if_pos (show c.cn.k = 5 from hk)]
    all_goals rfl)
  obtain ⟨⟨hl, hr, hx⟩, ⟨n, hS⟩, hRow⟩ := h.read
  obtain ⟨k, l, rr, xk, xl, xa, cs, b⟩ := c
  simp only at hl hr hx hS hRow HR hsz hk ⊢
  unfold maxI at hl hr hx
  have hcl := hRow.1
  rw [ints_length] at hcl
  have HTl := Lib.hid (fun w => specIsT_any l w (by unfold maxLen; omega))
  have HTr := Lib.hid (fun w => specIsT_any rr w (by unfold maxLen; omega))
  have HZ := Lib.hid (fun w => specZero_any xk xl A xa.items.length m w (SlP.len hS))
  have HV := Lib.hid (fun wr (hb : Below w.heap.size w wr) => specValid_any n w.heap.size xk xl _ xa wr (hS.mono hb (Nat.le_refl _)) hb.size hsz hx)
  have HC := Lib.hid (fun wr (hb : Below w.heap.size w wr) => specCoeffs_any _ cs _ wr (hRow.row.kept hb))
  have HI := Lib.hid (fun wr => l1In_all b (-99) 99 (inR (-99) 99 b) wr rfl)
  have HB0 := Lib.hid ((Below.refl w.heap.size w).alloc (Nat.le_refl _) (.cells #[.int .i64 k, .string l, .string rr, .int .i64 xk, .string xl, .slice A xa.items.length m, .slice B cs.length r, .int .i64 b] 29))
  have HBX := Lib.hid (boxC_new w ⟨k, l, rr, xk, xl, xa, cs, b⟩ (.slice A xa.items.length m) (.slice B cs.length r) 29)
  obtain ⟨z, hz⟩ : ∃ z, z = zB xk xl xa.items.length := ⟨_, rfl⟩
  rw [← hz] at HR
  rw [← hz] at HZ
  clear hz
  obtain ⟨co, hco⟩ : ∃ co, co = coB cs := ⟨_, rfl⟩
  rw [← hco] at HR
  rw [← hco] at HC
  clear hco
  obtain ⟨bo, hbo⟩ : ∃ bo, bo = inR (-99) 99 b := ⟨_, rfl⟩
  rw [← hbo] at HR HI
  clear hbo
  clear hS hRow hl hr hx hsz
  subst hk
  by_cases qn : cs.length = 0
  · have kn : ((cs.length : Int) == 0) = true := by simp [qn]
    have HLen := Lib.hid (show decide (cs.length = 0) = true from decide_eq_true qn)
    clear qn
    by_cases qb : b = 0
    · have kb : (b == 0) = true := by simp [qb]
      have HB := Lib.hid (show decide (b = 0) = true by simp [qb])
      clear qb
      by_cases ql : l.size = 0
      · have kl := bytes_nil ql
        have HXl := Lib.hid ql
        rw [show decide (l.size = 0) = true by simp [ql]] at HR
        clear ql
        by_cases qrr : rr.size = 0
        · have krr := bytes_nil qrr
          have HXrr := Lib.hid qrr
          rw [show decide (rr.size = 0) = true by simp [qrr]] at HR
          clear qrr
          cases z with
          | false =>
            go_enter Tryz.func14, Tryz.ntmps14
            go_wp2_with (first | (go_at_call 41; first | ((with_reducible refine (HTl.out _).mono ?_); rintro e w' ⟨rfl, rfl⟩) | ((with_reducible refine (HTr.out _).mono ?_); rintro e w' ⟨rfl, rfl⟩)) | (go_at_call 42; (with_reducible refine (HZ.out _).mono ?_); rintro e w1 ⟨rfl, hb1⟩; have HB1 := Lib.hid hb1; obtain ⟨c0, c1, c2, c3, c4, c5, c6, c7⟩ := (HBX.out.kept hb1).cells; clear hb1) | (go_at_call 43; (with_reducible refine (HV.out _ HB0.out).mono ?_); rintro e w1 ⟨rfl, hb1⟩; have HB1 := Lib.hid hb1; clear hb1) | (go_at_call 44; (with_reducible refine (HC.out _ (HB0.out.trans (HB1.out.mono HB0.out.size))).mono ?_); rintro e w' ⟨rfl, rfl⟩) | (go_at_call 45; (with_reducible refine (HI.out _).mono ?_); rintro e w' ⟨rfl, rfl⟩))
            go_ret
            exact ⟨congrArg (fun z => Ending.returned (.bool z)) (by rw [HR.out]; first | done | rfl | (rw [HLen.out, HB.out]; rfl) | (rw [HLen.out]; rfl)), HB0.out.trans (HB1.out.mono HB0.out.size)⟩
          | true =>
            cases co with
            | false =>
              go_enter Tryz.func14, Tryz.ntmps14
              go_wp2_with (first | (go_at_call 41; first | ((with_reducible refine (HTl.out _).mono ?_); rintro e w' ⟨rfl, rfl⟩) | ((with_reducible refine (HTr.out _).mono ?_); rintro e w' ⟨rfl, rfl⟩)) | (go_at_call 42; (with_reducible refine (HZ.out _).mono ?_); rintro e w1 ⟨rfl, hb1⟩; have HB1 := Lib.hid hb1; obtain ⟨c0, c1, c2, c3, c4, c5, c6, c7⟩ := (HBX.out.kept hb1).cells; clear hb1) | (go_at_call 43; (with_reducible refine (HV.out _ HB0.out).mono ?_); rintro e w1 ⟨rfl, hb1⟩; have HB1 := Lib.hid hb1; clear hb1) | (go_at_call 44; (with_reducible refine (HC.out _ (HB0.out.trans (HB1.out.mono HB0.out.size))).mono ?_); rintro e w' ⟨rfl, rfl⟩) | (go_at_call 45; (with_reducible refine (HI.out _).mono ?_); rintro e w' ⟨rfl, rfl⟩))
              go_ret
              exact ⟨congrArg (fun z => Ending.returned (.bool z)) (by rw [HR.out]; first | done | rfl | (rw [HLen.out, HB.out]; rfl) | (rw [HLen.out]; rfl)), HB0.out.trans (HB1.out.mono HB0.out.size)⟩
            | true =>
              cases bo with
              | false =>
                go_enter Tryz.func14, Tryz.ntmps14
                go_wp2_with (first | (go_at_call 41; first | ((with_reducible refine (HTl.out _).mono ?_); rintro e w' ⟨rfl, rfl⟩) | ((with_reducible refine (HTr.out _).mono ?_); rintro e w' ⟨rfl, rfl⟩)) | (go_at_call 42; (with_reducible refine (HZ.out _).mono ?_); rintro e w1 ⟨rfl, hb1⟩; have HB1 := Lib.hid hb1; obtain ⟨c0, c1, c2, c3, c4, c5, c6, c7⟩ := (HBX.out.kept hb1).cells; clear hb1) | (go_at_call 43; (with_reducible refine (HV.out _ HB0.out).mono ?_); rintro e w1 ⟨rfl, hb1⟩; have HB1 := Lib.hid hb1; clear hb1) | (go_at_call 44; (with_reducible refine (HC.out _ (HB0.out.trans (HB1.out.mono HB0.out.size))).mono ?_); rintro e w' ⟨rfl, rfl⟩) | (go_at_call 45; (with_reducible refine (HI.out _).mono ?_); rintro e w' ⟨rfl, rfl⟩))
                go_ret
                exact ⟨congrArg (fun z => Ending.returned (.bool z)) (by rw [HR.out]; first | done | rfl | (rw [HLen.out, HB.out]; rfl) | (rw [HLen.out]; rfl)), HB0.out.trans (HB1.out.mono HB0.out.size)⟩
              | true =>
                go_enter Tryz.func14, Tryz.ntmps14
                go_wp2_with (first | (go_at_call 41; first | ((with_reducible refine (HTl.out _).mono ?_); rintro e w' ⟨rfl, rfl⟩) | ((with_reducible refine (HTr.out _).mono ?_); rintro e w' ⟨rfl, rfl⟩)) | (go_at_call 42; (with_reducible refine (HZ.out _).mono ?_); rintro e w1 ⟨rfl, hb1⟩; have HB1 := Lib.hid hb1; obtain ⟨c0, c1, c2, c3, c4, c5, c6, c7⟩ := (HBX.out.kept hb1).cells; clear hb1) | (go_at_call 43; (with_reducible refine (HV.out _ HB0.out).mono ?_); rintro e w1 ⟨rfl, hb1⟩; have HB1 := Lib.hid hb1; clear hb1) | (go_at_call 44; (with_reducible refine (HC.out _ (HB0.out.trans (HB1.out.mono HB0.out.size))).mono ?_); rintro e w' ⟨rfl, rfl⟩) | (go_at_call 45; (with_reducible refine (HI.out _).mono ?_); rintro e w' ⟨rfl, rfl⟩))
                go_ret
                exact ⟨congrArg (fun z => Ending.returned (.bool z)) (by rw [HR.out]; first | done | rfl | (rw [HLen.out, HB.out]; rfl) | (rw [HLen.out]; rfl)), HB0.out.trans (HB1.out.mono HB0.out.size)⟩
        · have krr := bytes_some qrr
          rw [show decide (rr.size = 0) = false by simp [qrr]] at HR
          clear qrr
          go_enter Tryz.func14, Tryz.ntmps14
          go_wp2_with (first | (go_at_call 41; first | ((with_reducible refine (HTl.out _).mono ?_); rintro e w' ⟨rfl, rfl⟩) | ((with_reducible refine (HTr.out _).mono ?_); rintro e w' ⟨rfl, rfl⟩)) | (go_at_call 42; (with_reducible refine (HZ.out _).mono ?_); rintro e w1 ⟨rfl, hb1⟩; have HB1 := Lib.hid hb1; obtain ⟨c0, c1, c2, c3, c4, c5, c6, c7⟩ := (HBX.out.kept hb1).cells; clear hb1) | (go_at_call 43; (with_reducible refine (HV.out _ HB0.out).mono ?_); rintro e w1 ⟨rfl, hb1⟩; have HB1 := Lib.hid hb1; clear hb1) | (go_at_call 44; (with_reducible refine (HC.out _ (HB0.out.trans (HB1.out.mono HB0.out.size))).mono ?_); rintro e w' ⟨rfl, rfl⟩) | (go_at_call 45; (with_reducible refine (HI.out _).mono ?_); rintro e w' ⟨rfl, rfl⟩))
          go_ret
          exact ⟨congrArg (fun z => Ending.returned (.bool z)) (by rw [HR.out]; first | done | rfl | (rw [HLen.out, HB.out]; rfl) | (rw [HLen.out]; rfl)), HB0.out⟩
      · have kl := bytes_some ql
        rw [show decide (l.size = 0) = false by simp [ql]] at HR
        clear ql
        go_enter Tryz.func14, Tryz.ntmps14
        go_wp2_with (first | (go_at_call 41; first | ((with_reducible refine (HTl.out _).mono ?_); rintro e w' ⟨rfl, rfl⟩) | ((with_reducible refine (HTr.out _).mono ?_); rintro e w' ⟨rfl, rfl⟩)) | (go_at_call 42; (with_reducible refine (HZ.out _).mono ?_); rintro e w1 ⟨rfl, hb1⟩; have HB1 := Lib.hid hb1; obtain ⟨c0, c1, c2, c3, c4, c5, c6, c7⟩ := (HBX.out.kept hb1).cells; clear hb1) | (go_at_call 43; (with_reducible refine (HV.out _ HB0.out).mono ?_); rintro e w1 ⟨rfl, hb1⟩; have HB1 := Lib.hid hb1; clear hb1) | (go_at_call 44; (with_reducible refine (HC.out _ (HB0.out.trans (HB1.out.mono HB0.out.size))).mono ?_); rintro e w' ⟨rfl, rfl⟩) | (go_at_call 45; (with_reducible refine (HI.out _).mono ?_); rintro e w' ⟨rfl, rfl⟩))
        go_ret
        exact ⟨congrArg (fun z => Ending.returned (.bool z)) (by rw [HR.out]; first | done | rfl | (rw [HLen.out, HB.out]; rfl) | (rw [HLen.out]; rfl)), HB0.out⟩
    · have kb : (b == 0) = false := by simp [qb]
      have HB := Lib.hid (show decide (b = 0) = false by simp [qb])
      clear qb
      by_cases ql : l.size = 0
      · have kl := bytes_nil ql
        have HXl := Lib.hid ql
        rw [show decide (l.size = 0) = true by simp [ql]] at HR
        clear ql
        by_cases qrr : rr.size = 0
        · have krr := bytes_nil qrr
          have HXrr := Lib.hid qrr
          rw [show decide (rr.size = 0) = true by simp [qrr]] at HR
          clear qrr
          cases z with
          | false =>
            go_enter Tryz.func14, Tryz.ntmps14
            go_wp2_with (first | (go_at_call 41; first | ((with_reducible refine (HTl.out _).mono ?_); rintro e w' ⟨rfl, rfl⟩) | ((with_reducible refine (HTr.out _).mono ?_); rintro e w' ⟨rfl, rfl⟩)) | (go_at_call 42; (with_reducible refine (HZ.out _).mono ?_); rintro e w1 ⟨rfl, hb1⟩; have HB1 := Lib.hid hb1; obtain ⟨c0, c1, c2, c3, c4, c5, c6, c7⟩ := (HBX.out.kept hb1).cells; clear hb1) | (go_at_call 43; (with_reducible refine (HV.out _ HB0.out).mono ?_); rintro e w1 ⟨rfl, hb1⟩; have HB1 := Lib.hid hb1; clear hb1) | (go_at_call 44; (with_reducible refine (HC.out _ (HB0.out.trans (HB1.out.mono HB0.out.size))).mono ?_); rintro e w' ⟨rfl, rfl⟩) | (go_at_call 45; (with_reducible refine (HI.out _).mono ?_); rintro e w' ⟨rfl, rfl⟩))
            go_ret
            exact ⟨congrArg (fun z => Ending.returned (.bool z)) (by rw [HR.out]; first | done | rfl | (rw [HLen.out, HB.out]; rfl) | (rw [HLen.out]; rfl)), HB0.out.trans (HB1.out.mono HB0.out.size)⟩
          | true =>
            cases co with
            | false =>
              go_enter Tryz.func14, Tryz.ntmps14
              go_wp2_with (first | (go_at_call 41; first | ((with_reducible refine (HTl.out _).mono ?_); rintro e w' ⟨rfl, rfl⟩) | ((with_reducible refine (HTr.out _).mono ?_); rintro e w' ⟨rfl, rfl⟩)) | (go_at_call 42; (with_reducible refine (HZ.out _).mono ?_); rintro e w1 ⟨rfl, hb1⟩; have HB1 := Lib.hid hb1; obtain ⟨c0, c1, c2, c3, c4, c5, c6, c7⟩ := (HBX.out.kept hb1).cells; clear hb1) | (go_at_call 43; (with_reducible refine (HV.out _ HB0.out).mono ?_); rintro e w1 ⟨rfl, hb1⟩; have HB1 := Lib.hid hb1; clear hb1) | (go_at_call 44; (with_reducible refine (HC.out _ (HB0.out.trans (HB1.out.mono HB0.out.size))).mono ?_); rintro e w' ⟨rfl, rfl⟩) | (go_at_call 45; (with_reducible refine (HI.out _).mono ?_); rintro e w' ⟨rfl, rfl⟩))
              go_ret
              exact ⟨congrArg (fun z => Ending.returned (.bool z)) (by rw [HR.out]; first | done | rfl | (rw [HLen.out, HB.out]; rfl) | (rw [HLen.out]; rfl)), HB0.out.trans (HB1.out.mono HB0.out.size)⟩
            | true =>
              cases bo with
              | false =>
                go_enter Tryz.func14, Tryz.ntmps14
                go_wp2_with (first | (go_at_call 41; first | ((with_reducible refine (HTl.out _).mono ?_); rintro e w' ⟨rfl, rfl⟩) | ((with_reducible refine (HTr.out _).mono ?_); rintro e w' ⟨rfl, rfl⟩)) | (go_at_call 42; (with_reducible refine (HZ.out _).mono ?_); rintro e w1 ⟨rfl, hb1⟩; have HB1 := Lib.hid hb1; obtain ⟨c0, c1, c2, c3, c4, c5, c6, c7⟩ := (HBX.out.kept hb1).cells; clear hb1) | (go_at_call 43; (with_reducible refine (HV.out _ HB0.out).mono ?_); rintro e w1 ⟨rfl, hb1⟩; have HB1 := Lib.hid hb1; clear hb1) | (go_at_call 44; (with_reducible refine (HC.out _ (HB0.out.trans (HB1.out.mono HB0.out.size))).mono ?_); rintro e w' ⟨rfl, rfl⟩) | (go_at_call 45; (with_reducible refine (HI.out _).mono ?_); rintro e w' ⟨rfl, rfl⟩))
                go_ret
                exact ⟨congrArg (fun z => Ending.returned (.bool z)) (by rw [HR.out]; first | done | rfl | (rw [HLen.out, HB.out]; rfl) | (rw [HLen.out]; rfl)), HB0.out.trans (HB1.out.mono HB0.out.size)⟩
              | true =>
                go_enter Tryz.func14, Tryz.ntmps14
                go_wp2_with (first | (go_at_call 41; first | ((with_reducible refine (HTl.out _).mono ?_); rintro e w' ⟨rfl, rfl⟩) | ((with_reducible refine (HTr.out _).mono ?_); rintro e w' ⟨rfl, rfl⟩)) | (go_at_call 42; (with_reducible refine (HZ.out _).mono ?_); rintro e w1 ⟨rfl, hb1⟩; have HB1 := Lib.hid hb1; obtain ⟨c0, c1, c2, c3, c4, c5, c6, c7⟩ := (HBX.out.kept hb1).cells; clear hb1) | (go_at_call 43; (with_reducible refine (HV.out _ HB0.out).mono ?_); rintro e w1 ⟨rfl, hb1⟩; have HB1 := Lib.hid hb1; clear hb1) | (go_at_call 44; (with_reducible refine (HC.out _ (HB0.out.trans (HB1.out.mono HB0.out.size))).mono ?_); rintro e w' ⟨rfl, rfl⟩) | (go_at_call 45; (with_reducible refine (HI.out _).mono ?_); rintro e w' ⟨rfl, rfl⟩))
                go_ret
                exact ⟨congrArg (fun z => Ending.returned (.bool z)) (by rw [HR.out]; first | done | rfl | (rw [HLen.out, HB.out]; rfl) | (rw [HLen.out]; rfl)), HB0.out.trans (HB1.out.mono HB0.out.size)⟩
        · have krr := bytes_some qrr
          rw [show decide (rr.size = 0) = false by simp [qrr]] at HR
          clear qrr
          go_enter Tryz.func14, Tryz.ntmps14
          go_wp2_with (first | (go_at_call 41; first | ((with_reducible refine (HTl.out _).mono ?_); rintro e w' ⟨rfl, rfl⟩) | ((with_reducible refine (HTr.out _).mono ?_); rintro e w' ⟨rfl, rfl⟩)) | (go_at_call 42; (with_reducible refine (HZ.out _).mono ?_); rintro e w1 ⟨rfl, hb1⟩; have HB1 := Lib.hid hb1; obtain ⟨c0, c1, c2, c3, c4, c5, c6, c7⟩ := (HBX.out.kept hb1).cells; clear hb1) | (go_at_call 43; (with_reducible refine (HV.out _ HB0.out).mono ?_); rintro e w1 ⟨rfl, hb1⟩; have HB1 := Lib.hid hb1; clear hb1) | (go_at_call 44; (with_reducible refine (HC.out _ (HB0.out.trans (HB1.out.mono HB0.out.size))).mono ?_); rintro e w' ⟨rfl, rfl⟩) | (go_at_call 45; (with_reducible refine (HI.out _).mono ?_); rintro e w' ⟨rfl, rfl⟩))
          go_ret
          exact ⟨congrArg (fun z => Ending.returned (.bool z)) (by rw [HR.out]; first | done | rfl | (rw [HLen.out, HB.out]; rfl) | (rw [HLen.out]; rfl)), HB0.out⟩
      · have kl := bytes_some ql
        rw [show decide (l.size = 0) = false by simp [ql]] at HR
        clear ql
        go_enter Tryz.func14, Tryz.ntmps14
        go_wp2_with (first | (go_at_call 41; first | ((with_reducible refine (HTl.out _).mono ?_); rintro e w' ⟨rfl, rfl⟩) | ((with_reducible refine (HTr.out _).mono ?_); rintro e w' ⟨rfl, rfl⟩)) | (go_at_call 42; (with_reducible refine (HZ.out _).mono ?_); rintro e w1 ⟨rfl, hb1⟩; have HB1 := Lib.hid hb1; obtain ⟨c0, c1, c2, c3, c4, c5, c6, c7⟩ := (HBX.out.kept hb1).cells; clear hb1) | (go_at_call 43; (with_reducible refine (HV.out _ HB0.out).mono ?_); rintro e w1 ⟨rfl, hb1⟩; have HB1 := Lib.hid hb1; clear hb1) | (go_at_call 44; (with_reducible refine (HC.out _ (HB0.out.trans (HB1.out.mono HB0.out.size))).mono ?_); rintro e w' ⟨rfl, rfl⟩) | (go_at_call 45; (with_reducible refine (HI.out _).mono ?_); rintro e w' ⟨rfl, rfl⟩))
        go_ret
        exact ⟨congrArg (fun z => Ending.returned (.bool z)) (by rw [HR.out]; first | done | rfl | (rw [HLen.out, HB.out]; rfl) | (rw [HLen.out]; rfl)), HB0.out⟩
  · have kn : ((cs.length : Int) == 0) = false := by rw [beq_eq_false_iff_ne]; omega
    have HLen := Lib.hid (show decide (cs.length = 0) = false from decide_eq_false qn)
    have HB := Lib.hid (show True = True by rfl)
    clear qn
    by_cases ql : l.size = 0
    · have kl := bytes_nil ql
      have HXl := Lib.hid ql
      rw [show decide (l.size = 0) = true by simp [ql]] at HR
      clear ql
      by_cases qrr : rr.size = 0
      · have krr := bytes_nil qrr
        have HXrr := Lib.hid qrr
        rw [show decide (rr.size = 0) = true by simp [qrr]] at HR
        clear qrr
        cases z with
        | false =>
          go_enter Tryz.func14, Tryz.ntmps14
          go_wp2_with (first | (go_at_call 41; first | ((with_reducible refine (HTl.out _).mono ?_); rintro e w' ⟨rfl, rfl⟩) | ((with_reducible refine (HTr.out _).mono ?_); rintro e w' ⟨rfl, rfl⟩)) | (go_at_call 42; (with_reducible refine (HZ.out _).mono ?_); rintro e w1 ⟨rfl, hb1⟩; have HB1 := Lib.hid hb1; obtain ⟨c0, c1, c2, c3, c4, c5, c6, c7⟩ := (HBX.out.kept hb1).cells; clear hb1) | (go_at_call 43; (with_reducible refine (HV.out _ HB0.out).mono ?_); rintro e w1 ⟨rfl, hb1⟩; have HB1 := Lib.hid hb1; clear hb1) | (go_at_call 44; (with_reducible refine (HC.out _ (HB0.out.trans (HB1.out.mono HB0.out.size))).mono ?_); rintro e w' ⟨rfl, rfl⟩) | (go_at_call 45; (with_reducible refine (HI.out _).mono ?_); rintro e w' ⟨rfl, rfl⟩))
          go_ret
          exact ⟨congrArg (fun z => Ending.returned (.bool z)) (by rw [HR.out]; first | done | rfl | (rw [HLen.out, HB.out]; rfl) | (rw [HLen.out]; rfl)), HB0.out.trans (HB1.out.mono HB0.out.size)⟩
        | true =>
          cases co with
          | false =>
            go_enter Tryz.func14, Tryz.ntmps14
            go_wp2_with (first | (go_at_call 41; first | ((with_reducible refine (HTl.out _).mono ?_); rintro e w' ⟨rfl, rfl⟩) | ((with_reducible refine (HTr.out _).mono ?_); rintro e w' ⟨rfl, rfl⟩)) | (go_at_call 42; (with_reducible refine (HZ.out _).mono ?_); rintro e w1 ⟨rfl, hb1⟩; have HB1 := Lib.hid hb1; obtain ⟨c0, c1, c2, c3, c4, c5, c6, c7⟩ := (HBX.out.kept hb1).cells; clear hb1) | (go_at_call 43; (with_reducible refine (HV.out _ HB0.out).mono ?_); rintro e w1 ⟨rfl, hb1⟩; have HB1 := Lib.hid hb1; clear hb1) | (go_at_call 44; (with_reducible refine (HC.out _ (HB0.out.trans (HB1.out.mono HB0.out.size))).mono ?_); rintro e w' ⟨rfl, rfl⟩) | (go_at_call 45; (with_reducible refine (HI.out _).mono ?_); rintro e w' ⟨rfl, rfl⟩))
            go_ret
            exact ⟨congrArg (fun z => Ending.returned (.bool z)) (by rw [HR.out]; first | done | rfl | (rw [HLen.out, HB.out]; rfl) | (rw [HLen.out]; rfl)), HB0.out.trans (HB1.out.mono HB0.out.size)⟩
          | true =>
            cases bo with
            | false =>
              go_enter Tryz.func14, Tryz.ntmps14
              go_wp2_with (first | (go_at_call 41; first | ((with_reducible refine (HTl.out _).mono ?_); rintro e w' ⟨rfl, rfl⟩) | ((with_reducible refine (HTr.out _).mono ?_); rintro e w' ⟨rfl, rfl⟩)) | (go_at_call 42; (with_reducible refine (HZ.out _).mono ?_); rintro e w1 ⟨rfl, hb1⟩; have HB1 := Lib.hid hb1; obtain ⟨c0, c1, c2, c3, c4, c5, c6, c7⟩ := (HBX.out.kept hb1).cells; clear hb1) | (go_at_call 43; (with_reducible refine (HV.out _ HB0.out).mono ?_); rintro e w1 ⟨rfl, hb1⟩; have HB1 := Lib.hid hb1; clear hb1) | (go_at_call 44; (with_reducible refine (HC.out _ (HB0.out.trans (HB1.out.mono HB0.out.size))).mono ?_); rintro e w' ⟨rfl, rfl⟩) | (go_at_call 45; (with_reducible refine (HI.out _).mono ?_); rintro e w' ⟨rfl, rfl⟩))
              go_ret
              exact ⟨congrArg (fun z => Ending.returned (.bool z)) (by rw [HR.out]; first | done | rfl | (rw [HLen.out, HB.out]; rfl) | (rw [HLen.out]; rfl)), HB0.out.trans (HB1.out.mono HB0.out.size)⟩
            | true =>
              go_enter Tryz.func14, Tryz.ntmps14
              go_wp2_with (first | (go_at_call 41; first | ((with_reducible refine (HTl.out _).mono ?_); rintro e w' ⟨rfl, rfl⟩) | ((with_reducible refine (HTr.out _).mono ?_); rintro e w' ⟨rfl, rfl⟩)) | (go_at_call 42; (with_reducible refine (HZ.out _).mono ?_); rintro e w1 ⟨rfl, hb1⟩; have HB1 := Lib.hid hb1; obtain ⟨c0, c1, c2, c3, c4, c5, c6, c7⟩ := (HBX.out.kept hb1).cells; clear hb1) | (go_at_call 43; (with_reducible refine (HV.out _ HB0.out).mono ?_); rintro e w1 ⟨rfl, hb1⟩; have HB1 := Lib.hid hb1; clear hb1) | (go_at_call 44; (with_reducible refine (HC.out _ (HB0.out.trans (HB1.out.mono HB0.out.size))).mono ?_); rintro e w' ⟨rfl, rfl⟩) | (go_at_call 45; (with_reducible refine (HI.out _).mono ?_); rintro e w' ⟨rfl, rfl⟩))
              go_ret
              exact ⟨congrArg (fun z => Ending.returned (.bool z)) (by rw [HR.out]; first | done | rfl | (rw [HLen.out, HB.out]; rfl) | (rw [HLen.out]; rfl)), HB0.out.trans (HB1.out.mono HB0.out.size)⟩
      · have krr := bytes_some qrr
        rw [show decide (rr.size = 0) = false by simp [qrr]] at HR
        clear qrr
        go_enter Tryz.func14, Tryz.ntmps14
        go_wp2_with (first | (go_at_call 41; first | ((with_reducible refine (HTl.out _).mono ?_); rintro e w' ⟨rfl, rfl⟩) | ((with_reducible refine (HTr.out _).mono ?_); rintro e w' ⟨rfl, rfl⟩)) | (go_at_call 42; (with_reducible refine (HZ.out _).mono ?_); rintro e w1 ⟨rfl, hb1⟩; have HB1 := Lib.hid hb1; obtain ⟨c0, c1, c2, c3, c4, c5, c6, c7⟩ := (HBX.out.kept hb1).cells; clear hb1) | (go_at_call 43; (with_reducible refine (HV.out _ HB0.out).mono ?_); rintro e w1 ⟨rfl, hb1⟩; have HB1 := Lib.hid hb1; clear hb1) | (go_at_call 44; (with_reducible refine (HC.out _ (HB0.out.trans (HB1.out.mono HB0.out.size))).mono ?_); rintro e w' ⟨rfl, rfl⟩) | (go_at_call 45; (with_reducible refine (HI.out _).mono ?_); rintro e w' ⟨rfl, rfl⟩))
        go_ret
        exact ⟨congrArg (fun z => Ending.returned (.bool z)) (by rw [HR.out]; first | done | rfl | (rw [HLen.out, HB.out]; rfl) | (rw [HLen.out]; rfl)), HB0.out⟩
    · have kl := bytes_some ql
      rw [show decide (l.size = 0) = false by simp [ql]] at HR
      clear ql
      go_enter Tryz.func14, Tryz.ntmps14
      go_wp2_with (first | (go_at_call 41; first | ((with_reducible refine (HTl.out _).mono ?_); rintro e w' ⟨rfl, rfl⟩) | ((with_reducible refine (HTr.out _).mono ?_); rintro e w' ⟨rfl, rfl⟩)) | (go_at_call 42; (with_reducible refine (HZ.out _).mono ?_); rintro e w1 ⟨rfl, hb1⟩; have HB1 := Lib.hid hb1; obtain ⟨c0, c1, c2, c3, c4, c5, c6, c7⟩ := (HBX.out.kept hb1).cells; clear hb1) | (go_at_call 43; (with_reducible refine (HV.out _ HB0.out).mono ?_); rintro e w1 ⟨rfl, hb1⟩; have HB1 := Lib.hid hb1; clear hb1) | (go_at_call 44; (with_reducible refine (HC.out _ (HB0.out.trans (HB1.out.mono HB0.out.size))).mono ?_); rintro e w' ⟨rfl, rfl⟩) | (go_at_call 45; (with_reducible refine (HI.out _).mono ?_); rintro e w' ⟨rfl, rfl⟩))
      go_ret
      exact ⟨congrArg (fun z => Ending.returned (.bool z)) (by rw [HR.out]; first | done | rfl | (rw [HLen.out, HB.out]; rfl) | (rw [HLen.out]; rfl)), HB0.out⟩

set_option maxRecDepth 100000 in
set_option maxHeartbeats 12800000 in
theorem specVC_no (c : Cx) (xu vc : Value) (w : World) (h : CnO w xu vc c) (hsz : c.xa.size ≤ 2097152) (hk : c.k ≠ 1 ∧ c.k ≠ 2 ∧ c.k ≠ 3 ∧ c.k ≠ 4 ∧ c.k ≠ 5) :
    Calls Tryz.prog 14 #[.agg #[.int .i64 c.k, .string c.l, .string c.r, .int .i64 c.xk, .string c.xl, xu, vc, .int .i64 c.b]] w fun e w' => e = .returned (.bool (validX c)) ∧ Below w.heap.size w w' := by
  obtain ⟨A, m, B, r, rfl, rfl⟩ := h.shape
  have HR : Hid (validX c = (false)) := Lib.hid (by
    show validC c.cn = _
    unfold validC
    rw [if_neg (show ¬ (c.cn.k = 1 ∨ c.cn.k = 2) by show ¬ (c.k = 1 ∨ c.k = 2); omega), if_neg (show ¬ (c.cn.k = 3 ∨ c.cn.k = 4) by show ¬ (c.k = 3 ∨ c.k = 4); omega), if_neg (show ¬ c.cn.k = 5 by show ¬ c.k = 5; omega)]
    all_goals rfl)
  obtain ⟨⟨hl, hr, hx⟩, ⟨n, hS⟩, hRow⟩ := h.read
  obtain ⟨k, l, rr, xk, xl, xa, cs, b⟩ := c
  simp only at hl hr hx hS hRow HR hsz hk ⊢
  unfold maxI at hl hr hx
  have hcl := hRow.1
  rw [ints_length] at hcl
  have HTl := Lib.hid (fun w => specIsT_any l w (by unfold maxLen; omega))
  have HTr := Lib.hid (fun w => specIsT_any rr w (by unfold maxLen; omega))
  have HZ := Lib.hid (fun w => specZero_any xk xl A xa.items.length m w (SlP.len hS))
  have HV := Lib.hid (fun wr (hb : Below w.heap.size w wr) => specValid_any n w.heap.size xk xl _ xa wr (hS.mono hb (Nat.le_refl _)) hb.size hsz hx)
  have HC := Lib.hid (fun wr (hb : Below w.heap.size w wr) => specCoeffs_any _ cs _ wr (hRow.row.kept hb))
  have HI := Lib.hid (fun wr => l1In_all b (-99) 99 (inR (-99) 99 b) wr rfl)
  have HB0 := Lib.hid ((Below.refl w.heap.size w).alloc (Nat.le_refl _) (.cells #[.int .i64 k, .string l, .string rr, .int .i64 xk, .string xl, .slice A xa.items.length m, .slice B cs.length r, .int .i64 b] 29))
  have HBX := Lib.hid (boxC_new w ⟨k, l, rr, xk, xl, xa, cs, b⟩ (.slice A xa.items.length m) (.slice B cs.length r) 29)
  clear hS hRow hl hr hx hsz
  obtain ⟨k1, k2, k3, k4, k5⟩ : (k == 1) = false ∧ (k == 2) = false ∧ (k == 3) = false ∧ (k == 4) = false ∧ (k == 5) = false := by simp only [beq_eq_false_iff_ne]; omega
  clear hk
  by_cases qn : cs.length = 0
  · have kn : ((cs.length : Int) == 0) = true := by simp [qn]
    have HLen := Lib.hid (show decide (cs.length = 0) = true from decide_eq_true qn)
    clear qn
    by_cases qb : b = 0
    · have kb : (b == 0) = true := by simp [qb]
      have HB := Lib.hid (show decide (b = 0) = true by simp [qb])
      clear qb
      go_enter Tryz.func14, Tryz.ntmps14
      go_wp2_with (first | (go_at_call 41; first | ((with_reducible refine (HTl.out _).mono ?_); rintro e w' ⟨rfl, rfl⟩) | ((with_reducible refine (HTr.out _).mono ?_); rintro e w' ⟨rfl, rfl⟩)) | (go_at_call 42; (with_reducible refine (HZ.out _).mono ?_); rintro e w1 ⟨rfl, hb1⟩; have HB1 := Lib.hid hb1; obtain ⟨c0, c1, c2, c3, c4, c5, c6, c7⟩ := (HBX.out.kept hb1).cells; clear hb1) | (go_at_call 43; (with_reducible refine (HV.out _ HB0.out).mono ?_); rintro e w1 ⟨rfl, hb1⟩; have HB1 := Lib.hid hb1; clear hb1) | (go_at_call 44; (with_reducible refine (HC.out _ (HB0.out.trans (HB1.out.mono HB0.out.size))).mono ?_); rintro e w' ⟨rfl, rfl⟩) | (go_at_call 45; (with_reducible refine (HI.out _).mono ?_); rintro e w' ⟨rfl, rfl⟩))
      go_ret
      exact ⟨congrArg (fun z => Ending.returned (.bool z)) (by rw [HR.out]; first | done | rfl | (rw [HLen.out, HB.out]; rfl) | (rw [HLen.out]; rfl)), HB0.out⟩
    · have kb : (b == 0) = false := by simp [qb]
      have HB := Lib.hid (show decide (b = 0) = false by simp [qb])
      clear qb
      go_enter Tryz.func14, Tryz.ntmps14
      go_wp2_with (first | (go_at_call 41; first | ((with_reducible refine (HTl.out _).mono ?_); rintro e w' ⟨rfl, rfl⟩) | ((with_reducible refine (HTr.out _).mono ?_); rintro e w' ⟨rfl, rfl⟩)) | (go_at_call 42; (with_reducible refine (HZ.out _).mono ?_); rintro e w1 ⟨rfl, hb1⟩; have HB1 := Lib.hid hb1; obtain ⟨c0, c1, c2, c3, c4, c5, c6, c7⟩ := (HBX.out.kept hb1).cells; clear hb1) | (go_at_call 43; (with_reducible refine (HV.out _ HB0.out).mono ?_); rintro e w1 ⟨rfl, hb1⟩; have HB1 := Lib.hid hb1; clear hb1) | (go_at_call 44; (with_reducible refine (HC.out _ (HB0.out.trans (HB1.out.mono HB0.out.size))).mono ?_); rintro e w' ⟨rfl, rfl⟩) | (go_at_call 45; (with_reducible refine (HI.out _).mono ?_); rintro e w' ⟨rfl, rfl⟩))
      go_ret
      exact ⟨congrArg (fun z => Ending.returned (.bool z)) (by rw [HR.out]; first | done | rfl | (rw [HLen.out, HB.out]; rfl) | (rw [HLen.out]; rfl)), HB0.out⟩
  · have kn : ((cs.length : Int) == 0) = false := by rw [beq_eq_false_iff_ne]; omega
    have HLen := Lib.hid (show decide (cs.length = 0) = false from decide_eq_false qn)
    have HB := Lib.hid (show True = True by rfl)
    clear qn
    go_enter Tryz.func14, Tryz.ntmps14
    go_wp2_with (first | (go_at_call 41; first | ((with_reducible refine (HTl.out _).mono ?_); rintro e w' ⟨rfl, rfl⟩) | ((with_reducible refine (HTr.out _).mono ?_); rintro e w' ⟨rfl, rfl⟩)) | (go_at_call 42; (with_reducible refine (HZ.out _).mono ?_); rintro e w1 ⟨rfl, hb1⟩; have HB1 := Lib.hid hb1; obtain ⟨c0, c1, c2, c3, c4, c5, c6, c7⟩ := (HBX.out.kept hb1).cells; clear hb1) | (go_at_call 43; (with_reducible refine (HV.out _ HB0.out).mono ?_); rintro e w1 ⟨rfl, hb1⟩; have HB1 := Lib.hid hb1; clear hb1) | (go_at_call 44; (with_reducible refine (HC.out _ (HB0.out.trans (HB1.out.mono HB0.out.size))).mono ?_); rintro e w' ⟨rfl, rfl⟩) | (go_at_call 45; (with_reducible refine (HI.out _).mono ?_); rintro e w' ⟨rfl, rfl⟩))
    go_ret
    exact ⟨congrArg (fun z => Ending.returned (.bool z)) (by rw [HR.out]; first | done | rfl | (rw [HLen.out, HB.out]; rfl) | (rw [HLen.out]; rfl)), HB0.out⟩

theorem specVC_any (c : Cx) (xu vc : Value) (w : World) (h : CnO w xu vc c) (hsz : c.xa.size ≤ 2097152) :
    Calls Tryz.prog 14 #[.agg #[.int .i64 c.k, .string c.l, .string c.r, .int .i64 c.xk, .string c.xl, xu, vc, .int .i64 c.b]] w fun e w' => e = .returned (.bool (validX c)) ∧ Below w.heap.size w w' := by
  by_cases h12 : c.k = 1 ∨ c.k = 2
  · exact specVC_12 c xu vc w h hsz h12
  · by_cases h34 : c.k = 3 ∨ c.k = 4
    · exact specVC_34 c xu vc w h hsz h34
    · by_cases h5 : c.k = 5
      · exact specVC_5 c xu vc w h hsz h5
      · exact specVC_no c xu vc w h hsz (by omega)
end Go.Proofs.YtjjjdieljljcoaaGreatDoor

/-
  What spec.EqualRegex answers: whether two expressions are the same.
-/
namespace Go.Proofs.YtjjjdieljljcoaaGreatDoor
open Go.RowKit
/-- Whether two nodes are the same, in all that lies beneath. -/
def sameRx (k k' : Int) (l l' : ByteArray) (a b : Fr) : Bool := decide (k = k' ∧ l = l' ∧ a = b)
theorem items_inj : ∀ {f g : Fr}, f.items = g.items → f = g
  | .nil, .nil, _ => rfl
  | .nil, .cons _ _ _ _, h => by simp [Fr.items] at h
  | .cons _ _ _ _, .nil, h => by simp [Fr.items] at h
  | .cons k l a r, .cons k' l' a' r', h => by
    simp only [Fr.items, List.cons.injEq, Prod.mk.injEq] at h
    obtain ⟨⟨rfl, rfl, rfl⟩, h2⟩ := h
    rw [items_inj h2]
theorem eq_take {f g : Fr} {j : Nat} {x : Int × ByteArray × Fr} (h : f.items.take j = g.items.take j) (hf : f.items[j]? = some x) (hg : g.items[j]? = some x) : f.items.take (j + 1) = g.items.take (j + 1) := by
  rw [List.take_succ_eq_append_getElem (List.getElem?_eq_some_iff.1 hf).1, List.take_succ_eq_append_getElem (List.getElem?_eq_some_iff.1 hg).1, h, (List.getElem?_eq_some_iff.1 hf).2, (List.getElem?_eq_some_iff.1 hg).2]

theorem bytes_ne {l l' : ByteArray} (h : ¬ l = l') : (l.toList == l'.toList) = false ∧ (l.toList != l'.toList) = true := by
  have hn : ¬ l.toList = l'.toList := fun e => h (by rw [ByteArray.toList_eq, ByteArray.toList_eq] at e; exact ByteArray.ext (Array.toList_inj.1 e))
  exact ⟨by simpa using hn, by simpa using hn⟩
theorem boxes {w wr : World} {k k' : Int} {l l' : ByteArray} {u u' : Value} {t : TypeId} (hb : Below (w.heap.size + 1 + 1) ((w.alloc (.cells #[.int .i64 k, .string l, u] t)).alloc (.cells #[.int .i64 k', .string l', u'] t)) wr) :
    wr.cell? ⟨w.heap.size, 2, none⟩ = some u ∧ wr.cell? ⟨w.heap.size + 1, 2, none⟩ = some u' :=
  ⟨(hb.cell (p := ⟨w.heap.size, 2, none⟩) (by show w.heap.size < w.heap.size + 1 + 1; omega)).trans (by simp), (hb.cell (p := ⟨w.heap.size + 1, 2, none⟩) (Nat.lt_succ_self _)).trans (by simp)⟩

end Go.Proofs.YtjjjdieljljcoaaGreatDoor

/-
  Pairs of nodes that are still to be compared: where they lie, that no left one is met twice, what is left to do. Of no function of the program.
-/
namespace Go.Proofs.YtjjjdieljljcoaaGreatDoor
open Go.RowKit
/-- A node: its place, its fields, the blocks of what is beneath it. -/
structure It where
  g : Nat
  o : Nat
  k : Int
  l : ByteArray
  a : Fr
  S : Nat → Prop
def It.addr (x : It) : Addr := ⟨x.g, x.o, none⟩
def ItOk (w : World) (n : Nat) (x : It) : Prop := x.l.size ≤ 9223372036854775807 ∧ Plain w x.g ∧ ¬ x.S x.g ∧ ∃ u, ElAt w x.g x.o x.k x.l u ∧ SlT w n x.S u x.a
def ItApart (x y : It) : Prop := x.addr ≠ y.addr ∧ ¬ x.S y.g ∧ ¬ y.S x.g ∧ ∀ h, x.S h → ¬ y.S h
def Within (L : Nat → Prop) (x : It) : Prop := L x.g ∧ ∀ h, x.S h → L h
/-- The pairs that are still to be compared; M: the left ones that are done. -/
structure Inv (w : World) (n m : Nat) (PL PR : Nat → Prop) (M : Addr → Prop) (Ps : List (It × It)) : Prop where
  ok : ∀ p ∈ Ps, ItOk w n p.1 ∧ ItOk w m p.2 ∧ Within PL p.1 ∧ Within PR p.2
  new : ∀ p ∈ Ps, ∀ q, M q → q ≠ p.1.addr ∧ ¬ p.1.S q.block
  apart : Ps.Pairwise (fun p q => ItApart p.1 q.1)
  done : ∀ q, M q → PL q.block ∧ Plain w q.block

def Same (Ps : List (It × It)) : Prop := ∀ p ∈ Ps, p.1.k = p.2.k ∧ p.1.l = p.2.l ∧ p.1.a = p.2.a
def tot (Ps : List (It × It)) : Nat := (Ps.map fun p => p.1.a.size + 1).sum
def pairCells (Ps : List (It × It)) : List Value := Ps.flatMap fun p => [.pointer (some p.1.addr), .pointer (some p.2.addr)]

theorem tot_append (A B : List (It × It)) : tot (A ++ B) = tot A + tot B := by simp [tot]
theorem pairCells_append (A B : List (It × It)) : pairCells (A ++ B) = pairCells A ++ pairCells B := by simp [pairCells]
theorem pairCells_length : ∀ A : List (It × It), (pairCells A).length = A.length * 2
  | [] => rfl
  | p :: r => by
    have := pairCells_length r
    simp only [pairCells, List.flatMap_cons, List.length_append, List.length_cons, List.length_nil] at this ⊢
    omega
theorem length_tot : ∀ A : List (It × It), A.length ≤ tot A
  | [] => Nat.le_refl _
  | p :: r => by
    have := length_tot r
    simp only [tot, List.map_cons, List.sum_cons, List.length_cons] at this ⊢
    omega
theorem Inv.pop {w : World} {n m : Nat} {PL PR : Nat → Prop} {M : Addr → Prop} {Ps : List (It × It)} {p : It × It} (h : Inv w n m PL PR M (Ps ++ [p])) : Inv w n m PL PR M Ps :=
  ⟨fun q hq => h.ok q (List.mem_append_left _ hq), fun q hq => h.new q (List.mem_append_left _ hq), (List.pairwise_append.1 h.apart).1, h.done⟩

/-- The nodes of a row, from number j on. -/
def kids (g o : Nat) (K : Nat → Nat → Prop) : Nat → List (Int × ByteArray × Fr) → List It
  | _, [] => []
  | j, x :: r => ⟨g, o + j * 3, x.1, x.2.1, x.2.2, K j⟩ :: kids g o K (j + 1) r
theorem kids_length (g o : Nat) (K : Nat → Nat → Prop) : ∀ (L : List (Int × ByteArray × Fr)) (j : Nat), (kids g o K j L).length = L.length
  | [], _ => rfl
  | _ :: r, j => by simp [kids, kids_length g o K r (j + 1)]
theorem kids_get (g o : Nat) (K : Nat → Nat → Prop) : ∀ (L : List (Int × ByteArray × Fr)) (j i : Nat) (x : It), (kids g o K j L)[i]? = some x → ∃ y, L[i]? = some y ∧ x = ⟨g, o + (j + i) * 3, y.1, y.2.1, y.2.2, K (j + i)⟩
  | [], _, i, x, h => by simp [kids] at h
  | y :: r, j, 0, x, h => by
    simp [kids] at h
    exact ⟨y, rfl, by rw [← h]; rfl⟩
  | y :: r, j, i + 1, x, h => by
    simp only [kids, List.getElem?_cons_succ] at h
    obtain ⟨z, hz, hx⟩ := kids_get g o K r (j + 1) i x h
    exact ⟨z, by simpa using hz, by rw [hx]; simp only [It.mk.injEq]; exact ⟨trivial, by omega, trivial, trivial, trivial, by rw [show j + 1 + i = j + (i + 1) by omega]⟩⟩
theorem kids_at (g o : Nat) (K : Nat → Nat → Prop) : ∀ (L : List (Int × ByteArray × Fr)) (j i : Nat) (y : Int × ByteArray × Fr), L[i]? = some y → (kids g o K j L)[i]? = some ⟨g, o + (j + i) * 3, y.1, y.2.1, y.2.2, K (j + i)⟩
  | [], _, i, y, h => by simp at h
  | z :: r, j, 0, y, h => by
    simp at h
    subst h
    rfl
  | z :: r, j, i + 1, y, h => by
    simp only [List.getElem?_cons_succ] at h
    rw [kids, List.getElem?_cons_succ, kids_at g o K r (j + 1) i y h, show j + 1 + i = j + (i + 1) by omega]
theorem kids_size (g o : Nat) (K : Nat → Nat → Prop) : ∀ (f : Fr) (j : Nat), ((kids g o K j f.items).map fun x => x.a.size + 1).sum = f.size
  | .nil, _ => rfl
  | .cons k l a r, j => by
    simp only [Fr.items, kids, List.map_cons, List.sum_cons, Fr.size, kids_size g o K r (j + 1)]
    omega
/-- The pairs of parts. -/
def kidPairs (g o : Nat) (K : Nat → Nat → Prop) (g' o' : Nat) (K' : Nat → Nat → Prop) (a b : Fr) : List (It × It) := (kids g o K 0 a.items).zip (kids g' o' K' 0 b.items)
theorem zip_get {α β : Type} {A : List α} {B : List β} {i : Nat} {p : α × β} (h : (A.zip B)[i]? = some p) : A[i]? = some p.1 ∧ B[i]? = some p.2 := by
  rw [List.getElem?_zip_eq_some] at h
  exact h
theorem kidPairs_length (g o : Nat) (K : Nat → Nat → Prop) (g' o' : Nat) (K' : Nat → Nat → Prop) {a b : Fr} (h : a.items.length = b.items.length) : (kidPairs g o K g' o' K' a b).length = a.items.length := by
  simp [kidPairs, kids_length, h]
theorem map_fst_zip' {α β : Type} : ∀ (A : List α) (B : List β), A.length = B.length → (A.zip B).map (·.1) = A
  | [], _, _ => by simp
  | x :: r, [], h => by simp at h
  | x :: r, y :: s, h => by
    simp at h
    simp [map_fst_zip' r s h]
theorem kidPairs_tot (g o : Nat) (K : Nat → Nat → Prop) (g' o' : Nat) (K' : Nat → Nat → Prop) {a b : Fr} (h : a.items.length = b.items.length) : tot (kidPairs g o K g' o' K' a b) = a.size := by
  have e : (kidPairs g o K g' o' K' a b).map (fun p => p.1.a.size + 1) = (kids g o K 0 a.items).map fun x => x.a.size + 1 := by
    have := map_fst_zip' (kids g o K 0 a.items) (kids g' o' K' 0 b.items) (by rw [kids_length, kids_length, h])
    conv => rhs; rw [← this]
    simp [kidPairs]
  rw [tot, e, kids_size]
theorem kidPairs_at (g o : Nat) (K : Nat → Nat → Prop) (g' o' : Nat) (K' : Nat → Nat → Prop) {a b : Fr} {i : Nat} {x y : Int × ByteArray × Fr} (hx : a.items[i]? = some x) (hy : b.items[i]? = some y) :
    (kidPairs g o K g' o' K' a b)[i]? = some (⟨g, o + i * 3, x.1, x.2.1, x.2.2, K i⟩, ⟨g', o' + i * 3, y.1, y.2.1, y.2.2, K' i⟩) := by
  rw [kidPairs, List.getElem?_zip_eq_some]
  have h1 := kids_at g o K a.items 0 i x hx
  have h2 := kids_at g' o' K' b.items 0 i y hy
  rw [Nat.zero_add] at h1 h2
  exact ⟨h1, h2⟩
theorem kidPairs_get (g o : Nat) (K : Nat → Nat → Prop) (g' o' : Nat) (K' : Nat → Nat → Prop) {a b : Fr} {i : Nat} {p : It × It} (h : (kidPairs g o K g' o' K' a b)[i]? = some p) :
    ∃ x y, a.items[i]? = some x ∧ b.items[i]? = some y ∧ p = (⟨g, o + i * 3, x.1, x.2.1, x.2.2, K i⟩, ⟨g', o' + i * 3, y.1, y.2.1, y.2.2, K' i⟩) := by
  obtain ⟨h1, h2⟩ := zip_get h
  obtain ⟨x, hx, ex⟩ := kids_get _ _ _ _ _ _ _ h1
  obtain ⟨y, hy, ey⟩ := kids_get _ _ _ _ _ _ _ h2
  rw [Nat.zero_add] at ex ey
  exact ⟨x, y, hx, hy, Prod.ext ex ey⟩

theorem kidPairs_some (g o : Nat) (K : Nat → Nat → Prop) (g' o' : Nat) (K' : Nat → Nat → Prop) {a b : Fr} (h : a.items.length = b.items.length) {j : Nat} (hj : j < a.items.length) :
    ∃ p, (kidPairs g o K g' o' K' a b)[j]? = some p ∧ p.1.addr = ⟨g, o + j * 3, none⟩ ∧ p.2.addr = ⟨g', o' + j * 3, none⟩ :=
  ⟨_, kidPairs_at g o K g' o' K' (List.getElem?_eq_getElem hj) (List.getElem?_eq_getElem (by omega : j < b.items.length)), rfl, rfl⟩
theorem same_append {A B : List (It × It)} : Same (A ++ B) ↔ Same A ∧ Same B := by
  simp only [Same, List.mem_append]
  exact ⟨fun h => ⟨fun p hp => h p (.inl hp), fun p hp => h p (.inr hp)⟩, fun h p hp => hp.elim (h.1 p) (h.2 p)⟩
theorem same_kids (g o : Nat) (K : Nat → Nat → Prop) (g' o' : Nat) (K' : Nat → Nat → Prop) {a b : Fr} (h : a.items.length = b.items.length) : Same (kidPairs g o K g' o' K' a b) ↔ a = b := by
  constructor
  · intro hs
    refine items_inj (List.ext_getElem? fun i => ?_)
    by_cases hi : i < a.items.length
    · obtain ⟨x, hx⟩ : ∃ x, a.items[i]? = some x := ⟨_, List.getElem?_eq_getElem hi⟩
      obtain ⟨y, hy⟩ : ∃ y, b.items[i]? = some y := ⟨_, List.getElem?_eq_getElem (by omega)⟩
      have := hs _ (List.mem_of_getElem? (kidPairs_at g o K g' o' K' hx hy))
      rw [hx, hy]
      obtain ⟨h1, h2, h3⟩ := this
      exact congrArg some (Prod.ext h1 (Prod.ext h2 h3))
    · rw [List.getElem?_eq_none (by omega), List.getElem?_eq_none (by omega)]
  · rintro rfl p hp
    obtain ⟨i, hi, rfl⟩ := List.mem_iff_getElem.1 hp
    obtain ⟨x, y, hx, hy, e⟩ := kidPairs_get g o K g' o' K' (List.getElem?_eq_getElem hi)
    rw [hx] at hy
    cases hy
    rw [e]
    exact ⟨rfl, rfl, rfl⟩
theorem same_last (Ps : List (It × It)) (x y : It) (g o : Nat) (K : Nat → Nat → Prop) (g' o' : Nat) (K' : Nat → Nat → Prop) (h : x.a.items.length = y.a.items.length) (hk : x.k = y.k) (hl : x.l = y.l) :
    Same (Ps ++ [(x, y)]) ↔ Same (Ps ++ kidPairs g o K g' o' K' x.a y.a) := by
  rw [same_append, same_append, same_kids g o K g' o' K' h]
  simp [Same, hk, hl]

/-- A node's parts. -/
theorem ItOk.open {w : World} {n : Nat} {x : It} (h : ItOk w (n + 1) x) : ∃ A c, ElAt w x.g x.o x.k x.l (.slice A x.a.items.length c) ∧ x.a.items.length ≤ 9223372036854775807 ∧
    (0 < x.a.items.length → ∃ (g o : Nat) (K : Nat → Nat → Prop), A = some ⟨g, o, none⟩ ∧ x.S g ∧ Plain w g ∧ (∀ j h, K j h → x.S h ∧ h ≠ g) ∧ (∀ i j h, K i h → K j h → i = j) ∧
      ∀ (j : Nat) (y : Int × ByteArray × Fr), x.a.items[j]? = some y → ItOk w (n + 1) ⟨g, o + j * 3, y.1, y.2.1, y.2.2, K j⟩) := by
  obtain ⟨hl, hp, hg, u, he, hlen, hs⟩ := h
  rcases hs with ⟨h0, A, c, rfl⟩ | ⟨g, o, c, K, rfl, hSg, hpg, hK, hd, hc⟩
  · exact ⟨A, c, by rw [h0]; exact he, hlen, fun h => by omega⟩
  · refine ⟨_, c, he, hlen, fun _ => ⟨g, o, K, rfl, hSg, hpg, hK, hd, fun j y hj => ?_⟩⟩
    obtain ⟨h1, u', he', h4⟩ := hc j y.1 y.2.1 y.2.2 hj
    exact ⟨h1, hpg, fun hh => (hK j _ hh).2 rfl, u', he', h4.more⟩

/-- One pair is done; its parts come in its place. -/
theorem Inv.step {w : World} {n m : Nat} {PL PR : Nat → Prop} {M : Addr → Prop} {Ps : List (It × It)} {x y : It} (hI : Inv w n m PL PR M (Ps ++ [(x, y)])) {g o g' o' : Nat} {K K' : Nat → Nat → Prop}
    (h1 : x.S g) (h2 : ∀ j h, K j h → x.S h ∧ h ≠ g) (h3 : ∀ i j h, K i h → K j h → i = j) (h4 : ∀ (j : Nat) (z : Int × ByteArray × Fr), x.a.items[j]? = some z → ItOk w n ⟨g, o + j * 3, z.1, z.2.1, z.2.2, K j⟩)
    (h1' : y.S g') (h2' : ∀ j h, K' j h → y.S h ∧ h ≠ g') (h4' : ∀ (j : Nat) (z : Int × ByteArray × Fr), y.a.items[j]? = some z → ItOk w m ⟨g', o' + j * 3, z.1, z.2.1, z.2.2, K' j⟩) :
    Inv w n m PL PR (fun q => M q ∨ q = x.addr) (Ps ++ kidPairs g o K g' o' K' x.a y.a) := by
  have hxy : (x, y) ∈ Ps ++ [(x, y)] := by simp
  obtain ⟨okx, oky, wx, wy⟩ := hI.ok _ hxy
  have newx := hI.new _ hxy
  have hap := List.pairwise_append.1 hI.apart
  have hk : ∀ p ∈ kidPairs g o K g' o' K' x.a y.a, ∃ j zx zy, x.a.items[j]? = some zx ∧ y.a.items[j]? = some zy ∧ p = (⟨g, o + j * 3, zx.1, zx.2.1, zx.2.2, K j⟩, ⟨g', o' + j * 3, zy.1, zy.2.1, zy.2.2, K' j⟩) := fun p hp => by
    obtain ⟨i, hi, rfl⟩ := List.mem_iff_getElem.1 hp
    obtain ⟨zx, zy, hx, hy, e⟩ := kidPairs_get g o K g' o' K' (List.getElem?_eq_getElem hi)
    exact ⟨i, zx, zy, hx, hy, e⟩
  refine ⟨fun p hp => ?_, fun p hp q hq => ?_, ?_, fun q hq => ?_⟩
  · rcases List.mem_append.1 hp with hp | hp
    · exact hI.ok p (List.mem_append_left _ hp)
    · obtain ⟨j, zx, zy, hx, hy, rfl⟩ := hk p hp
      exact ⟨h4 j zx hx, h4' j zy hy, ⟨wx.2 g h1, fun h hh => wx.2 h (h2 j h hh).1⟩, ⟨wy.2 g' h1', fun h hh => wy.2 h (h2' j h hh).1⟩⟩
  · rcases List.mem_append.1 hp with hp | hp
    · rcases hq with hq | rfl
      · exact hI.new p (List.mem_append_left _ hp) q hq
      · have := hap.2.2 p hp (x, y) (by simp)
        exact ⟨fun e => this.1 e.symm, this.2.1⟩
    · obtain ⟨j, zx, zy, hx, hy, rfl⟩ := hk p hp
      rcases hq with hq | rfl
      · have := newx q hq
        refine ⟨fun e => this.2 ?_, fun hh => this.2 (h2 j _ hh).1⟩
        rw [e]
        exact h1
      · refine ⟨fun e => okx.2.2.1 ?_, fun hh => okx.2.2.1 (h2 j _ hh).1⟩
        have : x.g = g := congrArg Addr.block e
        rw [this]
        exact h1
  · rw [List.pairwise_append]
    refine ⟨hap.1, ?_, fun p hp q hq => ?_⟩
    · rw [List.pairwise_iff_getElem]
      intro i j hi hj hij
      obtain ⟨zx, zy, hx, hy, e⟩ := kidPairs_get g o K g' o' K' (List.getElem?_eq_getElem hi)
      obtain ⟨zx', zy', hx', hy', e'⟩ := kidPairs_get g o K g' o' K' (List.getElem?_eq_getElem hj)
      rw [e, e']
      refine ⟨fun e2 => ?_, fun hh => (h2 i _ hh).2 rfl, fun hh => (h2 j _ hh).2 rfl, fun h hh hh' => by have := h3 i j h hh hh'; omega⟩
      have := congrArg Addr.off e2
      simp only [It.addr] at this
      omega
    · obtain ⟨j, zx, zy, hx, hy, rfl⟩ := hk q hq
      have := hap.2.2 p hp (x, y) (by simp)
      refine ⟨fun e => this.2.2.1 ?_, fun hh => this.2.2.2 g hh h1, fun hh => this.2.2.1 (h2 j _ hh).1, fun h hh hh' => this.2.2.2 h hh (h2 j h hh').1⟩
      have e2 : p.1.g = g := congrArg Addr.block e
      rw [e2]
      exact h1
  · rcases hq with hq | rfl
    · exact hI.done q hq
    · exact ⟨wx.1, okx.2.1⟩
end Go.Proofs.YtjjjdieljljcoaaGreatDoor

/-
  A map of the call's own whose keys are pointers to ordinary cells: a look-up and a store at a key that it does not hold. Of no program.
-/
namespace Go.Proofs.YtjjjdieljljcoaaGreatDoor
open Go.RowKit
/-- Block b is a map; each of its keys is a pointer of M. -/
def PtrMap (w : World) (b : Nat) (M : Addr → Prop) : Prop := ∃ es clock, w.heap[b]? = some (.map es clock) ∧ ∀ e ∈ es.toList, ∃ q, e.key = .pointer (some q) ∧ M q
theorem PtrMap.same {w w' : World} {b : Nat} {M : Addr → Prop} (h : PtrMap w b M) (hs : w'.heap[b]? = w.heap[b]?) : PtrMap w' b M := by
  obtain ⟨es, clock, hb, hk⟩ := h
  exact ⟨es, clock, hs.trans hb, hk⟩
theorem PtrMap.lt {w : World} {b : Nat} {M : Addr → Prop} (h : PtrMap w b M) : b < w.heap.size := by
  obtain ⟨es, clock, hb, _⟩ := h
  exact (Array.getElem?_eq_some_iff.1 hb).1
theorem PtrMap.made (w : World) (M : Addr → Prop) : PtrMap (w.alloc (.map #[] 0)) w.heap.size M := ⟨#[], 0, (MapKept.heap_alloc w _).1, by simp⟩

section
variable {P : Program} {k e : TypeId}
theorem run_equalIn_ptr_other (d : Nat) {i : TypeInfo} (hk : P.underlying k = some (.pointer e)) (hi : P.info? e = some i) (hz : i.size ≠ 0) (w : World) {p q : Addr} (hne : p ≠ q) (hp : Plain w p.block) (hq : Plain w q.block) :
    (Op.equalIn (d + 1) k (.pointer (some p)) (.pointer (some q))).run P w = .ok false w := by
  obtain ⟨c1, t1, h1⟩ := hp
  obtain ⟨c2, t2, h2⟩ := hq
  simp [Op.equalIn, run_underlying hk, sizeOf, typeInfo, hi, hz, run_sameAddr_other w hne h1 h2]
theorem run_equal_ptr_other {i : TypeInfo} (hk : P.underlying k = some (.pointer e)) (hi : P.info? e = some i) (hz : i.size ≠ 0) (w : World) {p q : Addr} (hne : p ≠ q) (hp : Plain w p.block) (hq : Plain w q.block) :
    (Op.equal k (.pointer (some p)) (.pointer (some q))).run P w = .ok false w := run_equalIn_ptr_other 9999 hk hi hz w hne hp hq
theorem run_checkKey_ptr (em : Bool) (n : Nat) (hk : P.underlying k = some (.pointer e)) (w : World) (p : Option Addr) : (Instr.checkKey em (n + 1) k (.pointer p)).run P w = .ok () w := by
  unfold Instr.checkKey
  simp [run_underlying hk]
theorem run_findAsking_none {i : TypeInfo} (hk : P.underlying k = some (.pointer e)) (hi : P.info? e = some i) (hz : i.size ≠ 0) (w : World) {p : Addr} (hp : Plain w p.block) :
    ∀ (es : List MapEntry) (n : Nat), (∀ x ∈ es, ∃ q, x.key = .pointer (some q) ∧ p ≠ q ∧ Plain w q.block) → (Instr.findAsking k (.pointer (some p)) es n).run P w = .ok none w
  | [], n, _ => by simp [Instr.findAsking]
  | x :: r, n, h => by
    obtain ⟨q, hx, hne, hq⟩ := h x (by simp)
    have ih := run_findAsking_none hk hi hz w hp r (n + 1) (fun y hy => h y (by simp [hy]))
    simp [Instr.findAsking, hx, run_equal_ptr_other hk hi hz w hne hp hq, ih]
theorem run_findKey_none {i : TypeInfo} (hk : P.underlying k = some (.pointer e)) (hi : P.info? e = some i) (hz : i.size ≠ 0) (w : World) {p : Addr} (hp : Plain w p.block)
    (es : List MapEntry) (h : ∀ x ∈ es, ∃ q, x.key = .pointer (some q) ∧ p ≠ q ∧ Plain w q.block) : (Instr.findKey k (.pointer (some p)) es).run P w = .ok none w := by
  cases es with
  | nil => simp [Instr.findKey, run_underlying hk, Instr.findNow]
  | cons x r =>
    obtain ⟨q, hx, hne, hq⟩ := h x (by simp)
    simp [Instr.findKey, run_underlying hk, Instr.findNow, hx, Instr.sameNow, run_findAsking_none hk hi hz w hp (x :: r) 0 h]
theorem run_lookup_new {t : TypeId} {i : TypeInfo} {b : Nat} {M : Addr → Prop} (ht : P.underlying t = some (.map k k)) (hk : P.underlying k = some (.pointer e)) (hi : P.info? e = some i) (hz : i.size ≠ 0) (w : World)
    (h0 : (zeroValue k).run P w = .ok (.pointer none) w) (hm : PtrMap w b M) {p : Addr} (hp : Plain w p.block) (hM : ∀ q, M q → p ≠ q ∧ Plain w q.block) :
    (Instr.lookup t (.map (some b)) (.pointer (some p)) false).run P w = .ok (.pointer none) w := by
  obtain ⟨es, clock, hb, hes⟩ := hm
  have hf := run_findKey_none hk hi hz w hp es.toList (fun x hx => by
    obtain ⟨q, hq, hMq⟩ := hes x hx
    exact ⟨q, hq, (hM q hMq).1, (hM q hMq).2⟩)
  simp [Instr.lookup, run_underlying ht, MapKept.run_getObj_map hb, run_checkKey_ptr es.isEmpty 9999 hk w, hf, h0]
theorem run_update_new {t : TypeId} {i : TypeInfo} {b : Nat} {M : Addr → Prop} (ht : P.underlying t = some (.map k k)) (hk : P.underlying k = some (.pointer e)) (hi : P.info? e = some i) (hz : i.size ≠ 0) (w : World)
    (hm : PtrMap w b M) {p : Addr} (v : Value) (hp : Plain w p.block) (hM : ∀ q, M q → p ≠ q ∧ Plain w q.block) :
    ∃ w', (Instr.mapUpdate t (.map (some b)) (.pointer (some p)) v).run P w = .ok () w' ∧ PtrMap w' b (fun q => M q ∨ q = p) ∧ w.grownBy w' (some b) := by
  obtain ⟨es, clock, hb, hes⟩ := hm
  have hf := run_findKey_none hk hi hz w hp es.toList (fun x hx => by
    obtain ⟨q, hq, hMq⟩ := hes x hx
    exact ⟨q, hq, (hM q hMq).1, (hM q hMq).2⟩)
  refine ⟨ChangeMaps.setBlock w b (.map (es.push ⟨.pointer (some p), v, clock⟩) (clock + 1)), ?_, ⟨_, _, ChangeMaps.heap_setBlock_same hb _, fun x hx => ?_⟩, ⟨rfl, rfl, rfl, by simp [ChangeMaps.setBlock], fun j _ hj => ChangeMaps.heap_setBlock_other hb _ (fun e => hj (by rw [e]))⟩⟩
  · simp [Instr.mapUpdate, run_underlying ht, MapKept.run_getObj_map hb, run_checkKey_ptr false 9999 hk w, hf, MapKept.run_setObj_map _ hb, ChangeMaps.setBlock]
  · simp only [Array.toList_push, List.mem_append, List.mem_singleton] at hx
    rcases hx with hx | rfl
    · obtain ⟨q, hq, hMq⟩ := hes x hx
      exact ⟨q, hq, .inl hMq⟩
    · exact ⟨p, rfl, .inr rfl⟩
theorem run_eql_ptr_other {i : TypeInfo} (hk : P.underlying k = some (.pointer e)) (hi : P.info? e = some i) (hz : i.size ≠ 0) (w : World) {p q : Addr} (hne : p ≠ q) (hp : Plain w p.block) (hq : Plain w q.block) :
    (binOp .eql k (.pointer (some p)) (.pointer (some q))).run P w = .ok (.bool false) w := by
  simp only [binOp]
  simp [run_equal_ptr_other hk hi hz w hne hp hq]
end
theorem rxInfo2 : ∃ i, Tryz.prog.info? 26 = some i ∧ i.size ≠ 0 := by
  have h : (Tryz.prog.info? 26).map (fun i => i.size) = some 3 := by kernel_rfl
  obtain ⟨i, hi, h3⟩ := Option.map_eq_some_iff.1 h
  exact ⟨i, hi, by rw [h3]; decide⟩

/-- A node that is in no class leads to itself. -/
theorem head_new (b : Nat) (M : Addr → Prop) (p : Addr) (w : World) (hm : PtrMap w b M) (hp : Plain w p.block) (hM : ∀ q, M q → p ≠ q ∧ Plain w q.block) :
    Calls Tryz.prog 138 #[.map (some b), .pointer (some p)] w fun e w' => e = .returned (.pointer (some p)) ∧ w = w' := by
  obtain ⟨i, hi, hz⟩ := rxInfo2
  have hl : (Instr.lookup 100 (.map (some b)) (.pointer (some p)) false).run Tryz.prog w = .ok (.pointer none) w :=
    run_lookup_new Tryz.underlying100 Tryz.underlying101 hi hz w (by kernel_rfl) hm hp hM
  clear hi hz hm hp hM
  go_enter Tryz.func138, Tryz.ntmps138
  go_wp2
  refine wp_loop_rounds 1 ?_
  rw [rounds_succ]
  go_wp2
  go_ret
  exact ⟨rfl, rfl⟩
/-- Two nodes that are in no class come into one. -/
theorem join_new (b : Nat) (M : Addr → Prop) (p q : Addr) (w : World) (hm : PtrMap w b M) (hp : Plain w p.block) (hq : Plain w q.block) (hne : p ≠ q) (hM : ∀ r, M r → (p ≠ r ∧ q ≠ r) ∧ Plain w r.block) :
    Calls Tryz.prog 93 #[.map (some b), .pointer (some p), .pointer (some q)] w fun e w' => e = .returned (.bool true) ∧ PtrMap w' b (fun r => M r ∨ r = p) ∧ w.grownBy w' (some b) := by
  obtain ⟨i, hi, hz⟩ := rxInfo2
  have HP := Lib.hid (head_new b M p w hm hp (fun r hr => ⟨(hM r hr).1.1, (hM r hr).2⟩))
  have HQ := Lib.hid (head_new b M q w hm hq (fun r hr => ⟨(hM r hr).1.2, (hM r hr).2⟩))
  have he : (binOp .eql 101 (.pointer (some p)) (.pointer (some q))).run Tryz.prog w = .ok (.bool false) w := run_eql_ptr_other Tryz.underlying101 hi hz w hne hp hq
  obtain ⟨w2, hu, hm2, hg2⟩ := run_update_new (t := 100) Tryz.underlying100 Tryz.underlying101 hi hz w hm (.pointer (some q)) hp (fun r hr => ⟨(hM r hr).1.1, (hM r hr).2⟩)
  have HM2 := Lib.hid hm2
  have HG2 := Lib.hid hg2
  clear hi hz hm hp hq hM hm2 hg2 hne
  go_enter Tryz.func93, Tryz.ntmps93
  go_wp2_with fail
  refine HP.out.mono ?_
  rintro e w1 ⟨rfl, rfl⟩
  go_wp2_with fail
  refine HQ.out.mono ?_
  rintro e w1 ⟨rfl, rfl⟩
  go_wp2_with fail
  go_ret
  exact ⟨rfl, HM2.out, HG2.out⟩
end Go.Proofs.YtjjjdieljljcoaaGreatDoor

/-
  'append' to a slice of the call's own, as one step of a region that draws its order. Of no program.
-/
namespace Go.Proofs.YtjjjdieljljcoaaGreatDoor
open Go.RowKit
theorem step_append_own {P : Program} {ops : Array Oper} {o : Oper} {a : Act} {w : World} {K : Act → World → Prop} {Q : Exit → Act → World → Prop} {E : Prop}
    (hg : o.guard = none) (s x : Operand) (t : TypeId) (hop : o.op = Op.call { callee := Callee.builtin Builtin.append, args := #[s, x], argTypes := #[t, t] })
    (base : Nat) (e : TypeId) (i : TypeInfo) (z : Value) (size bytes : Nat) (h1 : P.underlying t = some (.slice e)) (h2 : P.info? e = some i) (h3 : i.zero = some z) (h4 : i.size = size) (h5 : i.bytes = bytes) (h6 : z.cells.size = size) (h7 : 0 < size)
    (v : Value) (n : Nat) (xs : List Value) (hs : a.eval s = v) (hown : w.ownsRow base e size v n xs) (ad : Addr) (m c : Nat) (news : List Value) (hx : a.eval x = .slice (some ad) m c) (hn : news.length = m * size)
    (hc : ∀ j u, news[j]? = some u → w.cell? (ad.add j) = some u) (h1c : ∀ u ∈ news, u.oneCell' = true) (b1 : n + m ≤ maxLen) (b2 : (n + m) * bytes ≤ 140737488355328) (hbase : base ≤ w.heap.size)
    (hK : ∀ v' w', w'.ownsRow base e size v' (n + m) (xs ++ news) → w.grownBy w' v.ownBlock → K (a.put o.dst v') w') :
    if Region.wanted o (yielded ops a.tmps) = true then Oper.wp P o a w K Q else E := by
  obtain ⟨v', w', hrun, ho, hgr, _⟩ := run_append_own (P := P) w base t o.type e i z size bytes h1 h2 h3 h4 h5 h6 h7 v n xs hown ad m c news hn hc h1c b1 b2 hbase
  rw [if_pos (by simp [Region.wanted, hg])]
  unfold Oper.wp
  simp [execOp, hop, resolve, invoke, builtin, hs, hx, hrun, Result.andThen]
  exact hK v' w' ho hgr
theorem step_append_own_at {P : Program} {ops : Array Oper} {o : Oper} {a : Act} {w : World} {K : Act → World → Prop} {Q : Exit → Act → World → Prop} {E : Prop}
    (hg : o.guard = none) (s x : Operand) (t : TypeId) (hop : o.op = Op.call { callee := Callee.builtin Builtin.append, args := #[s, x], argTypes := #[t, t] })
    (base : Nat) (e : TypeId) (i : TypeInfo) (z : Value) (size bytes : Nat) (h1 : P.underlying t = some (.slice e)) (h2 : P.info? e = some i) (h3 : i.zero = some z) (h4 : i.size = size) (h5 : i.bytes = bytes) (h6 : z.cells.size = size) (h7 : 0 < size)
    (v : Value) (n : Nat) (xs : List Value) (hs : a.eval s = v) (hown : w.ownsRow base e size v n xs) (ad : Addr) (m c : Nat) (news : List Value) (hx : a.eval x = .slice (some ad) m c) (hn : news.length = m * size)
    (hc : ∀ j u, news[j]? = some u → w.cell? (ad.add j) = some u) (h1c : ∀ u ∈ news, u.oneCell' = true) (b1 : n + m ≤ maxLen) (b2 : (n + m) * bytes ≤ 140737488355328) (hbase : base ≤ w.heap.size)
    (hK : ∀ v' w', w'.ownsRow base e size v' (n + m) (xs ++ news) → w.grownBy w' v.ownBlock → (v'.ownBlock = v.ownBlock ∨ v'.ownBlock = some w.heap.size) → K (a.put o.dst v') w') :
    if Region.wanted o (yielded ops a.tmps) = true then Oper.wp P o a w K Q else E := by
  obtain ⟨v', w', hrun, ho, hgr, _, hat⟩ := run_append_own_at (P := P) w base t o.type e i z size bytes h1 h2 h3 h4 h5 h6 h7 v n xs hown ad m c news hn hc h1c b1 b2 hbase
  rw [if_pos (by simp [Region.wanted, hg])]
  unfold Oper.wp
  simp [execOp, hop, resolve, invoke, builtin, hs, hx, hrun, Result.andThen]
  exact hK v' w' ho hgr hat
/-- A call of a Go function, as one step of a region that draws. -/
theorem step_call {P : Program} {ops : Array Oper} {o : Oper} {a : Act} {w : World} {K : Act → World → Prop} {Q : Exit → Act → World → Prop} {E : Prop}
    (hg : o.guard = none) (f : FuncId) (args : Array Operand) (ts : Array TypeId) (hop : o.op = Op.call { callee := Callee.value (.func f), args := args, argTypes := ts }) (hent : ∀ args w, (callFunc f args).run P w = .ok (.enter f args) w)
    (vs : Array Value) (hvs : args.map a.eval = vs) {R : Ending → World → Prop} (hC : Calls P f vs w R) (hR : ∀ e w', R e w' → ∃ v, e = .returned v ∧ K (a.put o.dst v) w') :
    if Region.wanted o (yielded ops a.tmps) = true then Oper.wp P o a w K Q else E := by
  rw [if_pos (by simp [Region.wanted, hg])]
  unfold Oper.wp
  have hrun : (execOp a.eval o).run P w = .ok (.enter f vs) w := by
    simp [execOp, hop, resolve, invoke, Act.eval, Deferred.ofValue, hent, ← hvs]
  rw [hrun, Oper.upon_enter]
  refine hC.mono fun e w' h => ?_
  obtain ⟨v, rfl, hk⟩ := hR e w' h
  exact hk
end Go.Proofs.YtjjjdieljljcoaaGreatDoor
