/-
  What spec.l6Word and spec.WordDfa answer.
-/
import Derived.Test.YtlkhmpdncimnfaaWdM
import Derived.Test.YtlkhmpdncimnfaaLetS
import Derived.Test.YtlkhmpdncimnfaaIsWordS
namespace Go.Proofs.Ytlkhmpdncimnfaa
open Go.RowKit

/-- State i's row so far. -/
def wdRow (s : List UInt8) (i k : Nat) : List Int := (List.range k).map fun j => ((wdT s i j : Nat) : Int)
theorem wdRow_length (s : List UInt8) (i k : Nat) : (wdRow s i k).length = k := by simp [wdRow]
theorem wdRow_succ (s : List UInt8) (i k : Nat) : wdRow s i (k + 1) = wdRow s i k ++ [((wdT s i k : Nat) : Int)] := by simp [wdRow, List.range_succ]
theorem wd_fields (s : List UInt8) : accOf (wdA s) = ((List.range (s.length + 2)).map fun i => decide (i = s.length)) ∧ intss (nxtOf (wdA s)) = (List.range (s.length + 2)).map fun i => ints (wdRow s i 3) := by
  refine ⟨rfl, ?_⟩
  simp only [intss, nxtOf, List.map_map]
  rfl

set_option maxRecDepth 100000 in
set_option maxHeartbeats 6400000 in
theorem specWdl_any (s : ByteArray) (hs : s.size ≤ 30) (w : World) :
    Calls Try.prog 67 #[.string s] w fun e w' => ∃ m, Canon m ∧ Eqv m 0 (wdA s.data.toList) 0 ∧ CopyD (fieldsOf m) w e w' := by
  obtain ⟨i0, hi, hz0, hz1, hz2⟩ := info_parts intInfo
  obtain ⟨b0, hbi, hb0, hb1, hb2⟩ := info_parts boolInfo
  obtain ⟨r0, hri, hr0, hr1, hr2⟩ := info_parts rowInfo
  obtain ⟨W0, hW0⟩ : ∃ W0, W0 = (w.alloc (.cells #[.slice none 0 0, .slice none 0 0] 27)).alloc (.cells #[.slice none 0 0, .slice none 0 0] 27) := ⟨_, rfl⟩
  have HB0 : Hid (Below w.heap.size w W0) := Lib.hid (by rw [hW0]; exact ((Below.refl _ _).alloc (Nat.le_refl _) _).alloc (by simp) _)
  have HY : Hid (W0.heap[w.heap.size]? = some (.cells #[.slice none 0 0, .slice none 0 0] 27 (0, 0))) := Lib.hid (by rw [hW0]; exact (Below.heap_alloc _ _ _ (by simp)).trans (heap_alloc_new w _))
  obtain ⟨B, hB⟩ : ∃ B, B = w.heap.size + 1 := ⟨_, rfl⟩
  have HSt : Hid (Out B W0 B (.slice none 0 0) (.slice none 0 0) [] [] [] (fun _ _ => False)) := Lib.hid (by
    have h := Out.start (w.alloc (.cells #[.slice none 0 0, .slice none 0 0] 27)) (B := B) (by rw [hB]; simp)
    rw [World.size_alloc, ← hB, ← hW0] at h
    exact h)
  have HBe := Lib.hid hB
  obtain ⟨n, hn⟩ : ∃ n, n = s.size := ⟨_, rfl⟩
  have hl : s.data.toList.length = n := by rw [hn]; simp
  have HL := Lib.hid hl
  have HG : Hid (∀ i (h : i < s.size), s.data.toList.getD i 0 = s[i]) := Lib.hid (fun i h => by
    rw [List.getD_eq_getElem?_getD, List.getElem?_eq_getElem (by omega)]
    rfl)
  clear hl
  go_enter Try.func67, Try.ntmps67
  go_upto_region 2 with fail
  rw [← hW0, ← hB]
  clear hW0 hB
  go_wp2_with fail
  go_loopw [5] (fun iv wr => ∃ (i : Nat) (va vn : Value) (us : List Value) (K : Nat → Nat → Prop), iv = .int .i64 i ∧ i ≤ n + 2 ∧ us.length = i ∧ Hid (Below B W0 wr) ∧ Hid (Out B wr B va vn ((List.range i).map fun j => decide (j = s.data.toList.length)) us ((List.range i).map fun j => ints (wdRow s.data.toList j 3)) K)) (fun iv _ => n + 2 - (intOf iv).toNat)
  case atStart => exact ⟨0, _, _, [], _, rfl, Nat.zero_le _, rfl, Lib.hid (Below.refl _ _), HSt⟩
  clear HSt
  case round =>
    obtain ⟨i, va, vn, us, K, rfl, hin, hus, HBr, ho⟩ := hrel
    obtain ⟨accs, hacc⟩ : ∃ accs, accs = (List.range i).map fun j => decide (j = s.data.toList.length) := ⟨_, rfl⟩
    obtain ⟨rss, hrss⟩ : ∃ rss, rss = (List.range i).map fun j => ints (wdRow s.data.toList j 3) := ⟨_, rfl⟩
    rw [← hacc, ← hrss] at ho
    have HAc := Lib.hid (And.intro hacc hrss)
    have hal : accs.length = i := by rw [hacc]; simp
    have HAl := Lib.hid hal
    clear hacc hrss hal
    by_cases hlt : i < n + 2
    · have hd : decide ((i : Int) ≤ (s.size : Int) + 1) = true := by simp; omega
      have HTw0 : Hid (One B (wr.alloc (.cells #[] 3)) B va vn accs us rss K (.slice (some ⟨wr.heap.size, 0, none⟩) 0 0) (wdRow s.data.toList i 0)) := Lib.hid ho.out.one
      have HBa := Lib.hid (HBr.out.alloc (Nat.le_of_lt ho.out.base) (.cells #[] 3))
      go_wp2_with fail
      clear hd ho
      go_loopw [6, 7] (fun vr kv wq => ∃ k : Nat, kv = .int .i64 k ∧ k ≤ 3 ∧ Hid (Below B W0 wq) ∧ Hid (One B wq B va vn accs us rss K vr (wdRow s.data.toList i k))) (fun _ kv _ => 3 - (intOf kv).toNat)
      case atStart => exact ⟨0, rfl, Nat.zero_le _, HBa, HTw0⟩
      case round =>
        obtain ⟨k, rfl, hk, HBq, HQ⟩ := hrel
        clear HTw0 HBa
        have hrl : (wdRow s.data.toList i k).length ≤ 3 := by rw [wdRow_length]; omega
        have hbwr : B ≤ wr.heap.size := Nat.le_of_lt HQ.out.out.base
        by_cases hk3 : k < 3
        · have hd : decide ((k : Int) < 3) = true := by simp; omega
          have hsm : (i : Int) ≤ 100 := by omega
          by_cases hi2 : i < s.size
          · have e1 : decide ((i : Int) < (s.size : Int)) = true := by simp; omega
            have e2 : (0 : Int) ≤ (i : Int) := by omega
            have e3 : (i : Int) < (s.size : Int) := by omega
            by_cases hy : letIdx s[i] = (k : Int)
            · have e4 : (letIdx s[i] == (k : Int)) = true := by simp [hy]
              have HSt : Hid (wdRow s.data.toList i k ++ [(i : Int) + 1] = wdRow s.data.toList i (k + 1)) := Lib.hid (by rw [wdRow_succ, wdT_yes (by rw [HL.out]; omega) (by rw [HG.out i hi2]; exact hy)]; rfl)
              clear hy
              go_upto_region 11 with (go_at_call 54; refine (specLet_any _ _).mono ?_; rintro e w' ⟨rfl, rfl⟩)
              go_wp2_with (at_builtin; refine wpList_append_own_at _ rfl (.tmp 34) (.tmp 37) 57 rfl B 3 i0 (.int .i64 0) 1 8 Try.underlying57 hi hz0 hz1 hz2 rfl (by decide) _ _ _ rfl (HQ.out.ord.alloc _) ⟨wr.heap.size, 0, none⟩ 1 1 [.int .i64 ((i : Int) + 1)] rfl rfl (cell_one_new _ _ _) (by simp [Value.oneCell']) (by unfold maxLen; omega) (by omega) (by simp; omega) ?_)
              intro v2 wf hown2 hgrow2 hnil2 hat2
              have HQf := Lib.hid ((HQ.out.below ((Below.refl _ _).alloc (Nat.le_refl _) (.cells #[.int .i64 ((i : Int) + 1)] 3))).ord_push hown2 hgrow2 (by simpa using hat2))
              have HBf := Lib.hid ((HBq.out.alloc hbwr (.cells #[.int .i64 ((i : Int) + 1)] 3)).grown hgrow2 (by simp; omega) (fun g e => (HQ.out.ord.lt g e).1))
              rw [HSt.out] at HQf
              clear hown2 hgrow2 hnil2 hat2
              go_wp2_with fail
              go_roundw
              case rel => exact ⟨k + 1, by go_num, by omega, HBf, HQf⟩
              case measure => simp [intOf]; omega
            · have e4 : (letIdx s[i] == (k : Int)) = false := by simp [hy]
              have HSt : Hid (wdRow s.data.toList i k ++ [(s.size : Int) + 1] = wdRow s.data.toList i (k + 1)) := Lib.hid (by rw [wdRow_succ, wdT_no (fun h => hy (by rw [← HG.out i hi2]; exact h.2)), HL.out, hn]; rfl)
              clear hy
              go_upto_region 12 with (go_at_call 54; refine (specLet_any _ _).mono ?_; rintro e w' ⟨rfl, rfl⟩)
              go_wp2_with (at_builtin; refine wpList_append_own_at _ rfl (.tmp 39) (.tmp 41) 57 rfl B 3 i0 (.int .i64 0) 1 8 Try.underlying57 hi hz0 hz1 hz2 rfl (by decide) _ _ _ rfl (HQ.out.ord.alloc _) ⟨wr.heap.size, 0, none⟩ 1 1 [.int .i64 ((s.size : Int) + 1)] rfl rfl (cell_one_new _ _ _) (by simp [Value.oneCell']) (by unfold maxLen; omega) (by omega) (by simp; omega) ?_)
              intro v2 wf hown2 hgrow2 hnil2 hat2
              have HQf := Lib.hid ((HQ.out.below ((Below.refl _ _).alloc (Nat.le_refl _) (.cells #[.int .i64 ((s.size : Int) + 1)] 3))).ord_push hown2 hgrow2 (by simpa using hat2))
              have HBf := Lib.hid ((HBq.out.alloc hbwr (.cells #[.int .i64 ((s.size : Int) + 1)] 3)).grown hgrow2 (by simp; omega) (fun g e => (HQ.out.ord.lt g e).1))
              rw [HSt.out] at HQf
              clear hown2 hgrow2 hnil2 hat2
              go_wp2_with fail
              go_roundw
              case rel => exact ⟨k + 1, by go_num, by omega, HBf, HQf⟩
              case measure => simp [intOf]; omega
          · have e1 : decide ((i : Int) < (s.size : Int)) = false := by simp; omega
            have hy : True := trivial
            have HSt : Hid (wdRow s.data.toList i k ++ [(s.size : Int) + 1] = wdRow s.data.toList i (k + 1)) := Lib.hid (by rw [wdRow_succ, wdT_no (fun h => hi2 (by rw [← hn, ← HL.out]; exact h.1)), HL.out, hn]; rfl)
            clear hy
            go_upto_region 12 with fail
            go_wp2_with (at_builtin; refine wpList_append_own_at _ rfl (.tmp 39) (.tmp 41) 57 rfl B 3 i0 (.int .i64 0) 1 8 Try.underlying57 hi hz0 hz1 hz2 rfl (by decide) _ _ _ rfl (HQ.out.ord.alloc _) ⟨wr.heap.size, 0, none⟩ 1 1 [.int .i64 ((s.size : Int) + 1)] rfl rfl (cell_one_new _ _ _) (by simp [Value.oneCell']) (by unfold maxLen; omega) (by omega) (by simp; omega) ?_)
            intro v2 wf hown2 hgrow2 hnil2 hat2
            have HQf := Lib.hid ((HQ.out.below ((Below.refl _ _).alloc (Nat.le_refl _) (.cells #[.int .i64 ((s.size : Int) + 1)] 3))).ord_push hown2 hgrow2 (by simpa using hat2))
            have HBf := Lib.hid ((HBq.out.alloc hbwr (.cells #[.int .i64 ((s.size : Int) + 1)] 3)).grown hgrow2 (by simp; omega) (fun g e => (HQ.out.ord.lt g e).1))
            rw [HSt.out] at HQf
            clear hown2 hgrow2 hnil2 hat2
            go_wp2_with fail
            go_roundw
            case rel => exact ⟨k + 1, by go_num, by omega, HBf, HQf⟩
            case measure => simp [intOf]; omega
        · obtain rfl : k = 3 := by omega
          obtain ⟨-, Ar, cr, rfl⟩ := (HQ.out.ord.row (by rw [wdRow_length]; omega)).row.ints_shape
          obtain ⟨e0, -, f0, -⟩ := box2_facts HQ.out.out.box
          have hbl : accs.length ≤ 2000 := by rw [HAl.out]; omega
          obtain ⟨Aa, qa, hva⟩ := (RowO.of_owns HQ.out.out.acc (by omega)).row.shape
          rw [bools_length] at hva
          subst hva
          obtain ⟨b, hb⟩ : ∃ b, b = ((i : Int) == (s.size : Int)) := ⟨_, rfl⟩
          have hbs := hb.symm
          have HBv : Hid (decide (i = s.data.toList.length) = b) := Lib.hid (by
            rw [hb, HL.out, hn]
            by_cases h : i = s.size
            · simp [h]
            · have h' : ¬ ((i : Int) = (s.size : Int)) := by omega
              simp [h, h'])
          clear hb
          go_wp2_with (at_builtin; refine wpList_append_own_at _ rfl (.tmp 44) (.tmp 49) 24 rfl B 4 b0 (.bool false) 1 1 Try.underlying24 hbi hb0 hb1 hb2 rfl (by decide) _ _ _ rfl (HQ.out.out.acc.alloc _) ⟨wr.heap.size, 0, none⟩ 1 1 [.bool b] rfl rfl (cell_one_new _ _ _) (by simp [Value.oneCell']) (by unfold maxLen; omega) (by omega) (by simp; omega) ?_)
          intro v' w9 hown' hgrow hnil hat
          obtain ⟨ga, cpa, rfl⟩ := own_succ hown'
          obtain ⟨⟨z0, z1⟩, z2, HQ9⟩ := (HQ.out.below ((Below.refl _ _).alloc (Nat.le_refl _) (.cells #[.bool b] 4))).acc_push hown' hgrow
          have HB9 := Lib.hid (((HBq.out.alloc hbwr (.cells #[.bool b] 4)).grown hgrow (by simp; omega) (fun g e => (HQ.out.out.acc.lt g e).1)).setCell (p := ⟨B, 0, none⟩) (Nat.le_refl _) (.slice (some ⟨ga, 0, none⟩) (accs.length + 1) cpa))
          have HQ9 := Lib.hid HQ9
          obtain ⟨W9, hW9⟩ : ∃ W9, W9 = w9.setCell ⟨B, 0, none⟩ (.slice (some ⟨ga, 0, none⟩) (accs.length + 1) cpa) := ⟨_, rfl⟩
          rw [← hW9] at HQ9 HB9
          clear hown' hgrow hnil hat
          go_upto_region 14 with fail
          rw [← hW9]
          clear hW9 z1 z2 e0 f0 hbs
          have HA1 : Hid (accs ++ [b] = (List.range (i + 1)).map fun j => decide (j = s.data.toList.length)) := Lib.hid (by rw [List.range_succ, List.map_append, HAc.out.1, ← HBv.out]; rfl)
          rw [HA1.out] at HQ9
          clear HA1
          obtain ⟨e1, f1⟩ := (⟨(box2_facts HQ9.out.out.box).2.1, (box2_facts HQ9.out.out.box).2.2.2⟩ : W9.cell? ⟨B, 1, none⟩ = some vn ∧ W9.frozen? ⟨B, 1, none⟩ = false)
          have hbw5 : B ≤ W9.heap.size := Nat.le_of_lt HQ9.out.out.base
          go_wp2_with (at_builtin; refine wpList_append_own_at _ rfl (.tmp 53) (.tmp 55) 25 rfl B 57 r0 (.slice none 0 0) 1 24 Try.underlying25 hri hr0 hr1 hr2 rfl (by decide) _ _ _ rfl (HQ9.out.out.nxt.alloc _) ⟨W9.heap.size, 0, none⟩ 1 1 [.slice Ar (wdRow s.data.toList i 3).length cr] rfl rfl (cell_one_new _ _ _) (by simp [Value.oneCell']) (by unfold maxLen; omega) (by omega) (by simp; omega) ?_)
          intro v2 wa hown2 hgrow2 hnil2 hat2
          obtain ⟨gn, capn, rfl⟩ := own_succ hown2
          have HQa := HQ9.out.below ((Below.refl _ _).alloc (Nat.le_refl _) (.cells #[.slice Ar (wdRow s.data.toList i 3).length cr] 57))
          obtain ⟨⟨z0, z1⟩, z2, HQb⟩ := HQa.nxt_push (vn' := .slice (some ⟨gn, 0, none⟩) (i + 1) capn) (by rw [wdRow_length]; omega) (by rw [hus]; exact hown2) hgrow2
          have HBb := Lib.hid (((HB9.out.alloc hbw5 (.cells #[.slice Ar (wdRow s.data.toList i 3).length cr] 57)).grown hgrow2 (by simp; omega) (fun g e => (HQ9.out.out.nxt.lt g e).1)).setCell (p := ⟨B, 1, none⟩) (Nat.le_refl _) (.slice (some ⟨gn, 0, none⟩) (i + 1) capn))
          have HQb := Lib.hid HQb
          have HR1 : Hid (rss ++ [ints (wdRow s.data.toList i 3)] = (List.range (i + 1)).map fun j => ints (wdRow s.data.toList j 3)) := Lib.hid (by rw [List.range_succ, List.map_append, HAc.out.2]; rfl)
          have hul : (us ++ [Value.slice Ar (wdRow s.data.toList i 3).length cr]).length = i + 1 := by simp [hus]
          rw [HR1.out] at HQb
          have HUl := Lib.hid hul
          clear hown2 hgrow2 hnil2 hat2 HQa hul
          go_wp2_with fail
          go_roundw
          case rel => exact ⟨i + 1, _, _, us ++ [Value.slice Ar (wdRow s.data.toList i 3).length cr], _, by go_num, by omega, HUl.out, HBb, HQb⟩
          case measure => simp [intOf]; omega
    · have hie : i = n + 2 := by omega
      have HIe := Lib.hid hie
      have hbl : accs.length ≤ 2000 := by rw [HAl.out]; omega
      have HD : Hid (DfaO wr (fun g => B ≤ g ∧ g < wr.heap.size) va vn (fieldsOf (wdA s.data.toList))) := Lib.hid (ho.out.whole (by rw [HAc.out.1, HIe.out, ← HL.out]; exact (wd_fields _).1) (by rw [HAc.out.2, HIe.out, ← HL.out]; exact (wd_fields _).2) (by omega) (by omega))
      obtain ⟨A1, q1, hva⟩ := (RowO.of_owns ho.out.acc (by omega)).row.shape
      obtain ⟨A2, q2, hvn2⟩ := (RowO.of_owns ho.out.nxt (by omega)).row.shape
      rw [bools_length] at hva
      rw [HAl.out] at hva
      rw [hus] at hvn2
      subst hva
      subst hvn2
      have HMi := Lib.hid (specMin_any _ _ (wdA s.data.toList) _ wr (wdA_wf _) (by show s.data.toList.length + 2 ≤ 2000; rw [HL.out]; omega) HD.out.dfa)
      obtain ⟨e0, e1, -, -⟩ := box2_facts ho.out.box
      have hd : decide ((i : Int) ≤ (s.size : Int) + 1) = false := by simp; omega
      clear hie hlt
      go_wp2_with fail
      go_at_call 57
      refine HMi.out.mono ?_
      rintro e w3 ⟨m, m1, m2, -, hcd⟩
      have HM := Lib.hid (And.intro m1 m2)
      obtain ⟨C1, p1, C2, p2, rfl, hoo, hb3⟩ := hcd.shape
      obtain ⟨x1, hx1⟩ : ∃ x, x = (fieldsOf m).acc.length := ⟨_, rfl⟩
      obtain ⟨x2, hx2⟩ : ∃ x, x = (fieldsOf m).nxt.length := ⟨_, rfl⟩
      rw [← hx1, ← hx2] at hoo ⊢
      have HO3 := Lib.hid hoo
      have hsz0 : B ≤ W0.heap.size := by have := HB0.out.size; have := HBe.out; have := blk_lt HY.out; omega
      have HB3 := Lib.hid (HB0.out.trans ((HBr.out.trans (hb3.mono (Nat.le_of_lt ho.out.base))).mono (by have := HBe.out; omega)))
      have hz3 := hb3.size
      have hyl : w.heap.size < wr.heap.size := by have := ho.out.base; have := HBe.out; omega
      obtain ⟨c0, c1, k0, k1⟩ := box2_facts ((hb3.block _ hyl).trans ((HBr.out.block _ (by have := HBe.out; omega)).trans HY.out))
      obtain ⟨hcl, hsz, hot, hBl⟩ := put2 (k := .slice C1 x1 p1) (l := .slice C2 x2 p2) c0 c1
      obtain ⟨hr0', hr1'⟩ := hcl
      have HOt := Lib.hid (And.intro hsz (And.intro hot hBl))
      have HLt := Lib.hid (show w.heap.size + 1 ≤ wr.heap.size by omega)
      clear hsz hot hBl hoo hb3 hcd hx1 hx2 m1 m2 e0 e1 hd
      go_wp2_with fail
      refine bodyPost_ret (v := .agg #[.slice C1 x1 p1, .slice C2 x2 p2]) (by simp [results, Try.results67, go_sem, hr0', hr1']) rfl ?_
      have h0 := HB0.out.size
      exact ⟨m, HM.out.1, HM.out.2, _, _, rfl, HO3.out.mono (fun g hg => HOt.out.2.1 g (by have := hg.1; have := HLt.out; omega)) (fun g hg => ⟨by have := hg.1; have := HLt.out; omega, by rw [HOt.out.1]; exact hg.2⟩) (by rw [HOt.out.1]; exact Nat.le_refl _), HOt.out.2.2 _ _ HB3.out (Nat.le_refl _)⟩

set_option maxRecDepth 100000 in
set_option maxHeartbeats 3200000 in
theorem specWd_any (s : ByteArray) (hss : s.size ≤ maxLen) (y : Dx) (ok : Bool) (hy : wordR s.data.toList y ok) (w : World) :
    Calls Try.prog 30 #[.string s] w (CopyDB y ok w) := by
  have HV := Lib.hid (fun V => specIsWord_any s V hss)
  obtain ⟨W0, hW0⟩ : ∃ W0, W0 = w.alloc (.cells #[.slice none 0 0, .slice none 0 0] 27) := ⟨_, rfl⟩
  have HB0 : Hid (Below w.heap.size w W0) := Lib.hid (by rw [hW0]; exact (Below.refl _ _).alloc (Nat.le_refl _) _)
  have HY : Hid (W0.heap[w.heap.size]? = some (.cells #[.slice none 0 0, .slice none 0 0] 27 (0, 0))) := Lib.hid (by rw [hW0]; exact heap_alloc_new w _)
  have HYy := Lib.hid hy
  cases hw : isW s.data.toList with
  | false =>
    obtain ⟨rfl, rfl⟩ := wordR_no hy hw
    rw [hw] at HV
    have hz : W0.cell? ⟨w.heap.size, 0, none⟩ = some (.slice none 0 0) ∧ W0.cell? ⟨w.heap.size, 1, none⟩ = some (.slice none 0 0) := ⟨(box2_facts HY.out).1, (box2_facts HY.out).2.1⟩
    obtain ⟨z0, z1⟩ := hz
    clear hy hw
    go_enter Try.func30, Try.ntmps30
    go_wp2_with (go_at_call 53; refine (HV.out _).mono ?_; rintro e w' ⟨rfl, rfl⟩)
    rw [← hW0]
    refine bodyPost_ret (v := .tuple #[.agg #[.slice none 0 0, .slice none 0 0], .bool false]) (by simp [results, Try.results30, go_sem, z0, z1]) rfl ?_
    exact ⟨_, _, rfl, DfaO.empty _ _, HB0.out⟩
  | true =>
    rw [hw] at HV
    have h30 : s.size ≤ 30 := by
      have := isW_len hw
      simpa using this
    have HM := Lib.hid (specWdl_any s h30 W0)
    have HW := Lib.hid hw
    clear hy hw
    go_enter Try.func30, Try.ntmps30
    go_upto_region 3 with (go_at_call 53; refine (HV.out _).mono ?_; rintro e w' ⟨rfl, rfl⟩)
    rw [← hW0]
    clear hW0
    go_wp2_with fail
    go_at_call 67
    refine HM.out.mono ?_
    rintro e w3 ⟨m, m1, m2, hcd⟩
    obtain ⟨rfl, rfl⟩ := wordR_yes HYy.out HW.out m1 m2
    obtain ⟨A1, p1, A2, p2, rfl, hoo, hb3⟩ := hcd.shape
    obtain ⟨x1, hx1⟩ : ∃ x, x = (fieldsOf m).acc.length := ⟨_, rfl⟩
    obtain ⟨x2, hx2⟩ : ∃ x, x = (fieldsOf m).nxt.length := ⟨_, rfl⟩
    rw [← hx1, ← hx2] at hoo ⊢
    have HO3 := Lib.hid hoo
    have HB3 := Lib.hid hb3
    have hyl := blk_lt HY.out
    obtain ⟨c0, c1, k0, k1⟩ := box2_facts ((hb3.block _ hyl).trans HY.out)
    obtain ⟨hcl, hsz, hot, hBl⟩ := put2 (k := .slice A1 x1 p1) (l := .slice A2 x2 p2) c0 c1
    obtain ⟨hc0, hc1⟩ := hcl
    have HOt := Lib.hid (And.intro hsz (And.intro hot hBl))
    clear hsz hot hBl hoo hb3 hcd hx1 hx2 m1 m2
    go_wp2_with fail
    refine bodyPost_ret (v := .tuple #[.agg #[.slice A1 x1 p1, .slice A2 x2 p2], .bool true]) (by simp [results, Try.results30, go_sem, hc0, hc1]) rfl ?_
    have h0 := HB0.out.size
    exact ⟨_, _, rfl, HO3.out.mono (fun g hg => HOt.out.2.1 g (by have := hg.1; omega)) (fun g hg => ⟨by have := hg.1; omega, by rw [HOt.out.1]; exact hg.2⟩) (by rw [HOt.out.1]; exact Nat.le_refl _), HOt.out.2.2 _ _ (HB0.out.trans (HB3.out.mono h0)) (Nat.le_refl _)⟩
end Go.Proofs.Ytlkhmpdncimnfaa
