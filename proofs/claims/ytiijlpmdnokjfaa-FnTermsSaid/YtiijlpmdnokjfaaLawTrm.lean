/-
  laws.FnTerms answers true at every slice of bytes in old memory; behind the call nothing that was there has turned.
-/
import Derived.Test.YtiijlpmdnokjfaaTrmM
import Derived.Test.YtiijlpmdnokjfaaDrawV
import Derived.Test.YtiijlpmdnokjfaaRuneI
import Derived.Test.YtiijlpmdnokjfaaSubI
import Derived.Test.YtiijlpmdnokjfaaAppS
import Derived.Test.YtiijlpmdnokjfaaFmtA
import Derived.Test.YtiijlpmdnokjfaaUp
import Derived.Test.YtiijlpmdnokjfaaThree
namespace Go.Proofs.Ytiijlpmdnokjfaa
open Go.RowKit

theorem big_trm (A : Option Addr) (n c : Nat) (w : World) (hn : n ≤ 1048576) :
    Calls Try.prog 14 #[.slice A n c] w fun e w' => e = .returned (.bool false) ∧ w = w' := by
  have e1 : decide ((n : Int) > 1048576) = false := by simp; omega
  go_enter Try.func14, Try.ntmps14
  go_wp2
  go_ret
  exact ⟨rfl, rfl⟩
theorem big_trm2 (A : Option Addr) (n c : Nat) (w : World) (hn : 1048576 < n) :
    Calls Try.prog 14 #[.slice A n c] w fun e w' => e = .returned (.bool true) ∧ w = w' := by
  have e1 : decide ((n : Int) > 1048576) = true := by simp; omega
  go_enter Try.func14, Try.ntmps14
  go_wp2
  go_ret
  exact ⟨rfl, rfl⟩

/-- What the loop of FnTerms asks at one name. -/
structure AtName (S AP x y z : ByteArray) (b : UInt8) (val T U : ByteArray) (m1 m2 : Nat) : Prop where
  val_eq : valB x y z b = val
  rep : ∀ V, Calls Try.prog 22 #[.string S, .int .u8 b.toNat, .string val] V fun e w' => e = .returned (.string T) ∧ Below V.heap.size V w'
  app : ∀ V, Calls Try.prog 16 #[.string T, .agg #[.string x, .string y, .string z]] V fun e w' => e = .returned (.string U) ∧ Below V.heap.size V w'
  c1 : ∀ V, Calls Try.prog 24 #[.string S, .int .u8 b.toNat] V fun e w' => e = .returned (.int .i64 m1) ∧ Below V.heap.size V w'
  c2 : ∀ V, Calls Try.prog 24 #[.string (strL (varsL S.data.toList)), .int .u8 b.toNat] V fun e w' => e = .returned (.int .i64 m2) ∧ Below V.heap.size V w'
  same : 0 < m1 ↔ 0 < m2
  fine : isV x y z = true → U = AP
theorem at_name (S x y z : ByteArray) (hS : S.size ≤ 13) (hx : x.size ≤ 31) (hy : y.size ≤ 31) (hz : z.size ≤ 31) (b : UInt8) (hb : b = 88 ∨ b = 89 ∨ b = 90) :
    ∃ val T U m1 m2, AtName S (strL (limB (subL (appF x y z) S.data.toList))) x y z b val T U m1 m2 := by
  have hv : isVarB b = true := (isVarB_iff b).2 hb
  have hval := valB_le (n := 31) hx hy hz b
  have e13 : S.data.toList.length = S.size := by simp
  have hrep := sub_le (fun c => rep_le hval b c) S.data.toList
  have hTl : (limB (subL (repF b (valB x y z b)) S.data.toList)).length ≤ 403 := by
    rw [limB_id (by omega)]
    omega
  refine ⟨valB x y z b, strL (limB (subL (repF b (valB x y z b)) S.data.toList)), strL (limB (subL (appF x y z) (limB (subL (repF b (valB x y z b)) S.data.toList)))), cntL S.data.toList b, cntL (varsL S.data.toList) b, rfl, fun V => implRep_any S _ b V (by omega) (by omega), fun V => ?_, fun V => implCnt_any S b V, fun V => ?_, ?_, fun h => ?_⟩
  · have k := implApp_any (strL (limB (subL (repF b (valB x y z b)) S.data.toList))) x y z V (by rw [strL_size]; omega) (by omega) (by omega) (by omega)
    rw [strL_list] at k
    exact k
  · have k := implCnt_any (strL (varsL S.data.toList)) b V
    rw [strL_list] at k
    exact k
  · exact (varsL_cnt _ (by rcases hb with rfl | rfl | rfl <;> decide)).symm
  · rw [limB_id (show (subL (repF b (valB x y z b)) S.data.toList).length ≤ 1048576 by omega), apply_rep h hv]

set_option maxRecDepth 100000 in
set_option maxHeartbeats 6400000 in
theorem lawTrm_any (A : Option Addr) (n c : Nat) (w : World) (h : BL w w.heap.size A n) (hnm : n ≤ 9223372036854775807) :
    Calls Try.prog 3 #[.slice A n c] w fun e w' => e = .returned (.bool true) ∧ Below w.heap.size w w' := by
  by_cases hz0 : 1048576 < n
  · have HBIG := Lib.hid (big_trm2 A n c w hz0)
    clear h
    go_enter Try.func3, Try.ntmps3
    go_wp2_with (go_at_call 14; refine HBIG.out.mono ?_; rintro e w' ⟨rfl, rfl⟩)
    go_ret
    exact ⟨rfl, Below.refl _ _⟩
  have hn : n ≤ 1048576 := by omega
  have HBIG := Lib.hid (big_trm A n c w hn)
  have HBL := Lib.hid (fun (V : World) (hV : Below w.heap.size w V) => (h.below hV).more hV.size)
  have HD1 := Lib.hid (drawApplyValues_any A n c w h hn)
  have HD2 := Lib.hid (fun (V : World) (hV : Below w.heap.size w V) => drawWithValue_any A n c V (HBL.out V hV) hn)
  have HD3 := Lib.hid (fun (V : World) (hV : Below w.heap.size w V) => drawFormatValues_any A n c V (HBL.out V hV) hn)
  have ST := Lib.hid (fun (V V' : World) (h : Below w.heap.size w V) (k : Below V.heap.size V V') => h.trans (k.mono h.size))
  have AL := Lib.hid (fun (V : World) (o : Obj) (h : Below w.heap.size w V) => h.alloc h.size o)
  clear h hz0 hnm
  go_enter Try.func3, Try.ntmps3
  go_wp2_with (go_at_call 14; refine HBIG.out.mono ?_; rintro e w' ⟨rfl, rfl⟩)
  go_wp2_with fail
  refine HD1.out.mono ?_
  rintro e w1 ⟨p, x, y, z, rfl, hp, hx, hy, hz, hb⟩
  obtain ⟨S, hS0⟩ : ∃ S : ByteArray, S = ⟨p.toArray⟩ := ⟨_, rfl⟩
  have hS : S.size ≤ 13 := by rw [hS0, size_mk]; exact hp
  rw [← hS0]
  clear hS0 hp
  have B1 := Lib.hid (AL.out _ (.cells #[.string x, .string y, .string z] 25) hb)
  have T1 := Lib.hid (Three.new w1 x y z 25)
  have TN := Lib.hid (fun b hb => at_name S x y z hS hx hy hz b hb)
  have IA := Lib.hid (fun V => implApp_any S x y z V (by omega) (by omega) (by omega) (by omega))
  have SA := Lib.hid (fun V => specApp_any S x y z V (by omega) (by omega) (by omega) (by omega))
  have IV := Lib.hid (fun V => implVars_any S V)
  have SV := Lib.hid (fun V => specVars_any S V (by unfold maxLen; omega))
  have IT := Lib.hid (fun V => implIsT_any S V (by unfold maxLen; omega))
  have STT := Lib.hid (fun V => specIsT_any S V (by unfold maxLen; omega))
  have SIV := Lib.hid (fun V => specIsV_any x y z V (by unfold maxLen; omega) (by unfold maxLen; omega) (by unfold maxLen; omega))
  obtain ⟨AP, hAP⟩ : ∃ AP, AP = strL (limB (subL (appF x y z) S.data.toList)) := ⟨_, rfl⟩
  rw [← hAP] at IA SA TN
  clear hb hx hy hz hAP
  obtain ⟨c0, c1, c2⟩ := T1.out.cells
  go_wp2_with fail
  refine (IA.out _).mono ?_
  rintro e w2 ⟨rfl, hb⟩
  have B2 := Lib.hid (ST.out _ _ B1.out hb)
  have T2 := Lib.hid (T1.out.below hb)
  clear hb c0 c1 c2
  obtain ⟨c0, c1, c2⟩ := T2.out.cells
  go_wp2_with fail
  refine (SA.out _).mono ?_
  rintro e w3 ⟨rfl, hb⟩
  have B3 := Lib.hid (ST.out _ _ B2.out hb)
  have T3 := Lib.hid (T2.out.below hb)
  clear hb c0 c1 c2
  go_wp2_with fail
  refine (IV.out _).mono ?_
  rintro e w4 ⟨rfl, hb⟩
  have B4 := Lib.hid (ST.out _ _ B3.out hb)
  have T4 := Lib.hid (T3.out.below hb)
  clear hb
  go_wp2_with fail
  refine (SV.out _).mono ?_
  rintro e w4' ⟨rfl, rfl⟩
  go_wp2_with fail
  refine (IT.out _).mono ?_
  rintro e w5 ⟨rfl, hb⟩
  have B5 := Lib.hid (ST.out _ _ B4.out hb)
  have T5 := Lib.hid (T4.out.below hb)
  clear hb
  go_wp2_with fail
  refine (STT.out _).mono ?_
  rintro e w5' ⟨rfl, rfl⟩
  go_wp2_with fail
  go_loopw [6] (fun i wr => (i = .int .i64 0 ∨ i = .int .i64 1 ∨ i = .int .i64 2 ∨ i = .int .i64 3) ∧ Three wr w1.heap.size x y z 25 ∧ Below w.heap.size w wr) (fun i _ => 3 - (intOf i).toNat)
  case atStart => exact ⟨Or.inl rfl, T5.out, B5.out⟩
  case round =>
    obtain ⟨hi, hT, hB⟩ := hrel
    have TR := Lib.hid hT
    have BR := Lib.hid hB
    clear hT hB
    rcases hi with rfl | rfl | rfl | rfl
    · obtain ⟨val, T, U, m1, m2, HN⟩ := TN.out 88 (by decide)
      have HV := Lib.hid (fun V => implVal_any x y z 88 V)
      rw [HN.val_eq] at HV
      have HR := Lib.hid HN.rep
      have HA := Lib.hid HN.app
      have H1 := Lib.hid HN.c1
      have H2 := Lib.hid HN.c2
      have HS := Lib.hid HN.same
      have HF := Lib.hid HN.fine
      clear HN
      obtain ⟨c0, c1, c2⟩ := TR.out.cells
      go_wp2_with fail
      refine (HV.out _).mono ?_
      rintro e v1 ⟨rfl, hb⟩
      have E1 := Lib.hid (ST.out _ _ BR.out hb)
      have T1 := Lib.hid (TR.out.below hb)
      clear hb c0 c1 c2
      go_wp2_with fail
      refine (HR.out _).mono ?_
      rintro e v2 ⟨rfl, hb⟩
      have E2 := Lib.hid (ST.out _ _ E1.out hb)
      have T2 := Lib.hid (T1.out.below hb)
      clear hb
      go_wp2_with fail
      refine (H1.out _).mono ?_
      rintro e v3 ⟨rfl, hb⟩
      have E3 := Lib.hid (ST.out _ _ E2.out hb)
      have T3 := Lib.hid (T2.out.below hb)
      clear hb
      go_wp2_with fail
      refine (IV.out _).mono ?_
      rintro e v4 ⟨rfl, hb⟩
      have E4 := Lib.hid (ST.out _ _ E3.out hb)
      have T4 := Lib.hid (T3.out.below hb)
      clear hb
      go_wp2_with fail
      refine (H2.out _).mono ?_
      rintro e v5 ⟨rfl, hb⟩
      have E5 := Lib.hid (ST.out _ _ E4.out hb)
      have T5 := Lib.hid (T4.out.below hb)
      clear hb
      obtain ⟨c0, c1, c2⟩ := T5.out.cells
      by_cases g1 : 0 < m1
      · have g2 := HS.out.1 g1
        go_wp2_with fail
        refine (HA.out _).mono ?_
        rintro e v6 ⟨rfl, hb⟩
        have E6 := Lib.hid (ST.out _ _ E5.out hb)
        have T6 := Lib.hid (T5.out.below hb)
        clear hb c0 c1 c2
        by_cases hU : U.toList = AP.toList
        · go_wp2_with fail
          go_roundw
          case rel => exact ⟨by simp, T6.out, E6.out⟩
          case measure => simp [intOf]
        · have hV : isV x y z = false := by
            cases hv : isV x y z with
            | true => exact absurd (congrArg ByteArray.toList (HF.out hv)) hU
            | false => rfl
          have SIV2 := SIV
          rw [hV] at SIV2
          obtain ⟨c0, c1, c2⟩ := T6.out.cells
          clear hV
          go_wp2_with fail
          refine (SIV2.out _).mono ?_
          rintro e v7 ⟨rfl, hb⟩
          have E7 := Lib.hid (ST.out _ _ E6.out hb)
          have T7 := Lib.hid (T6.out.below hb)
          clear hb c0 c1 c2
          go_wp2_with fail
          go_roundw
          case rel => exact ⟨by simp, T7.out, E7.out⟩
          case measure => simp [intOf]
      · have g2 : ¬ 0 < m2 := fun h => g1 (HS.out.2 h)
        go_wp2_with fail
        refine (HA.out _).mono ?_
        rintro e v6 ⟨rfl, hb⟩
        have E6 := Lib.hid (ST.out _ _ E5.out hb)
        have T6 := Lib.hid (T5.out.below hb)
        clear hb c0 c1 c2
        by_cases hU : U.toList = AP.toList
        · go_wp2_with fail
          go_roundw
          case rel => exact ⟨by simp, T6.out, E6.out⟩
          case measure => simp [intOf]
        · have hV : isV x y z = false := by
            cases hv : isV x y z with
            | true => exact absurd (congrArg ByteArray.toList (HF.out hv)) hU
            | false => rfl
          have SIV2 := SIV
          rw [hV] at SIV2
          obtain ⟨c0, c1, c2⟩ := T6.out.cells
          clear hV
          go_wp2_with fail
          refine (SIV2.out _).mono ?_
          rintro e v7 ⟨rfl, hb⟩
          have E7 := Lib.hid (ST.out _ _ E6.out hb)
          have T7 := Lib.hid (T6.out.below hb)
          clear hb c0 c1 c2
          go_wp2_with fail
          go_roundw
          case rel => exact ⟨by simp, T7.out, E7.out⟩
          case measure => simp [intOf]
    · obtain ⟨val, T, U, m1, m2, HN⟩ := TN.out 89 (by decide)
      have HV := Lib.hid (fun V => implVal_any x y z 89 V)
      rw [HN.val_eq] at HV
      have HR := Lib.hid HN.rep
      have HA := Lib.hid HN.app
      have H1 := Lib.hid HN.c1
      have H2 := Lib.hid HN.c2
      have HS := Lib.hid HN.same
      have HF := Lib.hid HN.fine
      clear HN
      obtain ⟨c0, c1, c2⟩ := TR.out.cells
      go_wp2_with fail
      refine (HV.out _).mono ?_
      rintro e v1 ⟨rfl, hb⟩
      have E1 := Lib.hid (ST.out _ _ BR.out hb)
      have T1 := Lib.hid (TR.out.below hb)
      clear hb c0 c1 c2
      go_wp2_with fail
      refine (HR.out _).mono ?_
      rintro e v2 ⟨rfl, hb⟩
      have E2 := Lib.hid (ST.out _ _ E1.out hb)
      have T2 := Lib.hid (T1.out.below hb)
      clear hb
      go_wp2_with fail
      refine (H1.out _).mono ?_
      rintro e v3 ⟨rfl, hb⟩
      have E3 := Lib.hid (ST.out _ _ E2.out hb)
      have T3 := Lib.hid (T2.out.below hb)
      clear hb
      go_wp2_with fail
      refine (IV.out _).mono ?_
      rintro e v4 ⟨rfl, hb⟩
      have E4 := Lib.hid (ST.out _ _ E3.out hb)
      have T4 := Lib.hid (T3.out.below hb)
      clear hb
      go_wp2_with fail
      refine (H2.out _).mono ?_
      rintro e v5 ⟨rfl, hb⟩
      have E5 := Lib.hid (ST.out _ _ E4.out hb)
      have T5 := Lib.hid (T4.out.below hb)
      clear hb
      obtain ⟨c0, c1, c2⟩ := T5.out.cells
      by_cases g1 : 0 < m1
      · have g2 := HS.out.1 g1
        go_wp2_with fail
        refine (HA.out _).mono ?_
        rintro e v6 ⟨rfl, hb⟩
        have E6 := Lib.hid (ST.out _ _ E5.out hb)
        have T6 := Lib.hid (T5.out.below hb)
        clear hb c0 c1 c2
        by_cases hU : U.toList = AP.toList
        · go_wp2_with fail
          go_roundw
          case rel => exact ⟨by simp, T6.out, E6.out⟩
          case measure => simp [intOf]
        · have hV : isV x y z = false := by
            cases hv : isV x y z with
            | true => exact absurd (congrArg ByteArray.toList (HF.out hv)) hU
            | false => rfl
          have SIV2 := SIV
          rw [hV] at SIV2
          obtain ⟨c0, c1, c2⟩ := T6.out.cells
          clear hV
          go_wp2_with fail
          refine (SIV2.out _).mono ?_
          rintro e v7 ⟨rfl, hb⟩
          have E7 := Lib.hid (ST.out _ _ E6.out hb)
          have T7 := Lib.hid (T6.out.below hb)
          clear hb c0 c1 c2
          go_wp2_with fail
          go_roundw
          case rel => exact ⟨by simp, T7.out, E7.out⟩
          case measure => simp [intOf]
      · have g2 : ¬ 0 < m2 := fun h => g1 (HS.out.2 h)
        go_wp2_with fail
        refine (HA.out _).mono ?_
        rintro e v6 ⟨rfl, hb⟩
        have E6 := Lib.hid (ST.out _ _ E5.out hb)
        have T6 := Lib.hid (T5.out.below hb)
        clear hb c0 c1 c2
        by_cases hU : U.toList = AP.toList
        · go_wp2_with fail
          go_roundw
          case rel => exact ⟨by simp, T6.out, E6.out⟩
          case measure => simp [intOf]
        · have hV : isV x y z = false := by
            cases hv : isV x y z with
            | true => exact absurd (congrArg ByteArray.toList (HF.out hv)) hU
            | false => rfl
          have SIV2 := SIV
          rw [hV] at SIV2
          obtain ⟨c0, c1, c2⟩ := T6.out.cells
          clear hV
          go_wp2_with fail
          refine (SIV2.out _).mono ?_
          rintro e v7 ⟨rfl, hb⟩
          have E7 := Lib.hid (ST.out _ _ E6.out hb)
          have T7 := Lib.hid (T6.out.below hb)
          clear hb c0 c1 c2
          go_wp2_with fail
          go_roundw
          case rel => exact ⟨by simp, T7.out, E7.out⟩
          case measure => simp [intOf]
    · obtain ⟨val, T, U, m1, m2, HN⟩ := TN.out 90 (by decide)
      have HV := Lib.hid (fun V => implVal_any x y z 90 V)
      rw [HN.val_eq] at HV
      have HR := Lib.hid HN.rep
      have HA := Lib.hid HN.app
      have H1 := Lib.hid HN.c1
      have H2 := Lib.hid HN.c2
      have HS := Lib.hid HN.same
      have HF := Lib.hid HN.fine
      clear HN
      obtain ⟨c0, c1, c2⟩ := TR.out.cells
      go_wp2_with fail
      refine (HV.out _).mono ?_
      rintro e v1 ⟨rfl, hb⟩
      have E1 := Lib.hid (ST.out _ _ BR.out hb)
      have T1 := Lib.hid (TR.out.below hb)
      clear hb c0 c1 c2
      go_wp2_with fail
      refine (HR.out _).mono ?_
      rintro e v2 ⟨rfl, hb⟩
      have E2 := Lib.hid (ST.out _ _ E1.out hb)
      have T2 := Lib.hid (T1.out.below hb)
      clear hb
      go_wp2_with fail
      refine (H1.out _).mono ?_
      rintro e v3 ⟨rfl, hb⟩
      have E3 := Lib.hid (ST.out _ _ E2.out hb)
      have T3 := Lib.hid (T2.out.below hb)
      clear hb
      go_wp2_with fail
      refine (IV.out _).mono ?_
      rintro e v4 ⟨rfl, hb⟩
      have E4 := Lib.hid (ST.out _ _ E3.out hb)
      have T4 := Lib.hid (T3.out.below hb)
      clear hb
      go_wp2_with fail
      refine (H2.out _).mono ?_
      rintro e v5 ⟨rfl, hb⟩
      have E5 := Lib.hid (ST.out _ _ E4.out hb)
      have T5 := Lib.hid (T4.out.below hb)
      clear hb
      obtain ⟨c0, c1, c2⟩ := T5.out.cells
      by_cases g1 : 0 < m1
      · have g2 := HS.out.1 g1
        go_wp2_with fail
        refine (HA.out _).mono ?_
        rintro e v6 ⟨rfl, hb⟩
        have E6 := Lib.hid (ST.out _ _ E5.out hb)
        have T6 := Lib.hid (T5.out.below hb)
        clear hb c0 c1 c2
        by_cases hU : U.toList = AP.toList
        · go_wp2_with fail
          go_roundw
          case rel => exact ⟨by simp, T6.out, E6.out⟩
          case measure => simp [intOf]
        · have hV : isV x y z = false := by
            cases hv : isV x y z with
            | true => exact absurd (congrArg ByteArray.toList (HF.out hv)) hU
            | false => rfl
          have SIV2 := SIV
          rw [hV] at SIV2
          obtain ⟨c0, c1, c2⟩ := T6.out.cells
          clear hV
          go_wp2_with fail
          refine (SIV2.out _).mono ?_
          rintro e v7 ⟨rfl, hb⟩
          have E7 := Lib.hid (ST.out _ _ E6.out hb)
          have T7 := Lib.hid (T6.out.below hb)
          clear hb c0 c1 c2
          go_wp2_with fail
          go_roundw
          case rel => exact ⟨by simp, T7.out, E7.out⟩
          case measure => simp [intOf]
      · have g2 : ¬ 0 < m2 := fun h => g1 (HS.out.2 h)
        go_wp2_with fail
        refine (HA.out _).mono ?_
        rintro e v6 ⟨rfl, hb⟩
        have E6 := Lib.hid (ST.out _ _ E5.out hb)
        have T6 := Lib.hid (T5.out.below hb)
        clear hb c0 c1 c2
        by_cases hU : U.toList = AP.toList
        · go_wp2_with fail
          go_roundw
          case rel => exact ⟨by simp, T6.out, E6.out⟩
          case measure => simp [intOf]
        · have hV : isV x y z = false := by
            cases hv : isV x y z with
            | true => exact absurd (congrArg ByteArray.toList (HF.out hv)) hU
            | false => rfl
          have SIV2 := SIV
          rw [hV] at SIV2
          obtain ⟨c0, c1, c2⟩ := T6.out.cells
          clear hV
          go_wp2_with fail
          refine (SIV2.out _).mono ?_
          rintro e v7 ⟨rfl, hb⟩
          have E7 := Lib.hid (ST.out _ _ E6.out hb)
          have T7 := Lib.hid (T6.out.below hb)
          clear hb c0 c1 c2
          go_wp2_with fail
          go_roundw
          case rel => exact ⟨by simp, T7.out, E7.out⟩
          case measure => simp [intOf]
    · go_wp2_with fail
      refine (HD2.out _ BR.out).mono ?_
      rintro e v1 ⟨b, q, x', y', z', rfl, hbc, hq, hx', hy', hz', hb⟩
      obtain ⟨t, ht⟩ : ∃ t : ByteArray, t = ⟨q.toArray⟩ := ⟨_, rfl⟩
      rw [← ht]
      have E1 := Lib.hid (AL.out _ (.cells #[.string x', .string y', .string z'] 25) (ST.out _ _ BR.out hb))
      have T1 := Lib.hid (Three.new v1 x' y' z' 25)
      have IW := Lib.hid (fun V => implWith_any x' y' z' t b V)
      have SW := Lib.hid (fun V => specWith_any x' y' z' t b V)
      have HWV := Lib.hid (fun (h : b = 88 ∨ b = 89 ∨ b = 90) => withV_val x' y' z' t h)
      unfold withV at IW SW
      generalize (if b = 88 then t else x') = ra at IW SW HWV
      generalize (if b = 89 then t else y') = rb at IW SW HWV
      generalize (if b = 90 then t else z') = rc at IW SW HWV
      have IVV := Lib.hid (fun V => implVal_any ra rb rc b V)
      clear hb ht hq
      obtain ⟨c0, c1, c2⟩ := T1.out.cells
      go_wp2_with fail
      refine (IW.out _).mono ?_
      rintro e v2 ⟨rfl, hb⟩
      have E2 := Lib.hid (AL.out _ (.cells #[.string ra, .string rb, .string rc] 25) (ST.out _ _ E1.out hb))
      have T2 := Lib.hid ((T1.out.below hb).alloc (.cells #[.string ra, .string rb, .string rc] 25))
      have R2 := Lib.hid (Three.new v2 ra rb rc 25)
      clear hb c0 c1 c2
      go_wp2_with fail
      refine (HD3.out _ E2.out).mono ?_
      rintro e v3 ⟨q, x3, y3, z3, rfl, hq, hx3, hy3, hz3, hb⟩
      obtain ⟨N, hN0⟩ : ∃ N : ByteArray, N = ⟨q.toArray⟩ := ⟨_, rfl⟩
      have hN : N.size ≤ 13 := by rw [hN0, size_mk]; exact hq
      rw [← hN0]
      have E3 := Lib.hid (AL.out _ (.cells #[.string x3, .string y3, .string z3] 25) (ST.out _ _ E2.out hb))
      have T3 := Lib.hid ((T2.out.below hb).alloc (.cells #[.string x3, .string y3, .string z3] 25))
      have R3 := Lib.hid ((R2.out.below hb).alloc (.cells #[.string x3, .string y3, .string z3] 25))
      have Q3 := Lib.hid (Three.new v3 x3 y3 z3 25)
      have HSF := Lib.hid (fun V => fmtS_at x3 y3 z3 N V (by omega))
      have HIF := Lib.hid (fun V => fmtI_at x3 y3 z3 N V (by omega))
      unfold JoinPost at HSF HIF
      clear hb hN0 hq hx3 hy3 hz3 hN hx' hy' hz'
      obtain ⟨VV, hVV⟩ : ∃ VV, VV = v3.alloc (.cells #[.string x3, .string y3, .string z3] 25) := ⟨_, rfl⟩
      go_wp2_with fail
      rw [← hVV] at E3 T3 R3 Q3 ⊢
      clear hVV
      have k0 := fun (m : UpW VV) => (T3.out.below m.up).cells.1
      have k1 := fun (m : UpW VV) => (T3.out.below m.up).cells.2.1
      have k2 := fun (m : UpW VV) => (T3.out.below m.up).cells.2.2
      have k3 := fun (m : UpW VV) => (R3.out.below m.up).cells.1
      have k4 := fun (m : UpW VV) => (R3.out.below m.up).cells.2.1
      have k5 := fun (m : UpW VV) => (R3.out.below m.up).cells.2.2
      have k6 := fun (m : UpW VV) => (Q3.out.below m.up).cells.1
      have k7 := fun (m : UpW VV) => (Q3.out.below m.up).cells.2.1
      have k8 := fun (m : UpW VV) => (Q3.out.below m.up).cells.2.2
      have USW := Lib.hid (fun (m : UpW VV) => up_call (SW.out m.w))
      have UIV := Lib.hid (fun (m : UpW VV) => up_call (IVV.out m.w))
      have USF := Lib.hid (fun (m : UpW VV) => up_call (HSF.out m.w))
      have UIF := Lib.hid (fun (m : UpW VV) => up_call (HIF.out m.w))
      by_cases h97 : b = 97
      · have n97 : ((b.toNat : Int) == 97) = true := by rw [h97]; rfl
        clear h97
        clear hbc
        refine wp_region_up (by kernel_rfl) (by kernel_rfl) ?_
        repeat (go_big_quiet_step ((first | with_reducible exact USW.out _ | with_reducible exact UIV.out _ | with_reducible exact USF.out _ | with_reducible exact UIF.out _)))
        refine wpQuiet_nil ?_
        rintro _ ⟨⟨wd, hbw⟩, rfl⟩
        have ED := Lib.hid (ST.out _ _ E3.out hbw)
        clear hbw k0 k1 k2 k3 k4 k5 k6 k7 k8
        go_wp2_with fail
        go_ret
        exact ⟨rfl, ED.out⟩
      · have hbv := HWV.out (by rcases hbc with h | h | h | h; exact Or.inl h; exact Or.inr (Or.inl h); exact Or.inr (Or.inr h); exact absurd h h97)
        rw [hbv] at UIV
        have n97 : ((b.toNat : Int) == 97) = false := by simp only [beq_eq_false_iff_ne, ne_eq]; intro e; exact h97 (UInt8.toNat_inj.1 (show b.toNat = 97 by omega))
        clear h97 hbv
        clear hbc
        refine wp_region_up (by kernel_rfl) (by kernel_rfl) ?_
        repeat (go_big_quiet_step ((first | with_reducible exact USW.out _ | with_reducible exact UIV.out _ | with_reducible exact USF.out _ | with_reducible exact UIF.out _)))
        refine wpQuiet_nil ?_
        rintro _ ⟨⟨wd, hbw⟩, rfl⟩
        have ED := Lib.hid (ST.out _ _ E3.out hbw)
        clear hbw k0 k1 k2 k3 k4 k5 k6 k7 k8
        go_wp2_with fail
        go_ret
        exact ⟨rfl, ED.out⟩
end Go.Proofs.Ytiijlpmdnokjfaa
