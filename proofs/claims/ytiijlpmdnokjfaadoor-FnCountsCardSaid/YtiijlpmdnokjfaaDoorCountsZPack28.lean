/- Texts of one proof. -/
import Derived.Deep.CutBlock
import Derived.Test.YtiijlpmdnokjfaaDoorCountsZPack17
import Derived.Test.YtiijlpmdnokjfaaDoorCountsZPack18
import Derived.Test.YtiijlpmdnokjfaaDoorCountsZPack21
import Derived.Test.YtiijlpmdnokjfaaDoorCountsZPack23
import Derived.Test.YtiijlpmdnokjfaaDoorCountsZPack25
import Derived.Test.YtiijlpmdnokjfaaDoorCountsZPack27
set_option maxRecDepth 100000
set_option maxHeartbeats 20000000
namespace Go.Proofs.YtiijlpmdnokjfaaDoor
open Go.RowKit
theorem ownB_shape {w : World} {B : Nat} {v : Value} {o : List Bool} (h : w.ownsRow B 4 1 v o.length (bools o)) (ho : o.length <= 1099511627776) : ∃ A c, v = .slice A o.length c := by
  obtain ⟨A, c, hv⟩ := (RowO.of_owns h (by omega)).row.shape
  rw [bools_length] at hv
  exact ⟨A, c, hv⟩
theorem ownB_cell {w : World} {B : Nat} {A : Option Addr} {c : Nat} {o : List Bool} (h : w.ownsRow B 4 1 (.slice A o.length c) o.length (bools o)) {j : Nat} {b : Bool} (hj : o[j]? = some b) : ∃ g, A = some ⟨g, 0, none⟩ /\ w.cell? ⟨g, j, none⟩ = some (.bool b) := by
  have hlt : j < o.length := (List.getElem?_eq_some_iff.1 hj).1
  rcases h.2 with ⟨_, h0⟩ | ⟨g, cap, cur, hv, _⟩
  . omega
  . injection hv with e1 e2 e3
    subst e1 e3
    refine ⟨g, rfl, ?_⟩
    rw [h.cellAt j (by omega)]
    simp [bools, hj]
theorem ownS_shape {w : World} {B : Nat} {v : Value} {ps : List (List UInt8)} (h : w.ownsRow B 9 1 v ps.length (strs ps)) : ∃ A c, v = .slice A ps.length c := by
  rcases own_cases h with ⟨h0, A, c, rfl⟩ | ⟨g, c, rfl⟩
  . rw [h0]
    exact ⟨A, c, rfl⟩
  . exact ⟨_, c, rfl⟩
theorem lawCts_any (A : Option Addr) (n c : Nat) (w : World) (h : BL w w.heap.size A n) (hTab : Tab w) (hnm : n <= 9223372036854775807) :
    Calls Tryd.prog 3 #[.slice A n c] w λ e w' => e = .returned (.bool true) /\ Below w.heap.size w w' := by
  by_cases hz : 1048576 < n
  . have e1 : decide ((n : Int) > 1048576) = true := by simp; omega
    clear h
    go_enter Tryd.func3, Tryd.ntmps3
    go_wp2
    go_ret
    exact ⟨rfl, Below.refl _ _⟩
  have e1 : decide ((n : Int) > 1048576) = false := by simp; omega
  have hn : n <= 1048576 := by omega
  have HD1 := Lib.hid (drawLen_any A n c w h hn)
  have HBL := Lib.hid (λ (V : World) (hV : Below w.heap.size w V) => ((h.below hV).more hV.size : BL V V.heap.size A n))
  have HD2 := Lib.hid (λ (V : World) (hV : Below w.heap.size w V) => drawAwd_any A n c V (HBL.out V hV) hn)
  have HD3 := Lib.hid (λ (V : World) (hV : Below w.heap.size w V) => drawInc_any A n c V (HBL.out V hV) hn)
  have HTB := Lib.hid (λ (V : World) (hV : Below w.heap.size w V) => hTab.kept hV)
  have ST := Lib.hid (λ (V V' : World) (h : Below w.heap.size w V) (k : Below V.heap.size V V') => h.trans (k.mono h.size))
  clear h hTab hz hnm
  go_enter Tryd.func3, Tryd.ntmps3
  go_wp2_with (go_at_call 6; go_in)
  refine HD1.out.mono ?_
  rintro e w1 ⟨va, vn, d, rfl, hda, hb1⟩
  obtain ⟨⟨Aa, qa, rfl⟩, An, qn, rfl⟩ := hda.shape
  obtain ⟨W2, hW2⟩ : ∃ W2, W2 = w1.alloc (.cells #[.slice Aa d.acc.length qa, .slice An d.nxt.length qn] 27) := ⟨_, rfl⟩
  have XA : Hid (BX W2 w1.heap.size (.slice Aa d.acc.length qa) (.slice An d.nxt.length qn) d) := Lib.hid (by rw [hW2]; exact BX.new hda)
  have B2 : Hid (Below w.heap.size w W2) := Lib.hid (by rw [hW2]; exact hb1.alloc hb1.size _)
  have hmx : d.acc.length <= 9223372036854775807 := by have := hda.1.1; rw [bools_length] at this; exact this
  clear hda hb1 e1
  go_wp2_with fail
  rw [<- hW2]
  clear hW2
  refine (implLen_any _ _ d _ W2 XA.out.dfa (HTB.out W2 B2.out)).mono ?_
  rintro e w3 ⟨v, l, p, hlr, hl40, rfl, hown, hb3⟩
  obtain ⟨Al, cl, rfl⟩ := ownB_shape hown hl40
  have HLR := Lib.hid hlr
  have XA3 := Lib.hid (XA.out.kept hb3)
  have B3 := Lib.hid (ST.out _ _ B2.out hb3)
  have O3 := Lib.hid hown
  clear hlr hown hb3
  obtain ⟨c0, c1⟩ := And.intro XA3.out.c0 XA3.out.c1
  go_wp2_with fail
  refine (specLen_any _ _ d _ w3 XA3.out.dfa).mono ?_
  rintro e w4 ⟨v', l', p', hlr', hl40', rfl, hown', -, hb4⟩
  obtain ⟨hu1, hu2⟩ := lenR_uniq HLR.out hlr'
  subst hu1 hu2
  obtain ⟨Al', cl', rfl⟩ := ownB_shape hown' hl40'
  have XA4 := Lib.hid (XA3.out.kept hb4)
  have B4 := Lib.hid (ST.out _ _ B3.out hb4)
  have O4 := Lib.hid (owns_below O3.out hb4)
  clear hlr' hown' hl40' hb4 c0 c1
  obtain ⟨fb, hfb⟩ : ∃ fb, fb = finB d := ⟨_, rfl⟩
  have k0 := λ (m : UpW w4) => (XA4.out.kept m.up).c0
  have k1 := λ (m : UpW w4) => (XA4.out.kept m.up).c1
  have UFI := Lib.hid (λ (m : UpW w4) => up_call (implFin_any _ _ d _ m.w (XA4.out.kept m.up).dfa (HTB.out _ (ST.out _ _ B4.out m.up))))
  have UFS := Lib.hid (λ (m : UpW w4) => up_call (specFin_any _ _ d _ m.w (XA4.out.kept m.up).dfa))
  rw [<- hfb] at UFI UFS
  go_wp2_with fail
  refine wp_region_up (by kernel_rfl) (by kernel_rfl) ?_
  repeat (go_big_quiet_step ((first | with_reducible exact UFI.out _ | with_reducible exact UFS.out _)))
  refine wpQuiet_nil ?_
  rintro w5 ⟨⟨x5, hb5⟩, rfl⟩
  have XA5 := Lib.hid (XA4.out.kept hb5)
  have B5 := Lib.hid (ST.out _ _ B4.out hb5)
  have O5 := Lib.hid (owns_below O4.out hb5)
  have HFB := Lib.hid hfb
  clear hb5 k0 k1 UFI UFS hfb
  go_upto_block 0 with fail
  go_cut [8, 9] from 51 to 76 (λ _ _ wx => Hid (Below w5.heap.size w5 wx))
  case first =>
    go_wp2_with fail
    go_loopw [8] (λ i wr => ∃ k : Nat, i = .int .i64 (k : Int) /\ k <= 21 /\ Hid (Below w5.heap.size w5 wr)) (λ i _ => 21 - (intOf i).toNat)
    case atStart => exact ⟨0, rfl, by omega, Lib.hid (Below.refl _ _)⟩
    case round =>
      obtain ⟨k, rfl, hk, HBr⟩ := hrel
      by_cases hk20 : k <= 20
      . by_cases ho : 0 < l.length
        . obtain ⟨hv, q, hpq, hLR⟩ := len_valid HLR.out ho
          obtain ⟨hq0, hql, hat, hper⟩ := hLR.at
          have HAT := Lib.hid hat
          have HPER := Lib.hid hper
          have HCV := Lib.hid (cnt_valid hv hk20)
          subst hpq
          clear hat hper hLR
          go_wp2_with fail
          go_loop [9] (λ i9 => ∃ j : Nat, i9 = .int .i64 (j : Int) /\ j <= k /\ Hid (decide (0 < waysN (auD d) j 0) = decide (0 < waysN (auD d) k 0))) (λ i9 => (intOf i9).toNat)
          case atStart => exact ⟨k, rfl, Nat.le_refl _, Lib.hid rfl⟩
          case round =>
            obtain ⟨j, rfl, hj, HJ⟩ := hrel
            by_cases hjo : l.length <= j
            . have hjq : (j : Int) - (q : Int) = ((j - q : Nat) : Int) := by omega
              go_wp2_with fail
              go_round
              case rel => exact ⟨j - q, by go_num, by omega, Lib.hid ((HPER.out j hjo).symm.trans HJ.out)⟩
              case measure => simp [intOf]; omega
            . have hjl : j < l.length := by omega
              obtain ⟨ww, hww⟩ : ∃ ww, ww = waysN (auD d) k 0 := ⟨_, rfl⟩
              obtain ⟨bl, hbl⟩ : ∃ bl, bl = decide (0 < ww) := ⟨_, rfl⟩
              have hlj : l[j]? = some bl := by rw [HAT.out j hjl, HJ.out, <- hww, hbl]
              obtain ⟨gl, hgl, hcl⟩ := ownB_cell (owns_below O5.out HBr.out) hlj
              subst hgl
              have XR := Lib.hid (XA5.out.kept HBr.out)
              have k0 := λ (m : UpW wr) => (XR.out.kept m.up).c0
              have k1 := λ (m : UpW wr) => (XR.out.kept m.up).c1
              have k2 := λ (m : UpW wr) => (m.up.cell (cell_in hcl)).trans hcl
              have UCW := Lib.hid (λ (m : UpW wr) => up_call (implCnt_any _ _ d _ (k : Int) m.w (XR.out.kept m.up).dfa))
              rw [HCV.out, <- hww] at UCW
              have s1 : (0 : Int) <= (j : Int) := by omega
              have s2 : (j : Int) < (l.length : Int) := by omega
              have hww0 := Lib.hid hbl
              clear hlj hbl hcl hww
              cases bl with
              | true =>
                have g0 : 0 < ww := of_decide_eq_true hww0.out.symm
                have g1 : (0 : Int) < (ww : Int) := by omega
                clear hww0
                go_wp2_with fail
                refine wp_region_up (by kernel_rfl) (by kernel_rfl) ?_
                repeat (go_big_quiet_step ((first | with_reducible exact UCW.out _)))
                refine wpQuiet_nil ?_
                rintro w6 ⟨⟨x6, hb6⟩, rfl⟩
                have HB6 := Lib.hid (HBr.out.trans (hb6.mono HBr.out.size))
                clear hb6 k0 k1 k2
                go_wp2_with fail
                go_roundw
                case rel => exact ⟨k + 1, by go_num, by omega, HB6⟩
                case measure => simp [intOf]; omega
              | false =>
                have g1 : ww = 0 := by have := of_decide_eq_false hww0.out.symm; omega
                subst g1
                clear hww0
                go_wp2_with fail
                refine wp_region_up (by kernel_rfl) (by kernel_rfl) ?_
                repeat (go_big_quiet_step ((first | with_reducible exact UCW.out _)))
                refine wpQuiet_nil ?_
                rintro w6 ⟨⟨x6, hb6⟩, rfl⟩
                have HB6 := Lib.hid (HBr.out.trans (hb6.mono HBr.out.size))
                clear hb6 k0 k1 k2
                go_wp2_with fail
                go_roundw
                case rel => exact ⟨k + 1, by go_num, by omega, HB6⟩
                case measure => simp [intOf]; omega
        . go_wp2_with fail
          go_meet
          exact HBr
      . obtain rfl : k = 21 := by omega
        go_wp2_with fail
        go_meet
        exact HBr
  case rest =>
    have HBc := hcut
    have XAc := Lib.hid (XA5.out.kept HBc.out)
    have Bc := Lib.hid (ST.out _ _ B5.out HBc.out)
    clear hcut HBc
    obtain ⟨c0, c1⟩ := And.intro XAc.out.c0 XAc.out.c1
    go_upto_block 4 with fail
    go_cut [11, 12] from 81 to 97 (λ s _ wx => ∃ sb : Bool, s = .bool sb /\ (d.acc.length <= 10 -> sb = someN d d.acc.length (2 * d.acc.length)) /\ Hid (Below wc.heap.size wc wx))
    case first =>
      by_cases hm10 : d.acc.length <= 10
      . go_wp2_with fail
        go_loopw [11, 12] (λ s i wr => ∃ (k : Nat) (sb : Bool), i = .int .i64 (k : Int) /\ s = .bool sb /\ d.acc.length <= k /\ k <= 2 * d.acc.length /\ sb = someN d d.acc.length k /\ Hid (Below wc.heap.size wc wr)) (λ _ i _ => 2 * d.acc.length - (intOf i).toNat)
        case atStart => exact ⟨d.acc.length, false, rfl, rfl, Nat.le_refl _, by omega, (someN_start d d.acc.length).symm, Lib.hid (Below.refl _ _)⟩
        case round =>
          obtain ⟨k, sb, rfl, rfl, hk1, hk2, hsb, HBr⟩ := hrel
          by_cases hk : k < 2 * d.acc.length
          . have HSU := Lib.hid (someN_succ d hk1)
            rw [<- hsb] at HSU
            clear hsb
            cases sb with
            | true =>
              go_wp2_with fail
              go_roundw
              case rel => exact ⟨k + 1, true, by go_num, rfl, by omega, by omega, HSU.out.symm, HBr⟩
              case measure => simp [intOf]; omega
            | false =>
              have XR := Lib.hid (XAc.out.kept HBr.out)
              have HCW := Lib.hid (implCnt_any _ _ d _ (k : Int) wr XR.out.dfa)
              generalize cntR d (k : Int) = cn at HCW HSU
              obtain ⟨d0, d1⟩ := And.intro XR.out.c0 XR.out.c1
              go_wp2_with fail
              refine HCW.out.mono ?_
              rintro e w6 ⟨rfl, hb6⟩
              have HB6 := Lib.hid (HBr.out.trans (hb6.mono HBr.out.size))
              clear hb6 d0 d1
              go_wp2_with fail
              go_roundw
              case rel => exact ⟨k + 1, decide (0 < cn), by go_num, by first | rfl | simp, by omega, by omega, by rw [HSU.out]; simp, HB6⟩
              case measure => simp [intOf]; omega
          . obtain rfl : k = 2 * d.acc.length := by omega
            go_wp2_with fail
            go_meet
            exact ⟨sb, rfl, λ _ => hsb, HBr⟩
      . have hm11 : ¬ ((d.acc.length : Int) <= 10) := by omega
        clear hmx
        go_wp2_with fail
        go_loopw [11, 12] (λ s i wr => i = .int .i64 (d.acc.length : Int) /\ s = .bool false /\ wr = wc) (λ _ _ _ => 0)
        case atStart => exact ⟨rfl, rfl, rfl⟩
        case round =>
          obtain ⟨rfl, rfl, rfl⟩ := hrel
          by_cases hbig : (d.acc.length : Int) < wrap64 (2 * (d.acc.length : Int))
          . go_wp2_with fail
            all_goals
              go_meet
              exact ⟨false, rfl, λ h => absurd h hm10, Lib.hid (Below.refl _ _)⟩
          . go_wp2_with fail
            all_goals
              go_meet
              exact ⟨false, rfl, λ h => absurd h hm10, Lib.hid (Below.refl _ _)⟩
    case rest =>
      obtain ⟨sb, rfl, hsb, HBd⟩ := hcut
      have HSB := Lib.hid hsb
      have XAd := Lib.hid (XAc.out.kept HBd.out)
      have Bd := Lib.hid (ST.out _ _ Bc.out HBd.out)
      clear hsb HBd c0 c1
      obtain ⟨c0, c1⟩ := And.intro XAd.out.c0 XAd.out.c1
      go_upto_region 22 with fail
      go_cut [113] from 98 to 112 (λ t wx => t = .bool false /\ Hid (Below wc.heap.size wc wx))
      case first =>
        by_cases h0 : 0 < d.acc.length
        . by_cases hm10 : d.acc.length <= 10
          . have HV := Lib.hid (specValidD_any _ _ d _ wc XAd.out.dfa)
            cases hv : validD d with
            | true =>
              have HNE : Hid (finB d = !sb) := Lib.hid (by rw [HSB.out hm10]; exact fin_some hv hm10)
              rw [hv] at HV
              clear hv
              go_wp2_with fail
              refine HV.out.mono ?_
              rintro e w6 ⟨rfl, hb6⟩
              have X6 := Lib.hid (XAd.out.kept hb6)
              have HB6 := Lib.hid hb6
              clear hb6 c0 c1
              have HF := Lib.hid (implFin_any _ _ d _ w6 X6.out.dfa (HTB.out _ (ST.out _ _ Bd.out HB6.out)))
              rw [HNE.out] at HF
              obtain ⟨c0, c1⟩ := And.intro X6.out.c0 X6.out.c1
              go_wp2_with fail
              refine HF.out.mono ?_
              rintro e w7 ⟨rfl, hb7⟩
              have HB7 := Lib.hid (HB6.out.trans (hb7.mono HB6.out.size))
              clear hb7
              cases sb with
              | true =>
                go_wp2_with fail
                go_meet
                exact ⟨rfl, HB7⟩
              | false =>
                go_wp2_with fail
                go_meet
                exact ⟨rfl, HB7⟩
            | false =>
              rw [hv] at HV
              clear hv
              go_wp2_with fail
              refine HV.out.mono ?_
              rintro e w6 ⟨rfl, hb6⟩
              have HB6 := Lib.hid hb6
              clear hb6 c0 c1
              go_wp2_with fail
              go_meet
              exact ⟨rfl, HB6⟩
          . go_wp2_with fail
            go_meet
            exact ⟨rfl, Lib.hid (Below.refl _ _)⟩
        . go_wp2_with fail
          go_meet
          exact ⟨rfl, Lib.hid (Below.refl _ _)⟩
      case rest =>
        obtain ⟨rfl, HBe⟩ := hcut
        have Be := Lib.hid (ST.out _ _ Bd.out HBe.out)
        clear HBe c0 c1
        go_wp2_with fail
        refine (HD2.out _ Be.out).mono ?_
        rintro e w6 ⟨va2, vn2, d2, z, rfl, hd2, hl6, hz1, hz4, hb6⟩
        obtain ⟨⟨A2, q2, rfl⟩, N2, n2, rfl⟩ := hd2.shape
        obtain ⟨W7, hW7⟩ : ∃ W7, W7 = w6.alloc (.cells #[.slice A2 d2.acc.length q2, .slice N2 d2.nxt.length n2] 27) := ⟨_, rfl⟩
        have XB : Hid (BX W7 w6.heap.size (.slice A2 d2.acc.length q2) (.slice N2 d2.nxt.length n2) d2) := Lib.hid (by rw [hW7]; exact BX.new hd2)
        have B7 : Hid (Below w.heap.size w W7) := Lib.hid (by rw [hW7]; have k := ST.out _ _ Be.out hb6; exact k.alloc k.size _)
        clear hd2 hl6 hb6
        go_wp2_with fail
        rw [<- hW7]
        clear hW7
        obtain ⟨ps, hps⟩ : ∃ ps, ps = awdR d2 z := ⟨_, rfl⟩
        have HIA := Lib.hid (implAwd_any _ _ d2 _ z W7 XB.out.dfa)
        have hwl := awdR_len d2 z
        have HSE := Lib.hid (sumN_end d2 hz4)
        rw [<- hps] at HIA hwl HSE
        have HPS := Lib.hid hps
        clear hps
        refine HIA.out.mono ?_
        rintro e w8 ⟨v15, rfl, hown, hb8⟩
        obtain ⟨A15, c15, rfl⟩ := ownS_shape hown
        have XB8 := Lib.hid (XB.out.kept hb8)
        have B8 := Lib.hid (ST.out _ _ B7.out hb8)
        have O8 := Lib.hid hown
        clear hown hb8
        go_upto_block 6 with fail
        go_cut [16, 17] from 122 to 135 (λ s _ wx => s = .int .i64 (ps.length : Int) /\ Hid (Below w8.heap.size w8 wx))
        case first =>
          go_wp2_with fail
          go_loopw [16, 17] (λ s i wr => ∃ k : Nat, i = .int .i64 (k : Int) /\ s = .int .i64 (sumN d2 k : Int) /\ k <= mostU z /\ Hid (Below w8.heap.size w8 wr)) (λ _ i _ => mostU z - (intOf i).toNat)
          case atStart => exact ⟨0, rfl, rfl, Nat.zero_le _, Lib.hid (Below.refl _ _)⟩
          case round =>
            obtain ⟨k, rfl, rfl, hk, HBr⟩ := hrel
            have hmu := mostU_le z
            by_cases hlt : k < mostU z
            . have hz0 : 0 <= z := by
                by_cases h : 0 <= z
                . exact h
                . rw [mostU_neg (by omega)] at hlt
                  omega
              have hmz := mostU_small hz0 hz4
              have hkz : (k : Int) <= z := by omega
              have hk5 : (k : Int) <= 5 := by omega
              have hsu := sumN_succ d2 (k := k) (by omega)
              have hsl := sumN_le d2 (k := k + 1) (by omega)
              have hcn := cntR_nonneg d2 (k : Int)
              have XR := Lib.hid (XB8.out.kept HBr.out)
              have HCW := Lib.hid (implCnt_any _ _ d2 _ (k : Int) wr XR.out.dfa)
              obtain ⟨cn, hcn0⟩ : ∃ cn, cn = cntR d2 (k : Int) := ⟨_, rfl⟩
              rw [<- hcn0] at HCW hsu hcn
              have HSU := Lib.hid hsu
              have hb1 : ((sumN d2 k : Nat) : Int) + cn <= 364 := by omega
              clear hcn0 hsu hsl hmz
              obtain ⟨d0, d1⟩ := And.intro XR.out.c0 XR.out.c1
              go_wp2_with fail
              refine HCW.out.mono ?_
              rintro e w9 ⟨rfl, hb9⟩
              have HB9 := Lib.hid (HBr.out.trans (hb9.mono HBr.out.size))
              clear hb9 d0 d1
              go_wp2_with fail
              go_roundw
              case rel => exact ⟨k + 1, by go_num, congrArg (Value.int .i64) HSU.out.symm, by omega, HB9⟩
              case measure => simp [intOf]; omega
            . obtain rfl : k = mostU z := by omega
              have HE := HSE.out
              by_cases hz0 : 0 <= z
              . have hmz := mostU_small hz0 hz4
                have hkz : ¬ ((mostU z : Nat) : Int) <= z := by omega
                go_wp2_with fail
                go_meet
                exact ⟨by first | rfl | (rw [<- HE, hmz]), HBr⟩
              . have hmz : mostU z = 0 := mostU_neg (by omega)
                have hkz : ¬ ((mostU z : Nat) : Int) <= z := by omega
                go_wp2_with fail
                go_meet
                exact ⟨by first | rfl | (rw [<- HE, hmz]), HBr⟩
        case rest =>
          obtain ⟨rfl, HBf⟩ := hcut
          have XBf := Lib.hid (XB8.out.kept HBf.out)
          have Bf := Lib.hid (ST.out _ _ B8.out HBf.out)
          have Of := Lib.hid (owns_below O8.out HBf.out)
          clear HBf
          go_wp2_with fail
          refine (HD3.out _ Bf.out).mono ?_
          rintro e w9 ⟨va3, vn3, d3, va4, vn4, d4, rfl, hd3, hd4, hb9⟩
          obtain ⟨⟨A3, q3, rfl⟩, N3, n3, rfl⟩ := hd3.shape
          obtain ⟨⟨A4, q4, rfl⟩, N4, n4, rfl⟩ := hd4.shape
          obtain ⟨WA, hWA⟩ : ∃ WA, WA = w9.alloc (.cells #[.slice A3 d3.acc.length q3, .slice N3 d3.nxt.length n3] 27) := ⟨_, rfl⟩
          have hd3 : DfaV w9 AnyB (.slice A3 d3.acc.length q3) (.slice N3 d3.nxt.length n3) d3 := hd3.mono (λ _ _ => rfl) (λ _ _ => trivial)
          have hd4 : DfaV w9 AnyB (.slice A4 d4.acc.length q4) (.slice N4 d4.nxt.length n4) d4 := hd4.mono (λ _ _ => rfl) (λ _ _ => trivial)
          have hbA : Below w9.heap.size w9 WA := by rw [hWA]; exact (Below.refl _ _).alloc (Nat.le_refl _) _
          have XC0 : Hid (BX WA w9.heap.size (.slice A3 d3.acc.length q3) (.slice N3 d3.nxt.length n3) d3) := Lib.hid (by rw [hWA]; exact BX.new hd3)
          obtain ⟨WB, hWB⟩ : ∃ WB, WB = WA.alloc (.cells #[.slice A4 d4.acc.length q4, .slice N4 d4.nxt.length n4] 27) := ⟨_, rfl⟩
          have hbB : Below WA.heap.size WA WB := by rw [hWB]; exact (Below.refl _ _).alloc (Nat.le_refl _) _
          have XD0 : Hid (BX WB WA.heap.size (.slice A4 d4.acc.length q4) (.slice N4 d4.nxt.length n4) d4) := Lib.hid (by rw [hWB]; exact BX.new (hd4.kept hbA))
          have hzA : WA.heap.size = w9.heap.size + 1 := by rw [hWA]; simp
          rw [hzA] at XD0
          have XC := Lib.hid (XC0.out.kept hbB)
          have XE := Lib.hid (((XBf.out.kept hb9).kept hbA).kept hbB)
          have OE := Lib.hid (owns_below (owns_below (owns_below Of.out hb9) hbA) hbB)
          have BE := Lib.hid (ST.out _ _ (ST.out _ _ (ST.out _ _ Bf.out hb9) hbA) hbB)
          obtain ⟨ib, hib⟩ : ∃ ib, incR d3 d4 ib := incR_some d3 d4
          have HSA := Lib.hid (λ (V : World) (hV : Below WB.heap.size WB V) => specAwd_any _ _ d2 _ z V (XE.out.kept hV).dfa (by omega))
          have HII := Lib.hid (λ (V : World) (hV : Below WB.heap.size WB V) => implInc_any _ _ _ _ d3 d4 _ _ ib V (XC.out.kept hV).dfa (XD0.out.kept hV).dfa hib)
          have HIS := Lib.hid (λ (V : World) (hV : Below WB.heap.size WB V) => specInc_any _ _ _ _ d3 d4 _ _ ib V (XC.out.kept hV).dfa (XD0.out.kept hV).dfa hib)
          rw [<- HPS.out] at HSA
          have HKe := Lib.hid (λ (V : World) (hV : Below WB.heap.size WB V) => (⟨(XE.out.kept hV).c0, (XE.out.kept hV).c1, (XC.out.kept hV).c0, (XC.out.kept hV).c1, (XD0.out.kept hV).c0, (XD0.out.kept hV).c1⟩ :
            V.cell? ⟨w6.heap.size, 0, none⟩ = some (.slice A2 d2.acc.length q2) /\ V.cell? ⟨w6.heap.size, 1, none⟩ = some (.slice N2 d2.nxt.length n2) /\ V.cell? ⟨w9.heap.size, 0, none⟩ = some (.slice A3 d3.acc.length q3) /\ V.cell? ⟨w9.heap.size, 1, none⟩ = some (.slice N3 d3.nxt.length n3) /\
              V.cell? ⟨w9.heap.size + 1, 0, none⟩ = some (.slice A4 d4.acc.length q4) /\ V.cell? ⟨w9.heap.size + 1, 1, none⟩ = some (.slice N4 d4.nxt.length n4)))
          clear hd3 hd4 hbA hbB hb9 hzA hib
          have HSM := Lib.hid (λ (V : World) (vA : Value) (h1 : V.ownsRow W7.heap.size 9 1 (.slice A15 ps.length c15) ps.length (strs ps)) (h2 : V.ownsRow WB.drew.heap.size 9 1 vA ps.length (strs ps)) => ((sameTexts_own hwl h1 h2).mono (λ e w' ⟨he, m, hw⟩ => ⟨he, by rw [hw]; exact ⟨rfl, rfl, rfl, Nat.le_refl _, λ _ _ => rfl⟩⟩) : Calls Tryd.prog 17 #[.slice A15 ps.length c15, vA] V λ e w' => e = .returned (.bool true) /\ Below V.heap.size V w'))
          have hbw : Below WB.heap.size WB WB := Below.refl _ _
          go_wp2_with fail
          rw [<- hWA, <- hWB]
          clear hWA hWB
          go_region_held3 (λ V => V.cell? ⟨w6.heap.size, 0, none⟩ = some (.slice A2 d2.acc.length q2) /\ V.cell? ⟨w6.heap.size, 1, none⟩ = some (.slice N2 d2.nxt.length n2) /\ V.cell? ⟨w9.heap.size, 0, none⟩ = some (.slice A3 d3.acc.length q3) /\ V.cell? ⟨w9.heap.size, 1, none⟩ = some (.slice N3 d3.nxt.length n3) /\ V.cell? ⟨w9.heap.size + 1, 0, none⟩ = some (.slice A4 d4.acc.length q4) /\ V.cell? ⟨w9.heap.size + 1, 1, none⟩ = some (.slice N4 d4.nxt.length n4)) (first | exact HKe.out _ hbw.drew | exact HKe.out _ hbw) (first
            | (go_at_call 18; (first | (with_reducible refine (HSA.out _ hbw.drew).mono ?_) | (with_reducible refine (HSA.out _ hbw).mono ?_)); rintro eA wA ⟨vA, rfl, hoA, hbA⟩; have hbw : Below WB.heap.size WB wA := (by first | exact hbw.drew.trans (hbA.mono hbw.drew.size) | exact hbw.trans (hbA.mono hbw.size)); have HOA := Lib.hid (owns_below OE.out hbw); have HOB := Lib.hid hoA; clear hoA hbA)
            | (go_at_call 19; (first | (with_reducible refine (HII.out _ hbw.drew).mono ?_) | (with_reducible refine (HII.out _ hbw).mono ?_)); rintro eC wC ⟨rfl, hbC⟩; have hbw : Below WB.heap.size WB wC := (by first | exact hbw.drew.trans (hbC.mono hbw.drew.size) | exact hbw.trans (hbC.mono hbw.size)); clear hbC)
            | (go_at_call 20; (first | (with_reducible refine (HIS.out _ hbw.drew).mono ?_) | (with_reducible refine (HIS.out _ hbw).mono ?_)); rintro eD wD ⟨rfl, hbD⟩; have hbw : Below WB.heap.size WB wD := (by first | exact hbw.drew.trans (hbD.mono hbw.drew.size) | exact hbw.trans (hbD.mono hbw.size)); clear hbD)
            | (go_at_call 17; (with_reducible refine (HSM.out wA vA HOA.out HOB.out).mono ?_); rintro eB wB ⟨rfl, hbB⟩; have hbw : Below WB.heap.size WB wB := hbw.trans (hbB.mono hbw.size); clear hbB))
          all_goals
            have HEND := Lib.hid (ST.out _ _ BE.out hbw)
            clear hbw
            go_wp2_with fail
            go_ret
            exact ⟨rfl, HEND.out⟩
end Go.Proofs.YtiijlpmdnokjfaaDoor
