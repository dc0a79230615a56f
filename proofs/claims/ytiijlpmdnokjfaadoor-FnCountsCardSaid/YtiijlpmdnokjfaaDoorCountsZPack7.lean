/- Texts of one proof. -/
import Derived.Test.YtiijlpmdnokjfaaDoorCountsZPack6
set_option maxRecDepth 100000
set_option maxHeartbeats 20000000
namespace Go.Proofs.YtiijlpmdnokjfaaDoor
open Go.RowKit
theorem specPrd_or (va vn va' vn' : Value) (d d' : Dx) (S S' : Nat -> Prop) (w : World) (h : DfaV w S va vn d) (h' : DfaV w S' va' vn' d') (hv : validD d = true) (hv' : validD d' = true) :
    Calls Tryd.prog 49 #[.agg #[va, vn], .agg #[va', vn'], .int .i64 6] w (PrdPostS (auD d) (auD d') (λ x y => x || y) w) := by
  obtain ⟨i0, hi, hz0, hz1, hz2⟩ := info_parts intInfo
  obtain ⟨b0, hbi, hb0, hb1, hb2⟩ := info_parts boolInfo
  obtain ⟨r0, hri, hr0, hr1, hr2⟩ := info_parts rowInfo
  obtain ⟨hw, hn40, hnn, hl, ad, cc, ad', cc', rfl, rfl, hA, hT⟩ := h.au hv
  obtain ⟨hw', hn40', hnn', hl', bd, ec, bd', ec', rfl, rfl, hA', hT'⟩ := h'.au hv'
  obtain ⟨n, hne⟩ : ∃ n, n = d.acc.length := ⟨_, rfl⟩
  obtain ⟨n', hne'⟩ : ∃ n', n' = d'.acc.length := ⟨_, rfl⟩
  rw [<- hne] at hA hT hnn
  rw [<- hne'] at hA' hT' hnn'
  obtain ⟨W0, hW0⟩ : ∃ W0, W0 = ((w.alloc (.cells #[.slice (some ad) n cc, .slice (some ad') n cc'] 27)).alloc (.cells #[.slice (some bd) n' ec, .slice (some bd') n' ec'] 27)).alloc (.cells #[.slice none 0 0, .slice none 0 0] 27) := ⟨_, rfl⟩
  have h3 := three_box' w (.cells #[.slice (some ad) n cc, .slice (some ad') n cc'] 27) (.cells #[.slice (some bd) n' ec, .slice (some bd') n' ec'] 27) (.cells #[.slice none 0 0, .slice none 0 0] 27)
  rw [<- hW0] at h3
  have HB0 : Hid (Below w.heap.size w W0) := Lib.hid h3.2.2.2
  have HX := Lib.hid h3.1
  have HX' := Lib.hid h3.2.1
  have HY := Lib.hid h3.2.2.1
  clear h3
  have HV := Lib.hid (specValidD_any (.slice (some ad) n cc) (.slice (some ad') n cc') d S W0 (by rw [hne]; exact h.kept HB0.out))
  have HV' := Lib.hid (λ (V : World) (hV : Below w.heap.size w V) => specValidD_any (.slice (some bd) n' ec) (.slice (some bd') n' ec') d' S' V (by rw [hne']; exact h'.kept hV))
  rw [hv] at HV
  rw [hv'] at HV'
  obtain ⟨f, hf⟩ : ∃ f : Bool -> Bool -> Bool, f = (λ x y => x || y) := ⟨_, rfl⟩
  obtain ⟨a, ha⟩ : ∃ a, a = auD d := ⟨_, rfl⟩
  obtain ⟨b, hb⟩ : ∃ b, b = auD d' := ⟨_, rfl⟩
  rw [<- ha] at hw hnn hA hT hn40
  rw [<- hb] at hw' hnn' hA' hT' hn40'
  rw [<- hne, <- hne', <- ha, <- hb, <- hf]
  obtain ⟨M, hMe⟩ : ∃ M, M = n * n' := ⟨_, rfl⟩
  have hM : M <= 1600 := by
    have := Nat.mul_le_mul (show n <= 40 by omega) (show n' <= 40 by omega)
    omega
  obtain ⟨G, hG⟩ : ∃ G, G = (prd a b f).T := ⟨_, rfl⟩
  have HGd : Hid (∀ x k, G x k = a.T (x / n') k * n' + b.T (x % n') k) := Lib.hid (λ x k => by rw [hG, <- hnn']; rfl)
  have HAd : Hid (∀ x, (prd a b f).A x = f (a.A (x / n')) (b.A (x % n'))) := Lib.hid (λ x => by rw [<- hnn']; rfl)
  have HPw := Lib.hid (prd_wf f hw hw')
  have HKeys : Hid (∀ t, (∀ x ∈ ords 0 G t, x < M) /\ (ords 0 G t).length <= M) := Lib.hid (λ t => by
    have h1 := own_keys HPw.out t
    rw [hG, hMe, <- hnn, <- hnn']
    exact h1)
  have HA : Hid (∀ q, q < n -> w.cell? (ad.add q) = some (.bool (a.A q))) := Lib.hid hA
  have HA' : Hid (∀ q, q < n' -> w.cell? (bd.add q) = some (.bool (b.A q))) := Lib.hid hA'
  have HT := Lib.hid hT
  have HT' := Lib.hid hT'
  have HWf : Hid (∀ x k, x < n -> k < 3 -> a.T x k < n) := Lib.hid (by rw [<- hnn]; exact hw.2)
  have HWf' : Hid (∀ x k, x < n' -> k < 3 -> b.T x k < n') := Lib.hid (by rw [<- hnn']; exact hw'.2)
  have hn0 : 0 < n := by have := hw.1; omega
  have hn0' : 0 < n' := by have := hw'.1; omega
  have HMe := Lib.hid (And.intro hMe hG)
  have HF := Lib.hid hf
  have hnl : n <= 40 := by omega
  have hnl' : n' <= 40 := by omega
  obtain ⟨hc0, hc1, -, -⟩ := box2_facts HX.out
  obtain ⟨hd0, hd1, -, -⟩ := box2_facts HX'.out
  rw [hW0] at hc0 hc1 hd0 hd1
  clear h h' hw hw' hA hA' hT hT' hne hne' hMe hG hf ha hb hnn hnn' hl hl' hv hv' hn40 hn40'
  go_enter Tryd.func49, Tryd.ntmps49
  go_wp2_with fail
  go_at_call 13
  rw [<- hW0]
  refine HV.out.mono ?_
  rintro e1 w1 ⟨rfl, hb1⟩
  have HB1 := Lib.hid hb1
  clear hc0 hc1 hd0 hd1 hW0 hb1
  obtain ⟨hd0, hd1, -, -⟩ := box2_facts ((HB1.out.block _ (blk_lt HX'.out)).trans HX'.out)
  go_wp2_with fail
  go_at_call 13
  refine (HV'.out w1 (HB0.out.trans (HB1.out.mono HB0.out.size))).mono ?_
  rintro e2 w2 ⟨rfl, hb2⟩
  have HB2 := Lib.hid (HB1.out.trans (hb2.mono HB1.out.size))
  clear hd0 hd1 hb2
  obtain ⟨hd0, hd1, -, -⟩ := box2_facts ((HB2.out.block _ (blk_lt HX'.out)).trans HX'.out)
  obtain ⟨HS, HSB⟩ := One.start2 w2 0
  have HSt := Lib.hid HS
  have HStB := Lib.hid HSB
  clear HS HSB
  go_wp2_with fail
  obtain ⟨B, hBe⟩ : ∃ B, B = w2.heap.size := ⟨_, rfl⟩
  rw [<- hBe] at HSt HStB ⊢
  have HBe := Lib.hid hBe
  have HE0 : Hid (ordI 0 G (3 * 0) = [0]) := Lib.hid rfl
  go_loopw [10, 11] (λ vo iv wr => ∃ (i : Nat) (va2 vn2 : Value) (us : List Value) (K : Nat -> Nat -> Prop), iv = .int .i64 i /\ i <= M /\ us.length = i /\ Hid (Below B w2 wr) /\ Hid (∀ j, j < i -> j < (ords 0 G (3 * j)).length) /\ Hid (One B wr B va2 vn2 ((List.range i).map λ j => (prd a b f).A (keyI 0 G j)) us ((List.range i).map λ j => ints (rowI 0 G j 3)) K vo (ordI 0 G (3 * i)))) (λ _ iv _ => M + 1 - (intOf iv).toNat)
  case atStart => exact ⟨0, _, _, [], _, rfl, Nat.zero_le _, rfl, HStB, Lib.hid (λ j hj => absurd hj (Nat.not_lt_zero _)), by rw [HE0.out]; exact HSt⟩
  clear HSt HStB hBe hd0 hd1
  case round =>
    obtain ⟨i, va2, vn2, us, K, rfl, hin, hus, HBr, hon, ho⟩ := hrel
    obtain ⟨accs, hacc⟩ : ∃ accs, accs = (List.range i).map λ j => (prd a b f).A (keyI 0 G j) := ⟨_, rfl⟩
    obtain ⟨rss, hrss⟩ : ∃ rss, rss = (List.range i).map λ j => ints (rowI 0 G j 3) := ⟨_, rfl⟩
    obtain ⟨lo, hlo⟩ : ∃ lo, lo = ordI 0 G (3 * i) := ⟨_, rfl⟩
    rw [<- hacc, <- hrss, <- hlo] at ho
    have HAc := Lib.hid (And.intro hacc hrss)
    have hll : lo.length <= M := by rw [hlo, ordI_length]; exact (HKeys.out _).2
    have HLo := Lib.hid hlo
    have hal : accs.length = i := by rw [hacc]; simp
    have HAl := Lib.hid hal
    clear hacc hrss hlo hal
    obtain ⟨-, Ao, co, rfl⟩ := (ho.out.ord.row (by omega)).row.ints_shape
    have HBw := Lib.hid (HB0.out.trans ((HB2.out.trans (HBr.out.mono (by rw [HBe.out]; exact HB2.out.size))).mono HB0.out.size))
    have hX1 : Hid (wr.heap[w.heap.size]? = some (.cells #[.slice (some ad) n cc, .slice (some ad') n cc'] 27 (0, 0)) /\ wr.heap[w.heap.size + 1]? = some (.cells #[.slice (some bd) n' ec, .slice (some bd') n' ec'] 27 (0, 0))) := Lib.hid (by
      have hb3 := HB2.out.trans (HBr.out.mono (by rw [HBe.out]; exact HB2.out.size))
      exact ⟨(hb3.block _ (blk_lt HX.out)).trans HX.out, (hb3.block _ (blk_lt HX'.out)).trans HX'.out⟩)
    by_cases hlt : i < lo.length
    . have hi1 : i < (ords 0 G (3 * i)).length := by rw [<- ordI_length, <- HLo.out]; exact hlt
      have hxM : keyI 0 G i < M := (HKeys.out (3 * i)).1 _ (getD_mem hi1)
      obtain ⟨-, st1⟩ := ordI_at (s0 := 0) (g := G) (t := 3 * i) hi1 (by omega)
      obtain ⟨x, hx⟩ : ∃ x, x = keyI 0 G i := ⟨_, rfl⟩
      rw [<- hx] at hxM
      rw [<- hx, <- HLo.out] at st1
      have HXx := Lib.hid hx
      obtain ⟨p, hp⟩ : ∃ p, p = x / n' := ⟨_, rfl⟩
      obtain ⟨q, hq⟩ : ∃ q, q = x % n' := ⟨_, rfl⟩
      have hpn : p < n := by rw [hp]; exact div_lt (by rw [<- HMe.out.1]; exact hxM)
      have hqn : q < n' := by rw [hq]; exact Nat.mod_lt _ hn0'
      have hdv : (x : Int) / (n' : Int) = (p : Int) := by rw [hp]; simp
      have hmd : (x : Int) % (n' : Int) = (q : Int) := by rw [hq]; simp
      have HPq := Lib.hid (And.intro hp hq)
      obtain ⟨ado, ca, hvo, hco⟩ := Two.cell_row ho.out.ord (by omega) hlt
      injection hvo with hvo1 _ hvo2
      subst hvo1
      subst hvo2
      rw [st1] at hco
      have hd : decide ((i : Int) < (lo.length : Int)) = true := by simp; omega
      have s1 : (i : Int) < (lo.length : Int) := by omega
      have s2 : (0 : Int) <= (i : Int) := by omega
      have s3 : (0 : Int) < (n' : Int) := by omega
      have s4 : (0 : Int) <= (x : Int) := by omega
      have s5 : ((n' : Int) == 0) = false := by simp; omega
      have s6 : (x : Int) <= 1600 := by omega
      have HTwo := Lib.hid ho.out.two
      have HTw0 : Hid (Two B (wr.alloc (.cells #[] 3)) B va2 vn2 accs us rss K (.slice (some ado) lo.length co) (ordI 0 G (3 * i + 0)) (.slice (some ⟨wr.heap.size, 0, none⟩) 0 0) (rowI 0 G i 0)) := by
        rw [show 3 * i + 0 = 3 * i from rfl, <- HLo.out]
        exact HTwo
      clear HTwo st1 hx hp hq
      have HBa := Lib.hid (HBr.out.alloc (Nat.le_of_lt ho.out.base) (.cells #[] 3))
      go_upto_region 13 with fail
      clear hd hco hdv hmd s1 s2 s3 s4 s5 s6 ho
      go_loopw [10, 14, 15] (λ vo vr kv wq => ∃ k : Nat, kv = .int .i64 k /\ k <= 3 /\ Hid (Below B w2 wq) /\ Hid (Two B wq B va2 vn2 accs us rss K vo (ordI 0 G (3 * i + k)) vr (rowI 0 G i k))) (λ _ _ kv _ => 3 - (intOf kv).toNat)
      case atStart => exact ⟨0, rfl, Nat.zero_le _, HBa, HTw0⟩
      case round =>
        obtain ⟨k, rfl, hk, HBq, HQ⟩ := hrel
        clear HTw0 HBa
        have HBz := Lib.hid (HB0.out.trans ((HB2.out.trans (HBq.out.mono (by rw [HBe.out]; exact HB2.out.size))).mono HB0.out.size))
        have HXq : Hid (wr.heap[w.heap.size]? = some (.cells #[.slice (some ad) n cc, .slice (some ad') n cc'] 27 (0, 0)) /\ wr.heap[w.heap.size + 1]? = some (.cells #[.slice (some bd) n' ec, .slice (some bd') n' ec'] 27 (0, 0))) := Lib.hid (by
          have hb3 := HB2.out.trans (HBq.out.mono (by rw [HBe.out]; exact HB2.out.size))
          exact ⟨(hb3.block _ (blk_lt HX.out)).trans HX.out, (hb3.block _ (blk_lt HX'.out)).trans HX'.out⟩)
        by_cases hk3 : k < 3
        . obtain ⟨-, st2, st3⟩ := ordI_step (s0 := 0) (g := G) hi1 hk3
          have hln : (ordI 0 G (3 * i + k)).length <= M := by rw [ordI_length]; exact (HKeys.out _).2
          have hln' : (ordI 0 G (3 * i + (k + 1))).length <= M := by rw [ordI_length]; exact (HKeys.out _).2
          obtain ⟨lq, hlq⟩ : ∃ lq, lq = ordI 0 G (3 * i + k) := ⟨_, rfl⟩
          obtain ⟨lp, hlp⟩ : ∃ lp, lp = ordI 0 G (3 * i + (k + 1)) := ⟨_, rfl⟩
          rw [<- HXx.out, <- hlq, <- hlp] at st2
          rw [<- HXx.out, <- hlp] at st3
          rw [<- hlq] at hln HQ
          rw [<- hlp] at hln'
          have HLp := Lib.hid hlp
          clear hlq hlp
          obtain ⟨-, Aq, cq, rfl⟩ := (HQ.out.one.ord.row (by omega)).row.ints_shape
          obtain ⟨a2, c2, hr2, hr3⟩ := HT.out p hpn
          obtain ⟨b2, e2, hs2, hs3⟩ := HT'.out q hqn
          have hr4 := hr3 k hk3
          have hs4 := hs3 k hk3
          have hta := HWf.out p k hpn hk3
          have htb := HWf'.out q k hqn hk3
          obtain ⟨y, hy⟩ : ∃ y, y = G x k := ⟨_, rfl⟩
          have hyd : y = a.T p k * n' + b.T q k := by rw [hy, HGd.out, <- HPq.out.1, <- HPq.out.2]
          rw [<- hy] at st2 st3
          obtain ⟨ta, hta'⟩ : ∃ ta, ta = a.T p k := ⟨_, rfl⟩
          obtain ⟨tb, htb'⟩ : ∃ tb, tb = b.T q k := ⟨_, rfl⟩
          rw [<- hta'] at hta hr4 hyd
          rw [<- htb'] at htb hs4 hyd
          obtain ⟨m, hm⟩ : ∃ m, m = ta * n' := ⟨_, rfl⟩
          rw [<- hm] at hyd
          have hm0 : m <= 1600 := by
            have := Nat.mul_le_mul (show ta <= 40 by omega) (show n' <= 40 by omega)
            omega
          have hw0 : (ta : Int) * (n' : Int) = (m : Int) := by rw [hm]; simp
          have hw1 : IntKind.i64.wrap ((ta : Int) * (n' : Int)) = (m : Int) := by rw [hw0]; exact IntWalk.i64_in _ (by omega)
          have hw2 : IntKind.i64.wrap ((m : Int) + (tb : Int)) = (y : Int) := by rw [hyd]; exact (IntWalk.i64_in _ (by omega)).trans (by omega)
          obtain ⟨z, hz⟩ : ∃ z, z = findV lq (y : Int) := ⟨_, rfl⟩
          rw [<- hz] at st2
          have HS2 := Lib.hid st2
          obtain ⟨tt, htt⟩ : ∃ tt : Int, tt = (toI 0 G i k : Int) := ⟨_, rfl⟩
          rw [<- htt] at st3
          have HTt := Lib.hid htt
          have HS3 := Lib.hid st3
          have hrl : (rowI 0 G i k).length <= 3 := by rw [rowI_length]; omega
          have HFind := Lib.hid (λ V (hV : Below wr.heap.size wr V) => specFind_below (y : Int) HQ.out.one.ord (by omega) hV)
          rw [<- hz] at HFind
          have g2 := (HBz.out.cell (cell_in hr2)).trans hr2
          have g3 := (HBz.out.cell (cell_in hr4)).trans hr4
          have g4 := (HBz.out.cell (cell_in hs2)).trans hs2
          have g5 := (HBz.out.cell (cell_in hs4)).trans hs4
          obtain ⟨-, g6, -, -⟩ := box2_facts HXq.out.1
          obtain ⟨-, g7, -, -⟩ := box2_facts HXq.out.2
          have s1 : (p : Int) < (n : Int) := by omega
          have s2 : (0 : Int) <= (p : Int) := by omega
          have s3 : (q : Int) < (n' : Int) := by omega
          have s4 : (0 : Int) <= (q : Int) := by omega
          have s7 : (k : Int) < 3 := by omega
          have s8 : (0 : Int) <= (k : Int) := by omega
          have hd : decide ((k : Int) < 3) = true := by simp; omega
          clear htt st2 st3 hr2 hr3 hr4 hs2 hs3 hs4 hy hyd hta' htb' hm hz hw0
          go_wp2_with fail
          go_quiet (fail)
          clear g2 g3 g4 g5 g6 g7 hw1 hw2
          go_wp2_with fail
          go_at_call 39
          refine (HFind.out _ (below_draws (Below.refl _ _) _)).mono ?_
          rintro e w8 ⟨rfl, hb8⟩
          have HB8 := Lib.hid (HBq.out.grown (grown_of hb8) (Nat.le_of_lt HQ.out.one.base) (λ g e => by cases e))
          have HQ8 := Lib.hid (HQ.out.below hb8)
          clear hb8 hd
          by_cases hzz : z < 0
          . have hd : decide (z < 0) = true := by simp [hzz]
            have hap := HS2.out.1 hzz
            have HAp := Lib.hid hap
            have hbw : B <= w8.heap.size := Nat.le_of_lt HQ8.out.one.base
            clear hap hzz
            go_wp2_with (at_builtin; refine wpList_append_own_at _ rfl (.tmp 88) (.tmp 90) 53 rfl B 3 i0 (.int .i64 0) 1 8 Tryd.underlying53 hi hz0 hz1 hz2 rfl (by decide) _ _ _ rfl (HQ8.out.one.ord.alloc _) ⟨w8.heap.size, 0, none⟩ 1 1 [.int .i64 (y : Int)] rfl rfl (cell_one_new _ _ _) (by simp [Value.oneCell']) (by unfold maxLen; omega) (by omega) (by simp; omega) ?_)
            intro v' w9 hown' hgrow hnil hat
            have HQ9 := Lib.hid ((HQ8.out.below ((Below.refl _ _).alloc (Nat.le_refl _) (.cells #[.int .i64 (y : Int)] 3))).ord_push hown' hgrow (by simpa using hat))
            have HB9 := Lib.hid ((HB8.out.alloc hbw (.cells #[.int .i64 (y : Int)] 3)).grown hgrow (by simp; omega) (λ g e => (HQ8.out.one.ord.lt g e).1))
            rw [<- HAp.out] at HQ9
            clear hown' hgrow hnil hat hd
            have HF2 := Lib.hid (λ V (hV : Below w9.heap.size w9 V) => specFind_below (y : Int) HQ9.out.one.ord (by omega) hV)
            rw [HS3.out] at HF2
            go_wp2_with fail
            go_at_call 39
            refine (HF2.out _ (Below.refl _ _)).mono ?_
            rintro e wd ⟨rfl, hbd⟩
            have HBd := Lib.hid (HB9.out.grown (grown_of hbd) (Nat.le_of_lt HQ9.out.one.base) (λ g e => by cases e))
            have HQd := Lib.hid (HQ9.out.below hbd)
            have hbw2 : B <= wd.heap.size := Nat.le_of_lt HQd.out.one.base
            clear hbd
            go_wp2_with (at_builtin; refine wpList_append_own_at _ rfl (.tmp 92) (.tmp 96) 53 rfl B 3 i0 (.int .i64 0) 1 8 Tryd.underlying53 hi hz0 hz1 hz2 rfl (by decide) _ _ _ rfl (HQd.out.row.alloc _) ⟨wd.heap.size, 0, none⟩ 1 1 [.int .i64 tt] rfl rfl (cell_one_new _ _ _) (by simp [Value.oneCell']) (by unfold maxLen; omega) (by omega) (by simp; omega) ?_)
            intro v2 wf hown2 hgrow2 hnil2 hat2
            have HQf := Lib.hid ((HQd.out.below ((Below.refl _ _).alloc (Nat.le_refl _) (.cells #[.int .i64 tt] 3))).row_push hown2 hgrow2 (by simpa using hat2))
            have HBf := Lib.hid ((HBd.out.alloc hbw2 (.cells #[.int .i64 tt] 3)).grown hgrow2 (by simp; omega) (λ g e => (HQd.out.row.lt g e).1))
            rw [HTt.out, <- rowI_succ] at HQf
            clear hown2 hgrow2 hnil2 hat2
            go_wp2_with fail
            go_roundw
            case rel => exact ⟨k + 1, by go_num, by omega, HBf, by rw [<- HLp.out]; exact HQf⟩
            case measure => simp [intOf]; omega
          . have hd : decide (z < 0) = false := by simp; omega
            have hap := HS2.out.2 (by omega)
            subst hap
            have HQ9 := Lib.hid HQ8.out
            have HB9 := Lib.hid HB8.out
            clear hzz
            have HF2 := Lib.hid (λ V (hV : Below w8.heap.size w8 V) => specFind_below (y : Int) HQ9.out.one.ord (by omega) hV)
            rw [HS3.out] at HF2
            go_wp2_with fail
            go_at_call 39
            refine (HF2.out _ (Below.refl _ _)).mono ?_
            rintro e wd ⟨rfl, hbd⟩
            have HBd := Lib.hid (HB9.out.grown (grown_of hbd) (Nat.le_of_lt HQ9.out.one.base) (λ g e => by cases e))
            have HQd := Lib.hid (HQ9.out.below hbd)
            have hbw2 : B <= wd.heap.size := Nat.le_of_lt HQd.out.one.base
            clear hbd
            go_wp2_with (at_builtin; refine wpList_append_own_at _ rfl (.tmp 92) (.tmp 96) 53 rfl B 3 i0 (.int .i64 0) 1 8 Tryd.underlying53 hi hz0 hz1 hz2 rfl (by decide) _ _ _ rfl (HQd.out.row.alloc _) ⟨wd.heap.size, 0, none⟩ 1 1 [.int .i64 tt] rfl rfl (cell_one_new _ _ _) (by simp [Value.oneCell']) (by unfold maxLen; omega) (by omega) (by simp; omega) ?_)
            intro v2 wf hown2 hgrow2 hnil2 hat2
            have HQf := Lib.hid ((HQd.out.below ((Below.refl _ _).alloc (Nat.le_refl _) (.cells #[.int .i64 tt] 3))).row_push hown2 hgrow2 (by simpa using hat2))
            have HBf := Lib.hid ((HBd.out.alloc hbw2 (.cells #[.int .i64 tt] 3)).grown hgrow2 (by simp; omega) (λ g e => (HQd.out.row.lt g e).1))
            rw [HTt.out, <- rowI_succ] at HQf
            clear hown2 hgrow2 hnil2 hat2 hd
            go_wp2_with fail
            go_roundw
            case rel => exact ⟨k + 1, by go_num, by omega, HBf, by rw [<- HLp.out]; exact HQf⟩
            case measure => simp [intOf]; omega
        . obtain rfl : k = 3 := by omega
          obtain ⟨-, Ar, cr, rfl⟩ := (HQ.out.row.row (by rw [rowI_length]; omega)).row.ints_shape
          obtain ⟨lq, hlq⟩ : ∃ lq, lq = ordI 0 G (3 * i + 3) := ⟨_, rfl⟩
          rw [<- hlq] at HQ
          have HLq := Lib.hid hlq
          have hln : lq.length <= M := by rw [hlq, ordI_length]; exact (HKeys.out _).2
          clear hlq
          obtain ⟨-, Aq, cq, rfl⟩ := (HQ.out.one.ord.row (by omega)).row.ints_shape
          have hax := HA.out p hpn
          have hbx := HA'.out q hqn
          obtain ⟨xa, hxa⟩ : ∃ xa, xa = a.A p := ⟨_, rfl⟩
          obtain ⟨xb, hxb⟩ : ∃ xb, xb = b.A q := ⟨_, rfl⟩
          rw [<- hxa] at hax
          rw [<- hxb] at hbx
          have HXb := Lib.hid hxb
          have g2 := (HBz.out.cell (cell_in hax)).trans hax
          have g4 := (HBz.out.cell (cell_in hbx)).trans hbx
          obtain ⟨g6, -, -, -⟩ := box2_facts HXq.out.1
          obtain ⟨g7, -, -, -⟩ := box2_facts HXq.out.2
          obtain ⟨e0, -, f0, -⟩ := box2_facts HQ.out.one.out.box
          have s1 : (p : Int) < (n : Int) := by omega
          have s2 : (0 : Int) <= (p : Int) := by omega
          have s3 : (q : Int) < (n' : Int) := by omega
          have s4 : (0 : Int) <= (q : Int) := by omega
          have hbwr : B <= wr.heap.size := Nat.le_of_lt HQ.out.one.base
          have hbl : accs.length <= 2000 := by rw [HAl.out]; omega
          obtain ⟨Aa, qa, hva⟩ := (RowO.of_owns HQ.out.one.out.acc (by omega)).row.shape
          rw [bools_length] at hva
          subst hva
          clear hax hbx hxb
          cases xa with
          | true =>
            have HXa := Lib.hid hxa
            clear hxa
            go_wp2_with (at_builtin; refine wpList_append_own_at _ rfl (.tmp 125) (.tmp 127) 24 rfl B 4 b0 (.bool false) 1 1 Tryd.underlying24 hbi hb0 hb1 hb2 rfl (by decide) _ _ _ rfl (HQ.out.one.out.acc.alloc _) ⟨wr.heap.size, 0, none⟩ 1 1 [.bool true] rfl rfl (cell_one_new _ _ _) (by simp [Value.oneCell']) (by unfold maxLen; omega) (by omega) (by simp; omega) ?_)
            intro v' w9 hown' hgrow hnil hat
            obtain ⟨ga, cpa, rfl⟩ := own_succ hown'
            obtain ⟨⟨z0, z1⟩, z2, HQ9⟩ := (HQ.out.below ((Below.refl _ _).alloc (Nat.le_refl _) (.cells #[.bool true] 4))).acc_push hown' hgrow
            have HB9 := Lib.hid (((HBq.out.alloc hbwr (.cells #[.bool true] 4)).grown hgrow (by simp; omega) (λ g e => (HQ.out.one.out.acc.lt g e).1)).setCell (p := ⟨B, 0, none⟩) (Nat.le_refl _) (.slice (some ⟨ga, 0, none⟩) (accs.length + 1) cpa))
            have HQ9 := Lib.hid HQ9
            obtain ⟨W9, hW9⟩ : ∃ W9, W9 = w9.setCell ⟨B, 0, none⟩ (.slice (some ⟨ga, 0, none⟩) (accs.length + 1) cpa) := ⟨_, rfl⟩
            rw [<- hW9] at HQ9 HB9
            clear hown' hgrow hnil hat
            go_upto_region 23 with fail
            rw [<- hW9]
            clear hW9 z1 z2 e0 f0
            have HA1 : Hid (accs ++ [true] = (List.range (i + 1)).map λ j => (prd a b f).A (keyI 0 G j)) := Lib.hid (by rw [List.range_succ, List.map_append, HAc.out.1, List.map_cons, List.map_nil, <- HXx.out, HAd.out, <- HPq.out.1, <- HPq.out.2, <- HXa.out, <- HXb.out, HF.out]; simp)
            rw [HA1.out] at HQ9
            clear HA1
            obtain ⟨e1, f1⟩ := (⟨(box2_facts HQ9.out.one.out.box).2.1, (box2_facts HQ9.out.one.out.box).2.2.2⟩ : W9.cell? ⟨B, 1, none⟩ = some vn2 /\ W9.frozen? ⟨B, 1, none⟩ = false)
            have hbw5 : B <= W9.heap.size := Nat.le_of_lt HQ9.out.one.base
            go_wp2_with (at_builtin; refine wpList_append_own_at _ rfl (.tmp 131) (.tmp 133) 25 rfl B 53 r0 (.slice none 0 0) 1 24 Tryd.underlying25 hri hr0 hr1 hr2 rfl (by decide) _ _ _ rfl (HQ9.out.one.out.nxt.alloc _) ⟨W9.heap.size, 0, none⟩ 1 1 [.slice Ar (rowI 0 G i 3).length cr] rfl rfl (cell_one_new _ _ _) (by simp [Value.oneCell']) (by unfold maxLen; omega) (by omega) (by simp; omega) ?_)
            intro v2 wa hown2 hgrow2 hnil2 hat2
            obtain ⟨gn, capn, rfl⟩ := own_succ hown2
            have HQa := HQ9.out.below ((Below.refl _ _).alloc (Nat.le_refl _) (.cells #[.slice Ar (rowI 0 G i 3).length cr] 53))
            obtain ⟨⟨z0, z1⟩, z2, HQb⟩ := HQa.nxt_push (vn' := .slice (some ⟨gn, 0, none⟩) (i + 1) capn) (by rw [rowI_length]; omega) (by rw [hus]; exact hown2) hgrow2
            have HBb := Lib.hid (((HB9.out.alloc hbw5 (.cells #[.slice Ar (rowI 0 G i 3).length cr] 53)).grown hgrow2 (by simp; omega) (λ g e => (HQ9.out.one.out.nxt.lt g e).1)).setCell (p := ⟨B, 1, none⟩) (Nat.le_refl _) (.slice (some ⟨gn, 0, none⟩) (i + 1) capn))
            have HQb := Lib.hid HQb
            have HON : Hid (∀ j, j < i + 1 -> j < (ords 0 G (3 * j)).length) := Lib.hid (λ j hj => by
              rcases Nat.lt_or_eq_of_le (Nat.le_of_lt_succ hj) with h | h
              . exact hon.out j h
              . rw [h]; exact hi1)
            have HR1 : Hid (rss ++ [ints (rowI 0 G i 3)] = (List.range (i + 1)).map λ j => ints (rowI 0 G j 3)) := Lib.hid (by rw [List.range_succ, List.map_append, HAc.out.2]; rfl)
            have hul : (us ++ [Value.slice Ar (rowI 0 G i 3).length cr]).length = i + 1 := by simp [hus]
            rw [HR1.out] at HQb
            have HUl := Lib.hid hul
            clear hown2 hgrow2 hnil2 hat2 HQa hul
            go_wp2_with fail
            go_roundw
            case rel => exact ⟨i + 1, _, _, us ++ [Value.slice Ar (rowI 0 G i 3).length cr], _, by go_num, by omega, HUl.out, HBb, HON, by rw [show 3 * (i + 1) = 3 * i + 3 by omega, <- HLq.out]; exact HQb⟩
            case measure => simp [intOf]; omega
          | false =>
            have HXa := Lib.hid hxa
            clear hxa
            go_wp2_with (at_builtin; refine wpList_append_own_at _ rfl (.tmp 125) (.tmp 127) 24 rfl B 4 b0 (.bool false) 1 1 Tryd.underlying24 hbi hb0 hb1 hb2 rfl (by decide) _ _ _ rfl (HQ.out.one.out.acc.alloc _) ⟨wr.heap.size, 0, none⟩ 1 1 [.bool xb] rfl rfl (cell_one_new _ _ _) (by simp [Value.oneCell']) (by unfold maxLen; omega) (by omega) (by simp; omega) ?_)
            intro v' w9 hown' hgrow hnil hat
            obtain ⟨ga, cpa, rfl⟩ := own_succ hown'
            obtain ⟨⟨z0, z1⟩, z2, HQ9⟩ := (HQ.out.below ((Below.refl _ _).alloc (Nat.le_refl _) (.cells #[.bool xb] 4))).acc_push hown' hgrow
            have HB9 := Lib.hid (((HBq.out.alloc hbwr (.cells #[.bool xb] 4)).grown hgrow (by simp; omega) (λ g e => (HQ.out.one.out.acc.lt g e).1)).setCell (p := ⟨B, 0, none⟩) (Nat.le_refl _) (.slice (some ⟨ga, 0, none⟩) (accs.length + 1) cpa))
            have HQ9 := Lib.hid HQ9
            obtain ⟨W9, hW9⟩ : ∃ W9, W9 = w9.setCell ⟨B, 0, none⟩ (.slice (some ⟨ga, 0, none⟩) (accs.length + 1) cpa) := ⟨_, rfl⟩
            rw [<- hW9] at HQ9 HB9
            clear hown' hgrow hnil hat
            go_upto_region 23 with fail
            rw [<- hW9]
            clear hW9 z1 z2 e0 f0
            have HA1 : Hid (accs ++ [xb] = (List.range (i + 1)).map λ j => (prd a b f).A (keyI 0 G j)) := Lib.hid (by rw [List.range_succ, List.map_append, HAc.out.1, List.map_cons, List.map_nil, <- HXx.out, HAd.out, <- HPq.out.1, <- HPq.out.2, <- HXa.out, <- HXb.out, HF.out]; simp)
            rw [HA1.out] at HQ9
            clear HA1
            obtain ⟨e1, f1⟩ := (⟨(box2_facts HQ9.out.one.out.box).2.1, (box2_facts HQ9.out.one.out.box).2.2.2⟩ : W9.cell? ⟨B, 1, none⟩ = some vn2 /\ W9.frozen? ⟨B, 1, none⟩ = false)
            have hbw5 : B <= W9.heap.size := Nat.le_of_lt HQ9.out.one.base
            go_wp2_with (at_builtin; refine wpList_append_own_at _ rfl (.tmp 131) (.tmp 133) 25 rfl B 53 r0 (.slice none 0 0) 1 24 Tryd.underlying25 hri hr0 hr1 hr2 rfl (by decide) _ _ _ rfl (HQ9.out.one.out.nxt.alloc _) ⟨W9.heap.size, 0, none⟩ 1 1 [.slice Ar (rowI 0 G i 3).length cr] rfl rfl (cell_one_new _ _ _) (by simp [Value.oneCell']) (by unfold maxLen; omega) (by omega) (by simp; omega) ?_)
            intro v2 wa hown2 hgrow2 hnil2 hat2
            obtain ⟨gn, capn, rfl⟩ := own_succ hown2
            have HQa := HQ9.out.below ((Below.refl _ _).alloc (Nat.le_refl _) (.cells #[.slice Ar (rowI 0 G i 3).length cr] 53))
            obtain ⟨⟨z0, z1⟩, z2, HQb⟩ := HQa.nxt_push (vn' := .slice (some ⟨gn, 0, none⟩) (i + 1) capn) (by rw [rowI_length]; omega) (by rw [hus]; exact hown2) hgrow2
            have HBb := Lib.hid (((HB9.out.alloc hbw5 (.cells #[.slice Ar (rowI 0 G i 3).length cr] 53)).grown hgrow2 (by simp; omega) (λ g e => (HQ9.out.one.out.nxt.lt g e).1)).setCell (p := ⟨B, 1, none⟩) (Nat.le_refl _) (.slice (some ⟨gn, 0, none⟩) (i + 1) capn))
            have HQb := Lib.hid HQb
            have HON : Hid (∀ j, j < i + 1 -> j < (ords 0 G (3 * j)).length) := Lib.hid (λ j hj => by
              rcases Nat.lt_or_eq_of_le (Nat.le_of_lt_succ hj) with h | h
              . exact hon.out j h
              . rw [h]; exact hi1)
            have HR1 : Hid (rss ++ [ints (rowI 0 G i 3)] = (List.range (i + 1)).map λ j => ints (rowI 0 G j 3)) := Lib.hid (by rw [List.range_succ, List.map_append, HAc.out.2]; rfl)
            have hul : (us ++ [Value.slice Ar (rowI 0 G i 3).length cr]).length = i + 1 := by simp [hus]
            rw [HR1.out] at HQb
            have HUl := Lib.hid hul
            clear hown2 hgrow2 hnil2 hat2 HQa hul
            go_wp2_with fail
            go_roundw
            case rel => exact ⟨i + 1, _, _, us ++ [Value.slice Ar (rowI 0 G i 3).length cr], _, by go_num, by omega, HUl.out, HBb, HON, by rw [show 3 * (i + 1) = 3 * i + 3 by omega, <- HLq.out]; exact HQb⟩
            case measure => simp [intOf]; omega
    . have hE := ends_intro (s0 := 0) (g := G) (N := i) hon.out (by rw [<- HLo.out]; exact hlt)
      have hEp : Ends 0 (prd a b f).T i := by rw [<- HMe.out.2]; exact hE
      obtain ⟨m1, m2, m3⟩ := own_found HPw.out hEp
      rw [<- HMe.out.2] at m1 m2
      obtain ⟨f1, f2⟩ := ends_fields hE (prd a b f).A
      have HM2 := Lib.hid m2
      have hbl : accs.length <= 2000 := by rw [HAl.out]; omega
      have HD : Hid (DfaO wr (λ g => B <= g /\ g < wr.heap.size) va2 vn2 (fieldsOf (found 0 G (prd a b f).A i))) := Lib.hid (ho.out.out.whole (by rw [HAc.out.1]; exact f1) (by
        rw [HAc.out.2]
        show intss (nxtOf (found 0 G (prd a b f).A i)) = _
        rw [f2]
        simp [intss]) (by omega) (by omega))
      have hva := (RowO.of_owns ho.out.out.acc (by omega)).row.shape
      have hvn := (RowO.of_owns ho.out.out.nxt (by omega)).row.shape
      obtain ⟨A1, q1, rfl⟩ := hva
      obtain ⟨A2, q2, hvn2⟩ := hvn
      rw [hus] at hvn2
      subst hvn2
      have HFit := Lib.hid (specFits_any _ _ (found 0 G (prd a b f).A i) _ wr m1 (by show i <= 2000; omega) HD.out.dfa)
      obtain ⟨e0, e1, -, -⟩ := box2_facts ho.out.out.box
      have HBW := Lib.hid (HB2.out.trans (HBr.out.mono (by rw [HBe.out]; exact HB2.out.size)))
      have hd : decide ((i : Int) < (lo.length : Int)) = false := by simp; omega
      clear m1 m2 m3 f1 f2 hE hEp
      go_wp2_with fail
      go_at_call 73
      refine HFit.out.mono ?_
      rintro e w3 ⟨m, m1, m2, hcd⟩
      have HM := Lib.hid (And.intro m1 (m2.trans HM2.out))
      obtain ⟨C1, p1, C2, p2, rfl, hoo, hb3⟩ := hcd.shape
      obtain ⟨x1, hx1⟩ : ∃ x, x = (fitD m).acc.length := ⟨_, rfl⟩
      obtain ⟨x2, hx2⟩ : ∃ x, x = (fitD m).nxt.length := ⟨_, rfl⟩
      obtain ⟨ok, hok⟩ : ∃ b, b = decide (m.n <= 40) := ⟨_, rfl⟩
      rw [<- hx1, <- hx2] at hoo ⊢
      rw [<- hok]
      have HOk := Lib.hid hok
      have HO3 := Lib.hid hoo
      have HB3 := Lib.hid (HBW.out.trans (hb3.mono HBW.out.size))
      have hz2 := HBW.out.size
      have hz3 := hb3.size
      have hyl := blk_lt HY.out
      obtain ⟨W4, hW4⟩ : ∃ W4, W4 = w3.alloc (.cells #[.slice C1 x1 p1, .slice C2 x2 p2] 27) := ⟨_, rfl⟩
      have HX4 : Hid (W4.heap[w3.heap.size]? = some (.cells #[.slice C1 x1 p1, .slice C2 x2 p2] 27 (0, 0)) /\ Below w3.heap.size w3 W4) := Lib.hid (by
        rw [hW4]
        exact ⟨heap_alloc_new w3 _, (Below.refl _ _).alloc (Nat.le_refl _) _⟩)
      obtain ⟨g0, g1, -, -⟩ := box2_facts HX4.out.1
      obtain ⟨c0, c1, k0, k1⟩ := box2_facts ((HX4.out.2.block _ (by omega)).trans ((HB3.out.block _ hyl).trans HY.out))
      obtain ⟨hcl, hsz, hot, hBl⟩ := put2 (k := .slice C1 x1 p1) (l := .slice C2 x2 p2) c0 c1
      obtain ⟨hr0, hr1'⟩ := hcl
      have HOt := Lib.hid (And.intro hsz (And.intro hot hBl))
      have HW4 := Lib.hid hW4
      rw [hW4] at g0 g1 c0 c1 k0 k1 hr0 hr1'
      clear hsz hot hBl hoo hb3 hcd hx1 hx2 m1 m2 hW4 hok e0 e1 hd
      go_wp2_with fail
      refine bodyPost_ret (v := .tuple #[.agg #[.slice C1 x1 p1, .slice C2 x2 p2], .bool ok]) (by simp [results, Tryd.results49, go_sem, hr0, hr1']) rfl ?_
      rw [<- HW4.out]
      have h0 := HB0.out.size
      have hz4 := HX4.out.2.size
      refine ⟨m, HM.out.1, HM.out.2, ?_⟩
      rw [<- HOk.out]
      exact ⟨_, _, rfl, HO3.out.mono (λ g hg => (HOt.out.2.1 g (by have := hg.1; omega)).trans (HX4.out.2.block g hg.2)) (λ g hg => ⟨by have := hg.1; omega, by rw [HOt.out.1]; have := hg.2; omega⟩) (by rw [HOt.out.1]; exact hz4), HOt.out.2.2 _ _ (HB0.out.trans ((HB3.out.trans (HX4.out.2.mono HB3.out.size)).mono h0)) (by omega)⟩
end Go.Proofs.YtiijlpmdnokjfaaDoor
namespace Go.Proofs.YtiijlpmdnokjfaaDoor
open Go.RowKit
theorem specPrd_and (va vn va' vn' : Value) (d d' : Dx) (S S' : Nat -> Prop) (w : World) (h : DfaV w S va vn d) (h' : DfaV w S' va' vn' d') (hv : validD d = true) (hv' : validD d' = true) :
    Calls Tryd.prog 49 #[.agg #[va, vn], .agg #[va', vn'], .int .i64 7] w (PrdPostS (auD d) (auD d') (λ x y => x && y) w) := by
  obtain ⟨i0, hi, hz0, hz1, hz2⟩ := info_parts intInfo
  obtain ⟨b0, hbi, hb0, hb1, hb2⟩ := info_parts boolInfo
  obtain ⟨r0, hri, hr0, hr1, hr2⟩ := info_parts rowInfo
  obtain ⟨hw, hn40, hnn, hl, ad, cc, ad', cc', rfl, rfl, hA, hT⟩ := h.au hv
  obtain ⟨hw', hn40', hnn', hl', bd, ec, bd', ec', rfl, rfl, hA', hT'⟩ := h'.au hv'
  obtain ⟨n, hne⟩ : ∃ n, n = d.acc.length := ⟨_, rfl⟩
  obtain ⟨n', hne'⟩ : ∃ n', n' = d'.acc.length := ⟨_, rfl⟩
  rw [<- hne] at hA hT hnn
  rw [<- hne'] at hA' hT' hnn'
  obtain ⟨W0, hW0⟩ : ∃ W0, W0 = ((w.alloc (.cells #[.slice (some ad) n cc, .slice (some ad') n cc'] 27)).alloc (.cells #[.slice (some bd) n' ec, .slice (some bd') n' ec'] 27)).alloc (.cells #[.slice none 0 0, .slice none 0 0] 27) := ⟨_, rfl⟩
  have h3 := three_box' w (.cells #[.slice (some ad) n cc, .slice (some ad') n cc'] 27) (.cells #[.slice (some bd) n' ec, .slice (some bd') n' ec'] 27) (.cells #[.slice none 0 0, .slice none 0 0] 27)
  rw [<- hW0] at h3
  have HB0 : Hid (Below w.heap.size w W0) := Lib.hid h3.2.2.2
  have HX := Lib.hid h3.1
  have HX' := Lib.hid h3.2.1
  have HY := Lib.hid h3.2.2.1
  clear h3
  have HV := Lib.hid (specValidD_any (.slice (some ad) n cc) (.slice (some ad') n cc') d S W0 (by rw [hne]; exact h.kept HB0.out))
  have HV' := Lib.hid (λ (V : World) (hV : Below w.heap.size w V) => specValidD_any (.slice (some bd) n' ec) (.slice (some bd') n' ec') d' S' V (by rw [hne']; exact h'.kept hV))
  rw [hv] at HV
  rw [hv'] at HV'
  obtain ⟨f, hf⟩ : ∃ f : Bool -> Bool -> Bool, f = (λ x y => x && y) := ⟨_, rfl⟩
  obtain ⟨a, ha⟩ : ∃ a, a = auD d := ⟨_, rfl⟩
  obtain ⟨b, hb⟩ : ∃ b, b = auD d' := ⟨_, rfl⟩
  rw [<- ha] at hw hnn hA hT hn40
  rw [<- hb] at hw' hnn' hA' hT' hn40'
  rw [<- hne, <- hne', <- ha, <- hb, <- hf]
  obtain ⟨M, hMe⟩ : ∃ M, M = n * n' := ⟨_, rfl⟩
  have hM : M <= 1600 := by
    have := Nat.mul_le_mul (show n <= 40 by omega) (show n' <= 40 by omega)
    omega
  obtain ⟨G, hG⟩ : ∃ G, G = (prd a b f).T := ⟨_, rfl⟩
  have HGd : Hid (∀ x k, G x k = a.T (x / n') k * n' + b.T (x % n') k) := Lib.hid (λ x k => by rw [hG, <- hnn']; rfl)
  have HAd : Hid (∀ x, (prd a b f).A x = f (a.A (x / n')) (b.A (x % n'))) := Lib.hid (λ x => by rw [<- hnn']; rfl)
  have HPw := Lib.hid (prd_wf f hw hw')
  have HKeys : Hid (∀ t, (∀ x ∈ ords 0 G t, x < M) /\ (ords 0 G t).length <= M) := Lib.hid (λ t => by
    have h1 := own_keys HPw.out t
    rw [hG, hMe, <- hnn, <- hnn']
    exact h1)
  have HA : Hid (∀ q, q < n -> w.cell? (ad.add q) = some (.bool (a.A q))) := Lib.hid hA
  have HA' : Hid (∀ q, q < n' -> w.cell? (bd.add q) = some (.bool (b.A q))) := Lib.hid hA'
  have HT := Lib.hid hT
  have HT' := Lib.hid hT'
  have HWf : Hid (∀ x k, x < n -> k < 3 -> a.T x k < n) := Lib.hid (by rw [<- hnn]; exact hw.2)
  have HWf' : Hid (∀ x k, x < n' -> k < 3 -> b.T x k < n') := Lib.hid (by rw [<- hnn']; exact hw'.2)
  have hn0 : 0 < n := by have := hw.1; omega
  have hn0' : 0 < n' := by have := hw'.1; omega
  have HMe := Lib.hid (And.intro hMe hG)
  have HF := Lib.hid hf
  have hnl : n <= 40 := by omega
  have hnl' : n' <= 40 := by omega
  obtain ⟨hc0, hc1, -, -⟩ := box2_facts HX.out
  obtain ⟨hd0, hd1, -, -⟩ := box2_facts HX'.out
  rw [hW0] at hc0 hc1 hd0 hd1
  clear h h' hw hw' hA hA' hT hT' hne hne' hMe hG hf ha hb hnn hnn' hl hl' hv hv' hn40 hn40'
  go_enter Tryd.func49, Tryd.ntmps49
  go_wp2_with fail
  go_at_call 13
  rw [<- hW0]
  refine HV.out.mono ?_
  rintro e1 w1 ⟨rfl, hb1⟩
  have HB1 := Lib.hid hb1
  clear hc0 hc1 hd0 hd1 hW0 hb1
  obtain ⟨hd0, hd1, -, -⟩ := box2_facts ((HB1.out.block _ (blk_lt HX'.out)).trans HX'.out)
  go_wp2_with fail
  go_at_call 13
  refine (HV'.out w1 (HB0.out.trans (HB1.out.mono HB0.out.size))).mono ?_
  rintro e2 w2 ⟨rfl, hb2⟩
  have HB2 := Lib.hid (HB1.out.trans (hb2.mono HB1.out.size))
  clear hd0 hd1 hb2
  obtain ⟨hd0, hd1, -, -⟩ := box2_facts ((HB2.out.block _ (blk_lt HX'.out)).trans HX'.out)
  obtain ⟨HS, HSB⟩ := One.start2 w2 0
  have HSt := Lib.hid HS
  have HStB := Lib.hid HSB
  clear HS HSB
  go_wp2_with fail
  obtain ⟨B, hBe⟩ : ∃ B, B = w2.heap.size := ⟨_, rfl⟩
  rw [<- hBe] at HSt HStB ⊢
  have HBe := Lib.hid hBe
  have HE0 : Hid (ordI 0 G (3 * 0) = [0]) := Lib.hid rfl
  go_loopw [10, 11] (λ vo iv wr => ∃ (i : Nat) (va2 vn2 : Value) (us : List Value) (K : Nat -> Nat -> Prop), iv = .int .i64 i /\ i <= M /\ us.length = i /\ Hid (Below B w2 wr) /\ Hid (∀ j, j < i -> j < (ords 0 G (3 * j)).length) /\ Hid (One B wr B va2 vn2 ((List.range i).map λ j => (prd a b f).A (keyI 0 G j)) us ((List.range i).map λ j => ints (rowI 0 G j 3)) K vo (ordI 0 G (3 * i)))) (λ _ iv _ => M + 1 - (intOf iv).toNat)
  case atStart => exact ⟨0, _, _, [], _, rfl, Nat.zero_le _, rfl, HStB, Lib.hid (λ j hj => absurd hj (Nat.not_lt_zero _)), by rw [HE0.out]; exact HSt⟩
  clear HSt HStB hBe hd0 hd1
  case round =>
    obtain ⟨i, va2, vn2, us, K, rfl, hin, hus, HBr, hon, ho⟩ := hrel
    obtain ⟨accs, hacc⟩ : ∃ accs, accs = (List.range i).map λ j => (prd a b f).A (keyI 0 G j) := ⟨_, rfl⟩
    obtain ⟨rss, hrss⟩ : ∃ rss, rss = (List.range i).map λ j => ints (rowI 0 G j 3) := ⟨_, rfl⟩
    obtain ⟨lo, hlo⟩ : ∃ lo, lo = ordI 0 G (3 * i) := ⟨_, rfl⟩
    rw [<- hacc, <- hrss, <- hlo] at ho
    have HAc := Lib.hid (And.intro hacc hrss)
    have hll : lo.length <= M := by rw [hlo, ordI_length]; exact (HKeys.out _).2
    have HLo := Lib.hid hlo
    have hal : accs.length = i := by rw [hacc]; simp
    have HAl := Lib.hid hal
    clear hacc hrss hlo hal
    obtain ⟨-, Ao, co, rfl⟩ := (ho.out.ord.row (by omega)).row.ints_shape
    have HBw := Lib.hid (HB0.out.trans ((HB2.out.trans (HBr.out.mono (by rw [HBe.out]; exact HB2.out.size))).mono HB0.out.size))
    have hX1 : Hid (wr.heap[w.heap.size]? = some (.cells #[.slice (some ad) n cc, .slice (some ad') n cc'] 27 (0, 0)) /\ wr.heap[w.heap.size + 1]? = some (.cells #[.slice (some bd) n' ec, .slice (some bd') n' ec'] 27 (0, 0))) := Lib.hid (by
      have hb3 := HB2.out.trans (HBr.out.mono (by rw [HBe.out]; exact HB2.out.size))
      exact ⟨(hb3.block _ (blk_lt HX.out)).trans HX.out, (hb3.block _ (blk_lt HX'.out)).trans HX'.out⟩)
    by_cases hlt : i < lo.length
    . have hi1 : i < (ords 0 G (3 * i)).length := by rw [<- ordI_length, <- HLo.out]; exact hlt
      have hxM : keyI 0 G i < M := (HKeys.out (3 * i)).1 _ (getD_mem hi1)
      obtain ⟨-, st1⟩ := ordI_at (s0 := 0) (g := G) (t := 3 * i) hi1 (by omega)
      obtain ⟨x, hx⟩ : ∃ x, x = keyI 0 G i := ⟨_, rfl⟩
      rw [<- hx] at hxM
      rw [<- hx, <- HLo.out] at st1
      have HXx := Lib.hid hx
      obtain ⟨p, hp⟩ : ∃ p, p = x / n' := ⟨_, rfl⟩
      obtain ⟨q, hq⟩ : ∃ q, q = x % n' := ⟨_, rfl⟩
      have hpn : p < n := by rw [hp]; exact div_lt (by rw [<- HMe.out.1]; exact hxM)
      have hqn : q < n' := by rw [hq]; exact Nat.mod_lt _ hn0'
      have hdv : (x : Int) / (n' : Int) = (p : Int) := by rw [hp]; simp
      have hmd : (x : Int) % (n' : Int) = (q : Int) := by rw [hq]; simp
      have HPq := Lib.hid (And.intro hp hq)
      obtain ⟨ado, ca, hvo, hco⟩ := Two.cell_row ho.out.ord (by omega) hlt
      injection hvo with hvo1 _ hvo2
      subst hvo1
      subst hvo2
      rw [st1] at hco
      have hd : decide ((i : Int) < (lo.length : Int)) = true := by simp; omega
      have s1 : (i : Int) < (lo.length : Int) := by omega
      have s2 : (0 : Int) <= (i : Int) := by omega
      have s3 : (0 : Int) < (n' : Int) := by omega
      have s4 : (0 : Int) <= (x : Int) := by omega
      have s5 : ((n' : Int) == 0) = false := by simp; omega
      have s6 : (x : Int) <= 1600 := by omega
      have HTwo := Lib.hid ho.out.two
      have HTw0 : Hid (Two B (wr.alloc (.cells #[] 3)) B va2 vn2 accs us rss K (.slice (some ado) lo.length co) (ordI 0 G (3 * i + 0)) (.slice (some ⟨wr.heap.size, 0, none⟩) 0 0) (rowI 0 G i 0)) := by
        rw [show 3 * i + 0 = 3 * i from rfl, <- HLo.out]
        exact HTwo
      clear HTwo st1 hx hp hq
      have HBa := Lib.hid (HBr.out.alloc (Nat.le_of_lt ho.out.base) (.cells #[] 3))
      go_upto_region 13 with fail
      clear hd hco hdv hmd s1 s2 s3 s4 s5 s6 ho
      go_loopw [10, 14, 15] (λ vo vr kv wq => ∃ k : Nat, kv = .int .i64 k /\ k <= 3 /\ Hid (Below B w2 wq) /\ Hid (Two B wq B va2 vn2 accs us rss K vo (ordI 0 G (3 * i + k)) vr (rowI 0 G i k))) (λ _ _ kv _ => 3 - (intOf kv).toNat)
      case atStart => exact ⟨0, rfl, Nat.zero_le _, HBa, HTw0⟩
      case round =>
        obtain ⟨k, rfl, hk, HBq, HQ⟩ := hrel
        clear HTw0 HBa
        have HBz := Lib.hid (HB0.out.trans ((HB2.out.trans (HBq.out.mono (by rw [HBe.out]; exact HB2.out.size))).mono HB0.out.size))
        have HXq : Hid (wr.heap[w.heap.size]? = some (.cells #[.slice (some ad) n cc, .slice (some ad') n cc'] 27 (0, 0)) /\ wr.heap[w.heap.size + 1]? = some (.cells #[.slice (some bd) n' ec, .slice (some bd') n' ec'] 27 (0, 0))) := Lib.hid (by
          have hb3 := HB2.out.trans (HBq.out.mono (by rw [HBe.out]; exact HB2.out.size))
          exact ⟨(hb3.block _ (blk_lt HX.out)).trans HX.out, (hb3.block _ (blk_lt HX'.out)).trans HX'.out⟩)
        by_cases hk3 : k < 3
        . obtain ⟨-, st2, st3⟩ := ordI_step (s0 := 0) (g := G) hi1 hk3
          have hln : (ordI 0 G (3 * i + k)).length <= M := by rw [ordI_length]; exact (HKeys.out _).2
          have hln' : (ordI 0 G (3 * i + (k + 1))).length <= M := by rw [ordI_length]; exact (HKeys.out _).2
          obtain ⟨lq, hlq⟩ : ∃ lq, lq = ordI 0 G (3 * i + k) := ⟨_, rfl⟩
          obtain ⟨lp, hlp⟩ : ∃ lp, lp = ordI 0 G (3 * i + (k + 1)) := ⟨_, rfl⟩
          rw [<- HXx.out, <- hlq, <- hlp] at st2
          rw [<- HXx.out, <- hlp] at st3
          rw [<- hlq] at hln HQ
          rw [<- hlp] at hln'
          have HLp := Lib.hid hlp
          clear hlq hlp
          obtain ⟨-, Aq, cq, rfl⟩ := (HQ.out.one.ord.row (by omega)).row.ints_shape
          obtain ⟨a2, c2, hr2, hr3⟩ := HT.out p hpn
          obtain ⟨b2, e2, hs2, hs3⟩ := HT'.out q hqn
          have hr4 := hr3 k hk3
          have hs4 := hs3 k hk3
          have hta := HWf.out p k hpn hk3
          have htb := HWf'.out q k hqn hk3
          obtain ⟨y, hy⟩ : ∃ y, y = G x k := ⟨_, rfl⟩
          have hyd : y = a.T p k * n' + b.T q k := by rw [hy, HGd.out, <- HPq.out.1, <- HPq.out.2]
          rw [<- hy] at st2 st3
          obtain ⟨ta, hta'⟩ : ∃ ta, ta = a.T p k := ⟨_, rfl⟩
          obtain ⟨tb, htb'⟩ : ∃ tb, tb = b.T q k := ⟨_, rfl⟩
          rw [<- hta'] at hta hr4 hyd
          rw [<- htb'] at htb hs4 hyd
          obtain ⟨m, hm⟩ : ∃ m, m = ta * n' := ⟨_, rfl⟩
          rw [<- hm] at hyd
          have hm0 : m <= 1600 := by
            have := Nat.mul_le_mul (show ta <= 40 by omega) (show n' <= 40 by omega)
            omega
          have hw0 : (ta : Int) * (n' : Int) = (m : Int) := by rw [hm]; simp
          have hw1 : IntKind.i64.wrap ((ta : Int) * (n' : Int)) = (m : Int) := by rw [hw0]; exact IntWalk.i64_in _ (by omega)
          have hw2 : IntKind.i64.wrap ((m : Int) + (tb : Int)) = (y : Int) := by rw [hyd]; exact (IntWalk.i64_in _ (by omega)).trans (by omega)
          obtain ⟨z, hz⟩ : ∃ z, z = findV lq (y : Int) := ⟨_, rfl⟩
          rw [<- hz] at st2
          have HS2 := Lib.hid st2
          obtain ⟨tt, htt⟩ : ∃ tt : Int, tt = (toI 0 G i k : Int) := ⟨_, rfl⟩
          rw [<- htt] at st3
          have HTt := Lib.hid htt
          have HS3 := Lib.hid st3
          have hrl : (rowI 0 G i k).length <= 3 := by rw [rowI_length]; omega
          have HFind := Lib.hid (λ V (hV : Below wr.heap.size wr V) => specFind_below (y : Int) HQ.out.one.ord (by omega) hV)
          rw [<- hz] at HFind
          have g2 := (HBz.out.cell (cell_in hr2)).trans hr2
          have g3 := (HBz.out.cell (cell_in hr4)).trans hr4
          have g4 := (HBz.out.cell (cell_in hs2)).trans hs2
          have g5 := (HBz.out.cell (cell_in hs4)).trans hs4
          obtain ⟨-, g6, -, -⟩ := box2_facts HXq.out.1
          obtain ⟨-, g7, -, -⟩ := box2_facts HXq.out.2
          have s1 : (p : Int) < (n : Int) := by omega
          have s2 : (0 : Int) <= (p : Int) := by omega
          have s3 : (q : Int) < (n' : Int) := by omega
          have s4 : (0 : Int) <= (q : Int) := by omega
          have s7 : (k : Int) < 3 := by omega
          have s8 : (0 : Int) <= (k : Int) := by omega
          have hd : decide ((k : Int) < 3) = true := by simp; omega
          clear htt st2 st3 hr2 hr3 hr4 hs2 hs3 hs4 hy hyd hta' htb' hm hz hw0
          go_wp2_with fail
          go_quiet (fail)
          clear g2 g3 g4 g5 g6 g7 hw1 hw2
          go_wp2_with fail
          go_at_call 39
          refine (HFind.out _ (below_draws (Below.refl _ _) _)).mono ?_
          rintro e w8 ⟨rfl, hb8⟩
          have HB8 := Lib.hid (HBq.out.grown (grown_of hb8) (Nat.le_of_lt HQ.out.one.base) (λ g e => by cases e))
          have HQ8 := Lib.hid (HQ.out.below hb8)
          clear hb8 hd
          by_cases hzz : z < 0
          . have hd : decide (z < 0) = true := by simp [hzz]
            have hap := HS2.out.1 hzz
            have HAp := Lib.hid hap
            have hbw : B <= w8.heap.size := Nat.le_of_lt HQ8.out.one.base
            clear hap hzz
            go_wp2_with (at_builtin; refine wpList_append_own_at _ rfl (.tmp 88) (.tmp 90) 53 rfl B 3 i0 (.int .i64 0) 1 8 Tryd.underlying53 hi hz0 hz1 hz2 rfl (by decide) _ _ _ rfl (HQ8.out.one.ord.alloc _) ⟨w8.heap.size, 0, none⟩ 1 1 [.int .i64 (y : Int)] rfl rfl (cell_one_new _ _ _) (by simp [Value.oneCell']) (by unfold maxLen; omega) (by omega) (by simp; omega) ?_)
            intro v' w9 hown' hgrow hnil hat
            have HQ9 := Lib.hid ((HQ8.out.below ((Below.refl _ _).alloc (Nat.le_refl _) (.cells #[.int .i64 (y : Int)] 3))).ord_push hown' hgrow (by simpa using hat))
            have HB9 := Lib.hid ((HB8.out.alloc hbw (.cells #[.int .i64 (y : Int)] 3)).grown hgrow (by simp; omega) (λ g e => (HQ8.out.one.ord.lt g e).1))
            rw [<- HAp.out] at HQ9
            clear hown' hgrow hnil hat hd
            have HF2 := Lib.hid (λ V (hV : Below w9.heap.size w9 V) => specFind_below (y : Int) HQ9.out.one.ord (by omega) hV)
            rw [HS3.out] at HF2
            go_wp2_with fail
            go_at_call 39
            refine (HF2.out _ (Below.refl _ _)).mono ?_
            rintro e wd ⟨rfl, hbd⟩
            have HBd := Lib.hid (HB9.out.grown (grown_of hbd) (Nat.le_of_lt HQ9.out.one.base) (λ g e => by cases e))
            have HQd := Lib.hid (HQ9.out.below hbd)
            have hbw2 : B <= wd.heap.size := Nat.le_of_lt HQd.out.one.base
            clear hbd
            go_wp2_with (at_builtin; refine wpList_append_own_at _ rfl (.tmp 92) (.tmp 96) 53 rfl B 3 i0 (.int .i64 0) 1 8 Tryd.underlying53 hi hz0 hz1 hz2 rfl (by decide) _ _ _ rfl (HQd.out.row.alloc _) ⟨wd.heap.size, 0, none⟩ 1 1 [.int .i64 tt] rfl rfl (cell_one_new _ _ _) (by simp [Value.oneCell']) (by unfold maxLen; omega) (by omega) (by simp; omega) ?_)
            intro v2 wf hown2 hgrow2 hnil2 hat2
            have HQf := Lib.hid ((HQd.out.below ((Below.refl _ _).alloc (Nat.le_refl _) (.cells #[.int .i64 tt] 3))).row_push hown2 hgrow2 (by simpa using hat2))
            have HBf := Lib.hid ((HBd.out.alloc hbw2 (.cells #[.int .i64 tt] 3)).grown hgrow2 (by simp; omega) (λ g e => (HQd.out.row.lt g e).1))
            rw [HTt.out, <- rowI_succ] at HQf
            clear hown2 hgrow2 hnil2 hat2
            go_wp2_with fail
            go_roundw
            case rel => exact ⟨k + 1, by go_num, by omega, HBf, by rw [<- HLp.out]; exact HQf⟩
            case measure => simp [intOf]; omega
          . have hd : decide (z < 0) = false := by simp; omega
            have hap := HS2.out.2 (by omega)
            subst hap
            have HQ9 := Lib.hid HQ8.out
            have HB9 := Lib.hid HB8.out
            clear hzz
            have HF2 := Lib.hid (λ V (hV : Below w8.heap.size w8 V) => specFind_below (y : Int) HQ9.out.one.ord (by omega) hV)
            rw [HS3.out] at HF2
            go_wp2_with fail
            go_at_call 39
            refine (HF2.out _ (Below.refl _ _)).mono ?_
            rintro e wd ⟨rfl, hbd⟩
            have HBd := Lib.hid (HB9.out.grown (grown_of hbd) (Nat.le_of_lt HQ9.out.one.base) (λ g e => by cases e))
            have HQd := Lib.hid (HQ9.out.below hbd)
            have hbw2 : B <= wd.heap.size := Nat.le_of_lt HQd.out.one.base
            clear hbd
            go_wp2_with (at_builtin; refine wpList_append_own_at _ rfl (.tmp 92) (.tmp 96) 53 rfl B 3 i0 (.int .i64 0) 1 8 Tryd.underlying53 hi hz0 hz1 hz2 rfl (by decide) _ _ _ rfl (HQd.out.row.alloc _) ⟨wd.heap.size, 0, none⟩ 1 1 [.int .i64 tt] rfl rfl (cell_one_new _ _ _) (by simp [Value.oneCell']) (by unfold maxLen; omega) (by omega) (by simp; omega) ?_)
            intro v2 wf hown2 hgrow2 hnil2 hat2
            have HQf := Lib.hid ((HQd.out.below ((Below.refl _ _).alloc (Nat.le_refl _) (.cells #[.int .i64 tt] 3))).row_push hown2 hgrow2 (by simpa using hat2))
            have HBf := Lib.hid ((HBd.out.alloc hbw2 (.cells #[.int .i64 tt] 3)).grown hgrow2 (by simp; omega) (λ g e => (HQd.out.row.lt g e).1))
            rw [HTt.out, <- rowI_succ] at HQf
            clear hown2 hgrow2 hnil2 hat2 hd
            go_wp2_with fail
            go_roundw
            case rel => exact ⟨k + 1, by go_num, by omega, HBf, by rw [<- HLp.out]; exact HQf⟩
            case measure => simp [intOf]; omega
        . obtain rfl : k = 3 := by omega
          obtain ⟨-, Ar, cr, rfl⟩ := (HQ.out.row.row (by rw [rowI_length]; omega)).row.ints_shape
          obtain ⟨lq, hlq⟩ : ∃ lq, lq = ordI 0 G (3 * i + 3) := ⟨_, rfl⟩
          rw [<- hlq] at HQ
          have HLq := Lib.hid hlq
          have hln : lq.length <= M := by rw [hlq, ordI_length]; exact (HKeys.out _).2
          clear hlq
          obtain ⟨-, Aq, cq, rfl⟩ := (HQ.out.one.ord.row (by omega)).row.ints_shape
          have hax := HA.out p hpn
          have hbx := HA'.out q hqn
          obtain ⟨xa, hxa⟩ : ∃ xa, xa = a.A p := ⟨_, rfl⟩
          obtain ⟨xb, hxb⟩ : ∃ xb, xb = b.A q := ⟨_, rfl⟩
          rw [<- hxa] at hax
          rw [<- hxb] at hbx
          have HXb := Lib.hid hxb
          have g2 := (HBz.out.cell (cell_in hax)).trans hax
          have g4 := (HBz.out.cell (cell_in hbx)).trans hbx
          obtain ⟨g6, -, -, -⟩ := box2_facts HXq.out.1
          obtain ⟨g7, -, -, -⟩ := box2_facts HXq.out.2
          obtain ⟨e0, -, f0, -⟩ := box2_facts HQ.out.one.out.box
          have s1 : (p : Int) < (n : Int) := by omega
          have s2 : (0 : Int) <= (p : Int) := by omega
          have s3 : (q : Int) < (n' : Int) := by omega
          have s4 : (0 : Int) <= (q : Int) := by omega
          have hbwr : B <= wr.heap.size := Nat.le_of_lt HQ.out.one.base
          have hbl : accs.length <= 2000 := by rw [HAl.out]; omega
          obtain ⟨Aa, qa, hva⟩ := (RowO.of_owns HQ.out.one.out.acc (by omega)).row.shape
          rw [bools_length] at hva
          subst hva
          clear hax hbx hxb
          cases xa with
          | true =>
            have HXa := Lib.hid hxa
            clear hxa
            go_wp2_with (at_builtin; refine wpList_append_own_at _ rfl (.tmp 125) (.tmp 127) 24 rfl B 4 b0 (.bool false) 1 1 Tryd.underlying24 hbi hb0 hb1 hb2 rfl (by decide) _ _ _ rfl (HQ.out.one.out.acc.alloc _) ⟨wr.heap.size, 0, none⟩ 1 1 [.bool xb] rfl rfl (cell_one_new _ _ _) (by simp [Value.oneCell']) (by unfold maxLen; omega) (by omega) (by simp; omega) ?_)
            intro v' w9 hown' hgrow hnil hat
            obtain ⟨ga, cpa, rfl⟩ := own_succ hown'
            obtain ⟨⟨z0, z1⟩, z2, HQ9⟩ := (HQ.out.below ((Below.refl _ _).alloc (Nat.le_refl _) (.cells #[.bool xb] 4))).acc_push hown' hgrow
            have HB9 := Lib.hid (((HBq.out.alloc hbwr (.cells #[.bool xb] 4)).grown hgrow (by simp; omega) (λ g e => (HQ.out.one.out.acc.lt g e).1)).setCell (p := ⟨B, 0, none⟩) (Nat.le_refl _) (.slice (some ⟨ga, 0, none⟩) (accs.length + 1) cpa))
            have HQ9 := Lib.hid HQ9
            obtain ⟨W9, hW9⟩ : ∃ W9, W9 = w9.setCell ⟨B, 0, none⟩ (.slice (some ⟨ga, 0, none⟩) (accs.length + 1) cpa) := ⟨_, rfl⟩
            rw [<- hW9] at HQ9 HB9
            clear hown' hgrow hnil hat
            go_upto_region 23 with fail
            rw [<- hW9]
            clear hW9 z1 z2 e0 f0
            have HA1 : Hid (accs ++ [xb] = (List.range (i + 1)).map λ j => (prd a b f).A (keyI 0 G j)) := Lib.hid (by rw [List.range_succ, List.map_append, HAc.out.1, List.map_cons, List.map_nil, <- HXx.out, HAd.out, <- HPq.out.1, <- HPq.out.2, <- HXa.out, <- HXb.out, HF.out]; simp)
            rw [HA1.out] at HQ9
            clear HA1
            obtain ⟨e1, f1⟩ := (⟨(box2_facts HQ9.out.one.out.box).2.1, (box2_facts HQ9.out.one.out.box).2.2.2⟩ : W9.cell? ⟨B, 1, none⟩ = some vn2 /\ W9.frozen? ⟨B, 1, none⟩ = false)
            have hbw5 : B <= W9.heap.size := Nat.le_of_lt HQ9.out.one.base
            go_wp2_with (at_builtin; refine wpList_append_own_at _ rfl (.tmp 131) (.tmp 133) 25 rfl B 53 r0 (.slice none 0 0) 1 24 Tryd.underlying25 hri hr0 hr1 hr2 rfl (by decide) _ _ _ rfl (HQ9.out.one.out.nxt.alloc _) ⟨W9.heap.size, 0, none⟩ 1 1 [.slice Ar (rowI 0 G i 3).length cr] rfl rfl (cell_one_new _ _ _) (by simp [Value.oneCell']) (by unfold maxLen; omega) (by omega) (by simp; omega) ?_)
            intro v2 wa hown2 hgrow2 hnil2 hat2
            obtain ⟨gn, capn, rfl⟩ := own_succ hown2
            have HQa := HQ9.out.below ((Below.refl _ _).alloc (Nat.le_refl _) (.cells #[.slice Ar (rowI 0 G i 3).length cr] 53))
            obtain ⟨⟨z0, z1⟩, z2, HQb⟩ := HQa.nxt_push (vn' := .slice (some ⟨gn, 0, none⟩) (i + 1) capn) (by rw [rowI_length]; omega) (by rw [hus]; exact hown2) hgrow2
            have HBb := Lib.hid (((HB9.out.alloc hbw5 (.cells #[.slice Ar (rowI 0 G i 3).length cr] 53)).grown hgrow2 (by simp; omega) (λ g e => (HQ9.out.one.out.nxt.lt g e).1)).setCell (p := ⟨B, 1, none⟩) (Nat.le_refl _) (.slice (some ⟨gn, 0, none⟩) (i + 1) capn))
            have HQb := Lib.hid HQb
            have HON : Hid (∀ j, j < i + 1 -> j < (ords 0 G (3 * j)).length) := Lib.hid (λ j hj => by
              rcases Nat.lt_or_eq_of_le (Nat.le_of_lt_succ hj) with h | h
              . exact hon.out j h
              . rw [h]; exact hi1)
            have HR1 : Hid (rss ++ [ints (rowI 0 G i 3)] = (List.range (i + 1)).map λ j => ints (rowI 0 G j 3)) := Lib.hid (by rw [List.range_succ, List.map_append, HAc.out.2]; rfl)
            have hul : (us ++ [Value.slice Ar (rowI 0 G i 3).length cr]).length = i + 1 := by simp [hus]
            rw [HR1.out] at HQb
            have HUl := Lib.hid hul
            clear hown2 hgrow2 hnil2 hat2 HQa hul
            go_wp2_with fail
            go_roundw
            case rel => exact ⟨i + 1, _, _, us ++ [Value.slice Ar (rowI 0 G i 3).length cr], _, by go_num, by omega, HUl.out, HBb, HON, by rw [show 3 * (i + 1) = 3 * i + 3 by omega, <- HLq.out]; exact HQb⟩
            case measure => simp [intOf]; omega
          | false =>
            have HXa := Lib.hid hxa
            clear hxa
            go_wp2_with (at_builtin; refine wpList_append_own_at _ rfl (.tmp 125) (.tmp 127) 24 rfl B 4 b0 (.bool false) 1 1 Tryd.underlying24 hbi hb0 hb1 hb2 rfl (by decide) _ _ _ rfl (HQ.out.one.out.acc.alloc _) ⟨wr.heap.size, 0, none⟩ 1 1 [.bool false] rfl rfl (cell_one_new _ _ _) (by simp [Value.oneCell']) (by unfold maxLen; omega) (by omega) (by simp; omega) ?_)
            intro v' w9 hown' hgrow hnil hat
            obtain ⟨ga, cpa, rfl⟩ := own_succ hown'
            obtain ⟨⟨z0, z1⟩, z2, HQ9⟩ := (HQ.out.below ((Below.refl _ _).alloc (Nat.le_refl _) (.cells #[.bool false] 4))).acc_push hown' hgrow
            have HB9 := Lib.hid (((HBq.out.alloc hbwr (.cells #[.bool false] 4)).grown hgrow (by simp; omega) (λ g e => (HQ.out.one.out.acc.lt g e).1)).setCell (p := ⟨B, 0, none⟩) (Nat.le_refl _) (.slice (some ⟨ga, 0, none⟩) (accs.length + 1) cpa))
            have HQ9 := Lib.hid HQ9
            obtain ⟨W9, hW9⟩ : ∃ W9, W9 = w9.setCell ⟨B, 0, none⟩ (.slice (some ⟨ga, 0, none⟩) (accs.length + 1) cpa) := ⟨_, rfl⟩
            rw [<- hW9] at HQ9 HB9
            clear hown' hgrow hnil hat
            go_upto_region 23 with fail
            rw [<- hW9]
            clear hW9 z1 z2 e0 f0
            have HA1 : Hid (accs ++ [false] = (List.range (i + 1)).map λ j => (prd a b f).A (keyI 0 G j)) := Lib.hid (by rw [List.range_succ, List.map_append, HAc.out.1, List.map_cons, List.map_nil, <- HXx.out, HAd.out, <- HPq.out.1, <- HPq.out.2, <- HXa.out, <- HXb.out, HF.out]; simp)
            rw [HA1.out] at HQ9
            clear HA1
            obtain ⟨e1, f1⟩ := (⟨(box2_facts HQ9.out.one.out.box).2.1, (box2_facts HQ9.out.one.out.box).2.2.2⟩ : W9.cell? ⟨B, 1, none⟩ = some vn2 /\ W9.frozen? ⟨B, 1, none⟩ = false)
            have hbw5 : B <= W9.heap.size := Nat.le_of_lt HQ9.out.one.base
            go_wp2_with (at_builtin; refine wpList_append_own_at _ rfl (.tmp 131) (.tmp 133) 25 rfl B 53 r0 (.slice none 0 0) 1 24 Tryd.underlying25 hri hr0 hr1 hr2 rfl (by decide) _ _ _ rfl (HQ9.out.one.out.nxt.alloc _) ⟨W9.heap.size, 0, none⟩ 1 1 [.slice Ar (rowI 0 G i 3).length cr] rfl rfl (cell_one_new _ _ _) (by simp [Value.oneCell']) (by unfold maxLen; omega) (by omega) (by simp; omega) ?_)
            intro v2 wa hown2 hgrow2 hnil2 hat2
            obtain ⟨gn, capn, rfl⟩ := own_succ hown2
            have HQa := HQ9.out.below ((Below.refl _ _).alloc (Nat.le_refl _) (.cells #[.slice Ar (rowI 0 G i 3).length cr] 53))
            obtain ⟨⟨z0, z1⟩, z2, HQb⟩ := HQa.nxt_push (vn' := .slice (some ⟨gn, 0, none⟩) (i + 1) capn) (by rw [rowI_length]; omega) (by rw [hus]; exact hown2) hgrow2
            have HBb := Lib.hid (((HB9.out.alloc hbw5 (.cells #[.slice Ar (rowI 0 G i 3).length cr] 53)).grown hgrow2 (by simp; omega) (λ g e => (HQ9.out.one.out.nxt.lt g e).1)).setCell (p := ⟨B, 1, none⟩) (Nat.le_refl _) (.slice (some ⟨gn, 0, none⟩) (i + 1) capn))
            have HQb := Lib.hid HQb
            have HON : Hid (∀ j, j < i + 1 -> j < (ords 0 G (3 * j)).length) := Lib.hid (λ j hj => by
              rcases Nat.lt_or_eq_of_le (Nat.le_of_lt_succ hj) with h | h
              . exact hon.out j h
              . rw [h]; exact hi1)
            have HR1 : Hid (rss ++ [ints (rowI 0 G i 3)] = (List.range (i + 1)).map λ j => ints (rowI 0 G j 3)) := Lib.hid (by rw [List.range_succ, List.map_append, HAc.out.2]; rfl)
            have hul : (us ++ [Value.slice Ar (rowI 0 G i 3).length cr]).length = i + 1 := by simp [hus]
            rw [HR1.out] at HQb
            have HUl := Lib.hid hul
            clear hown2 hgrow2 hnil2 hat2 HQa hul
            go_wp2_with fail
            go_roundw
            case rel => exact ⟨i + 1, _, _, us ++ [Value.slice Ar (rowI 0 G i 3).length cr], _, by go_num, by omega, HUl.out, HBb, HON, by rw [show 3 * (i + 1) = 3 * i + 3 by omega, <- HLq.out]; exact HQb⟩
            case measure => simp [intOf]; omega
    . have hE := ends_intro (s0 := 0) (g := G) (N := i) hon.out (by rw [<- HLo.out]; exact hlt)
      have hEp : Ends 0 (prd a b f).T i := by rw [<- HMe.out.2]; exact hE
      obtain ⟨m1, m2, m3⟩ := own_found HPw.out hEp
      rw [<- HMe.out.2] at m1 m2
      obtain ⟨f1, f2⟩ := ends_fields hE (prd a b f).A
      have HM2 := Lib.hid m2
      have hbl : accs.length <= 2000 := by rw [HAl.out]; omega
      have HD : Hid (DfaO wr (λ g => B <= g /\ g < wr.heap.size) va2 vn2 (fieldsOf (found 0 G (prd a b f).A i))) := Lib.hid (ho.out.out.whole (by rw [HAc.out.1]; exact f1) (by
        rw [HAc.out.2]
        show intss (nxtOf (found 0 G (prd a b f).A i)) = _
        rw [f2]
        simp [intss]) (by omega) (by omega))
      have hva := (RowO.of_owns ho.out.out.acc (by omega)).row.shape
      have hvn := (RowO.of_owns ho.out.out.nxt (by omega)).row.shape
      obtain ⟨A1, q1, rfl⟩ := hva
      obtain ⟨A2, q2, hvn2⟩ := hvn
      rw [hus] at hvn2
      subst hvn2
      have HFit := Lib.hid (specFits_any _ _ (found 0 G (prd a b f).A i) _ wr m1 (by show i <= 2000; omega) HD.out.dfa)
      obtain ⟨e0, e1, -, -⟩ := box2_facts ho.out.out.box
      have HBW := Lib.hid (HB2.out.trans (HBr.out.mono (by rw [HBe.out]; exact HB2.out.size)))
      have hd : decide ((i : Int) < (lo.length : Int)) = false := by simp; omega
      clear m1 m2 m3 f1 f2 hE hEp
      go_wp2_with fail
      go_at_call 73
      refine HFit.out.mono ?_
      rintro e w3 ⟨m, m1, m2, hcd⟩
      have HM := Lib.hid (And.intro m1 (m2.trans HM2.out))
      obtain ⟨C1, p1, C2, p2, rfl, hoo, hb3⟩ := hcd.shape
      obtain ⟨x1, hx1⟩ : ∃ x, x = (fitD m).acc.length := ⟨_, rfl⟩
      obtain ⟨x2, hx2⟩ : ∃ x, x = (fitD m).nxt.length := ⟨_, rfl⟩
      obtain ⟨ok, hok⟩ : ∃ b, b = decide (m.n <= 40) := ⟨_, rfl⟩
      rw [<- hx1, <- hx2] at hoo ⊢
      rw [<- hok]
      have HOk := Lib.hid hok
      have HO3 := Lib.hid hoo
      have HB3 := Lib.hid (HBW.out.trans (hb3.mono HBW.out.size))
      have hz2 := HBW.out.size
      have hz3 := hb3.size
      have hyl := blk_lt HY.out
      obtain ⟨W4, hW4⟩ : ∃ W4, W4 = w3.alloc (.cells #[.slice C1 x1 p1, .slice C2 x2 p2] 27) := ⟨_, rfl⟩
      have HX4 : Hid (W4.heap[w3.heap.size]? = some (.cells #[.slice C1 x1 p1, .slice C2 x2 p2] 27 (0, 0)) /\ Below w3.heap.size w3 W4) := Lib.hid (by
        rw [hW4]
        exact ⟨heap_alloc_new w3 _, (Below.refl _ _).alloc (Nat.le_refl _) _⟩)
      obtain ⟨g0, g1, -, -⟩ := box2_facts HX4.out.1
      obtain ⟨c0, c1, k0, k1⟩ := box2_facts ((HX4.out.2.block _ (by omega)).trans ((HB3.out.block _ hyl).trans HY.out))
      obtain ⟨hcl, hsz, hot, hBl⟩ := put2 (k := .slice C1 x1 p1) (l := .slice C2 x2 p2) c0 c1
      obtain ⟨hr0, hr1'⟩ := hcl
      have HOt := Lib.hid (And.intro hsz (And.intro hot hBl))
      have HW4 := Lib.hid hW4
      rw [hW4] at g0 g1 c0 c1 k0 k1 hr0 hr1'
      clear hsz hot hBl hoo hb3 hcd hx1 hx2 m1 m2 hW4 hok e0 e1 hd
      go_wp2_with fail
      refine bodyPost_ret (v := .tuple #[.agg #[.slice C1 x1 p1, .slice C2 x2 p2], .bool ok]) (by simp [results, Tryd.results49, go_sem, hr0, hr1']) rfl ?_
      rw [<- HW4.out]
      have h0 := HB0.out.size
      have hz4 := HX4.out.2.size
      refine ⟨m, HM.out.1, HM.out.2, ?_⟩
      rw [<- HOk.out]
      exact ⟨_, _, rfl, HO3.out.mono (λ g hg => (HOt.out.2.1 g (by have := hg.1; omega)).trans (HX4.out.2.block g hg.2)) (λ g hg => ⟨by have := hg.1; omega, by rw [HOt.out.1]; have := hg.2; omega⟩) (by rw [HOt.out.1]; exact hz4), HOt.out.2.2 _ _ (HB0.out.trans ((HB3.out.trans (HX4.out.2.mono HB3.out.size)).mono h0)) (by omega)⟩
end Go.Proofs.YtiijlpmdnokjfaaDoor
namespace Go.Proofs.YtiijlpmdnokjfaaDoor
open Go.RowKit
theorem specPro_no (va vn va' vn' : Value) (d d' : Dx) (S S' : Nat -> Prop) (kind : Int) (w : World) (h : DfaV w S va vn d) (h' : DfaV w S' va' vn' d') (hno : ¬ (validD d = true /\ validD d' = true /\ (kind = 6 \/ kind = 7))) :
    Calls Tryd.prog 49 #[.agg #[va, vn], .agg #[va', vn'], .int .i64 kind] w (CopyDB ⟨[], []⟩ false w) := by
  obtain ⟨W0, hW0⟩ : ∃ W0, W0 = ((w.alloc (.cells #[va, vn] 27)).alloc (.cells #[va', vn'] 27)).alloc (.cells #[.slice none 0 0, .slice none 0 0] 27) := ⟨_, rfl⟩
  have h3 := three_box' w (.cells #[va, vn] 27) (.cells #[va', vn'] 27) (.cells #[.slice none 0 0, .slice none 0 0] 27)
  rw [<- hW0] at h3
  have HB0 : Hid (Below w.heap.size w W0) := Lib.hid h3.2.2.2
  have HX := Lib.hid h3.1
  have HX' := Lib.hid h3.2.1
  have HY := Lib.hid h3.2.2.1
  clear h3
  have HV := Lib.hid (specValidD_any va vn d S W0 (h.kept HB0.out))
  have HV' := Lib.hid (λ (V : World) (hV : Below w.heap.size w V) => specValidD_any va' vn' d' S' V (h'.kept hV))
  obtain ⟨⟨A, c, hA⟩, A', c', hA'⟩ := h.shape
  obtain ⟨⟨B, e, hB⟩, B', e', hB'⟩ := h'.shape
  subst hA
  subst hA'
  subst hB
  subst hB'
  obtain ⟨hc0, hc1, -, -⟩ := box2_facts HX.out
  obtain ⟨hd0, hd1, -, -⟩ := box2_facts HX'.out
  rw [hW0] at hc0 hc1 hd0 hd1
  obtain ⟨v, hv⟩ : ∃ v, v = validD d := ⟨_, rfl⟩
  obtain ⟨v', hv'⟩ : ∃ v, v = validD d' := ⟨_, rfl⟩
  rw [<- hv] at HV hno
  rw [<- hv'] at HV' hno
  clear h h' hv hv'
  go_enter Tryd.func49, Tryd.ntmps49
  go_wp2_with fail
  go_at_call 13
  rw [<- hW0]
  refine HV.out.mono ?_
  rintro e1 w1 ⟨rfl, hb1⟩
  have HB1 := Lib.hid hb1
  clear hc0 hc1 hd0 hd1 hW0 hb1
  obtain ⟨hd0, hd1, -, -⟩ := box2_facts ((HB1.out.block _ (blk_lt HX'.out)).trans HX'.out)
  cases v with
  | false =>
    clear hno
    obtain ⟨c0, c1, k0, k1⟩ := box2_facts ((HB1.out.block _ (blk_lt HY.out)).trans HY.out)
    obtain ⟨hcl, hsz, hot, hBl⟩ := put2 (k := .slice none 0 0) (l := .slice none 0 0) c0 c1
    obtain ⟨hr0, hr1⟩ := hcl
    have HOt := Lib.hid hBl
    clear hsz hot hBl
    go_wp2_with fail
    refine bodyPost_ret (v := .tuple #[.agg #[.slice none 0 0, .slice none 0 0], .bool false]) (by simp [results, Tryd.results49, go_sem, hr0, hr1]) rfl ?_
    exact ⟨_, _, rfl, DfaO.empty _ _, HOt.out _ _ (HB0.out.trans (HB1.out.mono HB0.out.size)) (by omega)⟩
  | true =>
    go_wp2_with fail
    go_at_call 13
    refine (HV'.out w1 (HB0.out.trans (HB1.out.mono HB0.out.size))).mono ?_
    rintro e2 w2 ⟨rfl, hb2⟩
    have HB2 := Lib.hid (HB1.out.trans (hb2.mono HB1.out.size))
    clear hd0 hd1 hb2
    cases v' with
    | false =>
      clear hno
      obtain ⟨c0, c1, k0, k1⟩ := box2_facts ((HB2.out.block _ (blk_lt HY.out)).trans HY.out)
      obtain ⟨hcl, hsz, hot, hBl⟩ := put2 (k := .slice none 0 0) (l := .slice none 0 0) c0 c1
      obtain ⟨hr0, hr1⟩ := hcl
      have HOt := Lib.hid hBl
      clear hsz hot hBl
      go_wp2_with fail
      refine bodyPost_ret (v := .tuple #[.agg #[.slice none 0 0, .slice none 0 0], .bool false]) (by simp [results, Tryd.results49, go_sem, hr0, hr1]) rfl ?_
      exact ⟨_, _, rfl, DfaO.empty _ _, HOt.out _ _ (HB0.out.trans (HB2.out.mono HB0.out.size)) (by omega)⟩
    | true =>
      have h6 : kind ≠ 6 := λ e => hno (by simp [e])
      have h7 : kind ≠ 7 := λ e => hno (by simp [e])
      have k6 : (kind != 6) = true := by simpa using h6
      have k7 : (kind != 7) = true := by simpa using h7
      clear hno h6 h7
      obtain ⟨c0, c1, k0, k1⟩ := box2_facts ((HB2.out.block _ (blk_lt HY.out)).trans HY.out)
      obtain ⟨hcl, hsz, hot, hBl⟩ := put2 (k := .slice none 0 0) (l := .slice none 0 0) c0 c1
      obtain ⟨hr0, hr1⟩ := hcl
      have HOt := Lib.hid hBl
      clear hsz hot hBl
      go_wp2_with fail
      refine bodyPost_ret (v := .tuple #[.agg #[.slice none 0 0, .slice none 0 0], .bool false]) (by simp [results, Tryd.results49, go_sem, hr0, hr1]) rfl ?_
      exact ⟨_, _, rfl, DfaO.empty _ _, HOt.out _ _ (HB0.out.trans (HB2.out.mono HB0.out.size)) (by omega)⟩
theorem specPro_any (va vn va' vn' : Value) (d d' : Dx) (S S' : Nat -> Prop) (kind : Int) (y : Dx) (ok : Bool) (w : World) (h : DfaV w S va vn d) (h' : DfaV w S' va' vn' d') (hy : proR d d' kind y ok) :
    Calls Tryd.prog 49 #[.agg #[va, vn], .agg #[va', vn'], .int .i64 kind] w (CopyDB y ok w) := by
  by_cases hc : validD d = true /\ validD d' = true /\ (kind = 6 \/ kind = 7)
  . obtain ⟨hv, hv', hk⟩ := hc
    rcases hk with rfl | rfl
    . refine (specPrd_or va vn va' vn' d d' S S' w h h' hv hv').mono ?_
      rintro e w' ⟨m, m1, m2, hcd⟩
      obtain ⟨rfl, rfl⟩ := proR_yes hy hv hv' (.inl rfl) m1 m2
      exact hcd
    . refine (specPrd_and va vn va' vn' d d' S S' w h h' hv hv').mono ?_
      rintro e w' ⟨m, m1, m2, hcd⟩
      obtain ⟨rfl, rfl⟩ := proR_yes hy hv hv' (.inr rfl) m1 m2
      exact hcd
  . obtain ⟨rfl, rfl⟩ := proR_no hy hc
    exact specPro_no va vn va' vn' d d' S S' kind w h h' hc
end Go.Proofs.YtiijlpmdnokjfaaDoor
namespace Go.Proofs.YtiijlpmdnokjfaaDoor
open Go.RowKit
def incR (d d' : Dx) (b : Bool) : Prop := if validD d = true /\ validD d' = true then ∃ s ok, tellR false d d' s ok /\ b = !ok else b = false
theorem incR_yes {d d' : Dx} {b : Bool} (h : incR d d' b) (hv : validD d = true) (hv' : validD d' = true) {r : Option (List Nat)} (hr : FirstR (λ u => pairF false ((auD d).A ((auD d).run 0 u)) ((auD d').A ((auD d').run 0 u)) = true) r) : b = !r.isSome := by
  unfold incR at h
  rw [if_pos ⟨hv, hv'⟩] at h
  obtain ⟨s, ok, h1, h2⟩ := h
  rw [h2, (tellR_yes h1 hv hv' hr).2]
theorem incR_no {d d' : Dx} {b : Bool} (h : incR d d' b) (hv : ¬ (validD d = true /\ validD d' = true)) : b = false := by
  unfold incR at h
  rwa [if_neg hv] at h
theorem incR_some (d d' : Dx) : ∃ b, incR d d' b := by
  unfold incR
  by_cases h : validD d = true /\ validD d' = true
  . simp only [if_pos h]
    obtain ⟨s, ok, h1⟩ := tellR_some false d d'
    exact ⟨_, s, ok, h1, rfl⟩
  . simp only [if_neg h]
    exact ⟨_, rfl⟩
end Go.Proofs.YtiijlpmdnokjfaaDoor
