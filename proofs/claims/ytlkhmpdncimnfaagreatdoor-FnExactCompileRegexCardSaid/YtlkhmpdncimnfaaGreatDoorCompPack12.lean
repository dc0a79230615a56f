/-
  Texts of one proof, one behind the other.
-/
import Derived.Test.YtlkhmpdncimnfaaGreatDoorCompPack11

/-
  What spec.ProductDfa answers of two valid automata (or).
  What spec.ProductDfa answers of two valid automata (and).
  What spec.ProductDfa answers.
-/
namespace Go.Proofs.YtlkhmpdncimnfaaGreatDoor
open Go.RowKit

set_option maxRecDepth 100000 in
set_option maxHeartbeats 12800000 in
theorem specPrd_or (va vn va' vn' : Value) (d d' : Dx) (S S' : Nat → Prop) (w : World) (h : DfaV w S va vn d) (h' : DfaV w S' va' vn' d') (hv : validD d = true) (hv' : validD d' = true) :
    Calls Tryz.prog 34 #[.agg #[va, vn], .agg #[va', vn'], .int .i64 6] w (PrdPostS (auD d) (auD d') (fun x y => x || y) w) := by
  obtain ⟨i0, hi, hz0, hz1, hz2⟩ := info_parts intInfo
  obtain ⟨b0, hbi, hb0, hb1, hb2⟩ := info_parts boolInfo
  obtain ⟨r0, hri, hr0, hr1, hr2⟩ := info_parts rowInfo
  obtain ⟨hw, hn40, hnn, hl, ad, cc, ad', cc', rfl, rfl, hA, hT⟩ := h.au hv
  obtain ⟨hw', hn40', hnn', hl', bd, ec, bd', ec', rfl, rfl, hA', hT'⟩ := h'.au hv'
  obtain ⟨n, hne⟩ : ∃ n, n = d.acc.length := ⟨_, rfl⟩
  obtain ⟨n', hne'⟩ : ∃ n', n' = d'.acc.length := ⟨_, rfl⟩
  rw [← hne] at hA hT hnn
  rw [← hne'] at hA' hT' hnn'
  obtain ⟨W0, hW0⟩ : ∃ W0, W0 = ((w.alloc (.cells #[.slice (some ad) n cc, .slice (some ad') n cc'] 29)).alloc (.cells #[.slice (some bd) n' ec, .slice (some bd') n' ec'] 29)).alloc (.cells #[.slice none 0 0, .slice none 0 0] 29) := ⟨_, rfl⟩
  have h3 := three_box' w (.cells #[.slice (some ad) n cc, .slice (some ad') n cc'] 29) (.cells #[.slice (some bd) n' ec, .slice (some bd') n' ec'] 29) (.cells #[.slice none 0 0, .slice none 0 0] 29)
  rw [← hW0] at h3
  have HB0 : Hid (Below w.heap.size w W0) := Lib.hid h3.2.2.2
  have HX := Lib.hid h3.1
  have HX' := Lib.hid h3.2.1
  have HY := Lib.hid h3.2.2.1
  clear h3
  have HV := Lib.hid (specValidD_any (.slice (some ad) n cc) (.slice (some ad') n cc') d S W0 (by rw [hne]; exact h.kept HB0.out))
  have HV' := Lib.hid (fun (V : World) (hV : Below w.heap.size w V) => specValidD_any (.slice (some bd) n' ec) (.slice (some bd') n' ec') d' S' V (by rw [hne']; exact h'.kept hV))
  rw [hv] at HV
  rw [hv'] at HV'
  obtain ⟨f, hf⟩ : ∃ f : Bool → Bool → Bool, f = (fun x y => x || y) := ⟨_, rfl⟩
  obtain ⟨a, ha⟩ : ∃ a, a = auD d := ⟨_, rfl⟩
  obtain ⟨b, hb⟩ : ∃ b, b = auD d' := ⟨_, rfl⟩
  rw [← ha] at hw hnn hA hT hn40
  rw [← hb] at hw' hnn' hA' hT' hn40'
  rw [← hne, ← hne', ← ha, ← hb, ← hf]
  obtain ⟨M, hMe⟩ : ∃ M, M = n * n' := ⟨_, rfl⟩
  have hM : M ≤ 1600 := by
    have := Nat.mul_le_mul (show n ≤ 40 by omega) (show n' ≤ 40 by omega)
    omega
  obtain ⟨G, hG⟩ : ∃ G, G = (prd a b f).T := ⟨_, rfl⟩
  have HGd : Hid (∀ x k, G x k = a.T (x / n') k * n' + b.T (x % n') k) := Lib.hid (fun x k => by rw [hG, ← hnn']; rfl)
  have HAd : Hid (∀ x, (prd a b f).A x = f (a.A (x / n')) (b.A (x % n'))) := Lib.hid (fun x => by rw [← hnn']; rfl)
  have HPw := Lib.hid (prd_wf f hw hw')
  have HKeys : Hid (∀ t, (∀ x ∈ ords 0 G t, x < M) ∧ (ords 0 G t).length ≤ M) := Lib.hid (fun t => by
    have h1 := own_keys HPw.out t
    rw [hG, hMe, ← hnn, ← hnn']
    exact h1)
  have HA : Hid (∀ q, q < n → w.cell? (ad.add q) = some (.bool (a.A q))) := Lib.hid hA
  have HA' : Hid (∀ q, q < n' → w.cell? (bd.add q) = some (.bool (b.A q))) := Lib.hid hA'
  have HT := Lib.hid hT
  have HT' := Lib.hid hT'
  have HWf : Hid (∀ x k, x < n → k < 3 → a.T x k < n) := Lib.hid (by rw [← hnn]; exact hw.2)
  have HWf' : Hid (∀ x k, x < n' → k < 3 → b.T x k < n') := Lib.hid (by rw [← hnn']; exact hw'.2)
  have hn0 : 0 < n := by have := hw.1; omega
  have hn0' : 0 < n' := by have := hw'.1; omega
  have HMe := Lib.hid (And.intro hMe hG)
  have HF := Lib.hid hf
  have hnl : n ≤ 40 := by omega
  have hnl' : n' ≤ 40 := by omega
  obtain ⟨hc0, hc1, -, -⟩ := box2_facts HX.out
  obtain ⟨hd0, hd1, -, -⟩ := box2_facts HX'.out
  rw [hW0] at hc0 hc1 hd0 hd1
  clear h h' hw hw' hA hA' hT hT' hne hne' hMe hG hf ha hb hnn hnn' hl hl' hv hv' hn40 hn40'
  go_enter Tryz.func34, Tryz.ntmps34
  go_wp2_with fail
  go_at_call 53
  rw [← hW0]
  refine HV.out.mono ?_
  rintro e1 w1 ⟨rfl, hb1⟩
  have HB1 := Lib.hid hb1
  clear hc0 hc1 hd0 hd1 hW0 hb1
  obtain ⟨hd0, hd1, -, -⟩ := box2_facts ((HB1.out.block _ (blk_lt HX'.out)).trans HX'.out)
  go_wp2_with fail
  go_at_call 53
  refine (HV'.out w1 (HB0.out.trans (HB1.out.mono HB0.out.size))).mono ?_
  rintro e2 w2 ⟨rfl, hb2⟩
  have HB2 := Lib.hid (HB1.out.trans (hb2.mono HB1.out.size))
  clear hd0 hd1 hb2
  obtain ⟨hd0, hd1, -, -⟩ := box2_facts ((HB2.out.block _ (blk_lt HX'.out)).trans HX'.out)
  obtain ⟨HS, HSB⟩ := One.start2 w2 0
  have HSt := Lib.hid HS
  have HStB := Lib.hid HSB
  clear HS HSB
  go_wp2_with fail
  obtain ⟨B, hBe⟩ : ∃ B, B = w2.heap.size := ⟨_, rfl⟩
  rw [← hBe] at HSt HStB ⊢
  have HBe := Lib.hid hBe
  have HE0 : Hid (ordI 0 G (3 * 0) = [0]) := Lib.hid rfl
  go_loopw [10, 11] (fun vo iv wr => ∃ (i : Nat) (va2 vn2 : Value) (us : List Value) (K : Nat → Nat → Prop), iv = .int .i64 i ∧ i ≤ M ∧ us.length = i ∧ Hid (Below B w2 wr) ∧ Hid (∀ j, j < i → j < (ords 0 G (3 * j)).length) ∧ Hid (One B wr B va2 vn2 ((List.range i).map fun j => (prd a b f).A (keyI 0 G j)) us ((List.range i).map fun j => ints (rowI 0 G j 3)) K vo (ordI 0 G (3 * i)))) (fun _ iv _ => M + 1 - (intOf iv).toNat)
  case atStart => exact ⟨0, _, _, [], _, rfl, Nat.zero_le _, rfl, HStB, Lib.hid (fun j hj => absurd hj (Nat.not_lt_zero _)), by rw [HE0.out]; exact HSt⟩
  clear HSt HStB hBe hd0 hd1
  case round =>
    obtain ⟨i, va2, vn2, us, K, rfl, hin, hus, HBr, hon, ho⟩ := hrel
    obtain ⟨accs, hacc⟩ : ∃ accs, accs = (List.range i).map fun j => (prd a b f).A (keyI 0 G j) := ⟨_, rfl⟩
    obtain ⟨rss, hrss⟩ : ∃ rss, rss = (List.range i).map fun j => ints (rowI 0 G j 3) := ⟨_, rfl⟩
    obtain ⟨lo, hlo⟩ : ∃ lo, lo = ordI 0 G (3 * i) := ⟨_, rfl⟩
    rw [← hacc, ← hrss, ← hlo] at ho
    have HAc := Lib.hid (And.intro hacc hrss)
    have hll : lo.length ≤ M := by rw [hlo, ordI_length]; exact (HKeys.out _).2
    have HLo := Lib.hid hlo
    have hal : accs.length = i := by rw [hacc]; simp
    have HAl := Lib.hid hal
    clear hacc hrss hlo hal
    obtain ⟨-, Ao, co, rfl⟩ := (ho.out.ord.row (by omega)).row.ints_shape
    have HBw := Lib.hid (HB0.out.trans ((HB2.out.trans (HBr.out.mono (by rw [HBe.out]; exact HB2.out.size))).mono HB0.out.size))
    have hX1 : Hid (wr.heap[w.heap.size]? = some (.cells #[.slice (some ad) n cc, .slice (some ad') n cc'] 29 (0, 0)) ∧ wr.heap[w.heap.size + 1]? = some (.cells #[.slice (some bd) n' ec, .slice (some bd') n' ec'] 29 (0, 0))) := Lib.hid (by
      have hb3 := HB2.out.trans (HBr.out.mono (by rw [HBe.out]; exact HB2.out.size))
      exact ⟨(hb3.block _ (blk_lt HX.out)).trans HX.out, (hb3.block _ (blk_lt HX'.out)).trans HX'.out⟩)
    by_cases hlt : i < lo.length
    · have hi1 : i < (ords 0 G (3 * i)).length := by rw [← ordI_length, ← HLo.out]; exact hlt
      have hxM : keyI 0 G i < M := (HKeys.out (3 * i)).1 _ (getD_mem hi1)
      obtain ⟨-, st1⟩ := ordI_at (s0 := 0) (g := G) (t := 3 * i) hi1 (by omega)
      obtain ⟨x, hx⟩ : ∃ x, x = keyI 0 G i := ⟨_, rfl⟩
      rw [← hx] at hxM
      rw [← hx, ← HLo.out] at st1
      have HXx := Lib.hid hx
      obtain ⟨p, hp⟩ : ∃ p, p = x / n' := ⟨_, rfl⟩
      obtain ⟨q, hq⟩ : ∃ q, q = x % n' := ⟨_, rfl⟩
      have hpn : p < n := by rw [hp]; exact div_lt (by rw [← HMe.out.1]; exact hxM)
      have hqn : q < n' := by rw [hq]; exact Nat.mod_lt _ hn0'
      have hdv : (x : Int) / (n' : Int) = (p : Int) := by rw [hp]; simp
      have hmd : (x : Int) % (n' : Int) = (q : Int) := by rw [hq]; simp
      have HPq := Lib.hid (And.intro hp hq)
      obtain ⟨ado, ca, hvo, hco⟩ := Two.cell_row ho.out.ord (by omega) hlt
      injection hvo with hvo1 _ hvo2
      subst hvo1
      subst hvo2
      rw [st1] at hco
      have hd : decide ((i : Int) < (lo.length : Int)) = true := by simp; omega
      have s1 : (i : Int) < (lo.length : Int) := by omega
      have s2 : (0 : Int) ≤ (i : Int) := by omega
      have s3 : (0 : Int) < (n' : Int) := by omega
      have s4 : (0 : Int) ≤ (x : Int) := by omega
      have s5 : ((n' : Int) == 0) = false := by simp; omega
      have s6 : (x : Int) ≤ 1600 := by omega
      have HTwo := Lib.hid ho.out.two
      have HTw0 : Hid (Two B (wr.alloc (.cells #[] 3)) B va2 vn2 accs us rss K (.slice (some ado) lo.length co) (ordI 0 G (3 * i + 0)) (.slice (some ⟨wr.heap.size, 0, none⟩) 0 0) (rowI 0 G i 0)) := by
        rw [show 3 * i + 0 = 3 * i from rfl, ← HLo.out]
        exact HTwo
      clear HTwo st1 hx hp hq
      have HBa := Lib.hid (HBr.out.alloc (Nat.le_of_lt ho.out.base) (.cells #[] 3))
      go_upto_region 13 with fail
      clear hd hco hdv hmd s1 s2 s3 s4 s5 s6 ho
      go_loopw [10, 14, 15] (fun vo vr kv wq => ∃ k : Nat, kv = .int .i64 k ∧ k ≤ 3 ∧ Hid (Below B w2 wq) ∧ Hid (Two B wq B va2 vn2 accs us rss K vo (ordI 0 G (3 * i + k)) vr (rowI 0 G i k))) (fun _ _ kv _ => 3 - (intOf kv).toNat)
      case atStart => exact ⟨0, rfl, Nat.zero_le _, HBa, HTw0⟩
      case round =>
        obtain ⟨k, rfl, hk, HBq, HQ⟩ := hrel
        clear HTw0 HBa
        have HBz := Lib.hid (HB0.out.trans ((HB2.out.trans (HBq.out.mono (by rw [HBe.out]; exact HB2.out.size))).mono HB0.out.size))
        have HXq : Hid (wr.heap[w.heap.size]? = some (.cells #[.slice (some ad) n cc, .slice (some ad') n cc'] 29 (0, 0)) ∧ wr.heap[w.heap.size + 1]? = some (.cells #[.slice (some bd) n' ec, .slice (some bd') n' ec'] 29 (0, 0))) := Lib.hid (by
          have hb3 := HB2.out.trans (HBq.out.mono (by rw [HBe.out]; exact HB2.out.size))
          exact ⟨(hb3.block _ (blk_lt HX.out)).trans HX.out, (hb3.block _ (blk_lt HX'.out)).trans HX'.out⟩)
        by_cases hk3 : k < 3
        · obtain ⟨-, st2, st3⟩ := ordI_step (s0 := 0) (g := G) hi1 hk3
          have hln : (ordI 0 G (3 * i + k)).length ≤ M := by rw [ordI_length]; exact (HKeys.out _).2
          have hln' : (ordI 0 G (3 * i + (k + 1))).length ≤ M := by rw [ordI_length]; exact (HKeys.out _).2
          obtain ⟨lq, hlq⟩ : ∃ lq, lq = ordI 0 G (3 * i + k) := ⟨_, rfl⟩
          obtain ⟨lp, hlp⟩ : ∃ lp, lp = ordI 0 G (3 * i + (k + 1)) := ⟨_, rfl⟩
          rw [← HXx.out, ← hlq, ← hlp] at st2
          rw [← HXx.out, ← hlp] at st3
          rw [← hlq] at hln HQ
          rw [← hlp] at hln'
          have HLp := Lib.hid hlp
          clear hlq hlp
          obtain ⟨-, Aq, cq, rfl⟩ := (HQ.out.one.ord.row (by omega)).row.ints_shape
          obtain ⟨a2, c2, hr2, hr3⟩ := HT.out p hpn
          obtain ⟨b2, e2, hs2, hs3⟩ := HT'.out q hqn
          have hr4 := hr3 k hk3
          have hs4 := hs3 k hk3
          have hta := HWf.out p k hpn hk3
          have htb := HWf'.out q k hqn hk3
          obtain ⟨y, hy⟩ : ∃ y, y = G x k := ⟨_, rfl⟩
          have hyd : y = a.T p k * n' + b.T q k := by rw [hy, HGd.out, ← HPq.out.1, ← HPq.out.2]
          rw [← hy] at st2 st3
          obtain ⟨ta, hta'⟩ : ∃ ta, ta = a.T p k := ⟨_, rfl⟩
          obtain ⟨tb, htb'⟩ : ∃ tb, tb = b.T q k := ⟨_, rfl⟩
          rw [← hta'] at hta hr4 hyd
          rw [← htb'] at htb hs4 hyd
          obtain ⟨m, hm⟩ : ∃ m, m = ta * n' := ⟨_, rfl⟩
          rw [← hm] at hyd
          have hm0 : m ≤ 1600 := by
            have := Nat.mul_le_mul (show ta ≤ 40 by omega) (show n' ≤ 40 by omega)
            omega
          have hw0 : (ta : Int) * (n' : Int) = (m : Int) := by rw [hm]; simp
          have hw1 : IntKind.i64.wrap ((ta : Int) * (n' : Int)) = (m : Int) := by rw [hw0]; exact IntWalk.i64_in _ (by omega)
          have hw2 : IntKind.i64.wrap ((m : Int) + (tb : Int)) = (y : Int) := by rw [hyd]; exact (IntWalk.i64_in _ (by omega)).trans (by omega)
          obtain ⟨z, hz⟩ : ∃ z, z = findV lq (y : Int) := ⟨_, rfl⟩
          rw [← hz] at st2
          have HS2 := Lib.hid st2
          obtain ⟨tt, htt⟩ : ∃ tt : Int, tt = (toI 0 G i k : Int) := ⟨_, rfl⟩
          rw [← htt] at st3
          have HTt := Lib.hid htt
          have HS3 := Lib.hid st3
          have hrl : (rowI 0 G i k).length ≤ 3 := by rw [rowI_length]; omega
          have HFind := Lib.hid (fun V (hV : Below wr.heap.size wr V) => specFind_below (y : Int) HQ.out.one.ord (by omega) hV)
          rw [← hz] at HFind
          have g2 := (HBz.out.cell (cell_in hr2)).trans hr2
          have g3 := (HBz.out.cell (cell_in hr4)).trans hr4
          have g4 := (HBz.out.cell (cell_in hs2)).trans hs2
          have g5 := (HBz.out.cell (cell_in hs4)).trans hs4
          obtain ⟨-, g6, -, -⟩ := box2_facts HXq.out.1
          obtain ⟨-, g7, -, -⟩ := box2_facts HXq.out.2
          have s1 : (p : Int) < (n : Int) := by omega
          have s2 : (0 : Int) ≤ (p : Int) := by omega
          have s3 : (q : Int) < (n' : Int) := by omega
          have s4 : (0 : Int) ≤ (q : Int) := by omega
          have s7 : (k : Int) < 3 := by omega
          have s8 : (0 : Int) ≤ (k : Int) := by omega
          have hd : decide ((k : Int) < 3) = true := by simp; omega
          clear htt st2 st3 hr2 hr3 hr4 hs2 hs3 hs4 hy hyd hta' htb' hm hz hw0
          go_wp2_with fail
          go_quiet (fail)
          clear g2 g3 g4 g5 g6 g7 hw1 hw2
          go_wp2_with fail
          go_at_call 59
          refine (HFind.out _ (below_draws (Below.refl _ _) _)).mono ?_
          rintro e w8 ⟨rfl, hb8⟩
          have HB8 := Lib.hid (HBq.out.grown (grown_of hb8) (Nat.le_of_lt HQ.out.one.base) (fun g e => by cases e))
          have HQ8 := Lib.hid (HQ.out.below hb8)
          clear hb8 hd
          by_cases hzz : z < 0
          · have hd : decide (z < 0) = true := by simp [hzz]
            have hap := HS2.out.1 hzz
            have HAp := Lib.hid hap
            have hbw : B ≤ w8.heap.size := Nat.le_of_lt HQ8.out.one.base
            clear hap hzz
            go_wp2_with (at_builtin; refine wpList_append_own_at _ rfl (.tmp 88) (.tmp 90) 68 rfl B 3 i0 (.int .i64 0) 1 8 Tryz.underlying68 hi hz0 hz1 hz2 rfl (by decide) _ _ _ rfl (HQ8.out.one.ord.alloc _) ⟨w8.heap.size, 0, none⟩ 1 1 [.int .i64 (y : Int)] rfl rfl (cell_one_new _ _ _) (by simp [Value.oneCell']) (by unfold maxLen; omega) (by omega) (by simp; omega) ?_)
            intro v' w9 hown' hgrow hnil hat
            have HQ9 := Lib.hid ((HQ8.out.below ((Below.refl _ _).alloc (Nat.le_refl _) (.cells #[.int .i64 (y : Int)] 3))).ord_push hown' hgrow (by simpa using hat))
            have HB9 := Lib.hid ((HB8.out.alloc hbw (.cells #[.int .i64 (y : Int)] 3)).grown hgrow (by simp; omega) (fun g e => (HQ8.out.one.ord.lt g e).1))
            rw [← HAp.out] at HQ9
            clear hown' hgrow hnil hat hd
            have HF2 := Lib.hid (fun V (hV : Below w9.heap.size w9 V) => specFind_below (y : Int) HQ9.out.one.ord (by omega) hV)
            rw [HS3.out] at HF2
            go_wp2_with fail
            go_at_call 59
            refine (HF2.out _ (Below.refl _ _)).mono ?_
            rintro e wd ⟨rfl, hbd⟩
            have HBd := Lib.hid (HB9.out.grown (grown_of hbd) (Nat.le_of_lt HQ9.out.one.base) (fun g e => by cases e))
            have HQd := Lib.hid (HQ9.out.below hbd)
            have hbw2 : B ≤ wd.heap.size := Nat.le_of_lt HQd.out.one.base
            clear hbd
            go_wp2_with (at_builtin; refine wpList_append_own_at _ rfl (.tmp 92) (.tmp 96) 68 rfl B 3 i0 (.int .i64 0) 1 8 Tryz.underlying68 hi hz0 hz1 hz2 rfl (by decide) _ _ _ rfl (HQd.out.row.alloc _) ⟨wd.heap.size, 0, none⟩ 1 1 [.int .i64 tt] rfl rfl (cell_one_new _ _ _) (by simp [Value.oneCell']) (by unfold maxLen; omega) (by omega) (by simp; omega) ?_)
            intro v2 wf hown2 hgrow2 hnil2 hat2
            have HQf := Lib.hid ((HQd.out.below ((Below.refl _ _).alloc (Nat.le_refl _) (.cells #[.int .i64 tt] 3))).row_push hown2 hgrow2 (by simpa using hat2))
            have HBf := Lib.hid ((HBd.out.alloc hbw2 (.cells #[.int .i64 tt] 3)).grown hgrow2 (by simp; omega) (fun g e => (HQd.out.row.lt g e).1))
            rw [HTt.out, ← rowI_succ] at HQf
            clear hown2 hgrow2 hnil2 hat2
            go_wp2_with fail
            go_roundw
            case rel => exact ⟨k + 1, by go_num, by omega, HBf, by rw [← HLp.out]; exact HQf⟩
            case measure => simp [intOf]; omega
          · have hd : decide (z < 0) = false := by simp; omega
            have hap := HS2.out.2 (by omega)
            subst hap
            have HQ9 := Lib.hid HQ8.out
            have HB9 := Lib.hid HB8.out
            clear hzz
            have HF2 := Lib.hid (fun V (hV : Below w8.heap.size w8 V) => specFind_below (y : Int) HQ9.out.one.ord (by omega) hV)
            rw [HS3.out] at HF2
            go_wp2_with fail
            go_at_call 59
            refine (HF2.out _ (Below.refl _ _)).mono ?_
            rintro e wd ⟨rfl, hbd⟩
            have HBd := Lib.hid (HB9.out.grown (grown_of hbd) (Nat.le_of_lt HQ9.out.one.base) (fun g e => by cases e))
            have HQd := Lib.hid (HQ9.out.below hbd)
            have hbw2 : B ≤ wd.heap.size := Nat.le_of_lt HQd.out.one.base
            clear hbd
            go_wp2_with (at_builtin; refine wpList_append_own_at _ rfl (.tmp 92) (.tmp 96) 68 rfl B 3 i0 (.int .i64 0) 1 8 Tryz.underlying68 hi hz0 hz1 hz2 rfl (by decide) _ _ _ rfl (HQd.out.row.alloc _) ⟨wd.heap.size, 0, none⟩ 1 1 [.int .i64 tt] rfl rfl (cell_one_new _ _ _) (by simp [Value.oneCell']) (by unfold maxLen; omega) (by omega) (by simp; omega) ?_)
            intro v2 wf hown2 hgrow2 hnil2 hat2
            have HQf := Lib.hid ((HQd.out.below ((Below.refl _ _).alloc (Nat.le_refl _) (.cells #[.int .i64 tt] 3))).row_push hown2 hgrow2 (by simpa using hat2))
            have HBf := Lib.hid ((HBd.out.alloc hbw2 (.cells #[.int .i64 tt] 3)).grown hgrow2 (by simp; omega) (fun g e => (HQd.out.row.lt g e).1))
            rw [HTt.out, ← rowI_succ] at HQf
            clear hown2 hgrow2 hnil2 hat2 hd
            go_wp2_with fail
            go_roundw
            case rel => exact ⟨k + 1, by go_num, by omega, HBf, by rw [← HLp.out]; exact HQf⟩
            case measure => simp [intOf]; omega
        · obtain rfl : k = 3 := by omega
          obtain ⟨-, Ar, cr, rfl⟩ := (HQ.out.row.row (by rw [rowI_length]; omega)).row.ints_shape
          obtain ⟨lq, hlq⟩ : ∃ lq, lq = ordI 0 G (3 * i + 3) := ⟨_, rfl⟩
          rw [← hlq] at HQ
          have HLq := Lib.hid hlq
          have hln : lq.length ≤ M := by rw [hlq, ordI_length]; exact (HKeys.out _).2
          clear hlq
          obtain ⟨-, Aq, cq, rfl⟩ := (HQ.out.one.ord.row (by omega)).row.ints_shape
          have hax := HA.out p hpn
          have hbx := HA'.out q hqn
          obtain ⟨xa, hxa⟩ : ∃ xa, xa = a.A p := ⟨_, rfl⟩
          obtain ⟨xb, hxb⟩ : ∃ xb, xb = b.A q := ⟨_, rfl⟩
          rw [← hxa] at hax
          rw [← hxb] at hbx
          have HXb := Lib.hid hxb
          have g2 := (HBz.out.cell (cell_in hax)).trans hax
          have g4 := (HBz.out.cell (cell_in hbx)).trans hbx
          obtain ⟨g6, -, -, -⟩ := box2_facts HXq.out.1
          obtain ⟨g7, -, -, -⟩ := box2_facts HXq.out.2
          obtain ⟨e0, -, f0, -⟩ := box2_facts HQ.out.one.out.box
          have s1 : (p : Int) < (n : Int) := by omega
          have s2 : (0 : Int) ≤ (p : Int) := by omega
          have s3 : (q : Int) < (n' : Int) := by omega
          have s4 : (0 : Int) ≤ (q : Int) := by omega
          have hbwr : B ≤ wr.heap.size := Nat.le_of_lt HQ.out.one.base
          have hbl : accs.length ≤ 2000 := by rw [HAl.out]; omega
          obtain ⟨Aa, qa, hva⟩ := (RowO.of_owns HQ.out.one.out.acc (by omega)).row.shape
          rw [bools_length] at hva
          subst hva
          clear hax hbx hxb
          cases xa with
          | true =>
            have HXa := Lib.hid hxa
            clear hxa
            go_wp2_with (at_builtin; refine wpList_append_own_at _ rfl (.tmp 125) (.tmp 127) 26 rfl B 4 b0 (.bool false) 1 1 Tryz.underlying26 hbi hb0 hb1 hb2 rfl (by decide) _ _ _ rfl (HQ.out.one.out.acc.alloc _) ⟨wr.heap.size, 0, none⟩ 1 1 [.bool true] rfl rfl (cell_one_new _ _ _) (by simp [Value.oneCell']) (by unfold maxLen; omega) (by omega) (by simp; omega) ?_)
            intro v' w9 hown' hgrow hnil hat
            obtain ⟨ga, cpa, rfl⟩ := own_succ hown'
            obtain ⟨⟨z0, z1⟩, z2, HQ9⟩ := (HQ.out.below ((Below.refl _ _).alloc (Nat.le_refl _) (.cells #[.bool true] 4))).acc_push hown' hgrow
            have HB9 := Lib.hid (((HBq.out.alloc hbwr (.cells #[.bool true] 4)).grown hgrow (by simp; omega) (fun g e => (HQ.out.one.out.acc.lt g e).1)).setCell (p := ⟨B, 0, none⟩) (Nat.le_refl _) (.slice (some ⟨ga, 0, none⟩) (accs.length + 1) cpa))
            have HQ9 := Lib.hid HQ9
            obtain ⟨W9, hW9⟩ : ∃ W9, W9 = w9.setCell ⟨B, 0, none⟩ (.slice (some ⟨ga, 0, none⟩) (accs.length + 1) cpa) := ⟨_, rfl⟩
            rw [← hW9] at HQ9 HB9
            clear hown' hgrow hnil hat
            go_upto_region 23 with fail
            rw [← hW9]
            clear hW9 z1 z2 e0 f0
            have HA1 : Hid (accs ++ [true] = (List.range (i + 1)).map fun j => (prd a b f).A (keyI 0 G j)) := Lib.hid (by rw [List.range_succ, List.map_append, HAc.out.1, List.map_cons, List.map_nil, ← HXx.out, HAd.out, ← HPq.out.1, ← HPq.out.2, ← HXa.out, ← HXb.out, HF.out]; simp)
            rw [HA1.out] at HQ9
            clear HA1
            obtain ⟨e1, f1⟩ := (⟨(box2_facts HQ9.out.one.out.box).2.1, (box2_facts HQ9.out.one.out.box).2.2.2⟩ : W9.cell? ⟨B, 1, none⟩ = some vn2 ∧ W9.frozen? ⟨B, 1, none⟩ = false)
            have hbw5 : B ≤ W9.heap.size := Nat.le_of_lt HQ9.out.one.base
            go_wp2_with (at_builtin; refine wpList_append_own_at _ rfl (.tmp 131) (.tmp 133) 27 rfl B 68 r0 (.slice none 0 0) 1 24 Tryz.underlying27 hri hr0 hr1 hr2 rfl (by decide) _ _ _ rfl (HQ9.out.one.out.nxt.alloc _) ⟨W9.heap.size, 0, none⟩ 1 1 [.slice Ar (rowI 0 G i 3).length cr] rfl rfl (cell_one_new _ _ _) (by simp [Value.oneCell']) (by unfold maxLen; omega) (by omega) (by simp; omega) ?_)
            intro v2 wa hown2 hgrow2 hnil2 hat2
            obtain ⟨gn, capn, rfl⟩ := own_succ hown2
            have HQa := HQ9.out.below ((Below.refl _ _).alloc (Nat.le_refl _) (.cells #[.slice Ar (rowI 0 G i 3).length cr] 68))
            obtain ⟨⟨z0, z1⟩, z2, HQb⟩ := HQa.nxt_push (vn' := .slice (some ⟨gn, 0, none⟩) (i + 1) capn) (by rw [rowI_length]; omega) (by rw [hus]; exact hown2) hgrow2
            have HBb := Lib.hid (((HB9.out.alloc hbw5 (.cells #[.slice Ar (rowI 0 G i 3).length cr] 68)).grown hgrow2 (by simp; omega) (fun g e => (HQ9.out.one.out.nxt.lt g e).1)).setCell (p := ⟨B, 1, none⟩) (Nat.le_refl _) (.slice (some ⟨gn, 0, none⟩) (i + 1) capn))
            have HQb := Lib.hid HQb
            have HON : Hid (∀ j, j < i + 1 → j < (ords 0 G (3 * j)).length) := Lib.hid (fun j hj => by
              rcases Nat.lt_or_eq_of_le (Nat.le_of_lt_succ hj) with h | h
              · exact hon.out j h
              · rw [h]; exact hi1)
            have HR1 : Hid (rss ++ [ints (rowI 0 G i 3)] = (List.range (i + 1)).map fun j => ints (rowI 0 G j 3)) := Lib.hid (by rw [List.range_succ, List.map_append, HAc.out.2]; rfl)
            have hul : (us ++ [Value.slice Ar (rowI 0 G i 3).length cr]).length = i + 1 := by simp [hus]
            rw [HR1.out] at HQb
            have HUl := Lib.hid hul
            clear hown2 hgrow2 hnil2 hat2 HQa hul
            go_wp2_with fail
            go_roundw
            case rel => exact ⟨i + 1, _, _, us ++ [Value.slice Ar (rowI 0 G i 3).length cr], _, by go_num, by omega, HUl.out, HBb, HON, by rw [show 3 * (i + 1) = 3 * i + 3 by omega, ← HLq.out]; exact HQb⟩
            case measure => simp [intOf]; omega
          | false =>
            have HXa := Lib.hid hxa
            clear hxa
            go_wp2_with (at_builtin; refine wpList_append_own_at _ rfl (.tmp 125) (.tmp 127) 26 rfl B 4 b0 (.bool false) 1 1 Tryz.underlying26 hbi hb0 hb1 hb2 rfl (by decide) _ _ _ rfl (HQ.out.one.out.acc.alloc _) ⟨wr.heap.size, 0, none⟩ 1 1 [.bool xb] rfl rfl (cell_one_new _ _ _) (by simp [Value.oneCell']) (by unfold maxLen; omega) (by omega) (by simp; omega) ?_)
            intro v' w9 hown' hgrow hnil hat
            obtain ⟨ga, cpa, rfl⟩ := own_succ hown'
            obtain ⟨⟨z0, z1⟩, z2, HQ9⟩ := (HQ.out.below ((Below.refl _ _).alloc (Nat.le_refl _) (.cells #[.bool xb] 4))).acc_push hown' hgrow
            have HB9 := Lib.hid (((HBq.out.alloc hbwr (.cells #[.bool xb] 4)).grown hgrow (by simp; omega) (fun g e => (HQ.out.one.out.acc.lt g e).1)).setCell (p := ⟨B, 0, none⟩) (Nat.le_refl _) (.slice (some ⟨ga, 0, none⟩) (accs.length + 1) cpa))
            have HQ9 := Lib.hid HQ9
            obtain ⟨W9, hW9⟩ : ∃ W9, W9 = w9.setCell ⟨B, 0, none⟩ (.slice (some ⟨ga, 0, none⟩) (accs.length + 1) cpa) := ⟨_, rfl⟩
            rw [← hW9] at HQ9 HB9
            clear hown' hgrow hnil hat
            go_upto_region 23 with fail
            rw [← hW9]
            clear hW9 z1 z2 e0 f0
            have HA1 : Hid (accs ++ [xb] = (List.range (i + 1)).map fun j => (prd a b f).A (keyI 0 G j)) := Lib.hid (by rw [List.range_succ, List.map_append, HAc.out.1, List.map_cons, List.map_nil, ← HXx.out, HAd.out, ← HPq.out.1, ← HPq.out.2, ← HXa.out, ← HXb.out, HF.out]; simp)
            rw [HA1.out] at HQ9
            clear HA1
            obtain ⟨e1, f1⟩ := (⟨(box2_facts HQ9.out.one.out.box).2.1, (box2_facts HQ9.out.one.out.box).2.2.2⟩ : W9.cell? ⟨B, 1, none⟩ = some vn2 ∧ W9.frozen? ⟨B, 1, none⟩ = false)
            have hbw5 : B ≤ W9.heap.size := Nat.le_of_lt HQ9.out.one.base
            go_wp2_with (at_builtin; refine wpList_append_own_at _ rfl (.tmp 131) (.tmp 133) 27 rfl B 68 r0 (.slice none 0 0) 1 24 Tryz.underlying27 hri hr0 hr1 hr2 rfl (by decide) _ _ _ rfl (HQ9.out.one.out.nxt.alloc _) ⟨W9.heap.size, 0, none⟩ 1 1 [.slice Ar (rowI 0 G i 3).length cr] rfl rfl (cell_one_new _ _ _) (by simp [Value.oneCell']) (by unfold maxLen; omega) (by omega) (by simp; omega) ?_)
            intro v2 wa hown2 hgrow2 hnil2 hat2
            obtain ⟨gn, capn, rfl⟩ := own_succ hown2
            have HQa := HQ9.out.below ((Below.refl _ _).alloc (Nat.le_refl _) (.cells #[.slice Ar (rowI 0 G i 3).length cr] 68))
            obtain ⟨⟨z0, z1⟩, z2, HQb⟩ := HQa.nxt_push (vn' := .slice (some ⟨gn, 0, none⟩) (i + 1) capn) (by rw [rowI_length]; omega) (by rw [hus]; exact hown2) hgrow2
            have HBb := Lib.hid (((HB9.out.alloc hbw5 (.cells #[.slice Ar (rowI 0 G i 3).length cr] 68)).grown hgrow2 (by simp; omega) (fun g e => (HQ9.out.one.out.nxt.lt g e).1)).setCell (p := ⟨B, 1, none⟩) (Nat.le_refl _) (.slice (some ⟨gn, 0, none⟩) (i + 1) capn))
            have HQb := Lib.hid HQb
            have HON : Hid (∀ j, j < i + 1 → j < (ords 0 G (3 * j)).length) := Lib.hid (fun j hj => by
              rcases Nat.lt_or_eq_of_le (Nat.le_of_lt_succ hj) with h | h
              · exact hon.out j h
              · rw [h]; exact hi1)
            have HR1 : Hid (rss ++ [ints (rowI 0 G i 3)] = (List.range (i + 1)).map fun j => ints (rowI 0 G j 3)) := Lib.hid (by rw [List.range_succ, List.map_append, HAc.out.2]; rfl)
            have hul : (us ++ [Value.slice Ar (rowI 0 G i 3).length cr]).length = i + 1 := by simp [hus]
            rw [HR1.out] at HQb
            have HUl := Lib.hid hul
            clear hown2 hgrow2 hnil2 hat2 HQa hul
            go_wp2_with fail
            go_roundw
            case rel => exact ⟨i + 1, _, _, us ++ [Value.slice Ar (rowI 0 G i 3).length cr], _, by go_num, by omega, HUl.out, HBb, HON, by rw [show 3 * (i + 1) = 3 * i + 3 by omega, ← HLq.out]; exact HQb⟩
            case measure => simp [intOf]; omega
    · have hE := ends_intro (s0 := 0) (g := G) (N := i) hon.out (by rw [← HLo.out]; exact hlt)
      have hEp : Ends 0 (prd a b f).T i := by rw [← HMe.out.2]; exact hE
      obtain ⟨m1, m2, m3⟩ := own_found HPw.out hEp
      rw [← HMe.out.2] at m1 m2
      obtain ⟨f1, f2⟩ := ends_fields hE (prd a b f).A
      have HM2 := Lib.hid m2
      have hbl : accs.length ≤ 2000 := by rw [HAl.out]; omega
      have HD : Hid (DfaO wr (fun g => B ≤ g ∧ g < wr.heap.size) va2 vn2 (fieldsOf (found 0 G (prd a b f).A i))) := Lib.hid (ho.out.out.whole (by rw [HAc.out.1]; exact f1) (by
        rw [HAc.out.2]
        show intss (nxtOf (found 0 G (prd a b f).A i)) = _
        rw [f2]
        simp [intss]) (by omega) (by omega))
      have hva := (RowO.of_owns ho.out.out.acc (by omega)).row.shape
      have hvn := (RowO.of_owns ho.out.out.nxt (by omega)).row.shape
      obtain ⟨A1, q1, rfl⟩ := hva
      obtain ⟨A2, q2, hvn2⟩ := hvn
      rw [hus] at hvn2
      subst hvn2
      have HFit := Lib.hid (specFits_any _ _ (found 0 G (prd a b f).A i) _ wr m1 (by show i ≤ 2000; omega) HD.out.dfa)
      obtain ⟨e0, e1, -, -⟩ := box2_facts ho.out.out.box
      have HBW := Lib.hid (HB2.out.trans (HBr.out.mono (by rw [HBe.out]; exact HB2.out.size)))
      have hd : decide ((i : Int) < (lo.length : Int)) = false := by simp; omega
      clear m1 m2 m3 f1 f2 hE hEp
      go_wp2_with fail
      go_at_call 58
      refine HFit.out.mono ?_
      rintro e w3 ⟨m, m1, m2, hcd⟩
      have HM := Lib.hid (And.intro m1 (m2.trans HM2.out))
      obtain ⟨C1, p1, C2, p2, rfl, hoo, hb3⟩ := hcd.shape
      obtain ⟨x1, hx1⟩ : ∃ x, x = (fitD m).acc.length := ⟨_, rfl⟩
      obtain ⟨x2, hx2⟩ : ∃ x, x = (fitD m).nxt.length := ⟨_, rfl⟩
      obtain ⟨ok, hok⟩ : ∃ b, b = decide (m.n ≤ 40) := ⟨_, rfl⟩
      rw [← hx1, ← hx2] at hoo ⊢
      rw [← hok]
      have HOk := Lib.hid hok
      have HO3 := Lib.hid hoo
      have HB3 := Lib.hid (HBW.out.trans (hb3.mono HBW.out.size))
      have hz2 := HBW.out.size
      have hz3 := hb3.size
      have hyl := blk_lt HY.out
      obtain ⟨W4, hW4⟩ : ∃ W4, W4 = w3.alloc (.cells #[.slice C1 x1 p1, .slice C2 x2 p2] 29) := ⟨_, rfl⟩
      have HX4 : Hid (W4.heap[w3.heap.size]? = some (.cells #[.slice C1 x1 p1, .slice C2 x2 p2] 29 (0, 0)) ∧ Below w3.heap.size w3 W4) := Lib.hid (by
        rw [hW4]
        exact ⟨heap_alloc_new w3 _, (Below.refl _ _).alloc (Nat.le_refl _) _⟩)
      obtain ⟨g0, g1, -, -⟩ := box2_facts HX4.out.1
      obtain ⟨c0, c1, k0, k1⟩ := box2_facts ((HX4.out.2.block _ (by omega)).trans ((HB3.out.block _ hyl).trans HY.out))
      obtain ⟨hcl, hsz, hot, hBl⟩ := put2 (k := .slice C1 x1 p1) (l := .slice C2 x2 p2) c0 c1
      obtain ⟨hr0, hr1'⟩ := hcl
      have HOt := Lib.hid (And.intro hsz (And.intro hot hBl))
      have HW4 := Lib.hid hW4
      rw [hW4] at g0 g1 c0 c1 k0 k1 hr0 hr1'
      clear hsz hot hBl hoo hb3 hcd hx1 hx2 m1 m2 hW4 hok e0 e1 hd
      go_wp2_with fail
      refine bodyPost_ret (v := .tuple #[.agg #[.slice C1 x1 p1, .slice C2 x2 p2], .bool ok]) (by simp [results, Tryz.results34, go_sem, hr0, hr1']) rfl ?_
      rw [← HW4.out]
      have h0 := HB0.out.size
      have hz4 := HX4.out.2.size
      refine ⟨m, HM.out.1, HM.out.2, ?_⟩
      rw [← HOk.out]
      exact ⟨_, _, rfl, HO3.out.mono (fun g hg => (HOt.out.2.1 g (by have := hg.1; omega)).trans (HX4.out.2.block g hg.2)) (fun g hg => ⟨by have := hg.1; omega, by rw [HOt.out.1]; have := hg.2; omega⟩) (by rw [HOt.out.1]; exact hz4), HOt.out.2.2 _ _ (HB0.out.trans ((HB3.out.trans (HX4.out.2.mono HB3.out.size)).mono h0)) (by omega)⟩
end Go.Proofs.YtlkhmpdncimnfaaGreatDoor

namespace Go.Proofs.YtlkhmpdncimnfaaGreatDoor
open Go.RowKit

set_option maxRecDepth 100000 in
set_option maxHeartbeats 12800000 in
theorem specPrd_and (va vn va' vn' : Value) (d d' : Dx) (S S' : Nat → Prop) (w : World) (h : DfaV w S va vn d) (h' : DfaV w S' va' vn' d') (hv : validD d = true) (hv' : validD d' = true) :
    Calls Tryz.prog 34 #[.agg #[va, vn], .agg #[va', vn'], .int .i64 7] w (PrdPostS (auD d) (auD d') (fun x y => x && y) w) := by
  obtain ⟨i0, hi, hz0, hz1, hz2⟩ := info_parts intInfo
  obtain ⟨b0, hbi, hb0, hb1, hb2⟩ := info_parts boolInfo
  obtain ⟨r0, hri, hr0, hr1, hr2⟩ := info_parts rowInfo
  obtain ⟨hw, hn40, hnn, hl, ad, cc, ad', cc', rfl, rfl, hA, hT⟩ := h.au hv
  obtain ⟨hw', hn40', hnn', hl', bd, ec, bd', ec', rfl, rfl, hA', hT'⟩ := h'.au hv'
  obtain ⟨n, hne⟩ : ∃ n, n = d.acc.length := ⟨_, rfl⟩
  obtain ⟨n', hne'⟩ : ∃ n', n' = d'.acc.length := ⟨_, rfl⟩
  rw [← hne] at hA hT hnn
  rw [← hne'] at hA' hT' hnn'
  obtain ⟨W0, hW0⟩ : ∃ W0, W0 = ((w.alloc (.cells #[.slice (some ad) n cc, .slice (some ad') n cc'] 29)).alloc (.cells #[.slice (some bd) n' ec, .slice (some bd') n' ec'] 29)).alloc (.cells #[.slice none 0 0, .slice none 0 0] 29) := ⟨_, rfl⟩
  have h3 := three_box' w (.cells #[.slice (some ad) n cc, .slice (some ad') n cc'] 29) (.cells #[.slice (some bd) n' ec, .slice (some bd') n' ec'] 29) (.cells #[.slice none 0 0, .slice none 0 0] 29)
  rw [← hW0] at h3
  have HB0 : Hid (Below w.heap.size w W0) := Lib.hid h3.2.2.2
  have HX := Lib.hid h3.1
  have HX' := Lib.hid h3.2.1
  have HY := Lib.hid h3.2.2.1
  clear h3
  have HV := Lib.hid (specValidD_any (.slice (some ad) n cc) (.slice (some ad') n cc') d S W0 (by rw [hne]; exact h.kept HB0.out))
  have HV' := Lib.hid (fun (V : World) (hV : Below w.heap.size w V) => specValidD_any (.slice (some bd) n' ec) (.slice (some bd') n' ec') d' S' V (by rw [hne']; exact h'.kept hV))
  rw [hv] at HV
  rw [hv'] at HV'
  obtain ⟨f, hf⟩ : ∃ f : Bool → Bool → Bool, f = (fun x y => x && y) := ⟨_, rfl⟩
  obtain ⟨a, ha⟩ : ∃ a, a = auD d := ⟨_, rfl⟩
  obtain ⟨b, hb⟩ : ∃ b, b = auD d' := ⟨_, rfl⟩
  rw [← ha] at hw hnn hA hT hn40
  rw [← hb] at hw' hnn' hA' hT' hn40'
  rw [← hne, ← hne', ← ha, ← hb, ← hf]
  obtain ⟨M, hMe⟩ : ∃ M, M = n * n' := ⟨_, rfl⟩
  have hM : M ≤ 1600 := by
    have := Nat.mul_le_mul (show n ≤ 40 by omega) (show n' ≤ 40 by omega)
    omega
  obtain ⟨G, hG⟩ : ∃ G, G = (prd a b f).T := ⟨_, rfl⟩
  have HGd : Hid (∀ x k, G x k = a.T (x / n') k * n' + b.T (x % n') k) := Lib.hid (fun x k => by rw [hG, ← hnn']; rfl)
  have HAd : Hid (∀ x, (prd a b f).A x = f (a.A (x / n')) (b.A (x % n'))) := Lib.hid (fun x => by rw [← hnn']; rfl)
  have HPw := Lib.hid (prd_wf f hw hw')
  have HKeys : Hid (∀ t, (∀ x ∈ ords 0 G t, x < M) ∧ (ords 0 G t).length ≤ M) := Lib.hid (fun t => by
    have h1 := own_keys HPw.out t
    rw [hG, hMe, ← hnn, ← hnn']
    exact h1)
  have HA : Hid (∀ q, q < n → w.cell? (ad.add q) = some (.bool (a.A q))) := Lib.hid hA
  have HA' : Hid (∀ q, q < n' → w.cell? (bd.add q) = some (.bool (b.A q))) := Lib.hid hA'
  have HT := Lib.hid hT
  have HT' := Lib.hid hT'
  have HWf : Hid (∀ x k, x < n → k < 3 → a.T x k < n) := Lib.hid (by rw [← hnn]; exact hw.2)
  have HWf' : Hid (∀ x k, x < n' → k < 3 → b.T x k < n') := Lib.hid (by rw [← hnn']; exact hw'.2)
  have hn0 : 0 < n := by have := hw.1; omega
  have hn0' : 0 < n' := by have := hw'.1; omega
  have HMe := Lib.hid (And.intro hMe hG)
  have HF := Lib.hid hf
  have hnl : n ≤ 40 := by omega
  have hnl' : n' ≤ 40 := by omega
  obtain ⟨hc0, hc1, -, -⟩ := box2_facts HX.out
  obtain ⟨hd0, hd1, -, -⟩ := box2_facts HX'.out
  rw [hW0] at hc0 hc1 hd0 hd1
  clear h h' hw hw' hA hA' hT hT' hne hne' hMe hG hf ha hb hnn hnn' hl hl' hv hv' hn40 hn40'
  go_enter Tryz.func34, Tryz.ntmps34
  go_wp2_with fail
  go_at_call 53
  rw [← hW0]
  refine HV.out.mono ?_
  rintro e1 w1 ⟨rfl, hb1⟩
  have HB1 := Lib.hid hb1
  clear hc0 hc1 hd0 hd1 hW0 hb1
  obtain ⟨hd0, hd1, -, -⟩ := box2_facts ((HB1.out.block _ (blk_lt HX'.out)).trans HX'.out)
  go_wp2_with fail
  go_at_call 53
  refine (HV'.out w1 (HB0.out.trans (HB1.out.mono HB0.out.size))).mono ?_
  rintro e2 w2 ⟨rfl, hb2⟩
  have HB2 := Lib.hid (HB1.out.trans (hb2.mono HB1.out.size))
  clear hd0 hd1 hb2
  obtain ⟨hd0, hd1, -, -⟩ := box2_facts ((HB2.out.block _ (blk_lt HX'.out)).trans HX'.out)
  obtain ⟨HS, HSB⟩ := One.start2 w2 0
  have HSt := Lib.hid HS
  have HStB := Lib.hid HSB
  clear HS HSB
  go_wp2_with fail
  obtain ⟨B, hBe⟩ : ∃ B, B = w2.heap.size := ⟨_, rfl⟩
  rw [← hBe] at HSt HStB ⊢
  have HBe := Lib.hid hBe
  have HE0 : Hid (ordI 0 G (3 * 0) = [0]) := Lib.hid rfl
  go_loopw [10, 11] (fun vo iv wr => ∃ (i : Nat) (va2 vn2 : Value) (us : List Value) (K : Nat → Nat → Prop), iv = .int .i64 i ∧ i ≤ M ∧ us.length = i ∧ Hid (Below B w2 wr) ∧ Hid (∀ j, j < i → j < (ords 0 G (3 * j)).length) ∧ Hid (One B wr B va2 vn2 ((List.range i).map fun j => (prd a b f).A (keyI 0 G j)) us ((List.range i).map fun j => ints (rowI 0 G j 3)) K vo (ordI 0 G (3 * i)))) (fun _ iv _ => M + 1 - (intOf iv).toNat)
  case atStart => exact ⟨0, _, _, [], _, rfl, Nat.zero_le _, rfl, HStB, Lib.hid (fun j hj => absurd hj (Nat.not_lt_zero _)), by rw [HE0.out]; exact HSt⟩
  clear HSt HStB hBe hd0 hd1
  case round =>
    obtain ⟨i, va2, vn2, us, K, rfl, hin, hus, HBr, hon, ho⟩ := hrel
    obtain ⟨accs, hacc⟩ : ∃ accs, accs = (List.range i).map fun j => (prd a b f).A (keyI 0 G j) := ⟨_, rfl⟩
    obtain ⟨rss, hrss⟩ : ∃ rss, rss = (List.range i).map fun j => ints (rowI 0 G j 3) := ⟨_, rfl⟩
    obtain ⟨lo, hlo⟩ : ∃ lo, lo = ordI 0 G (3 * i) := ⟨_, rfl⟩
    rw [← hacc, ← hrss, ← hlo] at ho
    have HAc := Lib.hid (And.intro hacc hrss)
    have hll : lo.length ≤ M := by rw [hlo, ordI_length]; exact (HKeys.out _).2
    have HLo := Lib.hid hlo
    have hal : accs.length = i := by rw [hacc]; simp
    have HAl := Lib.hid hal
    clear hacc hrss hlo hal
    obtain ⟨-, Ao, co, rfl⟩ := (ho.out.ord.row (by omega)).row.ints_shape
    have HBw := Lib.hid (HB0.out.trans ((HB2.out.trans (HBr.out.mono (by rw [HBe.out]; exact HB2.out.size))).mono HB0.out.size))
    have hX1 : Hid (wr.heap[w.heap.size]? = some (.cells #[.slice (some ad) n cc, .slice (some ad') n cc'] 29 (0, 0)) ∧ wr.heap[w.heap.size + 1]? = some (.cells #[.slice (some bd) n' ec, .slice (some bd') n' ec'] 29 (0, 0))) := Lib.hid (by
      have hb3 := HB2.out.trans (HBr.out.mono (by rw [HBe.out]; exact HB2.out.size))
      exact ⟨(hb3.block _ (blk_lt HX.out)).trans HX.out, (hb3.block _ (blk_lt HX'.out)).trans HX'.out⟩)
    by_cases hlt : i < lo.length
    · have hi1 : i < (ords 0 G (3 * i)).length := by rw [← ordI_length, ← HLo.out]; exact hlt
      have hxM : keyI 0 G i < M := (HKeys.out (3 * i)).1 _ (getD_mem hi1)
      obtain ⟨-, st1⟩ := ordI_at (s0 := 0) (g := G) (t := 3 * i) hi1 (by omega)
      obtain ⟨x, hx⟩ : ∃ x, x = keyI 0 G i := ⟨_, rfl⟩
      rw [← hx] at hxM
      rw [← hx, ← HLo.out] at st1
      have HXx := Lib.hid hx
      obtain ⟨p, hp⟩ : ∃ p, p = x / n' := ⟨_, rfl⟩
      obtain ⟨q, hq⟩ : ∃ q, q = x % n' := ⟨_, rfl⟩
      have hpn : p < n := by rw [hp]; exact div_lt (by rw [← HMe.out.1]; exact hxM)
      have hqn : q < n' := by rw [hq]; exact Nat.mod_lt _ hn0'
      have hdv : (x : Int) / (n' : Int) = (p : Int) := by rw [hp]; simp
      have hmd : (x : Int) % (n' : Int) = (q : Int) := by rw [hq]; simp
      have HPq := Lib.hid (And.intro hp hq)
      obtain ⟨ado, ca, hvo, hco⟩ := Two.cell_row ho.out.ord (by omega) hlt
      injection hvo with hvo1 _ hvo2
      subst hvo1
      subst hvo2
      rw [st1] at hco
      have hd : decide ((i : Int) < (lo.length : Int)) = true := by simp; omega
      have s1 : (i : Int) < (lo.length : Int) := by omega
      have s2 : (0 : Int) ≤ (i : Int) := by omega
      have s3 : (0 : Int) < (n' : Int) := by omega
      have s4 : (0 : Int) ≤ (x : Int) := by omega
      have s5 : ((n' : Int) == 0) = false := by simp; omega
      have s6 : (x : Int) ≤ 1600 := by omega
      have HTwo := Lib.hid ho.out.two
      have HTw0 : Hid (Two B (wr.alloc (.cells #[] 3)) B va2 vn2 accs us rss K (.slice (some ado) lo.length co) (ordI 0 G (3 * i + 0)) (.slice (some ⟨wr.heap.size, 0, none⟩) 0 0) (rowI 0 G i 0)) := by
        rw [show 3 * i + 0 = 3 * i from rfl, ← HLo.out]
        exact HTwo
      clear HTwo st1 hx hp hq
      have HBa := Lib.hid (HBr.out.alloc (Nat.le_of_lt ho.out.base) (.cells #[] 3))
      go_upto_region 13 with fail
      clear hd hco hdv hmd s1 s2 s3 s4 s5 s6 ho
      go_loopw [10, 14, 15] (fun vo vr kv wq => ∃ k : Nat, kv = .int .i64 k ∧ k ≤ 3 ∧ Hid (Below B w2 wq) ∧ Hid (Two B wq B va2 vn2 accs us rss K vo (ordI 0 G (3 * i + k)) vr (rowI 0 G i k))) (fun _ _ kv _ => 3 - (intOf kv).toNat)
      case atStart => exact ⟨0, rfl, Nat.zero_le _, HBa, HTw0⟩
      case round =>
        obtain ⟨k, rfl, hk, HBq, HQ⟩ := hrel
        clear HTw0 HBa
        have HBz := Lib.hid (HB0.out.trans ((HB2.out.trans (HBq.out.mono (by rw [HBe.out]; exact HB2.out.size))).mono HB0.out.size))
        have HXq : Hid (wr.heap[w.heap.size]? = some (.cells #[.slice (some ad) n cc, .slice (some ad') n cc'] 29 (0, 0)) ∧ wr.heap[w.heap.size + 1]? = some (.cells #[.slice (some bd) n' ec, .slice (some bd') n' ec'] 29 (0, 0))) := Lib.hid (by
          have hb3 := HB2.out.trans (HBq.out.mono (by rw [HBe.out]; exact HB2.out.size))
          exact ⟨(hb3.block _ (blk_lt HX.out)).trans HX.out, (hb3.block _ (blk_lt HX'.out)).trans HX'.out⟩)
        by_cases hk3 : k < 3
        · obtain ⟨-, st2, st3⟩ := ordI_step (s0 := 0) (g := G) hi1 hk3
          have hln : (ordI 0 G (3 * i + k)).length ≤ M := by rw [ordI_length]; exact (HKeys.out _).2
          have hln' : (ordI 0 G (3 * i + (k + 1))).length ≤ M := by rw [ordI_length]; exact (HKeys.out _).2
          obtain ⟨lq, hlq⟩ : ∃ lq, lq = ordI 0 G (3 * i + k) := ⟨_, rfl⟩
          obtain ⟨lp, hlp⟩ : ∃ lp, lp = ordI 0 G (3 * i + (k + 1)) := ⟨_, rfl⟩
          rw [← HXx.out, ← hlq, ← hlp] at st2
          rw [← HXx.out, ← hlp] at st3
          rw [← hlq] at hln HQ
          rw [← hlp] at hln'
          have HLp := Lib.hid hlp
          clear hlq hlp
          obtain ⟨-, Aq, cq, rfl⟩ := (HQ.out.one.ord.row (by omega)).row.ints_shape
          obtain ⟨a2, c2, hr2, hr3⟩ := HT.out p hpn
          obtain ⟨b2, e2, hs2, hs3⟩ := HT'.out q hqn
          have hr4 := hr3 k hk3
          have hs4 := hs3 k hk3
          have hta := HWf.out p k hpn hk3
          have htb := HWf'.out q k hqn hk3
          obtain ⟨y, hy⟩ : ∃ y, y = G x k := ⟨_, rfl⟩
          have hyd : y = a.T p k * n' + b.T q k := by rw [hy, HGd.out, ← HPq.out.1, ← HPq.out.2]
          rw [← hy] at st2 st3
          obtain ⟨ta, hta'⟩ : ∃ ta, ta = a.T p k := ⟨_, rfl⟩
          obtain ⟨tb, htb'⟩ : ∃ tb, tb = b.T q k := ⟨_, rfl⟩
          rw [← hta'] at hta hr4 hyd
          rw [← htb'] at htb hs4 hyd
          obtain ⟨m, hm⟩ : ∃ m, m = ta * n' := ⟨_, rfl⟩
          rw [← hm] at hyd
          have hm0 : m ≤ 1600 := by
            have := Nat.mul_le_mul (show ta ≤ 40 by omega) (show n' ≤ 40 by omega)
            omega
          have hw0 : (ta : Int) * (n' : Int) = (m : Int) := by rw [hm]; simp
          have hw1 : IntKind.i64.wrap ((ta : Int) * (n' : Int)) = (m : Int) := by rw [hw0]; exact IntWalk.i64_in _ (by omega)
          have hw2 : IntKind.i64.wrap ((m : Int) + (tb : Int)) = (y : Int) := by rw [hyd]; exact (IntWalk.i64_in _ (by omega)).trans (by omega)
          obtain ⟨z, hz⟩ : ∃ z, z = findV lq (y : Int) := ⟨_, rfl⟩
          rw [← hz] at st2
          have HS2 := Lib.hid st2
          obtain ⟨tt, htt⟩ : ∃ tt : Int, tt = (toI 0 G i k : Int) := ⟨_, rfl⟩
          rw [← htt] at st3
          have HTt := Lib.hid htt
          have HS3 := Lib.hid st3
          have hrl : (rowI 0 G i k).length ≤ 3 := by rw [rowI_length]; omega
          have HFind := Lib.hid (fun V (hV : Below wr.heap.size wr V) => specFind_below (y : Int) HQ.out.one.ord (by omega) hV)
          rw [← hz] at HFind
          have g2 := (HBz.out.cell (cell_in hr2)).trans hr2
          have g3 := (HBz.out.cell (cell_in hr4)).trans hr4
          have g4 := (HBz.out.cell (cell_in hs2)).trans hs2
          have g5 := (HBz.out.cell (cell_in hs4)).trans hs4
          obtain ⟨-, g6, -, -⟩ := box2_facts HXq.out.1
          obtain ⟨-, g7, -, -⟩ := box2_facts HXq.out.2
          have s1 : (p : Int) < (n : Int) := by omega
          have s2 : (0 : Int) ≤ (p : Int) := by omega
          have s3 : (q : Int) < (n' : Int) := by omega
          have s4 : (0 : Int) ≤ (q : Int) := by omega
          have s7 : (k : Int) < 3 := by omega
          have s8 : (0 : Int) ≤ (k : Int) := by omega
          have hd : decide ((k : Int) < 3) = true := by simp; omega
          clear htt st2 st3 hr2 hr3 hr4 hs2 hs3 hs4 hy hyd hta' htb' hm hz hw0
          go_wp2_with fail
          go_quiet (fail)
          clear g2 g3 g4 g5 g6 g7 hw1 hw2
          go_wp2_with fail
          go_at_call 59
          refine (HFind.out _ (below_draws (Below.refl _ _) _)).mono ?_
          rintro e w8 ⟨rfl, hb8⟩
          have HB8 := Lib.hid (HBq.out.grown (grown_of hb8) (Nat.le_of_lt HQ.out.one.base) (fun g e => by cases e))
          have HQ8 := Lib.hid (HQ.out.below hb8)
          clear hb8 hd
          by_cases hzz : z < 0
          · have hd : decide (z < 0) = true := by simp [hzz]
            have hap := HS2.out.1 hzz
            have HAp := Lib.hid hap
            have hbw : B ≤ w8.heap.size := Nat.le_of_lt HQ8.out.one.base
            clear hap hzz
            go_wp2_with (at_builtin; refine wpList_append_own_at _ rfl (.tmp 88) (.tmp 90) 68 rfl B 3 i0 (.int .i64 0) 1 8 Tryz.underlying68 hi hz0 hz1 hz2 rfl (by decide) _ _ _ rfl (HQ8.out.one.ord.alloc _) ⟨w8.heap.size, 0, none⟩ 1 1 [.int .i64 (y : Int)] rfl rfl (cell_one_new _ _ _) (by simp [Value.oneCell']) (by unfold maxLen; omega) (by omega) (by simp; omega) ?_)
            intro v' w9 hown' hgrow hnil hat
            have HQ9 := Lib.hid ((HQ8.out.below ((Below.refl _ _).alloc (Nat.le_refl _) (.cells #[.int .i64 (y : Int)] 3))).ord_push hown' hgrow (by simpa using hat))
            have HB9 := Lib.hid ((HB8.out.alloc hbw (.cells #[.int .i64 (y : Int)] 3)).grown hgrow (by simp; omega) (fun g e => (HQ8.out.one.ord.lt g e).1))
            rw [← HAp.out] at HQ9
            clear hown' hgrow hnil hat hd
            have HF2 := Lib.hid (fun V (hV : Below w9.heap.size w9 V) => specFind_below (y : Int) HQ9.out.one.ord (by omega) hV)
            rw [HS3.out] at HF2
            go_wp2_with fail
            go_at_call 59
            refine (HF2.out _ (Below.refl _ _)).mono ?_
            rintro e wd ⟨rfl, hbd⟩
            have HBd := Lib.hid (HB9.out.grown (grown_of hbd) (Nat.le_of_lt HQ9.out.one.base) (fun g e => by cases e))
            have HQd := Lib.hid (HQ9.out.below hbd)
            have hbw2 : B ≤ wd.heap.size := Nat.le_of_lt HQd.out.one.base
            clear hbd
            go_wp2_with (at_builtin; refine wpList_append_own_at _ rfl (.tmp 92) (.tmp 96) 68 rfl B 3 i0 (.int .i64 0) 1 8 Tryz.underlying68 hi hz0 hz1 hz2 rfl (by decide) _ _ _ rfl (HQd.out.row.alloc _) ⟨wd.heap.size, 0, none⟩ 1 1 [.int .i64 tt] rfl rfl (cell_one_new _ _ _) (by simp [Value.oneCell']) (by unfold maxLen; omega) (by omega) (by simp; omega) ?_)
            intro v2 wf hown2 hgrow2 hnil2 hat2
            have HQf := Lib.hid ((HQd.out.below ((Below.refl _ _).alloc (Nat.le_refl _) (.cells #[.int .i64 tt] 3))).row_push hown2 hgrow2 (by simpa using hat2))
            have HBf := Lib.hid ((HBd.out.alloc hbw2 (.cells #[.int .i64 tt] 3)).grown hgrow2 (by simp; omega) (fun g e => (HQd.out.row.lt g e).1))
            rw [HTt.out, ← rowI_succ] at HQf
            clear hown2 hgrow2 hnil2 hat2
            go_wp2_with fail
            go_roundw
            case rel => exact ⟨k + 1, by go_num, by omega, HBf, by rw [← HLp.out]; exact HQf⟩
            case measure => simp [intOf]; omega
          · have hd : decide (z < 0) = false := by simp; omega
            have hap := HS2.out.2 (by omega)
            subst hap
            have HQ9 := Lib.hid HQ8.out
            have HB9 := Lib.hid HB8.out
            clear hzz
            have HF2 := Lib.hid (fun V (hV : Below w8.heap.size w8 V) => specFind_below (y : Int) HQ9.out.one.ord (by omega) hV)
            rw [HS3.out] at HF2
            go_wp2_with fail
            go_at_call 59
            refine (HF2.out _ (Below.refl _ _)).mono ?_
            rintro e wd ⟨rfl, hbd⟩
            have HBd := Lib.hid (HB9.out.grown (grown_of hbd) (Nat.le_of_lt HQ9.out.one.base) (fun g e => by cases e))
            have HQd := Lib.hid (HQ9.out.below hbd)
            have hbw2 : B ≤ wd.heap.size := Nat.le_of_lt HQd.out.one.base
            clear hbd
            go_wp2_with (at_builtin; refine wpList_append_own_at _ rfl (.tmp 92) (.tmp 96) 68 rfl B 3 i0 (.int .i64 0) 1 8 Tryz.underlying68 hi hz0 hz1 hz2 rfl (by decide) _ _ _ rfl (HQd.out.row.alloc _) ⟨wd.heap.size, 0, none⟩ 1 1 [.int .i64 tt] rfl rfl (cell_one_new _ _ _) (by simp [Value.oneCell']) (by unfold maxLen; omega) (by omega) (by simp; omega) ?_)
            intro v2 wf hown2 hgrow2 hnil2 hat2
            have HQf := Lib.hid ((HQd.out.below ((Below.refl _ _).alloc (Nat.le_refl _) (.cells #[.int .i64 tt] 3))).row_push hown2 hgrow2 (by simpa using hat2))
            have HBf := Lib.hid ((HBd.out.alloc hbw2 (.cells #[.int .i64 tt] 3)).grown hgrow2 (by simp; omega) (fun g e => (HQd.out.row.lt g e).1))
            rw [HTt.out, ← rowI_succ] at HQf
            clear hown2 hgrow2 hnil2 hat2 hd
            go_wp2_with fail
            go_roundw
            case rel => exact ⟨k + 1, by go_num, by omega, HBf, by rw [← HLp.out]; exact HQf⟩
            case measure => simp [intOf]; omega
        · obtain rfl : k = 3 := by omega
          obtain ⟨-, Ar, cr, rfl⟩ := (HQ.out.row.row (by rw [rowI_length]; omega)).row.ints_shape
          obtain ⟨lq, hlq⟩ : ∃ lq, lq = ordI 0 G (3 * i + 3) := ⟨_, rfl⟩
          rw [← hlq] at HQ
          have HLq := Lib.hid hlq
          have hln : lq.length ≤ M := by rw [hlq, ordI_length]; exact (HKeys.out _).2
          clear hlq
          obtain ⟨-, Aq, cq, rfl⟩ := (HQ.out.one.ord.row (by omega)).row.ints_shape
          have hax := HA.out p hpn
          have hbx := HA'.out q hqn
          obtain ⟨xa, hxa⟩ : ∃ xa, xa = a.A p := ⟨_, rfl⟩
          obtain ⟨xb, hxb⟩ : ∃ xb, xb = b.A q := ⟨_, rfl⟩
          rw [← hxa] at hax
          rw [← hxb] at hbx
          have HXb := Lib.hid hxb
          have g2 := (HBz.out.cell (cell_in hax)).trans hax
          have g4 := (HBz.out.cell (cell_in hbx)).trans hbx
          obtain ⟨g6, -, -, -⟩ := box2_facts HXq.out.1
          obtain ⟨g7, -, -, -⟩ := box2_facts HXq.out.2
          obtain ⟨e0, -, f0, -⟩ := box2_facts HQ.out.one.out.box
          have s1 : (p : Int) < (n : Int) := by omega
          have s2 : (0 : Int) ≤ (p : Int) := by omega
          have s3 : (q : Int) < (n' : Int) := by omega
          have s4 : (0 : Int) ≤ (q : Int) := by omega
          have hbwr : B ≤ wr.heap.size := Nat.le_of_lt HQ.out.one.base
          have hbl : accs.length ≤ 2000 := by rw [HAl.out]; omega
          obtain ⟨Aa, qa, hva⟩ := (RowO.of_owns HQ.out.one.out.acc (by omega)).row.shape
          rw [bools_length] at hva
          subst hva
          clear hax hbx hxb
          cases xa with
          | true =>
            have HXa := Lib.hid hxa
            clear hxa
            go_wp2_with (at_builtin; refine wpList_append_own_at _ rfl (.tmp 125) (.tmp 127) 26 rfl B 4 b0 (.bool false) 1 1 Tryz.underlying26 hbi hb0 hb1 hb2 rfl (by decide) _ _ _ rfl (HQ.out.one.out.acc.alloc _) ⟨wr.heap.size, 0, none⟩ 1 1 [.bool xb] rfl rfl (cell_one_new _ _ _) (by simp [Value.oneCell']) (by unfold maxLen; omega) (by omega) (by simp; omega) ?_)
            intro v' w9 hown' hgrow hnil hat
            obtain ⟨ga, cpa, rfl⟩ := own_succ hown'
            obtain ⟨⟨z0, z1⟩, z2, HQ9⟩ := (HQ.out.below ((Below.refl _ _).alloc (Nat.le_refl _) (.cells #[.bool xb] 4))).acc_push hown' hgrow
            have HB9 := Lib.hid (((HBq.out.alloc hbwr (.cells #[.bool xb] 4)).grown hgrow (by simp; omega) (fun g e => (HQ.out.one.out.acc.lt g e).1)).setCell (p := ⟨B, 0, none⟩) (Nat.le_refl _) (.slice (some ⟨ga, 0, none⟩) (accs.length + 1) cpa))
            have HQ9 := Lib.hid HQ9
            obtain ⟨W9, hW9⟩ : ∃ W9, W9 = w9.setCell ⟨B, 0, none⟩ (.slice (some ⟨ga, 0, none⟩) (accs.length + 1) cpa) := ⟨_, rfl⟩
            rw [← hW9] at HQ9 HB9
            clear hown' hgrow hnil hat
            go_upto_region 23 with fail
            rw [← hW9]
            clear hW9 z1 z2 e0 f0
            have HA1 : Hid (accs ++ [xb] = (List.range (i + 1)).map fun j => (prd a b f).A (keyI 0 G j)) := Lib.hid (by rw [List.range_succ, List.map_append, HAc.out.1, List.map_cons, List.map_nil, ← HXx.out, HAd.out, ← HPq.out.1, ← HPq.out.2, ← HXa.out, ← HXb.out, HF.out]; simp)
            rw [HA1.out] at HQ9
            clear HA1
            obtain ⟨e1, f1⟩ := (⟨(box2_facts HQ9.out.one.out.box).2.1, (box2_facts HQ9.out.one.out.box).2.2.2⟩ : W9.cell? ⟨B, 1, none⟩ = some vn2 ∧ W9.frozen? ⟨B, 1, none⟩ = false)
            have hbw5 : B ≤ W9.heap.size := Nat.le_of_lt HQ9.out.one.base
            go_wp2_with (at_builtin; refine wpList_append_own_at _ rfl (.tmp 131) (.tmp 133) 27 rfl B 68 r0 (.slice none 0 0) 1 24 Tryz.underlying27 hri hr0 hr1 hr2 rfl (by decide) _ _ _ rfl (HQ9.out.one.out.nxt.alloc _) ⟨W9.heap.size, 0, none⟩ 1 1 [.slice Ar (rowI 0 G i 3).length cr] rfl rfl (cell_one_new _ _ _) (by simp [Value.oneCell']) (by unfold maxLen; omega) (by omega) (by simp; omega) ?_)
            intro v2 wa hown2 hgrow2 hnil2 hat2
            obtain ⟨gn, capn, rfl⟩ := own_succ hown2
            have HQa := HQ9.out.below ((Below.refl _ _).alloc (Nat.le_refl _) (.cells #[.slice Ar (rowI 0 G i 3).length cr] 68))
            obtain ⟨⟨z0, z1⟩, z2, HQb⟩ := HQa.nxt_push (vn' := .slice (some ⟨gn, 0, none⟩) (i + 1) capn) (by rw [rowI_length]; omega) (by rw [hus]; exact hown2) hgrow2
            have HBb := Lib.hid (((HB9.out.alloc hbw5 (.cells #[.slice Ar (rowI 0 G i 3).length cr] 68)).grown hgrow2 (by simp; omega) (fun g e => (HQ9.out.one.out.nxt.lt g e).1)).setCell (p := ⟨B, 1, none⟩) (Nat.le_refl _) (.slice (some ⟨gn, 0, none⟩) (i + 1) capn))
            have HQb := Lib.hid HQb
            have HON : Hid (∀ j, j < i + 1 → j < (ords 0 G (3 * j)).length) := Lib.hid (fun j hj => by
              rcases Nat.lt_or_eq_of_le (Nat.le_of_lt_succ hj) with h | h
              · exact hon.out j h
              · rw [h]; exact hi1)
            have HR1 : Hid (rss ++ [ints (rowI 0 G i 3)] = (List.range (i + 1)).map fun j => ints (rowI 0 G j 3)) := Lib.hid (by rw [List.range_succ, List.map_append, HAc.out.2]; rfl)
            have hul : (us ++ [Value.slice Ar (rowI 0 G i 3).length cr]).length = i + 1 := by simp [hus]
            rw [HR1.out] at HQb
            have HUl := Lib.hid hul
            clear hown2 hgrow2 hnil2 hat2 HQa hul
            go_wp2_with fail
            go_roundw
            case rel => exact ⟨i + 1, _, _, us ++ [Value.slice Ar (rowI 0 G i 3).length cr], _, by go_num, by omega, HUl.out, HBb, HON, by rw [show 3 * (i + 1) = 3 * i + 3 by omega, ← HLq.out]; exact HQb⟩
            case measure => simp [intOf]; omega
          | false =>
            have HXa := Lib.hid hxa
            clear hxa
            go_wp2_with (at_builtin; refine wpList_append_own_at _ rfl (.tmp 125) (.tmp 127) 26 rfl B 4 b0 (.bool false) 1 1 Tryz.underlying26 hbi hb0 hb1 hb2 rfl (by decide) _ _ _ rfl (HQ.out.one.out.acc.alloc _) ⟨wr.heap.size, 0, none⟩ 1 1 [.bool false] rfl rfl (cell_one_new _ _ _) (by simp [Value.oneCell']) (by unfold maxLen; omega) (by omega) (by simp; omega) ?_)
            intro v' w9 hown' hgrow hnil hat
            obtain ⟨ga, cpa, rfl⟩ := own_succ hown'
            obtain ⟨⟨z0, z1⟩, z2, HQ9⟩ := (HQ.out.below ((Below.refl _ _).alloc (Nat.le_refl _) (.cells #[.bool false] 4))).acc_push hown' hgrow
            have HB9 := Lib.hid (((HBq.out.alloc hbwr (.cells #[.bool false] 4)).grown hgrow (by simp; omega) (fun g e => (HQ.out.one.out.acc.lt g e).1)).setCell (p := ⟨B, 0, none⟩) (Nat.le_refl _) (.slice (some ⟨ga, 0, none⟩) (accs.length + 1) cpa))
            have HQ9 := Lib.hid HQ9
            obtain ⟨W9, hW9⟩ : ∃ W9, W9 = w9.setCell ⟨B, 0, none⟩ (.slice (some ⟨ga, 0, none⟩) (accs.length + 1) cpa) := ⟨_, rfl⟩
            rw [← hW9] at HQ9 HB9
            clear hown' hgrow hnil hat
            go_upto_region 23 with fail
            rw [← hW9]
            clear hW9 z1 z2 e0 f0
            have HA1 : Hid (accs ++ [false] = (List.range (i + 1)).map fun j => (prd a b f).A (keyI 0 G j)) := Lib.hid (by rw [List.range_succ, List.map_append, HAc.out.1, List.map_cons, List.map_nil, ← HXx.out, HAd.out, ← HPq.out.1, ← HPq.out.2, ← HXa.out, ← HXb.out, HF.out]; simp)
            rw [HA1.out] at HQ9
            clear HA1
            obtain ⟨e1, f1⟩ := (⟨(box2_facts HQ9.out.one.out.box).2.1, (box2_facts HQ9.out.one.out.box).2.2.2⟩ : W9.cell? ⟨B, 1, none⟩ = some vn2 ∧ W9.frozen? ⟨B, 1, none⟩ = false)
            have hbw5 : B ≤ W9.heap.size := Nat.le_of_lt HQ9.out.one.base
            go_wp2_with (at_builtin; refine wpList_append_own_at _ rfl (.tmp 131) (.tmp 133) 27 rfl B 68 r0 (.slice none 0 0) 1 24 Tryz.underlying27 hri hr0 hr1 hr2 rfl (by decide) _ _ _ rfl (HQ9.out.one.out.nxt.alloc _) ⟨W9.heap.size, 0, none⟩ 1 1 [.slice Ar (rowI 0 G i 3).length cr] rfl rfl (cell_one_new _ _ _) (by simp [Value.oneCell']) (by unfold maxLen; omega) (by omega) (by simp; omega) ?_)
            intro v2 wa hown2 hgrow2 hnil2 hat2
            obtain ⟨gn, capn, rfl⟩ := own_succ hown2
            have HQa := HQ9.out.below ((Below.refl _ _).alloc (Nat.le_refl _) (.cells #[.slice Ar (rowI 0 G i 3).length cr] 68))
            obtain ⟨⟨z0, z1⟩, z2, HQb⟩ := HQa.nxt_push (vn' := .slice (some ⟨gn, 0, none⟩) (i + 1) capn) (by rw [rowI_length]; omega) (by rw [hus]; exact hown2) hgrow2
            have HBb := Lib.hid (((HB9.out.alloc hbw5 (.cells #[.slice Ar (rowI 0 G i 3).length cr] 68)).grown hgrow2 (by simp; omega) (fun g e => (HQ9.out.one.out.nxt.lt g e).1)).setCell (p := ⟨B, 1, none⟩) (Nat.le_refl _) (.slice (some ⟨gn, 0, none⟩) (i + 1) capn))
            have HQb := Lib.hid HQb
            have HON : Hid (∀ j, j < i + 1 → j < (ords 0 G (3 * j)).length) := Lib.hid (fun j hj => by
              rcases Nat.lt_or_eq_of_le (Nat.le_of_lt_succ hj) with h | h
              · exact hon.out j h
              · rw [h]; exact hi1)
            have HR1 : Hid (rss ++ [ints (rowI 0 G i 3)] = (List.range (i + 1)).map fun j => ints (rowI 0 G j 3)) := Lib.hid (by rw [List.range_succ, List.map_append, HAc.out.2]; rfl)
            have hul : (us ++ [Value.slice Ar (rowI 0 G i 3).length cr]).length = i + 1 := by simp [hus]
            rw [HR1.out] at HQb
            have HUl := Lib.hid hul
            clear hown2 hgrow2 hnil2 hat2 HQa hul
            go_wp2_with fail
            go_roundw
            case rel => exact ⟨i + 1, _, _, us ++ [Value.slice Ar (rowI 0 G i 3).length cr], _, by go_num, by omega, HUl.out, HBb, HON, by rw [show 3 * (i + 1) = 3 * i + 3 by omega, ← HLq.out]; exact HQb⟩
            case measure => simp [intOf]; omega
    · have hE := ends_intro (s0 := 0) (g := G) (N := i) hon.out (by rw [← HLo.out]; exact hlt)
      have hEp : Ends 0 (prd a b f).T i := by rw [← HMe.out.2]; exact hE
      obtain ⟨m1, m2, m3⟩ := own_found HPw.out hEp
      rw [← HMe.out.2] at m1 m2
      obtain ⟨f1, f2⟩ := ends_fields hE (prd a b f).A
      have HM2 := Lib.hid m2
      have hbl : accs.length ≤ 2000 := by rw [HAl.out]; omega
      have HD : Hid (DfaO wr (fun g => B ≤ g ∧ g < wr.heap.size) va2 vn2 (fieldsOf (found 0 G (prd a b f).A i))) := Lib.hid (ho.out.out.whole (by rw [HAc.out.1]; exact f1) (by
        rw [HAc.out.2]
        show intss (nxtOf (found 0 G (prd a b f).A i)) = _
        rw [f2]
        simp [intss]) (by omega) (by omega))
      have hva := (RowO.of_owns ho.out.out.acc (by omega)).row.shape
      have hvn := (RowO.of_owns ho.out.out.nxt (by omega)).row.shape
      obtain ⟨A1, q1, rfl⟩ := hva
      obtain ⟨A2, q2, hvn2⟩ := hvn
      rw [hus] at hvn2
      subst hvn2
      have HFit := Lib.hid (specFits_any _ _ (found 0 G (prd a b f).A i) _ wr m1 (by show i ≤ 2000; omega) HD.out.dfa)
      obtain ⟨e0, e1, -, -⟩ := box2_facts ho.out.out.box
      have HBW := Lib.hid (HB2.out.trans (HBr.out.mono (by rw [HBe.out]; exact HB2.out.size)))
      have hd : decide ((i : Int) < (lo.length : Int)) = false := by simp; omega
      clear m1 m2 m3 f1 f2 hE hEp
      go_wp2_with fail
      go_at_call 58
      refine HFit.out.mono ?_
      rintro e w3 ⟨m, m1, m2, hcd⟩
      have HM := Lib.hid (And.intro m1 (m2.trans HM2.out))
      obtain ⟨C1, p1, C2, p2, rfl, hoo, hb3⟩ := hcd.shape
      obtain ⟨x1, hx1⟩ : ∃ x, x = (fitD m).acc.length := ⟨_, rfl⟩
      obtain ⟨x2, hx2⟩ : ∃ x, x = (fitD m).nxt.length := ⟨_, rfl⟩
      obtain ⟨ok, hok⟩ : ∃ b, b = decide (m.n ≤ 40) := ⟨_, rfl⟩
      rw [← hx1, ← hx2] at hoo ⊢
      rw [← hok]
      have HOk := Lib.hid hok
      have HO3 := Lib.hid hoo
      have HB3 := Lib.hid (HBW.out.trans (hb3.mono HBW.out.size))
      have hz2 := HBW.out.size
      have hz3 := hb3.size
      have hyl := blk_lt HY.out
      obtain ⟨W4, hW4⟩ : ∃ W4, W4 = w3.alloc (.cells #[.slice C1 x1 p1, .slice C2 x2 p2] 29) := ⟨_, rfl⟩
      have HX4 : Hid (W4.heap[w3.heap.size]? = some (.cells #[.slice C1 x1 p1, .slice C2 x2 p2] 29 (0, 0)) ∧ Below w3.heap.size w3 W4) := Lib.hid (by
        rw [hW4]
        exact ⟨heap_alloc_new w3 _, (Below.refl _ _).alloc (Nat.le_refl _) _⟩)
      obtain ⟨g0, g1, -, -⟩ := box2_facts HX4.out.1
      obtain ⟨c0, c1, k0, k1⟩ := box2_facts ((HX4.out.2.block _ (by omega)).trans ((HB3.out.block _ hyl).trans HY.out))
      obtain ⟨hcl, hsz, hot, hBl⟩ := put2 (k := .slice C1 x1 p1) (l := .slice C2 x2 p2) c0 c1
      obtain ⟨hr0, hr1'⟩ := hcl
      have HOt := Lib.hid (And.intro hsz (And.intro hot hBl))
      have HW4 := Lib.hid hW4
      rw [hW4] at g0 g1 c0 c1 k0 k1 hr0 hr1'
      clear hsz hot hBl hoo hb3 hcd hx1 hx2 m1 m2 hW4 hok e0 e1 hd
      go_wp2_with fail
      refine bodyPost_ret (v := .tuple #[.agg #[.slice C1 x1 p1, .slice C2 x2 p2], .bool ok]) (by simp [results, Tryz.results34, go_sem, hr0, hr1']) rfl ?_
      rw [← HW4.out]
      have h0 := HB0.out.size
      have hz4 := HX4.out.2.size
      refine ⟨m, HM.out.1, HM.out.2, ?_⟩
      rw [← HOk.out]
      exact ⟨_, _, rfl, HO3.out.mono (fun g hg => (HOt.out.2.1 g (by have := hg.1; omega)).trans (HX4.out.2.block g hg.2)) (fun g hg => ⟨by have := hg.1; omega, by rw [HOt.out.1]; have := hg.2; omega⟩) (by rw [HOt.out.1]; exact hz4), HOt.out.2.2 _ _ (HB0.out.trans ((HB3.out.trans (HX4.out.2.mono HB3.out.size)).mono h0)) (by omega)⟩
end Go.Proofs.YtlkhmpdncimnfaaGreatDoor

namespace Go.Proofs.YtlkhmpdncimnfaaGreatDoor
open Go.RowKit

set_option maxRecDepth 100000 in
set_option maxHeartbeats 3200000 in
theorem specPro_no (va vn va' vn' : Value) (d d' : Dx) (S S' : Nat → Prop) (kind : Int) (w : World) (h : DfaV w S va vn d) (h' : DfaV w S' va' vn' d') (hno : ¬ (validD d = true ∧ validD d' = true ∧ (kind = 6 ∨ kind = 7))) :
    Calls Tryz.prog 34 #[.agg #[va, vn], .agg #[va', vn'], .int .i64 kind] w (CopyDB ⟨[], []⟩ false w) := by
  obtain ⟨W0, hW0⟩ : ∃ W0, W0 = ((w.alloc (.cells #[va, vn] 29)).alloc (.cells #[va', vn'] 29)).alloc (.cells #[.slice none 0 0, .slice none 0 0] 29) := ⟨_, rfl⟩
  have h3 := three_box' w (.cells #[va, vn] 29) (.cells #[va', vn'] 29) (.cells #[.slice none 0 0, .slice none 0 0] 29)
  rw [← hW0] at h3
  have HB0 : Hid (Below w.heap.size w W0) := Lib.hid h3.2.2.2
  have HX := Lib.hid h3.1
  have HX' := Lib.hid h3.2.1
  have HY := Lib.hid h3.2.2.1
  clear h3
  have HV := Lib.hid (specValidD_any va vn d S W0 (h.kept HB0.out))
  have HV' := Lib.hid (fun (V : World) (hV : Below w.heap.size w V) => specValidD_any va' vn' d' S' V (h'.kept hV))
  obtain ⟨⟨A, c, hA⟩, A', c', hA'⟩ := h.shape
  obtain ⟨⟨B, e, hB⟩, B', e', hB'⟩ := h'.shape
  subst hA
  subst hA'
  subst hB
  subst hB'
  obtain ⟨hc0, hc1, -, -⟩ := box2_facts HX.out
  obtain ⟨hd0, hd1, -, -⟩ := box2_facts HX'.out
  rw [hW0] at hc0 hc1 hd0 hd1
  obtain ⟨v, hv⟩ : ∃ v, v = validD d := ⟨_, rfl⟩
  obtain ⟨v', hv'⟩ : ∃ v, v = validD d' := ⟨_, rfl⟩
  rw [← hv] at HV hno
  rw [← hv'] at HV' hno
  clear h h' hv hv'
  go_enter Tryz.func34, Tryz.ntmps34
  go_wp2_with fail
  go_at_call 53
  rw [← hW0]
  refine HV.out.mono ?_
  rintro e1 w1 ⟨rfl, hb1⟩
  have HB1 := Lib.hid hb1
  clear hc0 hc1 hd0 hd1 hW0 hb1
  obtain ⟨hd0, hd1, -, -⟩ := box2_facts ((HB1.out.block _ (blk_lt HX'.out)).trans HX'.out)
  cases v with
  | false =>
    clear hno
    obtain ⟨c0, c1, k0, k1⟩ := box2_facts ((HB1.out.block _ (blk_lt HY.out)).trans HY.out)
    obtain ⟨hcl, hsz, hot, hBl⟩ := put2 (k := .slice none 0 0) (l := .slice none 0 0) c0 c1
    obtain ⟨hr0, hr1⟩ := hcl
    have HOt := Lib.hid hBl
    clear hsz hot hBl
    go_wp2_with fail
    refine bodyPost_ret (v := .tuple #[.agg #[.slice none 0 0, .slice none 0 0], .bool false]) (by simp [results, Tryz.results34, go_sem, hr0, hr1]) rfl ?_
    exact ⟨_, _, rfl, DfaO.empty _ _, HOt.out _ _ (HB0.out.trans (HB1.out.mono HB0.out.size)) (by omega)⟩
  | true =>
    go_wp2_with fail
    go_at_call 53
    refine (HV'.out w1 (HB0.out.trans (HB1.out.mono HB0.out.size))).mono ?_
    rintro e2 w2 ⟨rfl, hb2⟩
    have HB2 := Lib.hid (HB1.out.trans (hb2.mono HB1.out.size))
    clear hd0 hd1 hb2
    cases v' with
    | false =>
      clear hno
      obtain ⟨c0, c1, k0, k1⟩ := box2_facts ((HB2.out.block _ (blk_lt HY.out)).trans HY.out)
      obtain ⟨hcl, hsz, hot, hBl⟩ := put2 (k := .slice none 0 0) (l := .slice none 0 0) c0 c1
      obtain ⟨hr0, hr1⟩ := hcl
      have HOt := Lib.hid hBl
      clear hsz hot hBl
      go_wp2_with fail
      refine bodyPost_ret (v := .tuple #[.agg #[.slice none 0 0, .slice none 0 0], .bool false]) (by simp [results, Tryz.results34, go_sem, hr0, hr1]) rfl ?_
      exact ⟨_, _, rfl, DfaO.empty _ _, HOt.out _ _ (HB0.out.trans (HB2.out.mono HB0.out.size)) (by omega)⟩
    | true =>
      have h6 : kind ≠ 6 := fun e => hno (by simp [e])
      have h7 : kind ≠ 7 := fun e => hno (by simp [e])
      have k6 : (kind != 6) = true := by simpa using h6
      have k7 : (kind != 7) = true := by simpa using h7
      clear hno h6 h7
      obtain ⟨c0, c1, k0, k1⟩ := box2_facts ((HB2.out.block _ (blk_lt HY.out)).trans HY.out)
      obtain ⟨hcl, hsz, hot, hBl⟩ := put2 (k := .slice none 0 0) (l := .slice none 0 0) c0 c1
      obtain ⟨hr0, hr1⟩ := hcl
      have HOt := Lib.hid hBl
      clear hsz hot hBl
      go_wp2_with fail
      refine bodyPost_ret (v := .tuple #[.agg #[.slice none 0 0, .slice none 0 0], .bool false]) (by simp [results, Tryz.results34, go_sem, hr0, hr1]) rfl ?_
      exact ⟨_, _, rfl, DfaO.empty _ _, HOt.out _ _ (HB0.out.trans (HB2.out.mono HB0.out.size)) (by omega)⟩
/-- What ProductDfa answers. -/
theorem specPro_any (va vn va' vn' : Value) (d d' : Dx) (S S' : Nat → Prop) (kind : Int) (y : Dx) (ok : Bool) (w : World) (h : DfaV w S va vn d) (h' : DfaV w S' va' vn' d') (hy : proR d d' kind y ok) :
    Calls Tryz.prog 34 #[.agg #[va, vn], .agg #[va', vn'], .int .i64 kind] w (CopyDB y ok w) := by
  by_cases hc : validD d = true ∧ validD d' = true ∧ (kind = 6 ∨ kind = 7)
  · obtain ⟨hv, hv', hk⟩ := hc
    rcases hk with rfl | rfl
    · refine (specPrd_or va vn va' vn' d d' S S' w h h' hv hv').mono ?_
      rintro e w' ⟨m, m1, m2, hcd⟩
      obtain ⟨rfl, rfl⟩ := proR_yes hy hv hv' (.inl rfl) m1 m2
      exact hcd
    · refine (specPrd_and va vn va' vn' d d' S S' w h h' hv hv').mono ?_
      rintro e w' ⟨m, m1, m2, hcd⟩
      obtain ⟨rfl, rfl⟩ := proR_yes hy hv hv' (.inr rfl) m1 m2
      exact hcd
  · obtain ⟨rfl, rfl⟩ := proR_no hy hc
    exact specPro_no va vn va' vn' d d' S S' kind w h h' hc
end Go.Proofs.YtlkhmpdncimnfaaGreatDoor

/-
  What spec.l6Compile and spec.CompileRegex answer: the automaton of an expression, and whether there is one.
-/
namespace Go.Proofs.YtlkhmpdncimnfaaGreatDoor
open Go.RowKit

/-- A result is laid in a box, and from there in the result's. -/
theorem res_end2 {w W1 W3 : World} {b b' : Nat} {x0 x1 z0 z1 va vn : Value} {d : Dx} {T T' : TypeId} (hY : W3.heap[b]? = some (.cells #[x0, x1] T (0, 0))) (hZ : W3.heap[b']? = some (.cells #[z0, z1] T' (0, 0))) (hbb : b ≠ b') (hb : w.heap.size ≤ b) (hb1 : b < W1.heap.size) (hb' : w.heap.size ≤ b') (hb1' : b' < W1.heap.size) (hd : DfaO W3 (OwnB W1 W3) va vn d) (hB : Below w.heap.size w W3) :
    ((∃ x, W3.cell? ⟨b', 0, none⟩ = some x) ∧ (∃ x, W3.cell? ⟨b', 1, none⟩ = some x) ∧ W3.frozen? ⟨b', 0, none⟩ = false ∧ W3.frozen? ⟨b', 1, none⟩ = false) ∧
    let W4 := (W3.setCell ⟨b', 0, none⟩ va).setCell ⟨b', 1, none⟩ vn
    (W4.cell? ⟨b', 0, none⟩ = some va ∧ W4.cell? ⟨b', 1, none⟩ = some vn) ∧
    ((∃ x, W4.cell? ⟨b, 0, none⟩ = some x) ∧ (∃ x, W4.cell? ⟨b, 1, none⟩ = some x) ∧ W4.frozen? ⟨b, 0, none⟩ = false ∧ W4.frozen? ⟨b, 1, none⟩ = false) ∧
    let W6 := (W4.setCell ⟨b, 0, none⟩ va).setCell ⟨b, 1, none⟩ vn
    (W6.cell? ⟨b, 0, none⟩ = some va ∧ W6.cell? ⟨b, 1, none⟩ = some vn) ∧ DfaO W6 (OwnB w W6) va vn d ∧ Below w.heap.size w W6 := by
  obtain ⟨c0, c1, k0, k1⟩ := box2_facts hZ
  obtain ⟨hcl, hsz, hot, hBl⟩ := put2 (k := va) (l := vn) c0 c1
  have h := res_end (w := w) (W1 := W1) (va := va) (vn := vn) (d := d) ((hot b hbb).trans hY) hb hb1 (hd.mono (fun g hg => hot g (by have := hg.1; omega)) (fun g hg => ⟨hg.1, by rw [hsz]; exact hg.2⟩) (by rw [hsz]; exact Nat.le_refl _)) (hBl _ _ hB hb')
  exact ⟨⟨⟨_, c0⟩, ⟨_, c1⟩, k0, k1⟩, hcl, h⟩
set_option maxRecDepth 100000 in
set_option maxHeartbeats 3200000 in
theorem scomp_nil (k : Int) (l : ByteArray) (A : Option Addr) (c : Nat) (w : World) (hk : nodeOk k l 0 = true) (y : Dx) (ok : Bool) (hy : leafR k l y ok) :
    Calls Tryz.prog 15 #[.agg #[.int .i64 k, .string l, .slice A 0 c]] w (CopyDB y ok w) := by
  obtain ⟨W0, hW0⟩ : ∃ W0, W0 = (w.alloc (.cells #[.int .i64 k, .string l, .slice A 0 c] 34)).alloc (.cells #[.slice none 0 0, .slice none 0 0] 29) := ⟨_, rfl⟩
  have HB0 : Hid (Below w.heap.size w W0) := Lib.hid (by rw [hW0]; exact ((Below.refl _ _).alloc (Nat.le_refl _) _).alloc (by simp) _)
  have HY : Hid (W0.heap[w.heap.size + 1]? = some (.cells #[.slice none 0 0, .slice none 0 0] 29 (0, 0))) := Lib.hid (by rw [hW0]; exact three2 w _ _ _ _)
  obtain ⟨rfl, hL⟩ := specLeaf_any k l A c W0 hk y ok hy
  have HL := Lib.hid hL
  clear hy hk hL
  go_enter Tryz.func15, Tryz.ntmps15
  go_wp2_with fail
  rw [← hW0]
  clear hW0
  refine HL.out.mono ?_
  rintro e w3 hcd
  obtain ⟨A1, p1, A2, p2, rfl, hoo, hb3⟩ := hcd.shape
  have hyl := blk_lt HY.out
  have HF := Lib.hid (res_end ((hb3.block _ hyl).trans HY.out) (by omega) hyl hoo (HB0.out.trans (hb3.mono HB0.out.size)))
  obtain ⟨⟨⟨z0, k0⟩, ⟨z1, k1⟩, k2, k3⟩, -⟩ := HF.out
  clear hcd hoo hb3
  go_wp2_with fail
  obtain ⟨-, ⟨hc0, hc1⟩, hd, hb⟩ := HF.out
  refine bodyPost_ret (v := .tuple #[.agg #[.slice A1 y.acc.length p1, .slice A2 y.nxt.length p2], .bool true]) (by simp [results, Tryz.results15, go_sem, hc0, hc1]) rfl ?_
  exact ⟨_, _, rfl, hd, hb⟩
set_option maxRecDepth 100000 in
set_option maxHeartbeats 3200000 in
theorem scomp_9 (l : ByteArray) (g o c : Nat) (k1 : Int) (l1 : ByteArray) (u1 : Value) (w : World) (hg : g < w.heap.size) (he : ElAt w g o k1 l1 u1) (y1 : Dx) (ok1 : Bool) (y : Dx) (ok : Bool)
    (hR : ∀ W, Below w.heap.size w W → Calls Tryz.prog 15 #[.agg #[.int .i64 k1, .string l1, u1]] W (CopyDB y1 ok1 W)) (hy : nodeR1 9 y1 ok1 y ok) :
    Calls Tryz.prog 15 #[.agg #[.int .i64 9, .string l, .slice (some ⟨g, o, none⟩) 1 c]] w (CopyDB y ok w) := by
  obtain ⟨W0, hW0⟩ : ∃ W0, W0 = (w.alloc (.cells #[.int .i64 9, .string l, .slice (some ⟨g, o, none⟩) 1 c] 34)).alloc (.cells #[.slice none 0 0, .slice none 0 0] 29) := ⟨_, rfl⟩
  have HB0 : Hid (Below w.heap.size w W0) := Lib.hid (by rw [hW0]; exact ((Below.refl _ _).alloc (Nat.le_refl _) _).alloc (by simp) _)
  have HP : Hid (W0.heap[w.heap.size]? = some (.cells #[.int .i64 9, .string l, .slice (some ⟨g, o, none⟩) 1 c] 34 (0, 0))) := Lib.hid (by rw [hW0]; exact (Below.heap_alloc _ _ _ (by simp)).trans (heap_alloc_new w _))
  have HY : Hid (W0.heap[w.heap.size + 1]? = some (.cells #[.slice none 0 0, .slice none 0 0] 29 (0, 0))) := Lib.hid (by rw [hW0]; exact three2 w _ _ _ _)
  have HR := Lib.hid (hR W0 HB0.out)
  have hyl := blk_lt HY.out
  have hpl := blk_lt HP.out
  obtain ⟨e0, e1, e2⟩ := he.below HB0.out hg
  rw [hW0] at e0 e1 e2
  clear hR he
  cases ok1 with
  | false =>
    obtain ⟨rfl, rfl⟩ : y = ⟨[], []⟩ ∧ ok = false := by simpa [nodeR1] using hy
    clear hy
    go_enter Tryz.func15, Tryz.ntmps15
    go_wp2_with fail
    go_at_call 15
    rw [← hW0]
    clear hW0 e0 e1 e2
    refine HR.out.mono ?_
    rintro e w1 hcd
    obtain ⟨A1, p1, A2, p2, rfl, hoo, hb1⟩ := hcd.shape
    have HB1 := Lib.hid (hb1.alloc hb1.size (.cells #[.slice A1 y1.acc.length p1, .slice A2 y1.nxt.length p2] 29))
    have HF := Lib.hid (res_end (W1 := W0) ((HB1.out.block _ hyl).trans HY.out) (by omega) hyl (DfaO.empty _ _) (HB0.out.trans (HB1.out.mono HB0.out.size)))
    obtain ⟨⟨⟨z0, k0⟩, ⟨z1, k1⟩, k2, k3⟩, -⟩ := HF.out
    clear hcd hoo hb1
    go_wp2_with fail
    obtain ⟨-, ⟨hc0, hc1⟩, hd, hb⟩ := HF.out
    refine bodyPost_ret (v := .tuple #[.agg #[.slice none 0 0, .slice none 0 0], .bool false]) (by simp [results, Tryz.results15, go_sem, hc0, hc1]) rfl ?_
    exact ⟨_, _, rfl, hd, hb⟩
  | true =>
    go_enter Tryz.func15, Tryz.ntmps15
    go_wp2_with fail
    go_at_call 15
    rw [← hW0]
    clear hW0 e0 e1 e2
    refine HR.out.mono ?_
    rintro e w1 hcd
    obtain ⟨A1, p1, A2, p2, rfl, hoo, hb1⟩ := hcd.shape
    obtain ⟨W2, hW2⟩ : ∃ W2, W2 = (w1.alloc (.cells #[.slice A1 y1.acc.length p1, .slice A2 y1.nxt.length p2] 29)).alloc (.cells #[.slice none 0 0, .slice none 0 0] 29) := ⟨_, rfl⟩
    have hb12 : Below w1.heap.size w1 W2 := by rw [hW2]; exact ((Below.refl _ _).alloc (Nat.le_refl _) _).alloc (by simp) _
    have HA2 : Hid (W2.heap[w1.heap.size]? = some (.cells #[.slice A1 y1.acc.length p1, .slice A2 y1.nxt.length p2] 29 (0, 0))) := Lib.hid (by rw [hW2]; exact (Below.heap_alloc _ _ _ (by simp)).trans (heap_alloc_new w1 _))
    have HD2 : Hid (W2.heap[w1.heap.size + 1]? = some (.cells #[.slice none 0 0, .slice none 0 0] 29 (0, 0))) := Lib.hid (by rw [hW2]; exact three2 w1 _ _ _ _)
    have HB2 := Lib.hid (hb1.trans (hb12.mono hb1.size))
    have HV1 := Lib.hid (hoo.dfa.kept hb12)
    have hz2 := HB2.out.size
    have hz01 := hb1.size
    have hz12 := hb12.size
    obtain ⟨q0, q1, q2, -, -, -⟩ := three_at HB2.out hpl HP.out
    rw [hW2] at q0 q1 q2
    obtain ⟨z, hz, rfl, rfl⟩ : ∃ z, minR y1 z ∧ y = comD z ∧ ok = true := by simpa [nodeR1] using hy
    have HC := Lib.hid (specCom_any _ _ y1 z _ W2 HV1.out hz)
    clear hy hz hcd hoo hb1 hb12
    go_wp2_with fail
    rw [← hW2]
    clear hW2 q0 q1 q2
    go_at_call 31
    refine HC.out.mono ?_
    rintro e w3 hcd
    obtain ⟨A3, p3, A4, p4, rfl, hoo, hb3⟩ := hcd.shape
    have HF := Lib.hid (res_end ((hb3.block _ (by omega)).trans ((HB2.out.block _ hyl).trans HY.out)) (by omega) (by omega) hoo (HB0.out.trans ((HB2.out.trans (hb3.mono hz2)).mono HB0.out.size)))
    obtain ⟨⟨⟨z0, k0⟩, ⟨z1, k1⟩, k2, k3⟩, -⟩ := HF.out
    clear hcd hoo hb3
    go_wp2_with fail
    obtain ⟨-, ⟨hc0, hc1⟩, hd, hb⟩ := HF.out
    refine bodyPost_ret (v := .tuple #[.agg #[.slice A3 (comD z).acc.length p3, .slice A4 (comD z).nxt.length p4], .bool true]) (by simp [results, Tryz.results15, go_sem, hc0, hc1]) rfl ?_
    exact ⟨_, _, rfl, hd, hb⟩
set_option maxRecDepth 100000 in
set_option maxHeartbeats 3200000 in
theorem scomp_8 (l : ByteArray) (g o c : Nat) (k1 : Int) (l1 : ByteArray) (u1 : Value) (w : World) (hg : g < w.heap.size) (he : ElAt w g o k1 l1 u1) (y1 : Dx) (ok1 : Bool) (y : Dx) (ok : Bool)
    (hR : ∀ W, Below w.heap.size w W → Calls Tryz.prog 15 #[.agg #[.int .i64 k1, .string l1, u1]] W (CopyDB y1 ok1 W)) (hy : nodeR1 8 y1 ok1 y ok) :
    Calls Tryz.prog 15 #[.agg #[.int .i64 8, .string l, .slice (some ⟨g, o, none⟩) 1 c]] w (CopyDB y ok w) := by
  obtain ⟨W0, hW0⟩ : ∃ W0, W0 = (w.alloc (.cells #[.int .i64 8, .string l, .slice (some ⟨g, o, none⟩) 1 c] 34)).alloc (.cells #[.slice none 0 0, .slice none 0 0] 29) := ⟨_, rfl⟩
  have HB0 : Hid (Below w.heap.size w W0) := Lib.hid (by rw [hW0]; exact ((Below.refl _ _).alloc (Nat.le_refl _) _).alloc (by simp) _)
  have HP : Hid (W0.heap[w.heap.size]? = some (.cells #[.int .i64 8, .string l, .slice (some ⟨g, o, none⟩) 1 c] 34 (0, 0))) := Lib.hid (by rw [hW0]; exact (Below.heap_alloc _ _ _ (by simp)).trans (heap_alloc_new w _))
  have HY : Hid (W0.heap[w.heap.size + 1]? = some (.cells #[.slice none 0 0, .slice none 0 0] 29 (0, 0))) := Lib.hid (by rw [hW0]; exact three2 w _ _ _ _)
  have HR := Lib.hid (hR W0 HB0.out)
  have hyl := blk_lt HY.out
  have hpl := blk_lt HP.out
  obtain ⟨e0, e1, e2⟩ := he.below HB0.out hg
  rw [hW0] at e0 e1 e2
  clear hR he
  cases ok1 with
  | false =>
    obtain ⟨rfl, rfl⟩ : y = ⟨[], []⟩ ∧ ok = false := by simpa [nodeR1] using hy
    clear hy
    go_enter Tryz.func15, Tryz.ntmps15
    go_wp2_with fail
    go_at_call 15
    rw [← hW0]
    clear hW0 e0 e1 e2
    refine HR.out.mono ?_
    rintro e w1 hcd
    obtain ⟨A1, p1, A2, p2, rfl, hoo, hb1⟩ := hcd.shape
    have HB1 := Lib.hid (hb1.alloc hb1.size (.cells #[.slice A1 y1.acc.length p1, .slice A2 y1.nxt.length p2] 29))
    have HF := Lib.hid (res_end (W1 := W0) ((HB1.out.block _ hyl).trans HY.out) (by omega) hyl (DfaO.empty _ _) (HB0.out.trans (HB1.out.mono HB0.out.size)))
    obtain ⟨⟨⟨z0, k0⟩, ⟨z1, k1⟩, k2, k3⟩, -⟩ := HF.out
    clear hcd hoo hb1
    go_wp2_with fail
    obtain ⟨-, ⟨hc0, hc1⟩, hd, hb⟩ := HF.out
    refine bodyPost_ret (v := .tuple #[.agg #[.slice none 0 0, .slice none 0 0], .bool false]) (by simp [results, Tryz.results15, go_sem, hc0, hc1]) rfl ?_
    exact ⟨_, _, rfl, hd, hb⟩
  | true =>
    go_enter Tryz.func15, Tryz.ntmps15
    go_wp2_with fail
    go_at_call 15
    rw [← hW0]
    clear hW0 e0 e1 e2
    refine HR.out.mono ?_
    rintro e w1 hcd
    obtain ⟨A1, p1, A2, p2, rfl, hoo, hb1⟩ := hcd.shape
    obtain ⟨W2, hW2⟩ : ∃ W2, W2 = (w1.alloc (.cells #[.slice A1 y1.acc.length p1, .slice A2 y1.nxt.length p2] 29)).alloc (.cells #[.slice none 0 0, .slice none 0 0] 29) := ⟨_, rfl⟩
    have hb12 : Below w1.heap.size w1 W2 := by rw [hW2]; exact ((Below.refl _ _).alloc (Nat.le_refl _) _).alloc (by simp) _
    have HA2 : Hid (W2.heap[w1.heap.size]? = some (.cells #[.slice A1 y1.acc.length p1, .slice A2 y1.nxt.length p2] 29 (0, 0))) := Lib.hid (by rw [hW2]; exact (Below.heap_alloc _ _ _ (by simp)).trans (heap_alloc_new w1 _))
    have HD2 : Hid (W2.heap[w1.heap.size + 1]? = some (.cells #[.slice none 0 0, .slice none 0 0] 29 (0, 0))) := Lib.hid (by rw [hW2]; exact three2 w1 _ _ _ _)
    have HB2 := Lib.hid (hb1.trans (hb12.mono hb1.size))
    have HV1 := Lib.hid (hoo.dfa.kept hb12)
    have hz2 := HB2.out.size
    have hz01 := hb1.size
    have hz12 := hb12.size
    obtain ⟨q0, q1, q2, -, -, -⟩ := three_at HB2.out hpl HP.out
    rw [hW2] at q0 q1 q2
    have hst : starR y1 y ok := by simpa [nodeR1] using hy
    have HC := Lib.hid (specStar_any _ _ y1 _ y ok W2 HV1.out hst)
    clear hy hst hcd hoo hb1 hb12
    go_wp2_with fail
    rw [← hW2]
    clear hW2 q0 q1 q2
    go_at_call 32
    refine HC.out.mono ?_
    rintro e w3 hcd
    obtain ⟨A3, p3, A4, p4, rfl, hoo, hb3⟩ := hcd.shape
    have hdl := blk_lt HD2.out
    have HF := Lib.hid (res_end2 ((hb3.block _ (by omega)).trans ((HB2.out.block _ hyl).trans HY.out)) ((hb3.block _ hdl).trans HD2.out) (by omega) (by omega) (by omega) (by have := HB0.out.size; omega) hdl hoo (HB0.out.trans ((HB2.out.trans (hb3.mono hz2)).mono HB0.out.size)))
    obtain ⟨⟨⟨z0, k0⟩, ⟨z1, k1⟩, k2, k3⟩, ⟨d0, d1⟩, ⟨⟨z4, k4⟩, ⟨z5, k5⟩, k6, k7⟩, -⟩ := HF.out
    clear hcd hoo hb3
    go_wp2_with fail
    obtain ⟨-, -, -, ⟨hc0, hc1⟩, hd, hb⟩ := HF.out
    refine bodyPost_ret (v := .tuple #[.agg #[.slice A3 y.acc.length p3, .slice A4 y.nxt.length p4], .bool ok]) (by simp [results, Tryz.results15, go_sem, hc0, hc1]) rfl ?_
    exact ⟨_, _, rfl, hd, hb⟩
set_option maxRecDepth 100000 in
set_option maxHeartbeats 3200000 in
theorem scomp_5 (l : ByteArray) (g o c : Nat) (k1 : Int) (l1 : ByteArray) (u1 : Value) (k2 : Int) (l2 : ByteArray) (u2 : Value) (w : World) (hg : g < w.heap.size) (he : ElAt w g o k1 l1 u1) (he2 : ElAt w g (o + 3) k2 l2 u2) (y1 : Dx) (ok1 : Bool) (y2 : Dx) (ok2 : Bool) (y : Dx) (ok : Bool)
    (hR : ∀ W, Below w.heap.size w W → Calls Tryz.prog 15 #[.agg #[.int .i64 k1, .string l1, u1]] W (CopyDB y1 ok1 W))
    (hR2 : ∀ W, Below w.heap.size w W → Calls Tryz.prog 15 #[.agg #[.int .i64 k2, .string l2, u2]] W (CopyDB y2 ok2 W)) (hy : nodeR2 5 y1 ok1 y2 ok2 y ok) :
    Calls Tryz.prog 15 #[.agg #[.int .i64 5, .string l, .slice (some ⟨g, o, none⟩) 2 c]] w (CopyDB y ok w) := by
  obtain ⟨W0, hW0⟩ : ∃ W0, W0 = (w.alloc (.cells #[.int .i64 5, .string l, .slice (some ⟨g, o, none⟩) 2 c] 34)).alloc (.cells #[.slice none 0 0, .slice none 0 0] 29) := ⟨_, rfl⟩
  have HB0 : Hid (Below w.heap.size w W0) := Lib.hid (by rw [hW0]; exact ((Below.refl _ _).alloc (Nat.le_refl _) _).alloc (by simp) _)
  have HP : Hid (W0.heap[w.heap.size]? = some (.cells #[.int .i64 5, .string l, .slice (some ⟨g, o, none⟩) 2 c] 34 (0, 0))) := Lib.hid (by rw [hW0]; exact (Below.heap_alloc _ _ _ (by simp)).trans (heap_alloc_new w _))
  have HY : Hid (W0.heap[w.heap.size + 1]? = some (.cells #[.slice none 0 0, .slice none 0 0] 29 (0, 0))) := Lib.hid (by rw [hW0]; exact three2 w _ _ _ _)
  have HR := Lib.hid (hR W0 HB0.out)
  have HR2 := Lib.hid (fun (V : World) (hV : Below W0.heap.size W0 V) => hR2 V (HB0.out.trans (hV.mono HB0.out.size)))
  have HE2 := Lib.hid (fun (V : World) (hV : Below W0.heap.size W0 V) => he2.below (HB0.out.trans (hV.mono HB0.out.size)) hg)
  have hyl := blk_lt HY.out
  have hpl := blk_lt HP.out
  obtain ⟨e0, e1, e2⟩ := he.below HB0.out hg
  rw [hW0] at e0 e1 e2
  clear hR he hR2 he2
  cases ok1 with
  | false =>
    obtain ⟨rfl, rfl⟩ : y = ⟨[], []⟩ ∧ ok = false := by simpa [nodeR2] using hy
    clear hy
    go_enter Tryz.func15, Tryz.ntmps15
    go_wp2_with fail
    go_at_call 15
    rw [← hW0]
    clear hW0 e0 e1 e2
    refine HR.out.mono ?_
    rintro e w1 hcd
    obtain ⟨A1, p1, A2, p2, rfl, hoo, hb1⟩ := hcd.shape
    have HB1 := Lib.hid (hb1.alloc hb1.size (.cells #[.slice A1 y1.acc.length p1, .slice A2 y1.nxt.length p2] 29))
    have HF := Lib.hid (res_end (W1 := W0) ((HB1.out.block _ hyl).trans HY.out) (by omega) hyl (DfaO.empty _ _) (HB0.out.trans (HB1.out.mono HB0.out.size)))
    obtain ⟨⟨⟨z0, k0⟩, ⟨z1, k1⟩, k2, k3⟩, -⟩ := HF.out
    clear hcd hoo hb1
    go_wp2_with fail
    obtain ⟨-, ⟨hc0, hc1⟩, hd, hb⟩ := HF.out
    refine bodyPost_ret (v := .tuple #[.agg #[.slice none 0 0, .slice none 0 0], .bool false]) (by simp [results, Tryz.results15, go_sem, hc0, hc1]) rfl ?_
    exact ⟨_, _, rfl, hd, hb⟩
  | true =>
    go_enter Tryz.func15, Tryz.ntmps15
    go_wp2_with fail
    go_at_call 15
    rw [← hW0]
    clear hW0 e0 e1 e2
    refine HR.out.mono ?_
    rintro e w1 hcd
    obtain ⟨A1, p1, A2, p2, rfl, hoo, hb1⟩ := hcd.shape
    obtain ⟨W2, hW2⟩ : ∃ W2, W2 = (w1.alloc (.cells #[.slice A1 y1.acc.length p1, .slice A2 y1.nxt.length p2] 29)).alloc (.cells #[.slice none 0 0, .slice none 0 0] 29) := ⟨_, rfl⟩
    have hb12 : Below w1.heap.size w1 W2 := by rw [hW2]; exact ((Below.refl _ _).alloc (Nat.le_refl _) _).alloc (by simp) _
    have HA2 : Hid (W2.heap[w1.heap.size]? = some (.cells #[.slice A1 y1.acc.length p1, .slice A2 y1.nxt.length p2] 29 (0, 0))) := Lib.hid (by rw [hW2]; exact (Below.heap_alloc _ _ _ (by simp)).trans (heap_alloc_new w1 _))
    have HD2 : Hid (W2.heap[w1.heap.size + 1]? = some (.cells #[.slice none 0 0, .slice none 0 0] 29 (0, 0))) := Lib.hid (by rw [hW2]; exact three2 w1 _ _ _ _)
    have HB2 := Lib.hid (hb1.trans (hb12.mono hb1.size))
    have HV1 := Lib.hid (hoo.dfa.kept hb12)
    have hz2 := HB2.out.size
    have hz01 := hb1.size
    have hz12 := hb12.size
    obtain ⟨q0, q1, q2, -, -, -⟩ := three_at HB2.out hpl HP.out
    rw [hW2] at q0 q1 q2
    have HG2 := Lib.hid (HE2.out W2 HB2.out)
    have HS2 := Lib.hid (HR2.out W2 HB2.out)
    obtain ⟨f0, f1, f2⟩ := HG2.out
    rw [hW2] at f0 f1 f2
    clear hcd hoo hb1 hb12
    go_wp2_with fail
    rw [← hW2]
    clear hW2 q0 q1 q2 f0 f1 f2
    go_at_call 15
    refine HS2.out.mono ?_
    rintro e w3 hcd
    obtain ⟨A3, p3, A4, p4, rfl, hoo, hb3⟩ := hcd.shape
    obtain ⟨W4, hW4⟩ : ∃ W4, W4 = w3.alloc (.cells #[.slice A3 y2.acc.length p3, .slice A4 y2.nxt.length p4] 29) := ⟨_, rfl⟩
    have hb34 : Below w3.heap.size w3 W4 := by rw [hW4]; exact (Below.refl _ _).alloc (Nat.le_refl _) _
    have HB4 := Lib.hid (HB2.out.trans ((hb3.trans (hb34.mono hb3.size)).mono hz2))
    have HV2 := Lib.hid (hoo.dfa.kept hb34)
    have HV1 := Lib.hid (HV1.out.kept (hb3.trans (hb34.mono hb3.size)))
    have hdl := blk_lt HD2.out
    have HD4 := Lib.hid (((hb3.trans (hb34.mono hb3.size)).block _ hdl).trans HD2.out)
    have HA4 := Lib.hid (((hb3.trans (hb34.mono hb3.size)).block _ (blk_lt HA2.out)).trans HA2.out)
    have HX4 : Hid (W4.heap[w3.heap.size]? = some (.cells #[.slice A3 y2.acc.length p3, .slice A4 y2.nxt.length p4] 29 (0, 0))) := Lib.hid (by rw [hW4]; exact heap_alloc_new w3 _)
    have hz4 := HB4.out.size
    have hz23 := hb3.size
    have hz34 := hb34.size
    clear hcd hoo hb3 hb34
    cases ok2 with
    | false =>
      obtain ⟨rfl, rfl⟩ : y = ⟨[], []⟩ ∧ ok = false := by simpa [nodeR2] using hy
      have HF := Lib.hid (res_end (W1 := W0) ((HB4.out.block _ hyl).trans HY.out) (by omega) hyl (DfaO.empty _ _) (HB0.out.trans (HB4.out.mono HB0.out.size)))
      rw [hW4] at HF
      obtain ⟨⟨⟨z0, k0⟩, ⟨z1, k1⟩, k2, k3⟩, -⟩ := HF.out
      clear hy
      go_wp2_with fail
      obtain ⟨-, ⟨hc0, hc1⟩, hd, hb⟩ := HF.out
      refine bodyPost_ret (v := .tuple #[.agg #[.slice none 0 0, .slice none 0 0], .bool false]) (by simp [results, Tryz.results15, go_sem, hc0, hc1]) rfl ?_
      exact ⟨_, _, rfl, hd, hb⟩
    | true =>
      have hst : catR y1 y2 y ok := by simpa [nodeR2] using hy
      have HC := Lib.hid (specCat_any _ _ _ _ y1 y2 _ _ y ok W4 HV1.out HV2.out hst)
      obtain ⟨q0, q1, q2, -, -, -⟩ := three_at HB4.out hpl HP.out
      obtain ⟨a0, a1, -, -⟩ := box2_facts HA4.out
      rw [hW4] at q0 q1 q2 a0 a1
      clear hy hst
      go_wp2_with fail
      rw [← hW4]
      clear hW4 q0 q1 q2 a0 a1
      go_at_call 33
      refine HC.out.mono ?_
      rintro e w5 hcd
      obtain ⟨A5, p5, A6, p6, rfl, hoo, hb5⟩ := hcd.shape
      have HF := Lib.hid (res_end2 ((hb5.block _ (by omega)).trans ((HB4.out.block _ hyl).trans HY.out)) ((hb5.block _ (by omega)).trans HD4.out) (by omega) (by omega) (by omega) (by have := HB0.out.size; omega) (by omega) hoo (HB0.out.trans ((HB4.out.trans (hb5.mono hz4)).mono HB0.out.size)))
      obtain ⟨⟨⟨z0, k0⟩, ⟨z1, k1⟩, k2, k3⟩, ⟨d0, d1⟩, ⟨⟨z4, k4⟩, ⟨z5, k5⟩, k6, k7⟩, -⟩ := HF.out
      clear hcd hoo hb5
      go_wp2_with fail
      obtain ⟨-, -, -, ⟨hc0, hc1⟩, hd, hb⟩ := HF.out
      refine bodyPost_ret (v := .tuple #[.agg #[.slice A5 y.acc.length p5, .slice A6 y.nxt.length p6], .bool ok]) (by simp [results, Tryz.results15, go_sem, hc0, hc1]) rfl ?_
      exact ⟨_, _, rfl, hd, hb⟩
set_option maxRecDepth 100000 in
set_option maxHeartbeats 3200000 in
theorem scomp_6 (l : ByteArray) (g o c : Nat) (k1 : Int) (l1 : ByteArray) (u1 : Value) (k2 : Int) (l2 : ByteArray) (u2 : Value) (w : World) (hg : g < w.heap.size) (he : ElAt w g o k1 l1 u1) (he2 : ElAt w g (o + 3) k2 l2 u2) (y1 : Dx) (ok1 : Bool) (y2 : Dx) (ok2 : Bool) (y : Dx) (ok : Bool)
    (hR : ∀ W, Below w.heap.size w W → Calls Tryz.prog 15 #[.agg #[.int .i64 k1, .string l1, u1]] W (CopyDB y1 ok1 W))
    (hR2 : ∀ W, Below w.heap.size w W → Calls Tryz.prog 15 #[.agg #[.int .i64 k2, .string l2, u2]] W (CopyDB y2 ok2 W)) (hy : nodeR2 6 y1 ok1 y2 ok2 y ok) :
    Calls Tryz.prog 15 #[.agg #[.int .i64 6, .string l, .slice (some ⟨g, o, none⟩) 2 c]] w (CopyDB y ok w) := by
  obtain ⟨W0, hW0⟩ : ∃ W0, W0 = (w.alloc (.cells #[.int .i64 6, .string l, .slice (some ⟨g, o, none⟩) 2 c] 34)).alloc (.cells #[.slice none 0 0, .slice none 0 0] 29) := ⟨_, rfl⟩
  have HB0 : Hid (Below w.heap.size w W0) := Lib.hid (by rw [hW0]; exact ((Below.refl _ _).alloc (Nat.le_refl _) _).alloc (by simp) _)
  have HP : Hid (W0.heap[w.heap.size]? = some (.cells #[.int .i64 6, .string l, .slice (some ⟨g, o, none⟩) 2 c] 34 (0, 0))) := Lib.hid (by rw [hW0]; exact (Below.heap_alloc _ _ _ (by simp)).trans (heap_alloc_new w _))
  have HY : Hid (W0.heap[w.heap.size + 1]? = some (.cells #[.slice none 0 0, .slice none 0 0] 29 (0, 0))) := Lib.hid (by rw [hW0]; exact three2 w _ _ _ _)
  have HR := Lib.hid (hR W0 HB0.out)
  have HR2 := Lib.hid (fun (V : World) (hV : Below W0.heap.size W0 V) => hR2 V (HB0.out.trans (hV.mono HB0.out.size)))
  have HE2 := Lib.hid (fun (V : World) (hV : Below W0.heap.size W0 V) => he2.below (HB0.out.trans (hV.mono HB0.out.size)) hg)
  have hyl := blk_lt HY.out
  have hpl := blk_lt HP.out
  obtain ⟨e0, e1, e2⟩ := he.below HB0.out hg
  rw [hW0] at e0 e1 e2
  clear hR he hR2 he2
  cases ok1 with
  | false =>
    obtain ⟨rfl, rfl⟩ : y = ⟨[], []⟩ ∧ ok = false := by simpa [nodeR2] using hy
    clear hy
    go_enter Tryz.func15, Tryz.ntmps15
    go_wp2_with fail
    go_at_call 15
    rw [← hW0]
    clear hW0 e0 e1 e2
    refine HR.out.mono ?_
    rintro e w1 hcd
    obtain ⟨A1, p1, A2, p2, rfl, hoo, hb1⟩ := hcd.shape
    have HB1 := Lib.hid (hb1.alloc hb1.size (.cells #[.slice A1 y1.acc.length p1, .slice A2 y1.nxt.length p2] 29))
    have HF := Lib.hid (res_end (W1 := W0) ((HB1.out.block _ hyl).trans HY.out) (by omega) hyl (DfaO.empty _ _) (HB0.out.trans (HB1.out.mono HB0.out.size)))
    obtain ⟨⟨⟨z0, k0⟩, ⟨z1, k1⟩, k2, k3⟩, -⟩ := HF.out
    clear hcd hoo hb1
    go_wp2_with fail
    obtain ⟨-, ⟨hc0, hc1⟩, hd, hb⟩ := HF.out
    refine bodyPost_ret (v := .tuple #[.agg #[.slice none 0 0, .slice none 0 0], .bool false]) (by simp [results, Tryz.results15, go_sem, hc0, hc1]) rfl ?_
    exact ⟨_, _, rfl, hd, hb⟩
  | true =>
    go_enter Tryz.func15, Tryz.ntmps15
    go_wp2_with fail
    go_at_call 15
    rw [← hW0]
    clear hW0 e0 e1 e2
    refine HR.out.mono ?_
    rintro e w1 hcd
    obtain ⟨A1, p1, A2, p2, rfl, hoo, hb1⟩ := hcd.shape
    obtain ⟨W2, hW2⟩ : ∃ W2, W2 = (w1.alloc (.cells #[.slice A1 y1.acc.length p1, .slice A2 y1.nxt.length p2] 29)).alloc (.cells #[.slice none 0 0, .slice none 0 0] 29) := ⟨_, rfl⟩
    have hb12 : Below w1.heap.size w1 W2 := by rw [hW2]; exact ((Below.refl _ _).alloc (Nat.le_refl _) _).alloc (by simp) _
    have HA2 : Hid (W2.heap[w1.heap.size]? = some (.cells #[.slice A1 y1.acc.length p1, .slice A2 y1.nxt.length p2] 29 (0, 0))) := Lib.hid (by rw [hW2]; exact (Below.heap_alloc _ _ _ (by simp)).trans (heap_alloc_new w1 _))
    have HD2 : Hid (W2.heap[w1.heap.size + 1]? = some (.cells #[.slice none 0 0, .slice none 0 0] 29 (0, 0))) := Lib.hid (by rw [hW2]; exact three2 w1 _ _ _ _)
    have HB2 := Lib.hid (hb1.trans (hb12.mono hb1.size))
    have HV1 := Lib.hid (hoo.dfa.kept hb12)
    have hz2 := HB2.out.size
    have hz01 := hb1.size
    have hz12 := hb12.size
    obtain ⟨q0, q1, q2, -, -, -⟩ := three_at HB2.out hpl HP.out
    rw [hW2] at q0 q1 q2
    have HG2 := Lib.hid (HE2.out W2 HB2.out)
    have HS2 := Lib.hid (HR2.out W2 HB2.out)
    obtain ⟨f0, f1, f2⟩ := HG2.out
    rw [hW2] at f0 f1 f2
    clear hcd hoo hb1 hb12
    go_wp2_with fail
    rw [← hW2]
    clear hW2 q0 q1 q2 f0 f1 f2
    go_at_call 15
    refine HS2.out.mono ?_
    rintro e w3 hcd
    obtain ⟨A3, p3, A4, p4, rfl, hoo, hb3⟩ := hcd.shape
    obtain ⟨W4, hW4⟩ : ∃ W4, W4 = w3.alloc (.cells #[.slice A3 y2.acc.length p3, .slice A4 y2.nxt.length p4] 29) := ⟨_, rfl⟩
    have hb34 : Below w3.heap.size w3 W4 := by rw [hW4]; exact (Below.refl _ _).alloc (Nat.le_refl _) _
    have HB4 := Lib.hid (HB2.out.trans ((hb3.trans (hb34.mono hb3.size)).mono hz2))
    have HV2 := Lib.hid (hoo.dfa.kept hb34)
    have HV1 := Lib.hid (HV1.out.kept (hb3.trans (hb34.mono hb3.size)))
    have hdl := blk_lt HD2.out
    have HD4 := Lib.hid (((hb3.trans (hb34.mono hb3.size)).block _ hdl).trans HD2.out)
    have HA4 := Lib.hid (((hb3.trans (hb34.mono hb3.size)).block _ (blk_lt HA2.out)).trans HA2.out)
    have HX4 : Hid (W4.heap[w3.heap.size]? = some (.cells #[.slice A3 y2.acc.length p3, .slice A4 y2.nxt.length p4] 29 (0, 0))) := Lib.hid (by rw [hW4]; exact heap_alloc_new w3 _)
    have hz4 := HB4.out.size
    have hz23 := hb3.size
    have hz34 := hb34.size
    clear hcd hoo hb3 hb34
    cases ok2 with
    | false =>
      obtain ⟨rfl, rfl⟩ : y = ⟨[], []⟩ ∧ ok = false := by simpa [nodeR2] using hy
      have HF := Lib.hid (res_end (W1 := W0) ((HB4.out.block _ hyl).trans HY.out) (by omega) hyl (DfaO.empty _ _) (HB0.out.trans (HB4.out.mono HB0.out.size)))
      rw [hW4] at HF
      obtain ⟨⟨⟨z0, k0⟩, ⟨z1, k1⟩, k2, k3⟩, -⟩ := HF.out
      clear hy
      go_wp2_with fail
      obtain ⟨-, ⟨hc0, hc1⟩, hd, hb⟩ := HF.out
      refine bodyPost_ret (v := .tuple #[.agg #[.slice none 0 0, .slice none 0 0], .bool false]) (by simp [results, Tryz.results15, go_sem, hc0, hc1]) rfl ?_
      exact ⟨_, _, rfl, hd, hb⟩
    | true =>
      have hst : proR y1 y2 6 y ok := by simpa [nodeR2] using hy
      have HC := Lib.hid (specPro_any _ _ _ _ y1 y2 _ _ 6 y ok W4 HV1.out HV2.out hst)
      obtain ⟨q0, q1, q2, -, -, -⟩ := three_at HB4.out hpl HP.out
      obtain ⟨a0, a1, -, -⟩ := box2_facts HA4.out
      rw [hW4] at q0 q1 q2 a0 a1
      clear hy hst
      go_wp2_with fail
      rw [← hW4]
      clear hW4 q0 q1 q2 a0 a1
      go_at_call 34
      refine HC.out.mono ?_
      rintro e w5 hcd
      obtain ⟨A5, p5, A6, p6, rfl, hoo, hb5⟩ := hcd.shape
      have HF := Lib.hid (res_end2 ((hb5.block _ (by omega)).trans ((HB4.out.block _ hyl).trans HY.out)) ((hb5.block _ (by omega)).trans HD4.out) (by omega) (by omega) (by omega) (by have := HB0.out.size; omega) (by omega) hoo (HB0.out.trans ((HB4.out.trans (hb5.mono hz4)).mono HB0.out.size)))
      obtain ⟨⟨⟨z0, k0⟩, ⟨z1, k1⟩, k2, k3⟩, ⟨d0, d1⟩, ⟨⟨z4, k4⟩, ⟨z5, k5⟩, k6, k7⟩, -⟩ := HF.out
      clear hcd hoo hb5
      go_wp2_with fail
      obtain ⟨-, -, -, ⟨hc0, hc1⟩, hd, hb⟩ := HF.out
      refine bodyPost_ret (v := .tuple #[.agg #[.slice A5 y.acc.length p5, .slice A6 y.nxt.length p6], .bool ok]) (by simp [results, Tryz.results15, go_sem, hc0, hc1]) rfl ?_
      exact ⟨_, _, rfl, hd, hb⟩
set_option maxRecDepth 100000 in
set_option maxHeartbeats 3200000 in
theorem scomp_7 (l : ByteArray) (g o c : Nat) (k1 : Int) (l1 : ByteArray) (u1 : Value) (k2 : Int) (l2 : ByteArray) (u2 : Value) (w : World) (hg : g < w.heap.size) (he : ElAt w g o k1 l1 u1) (he2 : ElAt w g (o + 3) k2 l2 u2) (y1 : Dx) (ok1 : Bool) (y2 : Dx) (ok2 : Bool) (y : Dx) (ok : Bool)
    (hR : ∀ W, Below w.heap.size w W → Calls Tryz.prog 15 #[.agg #[.int .i64 k1, .string l1, u1]] W (CopyDB y1 ok1 W))
    (hR2 : ∀ W, Below w.heap.size w W → Calls Tryz.prog 15 #[.agg #[.int .i64 k2, .string l2, u2]] W (CopyDB y2 ok2 W)) (hy : nodeR2 7 y1 ok1 y2 ok2 y ok) :
    Calls Tryz.prog 15 #[.agg #[.int .i64 7, .string l, .slice (some ⟨g, o, none⟩) 2 c]] w (CopyDB y ok w) := by
  obtain ⟨W0, hW0⟩ : ∃ W0, W0 = (w.alloc (.cells #[.int .i64 7, .string l, .slice (some ⟨g, o, none⟩) 2 c] 34)).alloc (.cells #[.slice none 0 0, .slice none 0 0] 29) := ⟨_, rfl⟩
  have HB0 : Hid (Below w.heap.size w W0) := Lib.hid (by rw [hW0]; exact ((Below.refl _ _).alloc (Nat.le_refl _) _).alloc (by simp) _)
  have HP : Hid (W0.heap[w.heap.size]? = some (.cells #[.int .i64 7, .string l, .slice (some ⟨g, o, none⟩) 2 c] 34 (0, 0))) := Lib.hid (by rw [hW0]; exact (Below.heap_alloc _ _ _ (by simp)).trans (heap_alloc_new w _))
  have HY : Hid (W0.heap[w.heap.size + 1]? = some (.cells #[.slice none 0 0, .slice none 0 0] 29 (0, 0))) := Lib.hid (by rw [hW0]; exact three2 w _ _ _ _)
  have HR := Lib.hid (hR W0 HB0.out)
  have HR2 := Lib.hid (fun (V : World) (hV : Below W0.heap.size W0 V) => hR2 V (HB0.out.trans (hV.mono HB0.out.size)))
  have HE2 := Lib.hid (fun (V : World) (hV : Below W0.heap.size W0 V) => he2.below (HB0.out.trans (hV.mono HB0.out.size)) hg)
  have hyl := blk_lt HY.out
  have hpl := blk_lt HP.out
  obtain ⟨e0, e1, e2⟩ := he.below HB0.out hg
  rw [hW0] at e0 e1 e2
  clear hR he hR2 he2
  cases ok1 with
  | false =>
    obtain ⟨rfl, rfl⟩ : y = ⟨[], []⟩ ∧ ok = false := by simpa [nodeR2] using hy
    clear hy
    go_enter Tryz.func15, Tryz.ntmps15
    go_wp2_with fail
    go_at_call 15
    rw [← hW0]
    clear hW0 e0 e1 e2
    refine HR.out.mono ?_
    rintro e w1 hcd
    obtain ⟨A1, p1, A2, p2, rfl, hoo, hb1⟩ := hcd.shape
    have HB1 := Lib.hid (hb1.alloc hb1.size (.cells #[.slice A1 y1.acc.length p1, .slice A2 y1.nxt.length p2] 29))
    have HF := Lib.hid (res_end (W1 := W0) ((HB1.out.block _ hyl).trans HY.out) (by omega) hyl (DfaO.empty _ _) (HB0.out.trans (HB1.out.mono HB0.out.size)))
    obtain ⟨⟨⟨z0, k0⟩, ⟨z1, k1⟩, k2, k3⟩, -⟩ := HF.out
    clear hcd hoo hb1
    go_wp2_with fail
    obtain ⟨-, ⟨hc0, hc1⟩, hd, hb⟩ := HF.out
    refine bodyPost_ret (v := .tuple #[.agg #[.slice none 0 0, .slice none 0 0], .bool false]) (by simp [results, Tryz.results15, go_sem, hc0, hc1]) rfl ?_
    exact ⟨_, _, rfl, hd, hb⟩
  | true =>
    go_enter Tryz.func15, Tryz.ntmps15
    go_wp2_with fail
    go_at_call 15
    rw [← hW0]
    clear hW0 e0 e1 e2
    refine HR.out.mono ?_
    rintro e w1 hcd
    obtain ⟨A1, p1, A2, p2, rfl, hoo, hb1⟩ := hcd.shape
    obtain ⟨W2, hW2⟩ : ∃ W2, W2 = (w1.alloc (.cells #[.slice A1 y1.acc.length p1, .slice A2 y1.nxt.length p2] 29)).alloc (.cells #[.slice none 0 0, .slice none 0 0] 29) := ⟨_, rfl⟩
    have hb12 : Below w1.heap.size w1 W2 := by rw [hW2]; exact ((Below.refl _ _).alloc (Nat.le_refl _) _).alloc (by simp) _
    have HA2 : Hid (W2.heap[w1.heap.size]? = some (.cells #[.slice A1 y1.acc.length p1, .slice A2 y1.nxt.length p2] 29 (0, 0))) := Lib.hid (by rw [hW2]; exact (Below.heap_alloc _ _ _ (by simp)).trans (heap_alloc_new w1 _))
    have HD2 : Hid (W2.heap[w1.heap.size + 1]? = some (.cells #[.slice none 0 0, .slice none 0 0] 29 (0, 0))) := Lib.hid (by rw [hW2]; exact three2 w1 _ _ _ _)
    have HB2 := Lib.hid (hb1.trans (hb12.mono hb1.size))
    have HV1 := Lib.hid (hoo.dfa.kept hb12)
    have hz2 := HB2.out.size
    have hz01 := hb1.size
    have hz12 := hb12.size
    obtain ⟨q0, q1, q2, -, -, -⟩ := three_at HB2.out hpl HP.out
    rw [hW2] at q0 q1 q2
    have HG2 := Lib.hid (HE2.out W2 HB2.out)
    have HS2 := Lib.hid (HR2.out W2 HB2.out)
    obtain ⟨f0, f1, f2⟩ := HG2.out
    rw [hW2] at f0 f1 f2
    clear hcd hoo hb1 hb12
    go_wp2_with fail
    rw [← hW2]
    clear hW2 q0 q1 q2 f0 f1 f2
    go_at_call 15
    refine HS2.out.mono ?_
    rintro e w3 hcd
    obtain ⟨A3, p3, A4, p4, rfl, hoo, hb3⟩ := hcd.shape
    obtain ⟨W4, hW4⟩ : ∃ W4, W4 = w3.alloc (.cells #[.slice A3 y2.acc.length p3, .slice A4 y2.nxt.length p4] 29) := ⟨_, rfl⟩
    have hb34 : Below w3.heap.size w3 W4 := by rw [hW4]; exact (Below.refl _ _).alloc (Nat.le_refl _) _
    have HB4 := Lib.hid (HB2.out.trans ((hb3.trans (hb34.mono hb3.size)).mono hz2))
    have HV2 := Lib.hid (hoo.dfa.kept hb34)
    have HV1 := Lib.hid (HV1.out.kept (hb3.trans (hb34.mono hb3.size)))
    have hdl := blk_lt HD2.out
    have HD4 := Lib.hid (((hb3.trans (hb34.mono hb3.size)).block _ hdl).trans HD2.out)
    have HA4 := Lib.hid (((hb3.trans (hb34.mono hb3.size)).block _ (blk_lt HA2.out)).trans HA2.out)
    have HX4 : Hid (W4.heap[w3.heap.size]? = some (.cells #[.slice A3 y2.acc.length p3, .slice A4 y2.nxt.length p4] 29 (0, 0))) := Lib.hid (by rw [hW4]; exact heap_alloc_new w3 _)
    have hz4 := HB4.out.size
    have hz23 := hb3.size
    have hz34 := hb34.size
    clear hcd hoo hb3 hb34
    cases ok2 with
    | false =>
      obtain ⟨rfl, rfl⟩ : y = ⟨[], []⟩ ∧ ok = false := by simpa [nodeR2] using hy
      have HF := Lib.hid (res_end (W1 := W0) ((HB4.out.block _ hyl).trans HY.out) (by omega) hyl (DfaO.empty _ _) (HB0.out.trans (HB4.out.mono HB0.out.size)))
      rw [hW4] at HF
      obtain ⟨⟨⟨z0, k0⟩, ⟨z1, k1⟩, k2, k3⟩, -⟩ := HF.out
      clear hy
      go_wp2_with fail
      obtain ⟨-, ⟨hc0, hc1⟩, hd, hb⟩ := HF.out
      refine bodyPost_ret (v := .tuple #[.agg #[.slice none 0 0, .slice none 0 0], .bool false]) (by simp [results, Tryz.results15, go_sem, hc0, hc1]) rfl ?_
      exact ⟨_, _, rfl, hd, hb⟩
    | true =>
      have hst : proR y1 y2 7 y ok := by simpa [nodeR2] using hy
      have HC := Lib.hid (specPro_any _ _ _ _ y1 y2 _ _ 7 y ok W4 HV1.out HV2.out hst)
      obtain ⟨q0, q1, q2, -, -, -⟩ := three_at HB4.out hpl HP.out
      obtain ⟨a0, a1, -, -⟩ := box2_facts HA4.out
      rw [hW4] at q0 q1 q2 a0 a1
      clear hy hst
      go_wp2_with fail
      rw [← hW4]
      clear hW4 q0 q1 q2 a0 a1
      go_at_call 34
      refine HC.out.mono ?_
      rintro e w5 hcd
      obtain ⟨A5, p5, A6, p6, rfl, hoo, hb5⟩ := hcd.shape
      have HF := Lib.hid (res_end2 ((hb5.block _ (by omega)).trans ((HB4.out.block _ hyl).trans HY.out)) ((hb5.block _ (by omega)).trans HD4.out) (by omega) (by omega) (by omega) (by have := HB0.out.size; omega) (by omega) hoo (HB0.out.trans ((HB4.out.trans (hb5.mono hz4)).mono HB0.out.size)))
      obtain ⟨⟨⟨z0, k0⟩, ⟨z1, k1⟩, k2, k3⟩, ⟨d0, d1⟩, ⟨⟨z4, k4⟩, ⟨z5, k5⟩, k6, k7⟩, -⟩ := HF.out
      clear hcd hoo hb5
      go_wp2_with fail
      obtain ⟨-, -, -, ⟨hc0, hc1⟩, hd, hb⟩ := HF.out
      refine bodyPost_ret (v := .tuple #[.agg #[.slice A5 y.acc.length p5, .slice A6 y.nxt.length p6], .bool ok]) (by simp [results, Tryz.results15, go_sem, hc0, hc1]) rfl ?_
      exact ⟨_, _, rfl, hd, hb⟩
theorem specComp_any (n : Nat) : ∀ (B : Nat) (k : Int) (l : ByteArray) (u : Value) (a : Fr) (y : Dx) (ok : Bool) (w : World), Sl w B n u a → B ≤ w.heap.size → (allRow a && nodeOk k l a.items.length) = true → compN k l a y ok →
    Calls Tryz.prog 15 #[.agg #[.int .i64 k, .string l, u]] w (CopyDB y ok w) := by
  induction n with
  | zero => intro B k l u a y ok w h; exact h.zero.elim
  | succ n ih =>
    intro B k l u a y ok w hS hB hok hy
    rw [Bool.and_eq_true] at hok
    obtain ⟨hall, hnode⟩ := hok
    obtain ⟨hlen, A, c, rfl, hE⟩ := hS.open
    have kids : ∀ j, j < a.items.length → ∃ g o k' l' u' a', A = some ⟨g, o, none⟩ ∧ g < w.heap.size ∧ a.items[j]? = some (k', l', a') ∧ ElAt w g (o + j * 3) k' l' u' ∧
        ∀ y' ok', compN k' l' a' y' ok' → ∀ W, Below w.heap.size w W → Calls Tryz.prog 15 #[.agg #[.int .i64 k', .string l', u']] W (CopyDB y' ok' W) := fun j hj => by
      obtain ⟨g, o, hA, hg, k', l', a', u', hx, hls, he, h4⟩ := hE j hj
      exact ⟨g, o, k', l', u', a', hA, Nat.lt_of_lt_of_le hg hB, hx, he, fun y' ok' h W hW => ih B k' l' u' a' y' ok' W (h4.mono (hW.mono hB) (Nat.le_refl _)) (Nat.le_trans hB hW.size) (item_ok hall hx) h⟩
    clear hS hE ih
    match a, hall, hnode, hlen, hy, kids with
    | .nil, _, hnode, _, hy, _ => exact scomp_nil k l A c w hnode y ok hy
    | .cons k1 l1 a1 .nil, _, hnode, _, hy, kids =>
      obtain ⟨y1, ok1, h1, hy⟩ := hy
      obtain ⟨g, o, k', l', u', a', rfl, hg, hx, he, hr⟩ := kids 0 (by simp [Fr.items])
      cases hx
      rw [Nat.zero_mul, Nat.add_zero] at he
      have hn : nodeOk k l 1 = true := hnode
      rcases nodeOk_cases hn with ⟨rfl, hm⟩ | ⟨rfl, hm⟩ | ⟨rfl, -, hm⟩ | ⟨rfl, hm⟩ | ⟨rfl, hm⟩ | ⟨rfl, hm⟩ | ⟨rfl, hm⟩ | ⟨rfl, hm⟩ | ⟨rfl, hm⟩ <;> try omega
      · exact scomp_8 l g o c _ _ _ w hg he y1 ok1 y ok (hr y1 ok1 h1) hy
      · exact scomp_9 l g o c _ _ _ w hg he y1 ok1 y ok (hr y1 ok1 h1) hy
    | .cons k1 l1 a1 (.cons k2 l2 a2 .nil), _, hnode, _, hy, kids =>
      obtain ⟨y1, ok1, y2, ok2, h1, h2, hy⟩ := hy
      obtain ⟨g, o, k', l', u', a', rfl, hg, hx, he, hr⟩ := kids 0 (by simp [Fr.items])
      obtain ⟨g2, o2, k2', l2', u2', a2', hA, -, hx2, he2, hr2⟩ := kids 1 (by simp [Fr.items])
      cases hA
      cases hx
      cases hx2
      rw [Nat.zero_mul, Nat.add_zero] at he
      rw [Nat.one_mul] at he2
      have hn : nodeOk k l 2 = true := hnode
      rcases nodeOk_cases hn with ⟨rfl, hm⟩ | ⟨rfl, hm⟩ | ⟨rfl, -, hm⟩ | ⟨rfl, hm⟩ | ⟨rfl, hm⟩ | ⟨rfl, hm⟩ | ⟨rfl, hm⟩ | ⟨rfl, hm⟩ | ⟨rfl, hm⟩ <;> try omega
      · exact scomp_5 l g o c _ _ _ _ _ _ w hg he he2 y1 ok1 y2 ok2 y ok (hr y1 ok1 h1) (hr2 y2 ok2 h2) hy
      · exact scomp_6 l g o c _ _ _ _ _ _ w hg he he2 y1 ok1 y2 ok2 y ok (hr y1 ok1 h1) (hr2 y2 ok2 h2) hy
      · exact scomp_7 l g o c _ _ _ _ _ _ w hg he he2 y1 ok1 y2 ok2 y ok (hr y1 ok1 h1) (hr2 y2 ok2 h2) hy
    | .cons k1 l1 a1 (.cons k2 l2 a2 (.cons k3 l3 a3 r)), _, hnode, _, _, _ =>
      have hn : nodeOk k l (r.items.length + 1 + 1 + 1) = true := hnode
      rcases nodeOk_cases hn with ⟨-, hm⟩ | ⟨-, hm⟩ | ⟨-, -, hm⟩ | ⟨-, hm⟩ | ⟨-, hm⟩ | ⟨-, hm⟩ | ⟨-, hm⟩ | ⟨-, hm⟩ | ⟨-, hm⟩ <;> omega
end Go.Proofs.YtlkhmpdncimnfaaGreatDoor

/-
  What impl.compile answers at every valid expression; what impl.CompileRegex and spec.CompileRegex answer.
-/
namespace Go.Proofs.YtlkhmpdncimnfaaGreatDoor
open Go.RowKit

theorem implComp_any (n : Nat) : ∀ (B : Nat) (k : Int) (l : ByteArray) (u : Value) (a : Fr) (y : Dx) (ok : Bool) (w : World), Sl w B n u a → B ≤ w.heap.size → (allRow a && nodeOk k l a.items.length) = true → compN k l a y ok → Tab w →
    Calls Tryz.prog 18 #[.agg #[.int .i64 k, .string l, u]] w (CopyDB y ok w) := by
  induction n with
  | zero => intro B k l u a y ok w h; exact h.zero.elim
  | succ n ih =>
    intro B k l u a y ok w hS hB hok hy hTab
    rw [Bool.and_eq_true] at hok
    obtain ⟨hall, hnode⟩ := hok
    obtain ⟨hlen, A, c, rfl, hE⟩ := hS.open
    have hTb : ∀ W, Below w.heap.size w W → Tab W := fun W hW => hTab.kept hW
    have kids : ∀ (j : Nat) (x : Int × ByteArray × Fr) (d : Dx × Bool), a.items[j]? = some x → compN x.1 x.2.1 x.2.2 d.1 d.2 → ∃ g o A' c', KidC 18 w A j x d g o A' c' := fun j x d hx hd => by
      obtain ⟨g, o, hA, hg, k', l', a', u', hx', hls, he, h4⟩ := hE j (List.getElem?_eq_some_iff.1 hx).1
      rw [hx'] at hx
      cases hx
      obtain ⟨A', c', rfl⟩ := SlP.shape h4
      exact ⟨g, o, A', c', hA, Nat.lt_of_lt_of_le hg hB, he, fun W hW => ih B k' l' _ a' d.1 d.2 W (h4.mono (hW.mono hB) (Nat.le_refl _)) (Nat.le_trans hB hW.size) (item_ok hall hx') hd (hTb W hW)⟩
    have alls : ∀ L : List (Dx × Bool), a.items.length ≤ 2 → L.length = a.items.length → (∀ (j : Nat) (x : Int × ByteArray × Fr) (d : Dx × Bool), a.items[j]? = some x → L[j]? = some d → compN x.1 x.2.1 x.2.2 d.1 d.2) →
        ∀ W, Below w.heap.size w W → Calls Tryz.prog 36 #[.slice A a.items.length c] W (AllP L W) := fun L h2 hl hk W hW =>
      compileAll_any A c a L w W hW h2 hl (fun j x d hx hd => kids j x d hx (hk j x d hx hd))
    clear hS ih hE
    match a, hall, hnode, hlen, hy, kids, alls with
    | .nil, _, hnode, _, hy, _, alls =>
      have hA := alls [] (by simp [Fr.items]) rfl (fun j x d hx => by simp [Fr.items] at hx)
      have hn : nodeOk k l 0 = true := hnode
      have hy : leafR k l y ok := hy
      rcases nodeOk_cases hn with ⟨rfl, hm⟩ | ⟨rfl, hm⟩ | ⟨rfl, hl1, hm⟩ | ⟨rfl, hm⟩ | ⟨rfl, hm⟩ | ⟨rfl, hm⟩ | ⟨rfl, hm⟩ | ⟨rfl, hm⟩ | ⟨rfl, hm⟩ <;> try omega
      · have h0 := ok_zero hn (by decide)
        exact icomp_1 l A c w y ok (by simpa [leafR] using hy) hA (fun W _ => formOf_1 l A c W h0)
      · have h0 := ok_zero hn (by decide)
        exact icomp_2 l A c w y ok (by simpa [leafR] using hy) (by decide) hA (fun W _ => formOf_2 l A c W h0)
      · have hlt := ok_letter hn
        exact icomp_3 l A c w y ok (by simpa [leafR] using hy) (by omega) hA (fun W _ => formOf_letter l A c W hlt.1 hlt.2)
      · have h0 := ok_zero hn (by decide)
        exact icomp_4 l A c w y ok (by simpa [leafR] using hy) hA (fun W _ => formOf_4 l A c W h0)
    | .cons k1 l1 a1 .nil, _, hnode, _, hy, kids, alls =>
      obtain ⟨y1, ok1, h1, hy⟩ := hy
      have hA := alls [(y1, ok1)] (by simp [Fr.items]) rfl (fun j x d hx hd => by
        match j, hx, hd with
        | 0, hx, hd =>
          cases hx
          cases hd
          exact h1
        | j + 1, hx, _ => simp [Fr.items] at hx)
      obtain ⟨g, o, A1, c1, K1⟩ := kids 0 (k1, l1, a1) (y1, ok1) rfl h1
      obtain rfl := K1.at_
      have hn : nodeOk k l 1 = true := hnode
      have he : ElAt w g o k1 l1 (.slice A1 a1.items.length c1) := by simpa using K1.el
      have hg := K1.lt
      have h3 : k ≠ 3 := fun e => by
        rcases nodeOk_cases hn with ⟨h, _⟩ | ⟨h, _⟩ | ⟨_, _, h⟩ | ⟨h, _⟩ | ⟨h, _⟩ | ⟨h, _⟩ | ⟨h, _⟩ | ⟨h, _⟩ | ⟨h, _⟩ <;> omega
      have h0 := ok_zero hn h3
      cases ok1 with
      | false =>
        obtain ⟨rfl, rfl⟩ : y = ⟨[], []⟩ ∧ ok = false := by simpa [nodeR1] using hy
        exact icomp_fail k l (some ⟨g, o, none⟩) 1 c w [(y1, false)] rfl hA
      | true =>
        rcases nodeOk_cases hn with ⟨rfl, hm⟩ | ⟨rfl, hm⟩ | ⟨rfl, -, hm⟩ | ⟨rfl, hm⟩ | ⟨rfl, hm⟩ | ⟨rfl, hm⟩ | ⟨rfl, hm⟩ | ⟨rfl, hm⟩ | ⟨rfl, hm⟩ <;> try omega
        · exact icomp_8 l g o c k1 l1 A1 _ c1 y1 w y ok (by simpa [nodeR1] using hy) hTb hA (fun W hW => formOf_8 l g o c k1 l1 _ W h0 (Nat.lt_of_lt_of_le hg hW.size) (he.below hW hg))
        · obtain ⟨z, hz⟩ : ∃ z, minR y1 z ∧ y = comD z ∧ ok = true := by simpa [nodeR1] using hy
          exact icomp_9 l g o c k1 l1 A1 _ c1 y1 w y ok z hz hA (fun W hW => formOf_9 l g o c k1 l1 _ W h0 (Nat.lt_of_lt_of_le hg hW.size) (he.below hW hg))
    | .cons k1 l1 a1 (.cons k2 l2 a2 .nil), _, hnode, _, hy, kids, alls =>
      obtain ⟨y1, ok1, y2, ok2, h1, h2, hy⟩ := hy
      have hA := alls [(y1, ok1), (y2, ok2)] (by simp [Fr.items]) rfl (fun j x d hx hd => by
        match j, hx, hd with
        | 0, hx, hd =>
          cases hx
          cases hd
          exact h1
        | 1, hx, hd =>
          cases hx
          cases hd
          exact h2
        | j + 2, hx, _ => simp [Fr.items] at hx)
      obtain ⟨g, o, A1, c1, K1⟩ := kids 0 (k1, l1, a1) (y1, ok1) rfl h1
      obtain ⟨g2, o2, A2, c2, K2⟩ := kids 1 (k2, l2, a2) (y2, ok2) rfl h2
      obtain rfl := K1.at_
      have hq := K2.at_
      cases hq
      have hn : nodeOk k l 2 = true := hnode
      have he : ElAt w g o k1 l1 (.slice A1 a1.items.length c1) := by simpa using K1.el
      have he2 : ElAt w g (o + 3) k2 l2 (.slice A2 a2.items.length c2) := by simpa using K2.el
      have hg := K1.lt
      have h3 : k ≠ 3 := fun e => by
        rcases nodeOk_cases hn with ⟨h, _⟩ | ⟨h, _⟩ | ⟨_, _, h⟩ | ⟨h, _⟩ | ⟨h, _⟩ | ⟨h, _⟩ | ⟨h, _⟩ | ⟨h, _⟩ | ⟨h, _⟩ <;> omega
      have h0 := ok_zero hn h3
      by_cases hb : ok1 = true ∧ ok2 = true
      · obtain ⟨rfl, rfl⟩ := hb
        rcases nodeOk_cases hn with ⟨rfl, hm⟩ | ⟨rfl, hm⟩ | ⟨rfl, -, hm⟩ | ⟨rfl, hm⟩ | ⟨rfl, hm⟩ | ⟨rfl, hm⟩ | ⟨rfl, hm⟩ | ⟨rfl, hm⟩ | ⟨rfl, hm⟩ <;> try omega
        · exact icomp_5 l g o c k1 l1 A1 _ c1 k2 l2 A2 _ c2 y1 y2 w y ok (by simpa [nodeR2] using hy) hTb hA (fun W hW => formOf_5 l g o c k1 k2 l1 l2 _ _ W h0 (Nat.lt_of_lt_of_le hg hW.size) (he.below hW hg) (he2.below hW hg))
        · exact icomp_6 l g o c k1 l1 A1 _ c1 k2 l2 A2 _ c2 y1 y2 w y ok (by simpa [nodeR2] using hy) hA (fun W hW => formOf_6 l g o c k1 k2 l1 l2 _ _ W h0 (Nat.lt_of_lt_of_le hg hW.size) (he.below hW hg) (he2.below hW hg))
        · exact icomp_7 l g o c k1 l1 A1 _ c1 k2 l2 A2 _ c2 y1 y2 w y ok (by simpa [nodeR2] using hy) hA (fun W hW => formOf_7 l g o c k1 k2 l1 l2 _ _ W h0 (Nat.lt_of_lt_of_le hg hW.size) (he.below hW hg) (he2.below hW hg))
      · obtain ⟨rfl, rfl⟩ : y = ⟨[], []⟩ ∧ ok = false := by
          unfold nodeR2 at hy
          rwa [if_neg hb] at hy
        have hf : ([(y1, ok1), (y2, ok2)] : List (Dx × Bool)).all (·.2) = false := by
          cases ok1 <;> cases ok2 <;> simp at hb ⊢
        exact icomp_fail k l (some ⟨g, o, none⟩) 2 c w _ hf hA
    | .cons k1 l1 a1 (.cons k2 l2 a2 (.cons k3 l3 a3 r)), _, hnode, _, _, _, _ =>
      have hn : nodeOk k l (r.items.length + 1 + 1 + 1) = true := hnode
      rcases nodeOk_cases hn with ⟨-, hm⟩ | ⟨-, hm⟩ | ⟨-, -, hm⟩ | ⟨-, hm⟩ | ⟨-, hm⟩ | ⟨-, hm⟩ | ⟨-, hm⟩ | ⟨-, hm⟩ | ⟨-, hm⟩ <;> omega

set_option maxRecDepth 100000 in
set_option maxHeartbeats 1600000 in
theorem implCompRx_any (n B : Nat) (k : Int) (l : ByteArray) (u : Value) (a : Fr) (y : Dx) (ok : Bool) (w : World) (hS : Sl w B n u a) (hB : B ≤ w.heap.size) (hsz : a.size ≤ 2097152) (hls : l.size ≤ 9223372036854775807) (hy : compRx k l a y ok) (hTab : Tab w) :
    Calls Tryz.prog 7 #[.agg #[.int .i64 k, .string l, u]] w (CopyDB y ok w) := by
  obtain ⟨W0, hW0⟩ : ∃ W0, W0 = (w.alloc (.cells #[.int .i64 k, .string l, u] 34)).alloc (.cells #[.slice none 0 0, .slice none 0 0] 29) := ⟨_, rfl⟩
  have HB0 : Hid (Below w.heap.size w W0) := Lib.hid (by rw [hW0]; exact ((Below.refl _ _).alloc (Nat.le_refl _) _).alloc (by simp) _)
  have HP : Hid (W0.heap[w.heap.size]? = some (.cells #[.int .i64 k, .string l, u] 34 (0, 0))) := Lib.hid (by rw [hW0]; exact (Below.heap_alloc _ _ _ (by simp)).trans (heap_alloc_new w _))
  have HY : Hid (W0.heap[w.heap.size + 1]? = some (.cells #[.slice none 0 0, .slice none 0 0] 29 (0, 0))) := Lib.hid (by rw [hW0]; exact three2 w _ _ _ _)
  have hyl := blk_lt HY.out
  have hpl := blk_lt HP.out
  have HV := Lib.hid (implValid_any n B k l u a W0 (hS.mono (HB0.out.mono hB) (Nat.le_refl _)) (Nat.le_trans hB HB0.out.size) hsz hls)
  obtain ⟨A, c, rfl⟩ := SlP.shape hS
  cases hv : validRx k l a with
  | true =>
    rw [hv] at HV
    have HC := Lib.hid (fun (V : World) (hV : Below W0.heap.size W0 V) => implComp_any n B k l _ a y ok V (hS.mono ((HB0.out.trans (hV.mono HB0.out.size)).mono hB) (Nat.le_refl _)) (Nat.le_trans hB (Nat.le_trans HB0.out.size hV.size)) (valid_ok hv) (by unfold compRx at hy; rwa [if_pos hv] at hy) (hTab.kept (HB0.out.trans (hV.mono HB0.out.size))))
    clear hS hy hv
    go_enter Tryz.func7, Tryz.ntmps7
    go_wp2_with fail
    go_at_call 17
    rw [← hW0]
    clear hW0
    refine HV.out.mono ?_
    rintro e w1 ⟨rfl, hb1⟩
    have HB1 := Lib.hid hb1
    obtain ⟨q0, q1, q2, -, -, -⟩ := three_at hb1 hpl HP.out
    clear hb1
    go_wp2_with fail
    go_at_call 18
    refine (HC.out w1 HB1.out).mono ?_
    rintro e w3 hcd
    obtain ⟨A5, p5, A6, p6, rfl, hoo, hb3⟩ := hcd.shape
    have hz1 := HB1.out.size
    have HF := Lib.hid (res_end ((hb3.block _ (by omega)).trans ((HB1.out.block _ hyl).trans HY.out)) (by omega) (by omega) hoo (HB0.out.trans ((HB1.out.trans (hb3.mono hz1)).mono HB0.out.size)))
    obtain ⟨⟨⟨z0, k0⟩, ⟨z1, k1⟩, k2, k3⟩, -⟩ := HF.out
    clear hcd hoo hb3 q0 q1 q2
    go_wp2_with fail
    obtain ⟨-, ⟨hc0, hc1⟩, hd, hb⟩ := HF.out
    refine bodyPost_ret (v := .tuple #[.agg #[.slice A5 y.acc.length p5, .slice A6 y.nxt.length p6], .bool ok]) (by simp [results, Tryz.results7, go_sem, hc0, hc1]) rfl ?_
    exact ⟨_, _, rfl, hd, hb⟩
  | false =>
    rw [hv] at HV
    unfold compRx at hy
    rw [if_neg (by rw [hv]; simp)] at hy
    obtain ⟨rfl, rfl⟩ := hy
    clear hS hv
    go_enter Tryz.func7, Tryz.ntmps7
    go_wp2_with fail
    go_at_call 17
    rw [← hW0]
    clear hW0
    refine HV.out.mono ?_
    rintro e w1 ⟨rfl, hb1⟩
    have HF := Lib.hid (res_end (W1 := W0) ((hb1.block _ hyl).trans HY.out) (by omega) hyl (DfaO.empty _ _) (HB0.out.trans (hb1.mono HB0.out.size)))
    obtain ⟨⟨⟨z0, k0⟩, ⟨z1, k1⟩, k2, k3⟩, -⟩ := HF.out
    clear hb1
    go_wp2_with fail
    obtain ⟨-, ⟨hc0, hc1⟩, hd, hb⟩ := HF.out
    refine bodyPost_ret (v := .tuple #[.agg #[.slice none 0 0, .slice none 0 0], .bool false]) (by simp [results, Tryz.results7, go_sem, hc0, hc1]) rfl ?_
    exact ⟨_, _, rfl, hd, hb⟩
set_option maxRecDepth 100000 in
set_option maxHeartbeats 1600000 in
theorem specCompRx_any (n B : Nat) (k : Int) (l : ByteArray) (u : Value) (a : Fr) (y : Dx) (ok : Bool) (w : World) (hS : Sl w B n u a) (hB : B ≤ w.heap.size) (hsz : a.size ≤ 2097152) (hls : l.size ≤ 9223372036854775807) (hy : compRx k l a y ok) :
    Calls Tryz.prog 5 #[.agg #[.int .i64 k, .string l, u]] w (CopyDB y ok w) := by
  obtain ⟨W0, hW0⟩ : ∃ W0, W0 = (w.alloc (.cells #[.int .i64 k, .string l, u] 34)).alloc (.cells #[.slice none 0 0, .slice none 0 0] 29) := ⟨_, rfl⟩
  have HB0 : Hid (Below w.heap.size w W0) := Lib.hid (by rw [hW0]; exact ((Below.refl _ _).alloc (Nat.le_refl _) _).alloc (by simp) _)
  have HP : Hid (W0.heap[w.heap.size]? = some (.cells #[.int .i64 k, .string l, u] 34 (0, 0))) := Lib.hid (by rw [hW0]; exact (Below.heap_alloc _ _ _ (by simp)).trans (heap_alloc_new w _))
  have HY : Hid (W0.heap[w.heap.size + 1]? = some (.cells #[.slice none 0 0, .slice none 0 0] 29 (0, 0))) := Lib.hid (by rw [hW0]; exact three2 w _ _ _ _)
  have hyl := blk_lt HY.out
  have hpl := blk_lt HP.out
  have HV := Lib.hid (specValid_any n B k l u a W0 (hS.mono (HB0.out.mono hB) (Nat.le_refl _)) (Nat.le_trans hB HB0.out.size) hsz hls)
  obtain ⟨A, c, rfl⟩ := SlP.shape hS
  cases hv : validRx k l a with
  | true =>
    rw [hv] at HV
    have HC := Lib.hid (fun (V : World) (hV : Below W0.heap.size W0 V) => specComp_any n B k l _ a y ok V (hS.mono ((HB0.out.trans (hV.mono HB0.out.size)).mono hB) (Nat.le_refl _)) (Nat.le_trans hB (Nat.le_trans HB0.out.size hV.size)) (valid_ok hv) (by unfold compRx at hy; rwa [if_pos hv] at hy))
    clear hS hy hv
    go_enter Tryz.func5, Tryz.ntmps5
    go_wp2_with fail
    go_at_call 14
    rw [← hW0]
    clear hW0
    refine HV.out.mono ?_
    rintro e w1 ⟨rfl, hb1⟩
    have HB1 := Lib.hid hb1
    obtain ⟨q0, q1, q2, -, -, -⟩ := three_at hb1 hpl HP.out
    clear hb1
    go_wp2_with fail
    go_at_call 15
    refine (HC.out w1 HB1.out).mono ?_
    rintro e w3 hcd
    obtain ⟨A5, p5, A6, p6, rfl, hoo, hb3⟩ := hcd.shape
    have hz1 := HB1.out.size
    have hz13 := hb3.size
    obtain ⟨w4, hw4⟩ : ∃ w4, w4 = w3.alloc (.cells #[.slice A5 y.acc.length p5, .slice A6 y.nxt.length p6] 29) := ⟨_, rfl⟩
    have hb34 : Below w3.heap.size w3 w4 := by rw [hw4]; exact (Below.refl _ _).alloc (Nat.le_refl _) _
    have hz34 := hb34.size
    have hb4 := hb3.trans (hb34.mono hz13)
    have HF := Lib.hid (res_end ((hb4.block _ (by omega)).trans ((HB1.out.block _ hyl).trans HY.out)) (by omega) (by omega) (hoo.mono (w' := w4) (fun g hg => hb34.block g hg.2) (fun g hg => ⟨hg.1, by have := hg.2; omega⟩) hz34) (HB0.out.trans ((HB1.out.trans (hb4.mono hz1)).mono HB0.out.size)))
    rw [hw4] at HF
    obtain ⟨⟨⟨z0, k0⟩, ⟨z1, k1⟩, k2, k3⟩, -⟩ := HF.out
    clear hcd hoo hb3 hb34 hb4 hw4 hz13 hz34 q0 q1 q2
    go_wp2_with fail
    obtain ⟨-, ⟨hc0, hc1⟩, hd, hb⟩ := HF.out
    refine bodyPost_ret (v := .tuple #[.agg #[.slice A5 y.acc.length p5, .slice A6 y.nxt.length p6], .bool ok]) (by simp [results, Tryz.results5, go_sem, hc0, hc1]) rfl ?_
    exact ⟨_, _, rfl, hd, hb⟩
  | false =>
    rw [hv] at HV
    unfold compRx at hy
    rw [if_neg (by rw [hv]; simp)] at hy
    obtain ⟨rfl, rfl⟩ := hy
    clear hS hv
    go_enter Tryz.func5, Tryz.ntmps5
    go_wp2_with fail
    go_at_call 14
    rw [← hW0]
    clear hW0
    refine HV.out.mono ?_
    rintro e w1 ⟨rfl, hb1⟩
    have HF := Lib.hid (res_end (W1 := W0) ((hb1.block _ hyl).trans HY.out) (by omega) hyl (DfaO.empty _ _) (HB0.out.trans (hb1.mono HB0.out.size)))
    obtain ⟨⟨⟨z0, k0⟩, ⟨z1, k1⟩, k2, k3⟩, -⟩ := HF.out
    clear hb1
    go_wp2_with fail
    obtain ⟨-, ⟨hc0, hc1⟩, hd, hb⟩ := HF.out
    refine bodyPost_ret (v := .tuple #[.agg #[.slice none 0 0, .slice none 0 0], .bool false]) (by simp [results, Tryz.results5, go_sem, hc0, hc1]) rfl ?_
    exact ⟨_, _, rfl, hd, hb⟩
end Go.Proofs.YtlkhmpdncimnfaaGreatDoor
