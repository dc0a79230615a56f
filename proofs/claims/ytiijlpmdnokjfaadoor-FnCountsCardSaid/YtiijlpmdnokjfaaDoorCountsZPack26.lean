/- Texts of one proof. -/
import Derived.Test.YtiijlpmdnokjfaaDoorCountsZPack6
set_option maxRecDepth 100000
set_option maxHeartbeats 20000000
namespace Go.Proofs.YtiijlpmdnokjfaaDoor
open Go.RowKit
def prRow (a b : Au) (p q k : Nat) : List Int := (List.range k).map λ j => ((a.T p j * b.n + b.T q j : Nat) : Int)
theorem prRow_length (a b : Au) (p q k : Nat) : (prRow a b p q k).length = k := by simp [prRow]
theorem prRow_succ (a b : Au) (p q k : Nat) : prRow a b p q (k + 1) = prRow a b p q k ++ [((a.T p k * b.n + b.T q k : Nat) : Int)] := by simp [prRow, List.range_succ]
def prA (a b : Au) (f : Bool -> Bool -> Bool) (t : Nat) : List Bool := (List.range t).map λ x => f (a.A (x / b.n)) (b.A (x % b.n))
def prN (a b : Au) (t : Nat) : List (List Value) := (List.range t).map λ x => ints (prRow a b (x / b.n) (x % b.n) 3)
theorem prA_length (a b : Au) (f : Bool -> Bool -> Bool) (t : Nat) : (prA a b f t).length = t := by simp [prA]
theorem pr_div {n p q : Nat} (hq : q < n) : (p * n + q) / n = p /\ (p * n + q) % n = q := by
  constructor
  . rw [Nat.mul_comm, Nat.mul_add_div (by omega), Nat.div_eq_of_lt hq, Nat.add_zero]
  . rw [Nat.mul_comm, Nat.mul_add_mod, Nat.mod_eq_of_lt hq]
theorem prA_succ {a b : Au} {f : Bool -> Bool -> Bool} {p q : Nat} (hq : q < b.n) : prA a b f (p * b.n + (q + 1)) = prA a b f (p * b.n + q) ++ [f (a.A p) (b.A q)] := by
  rw [<- Nat.add_assoc]
  unfold prA
  rw [List.range_succ, List.map_append, List.map_cons, List.map_nil, (pr_div hq).1, (pr_div hq).2]
theorem prN_succ {a b : Au} {p q : Nat} (hq : q < b.n) : prN a b (p * b.n + (q + 1)) = prN a b (p * b.n + q) ++ [ints (prRow a b p q 3)] := by
  rw [<- Nat.add_assoc]
  unfold prN
  rw [List.range_succ, List.map_append, List.map_cons, List.map_nil, (pr_div hq).1, (pr_div hq).2]
theorem pr_fields (a b : Au) (f : Bool -> Bool -> Bool) : accOf (prd a b f) = prA a b f (a.n * b.n) /\ intss (nxtOf (prd a b f)) = prN a b (a.n * b.n) := by
  refine ⟨rfl, ?_⟩
  simp only [intss, nxtOf, List.map_map]
  rfl
theorem mul_1600 {p n : Nat} (hp : p <= 40) (hn : n <= 40) : p * n <= 1600 := Nat.mul_le_mul hp hn
theorem specPairs_any (va vn va' vn' : Value) (a b : Au) (both : Bool) (S S' : Nat -> Prop) (w : World) (hwa : a.wf) (hwb : b.wf) (hna : a.n <= 40) (hnb : b.n <= 40) (h : DfaV w S va vn (fieldsOf a)) (h' : DfaV w S' va' vn' (fieldsOf b)) :
    Calls Tryd.prog 55 #[.agg #[va, vn], .agg #[va', vn'], .bool both] w (CopyD (fieldsOf (prd a b (pairF both))) w) := by
  obtain ⟨i0, hi, hz0, hz1, hz2⟩ := info_parts intInfo
  obtain ⟨b0, hbi, hb0, hb1, hb2⟩ := info_parts boolInfo
  obtain ⟨r0, hri, hr0, hr1, hr2⟩ := info_parts rowInfo
  obtain ⟨ad, cc, ad', cc', hva, hvn, hnl, hA, hT⟩ := h.cells hwa.1
  obtain ⟨bd, dc, bd', dc', hva', hvn', hnl', hA', hT'⟩ := h'.cells hwb.1
  subst hva
  subst hvn
  subst hva'
  subst hvn'
  obtain ⟨W3, hW3⟩ : ∃ W3, W3 = ((w.alloc (.cells #[.slice (some ad) a.n cc, .slice (some ad') a.n cc'] 27)).alloc (.cells #[.slice (some bd) b.n dc, .slice (some bd') b.n dc'] 27)).alloc (.cells #[.slice none 0 0, .slice none 0 0] 27) := ⟨_, rfl⟩
  obtain ⟨B, hB⟩ : ∃ B, B = w.heap.size + 1 + 1 + 1 := ⟨_, rfl⟩
  have hW3z : W3.heap.size = B := by rw [hW3, hB]; simp
  have HB3 : Hid (Below w.heap.size w W3) := Lib.hid (by rw [hW3]; exact (((Below.refl _ _).alloc (Nat.le_refl _) _).alloc (by simp) _).alloc (by simp; omega) _)
  have HXa : Hid (W3.heap[w.heap.size]? = some (.cells #[.slice (some ad) a.n cc, .slice (some ad') a.n cc'] 27 (0, 0))) := Lib.hid (by
    rw [hW3]
    exact (Below.heap_alloc _ _ _ (by simp; omega)).trans ((Below.heap_alloc _ _ _ (by simp)).trans (heap_alloc_new w _)))
  have HXb : Hid (W3.heap[w.heap.size + 1]? = some (.cells #[.slice (some bd) b.n dc, .slice (some bd') b.n dc'] 27 (0, 0))) := Lib.hid (by
    rw [hW3]
    have h := heap_alloc_new (w.alloc (.cells #[.slice (some ad) a.n cc, .slice (some ad') a.n cc'] 27)) (.cells #[.slice (some bd) b.n dc, .slice (some bd') b.n dc'] 27)
    rw [World.size_alloc] at h
    exact (Below.heap_alloc _ _ _ (by simp)).trans h)
  have HY : Hid (W3.heap[w.heap.size + 1 + 1]? = some (.cells #[.slice none 0 0, .slice none 0 0] 27 (0, 0))) := Lib.hid (by
    rw [hW3]
    have h := heap_alloc_new ((w.alloc (.cells #[.slice (some ad) a.n cc, .slice (some ad') a.n cc'] 27)).alloc (.cells #[.slice (some bd) b.n dc, .slice (some bd') b.n dc'] 27)) (.cells #[.slice none 0 0, .slice none 0 0] 27)
    rw [World.size_alloc, World.size_alloc] at h
    exact h)
  obtain ⟨W0, hW0⟩ : ∃ W0, W0 = W3.alloc (.cells #[.slice none 0 0, .slice none 0 0] 27) := ⟨_, rfl⟩
  have HW30 : Hid (Below B W3 W0) := Lib.hid (by rw [hW0]; exact (Below.refl _ _).alloc (by omega) _)
  have HSt : Hid (Out B W0 B (.slice none 0 0) (.slice none 0 0) (prA a b (pairF both) 0) [] (prN a b 0) (λ _ _ => False)) := Lib.hid (by
    have h := Out.start W3 (B := B) (by omega)
    rw [hW3z, <- hW0] at h
    exact h)
  have HWa := Lib.hid hwa
  have HWb := Lib.hid hwb
  have HK := Lib.hid (λ (V : World) (hV : Below w.heap.size w V) {p : Addr} {u : Value} (hc : w.cell? p = some u) => (hV.cell (cell_in hc)).trans hc)
  obtain ⟨n, hne⟩ : ∃ n, n = b.n := ⟨_, rfl⟩
  obtain ⟨N, hNe⟩ : ∃ N, N = a.n := ⟨_, rfl⟩
  have HTa : Hid (∀ x k, x < N -> k < 3 -> a.T x k < N) := Lib.hid (by rw [hNe]; exact hwa.2)
  have HTb : Hid (∀ x k, x < n -> k < 3 -> b.T x k < n) := Lib.hid (by rw [hne]; exact hwb.2)
  rw [<- hne] at hW3 HXb hA' hT' hnb hnl'
  rw [<- hNe] at hW3 HXa hA hT hna hnl
  rw [<- hne, <- hNe]
  have HA := Lib.hid hA
  have HT := Lib.hid hT
  have HA' := Lib.hid hA'
  have HT' := Lib.hid hT'
  have Hn := Lib.hid hne
  have HN := Lib.hid hNe
  have HBe := Lib.hid hB
  have HWz := Lib.hid hW3z
  clear h h' hA hT hA' hT' hwa hwb hne hNe
  go_enter Tryd.func55, Tryd.ntmps55
  go_upto_region 1 with fail
  rw [<- hW3]
  clear hW3
  obtain ⟨y0, y1, -, -⟩ := box2_facts HXb.out
  go_wp2_with fail
  rw [<- hW0]
  rw [<- hB]
  clear hW0 hW3z y0 y1 hB
  have HBb : Hid (B <= W0.heap.size) := Lib.hid (HSt.out.base |> Nat.le_of_lt)
  go_loopw [9] (λ iv wr => ∃ (p : Nat) (va vn : Value) (us : List Value) (K : Nat -> Nat -> Prop), iv = .int .i64 p /\ p <= N /\ us.length = p * n /\ Hid (Below B W3 wr) /\ Hid (Out B wr B va vn (prA a b (pairF both) (p * n)) us (prN a b (p * n)) K)) (λ iv _ => N - (intOf iv).toNat)
  case atStart => exact ⟨0, _, _, [], _, rfl, Nat.zero_le _, by simp, HW30, by rw [Nat.zero_mul]; exact HSt⟩
  clear HSt HW30
  case round =>
    obtain ⟨p, va, vn, us, K, rfl, hp, hus, HBr, HO⟩ := hrel
    obtain ⟨wP, rfl⟩ : ∃ x, x = wr := ⟨_, rfl⟩
    have HBw := Lib.hid (HB3.out.trans (HBr.out.mono (by rw [<- HWz.out]; exact HB3.out.size)))
    have HXa' := Lib.hid ((HBr.out.block _ (by have := HBe.out; omega)).trans HXa.out)
    obtain ⟨y0, y1, -, -⟩ := box2_facts HXa'.out
    by_cases hpN : p < N
    . have hd : decide ((p : Int) < (N : Int)) = true := by simp; omega
      have HO0 : Hid (Out B wP B va vn (prA a b (pairF both) (p * n + 0)) us (prN a b (p * n + 0)) K) := HO
      clear HO
      go_wp2_with fail
      clear hd y0 y1
      go_loopw [10] (λ iv wr => ∃ (q : Nat) (va vn : Value) (us : List Value) (K : Nat -> Nat -> Prop), iv = .int .i64 q /\ q <= n /\ us.length = p * n + q /\ Hid (Below B W3 wr) /\ Hid (Out B wr B va vn (prA a b (pairF both) (p * n + q)) us (prN a b (p * n + q)) K)) (λ iv _ => n - (intOf iv).toNat)
      case atStart => exact ⟨0, va, vn, us, K, rfl, Nat.zero_le _, hus, HBr, HO0⟩
      clear HO0 HBr HBw HXa'
      case round =>
        obtain ⟨q, va, vn, us, K, rfl, hq, hus, HBr, HO⟩ := hrel
        obtain ⟨wQ, rfl⟩ : ∃ x, x = wr := ⟨_, rfl⟩
        obtain ⟨x, hx⟩ : ∃ x, x = p * n + q := ⟨_, rfl⟩
        have hx1 : x <= 1640 := by have := mul_1600 (p := p) (n := n) (by omega) hnb; omega
        by_cases hqn : q < n
        . have hd : decide ((q : Int) < (n : Int)) = true := by simp; omega
          have HAs : Hid (prA a b (pairF both) (p * n + (q + 1)) = prA a b (pairF both) x ++ [pairF both (a.A p) (b.A q)]) := Lib.hid (by rw [hx, Hn.out]; exact prA_succ (by rw [<- Hn.out]; exact hqn))
          have HNs : Hid (prN a b (p * n + (q + 1)) = prN a b x ++ [ints (prRow a b p q 3)]) := Lib.hid (by rw [hx, Hn.out]; exact prN_succ (by rw [<- Hn.out]; exact hqn))
          rw [<- hx] at hus HO
          have HX := Lib.hid hx
          clear hx
          obtain ⟨accs, hacc⟩ : ∃ z, z = prA a b (pairF both) x := ⟨_, rfl⟩
          obtain ⟨rss, hrss⟩ : ∃ z, z = prN a b x := ⟨_, rfl⟩
          have HAl : Hid (accs.length = x) := Lib.hid (by rw [hacc, prA_length])
          rw [<- hacc] at HO HAs
          rw [<- hrss] at HO HNs
          clear hacc hrss
          have HT1 : Hid (One B (wQ.alloc (.cells #[] 3)) B va vn accs us rss K (.slice (some ⟨wQ.heap.size, 0, none⟩) 0 0) (prRow a b p q 0)) := Lib.hid HO.out.one
          have hbq : B <= wQ.heap.size := Nat.le_of_lt HO.out.base
          have HB1 := Lib.hid (HBr.out.alloc hbq (.cells #[] 3))
          clear HBr HO
          go_wp2_with fail
          clear hd
          go_loopw [11, 12] (λ vr kv wr => ∃ k : Nat, kv = .int .i64 k /\ k <= 3 /\ Hid (Below B W3 wr) /\ Hid (One B wr B va vn accs us rss K vr (prRow a b p q k))) (λ _ kv _ => 3 - (intOf kv).toNat)
          case atStart => exact ⟨0, rfl, Nat.zero_le _, HB1, HT1⟩
          clear HB1 HT1
          case round =>
            obtain ⟨k, rfl, hk, HBk, HQ⟩ := hrel
            have hrl : (prRow a b p q k).length <= 3 := by rw [prRow_length]; omega
            have hbk : B <= wr.heap.size := Nat.le_of_lt HQ.out.out.base
            have hw3 : w.heap.size <= B := by have := HBe.out; omega
            have HBw := Lib.hid (HB3.out.trans (HBk.out.mono hw3))
            have HXa' := Lib.hid ((HBk.out.block _ (by have := HBe.out; omega)).trans HXa.out)
            have HXb' := Lib.hid ((HBk.out.block _ (by have := HBe.out; omega)).trans HXb.out)
            obtain ⟨y0, y1, -, -⟩ := box2_facts HXa'.out
            obtain ⟨z0, z1, -, -⟩ := box2_facts HXb'.out
            by_cases hk3 : k < 3
            . have hd : decide ((k : Int) < 3) = true := by simp; omega
              obtain ⟨r1, q1, e1, f1⟩ := HT.out p hpN
              obtain ⟨r2, q2, e2, f2⟩ := HT'.out q hqn
              have f1 := f1 k hk3
              have f2 := f2 k hk3
              have l1 := HTa.out p k hpN hk3
              have l2 := HTb.out q k hqn hk3
              have HRs := prRow_succ a b p q k
              rw [<- Hn.out] at HRs
              obtain ⟨t1, ht1⟩ : ∃ t, t = a.T p k := ⟨_, rfl⟩
              obtain ⟨t2, ht2⟩ : ∃ t, t = b.T q k := ⟨_, rfl⟩
              rw [<- ht1] at f1 l1 HRs
              rw [<- ht2] at f2 l2 HRs
              obtain ⟨m1, hm1⟩ : ∃ m, m = t1 * n := ⟨_, rfl⟩
              have hm2 : m1 <= 1600 := by rw [hm1]; exact mul_1600 (by omega) hnb
              rw [<- hm1, Int.natCast_add] at HRs
              have HRh := Lib.hid HRs
              clear HRs
              have s1 : IntKind.i64.wrap ((t1 : Int) * (n : Int)) = (m1 : Int) := by
                have e : (t1 : Int) * (n : Int) = (m1 : Int) := by rw [hm1]; push_cast; rfl
                rw [e]
                exact IntWalk.i64_in _ (by omega)
              have s2 : IntKind.i64.wrap ((m1 : Int) + (t2 : Int)) = (m1 : Int) + (t2 : Int) := IntWalk.i64_in _ (by omega)
              have g1 := HK.out wr HBw.out e1
              have g2 := HK.out wr HBw.out f1
              have g3 := HK.out wr HBw.out e2
              have g4 := HK.out wr HBw.out f2
              have s3 : (0 : Int) <= (k : Int) := by omega
              have s4 : (k : Int) < 3 := by omega
              have s5 : (0 : Int) <= (p : Int) := by omega
              have s6 : (p : Int) < (N : Int) := by omega
              have s7 : (0 : Int) <= (q : Int) := by omega
              have s8 : (q : Int) < (n : Int) := by omega
              have HQd := Lib.hid ((HQ.out.below ((Below.refl _ _).alloc (Nat.le_refl _) (.cells #[.int .i64 ((m1 : Int) + (t2 : Int))] 3))).below (Below.refl _ _).drew)
              have HBd := Lib.hid (HBk.out.alloc hbk (.cells #[.int .i64 ((m1 : Int) + (t2 : Int))] 3)).drew
              clear ht1 ht2 hm1 e1 e2 f1 f2
              go_wp2_with fail
              go_region_law (refine step_append_own_at rfl (.tmp 34) (.tmp 54) 53 rfl B 3 i0 (.int .i64 0) 1 8 Tryd.underlying53 hi hz0 hz1 hz2 rfl (by decide) _ _ _ rfl (HQ.out.ord.alloc _).drew ⟨wr.heap.size, 0, none⟩ 1 1 [.int .i64 ((m1 : Int) + (t2 : Int))] rfl rfl (cell_one_new wr _ _) (by simp [Value.oneCell']) (by unfold maxLen; omega) (by omega) (by simp; omega) ?_; intro v2 wf hown2 hgrow2 hat2; have HQf := Lib.hid (HQd.out.ord_push hown2 hgrow2 hat2); have HBf := Lib.hid (HBd.out.grown hgrow2 (by simp [World.drew]; omega) (λ g e => (HQd.out.ord.lt g e).1)); clear hown2 hgrow2 hat2)
              all_goals
                rw [<- HRh.out] at HQf
                go_wp2_with fail
                go_roundw
                case rel => exact ⟨k + 1, by go_num, by omega, HBf, HQf⟩
                case measure => simp [intOf]; omega
            . have hke : k = 3 := by omega
              have hd : decide ((k : Int) < 3) = false := by simp; omega
              have HQ3 : Hid (One B wr B va vn accs us rss K u11 (prRow a b p q 3)) := Lib.hid (by rw [<- hke]; exact HQ.out)
              obtain ⟨k0, rfl⟩ : ∃ z, z = k := ⟨_, rfl⟩
              clear hke HQ
              obtain ⟨-, Ar, cr, rfl⟩ := (HQ3.out.ord.row (by rw [prRow_length]; omega)).row.ints_shape
              obtain ⟨e0, -, f0, -⟩ := box2_facts HQ3.out.out.box
              have hbl : accs.length <= 2000 := by rw [HAl.out]; omega
              obtain ⟨Aa, qa, hva⟩ := (RowO.of_owns HQ3.out.out.acc (by omega)).row.shape
              rw [bools_length] at hva
              subst hva
              have hca0 := HA.out p hpN
              have hcb0 := HA'.out q hqn
              obtain ⟨bp, hbp⟩ : ∃ z, z = a.A p := ⟨_, rfl⟩
              obtain ⟨bq, hbq'⟩ : ∃ z, z = b.A q := ⟨_, rfl⟩
              rw [<- hbp] at hca0 HAs
              rw [<- hbq'] at hcb0 HAs
              have s5 : (0 : Int) <= (p : Int) := by omega
              have s6 : (p : Int) < (N : Int) := by omega
              have s7 : (0 : Int) <= (q : Int) := by omega
              have s8 : (q : Int) < (n : Int) := by omega
              clear hbp hbq'
              obtain ⟨nr, hnr⟩ : ∃ z, z = (prRow a b p q 3).length := ⟨_, rfl⟩
              have HNr := Lib.hid hnr
              rw [<- hnr] at HQ3 ⊢
              clear hnr
              have HKe : Hid (∀ V, Below B W3 V -> V.cell? ⟨w.heap.size, 0, none⟩ = some (.slice (some ad) N cc) /\ V.cell? ⟨w.heap.size + 1, 0, none⟩ = some (.slice (some bd) n dc) /\ V.cell? (ad.add p) = some (.bool bp) /\ V.cell? (bd.add q) = some (.bool bq)) := Lib.hid (λ V hV => by
                have hb2 := HB3.out.trans (hV.mono hw3)
                obtain ⟨v0, -, -, -⟩ := box2_facts ((hV.block _ (by have := HBe.out; omega)).trans HXa.out)
                obtain ⟨v1, -, -, -⟩ := box2_facts ((hV.block _ (by have := HBe.out; omega)).trans HXb.out)
                exact ⟨v0, v1, HK.out V hb2 hca0, HK.out V hb2 hcb0⟩)
              clear hca0 hcb0 y0 y1 z0 z1
              have hbw : Below B W3 wr := HBk.out
              have e0a : ∀ o, (wr.alloc o).drew.cell? ⟨B, 0, none⟩ = some (.slice Aa accs.length qa) := λ o => (((Below.refl wr.heap.size wr).alloc (Nat.le_refl _) o).cell (cell_in e0)).trans e0
              go_wp2_with fail
              cases bp with
              | true =>
                cases bq with
                | true =>
                  cases both with
                  | true =>
                    refine wp_region_held_drew (S := λ V => V.cell? ⟨w.heap.size, 0, none⟩ = some (.slice (some ad) N cc) /\ V.cell? ⟨w.heap.size + 1, 0, none⟩ = some (.slice (some bd) n dc) /\ V.cell? (ad.add p) = some (.bool true) /\ V.cell? (bd.add q) = some (.bool true)) (by kernel_rfl) (HKe.out _ hbw.drew) (λ hS0 => ?_)
                    refine wpAnyH_take (i := 0) (v := ?_) rfl (by kernel_rfl) (by kernel_rfl) (by kernel_rfl) (λ _ _ _ h => h) (Or.inl ⟨by rfl, ?_⟩) hS0 ?_
                    rotate_left
                    . (intro w' _; go_simp; try with_reducible rfl)
                    refine wpAnyH_take (i := 2) (v := ?_) rfl (by kernel_rfl) (by kernel_rfl) (by kernel_rfl) (λ _ _ _ h => h) (Or.inl ⟨by rfl, ?_⟩) hS0 ?_
                    rotate_left
                    . (intro w' _; go_simp; try with_reducible rfl)
                    refine wpAnyH_take (i := 3) (v := ?_) rfl (by kernel_rfl) (by kernel_rfl) (by kernel_rfl) (λ _ _ _ h => h) (Or.inl ⟨by rfl, ?_⟩) hS0 ?_
                    rotate_left
                    . (intro w' hw'; obtain ⟨q1, q2, q3, q4⟩ := hw'; go_simp; try with_reducible rfl)
                    refine wpAnyH_take (i := 4) (v := ?_) rfl (by kernel_rfl) (by kernel_rfl) (by kernel_rfl) (λ _ _ _ h => h) (Or.inl ⟨by rfl, ?_⟩) hS0 ?_
                    rotate_left
                    . (intro w' _; go_simp; try with_reducible rfl)
                    refine wpAnyH_take (i := 5) (v := ?_) rfl (by kernel_rfl) (by kernel_rfl) (by kernel_rfl) (λ _ _ _ h => h) (Or.inl ⟨by rfl, ?_⟩) hS0 ?_
                    rotate_left
                    . (intro w' _; go_simp; try with_reducible rfl)
                    refine wpAnyH_take (i := 6) (v := ?_) rfl (by kernel_rfl) (by kernel_rfl) (by kernel_rfl) (λ _ _ _ h => h) (Or.inl ⟨by rfl, ?_⟩) hS0 ?_
                    rotate_left
                    . (intro w' hw'; obtain ⟨q1, q2, q3, q4⟩ := hw'; go_simp; try with_reducible rfl)
                    refine wpAnyH_take (i := 7) (v := ?_) rfl (by kernel_rfl) (by kernel_rfl) (by kernel_rfl) (λ _ _ _ h => h) (Or.inl ⟨by rfl, ?_⟩) hS0 ?_
                    rotate_left
                    . (intro w' _; go_simp; try with_reducible rfl)
                    refine wpAnyH_take (i := 8) (v := ?_) rfl (by kernel_rfl) (by kernel_rfl) (by kernel_rfl) (λ _ _ _ h => h) (Or.inl ⟨by simp [Region.wanted, yielded, Act.put], ?_⟩) hS0 ?_
                    rotate_left
                    . (intro w' _; go_simp; try with_reducible rfl)
                    refine wpAnyH_take (i := 9) (v := ?_) rfl (by kernel_rfl) (by kernel_rfl) (by kernel_rfl) (λ _ _ _ h => h) (Or.inl ⟨by simp [Region.wanted, yielded, Act.put], ?_⟩) hS0 ?_
                    rotate_left
                    . (intro w' hw'; obtain ⟨q1, q2, q3, q4⟩ := hw'; go_simp; try with_reducible rfl)
                    refine wpAnyH_take (i := 10) (v := ?_) rfl (by kernel_rfl) (by kernel_rfl) (by kernel_rfl) (λ _ _ _ h => h) (Or.inl ⟨by simp [Region.wanted, yielded, Act.put], ?_⟩) hS0 ?_
                    rotate_left
                    . (intro w' _; go_simp; try with_reducible rfl)
                    refine wpAnyH_take (i := 11) (v := ?_) rfl (by kernel_rfl) (by kernel_rfl) (by kernel_rfl) (λ _ _ _ h => h) (Or.inl ⟨by simp [Region.wanted, yielded, Act.put], ?_⟩) hS0 ?_
                    rotate_left
                    . (intro w' _; go_simp; try with_reducible rfl)
                    refine wpAnyH_take (i := 12) (v := ?_) rfl (by kernel_rfl) (by kernel_rfl) (by kernel_rfl) (λ _ _ _ h => h) (Or.inl ⟨by simp [Region.wanted, yielded, Act.put], ?_⟩) hS0 ?_
                    rotate_left
                    . (intro w' hw'; obtain ⟨q1, q2, q3, q4⟩ := hw'; go_simp; try with_reducible rfl)
                    refine wpAnyH_take (i := 13) (v := ?_) rfl (by kernel_rfl) (by kernel_rfl) (by kernel_rfl) (λ _ _ _ h => h) (Or.inl ⟨by simp [Region.wanted, yielded, Act.put], ?_⟩) hS0 ?_
                    rotate_left
                    . (intro w' _; go_simp; try with_reducible rfl)
                    refine wpAnyH_take (i := 14) (v := ?_) rfl (by kernel_rfl) (by kernel_rfl) (by kernel_rfl) (λ _ _ _ h => h) (Or.inl ⟨by rfl, ?_⟩) hS0 ?_
                    rotate_left
                    . (intro w' _; go_simp; try with_reducible rfl)
                    refine wpAnyH_take (i := 15) (v := ?_) rfl (by kernel_rfl) (by kernel_rfl) (by kernel_rfl) (λ _ _ _ h => h) (Or.inl ⟨by rfl, ?_⟩) hS0 ?_
                    rotate_left
                    . (intro w' _; go_simp; try with_reducible rfl)
                    refine wpAnyH_take (i := 16) (v := ?_) rfl (by kernel_rfl) (by kernel_rfl) (by kernel_rfl) (λ _ _ _ h => h) (Or.inl ⟨by simp [Region.wanted, yielded, Act.put], ?_⟩) hS0 ?_
                    rotate_left
                    . (intro w' _; go_simp; try with_reducible rfl)
                    refine wpAnyH_take (i := 17) (v := ?_) rfl (by kernel_rfl) (by kernel_rfl) (by kernel_rfl) (λ _ _ _ h => h) (Or.inl ⟨by simp [Region.wanted, yielded, Act.put], ?_⟩) hS0 ?_
                    rotate_left
                    . (intro w' _; go_simp; try with_reducible rfl)
                    refine wpAnyH_take (i := 18) (v := ?_) rfl (by kernel_rfl) (by kernel_rfl) (by kernel_rfl) (λ _ _ _ h => h) (Or.inl ⟨by simp [Region.wanted, yielded, Act.put], ?_⟩) hS0 ?_
                    rotate_left
                    . (intro w' _; go_simp; try with_reducible rfl)
                    refine wpAnyH_take (i := 19) (v := ?_) rfl (by kernel_rfl) (by kernel_rfl) (by kernel_rfl) (λ _ _ _ h => h) (Or.inl ⟨by simp [Region.wanted, yielded, Act.put], ?_⟩) hS0 ?_
                    rotate_left
                    . (intro w' hw'; obtain ⟨q1, q2, q3, q4⟩ := hw'; go_simp; try with_reducible rfl)
                    refine wpAnyH_take (i := 20) (v := ?_) rfl (by kernel_rfl) (by kernel_rfl) (by kernel_rfl) (λ _ _ _ h => h) (Or.inl ⟨by simp [Region.wanted, yielded, Act.put], ?_⟩) hS0 ?_
                    rotate_left
                    . (intro w' _; go_simp; try with_reducible rfl)
                    refine wpAnyH_take (i := 21) (v := ?_) rfl (by kernel_rfl) (by kernel_rfl) (by kernel_rfl) (λ _ _ _ h => h) (Or.inl ⟨by simp [Region.wanted, yielded, Act.put], ?_⟩) hS0 ?_
                    rotate_left
                    . (intro w' _; go_simp; try with_reducible rfl)
                    refine wpAnyH_take (i := 22) (v := ?_) rfl (by kernel_rfl) (by kernel_rfl) (by kernel_rfl) (λ _ _ _ h => h) (Or.inl ⟨by simp [Region.wanted, yielded, Act.put], ?_⟩) hS0 ?_
                    rotate_left
                    . (intro w' hw'; obtain ⟨q1, q2, q3, q4⟩ := hw'; go_simp; try with_reducible rfl)
                    refine wpAnyH_take (i := 23) (v := ?_) rfl (by kernel_rfl) (by kernel_rfl) (by kernel_rfl) (λ _ _ _ h => h) (Or.inl ⟨by simp [Region.wanted, yielded, Act.put], ?_⟩) hS0 ?_
                    rotate_left
                    . (intro w' _; go_simp; try with_reducible rfl)
                    refine wpAnyH_take (i := 24) (v := ?_) rfl (by kernel_rfl) (by kernel_rfl) (by kernel_rfl) (λ _ _ _ h => h) (Or.inl ⟨by simp [Region.wanted, yielded, Act.put], ?_⟩) hS0 ?_
                    rotate_left
                    . (intro w' _; go_simp; try with_reducible rfl)
                    refine wpAnyH_take (i := 25) (v := ?_) rfl (by kernel_rfl) (by kernel_rfl) (by kernel_rfl) (λ _ _ _ h => h) (Or.inl ⟨by simp [Region.wanted, yielded, Act.put], ?_⟩) hS0 ?_
                    rotate_left
                    . (intro w' _; go_simp; try with_reducible rfl)
                    refine wpAnyH_take (i := 26) (v := ?_) rfl (by kernel_rfl) (by kernel_rfl) (by kernel_rfl) (λ _ _ _ h => h) (Or.inl ⟨by simp [Region.wanted, yielded, Act.put], ?_⟩) hS0 ?_
                    rotate_left
                    . (intro w' hw'; obtain ⟨q1, q2, q3, q4⟩ := hw'; go_simp; try with_reducible rfl)
                    refine wpAnyH_take (i := 27) (v := ?_) rfl (by kernel_rfl) (by kernel_rfl) (by kernel_rfl) (λ _ _ _ h => h) (Or.inl ⟨by simp [Region.wanted, yielded, Act.put], ?_⟩) hS0 ?_
                    rotate_left
                    . (intro w' _; go_simp; try with_reducible rfl)
                    refine wpAnyH_take (i := 28) (v := ?_) rfl (by kernel_rfl) (by kernel_rfl) (by kernel_rfl) (λ _ _ _ h => h) (Or.inl ⟨by simp [Region.wanted, yielded, Act.put], ?_⟩) hS0 ?_
                    rotate_left
                    . (intro w' _; go_simp; try with_reducible rfl)
                    refine wpAnyH_take (i := 29) (v := ?_) rfl (by kernel_rfl) (by kernel_rfl) (by kernel_rfl) (λ _ _ _ h => h) (Or.inl ⟨by simp [Region.wanted, yielded, Act.put], ?_⟩) hS0 ?_
                    rotate_left
                    . (intro w' hw'; obtain ⟨q1, q2, q3, q4⟩ := hw'; go_simp; try with_reducible rfl)
                    refine wpAnyH_take (i := 30) (v := ?_) rfl (by kernel_rfl) (by kernel_rfl) (by kernel_rfl) (λ _ _ _ h => h) (Or.inl ⟨by simp [Region.wanted, yielded, Act.put], ?_⟩) hS0 ?_
                    rotate_left
                    . (intro w' _; go_simp; try with_reducible rfl)
                    refine wpAnyH_take (i := 31) (v := ?_) rfl (by kernel_rfl) (by kernel_rfl) (by kernel_rfl) (λ _ _ _ h => h) (Or.inl ⟨by simp [Region.wanted, yielded, Act.put], ?_⟩) hS0 ?_
                    rotate_left
                    . (intro w' _; go_simp; try with_reducible rfl)
                    refine wpAnyH_take (i := 32) (v := ?_) rfl (by kernel_rfl) (by kernel_rfl) (by kernel_rfl) (λ _ _ _ h => h) (Or.inl ⟨by rfl, ?_⟩) hS0 ?_
                    rotate_left
                    . (intro w' _; go_simp; try with_reducible rfl)
                    refine wpAnyH_ready (rs := [1, 33]) (by kernel_rfl) (by simp) ?_
                    refine AllReadyH.cons rfl (λ K hK => ?_) (AllReadyH.cons rfl (λ K hK => ?_) AllReadyH.nil)
                    . go_simp
                      refine hK.out _ _ (by first | exact HKe.out _ hbw.drew | exact HKe.out _ (hbw.alloc hbk _).drew | exact HKe.out _ (hbw.drew.alloc hbk _)) (λ _ => ?_)
                      clear hK K
                      refine wpAnyH_ready (rs := [33]) (by kernel_rfl) (by simp) ?_
                      refine AllReadyH.cons rfl (λ K hK => ?_) AllReadyH.nil
                      go_simp
                      refine hK.out _ _ (by first | exact HKe.out _ hbw.drew | exact HKe.out _ (hbw.alloc hbk _).drew | exact HKe.out _ (hbw.drew.alloc hbk _)) (λ _ => ?_)
                      clear hK K
                      refine wpAnyH_ready (rs := [34]) (by kernel_rfl) (by simp) ?_
                      refine AllReadyH.cons rfl (λ K hK => ?_) AllReadyH.nil
                      refine step_append_own_at rfl (.tmp 57) (.tmp 89) 24 rfl B 4 b0 (.bool false) 1 1 Tryd.underlying24 hbi hb0 hb1 hb2 rfl (by decide) _ _ _ rfl (HQ3.out.out.acc.alloc _).drew ⟨wr.heap.size, 0, none⟩ 1 1 [.bool false] rfl rfl (cell_one_new wr _ _) (by simp [Value.oneCell']) (by unfold maxLen; omega) (by omega) (by simp; omega) ?_
                      intro v' w9 hown' hgrow hat
                      obtain ⟨ga, cpa, rfl⟩ := own_succ hown'
                      have HB9 := Lib.hid ((HBk.out.alloc hbk (.cells #[.bool false] 4)).drew.grown hgrow (by simp [World.drew]; omega) (λ g e => (HQ3.out.out.acc.lt g e).1))
                      obtain ⟨⟨z0, z1⟩, z2, HQ9⟩ := ((HQ3.out.below ((Below.refl _ _).alloc (Nat.le_refl _) (.cells #[.bool false] 4))).below (Below.refl _ _).drew).acc_push hown' hgrow
                      clear hown' hgrow hat
                      refine hK.out _ _ (HKe.out _ HB9.out) (λ hS9 => ?_)
                      clear hK K
                      refine wpAnyH_take (i := 35) (v := ?_) rfl (by kernel_rfl) (by kernel_rfl) (by kernel_rfl) (λ _ _ _ h => h) (Or.inl ⟨by rfl, ?_⟩) hS9 ?_
                      rotate_left
                      . (intro w' _; go_simp; try with_reducible rfl)
                      refine wpAnyH_ready (rs := [36]) (by kernel_rfl) (by simp) ?_
                      refine AllReadyH.cons rfl (λ K hK => ?_) AllReadyH.nil
                      go_simp
                      refine hK.out _ _ (HKe.out _ (HB9.out.setCell (p := ⟨B, 0, none⟩) (Nat.le_refl _) _)) (λ _ => ?_)
                      clear hK K
                      refine wpAnyH_done (by kernel_rfl) ?_ _
                      have HAr : Hid (prA a b (pairF true) (p * n + (q + 1)) = accs ++ [false]) := Lib.hid HAs.out
                      obtain ⟨W9, hW9⟩ : ∃ W9, W9 = w9.setCell ⟨B, 0, none⟩ (.slice (some ⟨ga, 0, none⟩) (accs.length + 1) cpa) := ⟨_, rfl⟩
                      have HB9' := Lib.hid (HB9.out.setCell (p := ⟨B, 0, none⟩) (Nat.le_refl _) (.slice (some ⟨ga, 0, none⟩) (accs.length + 1) cpa))
                      have HQ9 := Lib.hid HQ9
                      rw [<- hW9] at HQ9 HB9' ⊢
                      clear hW9 z1 z2 e0 e0a f0 HB9
                      obtain ⟨e1, f1⟩ := (⟨(box2_facts HQ9.out.out.box).2.1, (box2_facts HQ9.out.out.box).2.2.2⟩ : W9.cell? ⟨B, 1, none⟩ = some vn /\ W9.frozen? ⟨B, 1, none⟩ = false)
                      have hbw5 : B <= W9.heap.size := Nat.le_of_lt HQ9.out.out.base
                      go_wp2_with (at_builtin; refine wpList_append_own_at _ rfl (.tmp 93) (.tmp 95) 25 rfl B 53 r0 (.slice none 0 0) 1 24 Tryd.underlying25 hri hr0 hr1 hr2 rfl (by decide) _ _ _ rfl (HQ9.out.out.nxt.alloc _) ⟨W9.heap.size, 0, none⟩ 1 1 [.slice Ar nr cr] rfl rfl (cell_one_new _ _ _) (by simp [Value.oneCell']) (by unfold maxLen; omega) (by omega) (by simp; omega) ?_)
                      intro v2 wa hown2 hgrow2 hnil2 hat2
                      obtain ⟨gn, capn, rfl⟩ := own_succ hown2
                      have HQa := HQ9.out.below ((Below.refl _ _).alloc (Nat.le_refl _) (.cells #[.slice Ar nr cr] 53))
                      obtain ⟨⟨z0, z1⟩, z2, HQb⟩ := HQa.nxt_push (vn' := .slice (some ⟨gn, 0, none⟩) (x + 1) capn) (by rw [prRow_length]; omega) (by rw [hus]; exact hown2) hgrow2
                      have HBb := Lib.hid (((HB9'.out.alloc hbw5 (.cells #[.slice Ar nr cr] 53)).grown hgrow2 (by simp; omega) (λ g e => (HQ9.out.out.nxt.lt g e).1)).setCell (p := ⟨B, 1, none⟩) (Nat.le_refl _) (.slice (some ⟨gn, 0, none⟩) (x + 1) capn))
                      have HQb := Lib.hid HQb
                      rw [<- HAr.out, <- HNs.out] at HQb
                      have HUl : Hid ((us ++ [Value.slice Ar nr cr]).length = p * n + (q + 1)) := Lib.hid (by rw [List.length_append, hus, HX.out]; rfl)
                      clear hown2 hgrow2 hnil2 hat2 HQa
                      go_wp2_with fail
                      go_roundw
                      case rel => exact ⟨q + 1, _, _, us ++ [Value.slice Ar nr cr], _, by go_num, by omega, HUl.out, HBb, HQb⟩
                      case measure => simp [intOf]; omega
                    . go_simp
                      refine hK.out _ _ (by first | exact HKe.out _ hbw.drew | exact HKe.out _ (hbw.alloc hbk _).drew | exact HKe.out _ (hbw.drew.alloc hbk _)) (λ _ => ?_)
                      clear hK K
                      refine wpAnyH_ready (rs := [1]) (by kernel_rfl) (by simp) ?_
                      refine AllReadyH.cons rfl (λ K hK => ?_) AllReadyH.nil
                      go_simp
                      refine hK.out _ _ (by first | exact HKe.out _ hbw.drew | exact HKe.out _ (hbw.alloc hbk _).drew | exact HKe.out _ (hbw.drew.alloc hbk _)) (λ _ => ?_)
                      clear hK K
                      refine wpAnyH_ready (rs := [34]) (by kernel_rfl) (by simp) ?_
                      refine AllReadyH.cons rfl (λ K hK => ?_) AllReadyH.nil
                      refine step_append_own_at rfl (.tmp 57) (.tmp 89) 24 rfl B 4 b0 (.bool false) 1 1 Tryd.underlying24 hbi hb0 hb1 hb2 rfl (by decide) _ _ _ rfl (HQ3.out.out.acc.alloc _).drew ⟨wr.heap.size, 0, none⟩ 1 1 [.bool false] rfl rfl (cell_one_new wr _ _) (by simp [Value.oneCell']) (by unfold maxLen; omega) (by omega) (by simp; omega) ?_
                      intro v' w9 hown' hgrow hat
                      obtain ⟨ga, cpa, rfl⟩ := own_succ hown'
                      have HB9 := Lib.hid ((HBk.out.alloc hbk (.cells #[.bool false] 4)).drew.grown hgrow (by simp [World.drew]; omega) (λ g e => (HQ3.out.out.acc.lt g e).1))
                      obtain ⟨⟨z0, z1⟩, z2, HQ9⟩ := ((HQ3.out.below ((Below.refl _ _).alloc (Nat.le_refl _) (.cells #[.bool false] 4))).below (Below.refl _ _).drew).acc_push hown' hgrow
                      clear hown' hgrow hat
                      refine hK.out _ _ (HKe.out _ HB9.out) (λ hS9 => ?_)
                      clear hK K
                      refine wpAnyH_take (i := 35) (v := ?_) rfl (by kernel_rfl) (by kernel_rfl) (by kernel_rfl) (λ _ _ _ h => h) (Or.inl ⟨by rfl, ?_⟩) hS9 ?_
                      rotate_left
                      . (intro w' _; go_simp; try with_reducible rfl)
                      refine wpAnyH_ready (rs := [36]) (by kernel_rfl) (by simp) ?_
                      refine AllReadyH.cons rfl (λ K hK => ?_) AllReadyH.nil
                      go_simp
                      refine hK.out _ _ (HKe.out _ (HB9.out.setCell (p := ⟨B, 0, none⟩) (Nat.le_refl _) _)) (λ _ => ?_)
                      clear hK K
                      refine wpAnyH_done (by kernel_rfl) ?_ _
                      have HAr : Hid (prA a b (pairF true) (p * n + (q + 1)) = accs ++ [false]) := Lib.hid HAs.out
                      obtain ⟨W9, hW9⟩ : ∃ W9, W9 = w9.setCell ⟨B, 0, none⟩ (.slice (some ⟨ga, 0, none⟩) (accs.length + 1) cpa) := ⟨_, rfl⟩
                      have HB9' := Lib.hid (HB9.out.setCell (p := ⟨B, 0, none⟩) (Nat.le_refl _) (.slice (some ⟨ga, 0, none⟩) (accs.length + 1) cpa))
                      have HQ9 := Lib.hid HQ9
                      rw [<- hW9] at HQ9 HB9' ⊢
                      clear hW9 z1 z2 e0 e0a f0 HB9
                      obtain ⟨e1, f1⟩ := (⟨(box2_facts HQ9.out.out.box).2.1, (box2_facts HQ9.out.out.box).2.2.2⟩ : W9.cell? ⟨B, 1, none⟩ = some vn /\ W9.frozen? ⟨B, 1, none⟩ = false)
                      have hbw5 : B <= W9.heap.size := Nat.le_of_lt HQ9.out.out.base
                      go_wp2_with (at_builtin; refine wpList_append_own_at _ rfl (.tmp 93) (.tmp 95) 25 rfl B 53 r0 (.slice none 0 0) 1 24 Tryd.underlying25 hri hr0 hr1 hr2 rfl (by decide) _ _ _ rfl (HQ9.out.out.nxt.alloc _) ⟨W9.heap.size, 0, none⟩ 1 1 [.slice Ar nr cr] rfl rfl (cell_one_new _ _ _) (by simp [Value.oneCell']) (by unfold maxLen; omega) (by omega) (by simp; omega) ?_)
                      intro v2 wa hown2 hgrow2 hnil2 hat2
                      obtain ⟨gn, capn, rfl⟩ := own_succ hown2
                      have HQa := HQ9.out.below ((Below.refl _ _).alloc (Nat.le_refl _) (.cells #[.slice Ar nr cr] 53))
                      obtain ⟨⟨z0, z1⟩, z2, HQb⟩ := HQa.nxt_push (vn' := .slice (some ⟨gn, 0, none⟩) (x + 1) capn) (by rw [prRow_length]; omega) (by rw [hus]; exact hown2) hgrow2
                      have HBb := Lib.hid (((HB9'.out.alloc hbw5 (.cells #[.slice Ar nr cr] 53)).grown hgrow2 (by simp; omega) (λ g e => (HQ9.out.out.nxt.lt g e).1)).setCell (p := ⟨B, 1, none⟩) (Nat.le_refl _) (.slice (some ⟨gn, 0, none⟩) (x + 1) capn))
                      have HQb := Lib.hid HQb
                      rw [<- HAr.out, <- HNs.out] at HQb
                      have HUl : Hid ((us ++ [Value.slice Ar nr cr]).length = p * n + (q + 1)) := Lib.hid (by rw [List.length_append, hus, HX.out]; rfl)
                      clear hown2 hgrow2 hnil2 hat2 HQa
                      go_wp2_with fail
                      go_roundw
                      case rel => exact ⟨q + 1, _, _, us ++ [Value.slice Ar nr cr], _, by go_num, by omega, HUl.out, HBb, HQb⟩
                      case measure => simp [intOf]; omega
                  | false =>
                    refine wp_region_held_drew (S := λ V => V.cell? ⟨w.heap.size, 0, none⟩ = some (.slice (some ad) N cc) /\ V.cell? ⟨w.heap.size + 1, 0, none⟩ = some (.slice (some bd) n dc) /\ V.cell? (ad.add p) = some (.bool true) /\ V.cell? (bd.add q) = some (.bool true)) (by kernel_rfl) (HKe.out _ hbw.drew) (λ hS0 => ?_)
                    refine wpAnyH_take (i := 0) (v := ?_) rfl (by kernel_rfl) (by kernel_rfl) (by kernel_rfl) (λ _ _ _ h => h) (Or.inl ⟨by rfl, ?_⟩) hS0 ?_
                    rotate_left
                    . (intro w' _; go_simp; try with_reducible rfl)
                    refine wpAnyH_take (i := 2) (v := ?_) rfl (by kernel_rfl) (by kernel_rfl) (by kernel_rfl) (λ _ _ _ h => h) (Or.inl ⟨by rfl, ?_⟩) hS0 ?_
                    rotate_left
                    . (intro w' _; go_simp; try with_reducible rfl)
                    refine wpAnyH_take (i := 3) (v := ?_) rfl (by kernel_rfl) (by kernel_rfl) (by kernel_rfl) (λ _ _ _ h => h) (Or.inl ⟨by rfl, ?_⟩) hS0 ?_
                    rotate_left
                    . (intro w' hw'; obtain ⟨q1, q2, q3, q4⟩ := hw'; go_simp; try with_reducible rfl)
                    refine wpAnyH_take (i := 4) (v := ?_) rfl (by kernel_rfl) (by kernel_rfl) (by kernel_rfl) (λ _ _ _ h => h) (Or.inl ⟨by rfl, ?_⟩) hS0 ?_
                    rotate_left
                    . (intro w' _; go_simp; try with_reducible rfl)
                    refine wpAnyH_take (i := 5) (v := ?_) rfl (by kernel_rfl) (by kernel_rfl) (by kernel_rfl) (λ _ _ _ h => h) (Or.inl ⟨by rfl, ?_⟩) hS0 ?_
                    rotate_left
                    . (intro w' _; go_simp; try with_reducible rfl)
                    refine wpAnyH_take (i := 6) (v := ?_) rfl (by kernel_rfl) (by kernel_rfl) (by kernel_rfl) (λ _ _ _ h => h) (Or.inl ⟨by rfl, ?_⟩) hS0 ?_
                    rotate_left
                    . (intro w' hw'; obtain ⟨q1, q2, q3, q4⟩ := hw'; go_simp; try with_reducible rfl)
                    refine wpAnyH_take (i := 7) (v := ?_) rfl (by kernel_rfl) (by kernel_rfl) (by kernel_rfl) (λ _ _ _ h => h) (Or.inl ⟨by rfl, ?_⟩) hS0 ?_
                    rotate_left
                    . (intro w' _; go_simp; try with_reducible rfl)
                    refine wpAnyH_take (i := 8) (v := ?_) rfl (by kernel_rfl) (by kernel_rfl) (by kernel_rfl) (λ _ _ _ h => h) (Or.inl ⟨by simp [Region.wanted, yielded, Act.put], ?_⟩) hS0 ?_
                    rotate_left
                    . (intro w' _; go_simp; try with_reducible rfl)
                    refine wpAnyH_take (i := 9) (v := ?_) rfl (by kernel_rfl) (by kernel_rfl) (by kernel_rfl) (λ _ _ _ h => h) (Or.inl ⟨by simp [Region.wanted, yielded, Act.put], ?_⟩) hS0 ?_
                    rotate_left
                    . (intro w' hw'; obtain ⟨q1, q2, q3, q4⟩ := hw'; go_simp; try with_reducible rfl)
                    refine wpAnyH_take (i := 10) (v := ?_) rfl (by kernel_rfl) (by kernel_rfl) (by kernel_rfl) (λ _ _ _ h => h) (Or.inl ⟨by simp [Region.wanted, yielded, Act.put], ?_⟩) hS0 ?_
                    rotate_left
                    . (intro w' _; go_simp; try with_reducible rfl)
                    refine wpAnyH_take (i := 11) (v := ?_) rfl (by kernel_rfl) (by kernel_rfl) (by kernel_rfl) (λ _ _ _ h => h) (Or.inl ⟨by simp [Region.wanted, yielded, Act.put], ?_⟩) hS0 ?_
                    rotate_left
                    . (intro w' _; go_simp; try with_reducible rfl)
                    refine wpAnyH_take (i := 12) (v := ?_) rfl (by kernel_rfl) (by kernel_rfl) (by kernel_rfl) (λ _ _ _ h => h) (Or.inl ⟨by simp [Region.wanted, yielded, Act.put], ?_⟩) hS0 ?_
                    rotate_left
                    . (intro w' hw'; obtain ⟨q1, q2, q3, q4⟩ := hw'; go_simp; try with_reducible rfl)
                    refine wpAnyH_take (i := 13) (v := ?_) rfl (by kernel_rfl) (by kernel_rfl) (by kernel_rfl) (λ _ _ _ h => h) (Or.inl ⟨by simp [Region.wanted, yielded, Act.put], ?_⟩) hS0 ?_
                    rotate_left
                    . (intro w' _; go_simp; try with_reducible rfl)
                    refine wpAnyH_take (i := 14) (v := ?_) rfl (by kernel_rfl) (by kernel_rfl) (by kernel_rfl) (λ _ _ _ h => h) (Or.inl ⟨by rfl, ?_⟩) hS0 ?_
                    rotate_left
                    . (intro w' _; go_simp; try with_reducible rfl)
                    refine wpAnyH_take (i := 15) (v := ?_) rfl (by kernel_rfl) (by kernel_rfl) (by kernel_rfl) (λ _ _ _ h => h) (Or.inl ⟨by rfl, ?_⟩) hS0 ?_
                    rotate_left
                    . (intro w' _; go_simp; try with_reducible rfl)
                    refine wpAnyH_take (i := 16) (v := ?_) rfl (by kernel_rfl) (by kernel_rfl) (by kernel_rfl) (λ _ _ _ h => h) (Or.inl ⟨by simp [Region.wanted, yielded, Act.put], ?_⟩) hS0 ?_
                    rotate_left
                    . (intro w' _; go_simp; try with_reducible rfl)
                    refine wpAnyH_take (i := 17) (v := ?_) rfl (by kernel_rfl) (by kernel_rfl) (by kernel_rfl) (λ _ _ _ h => h) (Or.inl ⟨by simp [Region.wanted, yielded, Act.put], ?_⟩) hS0 ?_
                    rotate_left
                    . (intro w' _; go_simp; try with_reducible rfl)
                    refine wpAnyH_take (i := 18) (v := undef) rfl (by kernel_rfl) (by kernel_rfl) (by kernel_rfl) (λ _ _ _ h => h) (Or.inr ⟨by first | (simp [Region.wanted, yielded, Act.put]; done) | (simp [Region.wanted, yielded, Act.put]; exact λ h => by cases h), rfl⟩) hS0 ?_
                    refine wpAnyH_take (i := 19) (v := undef) rfl (by kernel_rfl) (by kernel_rfl) (by kernel_rfl) (λ _ _ _ h => h) (Or.inr ⟨by first | (simp [Region.wanted, yielded, Act.put]; done) | (simp [Region.wanted, yielded, Act.put]; exact λ h => by cases h), rfl⟩) hS0 ?_
                    refine wpAnyH_take (i := 20) (v := undef) rfl (by kernel_rfl) (by kernel_rfl) (by kernel_rfl) (λ _ _ _ h => h) (Or.inr ⟨by first | (simp [Region.wanted, yielded, Act.put]; done) | (simp [Region.wanted, yielded, Act.put]; exact λ h => by cases h), rfl⟩) hS0 ?_
                    refine wpAnyH_take (i := 21) (v := undef) rfl (by kernel_rfl) (by kernel_rfl) (by kernel_rfl) (λ _ _ _ h => h) (Or.inr ⟨by first | (simp [Region.wanted, yielded, Act.put]; done) | (simp [Region.wanted, yielded, Act.put]; exact λ h => by cases h), rfl⟩) hS0 ?_
                    refine wpAnyH_take (i := 22) (v := undef) rfl (by kernel_rfl) (by kernel_rfl) (by kernel_rfl) (λ _ _ _ h => h) (Or.inr ⟨by first | (simp [Region.wanted, yielded, Act.put]; done) | (simp [Region.wanted, yielded, Act.put]; exact λ h => by cases h), rfl⟩) hS0 ?_
                    refine wpAnyH_take (i := 23) (v := ?_) rfl (by kernel_rfl) (by kernel_rfl) (by kernel_rfl) (λ _ _ _ h => h) (Or.inl ⟨by simp [Region.wanted, yielded, Act.put], ?_⟩) hS0 ?_
                    rotate_left
                    . (intro w' _; go_simp; try with_reducible rfl)
                    refine wpAnyH_take (i := 24) (v := ?_) rfl (by kernel_rfl) (by kernel_rfl) (by kernel_rfl) (λ _ _ _ h => h) (Or.inl ⟨by simp [Region.wanted, yielded, Act.put], ?_⟩) hS0 ?_
                    rotate_left
                    . (intro w' _; go_simp; try with_reducible rfl)
                    refine wpAnyH_take (i := 25) (v := undef) rfl (by kernel_rfl) (by kernel_rfl) (by kernel_rfl) (λ _ _ _ h => h) (Or.inr ⟨by first | (simp [Region.wanted, yielded, Act.put]; done) | (simp [Region.wanted, yielded, Act.put]; exact λ h => by cases h), rfl⟩) hS0 ?_
                    refine wpAnyH_take (i := 26) (v := undef) rfl (by kernel_rfl) (by kernel_rfl) (by kernel_rfl) (λ _ _ _ h => h) (Or.inr ⟨by first | (simp [Region.wanted, yielded, Act.put]; done) | (simp [Region.wanted, yielded, Act.put]; exact λ h => by cases h), rfl⟩) hS0 ?_
                    refine wpAnyH_take (i := 27) (v := undef) rfl (by kernel_rfl) (by kernel_rfl) (by kernel_rfl) (λ _ _ _ h => h) (Or.inr ⟨by first | (simp [Region.wanted, yielded, Act.put]; done) | (simp [Region.wanted, yielded, Act.put]; exact λ h => by cases h), rfl⟩) hS0 ?_
                    refine wpAnyH_take (i := 28) (v := undef) rfl (by kernel_rfl) (by kernel_rfl) (by kernel_rfl) (λ _ _ _ h => h) (Or.inr ⟨by first | (simp [Region.wanted, yielded, Act.put]; done) | (simp [Region.wanted, yielded, Act.put]; exact λ h => by cases h), rfl⟩) hS0 ?_
                    refine wpAnyH_take (i := 29) (v := undef) rfl (by kernel_rfl) (by kernel_rfl) (by kernel_rfl) (λ _ _ _ h => h) (Or.inr ⟨by first | (simp [Region.wanted, yielded, Act.put]; done) | (simp [Region.wanted, yielded, Act.put]; exact λ h => by cases h), rfl⟩) hS0 ?_
                    refine wpAnyH_take (i := 30) (v := undef) rfl (by kernel_rfl) (by kernel_rfl) (by kernel_rfl) (λ _ _ _ h => h) (Or.inr ⟨by first | (simp [Region.wanted, yielded, Act.put]; done) | (simp [Region.wanted, yielded, Act.put]; exact λ h => by cases h), rfl⟩) hS0 ?_
                    refine wpAnyH_take (i := 31) (v := ?_) rfl (by kernel_rfl) (by kernel_rfl) (by kernel_rfl) (λ _ _ _ h => h) (Or.inl ⟨by simp [Region.wanted, yielded, Act.put], ?_⟩) hS0 ?_
                    rotate_left
                    . (intro w' _; go_simp; try with_reducible rfl)
                    refine wpAnyH_take (i := 32) (v := ?_) rfl (by kernel_rfl) (by kernel_rfl) (by kernel_rfl) (λ _ _ _ h => h) (Or.inl ⟨by rfl, ?_⟩) hS0 ?_
                    rotate_left
                    . (intro w' _; go_simp; try with_reducible rfl)
                    refine wpAnyH_ready (rs := [1, 33]) (by kernel_rfl) (by simp) ?_
                    refine AllReadyH.cons rfl (λ K hK => ?_) (AllReadyH.cons rfl (λ K hK => ?_) AllReadyH.nil)
                    . go_simp
                      refine hK.out _ _ (by first | exact HKe.out _ hbw.drew | exact HKe.out _ (hbw.alloc hbk _).drew | exact HKe.out _ (hbw.drew.alloc hbk _)) (λ _ => ?_)
                      clear hK K
                      refine wpAnyH_ready (rs := [33]) (by kernel_rfl) (by simp) ?_
                      refine AllReadyH.cons rfl (λ K hK => ?_) AllReadyH.nil
                      go_simp
                      refine hK.out _ _ (by first | exact HKe.out _ hbw.drew | exact HKe.out _ (hbw.alloc hbk _).drew | exact HKe.out _ (hbw.drew.alloc hbk _)) (λ _ => ?_)
                      clear hK K
                      refine wpAnyH_ready (rs := [34]) (by kernel_rfl) (by simp) ?_
                      refine AllReadyH.cons rfl (λ K hK => ?_) AllReadyH.nil
                      refine step_append_own_at rfl (.tmp 57) (.tmp 89) 24 rfl B 4 b0 (.bool false) 1 1 Tryd.underlying24 hbi hb0 hb1 hb2 rfl (by decide) _ _ _ rfl (HQ3.out.out.acc.alloc _).drew ⟨wr.heap.size, 0, none⟩ 1 1 [.bool false] rfl rfl (cell_one_new wr _ _) (by simp [Value.oneCell']) (by unfold maxLen; omega) (by omega) (by simp; omega) ?_
                      intro v' w9 hown' hgrow hat
                      obtain ⟨ga, cpa, rfl⟩ := own_succ hown'
                      have HB9 := Lib.hid ((HBk.out.alloc hbk (.cells #[.bool false] 4)).drew.grown hgrow (by simp [World.drew]; omega) (λ g e => (HQ3.out.out.acc.lt g e).1))
                      obtain ⟨⟨z0, z1⟩, z2, HQ9⟩ := ((HQ3.out.below ((Below.refl _ _).alloc (Nat.le_refl _) (.cells #[.bool false] 4))).below (Below.refl _ _).drew).acc_push hown' hgrow
                      clear hown' hgrow hat
                      refine hK.out _ _ (HKe.out _ HB9.out) (λ hS9 => ?_)
                      clear hK K
                      refine wpAnyH_take (i := 35) (v := ?_) rfl (by kernel_rfl) (by kernel_rfl) (by kernel_rfl) (λ _ _ _ h => h) (Or.inl ⟨by rfl, ?_⟩) hS9 ?_
                      rotate_left
                      . (intro w' _; go_simp; try with_reducible rfl)
                      refine wpAnyH_ready (rs := [36]) (by kernel_rfl) (by simp) ?_
                      refine AllReadyH.cons rfl (λ K hK => ?_) AllReadyH.nil
                      go_simp
                      refine hK.out _ _ (HKe.out _ (HB9.out.setCell (p := ⟨B, 0, none⟩) (Nat.le_refl _) _)) (λ _ => ?_)
                      clear hK K
                      refine wpAnyH_done (by kernel_rfl) ?_ _
                      have HAr : Hid (prA a b (pairF false) (p * n + (q + 1)) = accs ++ [false]) := Lib.hid HAs.out
                      obtain ⟨W9, hW9⟩ : ∃ W9, W9 = w9.setCell ⟨B, 0, none⟩ (.slice (some ⟨ga, 0, none⟩) (accs.length + 1) cpa) := ⟨_, rfl⟩
                      have HB9' := Lib.hid (HB9.out.setCell (p := ⟨B, 0, none⟩) (Nat.le_refl _) (.slice (some ⟨ga, 0, none⟩) (accs.length + 1) cpa))
                      have HQ9 := Lib.hid HQ9
                      rw [<- hW9] at HQ9 HB9' ⊢
                      clear hW9 z1 z2 e0 e0a f0 HB9
                      obtain ⟨e1, f1⟩ := (⟨(box2_facts HQ9.out.out.box).2.1, (box2_facts HQ9.out.out.box).2.2.2⟩ : W9.cell? ⟨B, 1, none⟩ = some vn /\ W9.frozen? ⟨B, 1, none⟩ = false)
                      have hbw5 : B <= W9.heap.size := Nat.le_of_lt HQ9.out.out.base
                      go_wp2_with (at_builtin; refine wpList_append_own_at _ rfl (.tmp 93) (.tmp 95) 25 rfl B 53 r0 (.slice none 0 0) 1 24 Tryd.underlying25 hri hr0 hr1 hr2 rfl (by decide) _ _ _ rfl (HQ9.out.out.nxt.alloc _) ⟨W9.heap.size, 0, none⟩ 1 1 [.slice Ar nr cr] rfl rfl (cell_one_new _ _ _) (by simp [Value.oneCell']) (by unfold maxLen; omega) (by omega) (by simp; omega) ?_)
                      intro v2 wa hown2 hgrow2 hnil2 hat2
                      obtain ⟨gn, capn, rfl⟩ := own_succ hown2
                      have HQa := HQ9.out.below ((Below.refl _ _).alloc (Nat.le_refl _) (.cells #[.slice Ar nr cr] 53))
                      obtain ⟨⟨z0, z1⟩, z2, HQb⟩ := HQa.nxt_push (vn' := .slice (some ⟨gn, 0, none⟩) (x + 1) capn) (by rw [prRow_length]; omega) (by rw [hus]; exact hown2) hgrow2
                      have HBb := Lib.hid (((HB9'.out.alloc hbw5 (.cells #[.slice Ar nr cr] 53)).grown hgrow2 (by simp; omega) (λ g e => (HQ9.out.out.nxt.lt g e).1)).setCell (p := ⟨B, 1, none⟩) (Nat.le_refl _) (.slice (some ⟨gn, 0, none⟩) (x + 1) capn))
                      have HQb := Lib.hid HQb
                      rw [<- HAr.out, <- HNs.out] at HQb
                      have HUl : Hid ((us ++ [Value.slice Ar nr cr]).length = p * n + (q + 1)) := Lib.hid (by rw [List.length_append, hus, HX.out]; rfl)
                      clear hown2 hgrow2 hnil2 hat2 HQa
                      go_wp2_with fail
                      go_roundw
                      case rel => exact ⟨q + 1, _, _, us ++ [Value.slice Ar nr cr], _, by go_num, by omega, HUl.out, HBb, HQb⟩
                      case measure => simp [intOf]; omega
                    . go_simp
                      refine hK.out _ _ (by first | exact HKe.out _ hbw.drew | exact HKe.out _ (hbw.alloc hbk _).drew | exact HKe.out _ (hbw.drew.alloc hbk _)) (λ _ => ?_)
                      clear hK K
                      refine wpAnyH_ready (rs := [1]) (by kernel_rfl) (by simp) ?_
                      refine AllReadyH.cons rfl (λ K hK => ?_) AllReadyH.nil
                      go_simp
                      refine hK.out _ _ (by first | exact HKe.out _ hbw.drew | exact HKe.out _ (hbw.alloc hbk _).drew | exact HKe.out _ (hbw.drew.alloc hbk _)) (λ _ => ?_)
                      clear hK K
                      refine wpAnyH_ready (rs := [34]) (by kernel_rfl) (by simp) ?_
                      refine AllReadyH.cons rfl (λ K hK => ?_) AllReadyH.nil
                      refine step_append_own_at rfl (.tmp 57) (.tmp 89) 24 rfl B 4 b0 (.bool false) 1 1 Tryd.underlying24 hbi hb0 hb1 hb2 rfl (by decide) _ _ _ rfl (HQ3.out.out.acc.alloc _).drew ⟨wr.heap.size, 0, none⟩ 1 1 [.bool false] rfl rfl (cell_one_new wr _ _) (by simp [Value.oneCell']) (by unfold maxLen; omega) (by omega) (by simp; omega) ?_
                      intro v' w9 hown' hgrow hat
                      obtain ⟨ga, cpa, rfl⟩ := own_succ hown'
                      have HB9 := Lib.hid ((HBk.out.alloc hbk (.cells #[.bool false] 4)).drew.grown hgrow (by simp [World.drew]; omega) (λ g e => (HQ3.out.out.acc.lt g e).1))
                      obtain ⟨⟨z0, z1⟩, z2, HQ9⟩ := ((HQ3.out.below ((Below.refl _ _).alloc (Nat.le_refl _) (.cells #[.bool false] 4))).below (Below.refl _ _).drew).acc_push hown' hgrow
                      clear hown' hgrow hat
                      refine hK.out _ _ (HKe.out _ HB9.out) (λ hS9 => ?_)
                      clear hK K
                      refine wpAnyH_take (i := 35) (v := ?_) rfl (by kernel_rfl) (by kernel_rfl) (by kernel_rfl) (λ _ _ _ h => h) (Or.inl ⟨by rfl, ?_⟩) hS9 ?_
                      rotate_left
                      . (intro w' _; go_simp; try with_reducible rfl)
                      refine wpAnyH_ready (rs := [36]) (by kernel_rfl) (by simp) ?_
                      refine AllReadyH.cons rfl (λ K hK => ?_) AllReadyH.nil
                      go_simp
                      refine hK.out _ _ (HKe.out _ (HB9.out.setCell (p := ⟨B, 0, none⟩) (Nat.le_refl _) _)) (λ _ => ?_)
                      clear hK K
                      refine wpAnyH_done (by kernel_rfl) ?_ _
                      have HAr : Hid (prA a b (pairF false) (p * n + (q + 1)) = accs ++ [false]) := Lib.hid HAs.out
                      obtain ⟨W9, hW9⟩ : ∃ W9, W9 = w9.setCell ⟨B, 0, none⟩ (.slice (some ⟨ga, 0, none⟩) (accs.length + 1) cpa) := ⟨_, rfl⟩
                      have HB9' := Lib.hid (HB9.out.setCell (p := ⟨B, 0, none⟩) (Nat.le_refl _) (.slice (some ⟨ga, 0, none⟩) (accs.length + 1) cpa))
                      have HQ9 := Lib.hid HQ9
                      rw [<- hW9] at HQ9 HB9' ⊢
                      clear hW9 z1 z2 e0 e0a f0 HB9
                      obtain ⟨e1, f1⟩ := (⟨(box2_facts HQ9.out.out.box).2.1, (box2_facts HQ9.out.out.box).2.2.2⟩ : W9.cell? ⟨B, 1, none⟩ = some vn /\ W9.frozen? ⟨B, 1, none⟩ = false)
                      have hbw5 : B <= W9.heap.size := Nat.le_of_lt HQ9.out.out.base
                      go_wp2_with (at_builtin; refine wpList_append_own_at _ rfl (.tmp 93) (.tmp 95) 25 rfl B 53 r0 (.slice none 0 0) 1 24 Tryd.underlying25 hri hr0 hr1 hr2 rfl (by decide) _ _ _ rfl (HQ9.out.out.nxt.alloc _) ⟨W9.heap.size, 0, none⟩ 1 1 [.slice Ar nr cr] rfl rfl (cell_one_new _ _ _) (by simp [Value.oneCell']) (by unfold maxLen; omega) (by omega) (by simp; omega) ?_)
                      intro v2 wa hown2 hgrow2 hnil2 hat2
                      obtain ⟨gn, capn, rfl⟩ := own_succ hown2
                      have HQa := HQ9.out.below ((Below.refl _ _).alloc (Nat.le_refl _) (.cells #[.slice Ar nr cr] 53))
                      obtain ⟨⟨z0, z1⟩, z2, HQb⟩ := HQa.nxt_push (vn' := .slice (some ⟨gn, 0, none⟩) (x + 1) capn) (by rw [prRow_length]; omega) (by rw [hus]; exact hown2) hgrow2
                      have HBb := Lib.hid (((HB9'.out.alloc hbw5 (.cells #[.slice Ar nr cr] 53)).grown hgrow2 (by simp; omega) (λ g e => (HQ9.out.out.nxt.lt g e).1)).setCell (p := ⟨B, 1, none⟩) (Nat.le_refl _) (.slice (some ⟨gn, 0, none⟩) (x + 1) capn))
                      have HQb := Lib.hid HQb
                      rw [<- HAr.out, <- HNs.out] at HQb
                      have HUl : Hid ((us ++ [Value.slice Ar nr cr]).length = p * n + (q + 1)) := Lib.hid (by rw [List.length_append, hus, HX.out]; rfl)
                      clear hown2 hgrow2 hnil2 hat2 HQa
                      go_wp2_with fail
                      go_roundw
                      case rel => exact ⟨q + 1, _, _, us ++ [Value.slice Ar nr cr], _, by go_num, by omega, HUl.out, HBb, HQb⟩
                      case measure => simp [intOf]; omega
                | false =>
                  refine wp_region_held_drew (S := λ V => V.cell? ⟨w.heap.size, 0, none⟩ = some (.slice (some ad) N cc) /\ V.cell? ⟨w.heap.size + 1, 0, none⟩ = some (.slice (some bd) n dc) /\ V.cell? (ad.add p) = some (.bool true) /\ V.cell? (bd.add q) = some (.bool false)) (by kernel_rfl) (HKe.out _ hbw.drew) (λ hS0 => ?_)
                  refine wpAnyH_take (i := 0) (v := ?_) rfl (by kernel_rfl) (by kernel_rfl) (by kernel_rfl) (λ _ _ _ h => h) (Or.inl ⟨by rfl, ?_⟩) hS0 ?_
                  rotate_left
                  . (intro w' _; go_simp; try with_reducible rfl)
                  refine wpAnyH_take (i := 2) (v := ?_) rfl (by kernel_rfl) (by kernel_rfl) (by kernel_rfl) (λ _ _ _ h => h) (Or.inl ⟨by rfl, ?_⟩) hS0 ?_
                  rotate_left
                  . (intro w' _; go_simp; try with_reducible rfl)
                  refine wpAnyH_take (i := 3) (v := ?_) rfl (by kernel_rfl) (by kernel_rfl) (by kernel_rfl) (λ _ _ _ h => h) (Or.inl ⟨by rfl, ?_⟩) hS0 ?_
                  rotate_left
                  . (intro w' hw'; obtain ⟨q1, q2, q3, q4⟩ := hw'; go_simp; try with_reducible rfl)
                  refine wpAnyH_take (i := 4) (v := ?_) rfl (by kernel_rfl) (by kernel_rfl) (by kernel_rfl) (λ _ _ _ h => h) (Or.inl ⟨by rfl, ?_⟩) hS0 ?_
                  rotate_left
                  . (intro w' _; go_simp; try with_reducible rfl)
                  refine wpAnyH_take (i := 5) (v := ?_) rfl (by kernel_rfl) (by kernel_rfl) (by kernel_rfl) (λ _ _ _ h => h) (Or.inl ⟨by rfl, ?_⟩) hS0 ?_
                  rotate_left
                  . (intro w' _; go_simp; try with_reducible rfl)
                  refine wpAnyH_take (i := 6) (v := ?_) rfl (by kernel_rfl) (by kernel_rfl) (by kernel_rfl) (λ _ _ _ h => h) (Or.inl ⟨by rfl, ?_⟩) hS0 ?_
                  rotate_left
                  . (intro w' hw'; obtain ⟨q1, q2, q3, q4⟩ := hw'; go_simp; try with_reducible rfl)
                  refine wpAnyH_take (i := 7) (v := ?_) rfl (by kernel_rfl) (by kernel_rfl) (by kernel_rfl) (λ _ _ _ h => h) (Or.inl ⟨by rfl, ?_⟩) hS0 ?_
                  rotate_left
                  . (intro w' _; go_simp; try with_reducible rfl)
                  refine wpAnyH_take (i := 8) (v := ?_) rfl (by kernel_rfl) (by kernel_rfl) (by kernel_rfl) (λ _ _ _ h => h) (Or.inl ⟨by simp [Region.wanted, yielded, Act.put], ?_⟩) hS0 ?_
                  rotate_left
                  . (intro w' _; go_simp; try with_reducible rfl)
                  refine wpAnyH_take (i := 9) (v := ?_) rfl (by kernel_rfl) (by kernel_rfl) (by kernel_rfl) (λ _ _ _ h => h) (Or.inl ⟨by simp [Region.wanted, yielded, Act.put], ?_⟩) hS0 ?_
                  rotate_left
                  . (intro w' hw'; obtain ⟨q1, q2, q3, q4⟩ := hw'; go_simp; try with_reducible rfl)
                  refine wpAnyH_take (i := 10) (v := ?_) rfl (by kernel_rfl) (by kernel_rfl) (by kernel_rfl) (λ _ _ _ h => h) (Or.inl ⟨by simp [Region.wanted, yielded, Act.put], ?_⟩) hS0 ?_
                  rotate_left
                  . (intro w' _; go_simp; try with_reducible rfl)
                  refine wpAnyH_take (i := 11) (v := ?_) rfl (by kernel_rfl) (by kernel_rfl) (by kernel_rfl) (λ _ _ _ h => h) (Or.inl ⟨by simp [Region.wanted, yielded, Act.put], ?_⟩) hS0 ?_
                  rotate_left
                  . (intro w' _; go_simp; try with_reducible rfl)
                  refine wpAnyH_take (i := 12) (v := ?_) rfl (by kernel_rfl) (by kernel_rfl) (by kernel_rfl) (λ _ _ _ h => h) (Or.inl ⟨by simp [Region.wanted, yielded, Act.put], ?_⟩) hS0 ?_
                  rotate_left
                  . (intro w' hw'; obtain ⟨q1, q2, q3, q4⟩ := hw'; go_simp; try with_reducible rfl)
                  refine wpAnyH_take (i := 13) (v := ?_) rfl (by kernel_rfl) (by kernel_rfl) (by kernel_rfl) (λ _ _ _ h => h) (Or.inl ⟨by simp [Region.wanted, yielded, Act.put], ?_⟩) hS0 ?_
                  rotate_left
                  . (intro w' _; go_simp; try with_reducible rfl)
                  refine wpAnyH_take (i := 14) (v := ?_) rfl (by kernel_rfl) (by kernel_rfl) (by kernel_rfl) (λ _ _ _ h => h) (Or.inl ⟨by rfl, ?_⟩) hS0 ?_
                  rotate_left
                  . (intro w' _; go_simp; try with_reducible rfl)
                  refine wpAnyH_take (i := 15) (v := ?_) rfl (by kernel_rfl) (by kernel_rfl) (by kernel_rfl) (λ _ _ _ h => h) (Or.inl ⟨by rfl, ?_⟩) hS0 ?_
                  rotate_left
                  . (intro w' _; go_simp; try with_reducible rfl)
                  refine wpAnyH_take (i := 16) (v := undef) rfl (by kernel_rfl) (by kernel_rfl) (by kernel_rfl) (λ _ _ _ h => h) (Or.inr ⟨by first | (simp [Region.wanted, yielded, Act.put]; done) | (simp [Region.wanted, yielded, Act.put]; exact λ h => by cases h), rfl⟩) hS0 ?_
                  refine wpAnyH_take (i := 17) (v := undef) rfl (by kernel_rfl) (by kernel_rfl) (by kernel_rfl) (λ _ _ _ h => h) (Or.inr ⟨by first | (simp [Region.wanted, yielded, Act.put]; done) | (simp [Region.wanted, yielded, Act.put]; exact λ h => by cases h), rfl⟩) hS0 ?_
                  refine wpAnyH_take (i := 18) (v := undef) rfl (by kernel_rfl) (by kernel_rfl) (by kernel_rfl) (λ _ _ _ h => h) (Or.inr ⟨by first | (simp [Region.wanted, yielded, Act.put]; done) | (simp [Region.wanted, yielded, Act.put]; exact λ h => by cases h), rfl⟩) hS0 ?_
                  refine wpAnyH_take (i := 19) (v := undef) rfl (by kernel_rfl) (by kernel_rfl) (by kernel_rfl) (λ _ _ _ h => h) (Or.inr ⟨by first | (simp [Region.wanted, yielded, Act.put]; done) | (simp [Region.wanted, yielded, Act.put]; exact λ h => by cases h), rfl⟩) hS0 ?_
                  refine wpAnyH_take (i := 20) (v := undef) rfl (by kernel_rfl) (by kernel_rfl) (by kernel_rfl) (λ _ _ _ h => h) (Or.inr ⟨by first | (simp [Region.wanted, yielded, Act.put]; done) | (simp [Region.wanted, yielded, Act.put]; exact λ h => by cases h), rfl⟩) hS0 ?_
                  refine wpAnyH_take (i := 21) (v := undef) rfl (by kernel_rfl) (by kernel_rfl) (by kernel_rfl) (λ _ _ _ h => h) (Or.inr ⟨by first | (simp [Region.wanted, yielded, Act.put]; done) | (simp [Region.wanted, yielded, Act.put]; exact λ h => by cases h), rfl⟩) hS0 ?_
                  refine wpAnyH_take (i := 22) (v := undef) rfl (by kernel_rfl) (by kernel_rfl) (by kernel_rfl) (λ _ _ _ h => h) (Or.inr ⟨by first | (simp [Region.wanted, yielded, Act.put]; done) | (simp [Region.wanted, yielded, Act.put]; exact λ h => by cases h), rfl⟩) hS0 ?_
                  refine wpAnyH_take (i := 23) (v := undef) rfl (by kernel_rfl) (by kernel_rfl) (by kernel_rfl) (λ _ _ _ h => h) (Or.inr ⟨by first | (simp [Region.wanted, yielded, Act.put]; done) | (simp [Region.wanted, yielded, Act.put]; exact λ h => by cases h), rfl⟩) hS0 ?_
                  refine wpAnyH_take (i := 24) (v := undef) rfl (by kernel_rfl) (by kernel_rfl) (by kernel_rfl) (λ _ _ _ h => h) (Or.inr ⟨by first | (simp [Region.wanted, yielded, Act.put]; done) | (simp [Region.wanted, yielded, Act.put]; exact λ h => by cases h), rfl⟩) hS0 ?_
                  refine wpAnyH_take (i := 25) (v := undef) rfl (by kernel_rfl) (by kernel_rfl) (by kernel_rfl) (λ _ _ _ h => h) (Or.inr ⟨by first | (simp [Region.wanted, yielded, Act.put]; done) | (simp [Region.wanted, yielded, Act.put]; exact λ h => by cases h), rfl⟩) hS0 ?_
                  refine wpAnyH_take (i := 26) (v := undef) rfl (by kernel_rfl) (by kernel_rfl) (by kernel_rfl) (λ _ _ _ h => h) (Or.inr ⟨by first | (simp [Region.wanted, yielded, Act.put]; done) | (simp [Region.wanted, yielded, Act.put]; exact λ h => by cases h), rfl⟩) hS0 ?_
                  refine wpAnyH_take (i := 27) (v := undef) rfl (by kernel_rfl) (by kernel_rfl) (by kernel_rfl) (λ _ _ _ h => h) (Or.inr ⟨by first | (simp [Region.wanted, yielded, Act.put]; done) | (simp [Region.wanted, yielded, Act.put]; exact λ h => by cases h), rfl⟩) hS0 ?_
                  refine wpAnyH_take (i := 28) (v := undef) rfl (by kernel_rfl) (by kernel_rfl) (by kernel_rfl) (λ _ _ _ h => h) (Or.inr ⟨by first | (simp [Region.wanted, yielded, Act.put]; done) | (simp [Region.wanted, yielded, Act.put]; exact λ h => by cases h), rfl⟩) hS0 ?_
                  refine wpAnyH_take (i := 29) (v := undef) rfl (by kernel_rfl) (by kernel_rfl) (by kernel_rfl) (λ _ _ _ h => h) (Or.inr ⟨by first | (simp [Region.wanted, yielded, Act.put]; done) | (simp [Region.wanted, yielded, Act.put]; exact λ h => by cases h), rfl⟩) hS0 ?_
                  refine wpAnyH_take (i := 30) (v := undef) rfl (by kernel_rfl) (by kernel_rfl) (by kernel_rfl) (λ _ _ _ h => h) (Or.inr ⟨by first | (simp [Region.wanted, yielded, Act.put]; done) | (simp [Region.wanted, yielded, Act.put]; exact λ h => by cases h), rfl⟩) hS0 ?_
                  refine wpAnyH_take (i := 31) (v := undef) rfl (by kernel_rfl) (by kernel_rfl) (by kernel_rfl) (λ _ _ _ h => h) (Or.inr ⟨by first | (simp [Region.wanted, yielded, Act.put]; done) | (simp [Region.wanted, yielded, Act.put]; exact λ h => by cases h), rfl⟩) hS0 ?_
                  refine wpAnyH_take (i := 32) (v := ?_) rfl (by kernel_rfl) (by kernel_rfl) (by kernel_rfl) (λ _ _ _ h => h) (Or.inl ⟨by rfl, ?_⟩) hS0 ?_
                  rotate_left
                  . (intro w' _; go_simp; try with_reducible rfl)
                  refine wpAnyH_ready (rs := [1, 33]) (by kernel_rfl) (by simp) ?_
                  refine AllReadyH.cons rfl (λ K hK => ?_) (AllReadyH.cons rfl (λ K hK => ?_) AllReadyH.nil)
                  . go_simp
                    refine hK.out _ _ (by first | exact HKe.out _ hbw.drew | exact HKe.out _ (hbw.alloc hbk _).drew | exact HKe.out _ (hbw.drew.alloc hbk _)) (λ _ => ?_)
                    clear hK K
                    refine wpAnyH_ready (rs := [33]) (by kernel_rfl) (by simp) ?_
                    refine AllReadyH.cons rfl (λ K hK => ?_) AllReadyH.nil
                    go_simp
                    refine hK.out _ _ (by first | exact HKe.out _ hbw.drew | exact HKe.out _ (hbw.alloc hbk _).drew | exact HKe.out _ (hbw.drew.alloc hbk _)) (λ _ => ?_)
                    clear hK K
                    refine wpAnyH_ready (rs := [34]) (by kernel_rfl) (by simp) ?_
                    refine AllReadyH.cons rfl (λ K hK => ?_) AllReadyH.nil
                    refine step_append_own_at rfl (.tmp 57) (.tmp 89) 24 rfl B 4 b0 (.bool false) 1 1 Tryd.underlying24 hbi hb0 hb1 hb2 rfl (by decide) _ _ _ rfl (HQ3.out.out.acc.alloc _).drew ⟨wr.heap.size, 0, none⟩ 1 1 [.bool true] rfl rfl (cell_one_new wr _ _) (by simp [Value.oneCell']) (by unfold maxLen; omega) (by omega) (by simp; omega) ?_
                    intro v' w9 hown' hgrow hat
                    obtain ⟨ga, cpa, rfl⟩ := own_succ hown'
                    have HB9 := Lib.hid ((HBk.out.alloc hbk (.cells #[.bool true] 4)).drew.grown hgrow (by simp [World.drew]; omega) (λ g e => (HQ3.out.out.acc.lt g e).1))
                    obtain ⟨⟨z0, z1⟩, z2, HQ9⟩ := ((HQ3.out.below ((Below.refl _ _).alloc (Nat.le_refl _) (.cells #[.bool true] 4))).below (Below.refl _ _).drew).acc_push hown' hgrow
                    clear hown' hgrow hat
                    refine hK.out _ _ (HKe.out _ HB9.out) (λ hS9 => ?_)
                    clear hK K
                    refine wpAnyH_take (i := 35) (v := ?_) rfl (by kernel_rfl) (by kernel_rfl) (by kernel_rfl) (λ _ _ _ h => h) (Or.inl ⟨by rfl, ?_⟩) hS9 ?_
                    rotate_left
                    . (intro w' _; go_simp; try with_reducible rfl)
                    refine wpAnyH_ready (rs := [36]) (by kernel_rfl) (by simp) ?_
                    refine AllReadyH.cons rfl (λ K hK => ?_) AllReadyH.nil
                    go_simp
                    refine hK.out _ _ (HKe.out _ (HB9.out.setCell (p := ⟨B, 0, none⟩) (Nat.le_refl _) _)) (λ _ => ?_)
                    clear hK K
                    refine wpAnyH_done (by kernel_rfl) ?_ _
                    have HAr : Hid (prA a b (pairF both) (p * n + (q + 1)) = accs ++ [true]) := Lib.hid HAs.out
                    obtain ⟨W9, hW9⟩ : ∃ W9, W9 = w9.setCell ⟨B, 0, none⟩ (.slice (some ⟨ga, 0, none⟩) (accs.length + 1) cpa) := ⟨_, rfl⟩
                    have HB9' := Lib.hid (HB9.out.setCell (p := ⟨B, 0, none⟩) (Nat.le_refl _) (.slice (some ⟨ga, 0, none⟩) (accs.length + 1) cpa))
                    have HQ9 := Lib.hid HQ9
                    rw [<- hW9] at HQ9 HB9' ⊢
                    clear hW9 z1 z2 e0 e0a f0 HB9
                    obtain ⟨e1, f1⟩ := (⟨(box2_facts HQ9.out.out.box).2.1, (box2_facts HQ9.out.out.box).2.2.2⟩ : W9.cell? ⟨B, 1, none⟩ = some vn /\ W9.frozen? ⟨B, 1, none⟩ = false)
                    have hbw5 : B <= W9.heap.size := Nat.le_of_lt HQ9.out.out.base
                    go_wp2_with (at_builtin; refine wpList_append_own_at _ rfl (.tmp 93) (.tmp 95) 25 rfl B 53 r0 (.slice none 0 0) 1 24 Tryd.underlying25 hri hr0 hr1 hr2 rfl (by decide) _ _ _ rfl (HQ9.out.out.nxt.alloc _) ⟨W9.heap.size, 0, none⟩ 1 1 [.slice Ar nr cr] rfl rfl (cell_one_new _ _ _) (by simp [Value.oneCell']) (by unfold maxLen; omega) (by omega) (by simp; omega) ?_)
                    intro v2 wa hown2 hgrow2 hnil2 hat2
                    obtain ⟨gn, capn, rfl⟩ := own_succ hown2
                    have HQa := HQ9.out.below ((Below.refl _ _).alloc (Nat.le_refl _) (.cells #[.slice Ar nr cr] 53))
                    obtain ⟨⟨z0, z1⟩, z2, HQb⟩ := HQa.nxt_push (vn' := .slice (some ⟨gn, 0, none⟩) (x + 1) capn) (by rw [prRow_length]; omega) (by rw [hus]; exact hown2) hgrow2
                    have HBb := Lib.hid (((HB9'.out.alloc hbw5 (.cells #[.slice Ar nr cr] 53)).grown hgrow2 (by simp; omega) (λ g e => (HQ9.out.out.nxt.lt g e).1)).setCell (p := ⟨B, 1, none⟩) (Nat.le_refl _) (.slice (some ⟨gn, 0, none⟩) (x + 1) capn))
                    have HQb := Lib.hid HQb
                    rw [<- HAr.out, <- HNs.out] at HQb
                    have HUl : Hid ((us ++ [Value.slice Ar nr cr]).length = p * n + (q + 1)) := Lib.hid (by rw [List.length_append, hus, HX.out]; rfl)
                    clear hown2 hgrow2 hnil2 hat2 HQa
                    go_wp2_with fail
                    go_roundw
                    case rel => exact ⟨q + 1, _, _, us ++ [Value.slice Ar nr cr], _, by go_num, by omega, HUl.out, HBb, HQb⟩
                    case measure => simp [intOf]; omega
                  . go_simp
                    refine hK.out _ _ (by first | exact HKe.out _ hbw.drew | exact HKe.out _ (hbw.alloc hbk _).drew | exact HKe.out _ (hbw.drew.alloc hbk _)) (λ _ => ?_)
                    clear hK K
                    refine wpAnyH_ready (rs := [1]) (by kernel_rfl) (by simp) ?_
                    refine AllReadyH.cons rfl (λ K hK => ?_) AllReadyH.nil
                    go_simp
                    refine hK.out _ _ (by first | exact HKe.out _ hbw.drew | exact HKe.out _ (hbw.alloc hbk _).drew | exact HKe.out _ (hbw.drew.alloc hbk _)) (λ _ => ?_)
                    clear hK K
                    refine wpAnyH_ready (rs := [34]) (by kernel_rfl) (by simp) ?_
                    refine AllReadyH.cons rfl (λ K hK => ?_) AllReadyH.nil
                    refine step_append_own_at rfl (.tmp 57) (.tmp 89) 24 rfl B 4 b0 (.bool false) 1 1 Tryd.underlying24 hbi hb0 hb1 hb2 rfl (by decide) _ _ _ rfl (HQ3.out.out.acc.alloc _).drew ⟨wr.heap.size, 0, none⟩ 1 1 [.bool true] rfl rfl (cell_one_new wr _ _) (by simp [Value.oneCell']) (by unfold maxLen; omega) (by omega) (by simp; omega) ?_
                    intro v' w9 hown' hgrow hat
                    obtain ⟨ga, cpa, rfl⟩ := own_succ hown'
                    have HB9 := Lib.hid ((HBk.out.alloc hbk (.cells #[.bool true] 4)).drew.grown hgrow (by simp [World.drew]; omega) (λ g e => (HQ3.out.out.acc.lt g e).1))
                    obtain ⟨⟨z0, z1⟩, z2, HQ9⟩ := ((HQ3.out.below ((Below.refl _ _).alloc (Nat.le_refl _) (.cells #[.bool true] 4))).below (Below.refl _ _).drew).acc_push hown' hgrow
                    clear hown' hgrow hat
                    refine hK.out _ _ (HKe.out _ HB9.out) (λ hS9 => ?_)
                    clear hK K
                    refine wpAnyH_take (i := 35) (v := ?_) rfl (by kernel_rfl) (by kernel_rfl) (by kernel_rfl) (λ _ _ _ h => h) (Or.inl ⟨by rfl, ?_⟩) hS9 ?_
                    rotate_left
                    . (intro w' _; go_simp; try with_reducible rfl)
                    refine wpAnyH_ready (rs := [36]) (by kernel_rfl) (by simp) ?_
                    refine AllReadyH.cons rfl (λ K hK => ?_) AllReadyH.nil
                    go_simp
                    refine hK.out _ _ (HKe.out _ (HB9.out.setCell (p := ⟨B, 0, none⟩) (Nat.le_refl _) _)) (λ _ => ?_)
                    clear hK K
                    refine wpAnyH_done (by kernel_rfl) ?_ _
                    have HAr : Hid (prA a b (pairF both) (p * n + (q + 1)) = accs ++ [true]) := Lib.hid HAs.out
                    obtain ⟨W9, hW9⟩ : ∃ W9, W9 = w9.setCell ⟨B, 0, none⟩ (.slice (some ⟨ga, 0, none⟩) (accs.length + 1) cpa) := ⟨_, rfl⟩
                    have HB9' := Lib.hid (HB9.out.setCell (p := ⟨B, 0, none⟩) (Nat.le_refl _) (.slice (some ⟨ga, 0, none⟩) (accs.length + 1) cpa))
                    have HQ9 := Lib.hid HQ9
                    rw [<- hW9] at HQ9 HB9' ⊢
                    clear hW9 z1 z2 e0 e0a f0 HB9
                    obtain ⟨e1, f1⟩ := (⟨(box2_facts HQ9.out.out.box).2.1, (box2_facts HQ9.out.out.box).2.2.2⟩ : W9.cell? ⟨B, 1, none⟩ = some vn /\ W9.frozen? ⟨B, 1, none⟩ = false)
                    have hbw5 : B <= W9.heap.size := Nat.le_of_lt HQ9.out.out.base
                    go_wp2_with (at_builtin; refine wpList_append_own_at _ rfl (.tmp 93) (.tmp 95) 25 rfl B 53 r0 (.slice none 0 0) 1 24 Tryd.underlying25 hri hr0 hr1 hr2 rfl (by decide) _ _ _ rfl (HQ9.out.out.nxt.alloc _) ⟨W9.heap.size, 0, none⟩ 1 1 [.slice Ar nr cr] rfl rfl (cell_one_new _ _ _) (by simp [Value.oneCell']) (by unfold maxLen; omega) (by omega) (by simp; omega) ?_)
                    intro v2 wa hown2 hgrow2 hnil2 hat2
                    obtain ⟨gn, capn, rfl⟩ := own_succ hown2
                    have HQa := HQ9.out.below ((Below.refl _ _).alloc (Nat.le_refl _) (.cells #[.slice Ar nr cr] 53))
                    obtain ⟨⟨z0, z1⟩, z2, HQb⟩ := HQa.nxt_push (vn' := .slice (some ⟨gn, 0, none⟩) (x + 1) capn) (by rw [prRow_length]; omega) (by rw [hus]; exact hown2) hgrow2
                    have HBb := Lib.hid (((HB9'.out.alloc hbw5 (.cells #[.slice Ar nr cr] 53)).grown hgrow2 (by simp; omega) (λ g e => (HQ9.out.out.nxt.lt g e).1)).setCell (p := ⟨B, 1, none⟩) (Nat.le_refl _) (.slice (some ⟨gn, 0, none⟩) (x + 1) capn))
                    have HQb := Lib.hid HQb
                    rw [<- HAr.out, <- HNs.out] at HQb
                    have HUl : Hid ((us ++ [Value.slice Ar nr cr]).length = p * n + (q + 1)) := Lib.hid (by rw [List.length_append, hus, HX.out]; rfl)
                    clear hown2 hgrow2 hnil2 hat2 HQa
                    go_wp2_with fail
                    go_roundw
                    case rel => exact ⟨q + 1, _, _, us ++ [Value.slice Ar nr cr], _, by go_num, by omega, HUl.out, HBb, HQb⟩
                    case measure => simp [intOf]; omega
              | false =>
                cases both with
                | true =>
                  cases bq with
                  | true =>
                    refine wp_region_held_drew (S := λ V => V.cell? ⟨w.heap.size, 0, none⟩ = some (.slice (some ad) N cc) /\ V.cell? ⟨w.heap.size + 1, 0, none⟩ = some (.slice (some bd) n dc) /\ V.cell? (ad.add p) = some (.bool false) /\ V.cell? (bd.add q) = some (.bool true)) (by kernel_rfl) (HKe.out _ hbw.drew) (λ hS0 => ?_)
                    refine wpAnyH_take (i := 0) (v := ?_) rfl (by kernel_rfl) (by kernel_rfl) (by kernel_rfl) (λ _ _ _ h => h) (Or.inl ⟨by rfl, ?_⟩) hS0 ?_
                    rotate_left
                    . (intro w' _; go_simp; try with_reducible rfl)
                    refine wpAnyH_take (i := 2) (v := ?_) rfl (by kernel_rfl) (by kernel_rfl) (by kernel_rfl) (λ _ _ _ h => h) (Or.inl ⟨by rfl, ?_⟩) hS0 ?_
                    rotate_left
                    . (intro w' _; go_simp; try with_reducible rfl)
                    refine wpAnyH_take (i := 3) (v := ?_) rfl (by kernel_rfl) (by kernel_rfl) (by kernel_rfl) (λ _ _ _ h => h) (Or.inl ⟨by rfl, ?_⟩) hS0 ?_
                    rotate_left
                    . (intro w' hw'; obtain ⟨q1, q2, q3, q4⟩ := hw'; go_simp; try with_reducible rfl)
                    refine wpAnyH_take (i := 4) (v := ?_) rfl (by kernel_rfl) (by kernel_rfl) (by kernel_rfl) (λ _ _ _ h => h) (Or.inl ⟨by rfl, ?_⟩) hS0 ?_
                    rotate_left
                    . (intro w' _; go_simp; try with_reducible rfl)
                    refine wpAnyH_take (i := 5) (v := ?_) rfl (by kernel_rfl) (by kernel_rfl) (by kernel_rfl) (λ _ _ _ h => h) (Or.inl ⟨by rfl, ?_⟩) hS0 ?_
                    rotate_left
                    . (intro w' _; go_simp; try with_reducible rfl)
                    refine wpAnyH_take (i := 6) (v := ?_) rfl (by kernel_rfl) (by kernel_rfl) (by kernel_rfl) (λ _ _ _ h => h) (Or.inl ⟨by rfl, ?_⟩) hS0 ?_
                    rotate_left
                    . (intro w' hw'; obtain ⟨q1, q2, q3, q4⟩ := hw'; go_simp; try with_reducible rfl)
                    refine wpAnyH_take (i := 7) (v := ?_) rfl (by kernel_rfl) (by kernel_rfl) (by kernel_rfl) (λ _ _ _ h => h) (Or.inl ⟨by rfl, ?_⟩) hS0 ?_
                    rotate_left
                    . (intro w' _; go_simp; try with_reducible rfl)
                    refine wpAnyH_take (i := 8) (v := undef) rfl (by kernel_rfl) (by kernel_rfl) (by kernel_rfl) (λ _ _ _ h => h) (Or.inr ⟨by first | (simp [Region.wanted, yielded, Act.put]; done) | (simp [Region.wanted, yielded, Act.put]; exact λ h => by cases h), rfl⟩) hS0 ?_
                    refine wpAnyH_take (i := 9) (v := undef) rfl (by kernel_rfl) (by kernel_rfl) (by kernel_rfl) (λ _ _ _ h => h) (Or.inr ⟨by first | (simp [Region.wanted, yielded, Act.put]; done) | (simp [Region.wanted, yielded, Act.put]; exact λ h => by cases h), rfl⟩) hS0 ?_
                    refine wpAnyH_take (i := 10) (v := undef) rfl (by kernel_rfl) (by kernel_rfl) (by kernel_rfl) (λ _ _ _ h => h) (Or.inr ⟨by first | (simp [Region.wanted, yielded, Act.put]; done) | (simp [Region.wanted, yielded, Act.put]; exact λ h => by cases h), rfl⟩) hS0 ?_
                    refine wpAnyH_take (i := 11) (v := undef) rfl (by kernel_rfl) (by kernel_rfl) (by kernel_rfl) (λ _ _ _ h => h) (Or.inr ⟨by first | (simp [Region.wanted, yielded, Act.put]; done) | (simp [Region.wanted, yielded, Act.put]; exact λ h => by cases h), rfl⟩) hS0 ?_
                    refine wpAnyH_take (i := 12) (v := undef) rfl (by kernel_rfl) (by kernel_rfl) (by kernel_rfl) (λ _ _ _ h => h) (Or.inr ⟨by first | (simp [Region.wanted, yielded, Act.put]; done) | (simp [Region.wanted, yielded, Act.put]; exact λ h => by cases h), rfl⟩) hS0 ?_
                    refine wpAnyH_take (i := 13) (v := undef) rfl (by kernel_rfl) (by kernel_rfl) (by kernel_rfl) (λ _ _ _ h => h) (Or.inr ⟨by first | (simp [Region.wanted, yielded, Act.put]; done) | (simp [Region.wanted, yielded, Act.put]; exact λ h => by cases h), rfl⟩) hS0 ?_
                    refine wpAnyH_take (i := 14) (v := ?_) rfl (by kernel_rfl) (by kernel_rfl) (by kernel_rfl) (λ _ _ _ h => h) (Or.inl ⟨by rfl, ?_⟩) hS0 ?_
                    rotate_left
                    . (intro w' _; go_simp; try with_reducible rfl)
                    refine wpAnyH_take (i := 15) (v := ?_) rfl (by kernel_rfl) (by kernel_rfl) (by kernel_rfl) (λ _ _ _ h => h) (Or.inl ⟨by rfl, ?_⟩) hS0 ?_
                    rotate_left
                    . (intro w' _; go_simp; try with_reducible rfl)
                    refine wpAnyH_take (i := 16) (v := ?_) rfl (by kernel_rfl) (by kernel_rfl) (by kernel_rfl) (λ _ _ _ h => h) (Or.inl ⟨by simp [Region.wanted, yielded, Act.put], ?_⟩) hS0 ?_
                    rotate_left
                    . (intro w' _; go_simp; try with_reducible rfl)
                    refine wpAnyH_take (i := 17) (v := ?_) rfl (by kernel_rfl) (by kernel_rfl) (by kernel_rfl) (λ _ _ _ h => h) (Or.inl ⟨by simp [Region.wanted, yielded, Act.put], ?_⟩) hS0 ?_
                    rotate_left
                    . (intro w' _; go_simp; try with_reducible rfl)
                    refine wpAnyH_take (i := 18) (v := ?_) rfl (by kernel_rfl) (by kernel_rfl) (by kernel_rfl) (λ _ _ _ h => h) (Or.inl ⟨by simp [Region.wanted, yielded, Act.put], ?_⟩) hS0 ?_
                    rotate_left
                    . (intro w' _; go_simp; try with_reducible rfl)
                    refine wpAnyH_take (i := 19) (v := ?_) rfl (by kernel_rfl) (by kernel_rfl) (by kernel_rfl) (λ _ _ _ h => h) (Or.inl ⟨by simp [Region.wanted, yielded, Act.put], ?_⟩) hS0 ?_
                    rotate_left
                    . (intro w' hw'; obtain ⟨q1, q2, q3, q4⟩ := hw'; go_simp; try with_reducible rfl)
                    refine wpAnyH_take (i := 20) (v := ?_) rfl (by kernel_rfl) (by kernel_rfl) (by kernel_rfl) (λ _ _ _ h => h) (Or.inl ⟨by simp [Region.wanted, yielded, Act.put], ?_⟩) hS0 ?_
                    rotate_left
                    . (intro w' _; go_simp; try with_reducible rfl)
                    refine wpAnyH_take (i := 21) (v := ?_) rfl (by kernel_rfl) (by kernel_rfl) (by kernel_rfl) (λ _ _ _ h => h) (Or.inl ⟨by simp [Region.wanted, yielded, Act.put], ?_⟩) hS0 ?_
                    rotate_left
                    . (intro w' _; go_simp; try with_reducible rfl)
                    refine wpAnyH_take (i := 22) (v := ?_) rfl (by kernel_rfl) (by kernel_rfl) (by kernel_rfl) (λ _ _ _ h => h) (Or.inl ⟨by simp [Region.wanted, yielded, Act.put], ?_⟩) hS0 ?_
                    rotate_left
                    . (intro w' hw'; obtain ⟨q1, q2, q3, q4⟩ := hw'; go_simp; try with_reducible rfl)
                    refine wpAnyH_take (i := 23) (v := ?_) rfl (by kernel_rfl) (by kernel_rfl) (by kernel_rfl) (λ _ _ _ h => h) (Or.inl ⟨by simp [Region.wanted, yielded, Act.put], ?_⟩) hS0 ?_
                    rotate_left
                    . (intro w' _; go_simp; try with_reducible rfl)
                    refine wpAnyH_take (i := 24) (v := ?_) rfl (by kernel_rfl) (by kernel_rfl) (by kernel_rfl) (λ _ _ _ h => h) (Or.inl ⟨by simp [Region.wanted, yielded, Act.put], ?_⟩) hS0 ?_
                    rotate_left
                    . (intro w' _; go_simp; try with_reducible rfl)
                    refine wpAnyH_take (i := 25) (v := ?_) rfl (by kernel_rfl) (by kernel_rfl) (by kernel_rfl) (λ _ _ _ h => h) (Or.inl ⟨by simp [Region.wanted, yielded, Act.put], ?_⟩) hS0 ?_
                    rotate_left
                    . (intro w' _; go_simp; try with_reducible rfl)
                    refine wpAnyH_take (i := 26) (v := ?_) rfl (by kernel_rfl) (by kernel_rfl) (by kernel_rfl) (λ _ _ _ h => h) (Or.inl ⟨by simp [Region.wanted, yielded, Act.put], ?_⟩) hS0 ?_
                    rotate_left
                    . (intro w' hw'; obtain ⟨q1, q2, q3, q4⟩ := hw'; go_simp; try with_reducible rfl)
                    refine wpAnyH_take (i := 27) (v := ?_) rfl (by kernel_rfl) (by kernel_rfl) (by kernel_rfl) (λ _ _ _ h => h) (Or.inl ⟨by simp [Region.wanted, yielded, Act.put], ?_⟩) hS0 ?_
                    rotate_left
                    . (intro w' _; go_simp; try with_reducible rfl)
                    refine wpAnyH_take (i := 28) (v := ?_) rfl (by kernel_rfl) (by kernel_rfl) (by kernel_rfl) (λ _ _ _ h => h) (Or.inl ⟨by simp [Region.wanted, yielded, Act.put], ?_⟩) hS0 ?_
                    rotate_left
                    . (intro w' _; go_simp; try with_reducible rfl)
                    refine wpAnyH_take (i := 29) (v := ?_) rfl (by kernel_rfl) (by kernel_rfl) (by kernel_rfl) (λ _ _ _ h => h) (Or.inl ⟨by simp [Region.wanted, yielded, Act.put], ?_⟩) hS0 ?_
                    rotate_left
                    . (intro w' hw'; obtain ⟨q1, q2, q3, q4⟩ := hw'; go_simp; try with_reducible rfl)
                    refine wpAnyH_take (i := 30) (v := ?_) rfl (by kernel_rfl) (by kernel_rfl) (by kernel_rfl) (λ _ _ _ h => h) (Or.inl ⟨by simp [Region.wanted, yielded, Act.put], ?_⟩) hS0 ?_
                    rotate_left
                    . (intro w' _; go_simp; try with_reducible rfl)
                    refine wpAnyH_take (i := 31) (v := ?_) rfl (by kernel_rfl) (by kernel_rfl) (by kernel_rfl) (λ _ _ _ h => h) (Or.inl ⟨by simp [Region.wanted, yielded, Act.put], ?_⟩) hS0 ?_
                    rotate_left
                    . (intro w' _; go_simp; try with_reducible rfl)
                    refine wpAnyH_take (i := 32) (v := ?_) rfl (by kernel_rfl) (by kernel_rfl) (by kernel_rfl) (λ _ _ _ h => h) (Or.inl ⟨by rfl, ?_⟩) hS0 ?_
                    rotate_left
                    . (intro w' _; go_simp; try with_reducible rfl)
                    refine wpAnyH_ready (rs := [1, 33]) (by kernel_rfl) (by simp) ?_
                    refine AllReadyH.cons rfl (λ K hK => ?_) (AllReadyH.cons rfl (λ K hK => ?_) AllReadyH.nil)
                    . go_simp
                      refine hK.out _ _ (by first | exact HKe.out _ hbw.drew | exact HKe.out _ (hbw.alloc hbk _).drew | exact HKe.out _ (hbw.drew.alloc hbk _)) (λ _ => ?_)
                      clear hK K
                      refine wpAnyH_ready (rs := [33]) (by kernel_rfl) (by simp) ?_
                      refine AllReadyH.cons rfl (λ K hK => ?_) AllReadyH.nil
                      go_simp
                      refine hK.out _ _ (by first | exact HKe.out _ hbw.drew | exact HKe.out _ (hbw.alloc hbk _).drew | exact HKe.out _ (hbw.drew.alloc hbk _)) (λ _ => ?_)
                      clear hK K
                      refine wpAnyH_ready (rs := [34]) (by kernel_rfl) (by simp) ?_
                      refine AllReadyH.cons rfl (λ K hK => ?_) AllReadyH.nil
                      refine step_append_own_at rfl (.tmp 57) (.tmp 89) 24 rfl B 4 b0 (.bool false) 1 1 Tryd.underlying24 hbi hb0 hb1 hb2 rfl (by decide) _ _ _ rfl (HQ3.out.out.acc.alloc _).drew ⟨wr.heap.size, 0, none⟩ 1 1 [.bool true] rfl rfl (cell_one_new wr _ _) (by simp [Value.oneCell']) (by unfold maxLen; omega) (by omega) (by simp; omega) ?_
                      intro v' w9 hown' hgrow hat
                      obtain ⟨ga, cpa, rfl⟩ := own_succ hown'
                      have HB9 := Lib.hid ((HBk.out.alloc hbk (.cells #[.bool true] 4)).drew.grown hgrow (by simp [World.drew]; omega) (λ g e => (HQ3.out.out.acc.lt g e).1))
                      obtain ⟨⟨z0, z1⟩, z2, HQ9⟩ := ((HQ3.out.below ((Below.refl _ _).alloc (Nat.le_refl _) (.cells #[.bool true] 4))).below (Below.refl _ _).drew).acc_push hown' hgrow
                      clear hown' hgrow hat
                      refine hK.out _ _ (HKe.out _ HB9.out) (λ hS9 => ?_)
                      clear hK K
                      refine wpAnyH_take (i := 35) (v := ?_) rfl (by kernel_rfl) (by kernel_rfl) (by kernel_rfl) (λ _ _ _ h => h) (Or.inl ⟨by rfl, ?_⟩) hS9 ?_
                      rotate_left
                      . (intro w' _; go_simp; try with_reducible rfl)
                      refine wpAnyH_ready (rs := [36]) (by kernel_rfl) (by simp) ?_
                      refine AllReadyH.cons rfl (λ K hK => ?_) AllReadyH.nil
                      go_simp
                      refine hK.out _ _ (HKe.out _ (HB9.out.setCell (p := ⟨B, 0, none⟩) (Nat.le_refl _) _)) (λ _ => ?_)
                      clear hK K
                      refine wpAnyH_done (by kernel_rfl) ?_ _
                      have HAr : Hid (prA a b (pairF true) (p * n + (q + 1)) = accs ++ [true]) := Lib.hid HAs.out
                      obtain ⟨W9, hW9⟩ : ∃ W9, W9 = w9.setCell ⟨B, 0, none⟩ (.slice (some ⟨ga, 0, none⟩) (accs.length + 1) cpa) := ⟨_, rfl⟩
                      have HB9' := Lib.hid (HB9.out.setCell (p := ⟨B, 0, none⟩) (Nat.le_refl _) (.slice (some ⟨ga, 0, none⟩) (accs.length + 1) cpa))
                      have HQ9 := Lib.hid HQ9
                      rw [<- hW9] at HQ9 HB9' ⊢
                      clear hW9 z1 z2 e0 e0a f0 HB9
                      obtain ⟨e1, f1⟩ := (⟨(box2_facts HQ9.out.out.box).2.1, (box2_facts HQ9.out.out.box).2.2.2⟩ : W9.cell? ⟨B, 1, none⟩ = some vn /\ W9.frozen? ⟨B, 1, none⟩ = false)
                      have hbw5 : B <= W9.heap.size := Nat.le_of_lt HQ9.out.out.base
                      go_wp2_with (at_builtin; refine wpList_append_own_at _ rfl (.tmp 93) (.tmp 95) 25 rfl B 53 r0 (.slice none 0 0) 1 24 Tryd.underlying25 hri hr0 hr1 hr2 rfl (by decide) _ _ _ rfl (HQ9.out.out.nxt.alloc _) ⟨W9.heap.size, 0, none⟩ 1 1 [.slice Ar nr cr] rfl rfl (cell_one_new _ _ _) (by simp [Value.oneCell']) (by unfold maxLen; omega) (by omega) (by simp; omega) ?_)
                      intro v2 wa hown2 hgrow2 hnil2 hat2
                      obtain ⟨gn, capn, rfl⟩ := own_succ hown2
                      have HQa := HQ9.out.below ((Below.refl _ _).alloc (Nat.le_refl _) (.cells #[.slice Ar nr cr] 53))
                      obtain ⟨⟨z0, z1⟩, z2, HQb⟩ := HQa.nxt_push (vn' := .slice (some ⟨gn, 0, none⟩) (x + 1) capn) (by rw [prRow_length]; omega) (by rw [hus]; exact hown2) hgrow2
                      have HBb := Lib.hid (((HB9'.out.alloc hbw5 (.cells #[.slice Ar nr cr] 53)).grown hgrow2 (by simp; omega) (λ g e => (HQ9.out.out.nxt.lt g e).1)).setCell (p := ⟨B, 1, none⟩) (Nat.le_refl _) (.slice (some ⟨gn, 0, none⟩) (x + 1) capn))
                      have HQb := Lib.hid HQb
                      rw [<- HAr.out, <- HNs.out] at HQb
                      have HUl : Hid ((us ++ [Value.slice Ar nr cr]).length = p * n + (q + 1)) := Lib.hid (by rw [List.length_append, hus, HX.out]; rfl)
                      clear hown2 hgrow2 hnil2 hat2 HQa
                      go_wp2_with fail
                      go_roundw
                      case rel => exact ⟨q + 1, _, _, us ++ [Value.slice Ar nr cr], _, by go_num, by omega, HUl.out, HBb, HQb⟩
                      case measure => simp [intOf]; omega
                    . go_simp
                      refine hK.out _ _ (by first | exact HKe.out _ hbw.drew | exact HKe.out _ (hbw.alloc hbk _).drew | exact HKe.out _ (hbw.drew.alloc hbk _)) (λ _ => ?_)
                      clear hK K
                      refine wpAnyH_ready (rs := [1]) (by kernel_rfl) (by simp) ?_
                      refine AllReadyH.cons rfl (λ K hK => ?_) AllReadyH.nil
                      go_simp
                      refine hK.out _ _ (by first | exact HKe.out _ hbw.drew | exact HKe.out _ (hbw.alloc hbk _).drew | exact HKe.out _ (hbw.drew.alloc hbk _)) (λ _ => ?_)
                      clear hK K
                      refine wpAnyH_ready (rs := [34]) (by kernel_rfl) (by simp) ?_
                      refine AllReadyH.cons rfl (λ K hK => ?_) AllReadyH.nil
                      refine step_append_own_at rfl (.tmp 57) (.tmp 89) 24 rfl B 4 b0 (.bool false) 1 1 Tryd.underlying24 hbi hb0 hb1 hb2 rfl (by decide) _ _ _ rfl (HQ3.out.out.acc.alloc _).drew ⟨wr.heap.size, 0, none⟩ 1 1 [.bool true] rfl rfl (cell_one_new wr _ _) (by simp [Value.oneCell']) (by unfold maxLen; omega) (by omega) (by simp; omega) ?_
                      intro v' w9 hown' hgrow hat
                      obtain ⟨ga, cpa, rfl⟩ := own_succ hown'
                      have HB9 := Lib.hid ((HBk.out.alloc hbk (.cells #[.bool true] 4)).drew.grown hgrow (by simp [World.drew]; omega) (λ g e => (HQ3.out.out.acc.lt g e).1))
                      obtain ⟨⟨z0, z1⟩, z2, HQ9⟩ := ((HQ3.out.below ((Below.refl _ _).alloc (Nat.le_refl _) (.cells #[.bool true] 4))).below (Below.refl _ _).drew).acc_push hown' hgrow
                      clear hown' hgrow hat
                      refine hK.out _ _ (HKe.out _ HB9.out) (λ hS9 => ?_)
                      clear hK K
                      refine wpAnyH_take (i := 35) (v := ?_) rfl (by kernel_rfl) (by kernel_rfl) (by kernel_rfl) (λ _ _ _ h => h) (Or.inl ⟨by rfl, ?_⟩) hS9 ?_
                      rotate_left
                      . (intro w' _; go_simp; try with_reducible rfl)
                      refine wpAnyH_ready (rs := [36]) (by kernel_rfl) (by simp) ?_
                      refine AllReadyH.cons rfl (λ K hK => ?_) AllReadyH.nil
                      go_simp
                      refine hK.out _ _ (HKe.out _ (HB9.out.setCell (p := ⟨B, 0, none⟩) (Nat.le_refl _) _)) (λ _ => ?_)
                      clear hK K
                      refine wpAnyH_done (by kernel_rfl) ?_ _
                      have HAr : Hid (prA a b (pairF true) (p * n + (q + 1)) = accs ++ [true]) := Lib.hid HAs.out
                      obtain ⟨W9, hW9⟩ : ∃ W9, W9 = w9.setCell ⟨B, 0, none⟩ (.slice (some ⟨ga, 0, none⟩) (accs.length + 1) cpa) := ⟨_, rfl⟩
                      have HB9' := Lib.hid (HB9.out.setCell (p := ⟨B, 0, none⟩) (Nat.le_refl _) (.slice (some ⟨ga, 0, none⟩) (accs.length + 1) cpa))
                      have HQ9 := Lib.hid HQ9
                      rw [<- hW9] at HQ9 HB9' ⊢
                      clear hW9 z1 z2 e0 e0a f0 HB9
                      obtain ⟨e1, f1⟩ := (⟨(box2_facts HQ9.out.out.box).2.1, (box2_facts HQ9.out.out.box).2.2.2⟩ : W9.cell? ⟨B, 1, none⟩ = some vn /\ W9.frozen? ⟨B, 1, none⟩ = false)
                      have hbw5 : B <= W9.heap.size := Nat.le_of_lt HQ9.out.out.base
                      go_wp2_with (at_builtin; refine wpList_append_own_at _ rfl (.tmp 93) (.tmp 95) 25 rfl B 53 r0 (.slice none 0 0) 1 24 Tryd.underlying25 hri hr0 hr1 hr2 rfl (by decide) _ _ _ rfl (HQ9.out.out.nxt.alloc _) ⟨W9.heap.size, 0, none⟩ 1 1 [.slice Ar nr cr] rfl rfl (cell_one_new _ _ _) (by simp [Value.oneCell']) (by unfold maxLen; omega) (by omega) (by simp; omega) ?_)
                      intro v2 wa hown2 hgrow2 hnil2 hat2
                      obtain ⟨gn, capn, rfl⟩ := own_succ hown2
                      have HQa := HQ9.out.below ((Below.refl _ _).alloc (Nat.le_refl _) (.cells #[.slice Ar nr cr] 53))
                      obtain ⟨⟨z0, z1⟩, z2, HQb⟩ := HQa.nxt_push (vn' := .slice (some ⟨gn, 0, none⟩) (x + 1) capn) (by rw [prRow_length]; omega) (by rw [hus]; exact hown2) hgrow2
                      have HBb := Lib.hid (((HB9'.out.alloc hbw5 (.cells #[.slice Ar nr cr] 53)).grown hgrow2 (by simp; omega) (λ g e => (HQ9.out.out.nxt.lt g e).1)).setCell (p := ⟨B, 1, none⟩) (Nat.le_refl _) (.slice (some ⟨gn, 0, none⟩) (x + 1) capn))
                      have HQb := Lib.hid HQb
                      rw [<- HAr.out, <- HNs.out] at HQb
                      have HUl : Hid ((us ++ [Value.slice Ar nr cr]).length = p * n + (q + 1)) := Lib.hid (by rw [List.length_append, hus, HX.out]; rfl)
                      clear hown2 hgrow2 hnil2 hat2 HQa
                      go_wp2_with fail
                      go_roundw
                      case rel => exact ⟨q + 1, _, _, us ++ [Value.slice Ar nr cr], _, by go_num, by omega, HUl.out, HBb, HQb⟩
                      case measure => simp [intOf]; omega
                  | false =>
                    refine wp_region_held_drew (S := λ V => V.cell? ⟨w.heap.size, 0, none⟩ = some (.slice (some ad) N cc) /\ V.cell? ⟨w.heap.size + 1, 0, none⟩ = some (.slice (some bd) n dc) /\ V.cell? (ad.add p) = some (.bool false) /\ V.cell? (bd.add q) = some (.bool false)) (by kernel_rfl) (HKe.out _ hbw.drew) (λ hS0 => ?_)
                    refine wpAnyH_take (i := 0) (v := ?_) rfl (by kernel_rfl) (by kernel_rfl) (by kernel_rfl) (λ _ _ _ h => h) (Or.inl ⟨by rfl, ?_⟩) hS0 ?_
                    rotate_left
                    . (intro w' _; go_simp; try with_reducible rfl)
                    refine wpAnyH_take (i := 2) (v := ?_) rfl (by kernel_rfl) (by kernel_rfl) (by kernel_rfl) (λ _ _ _ h => h) (Or.inl ⟨by rfl, ?_⟩) hS0 ?_
                    rotate_left
                    . (intro w' _; go_simp; try with_reducible rfl)
                    refine wpAnyH_take (i := 3) (v := ?_) rfl (by kernel_rfl) (by kernel_rfl) (by kernel_rfl) (λ _ _ _ h => h) (Or.inl ⟨by rfl, ?_⟩) hS0 ?_
                    rotate_left
                    . (intro w' hw'; obtain ⟨q1, q2, q3, q4⟩ := hw'; go_simp; try with_reducible rfl)
                    refine wpAnyH_take (i := 4) (v := ?_) rfl (by kernel_rfl) (by kernel_rfl) (by kernel_rfl) (λ _ _ _ h => h) (Or.inl ⟨by rfl, ?_⟩) hS0 ?_
                    rotate_left
                    . (intro w' _; go_simp; try with_reducible rfl)
                    refine wpAnyH_take (i := 5) (v := ?_) rfl (by kernel_rfl) (by kernel_rfl) (by kernel_rfl) (λ _ _ _ h => h) (Or.inl ⟨by rfl, ?_⟩) hS0 ?_
                    rotate_left
                    . (intro w' _; go_simp; try with_reducible rfl)
                    refine wpAnyH_take (i := 6) (v := ?_) rfl (by kernel_rfl) (by kernel_rfl) (by kernel_rfl) (λ _ _ _ h => h) (Or.inl ⟨by rfl, ?_⟩) hS0 ?_
                    rotate_left
                    . (intro w' hw'; obtain ⟨q1, q2, q3, q4⟩ := hw'; go_simp; try with_reducible rfl)
                    refine wpAnyH_take (i := 7) (v := ?_) rfl (by kernel_rfl) (by kernel_rfl) (by kernel_rfl) (λ _ _ _ h => h) (Or.inl ⟨by rfl, ?_⟩) hS0 ?_
                    rotate_left
                    . (intro w' _; go_simp; try with_reducible rfl)
                    refine wpAnyH_take (i := 8) (v := undef) rfl (by kernel_rfl) (by kernel_rfl) (by kernel_rfl) (λ _ _ _ h => h) (Or.inr ⟨by first | (simp [Region.wanted, yielded, Act.put]; done) | (simp [Region.wanted, yielded, Act.put]; exact λ h => by cases h), rfl⟩) hS0 ?_
                    refine wpAnyH_take (i := 9) (v := undef) rfl (by kernel_rfl) (by kernel_rfl) (by kernel_rfl) (λ _ _ _ h => h) (Or.inr ⟨by first | (simp [Region.wanted, yielded, Act.put]; done) | (simp [Region.wanted, yielded, Act.put]; exact λ h => by cases h), rfl⟩) hS0 ?_
                    refine wpAnyH_take (i := 10) (v := undef) rfl (by kernel_rfl) (by kernel_rfl) (by kernel_rfl) (λ _ _ _ h => h) (Or.inr ⟨by first | (simp [Region.wanted, yielded, Act.put]; done) | (simp [Region.wanted, yielded, Act.put]; exact λ h => by cases h), rfl⟩) hS0 ?_
                    refine wpAnyH_take (i := 11) (v := undef) rfl (by kernel_rfl) (by kernel_rfl) (by kernel_rfl) (λ _ _ _ h => h) (Or.inr ⟨by first | (simp [Region.wanted, yielded, Act.put]; done) | (simp [Region.wanted, yielded, Act.put]; exact λ h => by cases h), rfl⟩) hS0 ?_
                    refine wpAnyH_take (i := 12) (v := undef) rfl (by kernel_rfl) (by kernel_rfl) (by kernel_rfl) (λ _ _ _ h => h) (Or.inr ⟨by first | (simp [Region.wanted, yielded, Act.put]; done) | (simp [Region.wanted, yielded, Act.put]; exact λ h => by cases h), rfl⟩) hS0 ?_
                    refine wpAnyH_take (i := 13) (v := undef) rfl (by kernel_rfl) (by kernel_rfl) (by kernel_rfl) (λ _ _ _ h => h) (Or.inr ⟨by first | (simp [Region.wanted, yielded, Act.put]; done) | (simp [Region.wanted, yielded, Act.put]; exact λ h => by cases h), rfl⟩) hS0 ?_
                    refine wpAnyH_take (i := 14) (v := ?_) rfl (by kernel_rfl) (by kernel_rfl) (by kernel_rfl) (λ _ _ _ h => h) (Or.inl ⟨by rfl, ?_⟩) hS0 ?_
                    rotate_left
                    . (intro w' _; go_simp; try with_reducible rfl)
                    refine wpAnyH_take (i := 15) (v := ?_) rfl (by kernel_rfl) (by kernel_rfl) (by kernel_rfl) (λ _ _ _ h => h) (Or.inl ⟨by rfl, ?_⟩) hS0 ?_
                    rotate_left
                    . (intro w' _; go_simp; try with_reducible rfl)
                    refine wpAnyH_take (i := 16) (v := ?_) rfl (by kernel_rfl) (by kernel_rfl) (by kernel_rfl) (λ _ _ _ h => h) (Or.inl ⟨by simp [Region.wanted, yielded, Act.put], ?_⟩) hS0 ?_
                    rotate_left
                    . (intro w' _; go_simp; try with_reducible rfl)
                    refine wpAnyH_take (i := 17) (v := ?_) rfl (by kernel_rfl) (by kernel_rfl) (by kernel_rfl) (λ _ _ _ h => h) (Or.inl ⟨by simp [Region.wanted, yielded, Act.put], ?_⟩) hS0 ?_
                    rotate_left
                    . (intro w' _; go_simp; try with_reducible rfl)
                    refine wpAnyH_take (i := 18) (v := ?_) rfl (by kernel_rfl) (by kernel_rfl) (by kernel_rfl) (λ _ _ _ h => h) (Or.inl ⟨by simp [Region.wanted, yielded, Act.put], ?_⟩) hS0 ?_
                    rotate_left
                    . (intro w' _; go_simp; try with_reducible rfl)
                    refine wpAnyH_take (i := 19) (v := ?_) rfl (by kernel_rfl) (by kernel_rfl) (by kernel_rfl) (λ _ _ _ h => h) (Or.inl ⟨by simp [Region.wanted, yielded, Act.put], ?_⟩) hS0 ?_
                    rotate_left
                    . (intro w' hw'; obtain ⟨q1, q2, q3, q4⟩ := hw'; go_simp; try with_reducible rfl)
                    refine wpAnyH_take (i := 20) (v := ?_) rfl (by kernel_rfl) (by kernel_rfl) (by kernel_rfl) (λ _ _ _ h => h) (Or.inl ⟨by simp [Region.wanted, yielded, Act.put], ?_⟩) hS0 ?_
                    rotate_left
                    . (intro w' _; go_simp; try with_reducible rfl)
                    refine wpAnyH_take (i := 21) (v := ?_) rfl (by kernel_rfl) (by kernel_rfl) (by kernel_rfl) (λ _ _ _ h => h) (Or.inl ⟨by simp [Region.wanted, yielded, Act.put], ?_⟩) hS0 ?_
                    rotate_left
                    . (intro w' _; go_simp; try with_reducible rfl)
                    refine wpAnyH_take (i := 22) (v := ?_) rfl (by kernel_rfl) (by kernel_rfl) (by kernel_rfl) (λ _ _ _ h => h) (Or.inl ⟨by simp [Region.wanted, yielded, Act.put], ?_⟩) hS0 ?_
                    rotate_left
                    . (intro w' hw'; obtain ⟨q1, q2, q3, q4⟩ := hw'; go_simp; try with_reducible rfl)
                    refine wpAnyH_take (i := 23) (v := ?_) rfl (by kernel_rfl) (by kernel_rfl) (by kernel_rfl) (λ _ _ _ h => h) (Or.inl ⟨by simp [Region.wanted, yielded, Act.put], ?_⟩) hS0 ?_
                    rotate_left
                    . (intro w' _; go_simp; try with_reducible rfl)
                    refine wpAnyH_take (i := 24) (v := ?_) rfl (by kernel_rfl) (by kernel_rfl) (by kernel_rfl) (λ _ _ _ h => h) (Or.inl ⟨by simp [Region.wanted, yielded, Act.put], ?_⟩) hS0 ?_
                    rotate_left
                    . (intro w' _; go_simp; try with_reducible rfl)
                    refine wpAnyH_take (i := 25) (v := undef) rfl (by kernel_rfl) (by kernel_rfl) (by kernel_rfl) (λ _ _ _ h => h) (Or.inr ⟨by first | (simp [Region.wanted, yielded, Act.put]; done) | (simp [Region.wanted, yielded, Act.put]; exact λ h => by cases h), rfl⟩) hS0 ?_
                    refine wpAnyH_take (i := 26) (v := undef) rfl (by kernel_rfl) (by kernel_rfl) (by kernel_rfl) (λ _ _ _ h => h) (Or.inr ⟨by first | (simp [Region.wanted, yielded, Act.put]; done) | (simp [Region.wanted, yielded, Act.put]; exact λ h => by cases h), rfl⟩) hS0 ?_
                    refine wpAnyH_take (i := 27) (v := undef) rfl (by kernel_rfl) (by kernel_rfl) (by kernel_rfl) (λ _ _ _ h => h) (Or.inr ⟨by first | (simp [Region.wanted, yielded, Act.put]; done) | (simp [Region.wanted, yielded, Act.put]; exact λ h => by cases h), rfl⟩) hS0 ?_
                    refine wpAnyH_take (i := 28) (v := undef) rfl (by kernel_rfl) (by kernel_rfl) (by kernel_rfl) (λ _ _ _ h => h) (Or.inr ⟨by first | (simp [Region.wanted, yielded, Act.put]; done) | (simp [Region.wanted, yielded, Act.put]; exact λ h => by cases h), rfl⟩) hS0 ?_
                    refine wpAnyH_take (i := 29) (v := undef) rfl (by kernel_rfl) (by kernel_rfl) (by kernel_rfl) (λ _ _ _ h => h) (Or.inr ⟨by first | (simp [Region.wanted, yielded, Act.put]; done) | (simp [Region.wanted, yielded, Act.put]; exact λ h => by cases h), rfl⟩) hS0 ?_
                    refine wpAnyH_take (i := 30) (v := undef) rfl (by kernel_rfl) (by kernel_rfl) (by kernel_rfl) (λ _ _ _ h => h) (Or.inr ⟨by first | (simp [Region.wanted, yielded, Act.put]; done) | (simp [Region.wanted, yielded, Act.put]; exact λ h => by cases h), rfl⟩) hS0 ?_
                    refine wpAnyH_take (i := 31) (v := ?_) rfl (by kernel_rfl) (by kernel_rfl) (by kernel_rfl) (λ _ _ _ h => h) (Or.inl ⟨by simp [Region.wanted, yielded, Act.put], ?_⟩) hS0 ?_
                    rotate_left
                    . (intro w' _; go_simp; try with_reducible rfl)
                    refine wpAnyH_take (i := 32) (v := ?_) rfl (by kernel_rfl) (by kernel_rfl) (by kernel_rfl) (λ _ _ _ h => h) (Or.inl ⟨by rfl, ?_⟩) hS0 ?_
                    rotate_left
                    . (intro w' _; go_simp; try with_reducible rfl)
                    refine wpAnyH_ready (rs := [1, 33]) (by kernel_rfl) (by simp) ?_
                    refine AllReadyH.cons rfl (λ K hK => ?_) (AllReadyH.cons rfl (λ K hK => ?_) AllReadyH.nil)
                    . go_simp
                      refine hK.out _ _ (by first | exact HKe.out _ hbw.drew | exact HKe.out _ (hbw.alloc hbk _).drew | exact HKe.out _ (hbw.drew.alloc hbk _)) (λ _ => ?_)
                      clear hK K
                      refine wpAnyH_ready (rs := [33]) (by kernel_rfl) (by simp) ?_
                      refine AllReadyH.cons rfl (λ K hK => ?_) AllReadyH.nil
                      go_simp
                      refine hK.out _ _ (by first | exact HKe.out _ hbw.drew | exact HKe.out _ (hbw.alloc hbk _).drew | exact HKe.out _ (hbw.drew.alloc hbk _)) (λ _ => ?_)
                      clear hK K
                      refine wpAnyH_ready (rs := [34]) (by kernel_rfl) (by simp) ?_
                      refine AllReadyH.cons rfl (λ K hK => ?_) AllReadyH.nil
                      refine step_append_own_at rfl (.tmp 57) (.tmp 89) 24 rfl B 4 b0 (.bool false) 1 1 Tryd.underlying24 hbi hb0 hb1 hb2 rfl (by decide) _ _ _ rfl (HQ3.out.out.acc.alloc _).drew ⟨wr.heap.size, 0, none⟩ 1 1 [.bool false] rfl rfl (cell_one_new wr _ _) (by simp [Value.oneCell']) (by unfold maxLen; omega) (by omega) (by simp; omega) ?_
                      intro v' w9 hown' hgrow hat
                      obtain ⟨ga, cpa, rfl⟩ := own_succ hown'
                      have HB9 := Lib.hid ((HBk.out.alloc hbk (.cells #[.bool false] 4)).drew.grown hgrow (by simp [World.drew]; omega) (λ g e => (HQ3.out.out.acc.lt g e).1))
                      obtain ⟨⟨z0, z1⟩, z2, HQ9⟩ := ((HQ3.out.below ((Below.refl _ _).alloc (Nat.le_refl _) (.cells #[.bool false] 4))).below (Below.refl _ _).drew).acc_push hown' hgrow
                      clear hown' hgrow hat
                      refine hK.out _ _ (HKe.out _ HB9.out) (λ hS9 => ?_)
                      clear hK K
                      refine wpAnyH_take (i := 35) (v := ?_) rfl (by kernel_rfl) (by kernel_rfl) (by kernel_rfl) (λ _ _ _ h => h) (Or.inl ⟨by rfl, ?_⟩) hS9 ?_
                      rotate_left
                      . (intro w' _; go_simp; try with_reducible rfl)
                      refine wpAnyH_ready (rs := [36]) (by kernel_rfl) (by simp) ?_
                      refine AllReadyH.cons rfl (λ K hK => ?_) AllReadyH.nil
                      go_simp
                      refine hK.out _ _ (HKe.out _ (HB9.out.setCell (p := ⟨B, 0, none⟩) (Nat.le_refl _) _)) (λ _ => ?_)
                      clear hK K
                      refine wpAnyH_done (by kernel_rfl) ?_ _
                      have HAr : Hid (prA a b (pairF true) (p * n + (q + 1)) = accs ++ [false]) := Lib.hid HAs.out
                      obtain ⟨W9, hW9⟩ : ∃ W9, W9 = w9.setCell ⟨B, 0, none⟩ (.slice (some ⟨ga, 0, none⟩) (accs.length + 1) cpa) := ⟨_, rfl⟩
                      have HB9' := Lib.hid (HB9.out.setCell (p := ⟨B, 0, none⟩) (Nat.le_refl _) (.slice (some ⟨ga, 0, none⟩) (accs.length + 1) cpa))
                      have HQ9 := Lib.hid HQ9
                      rw [<- hW9] at HQ9 HB9' ⊢
                      clear hW9 z1 z2 e0 e0a f0 HB9
                      obtain ⟨e1, f1⟩ := (⟨(box2_facts HQ9.out.out.box).2.1, (box2_facts HQ9.out.out.box).2.2.2⟩ : W9.cell? ⟨B, 1, none⟩ = some vn /\ W9.frozen? ⟨B, 1, none⟩ = false)
                      have hbw5 : B <= W9.heap.size := Nat.le_of_lt HQ9.out.out.base
                      go_wp2_with (at_builtin; refine wpList_append_own_at _ rfl (.tmp 93) (.tmp 95) 25 rfl B 53 r0 (.slice none 0 0) 1 24 Tryd.underlying25 hri hr0 hr1 hr2 rfl (by decide) _ _ _ rfl (HQ9.out.out.nxt.alloc _) ⟨W9.heap.size, 0, none⟩ 1 1 [.slice Ar nr cr] rfl rfl (cell_one_new _ _ _) (by simp [Value.oneCell']) (by unfold maxLen; omega) (by omega) (by simp; omega) ?_)
                      intro v2 wa hown2 hgrow2 hnil2 hat2
                      obtain ⟨gn, capn, rfl⟩ := own_succ hown2
                      have HQa := HQ9.out.below ((Below.refl _ _).alloc (Nat.le_refl _) (.cells #[.slice Ar nr cr] 53))
                      obtain ⟨⟨z0, z1⟩, z2, HQb⟩ := HQa.nxt_push (vn' := .slice (some ⟨gn, 0, none⟩) (x + 1) capn) (by rw [prRow_length]; omega) (by rw [hus]; exact hown2) hgrow2
                      have HBb := Lib.hid (((HB9'.out.alloc hbw5 (.cells #[.slice Ar nr cr] 53)).grown hgrow2 (by simp; omega) (λ g e => (HQ9.out.out.nxt.lt g e).1)).setCell (p := ⟨B, 1, none⟩) (Nat.le_refl _) (.slice (some ⟨gn, 0, none⟩) (x + 1) capn))
                      have HQb := Lib.hid HQb
                      rw [<- HAr.out, <- HNs.out] at HQb
                      have HUl : Hid ((us ++ [Value.slice Ar nr cr]).length = p * n + (q + 1)) := Lib.hid (by rw [List.length_append, hus, HX.out]; rfl)
                      clear hown2 hgrow2 hnil2 hat2 HQa
                      go_wp2_with fail
                      go_roundw
                      case rel => exact ⟨q + 1, _, _, us ++ [Value.slice Ar nr cr], _, by go_num, by omega, HUl.out, HBb, HQb⟩
                      case measure => simp [intOf]; omega
                    . go_simp
                      refine hK.out _ _ (by first | exact HKe.out _ hbw.drew | exact HKe.out _ (hbw.alloc hbk _).drew | exact HKe.out _ (hbw.drew.alloc hbk _)) (λ _ => ?_)
                      clear hK K
                      refine wpAnyH_ready (rs := [1]) (by kernel_rfl) (by simp) ?_
                      refine AllReadyH.cons rfl (λ K hK => ?_) AllReadyH.nil
                      go_simp
                      refine hK.out _ _ (by first | exact HKe.out _ hbw.drew | exact HKe.out _ (hbw.alloc hbk _).drew | exact HKe.out _ (hbw.drew.alloc hbk _)) (λ _ => ?_)
                      clear hK K
                      refine wpAnyH_ready (rs := [34]) (by kernel_rfl) (by simp) ?_
                      refine AllReadyH.cons rfl (λ K hK => ?_) AllReadyH.nil
                      refine step_append_own_at rfl (.tmp 57) (.tmp 89) 24 rfl B 4 b0 (.bool false) 1 1 Tryd.underlying24 hbi hb0 hb1 hb2 rfl (by decide) _ _ _ rfl (HQ3.out.out.acc.alloc _).drew ⟨wr.heap.size, 0, none⟩ 1 1 [.bool false] rfl rfl (cell_one_new wr _ _) (by simp [Value.oneCell']) (by unfold maxLen; omega) (by omega) (by simp; omega) ?_
                      intro v' w9 hown' hgrow hat
                      obtain ⟨ga, cpa, rfl⟩ := own_succ hown'
                      have HB9 := Lib.hid ((HBk.out.alloc hbk (.cells #[.bool false] 4)).drew.grown hgrow (by simp [World.drew]; omega) (λ g e => (HQ3.out.out.acc.lt g e).1))
                      obtain ⟨⟨z0, z1⟩, z2, HQ9⟩ := ((HQ3.out.below ((Below.refl _ _).alloc (Nat.le_refl _) (.cells #[.bool false] 4))).below (Below.refl _ _).drew).acc_push hown' hgrow
                      clear hown' hgrow hat
                      refine hK.out _ _ (HKe.out _ HB9.out) (λ hS9 => ?_)
                      clear hK K
                      refine wpAnyH_take (i := 35) (v := ?_) rfl (by kernel_rfl) (by kernel_rfl) (by kernel_rfl) (λ _ _ _ h => h) (Or.inl ⟨by rfl, ?_⟩) hS9 ?_
                      rotate_left
                      . (intro w' _; go_simp; try with_reducible rfl)
                      refine wpAnyH_ready (rs := [36]) (by kernel_rfl) (by simp) ?_
                      refine AllReadyH.cons rfl (λ K hK => ?_) AllReadyH.nil
                      go_simp
                      refine hK.out _ _ (HKe.out _ (HB9.out.setCell (p := ⟨B, 0, none⟩) (Nat.le_refl _) _)) (λ _ => ?_)
                      clear hK K
                      refine wpAnyH_done (by kernel_rfl) ?_ _
                      have HAr : Hid (prA a b (pairF true) (p * n + (q + 1)) = accs ++ [false]) := Lib.hid HAs.out
                      obtain ⟨W9, hW9⟩ : ∃ W9, W9 = w9.setCell ⟨B, 0, none⟩ (.slice (some ⟨ga, 0, none⟩) (accs.length + 1) cpa) := ⟨_, rfl⟩
                      have HB9' := Lib.hid (HB9.out.setCell (p := ⟨B, 0, none⟩) (Nat.le_refl _) (.slice (some ⟨ga, 0, none⟩) (accs.length + 1) cpa))
                      have HQ9 := Lib.hid HQ9
                      rw [<- hW9] at HQ9 HB9' ⊢
                      clear hW9 z1 z2 e0 e0a f0 HB9
                      obtain ⟨e1, f1⟩ := (⟨(box2_facts HQ9.out.out.box).2.1, (box2_facts HQ9.out.out.box).2.2.2⟩ : W9.cell? ⟨B, 1, none⟩ = some vn /\ W9.frozen? ⟨B, 1, none⟩ = false)
                      have hbw5 : B <= W9.heap.size := Nat.le_of_lt HQ9.out.out.base
                      go_wp2_with (at_builtin; refine wpList_append_own_at _ rfl (.tmp 93) (.tmp 95) 25 rfl B 53 r0 (.slice none 0 0) 1 24 Tryd.underlying25 hri hr0 hr1 hr2 rfl (by decide) _ _ _ rfl (HQ9.out.out.nxt.alloc _) ⟨W9.heap.size, 0, none⟩ 1 1 [.slice Ar nr cr] rfl rfl (cell_one_new _ _ _) (by simp [Value.oneCell']) (by unfold maxLen; omega) (by omega) (by simp; omega) ?_)
                      intro v2 wa hown2 hgrow2 hnil2 hat2
                      obtain ⟨gn, capn, rfl⟩ := own_succ hown2
                      have HQa := HQ9.out.below ((Below.refl _ _).alloc (Nat.le_refl _) (.cells #[.slice Ar nr cr] 53))
                      obtain ⟨⟨z0, z1⟩, z2, HQb⟩ := HQa.nxt_push (vn' := .slice (some ⟨gn, 0, none⟩) (x + 1) capn) (by rw [prRow_length]; omega) (by rw [hus]; exact hown2) hgrow2
                      have HBb := Lib.hid (((HB9'.out.alloc hbw5 (.cells #[.slice Ar nr cr] 53)).grown hgrow2 (by simp; omega) (λ g e => (HQ9.out.out.nxt.lt g e).1)).setCell (p := ⟨B, 1, none⟩) (Nat.le_refl _) (.slice (some ⟨gn, 0, none⟩) (x + 1) capn))
                      have HQb := Lib.hid HQb
                      rw [<- HAr.out, <- HNs.out] at HQb
                      have HUl : Hid ((us ++ [Value.slice Ar nr cr]).length = p * n + (q + 1)) := Lib.hid (by rw [List.length_append, hus, HX.out]; rfl)
                      clear hown2 hgrow2 hnil2 hat2 HQa
                      go_wp2_with fail
                      go_roundw
                      case rel => exact ⟨q + 1, _, _, us ++ [Value.slice Ar nr cr], _, by go_num, by omega, HUl.out, HBb, HQb⟩
                      case measure => simp [intOf]; omega
                | false =>
                  refine wp_region_held_drew (S := λ V => V.cell? ⟨w.heap.size, 0, none⟩ = some (.slice (some ad) N cc) /\ V.cell? ⟨w.heap.size + 1, 0, none⟩ = some (.slice (some bd) n dc) /\ V.cell? (ad.add p) = some (.bool false) /\ V.cell? (bd.add q) = some (.bool bq)) (by kernel_rfl) (HKe.out _ hbw.drew) (λ hS0 => ?_)
                  refine wpAnyH_take (i := 0) (v := ?_) rfl (by kernel_rfl) (by kernel_rfl) (by kernel_rfl) (λ _ _ _ h => h) (Or.inl ⟨by rfl, ?_⟩) hS0 ?_
                  rotate_left
                  . (intro w' _; go_simp; try with_reducible rfl)
                  refine wpAnyH_take (i := 2) (v := ?_) rfl (by kernel_rfl) (by kernel_rfl) (by kernel_rfl) (λ _ _ _ h => h) (Or.inl ⟨by rfl, ?_⟩) hS0 ?_
                  rotate_left
                  . (intro w' _; go_simp; try with_reducible rfl)
                  refine wpAnyH_take (i := 3) (v := ?_) rfl (by kernel_rfl) (by kernel_rfl) (by kernel_rfl) (λ _ _ _ h => h) (Or.inl ⟨by rfl, ?_⟩) hS0 ?_
                  rotate_left
                  . (intro w' hw'; obtain ⟨q1, q2, q3, q4⟩ := hw'; go_simp; try with_reducible rfl)
                  refine wpAnyH_take (i := 4) (v := ?_) rfl (by kernel_rfl) (by kernel_rfl) (by kernel_rfl) (λ _ _ _ h => h) (Or.inl ⟨by rfl, ?_⟩) hS0 ?_
                  rotate_left
                  . (intro w' _; go_simp; try with_reducible rfl)
                  refine wpAnyH_take (i := 5) (v := ?_) rfl (by kernel_rfl) (by kernel_rfl) (by kernel_rfl) (λ _ _ _ h => h) (Or.inl ⟨by rfl, ?_⟩) hS0 ?_
                  rotate_left
                  . (intro w' _; go_simp; try with_reducible rfl)
                  refine wpAnyH_take (i := 6) (v := ?_) rfl (by kernel_rfl) (by kernel_rfl) (by kernel_rfl) (λ _ _ _ h => h) (Or.inl ⟨by rfl, ?_⟩) hS0 ?_
                  rotate_left
                  . (intro w' hw'; obtain ⟨q1, q2, q3, q4⟩ := hw'; go_simp; try with_reducible rfl)
                  refine wpAnyH_take (i := 7) (v := ?_) rfl (by kernel_rfl) (by kernel_rfl) (by kernel_rfl) (λ _ _ _ h => h) (Or.inl ⟨by rfl, ?_⟩) hS0 ?_
                  rotate_left
                  . (intro w' _; go_simp; try with_reducible rfl)
                  refine wpAnyH_take (i := 8) (v := undef) rfl (by kernel_rfl) (by kernel_rfl) (by kernel_rfl) (λ _ _ _ h => h) (Or.inr ⟨by first | (simp [Region.wanted, yielded, Act.put]; done) | (simp [Region.wanted, yielded, Act.put]; exact λ h => by cases h), rfl⟩) hS0 ?_
                  refine wpAnyH_take (i := 9) (v := undef) rfl (by kernel_rfl) (by kernel_rfl) (by kernel_rfl) (λ _ _ _ h => h) (Or.inr ⟨by first | (simp [Region.wanted, yielded, Act.put]; done) | (simp [Region.wanted, yielded, Act.put]; exact λ h => by cases h), rfl⟩) hS0 ?_
                  refine wpAnyH_take (i := 10) (v := undef) rfl (by kernel_rfl) (by kernel_rfl) (by kernel_rfl) (λ _ _ _ h => h) (Or.inr ⟨by first | (simp [Region.wanted, yielded, Act.put]; done) | (simp [Region.wanted, yielded, Act.put]; exact λ h => by cases h), rfl⟩) hS0 ?_
                  refine wpAnyH_take (i := 11) (v := undef) rfl (by kernel_rfl) (by kernel_rfl) (by kernel_rfl) (λ _ _ _ h => h) (Or.inr ⟨by first | (simp [Region.wanted, yielded, Act.put]; done) | (simp [Region.wanted, yielded, Act.put]; exact λ h => by cases h), rfl⟩) hS0 ?_
                  refine wpAnyH_take (i := 12) (v := undef) rfl (by kernel_rfl) (by kernel_rfl) (by kernel_rfl) (λ _ _ _ h => h) (Or.inr ⟨by first | (simp [Region.wanted, yielded, Act.put]; done) | (simp [Region.wanted, yielded, Act.put]; exact λ h => by cases h), rfl⟩) hS0 ?_
                  refine wpAnyH_take (i := 13) (v := undef) rfl (by kernel_rfl) (by kernel_rfl) (by kernel_rfl) (λ _ _ _ h => h) (Or.inr ⟨by first | (simp [Region.wanted, yielded, Act.put]; done) | (simp [Region.wanted, yielded, Act.put]; exact λ h => by cases h), rfl⟩) hS0 ?_
                  refine wpAnyH_take (i := 14) (v := ?_) rfl (by kernel_rfl) (by kernel_rfl) (by kernel_rfl) (λ _ _ _ h => h) (Or.inl ⟨by rfl, ?_⟩) hS0 ?_
                  rotate_left
                  . (intro w' _; go_simp; try with_reducible rfl)
                  refine wpAnyH_take (i := 15) (v := ?_) rfl (by kernel_rfl) (by kernel_rfl) (by kernel_rfl) (λ _ _ _ h => h) (Or.inl ⟨by rfl, ?_⟩) hS0 ?_
                  rotate_left
                  . (intro w' _; go_simp; try with_reducible rfl)
                  refine wpAnyH_take (i := 16) (v := ?_) rfl (by kernel_rfl) (by kernel_rfl) (by kernel_rfl) (λ _ _ _ h => h) (Or.inl ⟨by simp [Region.wanted, yielded, Act.put], ?_⟩) hS0 ?_
                  rotate_left
                  . (intro w' _; go_simp; try with_reducible rfl)
                  refine wpAnyH_take (i := 17) (v := ?_) rfl (by kernel_rfl) (by kernel_rfl) (by kernel_rfl) (λ _ _ _ h => h) (Or.inl ⟨by simp [Region.wanted, yielded, Act.put], ?_⟩) hS0 ?_
                  rotate_left
                  . (intro w' _; go_simp; try with_reducible rfl)
                  refine wpAnyH_take (i := 18) (v := undef) rfl (by kernel_rfl) (by kernel_rfl) (by kernel_rfl) (λ _ _ _ h => h) (Or.inr ⟨by first | (simp [Region.wanted, yielded, Act.put]; done) | (simp [Region.wanted, yielded, Act.put]; exact λ h => by cases h), rfl⟩) hS0 ?_
                  refine wpAnyH_take (i := 19) (v := undef) rfl (by kernel_rfl) (by kernel_rfl) (by kernel_rfl) (λ _ _ _ h => h) (Or.inr ⟨by first | (simp [Region.wanted, yielded, Act.put]; done) | (simp [Region.wanted, yielded, Act.put]; exact λ h => by cases h), rfl⟩) hS0 ?_
                  refine wpAnyH_take (i := 20) (v := undef) rfl (by kernel_rfl) (by kernel_rfl) (by kernel_rfl) (λ _ _ _ h => h) (Or.inr ⟨by first | (simp [Region.wanted, yielded, Act.put]; done) | (simp [Region.wanted, yielded, Act.put]; exact λ h => by cases h), rfl⟩) hS0 ?_
                  refine wpAnyH_take (i := 21) (v := undef) rfl (by kernel_rfl) (by kernel_rfl) (by kernel_rfl) (λ _ _ _ h => h) (Or.inr ⟨by first | (simp [Region.wanted, yielded, Act.put]; done) | (simp [Region.wanted, yielded, Act.put]; exact λ h => by cases h), rfl⟩) hS0 ?_
                  refine wpAnyH_take (i := 22) (v := undef) rfl (by kernel_rfl) (by kernel_rfl) (by kernel_rfl) (λ _ _ _ h => h) (Or.inr ⟨by first | (simp [Region.wanted, yielded, Act.put]; done) | (simp [Region.wanted, yielded, Act.put]; exact λ h => by cases h), rfl⟩) hS0 ?_
                  refine wpAnyH_take (i := 23) (v := ?_) rfl (by kernel_rfl) (by kernel_rfl) (by kernel_rfl) (λ _ _ _ h => h) (Or.inl ⟨by simp [Region.wanted, yielded, Act.put], ?_⟩) hS0 ?_
                  rotate_left
                  . (intro w' _; go_simp; try with_reducible rfl)
                  refine wpAnyH_take (i := 24) (v := ?_) rfl (by kernel_rfl) (by kernel_rfl) (by kernel_rfl) (λ _ _ _ h => h) (Or.inl ⟨by simp [Region.wanted, yielded, Act.put], ?_⟩) hS0 ?_
                  rotate_left
                  . (intro w' _; go_simp; try with_reducible rfl)
                  refine wpAnyH_take (i := 25) (v := undef) rfl (by kernel_rfl) (by kernel_rfl) (by kernel_rfl) (λ _ _ _ h => h) (Or.inr ⟨by first | (simp [Region.wanted, yielded, Act.put]; done) | (simp [Region.wanted, yielded, Act.put]; exact λ h => by cases h), rfl⟩) hS0 ?_
                  refine wpAnyH_take (i := 26) (v := undef) rfl (by kernel_rfl) (by kernel_rfl) (by kernel_rfl) (λ _ _ _ h => h) (Or.inr ⟨by first | (simp [Region.wanted, yielded, Act.put]; done) | (simp [Region.wanted, yielded, Act.put]; exact λ h => by cases h), rfl⟩) hS0 ?_
                  refine wpAnyH_take (i := 27) (v := undef) rfl (by kernel_rfl) (by kernel_rfl) (by kernel_rfl) (λ _ _ _ h => h) (Or.inr ⟨by first | (simp [Region.wanted, yielded, Act.put]; done) | (simp [Region.wanted, yielded, Act.put]; exact λ h => by cases h), rfl⟩) hS0 ?_
                  refine wpAnyH_take (i := 28) (v := undef) rfl (by kernel_rfl) (by kernel_rfl) (by kernel_rfl) (λ _ _ _ h => h) (Or.inr ⟨by first | (simp [Region.wanted, yielded, Act.put]; done) | (simp [Region.wanted, yielded, Act.put]; exact λ h => by cases h), rfl⟩) hS0 ?_
                  refine wpAnyH_take (i := 29) (v := undef) rfl (by kernel_rfl) (by kernel_rfl) (by kernel_rfl) (λ _ _ _ h => h) (Or.inr ⟨by first | (simp [Region.wanted, yielded, Act.put]; done) | (simp [Region.wanted, yielded, Act.put]; exact λ h => by cases h), rfl⟩) hS0 ?_
                  refine wpAnyH_take (i := 30) (v := undef) rfl (by kernel_rfl) (by kernel_rfl) (by kernel_rfl) (λ _ _ _ h => h) (Or.inr ⟨by first | (simp [Region.wanted, yielded, Act.put]; done) | (simp [Region.wanted, yielded, Act.put]; exact λ h => by cases h), rfl⟩) hS0 ?_
                  refine wpAnyH_take (i := 31) (v := ?_) rfl (by kernel_rfl) (by kernel_rfl) (by kernel_rfl) (λ _ _ _ h => h) (Or.inl ⟨by simp [Region.wanted, yielded, Act.put], ?_⟩) hS0 ?_
                  rotate_left
                  . (intro w' _; go_simp; try with_reducible rfl)
                  refine wpAnyH_take (i := 32) (v := ?_) rfl (by kernel_rfl) (by kernel_rfl) (by kernel_rfl) (λ _ _ _ h => h) (Or.inl ⟨by rfl, ?_⟩) hS0 ?_
                  rotate_left
                  . (intro w' _; go_simp; try with_reducible rfl)
                  refine wpAnyH_ready (rs := [1, 33]) (by kernel_rfl) (by simp) ?_
                  refine AllReadyH.cons rfl (λ K hK => ?_) (AllReadyH.cons rfl (λ K hK => ?_) AllReadyH.nil)
                  . go_simp
                    refine hK.out _ _ (by first | exact HKe.out _ hbw.drew | exact HKe.out _ (hbw.alloc hbk _).drew | exact HKe.out _ (hbw.drew.alloc hbk _)) (λ _ => ?_)
                    clear hK K
                    refine wpAnyH_ready (rs := [33]) (by kernel_rfl) (by simp) ?_
                    refine AllReadyH.cons rfl (λ K hK => ?_) AllReadyH.nil
                    go_simp
                    refine hK.out _ _ (by first | exact HKe.out _ hbw.drew | exact HKe.out _ (hbw.alloc hbk _).drew | exact HKe.out _ (hbw.drew.alloc hbk _)) (λ _ => ?_)
                    clear hK K
                    refine wpAnyH_ready (rs := [34]) (by kernel_rfl) (by simp) ?_
                    refine AllReadyH.cons rfl (λ K hK => ?_) AllReadyH.nil
                    refine step_append_own_at rfl (.tmp 57) (.tmp 89) 24 rfl B 4 b0 (.bool false) 1 1 Tryd.underlying24 hbi hb0 hb1 hb2 rfl (by decide) _ _ _ rfl (HQ3.out.out.acc.alloc _).drew ⟨wr.heap.size, 0, none⟩ 1 1 [.bool false] rfl rfl (cell_one_new wr _ _) (by simp [Value.oneCell']) (by unfold maxLen; omega) (by omega) (by simp; omega) ?_
                    intro v' w9 hown' hgrow hat
                    obtain ⟨ga, cpa, rfl⟩ := own_succ hown'
                    have HB9 := Lib.hid ((HBk.out.alloc hbk (.cells #[.bool false] 4)).drew.grown hgrow (by simp [World.drew]; omega) (λ g e => (HQ3.out.out.acc.lt g e).1))
                    obtain ⟨⟨z0, z1⟩, z2, HQ9⟩ := ((HQ3.out.below ((Below.refl _ _).alloc (Nat.le_refl _) (.cells #[.bool false] 4))).below (Below.refl _ _).drew).acc_push hown' hgrow
                    clear hown' hgrow hat
                    refine hK.out _ _ (HKe.out _ HB9.out) (λ hS9 => ?_)
                    clear hK K
                    refine wpAnyH_take (i := 35) (v := ?_) rfl (by kernel_rfl) (by kernel_rfl) (by kernel_rfl) (λ _ _ _ h => h) (Or.inl ⟨by rfl, ?_⟩) hS9 ?_
                    rotate_left
                    . (intro w' _; go_simp; try with_reducible rfl)
                    refine wpAnyH_ready (rs := [36]) (by kernel_rfl) (by simp) ?_
                    refine AllReadyH.cons rfl (λ K hK => ?_) AllReadyH.nil
                    go_simp
                    refine hK.out _ _ (HKe.out _ (HB9.out.setCell (p := ⟨B, 0, none⟩) (Nat.le_refl _) _)) (λ _ => ?_)
                    clear hK K
                    refine wpAnyH_done (by kernel_rfl) ?_ _
                    have HAr : Hid (prA a b (pairF false) (p * n + (q + 1)) = accs ++ [false]) := Lib.hid HAs.out
                    obtain ⟨W9, hW9⟩ : ∃ W9, W9 = w9.setCell ⟨B, 0, none⟩ (.slice (some ⟨ga, 0, none⟩) (accs.length + 1) cpa) := ⟨_, rfl⟩
                    have HB9' := Lib.hid (HB9.out.setCell (p := ⟨B, 0, none⟩) (Nat.le_refl _) (.slice (some ⟨ga, 0, none⟩) (accs.length + 1) cpa))
                    have HQ9 := Lib.hid HQ9
                    rw [<- hW9] at HQ9 HB9' ⊢
                    clear hW9 z1 z2 e0 e0a f0 HB9
                    obtain ⟨e1, f1⟩ := (⟨(box2_facts HQ9.out.out.box).2.1, (box2_facts HQ9.out.out.box).2.2.2⟩ : W9.cell? ⟨B, 1, none⟩ = some vn /\ W9.frozen? ⟨B, 1, none⟩ = false)
                    have hbw5 : B <= W9.heap.size := Nat.le_of_lt HQ9.out.out.base
                    go_wp2_with (at_builtin; refine wpList_append_own_at _ rfl (.tmp 93) (.tmp 95) 25 rfl B 53 r0 (.slice none 0 0) 1 24 Tryd.underlying25 hri hr0 hr1 hr2 rfl (by decide) _ _ _ rfl (HQ9.out.out.nxt.alloc _) ⟨W9.heap.size, 0, none⟩ 1 1 [.slice Ar nr cr] rfl rfl (cell_one_new _ _ _) (by simp [Value.oneCell']) (by unfold maxLen; omega) (by omega) (by simp; omega) ?_)
                    intro v2 wa hown2 hgrow2 hnil2 hat2
                    obtain ⟨gn, capn, rfl⟩ := own_succ hown2
                    have HQa := HQ9.out.below ((Below.refl _ _).alloc (Nat.le_refl _) (.cells #[.slice Ar nr cr] 53))
                    obtain ⟨⟨z0, z1⟩, z2, HQb⟩ := HQa.nxt_push (vn' := .slice (some ⟨gn, 0, none⟩) (x + 1) capn) (by rw [prRow_length]; omega) (by rw [hus]; exact hown2) hgrow2
                    have HBb := Lib.hid (((HB9'.out.alloc hbw5 (.cells #[.slice Ar nr cr] 53)).grown hgrow2 (by simp; omega) (λ g e => (HQ9.out.out.nxt.lt g e).1)).setCell (p := ⟨B, 1, none⟩) (Nat.le_refl _) (.slice (some ⟨gn, 0, none⟩) (x + 1) capn))
                    have HQb := Lib.hid HQb
                    rw [<- HAr.out, <- HNs.out] at HQb
                    have HUl : Hid ((us ++ [Value.slice Ar nr cr]).length = p * n + (q + 1)) := Lib.hid (by rw [List.length_append, hus, HX.out]; rfl)
                    clear hown2 hgrow2 hnil2 hat2 HQa
                    go_wp2_with fail
                    go_roundw
                    case rel => exact ⟨q + 1, _, _, us ++ [Value.slice Ar nr cr], _, by go_num, by omega, HUl.out, HBb, HQb⟩
                    case measure => simp [intOf]; omega
                  . go_simp
                    refine hK.out _ _ (by first | exact HKe.out _ hbw.drew | exact HKe.out _ (hbw.alloc hbk _).drew | exact HKe.out _ (hbw.drew.alloc hbk _)) (λ _ => ?_)
                    clear hK K
                    refine wpAnyH_ready (rs := [1]) (by kernel_rfl) (by simp) ?_
                    refine AllReadyH.cons rfl (λ K hK => ?_) AllReadyH.nil
                    go_simp
                    refine hK.out _ _ (by first | exact HKe.out _ hbw.drew | exact HKe.out _ (hbw.alloc hbk _).drew | exact HKe.out _ (hbw.drew.alloc hbk _)) (λ _ => ?_)
                    clear hK K
                    refine wpAnyH_ready (rs := [34]) (by kernel_rfl) (by simp) ?_
                    refine AllReadyH.cons rfl (λ K hK => ?_) AllReadyH.nil
                    refine step_append_own_at rfl (.tmp 57) (.tmp 89) 24 rfl B 4 b0 (.bool false) 1 1 Tryd.underlying24 hbi hb0 hb1 hb2 rfl (by decide) _ _ _ rfl (HQ3.out.out.acc.alloc _).drew ⟨wr.heap.size, 0, none⟩ 1 1 [.bool false] rfl rfl (cell_one_new wr _ _) (by simp [Value.oneCell']) (by unfold maxLen; omega) (by omega) (by simp; omega) ?_
                    intro v' w9 hown' hgrow hat
                    obtain ⟨ga, cpa, rfl⟩ := own_succ hown'
                    have HB9 := Lib.hid ((HBk.out.alloc hbk (.cells #[.bool false] 4)).drew.grown hgrow (by simp [World.drew]; omega) (λ g e => (HQ3.out.out.acc.lt g e).1))
                    obtain ⟨⟨z0, z1⟩, z2, HQ9⟩ := ((HQ3.out.below ((Below.refl _ _).alloc (Nat.le_refl _) (.cells #[.bool false] 4))).below (Below.refl _ _).drew).acc_push hown' hgrow
                    clear hown' hgrow hat
                    refine hK.out _ _ (HKe.out _ HB9.out) (λ hS9 => ?_)
                    clear hK K
                    refine wpAnyH_take (i := 35) (v := ?_) rfl (by kernel_rfl) (by kernel_rfl) (by kernel_rfl) (λ _ _ _ h => h) (Or.inl ⟨by rfl, ?_⟩) hS9 ?_
                    rotate_left
                    . (intro w' _; go_simp; try with_reducible rfl)
                    refine wpAnyH_ready (rs := [36]) (by kernel_rfl) (by simp) ?_
                    refine AllReadyH.cons rfl (λ K hK => ?_) AllReadyH.nil
                    go_simp
                    refine hK.out _ _ (HKe.out _ (HB9.out.setCell (p := ⟨B, 0, none⟩) (Nat.le_refl _) _)) (λ _ => ?_)
                    clear hK K
                    refine wpAnyH_done (by kernel_rfl) ?_ _
                    have HAr : Hid (prA a b (pairF false) (p * n + (q + 1)) = accs ++ [false]) := Lib.hid HAs.out
                    obtain ⟨W9, hW9⟩ : ∃ W9, W9 = w9.setCell ⟨B, 0, none⟩ (.slice (some ⟨ga, 0, none⟩) (accs.length + 1) cpa) := ⟨_, rfl⟩
                    have HB9' := Lib.hid (HB9.out.setCell (p := ⟨B, 0, none⟩) (Nat.le_refl _) (.slice (some ⟨ga, 0, none⟩) (accs.length + 1) cpa))
                    have HQ9 := Lib.hid HQ9
                    rw [<- hW9] at HQ9 HB9' ⊢
                    clear hW9 z1 z2 e0 e0a f0 HB9
                    obtain ⟨e1, f1⟩ := (⟨(box2_facts HQ9.out.out.box).2.1, (box2_facts HQ9.out.out.box).2.2.2⟩ : W9.cell? ⟨B, 1, none⟩ = some vn /\ W9.frozen? ⟨B, 1, none⟩ = false)
                    have hbw5 : B <= W9.heap.size := Nat.le_of_lt HQ9.out.out.base
                    go_wp2_with (at_builtin; refine wpList_append_own_at _ rfl (.tmp 93) (.tmp 95) 25 rfl B 53 r0 (.slice none 0 0) 1 24 Tryd.underlying25 hri hr0 hr1 hr2 rfl (by decide) _ _ _ rfl (HQ9.out.out.nxt.alloc _) ⟨W9.heap.size, 0, none⟩ 1 1 [.slice Ar nr cr] rfl rfl (cell_one_new _ _ _) (by simp [Value.oneCell']) (by unfold maxLen; omega) (by omega) (by simp; omega) ?_)
                    intro v2 wa hown2 hgrow2 hnil2 hat2
                    obtain ⟨gn, capn, rfl⟩ := own_succ hown2
                    have HQa := HQ9.out.below ((Below.refl _ _).alloc (Nat.le_refl _) (.cells #[.slice Ar nr cr] 53))
                    obtain ⟨⟨z0, z1⟩, z2, HQb⟩ := HQa.nxt_push (vn' := .slice (some ⟨gn, 0, none⟩) (x + 1) capn) (by rw [prRow_length]; omega) (by rw [hus]; exact hown2) hgrow2
                    have HBb := Lib.hid (((HB9'.out.alloc hbw5 (.cells #[.slice Ar nr cr] 53)).grown hgrow2 (by simp; omega) (λ g e => (HQ9.out.out.nxt.lt g e).1)).setCell (p := ⟨B, 1, none⟩) (Nat.le_refl _) (.slice (some ⟨gn, 0, none⟩) (x + 1) capn))
                    have HQb := Lib.hid HQb
                    rw [<- HAr.out, <- HNs.out] at HQb
                    have HUl : Hid ((us ++ [Value.slice Ar nr cr]).length = p * n + (q + 1)) := Lib.hid (by rw [List.length_append, hus, HX.out]; rfl)
                    clear hown2 hgrow2 hnil2 hat2 HQa
                    go_wp2_with fail
                    go_roundw
                    case rel => exact ⟨q + 1, _, _, us ++ [Value.slice Ar nr cr], _, by go_num, by omega, HUl.out, HBb, HQb⟩
                    case measure => simp [intOf]; omega
        . have hqe : q = n := by omega
          have hd : decide ((q : Int) < (n : Int)) = false := by simp; omega
          have HOn : Hid (Out B wQ B va vn (prA a b (pairF both) ((p + 1) * n)) us (prN a b ((p + 1) * n)) K) := Lib.hid (by
            have h := HO.out
            rw [hqe] at h
            rw [Nat.succ_mul]
            exact h)
          have HUn : Hid (us.length = (p + 1) * n) := Lib.hid (by rw [hus, hqe, Nat.succ_mul])
          clear HO hqe hus hx
          go_wp2_with fail
          go_roundw
          case rel => exact ⟨p + 1, va, vn, us, K, by go_num, by omega, HUn.out, HBr, HOn⟩
          case measure => simp [intOf]; omega
    . have hpe : p = N := by omega
      have hd : decide ((p : Int) < (N : Int)) = false := by simp; omega
      have hx1 : p * n <= 1600 := mul_1600 (by omega) hnb
      have hw3 : w.heap.size + 1 + 1 + 1 = B := HBe.out.symm
      have HD : Hid (DfaO wP (λ g => B <= g /\ g < wP.heap.size) va vn (fieldsOf (prd a b (pairF both)))) := Lib.hid (HO.out.whole (by rw [hpe, HN.out, Hn.out]; exact (pr_fields a b _).1) (by rw [hpe, HN.out, Hn.out]; exact (pr_fields a b _).2) (by rw [prA_length]; omega) (by omega))
      obtain ⟨A1, q1, hva⟩ := (RowO.of_owns HO.out.acc (by rw [prA_length]; omega)).row.shape
      obtain ⟨A2, q2, hvn⟩ := (RowO.of_owns HO.out.nxt (by omega)).row.shape
      subst hva
      subst hvn
      obtain ⟨l1, hl1⟩ : ∃ z, z = (bools (prA a b (pairF both) (p * n))).length := ⟨_, rfl⟩
      obtain ⟨l2, hl2⟩ : ∃ z, z = us.length := ⟨_, rfl⟩
      rw [<- hl1, <- hl2] at HO HD
      obtain ⟨e0, e1, -, -⟩ := box2_facts HO.out.box
      have hyl : w.heap.size + 1 + 1 < B := by omega
      have hbP : B < wP.heap.size := HO.out.base
      obtain ⟨c0, c1, k0, k1⟩ := box2_facts ((HBr.out.block _ hyl).trans HY.out)
      obtain ⟨hcl, hsz, hot, hBl⟩ := put2 (k := .slice A1 l1 q1) (l := .slice A2 l2 q2) c0 c1
      obtain ⟨hr0', hr1'⟩ := hcl
      have HOt := Lib.hid (And.intro hsz (And.intro hot hBl))
      have HLt := Lib.hid (And.intro hw3 hbP)
      clear hsz hot hBl hl1 hl2 hpe hus hw3 hyl hbP
      go_wp2_with fail
      refine bodyPost_ret (v := .agg #[.slice A1 l1 q1, .slice A2 l2 q2]) (by simp [results, Tryd.results55, go_sem, hr0', hr1']) rfl ?_
      have h0 := HLt.out
      exact ⟨_, _, rfl, HD.out.mono (λ g hg => HOt.out.2.1 g (by have := hg.1; omega)) (λ g hg => ⟨by have := hg.1; omega, by rw [HOt.out.1]; exact hg.2⟩) (by rw [HOt.out.1]; exact Nat.le_refl _), HOt.out.2.2 _ _ HBw.out (by omega)⟩
end Go.Proofs.YtiijlpmdnokjfaaDoor
