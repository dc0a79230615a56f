/- Texts of one proof. -/
import Derived.Maps.OwnSet
import Derived.Maps.Own
import Derived.Test.YtiijlpmdnokjfaaGreatDoorCplZPack8
set_option maxRecDepth 100000
set_option maxHeartbeats 20000000
namespace Go.Proofs.YtiijlpmdnokjfaaGreatDoor
open Go.RowKit
theorem enters_clone (args : Array Value) (w : World) : (callFunc 128 args).run Tryz.prog w = .ok (.enter 128 args) w := enters_of Tryz.func128 (by kernel_rfl) rfl args w
def Clone3 (y0 y1 y2 : Int) (w : World) (e : Ending) (w' : World) : Prop := ∃ g c, e = .returned (.slice (some ⟨g, 0, none⟩) 3 c) /\ IR w' w.heap.size (.slice (some ⟨g, 0, none⟩) 3 c) [y0, y1, y2] /\ Below w.heap.size w w'
theorem libClone3 (bx : Nat) (y0 y1 y2 : Int) (T : TypeId) (w : World) (h : Bx3 w bx (.int .i64 y0) (.int .i64 y1) (.int .i64 y2) T) :
    Calls Tryz.prog 128 #[.slice (some ⟨bx, 0, none⟩) 3 3] w (Clone3 y0 y1 y2 w) := by
  refine (Tryz.slices_Clone_int bx 0 3 3 [y0, y1, y2] w (Nat.le_refl _) (by decide) (λ j hj => ?_)).mono ?_
  . obtain ⟨⟨c0, c1, c2⟩, -⟩ := h.facts
    have hj3 : j < 3 := hj
    rcases (show j = 0 \/ j = 1 \/ j = 2 by omega) with rfl | rfl | rfl
    . exact c0
    . exact c1
    . exact c2
  . rintro e w' ⟨v', rfl, hown, -, hb⟩
    obtain ⟨g, c, rfl⟩ := own_succ (k := 2) hown
    exact ⟨g, c, rfl, hown, hb⟩
theorem IR.lower {w : World} {B B' : Nat} {v : Value} {l : List Int} (h : IR w B' v l) (hB : B <= B') : IR w B v l := by
  obtain ⟨h1, h2⟩ := h
  refine ⟨h1, ?_⟩
  rcases h2 with h2 | ⟨g, cap, cur, e, hg, r⟩
  . exact .inl h2
  . exact .inr ⟨g, cap, cur, e, Nat.le_trans hB hg, r⟩
def rowQ (a : Au) (s i : Nat) : List Int := (List.range 3).map λ k => (((quo a s).T i k : Nat) : Int)
theorem implQuo_any (va vr : Value) (a : Au) (s : Nat) (ad : Addr) (cc : Nat) (adh : Addr) (ch : Nat) (w : World) (hw : a.wf) (hn : a.n <= 2000) (h : AutoV w va vr a)
    (hC : ∀ q, q < a.n -> w.cell? (ad.add q) = some (.int .i64 ((col a (s + 1) q : Nat) : Int)))
    (hH : ∀ i, i < (hds a s a.n).length -> w.cell? (adh.add i) = some (.int .i64 (((hds a s a.n).getD i default : Nat) : Int))) :
    Calls Tryz.prog 111 #[.agg #[va, vr], .slice (some ad) a.n cc, .slice (some adh) (hds a s a.n).length ch] w (CopyD (fieldsOf (quo a s)) w) := by
  obtain ⟨i0, hi, hz0, hz1, hz2⟩ := info_parts intInfo
  obtain ⟨b0, hbi, hb0, hb1, hb2⟩ := info_parts boolInfo
  obtain ⟨r0, hri, hr0, hr1, hr2⟩ := info_parts rowInfo
  obtain ⟨ga, ca, gr, cr, rfl, rfl, hA, hT⟩ := h
  obtain ⟨n, hne⟩ : ∃ n, n = a.n := ⟨_, rfl⟩
  obtain ⟨N, hNe⟩ : ∃ N, N = (hds a s a.n).length := ⟨_, rfl⟩
  obtain ⟨H, hHe⟩ : ∃ H : Nat -> Nat, H = λ i => (hds a s a.n).getD i default := ⟨_, rfl⟩
  have hNn : N <= n := by rw [hNe, hne]; exact hds_len_le a s a.n
  have HHlt : Hid (∀ i, i < N -> H i < n) := Lib.hid (λ i hi => by rw [hHe, hne]; exact (hds_at (by rw [<- hNe]; exact hi)).1)
  have HHead : Hid (∀ i, i < N -> w.cell? (adh.add i) = some (.int .i64 ((H i : Nat) : Int))) := Lib.hid (by rw [hHe, hNe]; exact hH)
  have HWf : Hid (∀ x k, x < n -> k < 3 -> a.T x k < n) := Lib.hid (by rw [hne]; exact hw.2)
  have HT : Hid (∀ q, q < n -> ∀ k, k < 3 -> w.cell? ⟨gr, q * 3 + k, none⟩ = some (.int .i64 ((a.T q k : Nat) : Int))) := Lib.hid (by rw [hne]; exact hT)
  have HA : Hid (∀ q, q < n -> w.cell? ⟨ga, q, none⟩ = some (.bool (a.A q))) := Lib.hid (by rw [hne]; exact hA)
  have HC : Hid (∀ q, q < n -> w.cell? (ad.add q) = some (.int .i64 ((col a (s + 1) q : Nat) : Int))) := Lib.hid (by rw [hne]; exact hC)
  have HRow : Hid (∀ i, rowQ a s i = [((col a (s + 1) (a.T (H i) 0) : Nat) : Int), ((col a (s + 1) (a.T (H i) 1) : Nat) : Int), ((col a (s + 1) (a.T (H i) 2) : Nat) : Int)]) := Lib.hid (λ i => by rw [hHe]; rfl)
  have HFa : Hid (accOf (quo a s) = (List.range N).map λ i => a.A (H i)) := Lib.hid (by rw [hNe, hHe]; rfl)
  have HFn : Hid (nxtOf (quo a s) = (List.range N).map λ i => rowQ a s i) := Lib.hid (by rw [hNe]; rfl)
  rw [<- hne] at hn
  rw [<- hNe, <- hne]
  clear hC hH hA hT hne hNe hHe hw
  obtain ⟨W2, hW2⟩ : ∃ W2, W2 = (w.alloc (.cells #[.slice (some ⟨ga, 0, none⟩) n ca, .slice (some ⟨gr, 0, none⟩) n cr] 107)).alloc (.cells #[.slice none 0 0, .slice none 0 0] 31) := ⟨_, rfl⟩
  have HB2 : Hid (Below w.heap.size w W2) := Lib.hid (by rw [hW2]; exact ((Below.refl _ _).alloc (Nat.le_refl _) _).alloc (by simp) _)
  have HX2 : Hid (W2.heap[w.heap.size]? = some (.cells #[.slice (some ⟨ga, 0, none⟩) n ca, .slice (some ⟨gr, 0, none⟩) n cr] 107 (0, 0))) := Lib.hid (by
    rw [hW2]
    exact (Below.heap_alloc _ _ _ (by simp)).trans (heap_alloc_new w _))
  have HY2 : Hid (W2.heap[w.heap.size + 1]? = some (.cells #[.slice none 0 0, .slice none 0 0] 31 (0, 0))) := Lib.hid (by rw [hW2]; exact three2 w _ _ _ _)
  obtain ⟨B, hB⟩ : ∃ B, B = W2.heap.size := ⟨_, rfl⟩
  obtain ⟨W3, hW3⟩ : ∃ W3, W3 = W2.alloc (.cells #[.slice none 0 0, .slice none 0 0] 31) := ⟨_, rfl⟩
  have HS : Hid (Out B W3 B (.slice none 0 0) (.slice none 0 0) [] [] [] (λ _ _ => False) /\ Below B W2 W3) := Lib.hid (by
    rw [hW3, hB]
    exact ⟨Out.start W2 (Nat.le_refl _), (Below.refl _ _).alloc (Nat.le_refl _) _⟩)
  have hBs : B = w.heap.size + 1 + 1 := by rw [hB, hW2]; simp
  have HBs := Lib.hid (And.intro hB hBs)
  clear hB hBs
  go_enter Tryz.func111, Tryz.ntmps111
  go_wp2_with fail
  rw [<- hW2, <- hW3, <- HBs.out.2]
  clear hW2 hW3
  go_loopw [13] (λ iv wr => ∃ (i : Nat) (va' vn' : Value) (us : List Value) (K : Nat -> Nat -> Prop), iv = .int .i64 i /\ i <= N /\ us.length = i /\ Hid (Below B W2 wr) /\ Hid (Out B wr B va' vn' ((List.range i).map λ j => a.A (H j)) us ((List.range i).map λ j => ints (rowQ a s j)) K)) (λ iv _ => N - (intOf iv).toNat)
  case atStart => exact ⟨0, _, _, [], _, rfl, Nat.zero_le _, rfl, Lib.hid HS.out.2, Lib.hid HS.out.1⟩
  case round =>
    obtain ⟨i, va', vn', us, K, rfl, hin, hus, HBr, HO⟩ := hrel
    clear HS
    by_cases hlt : i < N
    . have hhd := HHead.out i hlt
      have hhn := HHlt.out i hlt
      obtain ⟨h, hh⟩ : ∃ h, h = H i := ⟨_, rfl⟩
      rw [<- hh] at hhd hhn
      have HHh := Lib.hid hh
      clear hh
      have upB : Hid (Below w.heap.size w wr) := Lib.hid (HB2.out.trans (HBr.out.mono (by have := HBs.out.2; omega)))
      have ghd := (upB.out.cell (cell_in hhd)).trans hhd
      have ht0 := (upB.out.cell (cell_in (HT.out h hhn 0 (by omega)))).trans (HT.out h hhn 0 (by omega))
      have ht1 := (upB.out.cell (cell_in (HT.out h hhn 1 (by omega)))).trans (HT.out h hhn 1 (by omega))
      have ht2 := (upB.out.cell (cell_in (HT.out h hhn 2 (by omega)))).trans (HT.out h hhn 2 (by omega))
      rw [Nat.add_zero] at ht0
      have hx0 := HWf.out h 0 hhn (by omega)
      have hx1 := HWf.out h 1 hhn (by omega)
      have hx2 := HWf.out h 2 hhn (by omega)
      obtain ⟨x0, hx0e⟩ : ∃ x0, x0 = a.T h 0 := ⟨_, rfl⟩
      obtain ⟨x1, hx1e⟩ : ∃ x1, x1 = a.T h 1 := ⟨_, rfl⟩
      obtain ⟨x2, hx2e⟩ : ∃ x2, x2 = a.T h 2 := ⟨_, rfl⟩
      rw [<- hx0e] at hx0 ht0
      rw [<- hx1e] at hx1 ht1
      rw [<- hx2e] at hx2 ht2
      have HAf := Lib.hid (implAfter_any x0 x1 x2 ad n cc (col a (s + 1)) wr hx0 hx1 hx2 (λ p hp => (upB.out.cell (cell_in (HC.out p hp))).trans (HC.out p hp)))
      obtain ⟨y0, hy0⟩ : ∃ y : Int, y = ((col a (s + 1) x0 : Nat) : Int) := ⟨_, rfl⟩
      obtain ⟨y1, hy1⟩ : ∃ y : Int, y = ((col a (s + 1) x1 : Nat) : Int) := ⟨_, rfl⟩
      obtain ⟨y2, hy2⟩ : ∃ y : Int, y = ((col a (s + 1) x2 : Nat) : Int) := ⟨_, rfl⟩
      rw [<- hy0, <- hy1, <- hy2] at HAf
      have HY : Hid (rowQ a s i = [y0, y1, y2]) := Lib.hid (by rw [HRow.out, hy0, hy1, hy2, hx0e, hx1e, hx2e, HHh.out])
      have hbl : w.heap.size < B := by have := HBs.out.2; omega
      have HXr : Hid (wr.heap[w.heap.size]? = some (.cells #[.slice (some ⟨ga, 0, none⟩) n ca, .slice (some ⟨gr, 0, none⟩) n cr] 107 (0, 0))) := Lib.hid ((HBr.out.block _ hbl).trans HX2.out)
      obtain ⟨k0, k1, -, -⟩ := box2_facts HXr.out
      have s0 : (h : Int) < (n : Int) := by omega
      have s1 : (0 : Int) <= (h : Int) := by omega
      clear hx0e hx1e hx2e hy0 hy1 hy2 hx0 hx1 hx2 hhd
      go_wp2_with fail
      go_at_call 125
      refine HAf.out.mono ?_
      rintro e w5 ⟨rfl, hb5⟩
      go_upto_region 6 with fail
      obtain ⟨bx, hbx⟩ : ∃ bx, bx = w5.heap.size := ⟨_, rfl⟩
      obtain ⟨V6, hV6⟩ : ∃ V6, V6 = w5.alloc (.cells #[.int .i64 y0, .int .i64 y1, .int .i64 y2] 153) := ⟨_, rfl⟩
      rw [<- hV6, <- hbx]
      have h6 : Below wr.heap.size wr V6 := by rw [hV6]; exact hb5.alloc hb5.size _
      have HX6 : Hid (Bx3 V6 bx (.int .i64 y0) (.int .i64 y1) (.int .i64 y2) 153) := Lib.hid (by rw [hV6, hbx]; exact Bx3.new w5 _ _ _ _)
      obtain ⟨accs, hacc⟩ : ∃ accs, accs = (List.range i).map λ j => a.A (H j) := ⟨_, rfl⟩
      obtain ⟨rss, hrss⟩ : ∃ rss, rss = (List.range i).map λ j => ints (rowQ a s j) := ⟨_, rfl⟩
      rw [<- hacc, <- hrss] at HO
      have hbn : accs.length <= 2000 := by rw [hacc]; simp; omega
      have HAc := Lib.hid (And.intro hacc hrss)
      have HO6 := Lib.hid (HO.out.below h6)
      have HB6 := Lib.hid (HBr.out.trans (h6.mono (Nat.le_trans (Nat.le_of_eq HBs.out.1) HBr.out.size)))
      have hAh := HA.out h hhn
      obtain ⟨b, hb⟩ : ∃ b, b = a.A h := ⟨_, rfl⟩
      rw [<- hb] at hAh
      have HBb := Lib.hid hb
      have hA6 := (h6.cell (cell_in ((upB.out.cell (cell_in hAh)).trans hAh))).trans ((upB.out.cell (cell_in hAh)).trans hAh)
      obtain ⟨m0, -, -, -⟩ := box2_facts ((h6.block _ (by have := (Array.getElem?_eq_some_iff.1 HXr.out).1; exact this)).trans HXr.out)
      have hbw6 : B <= V6.heap.size := Nat.le_trans (Nat.le_of_eq HBs.out.1) HB6.out.size
      clear hV6 hbx h6 hb5 hacc hrss hb hAh k0 k1 ht0 ht1 ht2 ghd
      have HQal := Lib.hid ((HO6.out.below ((Below.refl _ _).alloc (Nat.le_refl _) (.cells #[.bool b] 4))).below (Below.refl _ _).drew)
      obtain ⟨g1, -, g3, -⟩ := box2_facts HO6.out.box
      obtain ⟨e1, -, e3, -⟩ := box2_facts (HO6.out.below ((Below.refl _ _).alloc (Nat.le_refl _) (.cells #[.bool b] 4))).box
      obtain ⟨e5, -, e7, -⟩ := box2_facts HQal.out.box
      obtain ⟨Aa, qa, hva⟩ := (RowO.of_owns HO6.out.acc (by omega)).row.shape
      rw [bools_length] at hva
      subst hva
      go_cut [] from 24 to 33 (λ wc => ∃ va2, Hid (Out B wc B va2 vn' (accs ++ [b]) us rss K) /\ Hid (Below B W2 wc) /\ Hid (Bx3 wc bx (.int .i64 y0) (.int .i64 y1) (.int .i64 y2) 153))
      case first =>
        go_region_law (refine step_append_own_at rfl (.tmp 25) (.tmp 31) 28 rfl B 4 b0 (.bool false) 1 1 Tryz.underlying28 hbi hb0 hb1 hb2 rfl (by decide) _ _ _ rfl (HO6.out.acc.alloc _).drew ⟨V6.heap.size, 0, none⟩ 1 1 [.bool b] rfl rfl (cell_one_new V6 _ _) (by simp [Value.oneCell']) (by unfold maxLen; omega) (by omega) (by simp; omega) ?_; intro v' w9 hown' hgrow hat; obtain ⟨g', cap', rfl⟩ := own_succ hown'; have HB9 := Lib.hid (((HB6.out.alloc hbw6 (.cells #[.bool b] 4)).drew.grown hgrow (by simp [World.drew]; omega) (λ g e => (HQal.out.acc.lt g e).1)).setCell (p := ⟨B, 0, none⟩) (Nat.le_refl _) (.slice (some ⟨g', 0, none⟩) (accs.length + 1) cap')); obtain ⟨z1, z2, HQ9⟩ := HQal.out.acc_push hown' hgrow; obtain ⟨z0, z1⟩ := z1; have HQ9 := Lib.hid HQ9; have HG9 := Lib.hid hgrow)
        all_goals
          have HX9 : Hid (Bx3 (w9.setCell ⟨B, 0, none⟩ (.slice (some ⟨g', 0, none⟩) (accs.length + 1) cap')) bx (.int .i64 y0) (.int .i64 y1) (.int .i64 y2) 153) := Lib.hid (by
            have hxa : Bx3 (V6.alloc (.cells #[.bool b] 4)).drew bx (.int .i64 y0) (.int .i64 y1) (.int .i64 y2) 153 := HX6.out.same (Below.heap_alloc _ _ _ HX6.out.lt)
            refine (hxa.same (HG9.out.block bx hxa.lt (λ e => ?_))).same (Below.heap_setCell _ _ _ _ (λ e => ?_))
            . obtain ⟨cur, hh⟩ := blk_of HQal.out.acc e.symm
              exact blk_ne hh hxa (by decide) rfl
            . exact blk_ne HO6.out.box HX6.out (by decide) (Eq.symm e))
          clear hown' hgrow hat z1 z2 g1 g3 e1 e3 e5 e7
          go_wp2_with fail
          go_meet
          exact ⟨_, HQ9, HB9, HX9⟩
      case rest =>
        obtain ⟨va2, HQ9, HB9, HX9⟩ := hcut
        clear g1 g3 e1 e3 e5 e7 m0 hA6
        have HCl := Lib.hid (libClone3 bx y0 y1 y2 _ wc.drew HX9.out)
        have HQ9d := Lib.hid (HQ9.out.below (Below.refl _ _).drew)
        obtain ⟨-, e1, -, e3⟩ := box2_facts HQ9.out.box
        obtain ⟨-, e5, -, e7⟩ := box2_facts HQ9d.out.box
        have hbwc : B <= wc.heap.size := Nat.le_trans (Nat.le_of_eq HBs.out.1) HB9.out.size
        go_upto_region 7 with fail
        go_region_law (first
          | (refine step_call rfl _ _ _ rfl enters_clone #[.slice (some ⟨bx, 0, none⟩) 3 3] (by simp [Act.eval, Act.put]) HCl.out ?_; rintro e w1 ⟨g, c, rfl, hir, hb1⟩; have HB1 := Lib.hid (HB9.out.drew.trans (hb1.mono (by show B <= wc.heap.size; omega))); have HO1 := Lib.hid (HQ9d.out.below hb1); have HI1 := Lib.hid hir; obtain ⟨-, l1, -, l3⟩ := box2_facts HO1.out.box; obtain ⟨-, l5, -, l7⟩ := box2_facts (HO1.out.below ((Below.refl _ _).alloc (Nat.le_refl _) (.cells #[.slice (some ⟨g, 0, none⟩) 3 c] 49))).box; have hbw1 : B <= w1.heap.size := Nat.le_trans hbwc hb1.size; clear hir hb1; refine ⟨_, rfl, ?_⟩)
          | (refine step_append_own_at rfl (.tmp 35) (.tmp 38) 29 rfl B 49 r0 (.slice none 0 0) 1 24 Tryz.underlying29 hri hr0 hr1 hr2 rfl (by decide) _ _ _ rfl (HO1.out.nxt.alloc _) ⟨w1.heap.size, 0, none⟩ 1 1 [.slice (some ⟨g, 0, none⟩) 3 c] rfl rfl (cell_one_new _ _ _) (by simp [Value.oneCell']) (by unfold maxLen; omega) (by omega) (by simp; omega) ?_; intro v' w9 hown' hgrow hat; rw [hus] at hown'; obtain ⟨g', cap', rfl⟩ := own_succ hown'; have HU : Hid (∀ g0, (Value.slice (some ⟨g, 0, none⟩) 3 c).ownBlock = some g0 -> ∀ j, ¬ K j g0) := Lib.hid (λ g0 e j hk => Nat.lt_irrefl _ (Nat.lt_of_lt_of_le (HQ9.out.rows.lt j g0 hk) (HI1.out.lt g0 e).1)); obtain ⟨⟨z0, z1⟩, z2, HO9⟩ := (HO1.out.below ((Below.refl _ _).alloc (Nat.le_refl _) (.cells #[.slice (some ⟨g, 0, none⟩) 3 c] 49))).nxt_push (vn' := .slice (some ⟨g', 0, none⟩) (i + 1) cap') (IR.lower ((HI1.out.alloc (.cells #[.slice (some ⟨g, 0, none⟩) 3 c] 49))) hbwc) (by simp) HU.out (by rw [hus]; exact hown') hgrow; have HO9 := Lib.hid HO9; have HB9' := Lib.hid (((HB1.out.alloc hbw1 (.cells #[.slice (some ⟨g, 0, none⟩) 3 c] 49)).grown hgrow (by simp; omega) (λ g0 e => (HO1.out.nxt.lt g0 e).1)).setCell (p := ⟨B, 1, none⟩) (Nat.le_refl _) (.slice (some ⟨g', 0, none⟩) (i + 1) cap'))))
        all_goals
          have HA1 : Hid (accs ++ [b] = (List.range (i + 1)).map λ j => a.A (H j)) := Lib.hid (by rw [List.range_succ, List.map_append, HAc.out.1, HBb.out, HHh.out]; rfl)
          have HR1 : Hid (rss ++ [ints [y0, y1, y2]] = (List.range (i + 1)).map λ j => ints (rowQ a s j)) := Lib.hid (by rw [List.range_succ, List.map_append, HAc.out.2, <- HY.out]; rfl)
          rw [HA1.out, HR1.out] at HO9
          clear hown' hgrow hat e1 e3 e5 e7 l1 l3 l5 l7 z1 z2
          go_wp2_with fail
          go_roundw
          case rel => exact ⟨i + 1, _, _, us ++ [.slice (some ⟨g, 0, none⟩) 3 c], _, by go_num, by omega, by simp [hus], HB9', HO9⟩
          case measure => simp [intOf]; omega
    . obtain rfl : i = N := by omega
      obtain ⟨accs, hacc⟩ : ∃ accs, accs = (List.range i).map λ j => a.A (H j) := ⟨_, rfl⟩
      obtain ⟨rss, hrss⟩ : ∃ rss, rss = (List.range i).map λ j => ints (rowQ a s j) := ⟨_, rfl⟩
      rw [<- hacc, <- hrss] at HO
      have hal : accs.length = i := by rw [hacc]; simp
      have HD : Hid (DfaO wr (λ g => B <= g /\ g < wr.heap.size) va' vn' (fieldsOf (quo a s))) := Lib.hid (HO.out.whole (by rw [hacc]; exact HFa.out) (by
        rw [hrss]
        show intss (nxtOf (quo a s)) = _
        rw [HFn.out]
        simp [intss]) (by omega) (by omega))
      have hva := (RowO.of_owns HO.out.acc (by omega)).row.shape
      have hvn := (RowO.of_owns HO.out.nxt (by omega)).row.shape
      obtain ⟨A1, q1, rfl⟩ := hva
      obtain ⟨A2, q2, hvn2⟩ := hvn
      rw [hus] at hvn2
      subst hvn2
      obtain ⟨e0, e1, f0, f1⟩ := box2_facts HO.out.box
      have hyb := (HBr.out.block _ (by have := HBs.out.2; omega)).trans HY2.out
      obtain ⟨c0, c1, k0, k1⟩ := box2_facts hyb
      have hd : decide ((i : Int) < (i : Int)) = false := by simp
      obtain ⟨hcl, hsz, hot, hBl⟩ := put2 (k := .slice A1 (bools accs).length q1) (l := .slice A2 i q2) c0 c1
      obtain ⟨hc0, hc1⟩ := hcl
      have HOt := Lib.hid (And.intro hsz (And.intro hot hBl))
      clear f0 f1 hsz hot hBl hyb hal hacc hrss
      go_wp2_with fail
      refine bodyPost_ret (v := .agg #[.slice A1 (bools accs).length q1, .slice A2 i q2]) (by simp [results, Tryz.results111, go_sem, hc0, hc1]) rfl ?_
      have hBs := HBs.out.2
      exact ⟨_, _, rfl, HD.out.mono (λ g hg => HOt.out.2.1 g (by have := hg.1; omega)) (λ g hg => ⟨by have := hg.1; omega, by rw [HOt.out.1]; exact hg.2⟩) (by rw [HOt.out.1]; exact Nat.le_refl _), HOt.out.2.2 _ _ (HB2.out.trans (HBr.out.mono (by omega))) (Nat.le_succ _)⟩
end Go.Proofs.YtiijlpmdnokjfaaGreatDoor
namespace Go.Proofs.YtiijlpmdnokjfaaGreatDoor
open Go.RowKit
def hAt (a : Au) : Nat -> List Nat
  | 0 => []
  | s + 1 => hds a s a.n
def lenV : Value -> Nat
  | .slice _ n _ => n
  | _ => 0
def MinPost (a : Au) (w : World) (e : Ending) (w' : World) : Prop := ∃ m, Canon m /\ Eqv m 0 a 0 /\ CopyDB (fitD m) (decide (m.n <= 40)) w e w'
theorem natI_row {w : World} {S : Nat -> Prop} {v : Value} {l : List Nat} (h : RowV w S v (ints (natI l))) (hl : 0 < l.length) : ∃ ad c, v = .slice (some ad) l.length c /\ ∀ i, i < l.length -> w.cell? (ad.add i) = some (.int .i64 ((l.getD i default : Nat) : Int)) := by
  obtain ⟨-, A, c, rfl⟩ := h.ints_shape
  obtain ⟨ad, rfl, -, -⟩ := h.intD (j := 0) (by rw [natI_length]; exact hl)
  refine ⟨ad, c, by rw [natI_length], λ i hi => ?_⟩
  obtain ⟨ad2, e, -, hc⟩ := h.intD (j := i) (by rw [natI_length]; exact hi)
  cases e
  rw [hc, natI_at hi]
theorem implMinz_any (va vr : Value) (a : Au) (w : World) (hnum : Num a) (hn : a.n <= 2000) (h : AutoV w va vr a) :
    Calls Tryz.prog 68 #[.agg #[va, vr]] w (MinPost a w) := by
  obtain ⟨ga, ca, gr, cr, hva, hvr, hA, hT⟩ := id h
  have HNum := Lib.hid hnum
  have HAu := Lib.hid h
  subst hva
  subst hvr
  have hpos := hnum.pos
  obtain ⟨W0, hW0⟩ : ∃ W0, W0 = (w.alloc (.cells #[.slice (some ⟨ga, 0, none⟩) a.n ca, .slice (some ⟨gr, 0, none⟩) a.n cr] 107)).alloc (.cells #[.slice none 0 0, .slice none 0 0] 31) := ⟨_, rfl⟩
  have HB0 : Hid (Below w.heap.size w W0) := Lib.hid (by rw [hW0]; exact ((Below.refl _ _).alloc (Nat.le_refl _) _).alloc (by simp) _)
  have HX0 : Hid (W0.heap[w.heap.size]? = some (.cells #[.slice (some ⟨ga, 0, none⟩) a.n ca, .slice (some ⟨gr, 0, none⟩) a.n cr] 107 (0, 0))) := Lib.hid (by
    rw [hW0]
    exact (Below.heap_alloc _ _ _ (by simp)).trans (heap_alloc_new w _))
  have HY0 : Hid (W0.heap[w.heap.size + 1]? = some (.cells #[.slice none 0 0, .slice none 0 0] 31 (0, 0))) := Lib.hid (by rw [hW0]; exact three2 w _ _ _ _)
  have HAc := Lib.hid (implAccs_any ga ca a W0 hn (λ q hq => (HB0.out.cell (cell_in (hA q hq))).trans (hA q hq)))
  have HRef := Lib.hid (λ (V : World) (hV : Below w.heap.size w V) ad cc r (hC : ∀ q, q < a.n -> V.cell? (ad.add q) = some (.int .i64 ((col a r q : Nat) : Int))) => implRefine_any gr cr ad cc a r V hnum.wf hn (λ q hq k hk => (hV.cell (cell_in (hT q hq k hk))).trans (hT q hq k hk)) hC)
  have HQuo := Lib.hid (λ (V : World) (hV : Below w.heap.size w V) s ad cc adh ch (hC : ∀ q, q < a.n -> V.cell? (ad.add q) = some (.int .i64 ((col a (s + 1) q : Nat) : Int))) (hH : ∀ i, i < (hds a s a.n).length -> V.cell? (adh.add i) = some (.int .i64 (((hds a s a.n).getD i default : Nat) : Int))) => implQuo_any _ _ a s ad cc adh ch V hnum.wf hn (HAu.out.kept hV) hC hH)
  obtain ⟨c00, -, -, -⟩ := box2_facts HX0.out
  rw [hW0] at c00
  obtain ⟨n, hne⟩ : ∃ n, n = a.n := ⟨_, rfl⟩
  rw [<- hne] at hW0 HX0 HAc HRef HQuo hn hpos c00
  rw [<- hne]
  have HN := Lib.hid hne
  have HLen : Hid (∀ r, (hds a r n).length <= n /\ 0 < (hds a r n).length) := Lib.hid (λ r => ⟨hds_len_le a r n, hds_pos r hpos⟩)
  clear h hA hT hnum hne
  go_enter Tryz.func68, Tryz.ntmps68
  go_wp2_with fail
  go_at_call 109
  rw [<- hW0]
  refine HAc.out.mono ?_
  rintro e w1 ⟨v1, rfl, hr1, hb1⟩
  have HR1 := Lib.hid (And.intro hr1 hb1)
  clear hr1 hb1 hW0 c00 HAc
  go_wp2_with fail
  go_loopw [4, 5] (λ vc vh wr => ∃ r : Nat, Hid (RowV wr (λ _ => True) vc (ints (clsRow n (col a r)))) /\ Hid (RowV wr (λ _ => True) vh (ints (natI (hAt a r)))) /\ Hid (Below W0.heap.size W0 wr) /\ (hAt a r).length <= 40) (λ _ vh _ => 41 - lenV vh)
  case atStart => exact ⟨0, Lib.hid (HR1.out.1.row.mono (λ _ _ => rfl) (λ _ _ => trivial)), Lib.hid (RowO.nil _ _ _ _).row, Lib.hid HR1.out.2, by simp [hAt]⟩
  case round =>
    obtain ⟨r, HC, HH, HBr, hl40⟩ := hrel
    clear HR1
    obtain ⟨ad, mc, rfl, hcl⟩ := HC.out.cls hpos
    obtain ⟨-, Ah, mh, hvh⟩ := HH.out.ints_shape
    rw [natI_length] at hvh
    subst hvh
    have HBw := Lib.hid (HB0.out.trans (HBr.out.mono HB0.out.size))
    have HRf := Lib.hid (HRef.out wr HBw.out ad mc r hcl)
    have HXr : Hid (wr.heap[w.heap.size]? = some (.cells #[.slice (some ⟨ga, 0, none⟩) n ca, .slice (some ⟨gr, 0, none⟩) n cr] 107 (0, 0))) := Lib.hid ((HBr.out.block _ (blk_lt HX0.out)).trans HX0.out)
    obtain ⟨k0, k1, -, -⟩ := box2_facts HXr.out
    obtain ⟨lh, hlh⟩ : ∃ lh, lh = (hAt a r).length := ⟨_, rfl⟩
    rw [<- hlh] at HH hl40 ⊢
    have HLh := Lib.hid hlh
    clear hcl hlh
    go_wp2_with fail
    go_at_call 110
    refine HRf.out.mono ?_
    rintro e w2 ⟨vf, vg, rfl, hrf, hrg, hb2⟩
    rw [<- HN.out] at hrf hrg
    obtain ⟨-, Ag, mg, hvg⟩ := hrg.row.ints_shape
    rw [natI_length] at hvg
    subst hvg
    obtain ⟨lg, hlg⟩ : ∃ lg, lg = (hds a r n).length := ⟨_, rfl⟩
    rw [<- hlg] at hrg ⊢
    have HLg := Lib.hid hlg
    have HR2 := Lib.hid (And.intro hrf hrg)
    have hlgn : lg <= n := by rw [hlg]; exact (HLen.out r).1
    have hlg0 : 0 < lg := by rw [hlg]; exact (HLen.out r).2
    have HB2 := Lib.hid (HBr.out.trans (hb2.mono HBr.out.size))
    have HBw2 := Lib.hid (HB0.out.trans (HB2.out.mono HB0.out.size))
    have HC2 := Lib.hid (HC.out.kept hb2)
    have HH2 := Lib.hid (HH.out.kept hb2)
    have HX2 : Hid (w2.heap[w.heap.size]? = some (.cells #[.slice (some ⟨ga, 0, none⟩) n ca, .slice (some ⟨gr, 0, none⟩) n cr] 107 (0, 0))) := Lib.hid ((hb2.block _ (blk_lt HXr.out)).trans HXr.out)
    have HY2 : Hid (w2.heap[w.heap.size + 1]? = some (.cells #[.slice none 0 0, .slice none 0 0] 31 (0, 0))) := Lib.hid ((HB2.out.block _ (blk_lt HY0.out)).trans HY0.out)
    clear hrf hrg hb2 k0 k1 hlg
    by_cases hbig : 40 < lg
    . have hb1 : (40 : Int) < (lg : Int) := by omega
      obtain ⟨c0, c1, f0, f1⟩ := box2_facts HY2.out
      obtain ⟨hcl, hsz, hot, hBl⟩ := put2 (k := .slice none 0 0) (l := .slice none 0 0) c0 c1
      obtain ⟨hc0, hc1⟩ := hcl
      have HOt := Lib.hid hBl
      clear hsz hot hBl
      go_wp2_with fail
      refine bodyPost_ret (v := .tuple #[.agg #[.slice none 0 0, .slice none 0 0], .bool false]) (by simp [results, Tryz.results68, go_sem, hc0, hc1]) rfl ?_
      obtain ⟨m, m1, m2, -⟩ := exists_min HNum.out.wf
      have hmn := hds_le_min HNum.out m1 m2 r
      rw [<- HN.out, <- HLg.out] at hmn
      have hb : ¬ m.n <= 40 := by omega
      refine ⟨m, m1, m2, ?_⟩
      rw [decide_eq_false hb, fitD, if_neg hb]
      exact ⟨_, _, rfl, DfaO.empty _ _, HOt.out _ _ HBw2.out (Nat.le_succ _)⟩
    . have hb1 : ¬ (40 : Int) < (lg : Int) := by omega
      by_cases heq : lg = lh
      . have hb2 : ((lg : Int) == (lh : Int)) = true := by simp; omega
        have hb3 : decide (lg = lh) = true := by simp; omega
        have HS : Hid (∃ s, r = s + 1) := Lib.hid (by
          cases r with
          | zero =>
            have h1 := HLh.out
            simp [hAt] at h1
            omega
          | succ s => exact ⟨s, rfl⟩)
        obtain ⟨s, rfl⟩ := HS.out
        have hle : lh = (hds a s n).length := by
          have h1 := HLh.out
          simp only [hAt] at h1
          rw [HN.out]
          exact h1
        have hlh0 : 0 < (hds a s n).length := (HLen.out s).2
        have hH2 : RowV w2 (λ _ => True) (.slice Ah lh mh) (ints (natI (hds a s n))) := by
          have h1 := HH2.out
          simp only [hAt] at h1
          rw [HN.out]
          exact h1
        obtain ⟨adh, ch, hadh, hhc⟩ := natI_row hH2 hlh0
        injection hadh with e1 e2 e3
        subst e1
        subst e3
        obtain ⟨ad2, mc2, had, hcl2⟩ := HC2.out.cls hpos
        injection had with e4 e5 e6
        injection e4 with e4
        subst e4
        subst e6
        have HQ := Lib.hid (HQuo.out w2 HBw2.out s ad mc adh mh hcl2 hhc)
        rw [<- hle] at HQ
        have hst := still_of (a := a) (s := s) (by
          have h1 := HLg.out
          rw [HN.out] at h1 hle
          omega)
        obtain ⟨m1, m2⟩ := quo_canon HNum.out hst
        have hqn : (quo a s).n <= 40 := by
          show (hds a s a.n).length <= 40
          rw [<- HN.out]
          omega
        have HM := Lib.hid (And.intro m1 (And.intro m2 hqn))
        obtain ⟨k0, k1, -, -⟩ := box2_facts HX2.out
        clear hle hlh0 hH2 hhc hcl2 hst m1 m2 hqn e2 e5
        go_wp2_with fail
        go_at_call 111
        refine HQ.out.mono ?_
        rintro e w3 hcd
        obtain ⟨A1, q1, A2, q2, rfl, hoo, hb3⟩ := hcd.shape
        have HO3 := Lib.hid (And.intro hoo hb3)
        obtain ⟨x1, hx1⟩ : ∃ x, x = (fieldsOf (quo a s)).acc.length := ⟨_, rfl⟩
        obtain ⟨x2, hx2⟩ : ∃ x, x = (fieldsOf (quo a s)).nxt.length := ⟨_, rfl⟩
        rw [<- hx1, <- hx2] at HO3 ⊢
        obtain ⟨c0, c1, f0, f1⟩ := box2_facts ((hb3.block _ (blk_lt HY2.out)).trans HY2.out)
        obtain ⟨hcl, hsz, hot, hBl⟩ := put2 (k := .slice A1 x1 q1) (l := .slice A2 x2 q2) c0 c1
        obtain ⟨hc0, hc1⟩ := hcl
        have HOt := Lib.hid (And.intro hsz (And.intro hot hBl))
        clear hsz hot hBl hoo hb3 hcd hx1 hx2 k0 k1
        go_wp2_with fail
        refine bodyPost_ret (v := .tuple #[.agg #[.slice A1 x1 q1, .slice A2 x2 q2], .bool true]) (by simp [results, Tryz.results68, go_sem, hc0, hc1]) rfl ?_
        refine ⟨quo a s, HM.out.1, HM.out.2.1, ?_⟩
        rw [decide_eq_true HM.out.2.2, fitD, if_pos HM.out.2.2]
        have hyl := blk_lt HY0.out
        have hyl2 := blk_lt HY2.out
        have hz2 := HBw2.out.size
        exact ⟨_, _, rfl, HO3.out.1.mono (λ g hg => HOt.out.2.1 g (by have := hg.1; omega)) (λ g hg => ⟨by have := hg.1; omega, by rw [HOt.out.1]; exact hg.2⟩) (by rw [HOt.out.1]; exact Nat.le_refl _), HOt.out.2.2 _ _ (HBw2.out.trans (HO3.out.2.mono hz2)) (Nat.le_succ _)⟩
      . have hb2 : ((lg : Int) == (lh : Int)) = false := by simp; omega
        go_wp2_with fail
        go_roundw
        case rel => exact ⟨r + 1, Lib.hid (HR2.out.1.row.mono (λ _ _ => rfl) (λ _ _ => trivial)), Lib.hid (by
          have h1 := HR2.out.2.row.mono (w' := w2) (S' := λ _ => True) (λ _ _ => rfl) (λ _ _ => trivial)
          rw [HN.out] at h1
          exact h1), HB2, by
          have h1 := HLg.out
          rw [HN.out] at h1
          show (hds a r a.n).length <= 40
          omega⟩
        case measure =>
          simp [lenV]
          have h1 : lh < lg := by
            cases r with
            | zero =>
              have h2 := HLh.out
              simp [hAt] at h2
              omega
            | succ s =>
              have h2 := HLh.out
              have h3 := HLg.out
              simp only [hAt] at h2
              rw [HN.out] at h3
              have h4 := hds_grow (a := a) (s := s) (by omega)
              omega
          omega
end Go.Proofs.YtiijlpmdnokjfaaGreatDoor
namespace Go.Proofs.YtiijlpmdnokjfaaGreatDoor
open Go.RowKit Go.Maps
section
variable {α : Type} [DecidableEq α] [Inhabited α]
def MapOf (kl : α -> Lit) (Ok : α -> Prop) (D : DataW Unit) (l : List α) : Prop :=
  IsMap D /\ ∀ x, Ok x -> Maps.has D (kl x) = decide (x ∈ l) /\ (x ∈ l -> ∀ z, D.atKey (kl x) z = .lit (.int .i64 ((l.idxOf x : Nat) : Int)))
omit [Inhabited α] in
theorem MapOf.nil (kl : α -> Lit) (Ok : α -> Prop) : MapOf kl Ok (.map []) [] := ⟨isMap_empty, λ x _ => ⟨by simp [Maps.has], λ h => by simp at h⟩⟩
omit [Inhabited α] in
theorem MapOf.put {kl : α -> Lit} {Ok : α -> Prop} {D : DataW Unit} {l : List α} (h : MapOf kl Ok D l) (hinj : ∀ x y, Ok x -> Ok y -> kl x = kl y -> x = y) (hkey : ∀ x, Ok x -> WideAt.IsKeyLit (kl x)) {x : α} (hx : Ok x) (hn : x ∉ l) :
    MapOf kl Ok (D.put (kl x) (.lit (.int .i64 ((l.length : Nat) : Int)))) (l ++ [x]) := by
  refine ⟨h.1.put _ _, λ y hy => ?_⟩
  by_cases e : y = x
  . subst e
    refine ⟨by rw [has_put_same h.1 (hkey y hy)]; simp, λ _ z => ?_⟩
    rw [atKey_put_same h.1 (hkey y hy), List.idxOf_append, if_neg hn]
    simp
  . have hne : kl y ≠ kl x := λ e2 => e (hinj y x hy hx e2)
    have hmem : y ∈ l ++ [x] ↔ y ∈ l := by simp [e]
    refine ⟨?_, λ hm z => ?_⟩
    . rw [has_put_other hne, (h.2 y hy).1]
      simp [e]
    . rw [atKey_put_other hne, (h.2 y hy).2 (hmem.1 hm) z, List.idxOf_append, if_pos (hmem.1 hm)]
end
theorem blk_ofz {w : World} {base sz : Nat} {e : TypeId} {v : Value} {n : Nat} {xs : List Value} (h : w.ownsRow base e sz v n xs) {g : Nat} (hg : v.ownBlock = some g) : ∃ cur, w.heap[g]? = some (.cells cur e (0, 0)) := by
  rcases h.2 with ⟨rfl, _⟩ | ⟨g', cap, cur, rfl, _, hh, _⟩
  . simp [Value.ownBlock] at hg
  . simp [Value.ownBlock] at hg
    subst hg
    exact ⟨cur, hh⟩
theorem own_far {w w' : World} {B sz : Nat} {e : TypeId} {v : Value} {n : Nat} {xs : List Value} {row : Option Nat} (h : w.ownsRow B e sz v n xs) (hg : w.grownBy w' row) (hr : ∀ g, row = some g -> ∃ o, w.heap[g]? = some o /\ ∀ cur, o ≠ .cells cur e (0, 0)) : w'.ownsRow B e sz v n xs := by
  refine World.ownsRow.kept h hg ?_
  cases hv : v.ownBlock with
  | none => exact .inl rfl
  | some g =>
    obtain ⟨cur, hh⟩ := blk_ofz h hv
    exact .inr (λ er => by
      obtain ⟨o, ho, hne⟩ := hr g er.symm
      rw [hh] at ho
      cases ho
      exact hne _ rfl)
theorem own_setz {w : World} {B sz : Nat} {e : TypeId} {v : Value} {n : Nat} {xs : List Value} (h : w.ownsRow B e sz v n xs) {p : Addr} (hr : ∃ o, w.heap[p.block]? = some o /\ ∀ cur, o ≠ .cells cur e (0, 0)) (u : Value) : (w.setCell p u).ownsRow B e sz v n xs := by
  refine ownsRow_setCell_other h (λ er => ?_) _
  obtain ⟨cur, hh⟩ := blk_ofz h er
  obtain ⟨o, ho, hne⟩ := hr
  rw [hh] at ho
  cases ho
  exact hne _ rfl
theorem own_cell {w : World} {B sz : Nat} {e : TypeId} {v : Value} {n : Nat} {xs : List Value} (h : w.ownsRow B e sz v n xs) (hn : 0 < n) : ∃ g c, v = .slice (some ⟨g, 0, none⟩) n c /\ B <= g /\ ∀ j, j < n * sz -> w.cell? ⟨g, j, none⟩ = xs[j]? := by
  rcases h.2 with ⟨_, h0⟩ | ⟨g, cap, cur, rfl, hb, hh, h1, _, h2, h3⟩
  . omega
  . refine ⟨g, cap, rfl, hb, λ j hj => ?_⟩
    rw [cell_of_row w g j cur e (0, 0) hh, <- h3, List.getElem?_take_of_lt hj, Array.getElem?_toList]
theorem ne_cells {T T' : TypeId} {cur : Array Value} (h : T ≠ T') : ∀ cur', (Obj.cells cur T (0, 0)) ≠ .cells cur' T' (0, 0) := λ cur' e => by
  injection e with _ e2
  exact h e2
theorem ne_map {T' : TypeId} {es : Array MapEntry} {clock : Nat} : ∀ cur', (Obj.map es clock) ≠ .cells cur' T' (0, 0) := λ cur' e => by cases e
theorem lawInt : Keyed Tryz.prog 3 := int_keyed Tryz.underlying3
theorem zeroInt (w : World) : (zeroValue 3).run Tryz.prog w = .ok (.int .i64 0) w := by kernel_rfl
def klN (x : Nat) : Lit := .int .i64 (x : Int)
theorem klN_inj (x y : Nat) (h : klN x = klN y) : x = y := by
  unfold klN at h
  injection h with _ h
  exact_mod_cast h
theorem klN_wf {x : Nat} (h : x < 9223372036854775807) : (Lit.int .i64 (x : Int)).wf = true := by
  exact WalkArith.wf_i64 (by omega)
theorem klN_key {x : Nat} (h : x < 9223372036854775807) : keyOf Tryz.prog 3 (.int .i64 (x : Int)) = some (klN x) := keyOf_int_mk Tryz.underlying3 (klN_wf h)
end Go.Proofs.YtiijlpmdnokjfaaGreatDoor
namespace Go.Proofs.YtiijlpmdnokjfaaGreatDoor
open Go.RowKit Go.Maps
section
variable {α : Type} [DecidableEq α] [Inhabited α] {s0 : α} {g : α -> Nat -> α}
def keyA (s0 : α) (g : α -> Nat -> α) (i : Nat) : α := (ords s0 g (3 * i)).getD i default
def toA (s0 : α) (g : α -> Nat -> α) (i k : Nat) : Nat := (ords s0 g (3 * i + k + 1)).idxOf (g (keyA s0 g i) k)
theorem keyA_at {i t : Nat} (hi : i < (ords s0 g (3 * i)).length) (ht : 3 * i <= t) : i < (ords s0 g t).length /\ (ords s0 g t).getD i default = keyA s0 g i :=
  ⟨Nat.lt_of_lt_of_le hi (ords_prefix ht).length_le, ords_at ht hi⟩
theorem keyA_step {i k : Nat} (hi : i < (ords s0 g (3 * i)).length) (hk : k < 3) :
    (g (keyA s0 g i) k ∈ ords s0 g (3 * i + k) -> ords s0 g (3 * i + (k + 1)) = ords s0 g (3 * i + k) /\ toA s0 g i k = (ords s0 g (3 * i + k)).idxOf (g (keyA s0 g i) k)) /\
    (g (keyA s0 g i) k ∉ ords s0 g (3 * i + k) -> ords s0 g (3 * i + (k + 1)) = ords s0 g (3 * i + k) ++ [g (keyA s0 g i) k] /\ toA s0 g i k = (ords s0 g (3 * i + k)).length) := by
  have e : (ords s0 g (3 * i + k)).getD i default = keyA s0 g i := ords_at (by omega) hi
  have hs : ords s0 g (3 * i + (k + 1)) = if g (keyA s0 g i) k ∈ ords s0 g (3 * i + k) then ords s0 g (3 * i + k) else ords s0 g (3 * i + k) ++ [g (keyA s0 g i) k] := by
    rw [show 3 * i + (k + 1) = 3 * i + k + 1 by omega, ords, show (3 * i + k) / 3 = i by omega, show (3 * i + k) % 3 = k by omega, e]
  have ht : toA s0 g i k = (ords s0 g (3 * i + (k + 1))).idxOf (g (keyA s0 g i) k) := rfl
  refine ⟨λ hx => ?_, λ hx => ?_⟩
  . rw [if_pos hx] at hs
    exact ⟨hs, by rw [ht, hs]⟩
  . rw [if_neg hx] at hs
    refine ⟨hs, ?_⟩
    rw [ht, hs, List.idxOf_append, if_neg hx]
    simp
theorem found_keyA {N : Nat} (h : Ends s0 g N) (acc : α -> Bool) {i : Nat} (hi : i < N) : (found s0 g acc N).A i = acc (keyA s0 g i) /\ ∀ k, k < 3 -> (found s0 g acc N).T i k = toA s0 g i k := by
  have hk : (ords s0 g (3 * N)).getD i default = keyA s0 g i := ords_at (by omega) (h.on i hi)
  refine ⟨?_, λ k hk3 => ?_⟩
  . show acc _ = _
    rw [hk]
  . obtain ⟨h1, h2⟩ := h.key hi hk3
    show (ords s0 g (3 * N)).idxOf (g ((ords s0 g (3 * N)).getD i default) k) = _
    rw [hk] at h2 ⊢
    exact idx_prefix (ords_prefix (show 3 * i + k + 1 <= 3 * N by omega)) h2
def rowC (s0 : α) (g : α -> Nat -> α) (i : Nat) : List Value := [.int .i64 ((toA s0 g i 0 : Nat) : Int), .int .i64 ((toA s0 g i 1 : Nat) : Int), .int .i64 ((toA s0 g i 2 : Nat) : Int)]
theorem rowC_length (i : Nat) : (rowC s0 g i).length = 3 := rfl
def rowsC (s0 : α) (g : α -> Nat -> α) (n : Nat) : List Value := (List.range n).flatMap (rowC s0 g)
theorem rowsC_succ (n : Nat) : rowsC s0 g (n + 1) = rowsC s0 g n ++ rowC s0 g n := by simp [rowsC, List.range_succ, List.flatMap_append]
theorem rowsC_length : ∀ n, (rowsC s0 g n).length = n * 3
  | 0 => rfl
  | n + 1 => by rw [rowsC_succ, List.length_append, rowsC_length n, rowC_length]; omega
theorem rowsC_at : ∀ (n q k : Nat), q < n -> k < 3 -> (rowsC s0 g n)[q * 3 + k]? = some (.int .i64 ((toA s0 g q k : Nat) : Int))
  | 0, _, _, h, _ => absurd h (Nat.not_lt_zero _)
  | n + 1, q, k, h, hk => by
    rw [rowsC_succ]
    by_cases e : q = n
    . subst e
      rw [List.getElem?_append_right (by rw [rowsC_length]; omega), rowsC_length, Nat.add_sub_cancel_left]
      rcases (show k = 0 \/ k = 1 \/ k = 2 by omega) with rfl | rfl | rfl <;> rfl
    . rw [List.getElem?_append_left (by rw [rowsC_length]; omega)]
      exact rowsC_at n q k (by omega) hk
end
structure ExpS (tE sz B bM bR : Nat) (va vr vo : Value) (accs : List Bool) (i : Nat) (rows : List Value) (m : Nat) (xs : List Value) (mm : Nat) (D : DataW Unit) (w : World) : Prop where
  acc : w.ownsRow B 4 1 va accs.length (bools accs)
  row : w.ownsRow B 153 3 vr i rows
  ord : w.ownsRow B tE sz vo m xs
  map : w.ownsMap Tryz.prog tE (plainElem Tryz.prog 3) bM mm D
  box : w.heap[bR]? = some (.cells #[va, vr] 107 (0, 0))
  low : B <= bR /\ B <= bM
  ne : tE ≠ 4 /\ tE ≠ 153 /\ tE ≠ 107
section
variable {tE sz B bM bR : Nat} {va vr vo : Value} {accs : List Bool} {i : Nat} {rows : List Value} {m : Nat} {xs : List Value} {mm : Nat} {D : DataW Unit} {w w' : World}
theorem ExpS.mapB (h : ExpS tE sz B bM bR va vr vo accs i rows m xs mm D w) : ∃ es clock, w.heap[bM]? = some (.map es clock) := by
  obtain ⟨es, clock, hb, _⟩ := h.map
  exact ⟨es, clock, hb⟩
theorem ExpS.below (h : ExpS tE sz B bM bR va vr vo accs i rows m xs mm D w) (hb : Below w.heap.size w w') : ExpS tE sz B bM bR va vr vo accs i rows m xs mm D w' := by
  have hg := grown_of hb
  exact ⟨own_far h.acc hg (λ g e => by cases e), own_far h.row hg (λ g e => by cases e), own_far h.ord hg (λ g e => by cases e), h.map.kept hg (by simp), (hb.block _ (blk_lt h.box)).trans h.box, h.low, h.ne⟩
theorem ExpS.base (h : ExpS tE sz B bM bR va vr vo accs i rows m xs mm D w) : B < w.heap.size := Nat.lt_of_le_of_lt h.low.1 (blk_lt h.box)
theorem ExpS.map_put {D' : DataW Unit} (h : ExpS tE sz B bM bR va vr vo accs i rows m xs mm D w) (hm : w'.ownsMap Tryz.prog tE (plainElem Tryz.prog 3) bM (mm + 1) D') (hg : w.grownBy w' (some bM)) : ExpS tE sz B bM bR va vr vo accs i rows m xs (mm + 1) D' w' := by
  obtain ⟨es, clock, hb⟩ := h.mapB
  have hr : ∀ e g, some bM = some g -> ∃ o, w.heap[g]? = some o /\ ∀ cur, o ≠ .cells cur e (0, 0) := λ e g eg => by cases eg; exact ⟨_, hb, ne_map⟩
  exact ⟨own_far h.acc hg (hr _), own_far h.row hg (hr _), own_far h.ord hg (hr _), hm, (hg.block _ (blk_lt h.box) (λ e => by
    injection e with e
    have := h.box
    rw [e, hb] at this
    cases this)).trans h.box, h.low, h.ne⟩
theorem ExpS.ord_push {vo' : Value} {m' : Nat} {xs' : List Value} (h : ExpS tE sz B bM bR va vr vo accs i rows m xs mm D w) (ho : w'.ownsRow B tE sz vo' m' xs') (hg : w.grownBy w' vo.ownBlock) : ExpS tE sz B bM bR va vr vo' accs i rows m' xs' mm D w' := by
  have hr : ∀ e, tE ≠ e -> ∀ g, vo.ownBlock = some g -> ∃ o, w.heap[g]? = some o /\ ∀ cur, o ≠ .cells cur e (0, 0) := λ e hne g eg => by
    obtain ⟨cur, hh⟩ := blk_ofz h.ord eg
    exact ⟨_, hh, ne_cells hne⟩
  obtain ⟨es, clock, hb⟩ := h.mapB
  refine ⟨own_far h.acc hg (hr _ h.ne.1), own_far h.row hg (hr _ h.ne.2.1), ho, h.map.kept hg (λ e => ?_), (hg.block _ (blk_lt h.box) (λ e => ?_)).trans h.box, h.low, h.ne⟩
  . obtain ⟨cur, hh⟩ := blk_ofz h.ord e.symm
    rw [hb] at hh
    cases hh
  . obtain ⟨cur, hh⟩ := blk_ofz h.ord e.symm
    rw [h.box] at hh
    cases hh
    exact h.ne.2.2 rfl
def ExpN (B bM bR : Nat) (va vr vo : Value) (g : Nat) : Prop := va.ownBlock ≠ some g /\ vr.ownBlock ≠ some g /\ vo.ownBlock ≠ some g /\ bM ≠ g /\ bR ≠ g /\ B <= g
theorem ExpS.fresh (h : ExpS tE sz B bM bR va vr vo accs i rows m xs mm D w) {g : Nat} (hg : w.heap.size <= g) : ExpN B bM bR va vr vo g :=
  ⟨λ e => by have := (h.acc.lt g e).2; omega, λ e => by have := (h.row.lt g e).2; omega, λ e => by have := (h.ord.lt g e).2; omega, λ e => by have := h.map.lt; omega, λ e => by have := blk_lt h.box; omega, by have := h.base; omega⟩
theorem ExpS.set (h : ExpS tE sz B bM bR va vr vo accs i rows m xs mm D w) {g o : Nat} (hn : ExpN B bM bR va vr vo g) (u : Value) : ExpS tE sz B bM bR va vr vo accs i rows m xs mm D (w.setCell ⟨g, o, none⟩ u) :=
  ⟨ownsRow_setCell_other h.acc hn.1 _, ownsRow_setCell_other h.row hn.2.1 _, ownsRow_setCell_other h.ord hn.2.2.1 _, h.map.setCell hn.2.2.2.1 _, (Below.heap_setCell _ _ _ _ hn.2.2.2.2.1).trans h.box, h.low, h.ne⟩
theorem ExpS.notAcc (h : ExpS tE sz B bM bR va vr vo accs i rows m xs mm D w) : ∀ e, e ≠ 4 -> ∀ g, va.ownBlock = some g -> ∃ o, w.heap[g]? = some o /\ ∀ cur, o ≠ .cells cur e (0, 0) := λ e hne g eg => by
  obtain ⟨cur, hh⟩ := blk_ofz h.acc eg
  exact ⟨_, hh, ne_cells hne.symm⟩
theorem ExpS.notRow (h : ExpS tE sz B bM bR va vr vo accs i rows m xs mm D w) : ∀ e, e ≠ 153 -> ∀ g, vr.ownBlock = some g -> ∃ o, w.heap[g]? = some o /\ ∀ cur, o ≠ .cells cur e (0, 0) := λ e hne g eg => by
  obtain ⟨cur, hh⟩ := blk_ofz h.row eg
  exact ⟨_, hh, ne_cells hne.symm⟩
theorem ExpS.acc_push {va' : Value} {b : Bool} (h : ExpS tE sz B bM bR va vr vo accs i rows m xs mm D w) (hown : w'.ownsRow B 4 1 va' (accs.length + 1) (bools accs ++ [.bool b])) (hg : w.grownBy w' va.ownBlock) :
    (∃ x, w'.cell? ⟨bR, 0, none⟩ = some x) /\ w'.frozen? ⟨bR, 0, none⟩ = false /\ ExpS tE sz B bM bR va' vr vo (accs ++ [b]) i rows m xs mm D (w'.setCell ⟨bR, 0, none⟩ va') := by
  obtain ⟨es, clock, hb⟩ := h.mapB
  have hbox : w'.heap[bR]? = some (.cells #[va, vr] 107 (0, 0)) := (hg.block _ (blk_lt h.box) (λ e => by
    obtain ⟨cur, hh⟩ := blk_ofz h.acc e.symm
    rw [h.box] at hh
    cases hh)).trans h.box
  obtain ⟨c0, c1, f0, f1⟩ := box2_facts hbox
  have hs : ∀ e, e ≠ 107 -> ∃ o, w'.heap[(⟨bR, 0, none⟩ : Addr).block]? = some o /\ ∀ cur, o ≠ .cells cur e (0, 0) := λ e he => ⟨_, hbox, ne_cells he.symm⟩
  have hmk : w'.ownsMap Tryz.prog tE (plainElem Tryz.prog 3) bM mm D := h.map.kept hg (λ e => by
    obtain ⟨cur, hh⟩ := blk_ofz h.acc e.symm
    rw [hb] at hh
    cases hh)
  refine ⟨⟨_, c0⟩, f0, ?_, own_setz (own_far h.row hg (h.notAcc _ (by decide))) (hs _ (by decide)) _, own_setz (own_far h.ord hg (h.notAcc _ h.ne.1)) (hs _ h.ne.2.2) _, hmk.setCell (λ e => ?_) _, heap_setCell_same w' bR 0 _ _ va' hbox, h.low, h.ne⟩
  . have e : bools (accs ++ [b]) = bools accs ++ [.bool b] := by simp [bools]
    rw [e, List.length_append]
    exact own_setz hown (hs _ (by decide)) _
  . have e' : bM = bR := e
    obtain ⟨es', clock', hb', _⟩ := hmk
    rw [e', hbox] at hb'
    cases hb'
theorem ExpS.row_push {vr' : Value} {i' : Nat} {rows' : List Value} (h : ExpS tE sz B bM bR va vr vo accs i rows m xs mm D w) (hown : w'.ownsRow B 153 3 vr' i' rows') (hg : w.grownBy w' vr.ownBlock) :
    (∃ x, w'.cell? ⟨bR, 1, none⟩ = some x) /\ w'.frozen? ⟨bR, 1, none⟩ = false /\ ExpS tE sz B bM bR va vr' vo accs i' rows' m xs mm D (w'.setCell ⟨bR, 1, none⟩ vr') := by
  obtain ⟨es, clock, hb⟩ := h.mapB
  have hbox : w'.heap[bR]? = some (.cells #[va, vr] 107 (0, 0)) := (hg.block _ (blk_lt h.box) (λ e => by
    obtain ⟨cur, hh⟩ := blk_ofz h.row e.symm
    rw [h.box] at hh
    cases hh)).trans h.box
  obtain ⟨c0, c1, f0, f1⟩ := box2_facts hbox
  have hs : ∀ e, e ≠ 107 -> ∃ o, w'.heap[(⟨bR, 1, none⟩ : Addr).block]? = some o /\ ∀ cur, o ≠ .cells cur e (0, 0) := λ e he => ⟨_, hbox, ne_cells he.symm⟩
  have hmk : w'.ownsMap Tryz.prog tE (plainElem Tryz.prog 3) bM mm D := h.map.kept hg (λ e => by
    obtain ⟨cur, hh⟩ := blk_ofz h.row e.symm
    rw [hb] at hh
    cases hh)
  refine ⟨⟨_, c1⟩, f1, own_setz (own_far h.acc hg (h.notRow _ (by decide))) (hs _ (by decide)) _, own_setz hown (hs _ (by decide)) _, own_setz (own_far h.ord hg (h.notRow _ h.ne.2.1)) (hs _ h.ne.2.2) _, hmk.setCell (λ e => ?_) _, heap_setCell_same w' bR 1 _ _ vr' hbox, h.low, h.ne⟩
  have e' : bM = bR := e
  obtain ⟨es', clock', hb', _⟩ := hmk
  rw [e', hbox] at hb'
  cases hb'
end
def Arr3 (w : World) (b : Nat) (f : Nat -> Value) : Prop := w.heap[b]? = some (.cells #[f 0, f 1, f 2] 153 (0, 0))
theorem Arr3.same {w w' : World} {b : Nat} {f : Nat -> Value} (h : Arr3 w b f) (hs : w'.heap[b]? = w.heap[b]?) : Arr3 w' b f := hs.trans h
theorem Arr3.facts {w : World} {b : Nat} {f : Nat -> Value} (h : Arr3 w b f) {k : Nat} (hk : k < 3) : w.cell? ⟨b, k, none⟩ = some (f k) /\ w.frozen? ⟨b, k, none⟩ = false := by
  refine ⟨(cell_of_row w _ k _ _ (0, 0) h).trans ?_, frozen_of_row w _ k _ _ h⟩
  rcases (show k = 0 \/ k = 1 \/ k = 2 by omega) with rfl | rfl | rfl <;> rfl
theorem Arr3.set {w : World} {b : Nat} {f : Nat -> Value} (h : Arr3 w b f) {k : Nat} (hk : k < 3) {u : Value} {f' : Nat -> Value} (hu : f' k = u) (ho : ∀ j, j < 3 -> j ≠ k -> f' j = f j) : Arr3 (w.setCell ⟨b, k, none⟩ u) b f' := by
  have h1 := heap_setCell_same w b k _ _ u h
  unfold Arr3
  rw [h1]
  rcases (show k = 0 \/ k = 1 \/ k = 2 by omega) with rfl | rfl | rfl
  . rw [hu, ho 1 (by omega) (by omega), ho 2 (by omega) (by omega)]; rfl
  . rw [hu, ho 0 (by omega) (by omega), ho 2 (by omega) (by omega)]; rfl
  . rw [hu, ho 0 (by omega) (by omega), ho 1 (by omega) (by omega)]; rfl
theorem Arr3.lt {w : World} {b : Nat} {f : Nat -> Value} (h : Arr3 w b f) : b < w.heap.size := blk_lt h
def cutV (t : Nat -> Nat) (k j : Nat) : Value := if j < k then .int .i64 ((t j : Nat) : Int) else .int .i64 0
theorem cutV_step (t : Nat -> Nat) (k : Nat) : cutV t (k + 1) k = .int .i64 ((t k : Nat) : Int) /\ ∀ j, j ≠ k -> cutV t (k + 1) j = cutV t k j := by
  refine ⟨by simp [cutV], λ j hj => ?_⟩
  unfold cutV
  by_cases h : j < k
  . rw [if_pos h, if_pos (by omega)]
  . rw [if_neg h, if_neg (by omega)]
theorem step_call_val {P : Program} {ops : Array Oper} {o : Oper} {a : Act} {w : World} {K : Act -> World -> Prop} {Q : Exit -> Act -> World -> Prop} {E : Prop}
    (hg : o.guard = none) (fo : Operand) (args : Array Operand) (ts : Array TypeId) (hop : o.op = Op.call { callee := Callee.value fo, args := args, argTypes := ts }) (f : FuncId) (lb : Array Value) (hf : a.eval fo = .func (.func f) #[] lb) (hent : ∀ args w, (callFunc f args).run P w = .ok (.enter f args) w)
    (vs : Array Value) (hvs : args.map a.eval = vs) {R : Ending -> World -> Prop} (hC : Calls P f (vs ++ lb) w R) (hR : ∀ e w', R e w' -> ∃ v, e = .returned v /\ K (a.put o.dst v) w') :
    if Region.wanted o (yielded ops a.tmps) = true then Oper.wp P o a w K Q else E := by
  rw [if_pos (by simp [Region.wanted, hg])]
  unfold Oper.wp
  have hrun : (execOp a.eval o).run P w = .ok (.enter f (vs ++ lb)) w := by
    simp [execOp, hop, resolve, invoke, hf, Deferred.ofValue, hent, <- hvs]
  rw [hrun, Oper.upon_enter]
  refine hC.mono λ e w' h => ?_
  obtain ⟨v, rfl, hk⟩ := hR e w' h
  exact hk
theorem wpList_insert_own {H : Type} {P : Program} (w : World) {ops : Array Oper} {rest : List Oper} {o : Oper} {a : Act} {Q : Exit -> Act -> World -> Prop}
    (hg : o.guard = none) (m x v : Operand) (t : TypeId) (hop : o.op = Op.insert t m x v)
    (k e : TypeId) (K : Keyed P k) (ht : P.underlying t = some (.map k e)) (R : Value -> Option (DataW H × List MemPlace)) (b n : Nat) (D : DataW H)
    (hm : a.eval m = .map (some b)) (hown : w.ownsMap P k R b n D) (hn : n < maxLen) (key val : Value) (kl : Lit) (hx : a.eval x = key) (hv : a.eval v = val) (hkey : keyOf P k key = some kl)
    (d : DataW H) (ps : List MemPlace) (hval : R val = some (d, ps))
    (hK : ∀ w', w'.ownsMap P k R b (n + 1) (D.put kl d) -> w.grownBy w' (some b) -> wpList P ops Q rest (a.put o.dst undef) w') :
    wpList P ops Q (o :: rest) a w := by
  refine wpList_plain hg λ K' hK' => ?_
  obtain ⟨w', hrun, h1, h2⟩ := hown.update K ht hn hkey hval
  unfold Oper.wp
  simp [execOp, hop, hm, hx, hv, hrun, Result.andThen]
  exact hK' _ _ (hK w' h1 h2)
section
variable {α : Type} [DecidableEq α] [Inhabited α]
def ExpPost (x0 : α) (T : α -> Nat -> α) (acc : α -> Bool) (M : Nat) (w : World) (e : Ending) (w' : World) : Prop :=
  (∃ N va vr, Ends x0 T N /\ N <= M /\ e = .returned (.tuple #[.agg #[va, vr], .bool true]) /\ AutoV w' va vr (found x0 T acc N) /\ Below w.heap.size w w') \/
  ((∀ N, N <= M -> ¬ Ends x0 T N) /\ e = .returned (.tuple #[.agg #[.slice none 0 0, .slice none 0 0], .bool false]) /\ Below w.heap.size w w')
theorem ords_ok {s0 : α} {g : α -> Nat -> α} {Ok : α -> Prop} (h0 : Ok s0) (hg : ∀ x k, Ok x -> k < 3 -> Ok (g x k)) {i : Nat} (ha : ∀ j, j < i -> j < (ords s0 g (3 * j)).length) : ∀ t, t <= 3 * i -> ∀ x ∈ ords s0 g t, Ok x := by
  intro t
  induction t with
  | zero => intro _ x hx; simp [ords] at hx; rw [hx]; exact h0
  | succ t ih =>
    intro ht x hx
    have hd : Ok ((ords s0 g t).getD (t / 3) default) := by
      refine ih (by omega) _ (getD_mem ?_)
      have h1 := ha (t / 3) (by omega)
      have h2 := (ords_prefix (s0 := s0) (g := g) (show 3 * (t / 3) <= t by omega)).length_le
      omega
    rw [ords] at hx
    split at hx
    . exact ih (by omega) x hx
    . rcases List.mem_append.1 hx with hx | hx
      . exact ih (by omega) x hx
      . rw [List.mem_singleton] at hx
        rw [hx]
        exact hg _ _ hd (by omega)
theorem exp_big {s0 : α} {g : α -> Nat -> α} {i k M : Nat} (ha : ∀ j, j < i + 1 -> j < (ords s0 g (3 * j)).length) (hk : k < 3) (hb : (ords s0 g (3 * i + (k + 1))).length = M + 1) : ∀ N, N <= M -> ¬ Ends s0 g N := λ N hN => by
  refine Ends.not_big (M := M) (i := i) (λ j hj => ha j (by omega)) ?_ hN
  have := (ords_prefix (s0 := s0) (g := g) (show 3 * i + (k + 1) <= 3 * (i + 1) by omega)).length_le
  omega
end
theorem newB3 (w : World) (x y z : Value) (t : TypeId) : ∀ (j : Nat) (u : Value), [x, y, z][j]? = some u -> (w.alloc (.cells #[x, y, z] t)).cell? ((⟨w.heap.size, 0, none⟩ : Addr).add j) = some u := by
  intro j u h
  rw [Addr.add_lit]
  match j, h with
  | 0, h => cases h; simp
  | 1, h => cases h; simp
  | 2, h => cases h; simp
theorem newB2 (w : World) (x y : Value) (t : TypeId) : ∀ (j : Nat) (u : Value), [x, y][j]? = some u -> (w.alloc (.cells #[x, y] t)).cell? ((⟨w.heap.size, 0, none⟩ : Addr).add j) = some u := by
  intro j u h
  rw [Addr.add_lit]
  match j, h with
  | 0, h => cases h; simp
  | 1, h => cases h; simp
end Go.Proofs.YtiijlpmdnokjfaaGreatDoor
namespace Go.Proofs.YtiijlpmdnokjfaaGreatDoor
open Go.RowKit
def okC (na nb : Nat) (x : Nat × List Nat) : Prop := x.1 < na /\ x.2.Pairwise (· < ·) /\ ∀ q ∈ x.2, q < nb
def okR (nb : Nat) (x : Bool × List Nat) : Prop := x.2.Pairwise (· < ·) /\ ∀ q ∈ x.2, q < nb
theorem catG_ok {a b : Au} {na n k : Nat} (hn0 : 0 < n) (ha : ∀ q, q < na -> a.T q k < na) (hw : ∀ q, q < n -> b.T q k < n) {x : Nat × List Nat} (hx : okC na n x) : okC na n (catG a b x k) := by
  obtain ⟨h1, -, h2⟩ := hx
  have hmv : ∀ q ∈ moveS b x.2 k, q < n := λ q hq => by
    obtain ⟨p', h1, rfl⟩ := mem_move.1 hq
    exact hw p' (h2 p' h1)
  unfold catG okC
  dsimp only
  refine ⟨ha _ h1, ?_⟩
  split
  . refine ⟨putS_asc (move_asc _ _ _), λ q hq => ?_⟩
    rcases mem_putS.1 hq with rfl | hq
    . exact hn0
    . exact hmv q hq
  . exact ⟨move_asc _ _ _, hmv⟩
theorem catS_ok {a : Au} {na n : Nat} (ha : 0 < na) (hn : 0 < n) : okC na n (catS a) := by
  unfold catS okC
  dsimp only
  refine ⟨ha, ?_⟩
  split
  . exact ⟨by simp, λ q hq => by simp at hq; omega⟩
  . exact ⟨by simp, λ q hq => by simp at hq⟩
theorem starG_ok {b : Au} {n k : Nat} (hn0 : 0 < n) (hw : ∀ q, q < n -> b.T q k < n) {x : Bool × List Nat} (hx : okR n x) : okR n (starG b x k) := by
  obtain ⟨-, h2⟩ := hx
  have hmv : ∀ q ∈ moveS b x.2 k, q < n := λ q hq => by
    obtain ⟨p', h1, rfl⟩ := mem_move.1 hq
    exact hw p' (h2 p' h1)
  unfold starG okR
  dsimp only
  split
  . refine ⟨putS_asc (move_asc _ _ _), λ q hq => ?_⟩
    rcases mem_putS.1 hq with rfl | hq
    . exact hn0
    . exact hmv q hq
  . exact ⟨move_asc _ _ _, hmv⟩
end Go.Proofs.YtiijlpmdnokjfaaGreatDoor
