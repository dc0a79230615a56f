/-
  What impl.quotient answers: the automaton of the classes.
  What impl.minimize answers: the minimal automaton, where it has not too many states.
-/
import Derived.Test.YthmfncklepkddaaRefI
import Derived.Test.YthmfncklepkddaaMinS
import Derived.Test.YthmfncklepkddaaShelf
import Derived.Test.YthmfncklepkddaaMinW
namespace Go.Proofs.Ythmfncklepkddaa
open Go.RowKit

theorem enters_clone (args : Array Value) (w : World) : (callFunc 129 args).run Try.prog w = .ok (.enter 129 args) w := enters_of Try.func129 (by kernel_rfl) rfl args w
/-- A copy of three numbers. -/
def Clone3 (y0 y1 y2 : Int) (w : World) (e : Ending) (w' : World) : Prop := ∃ g c, e = .returned (.slice (some ⟨g, 0, none⟩) 3 c) ∧ IR w' w.heap.size (.slice (some ⟨g, 0, none⟩) 3 c) [y0, y1, y2] ∧ Below w.heap.size w w'
theorem libClone3 (bx : Nat) (y0 y1 y2 : Int) (T : TypeId) (w : World) (h : Bx3 w bx (.int .i64 y0) (.int .i64 y1) (.int .i64 y2) T) :
    Calls Try.prog 129 #[.slice (some ⟨bx, 0, none⟩) 3 3] w (Clone3 y0 y1 y2 w) := by
  refine (Try.slices_Clone_int bx 0 3 3 [y0, y1, y2] w (Nat.le_refl _) (by decide) (fun j hj => ?_)).mono ?_
  · obtain ⟨⟨c0, c1, c2⟩, -⟩ := h.facts
    have hj3 : j < 3 := hj
    rcases (show j = 0 ∨ j = 1 ∨ j = 2 by omega) with rfl | rfl | rfl
    · exact c0
    · exact c1
    · exact c2
  · rintro e w' ⟨v', rfl, hown, -, hb⟩
    obtain ⟨g, c, rfl⟩ := own_succ (k := 2) hown
    exact ⟨g, c, rfl, hown, hb⟩

theorem IR.lower {w : World} {B B' : Nat} {v : Value} {l : List Int} (h : IR w B' v l) (hB : B ≤ B') : IR w B v l := by
  obtain ⟨h1, h2⟩ := h
  refine ⟨h1, ?_⟩
  rcases h2 with h2 | ⟨g, cap, cur, e, hg, r⟩
  · exact .inl h2
  · exact .inr ⟨g, cap, cur, e, Nat.le_trans hB hg, r⟩
/-- A row of the classes' automaton. -/
def rowQ (a : Au) (s i : Nat) : List Int := (List.range 3).map fun k => (((quo a s).T i k : Nat) : Int)

set_option maxRecDepth 100000 in
set_option maxHeartbeats 6400000 in
theorem implQuo_any (va vr : Value) (a : Au) (s : Nat) (ad : Addr) (cc : Nat) (adh : Addr) (ch : Nat) (w : World) (hw : a.wf) (hn : a.n ≤ 2000) (h : AutoV w va vr a)
    (hC : ∀ q, q < a.n → w.cell? (ad.add q) = some (.int .i64 ((col a (s + 1) q : Nat) : Int)))
    (hH : ∀ i, i < (hds a s a.n).length → w.cell? (adh.add i) = some (.int .i64 (((hds a s a.n).getD i default : Nat) : Int))) :
    Calls Try.prog 124 #[.agg #[va, vr], .slice (some ad) a.n cc, .slice (some adh) (hds a s a.n).length ch] w (CopyD (fieldsOf (quo a s)) w) := by
  obtain ⟨i0, hi, hz0, hz1, hz2⟩ := info_parts intInfo
  obtain ⟨b0, hbi, hb0, hb1, hb2⟩ := info_parts boolInfo
  obtain ⟨r0, hri, hr0, hr1, hr2⟩ := info_parts rowInfo
  obtain ⟨ga, ca, gr, cr, rfl, rfl, hA, hT⟩ := h
  obtain ⟨n, hne⟩ : ∃ n, n = a.n := ⟨_, rfl⟩
  obtain ⟨N, hNe⟩ : ∃ N, N = (hds a s a.n).length := ⟨_, rfl⟩
  obtain ⟨H, hHe⟩ : ∃ H : Nat → Nat, H = fun i => (hds a s a.n).getD i default := ⟨_, rfl⟩
  have hNn : N ≤ n := by rw [hNe, hne]; exact hds_len_le a s a.n
  have HHlt : Hid (∀ i, i < N → H i < n) := Lib.hid (fun i hi => by rw [hHe, hne]; exact (hds_at (by rw [← hNe]; exact hi)).1)
  have HHead : Hid (∀ i, i < N → w.cell? (adh.add i) = some (.int .i64 ((H i : Nat) : Int))) := Lib.hid (by rw [hHe, hNe]; exact hH)
  have HWf : Hid (∀ x k, x < n → k < 3 → a.T x k < n) := Lib.hid (by rw [hne]; exact hw.2)
  have HT : Hid (∀ q, q < n → ∀ k, k < 3 → w.cell? ⟨gr, q * 3 + k, none⟩ = some (.int .i64 ((a.T q k : Nat) : Int))) := Lib.hid (by rw [hne]; exact hT)
  have HA : Hid (∀ q, q < n → w.cell? ⟨ga, q, none⟩ = some (.bool (a.A q))) := Lib.hid (by rw [hne]; exact hA)
  have HC : Hid (∀ q, q < n → w.cell? (ad.add q) = some (.int .i64 ((col a (s + 1) q : Nat) : Int))) := Lib.hid (by rw [hne]; exact hC)
  have HRow : Hid (∀ i, rowQ a s i = [((col a (s + 1) (a.T (H i) 0) : Nat) : Int), ((col a (s + 1) (a.T (H i) 1) : Nat) : Int), ((col a (s + 1) (a.T (H i) 2) : Nat) : Int)]) := Lib.hid (fun i => by rw [hHe]; rfl)
  have HFa : Hid (accOf (quo a s) = (List.range N).map fun i => a.A (H i)) := Lib.hid (by rw [hNe, hHe]; rfl)
  have HFn : Hid (nxtOf (quo a s) = (List.range N).map fun i => rowQ a s i) := Lib.hid (by rw [hNe]; rfl)
  rw [← hne] at hn
  rw [← hNe, ← hne]
  clear hC hH hA hT hne hNe hHe hw
  obtain ⟨W2, hW2⟩ : ∃ W2, W2 = (w.alloc (.cells #[.slice (some ⟨ga, 0, none⟩) n ca, .slice (some ⟨gr, 0, none⟩) n cr] 98)).alloc (.cells #[.slice none 0 0, .slice none 0 0] 27) := ⟨_, rfl⟩
  have HB2 : Hid (Below w.heap.size w W2) := Lib.hid (by rw [hW2]; exact ((Below.refl _ _).alloc (Nat.le_refl _) _).alloc (by simp) _)
  have HX2 : Hid (W2.heap[w.heap.size]? = some (.cells #[.slice (some ⟨ga, 0, none⟩) n ca, .slice (some ⟨gr, 0, none⟩) n cr] 98 (0, 0))) := Lib.hid (by
    rw [hW2]
    exact (Below.heap_alloc _ _ _ (by simp)).trans (heap_alloc_new w _))
  have HY2 : Hid (W2.heap[w.heap.size + 1]? = some (.cells #[.slice none 0 0, .slice none 0 0] 27 (0, 0))) := Lib.hid (by rw [hW2]; exact three2 w _ _ _ _)
  obtain ⟨B, hB⟩ : ∃ B, B = W2.heap.size := ⟨_, rfl⟩
  obtain ⟨W3, hW3⟩ : ∃ W3, W3 = W2.alloc (.cells #[.slice none 0 0, .slice none 0 0] 27) := ⟨_, rfl⟩
  have HS : Hid (Out B W3 B (.slice none 0 0) (.slice none 0 0) [] [] [] (fun _ _ => False) ∧ Below B W2 W3) := Lib.hid (by
    rw [hW3, hB]
    exact ⟨Out.start W2 (Nat.le_refl _), (Below.refl _ _).alloc (Nat.le_refl _) _⟩)
  have hBs : B = w.heap.size + 1 + 1 := by rw [hB, hW2]; simp
  have HBs := Lib.hid (And.intro hB hBs)
  clear hB hBs
  go_enter Try.func124, Try.ntmps124
  go_wp2_with fail
  rw [← hW2, ← hW3, ← HBs.out.2]
  clear hW2 hW3
  go_loopw [13] (fun iv wr => ∃ (i : Nat) (va' vn' : Value) (us : List Value) (K : Nat → Nat → Prop), iv = .int .i64 i ∧ i ≤ N ∧ us.length = i ∧ Hid (Below B W2 wr) ∧ Hid (Out B wr B va' vn' ((List.range i).map fun j => a.A (H j)) us ((List.range i).map fun j => ints (rowQ a s j)) K)) (fun iv _ => N - (intOf iv).toNat)
  case atStart => exact ⟨0, _, _, [], _, rfl, Nat.zero_le _, rfl, Lib.hid HS.out.2, Lib.hid HS.out.1⟩
  case round =>
    obtain ⟨i, va', vn', us, K, rfl, hin, hus, HBr, HO⟩ := hrel
    clear HS
    by_cases hlt : i < N
    · have hhd := HHead.out i hlt
      have hhn := HHlt.out i hlt
      obtain ⟨h, hh⟩ : ∃ h, h = H i := ⟨_, rfl⟩
      rw [← hh] at hhd hhn
      have HHh := Lib.hid hh
      clear hh
      have upB : Hid (Below w.heap.size w wr) := Lib.hid (HB2.out.trans (HBr.out.mono (by have := HBs.out.2; omega)))
      have ghd := (upB.out.cell (cell_in hhd)).trans hhd
      have ht0 := (upB.out.cell (cell_in (HT.out h hhn 0 (by omega)))).trans (HT.out h hhn 0 (by omega))
      have ht1 := (upB.out.cell (cell_in (HT.out h hhn 1 (by omega)))).trans (HT.out h hhn 1 (by omega))
      have ht2 := (upB.out.cell (cell_in (HT.out h hhn 2 (by omega)))).trans (HT.out h hhn 2 (by omega))
      rw [Nat.add_zero] at ht0
      have hx0 := HWf.out h 0 hhn (by omega)
      have hx1 := HWf.out h 1 hhn (by omega)
      have hx2 := HWf.out h 2 hhn (by omega)
      obtain ⟨x0, hx0e⟩ : ∃ x0, x0 = a.T h 0 := ⟨_, rfl⟩
      obtain ⟨x1, hx1e⟩ : ∃ x1, x1 = a.T h 1 := ⟨_, rfl⟩
      obtain ⟨x2, hx2e⟩ : ∃ x2, x2 = a.T h 2 := ⟨_, rfl⟩
      rw [← hx0e] at hx0 ht0
      rw [← hx1e] at hx1 ht1
      rw [← hx2e] at hx2 ht2
      have HAf := Lib.hid (implAfter_any x0 x1 x2 ad n cc (col a (s + 1)) wr hx0 hx1 hx2 (fun p hp => (upB.out.cell (cell_in (HC.out p hp))).trans (HC.out p hp)))
      obtain ⟨y0, hy0⟩ : ∃ y : Int, y = ((col a (s + 1) x0 : Nat) : Int) := ⟨_, rfl⟩
      obtain ⟨y1, hy1⟩ : ∃ y : Int, y = ((col a (s + 1) x1 : Nat) : Int) := ⟨_, rfl⟩
      obtain ⟨y2, hy2⟩ : ∃ y : Int, y = ((col a (s + 1) x2 : Nat) : Int) := ⟨_, rfl⟩
      rw [← hy0, ← hy1, ← hy2] at HAf
      have HY : Hid (rowQ a s i = [y0, y1, y2]) := Lib.hid (by rw [HRow.out, hy0, hy1, hy2, hx0e, hx1e, hx2e, HHh.out])
      have hbl : w.heap.size < B := by have := HBs.out.2; omega
      have HXr : Hid (wr.heap[w.heap.size]? = some (.cells #[.slice (some ⟨ga, 0, none⟩) n ca, .slice (some ⟨gr, 0, none⟩) n cr] 98 (0, 0))) := Lib.hid ((HBr.out.block _ hbl).trans HX2.out)
      obtain ⟨k0, k1, -, -⟩ := box2_facts HXr.out
      have s0 : (h : Int) < (n : Int) := by omega
      have s1 : (0 : Int) ≤ (h : Int) := by omega
      clear hx0e hx1e hx2e hy0 hy1 hy2 hx0 hx1 hx2 hhd
      go_wp2_with fail
      go_at_call 126
      refine HAf.out.mono ?_
      rintro e w5 ⟨rfl, hb5⟩
      go_upto_region 6 with fail
      obtain ⟨bx, hbx⟩ : ∃ bx, bx = w5.heap.size := ⟨_, rfl⟩
      obtain ⟨V6, hV6⟩ : ∃ V6, V6 = w5.alloc (.cells #[.int .i64 y0, .int .i64 y1, .int .i64 y2] 115) := ⟨_, rfl⟩
      rw [← hV6, ← hbx]
      have h6 : Below wr.heap.size wr V6 := by rw [hV6]; exact hb5.alloc hb5.size _
      have HX6 : Hid (Bx3 V6 bx (.int .i64 y0) (.int .i64 y1) (.int .i64 y2) 115) := Lib.hid (by rw [hV6, hbx]; exact Bx3.new w5 _ _ _ _)
      obtain ⟨accs, hacc⟩ : ∃ accs, accs = (List.range i).map fun j => a.A (H j) := ⟨_, rfl⟩
      obtain ⟨rss, hrss⟩ : ∃ rss, rss = (List.range i).map fun j => ints (rowQ a s j) := ⟨_, rfl⟩
      rw [← hacc, ← hrss] at HO
      have hbn : accs.length ≤ 2000 := by rw [hacc]; simp; omega
      have HAc := Lib.hid (And.intro hacc hrss)
      have HO6 := Lib.hid (HO.out.below h6)
      have HB6 := Lib.hid (HBr.out.trans (h6.mono (Nat.le_trans (Nat.le_of_eq HBs.out.1) HBr.out.size)))
      have hAh := HA.out h hhn
      obtain ⟨b, hb⟩ : ∃ b, b = a.A h := ⟨_, rfl⟩
      rw [← hb] at hAh
      have HBb := Lib.hid hb
      have hA6 := (h6.cell (cell_in ((upB.out.cell (cell_in hAh)).trans hAh))).trans ((upB.out.cell (cell_in hAh)).trans hAh)
      obtain ⟨m0, -, -, -⟩ := box2_facts ((h6.block _ (by have := (Array.getElem?_eq_some_iff.1 HXr.out).1; exact this)).trans HXr.out)
      have hbw6 : B ≤ V6.heap.size := Nat.le_trans (Nat.le_of_eq HBs.out.1) HB6.out.size
      clear hV6 hbx h6 hb5 hacc hrss hb hAh k0 k1 ht0 ht1 ht2 ghd
      have HQal := Lib.hid ((HO6.out.below ((Below.refl _ _).alloc (Nat.le_refl _) (.cells #[.bool b] 4))).below (Below.refl _ _).drew)
      obtain ⟨g1, -, g3, -⟩ := box2_facts HO6.out.box
      obtain ⟨e1, -, e3, -⟩ := box2_facts (HO6.out.below ((Below.refl _ _).alloc (Nat.le_refl _) (.cells #[.bool b] 4))).box
      obtain ⟨e5, -, e7, -⟩ := box2_facts HQal.out.box
      obtain ⟨Aa, qa, hva⟩ := (RowO.of_owns HO6.out.acc (by omega)).row.shape
      rw [bools_length] at hva
      subst hva
      go_cut [] from 24 to 33 (fun wc => ∃ va2, Hid (Out B wc B va2 vn' (accs ++ [b]) us rss K) ∧ Hid (Below B W2 wc) ∧ Hid (Bx3 wc bx (.int .i64 y0) (.int .i64 y1) (.int .i64 y2) 115))
      case first =>
        go_region_law (refine step_append_own_at rfl (.tmp 25) (.tmp 31) 24 rfl B 4 b0 (.bool false) 1 1 Try.underlying24 hbi hb0 hb1 hb2 rfl (by decide) _ _ _ rfl (HO6.out.acc.alloc _).drew ⟨V6.heap.size, 0, none⟩ 1 1 [.bool b] rfl rfl (cell_one_new V6 _ _) (by simp [Value.oneCell']) (by unfold maxLen; omega) (by omega) (by simp; omega) ?_; intro v' w9 hown' hgrow hat; obtain ⟨g', cap', rfl⟩ := own_succ hown'; have HB9 := Lib.hid (((HB6.out.alloc hbw6 (.cells #[.bool b] 4)).drew.grown hgrow (by simp [World.drew]; omega) (fun g e => (HQal.out.acc.lt g e).1)).setCell (p := ⟨B, 0, none⟩) (Nat.le_refl _) (.slice (some ⟨g', 0, none⟩) (accs.length + 1) cap')); obtain ⟨z1, z2, HQ9⟩ := HQal.out.acc_push hown' hgrow; obtain ⟨z0, z1⟩ := z1; have HQ9 := Lib.hid HQ9; have HG9 := Lib.hid hgrow)
        all_goals
          have HX9 : Hid (Bx3 (w9.setCell ⟨B, 0, none⟩ (.slice (some ⟨g', 0, none⟩) (accs.length + 1) cap')) bx (.int .i64 y0) (.int .i64 y1) (.int .i64 y2) 115) := Lib.hid (by
            have hxa : Bx3 (V6.alloc (.cells #[.bool b] 4)).drew bx (.int .i64 y0) (.int .i64 y1) (.int .i64 y2) 115 := HX6.out.same (Below.heap_alloc _ _ _ HX6.out.lt)
            refine (hxa.same (HG9.out.block bx hxa.lt (fun e => ?_))).same (Below.heap_setCell _ _ _ _ (fun e => ?_))
            · obtain ⟨cur, hh⟩ := blk_of HQal.out.acc e.symm
              exact blk_ne hh hxa (by decide) rfl
            · exact blk_ne HO6.out.box HX6.out (by decide) (Eq.symm e))
          clear hown' hgrow hat z1 z2 g1 g3 e1 e3 e5 e7
          go_wp2_with fail
          go_meet
          exact ⟨_, HQ9, HB9, HX9⟩
      case rest =>
        obtain ⟨va2, HQ9, HB9, HX9⟩ := hcut
        clear g1 g3 e1 e3 e5 e7 m0 hA6
        have HCl := Lib.hid (libClone3 bx y0 y1 y2 _ wc.drew HX9.out)
        have HQ9d := Lib.hid (HQ9.out.below (Below.refl _ _).drew)
        obtain ⟨-, e1, -, e3⟩ := box2_facts HQ9.out.box
        obtain ⟨-, e5, -, e7⟩ := box2_facts HQ9d.out.box
        have hbwc : B ≤ wc.heap.size := Nat.le_trans (Nat.le_of_eq HBs.out.1) HB9.out.size
        go_upto_region 7 with fail
        go_region_law (first
          | (refine step_call rfl _ _ _ rfl enters_clone #[.slice (some ⟨bx, 0, none⟩) 3 3] (by simp [Act.eval, Act.put]) HCl.out ?_; rintro e w1 ⟨g, c, rfl, hir, hb1⟩; have HB1 := Lib.hid (HB9.out.drew.trans (hb1.mono (by show B ≤ wc.heap.size; omega))); have HO1 := Lib.hid (HQ9d.out.below hb1); have HI1 := Lib.hid hir; obtain ⟨-, l1, -, l3⟩ := box2_facts HO1.out.box; obtain ⟨-, l5, -, l7⟩ := box2_facts (HO1.out.below ((Below.refl _ _).alloc (Nat.le_refl _) (.cells #[.slice (some ⟨g, 0, none⟩) 3 c] 73))).box; have hbw1 : B ≤ w1.heap.size := Nat.le_trans hbwc hb1.size; clear hir hb1; refine ⟨_, rfl, ?_⟩)
          | (refine step_append_own_at rfl (.tmp 35) (.tmp 38) 25 rfl B 73 r0 (.slice none 0 0) 1 24 Try.underlying25 hri hr0 hr1 hr2 rfl (by decide) _ _ _ rfl (HO1.out.nxt.alloc _) ⟨w1.heap.size, 0, none⟩ 1 1 [.slice (some ⟨g, 0, none⟩) 3 c] rfl rfl (cell_one_new _ _ _) (by simp [Value.oneCell']) (by unfold maxLen; omega) (by omega) (by simp; omega) ?_; intro v' w9 hown' hgrow hat; rw [hus] at hown'; obtain ⟨g', cap', rfl⟩ := own_succ hown'; have HU : Hid (∀ g0, (Value.slice (some ⟨g, 0, none⟩) 3 c).ownBlock = some g0 → ∀ j, ¬ K j g0) := Lib.hid (fun g0 e j hk => Nat.lt_irrefl _ (Nat.lt_of_lt_of_le (HQ9.out.rows.lt j g0 hk) (HI1.out.lt g0 e).1)); obtain ⟨⟨z0, z1⟩, z2, HO9⟩ := (HO1.out.below ((Below.refl _ _).alloc (Nat.le_refl _) (.cells #[.slice (some ⟨g, 0, none⟩) 3 c] 73))).nxt_push (vn' := .slice (some ⟨g', 0, none⟩) (i + 1) cap') (IR.lower ((HI1.out.alloc (.cells #[.slice (some ⟨g, 0, none⟩) 3 c] 73))) hbwc) (by simp) HU.out (by rw [hus]; exact hown') hgrow; have HO9 := Lib.hid HO9; have HB9' := Lib.hid (((HB1.out.alloc hbw1 (.cells #[.slice (some ⟨g, 0, none⟩) 3 c] 73)).grown hgrow (by simp; omega) (fun g0 e => (HO1.out.nxt.lt g0 e).1)).setCell (p := ⟨B, 1, none⟩) (Nat.le_refl _) (.slice (some ⟨g', 0, none⟩) (i + 1) cap'))))
        all_goals
          have HA1 : Hid (accs ++ [b] = (List.range (i + 1)).map fun j => a.A (H j)) := Lib.hid (by rw [List.range_succ, List.map_append, HAc.out.1, HBb.out, HHh.out]; rfl)
          have HR1 : Hid (rss ++ [ints [y0, y1, y2]] = (List.range (i + 1)).map fun j => ints (rowQ a s j)) := Lib.hid (by rw [List.range_succ, List.map_append, HAc.out.2, ← HY.out]; rfl)
          rw [HA1.out, HR1.out] at HO9
          clear hown' hgrow hat e1 e3 e5 e7 l1 l3 l5 l7 z1 z2
          go_wp2_with fail
          go_roundw
          case rel => exact ⟨i + 1, _, _, us ++ [.slice (some ⟨g, 0, none⟩) 3 c], _, by go_num, by omega, by simp [hus], HB9', HO9⟩
          case measure => simp [intOf]; omega
    · obtain rfl : i = N := by omega
      obtain ⟨accs, hacc⟩ : ∃ accs, accs = (List.range i).map fun j => a.A (H j) := ⟨_, rfl⟩
      obtain ⟨rss, hrss⟩ : ∃ rss, rss = (List.range i).map fun j => ints (rowQ a s j) := ⟨_, rfl⟩
      rw [← hacc, ← hrss] at HO
      have hal : accs.length = i := by rw [hacc]; simp
      have HD : Hid (DfaO wr (fun g => B ≤ g ∧ g < wr.heap.size) va' vn' (fieldsOf (quo a s))) := Lib.hid (HO.out.whole (by rw [hacc]; exact HFa.out) (by
        rw [hrss]
        show intss (nxtOf (quo a s)) = _
        rw [HFn.out]
        simp [intss]) (by omega) (by omega))
      have hva := (RowO.of_owns HO.out.acc (by omega)).row.shape
      have hvn := (RowO.of_owns HO.out.nxt (by omega)).row.shape
      obtain ⟨A1, q1, rfl⟩ := hva
      obtain ⟨A2, q2, hvn2⟩ := hvn
      rw [hus] at hvn2
      subst hvn2
      obtain ⟨e0, e1, f0, f1⟩ := box2_facts HO.out.box
      have hyb := (HBr.out.block _ (by have := HBs.out.2; omega)).trans HY2.out
      obtain ⟨c0, c1, k0, k1⟩ := box2_facts hyb
      have hd : decide ((i : Int) < (i : Int)) = false := by simp
      obtain ⟨hcl, hsz, hot, hBl⟩ := put2 (k := .slice A1 (bools accs).length q1) (l := .slice A2 i q2) c0 c1
      obtain ⟨hc0, hc1⟩ := hcl
      have HOt := Lib.hid (And.intro hsz (And.intro hot hBl))
      clear f0 f1 hsz hot hBl hyb hal hacc hrss
      go_wp2_with fail
      refine bodyPost_ret (v := .agg #[.slice A1 (bools accs).length q1, .slice A2 i q2]) (by simp [results, Try.results124, go_sem, hc0, hc1]) rfl ?_
      have hBs := HBs.out.2
      exact ⟨_, _, rfl, HD.out.mono (fun g hg => HOt.out.2.1 g (by have := hg.1; omega)) (fun g hg => ⟨by have := hg.1; omega, by rw [HOt.out.1]; exact hg.2⟩) (by rw [HOt.out.1]; exact Nat.le_refl _), HOt.out.2.2 _ _ (HB2.out.trans (HBr.out.mono (by omega))) (Nat.le_succ _)⟩
end Go.Proofs.Ythmfncklepkddaa

namespace Go.Proofs.Ythmfncklepkddaa
open Go.RowKit

/-- The heads that stand beside the classes of round r. -/
def hAt (a : Au) : Nat → List Nat
  | 0 => []
  | s + 1 => hds a s a.n
def lenV : Value → Nat
  | .slice _ n _ => n
  | _ => 0
/-- The minimal automaton of a, or none. -/
def MinPost (a : Au) (w : World) (e : Ending) (w' : World) : Prop := ∃ m, Canon m ∧ Eqv m 0 a 0 ∧ CopyDB (fitD m) (decide (m.n ≤ 40)) w e w'
theorem natI_row {w : World} {S : Nat → Prop} {v : Value} {l : List Nat} (h : RowV w S v (ints (natI l))) (hl : 0 < l.length) : ∃ ad c, v = .slice (some ad) l.length c ∧ ∀ i, i < l.length → w.cell? (ad.add i) = some (.int .i64 ((l.getD i default : Nat) : Int)) := by
  obtain ⟨-, A, c, rfl⟩ := h.ints_shape
  obtain ⟨ad, rfl, -, -⟩ := h.intD (j := 0) (by rw [natI_length]; exact hl)
  refine ⟨ad, c, by rw [natI_length], fun i hi => ?_⟩
  obtain ⟨ad2, e, -, hc⟩ := h.intD (j := i) (by rw [natI_length]; exact hi)
  cases e
  rw [hc, natI_at hi]

set_option maxRecDepth 100000 in
set_option maxHeartbeats 6400000 in
theorem implMinz_any (va vr : Value) (a : Au) (w : World) (hnum : Num a) (hn : a.n ≤ 2000) (h : AutoV w va vr a) :
    Calls Try.prog 113 #[.agg #[va, vr]] w (MinPost a w) := by
  obtain ⟨ga, ca, gr, cr, hva, hvr, hA, hT⟩ := id h
  have HNum := Lib.hid hnum
  have HAu := Lib.hid h
  subst hva
  subst hvr
  have hpos := hnum.pos
  obtain ⟨W0, hW0⟩ : ∃ W0, W0 = (w.alloc (.cells #[.slice (some ⟨ga, 0, none⟩) a.n ca, .slice (some ⟨gr, 0, none⟩) a.n cr] 98)).alloc (.cells #[.slice none 0 0, .slice none 0 0] 27) := ⟨_, rfl⟩
  have HB0 : Hid (Below w.heap.size w W0) := Lib.hid (by rw [hW0]; exact ((Below.refl _ _).alloc (Nat.le_refl _) _).alloc (by simp) _)
  have HX0 : Hid (W0.heap[w.heap.size]? = some (.cells #[.slice (some ⟨ga, 0, none⟩) a.n ca, .slice (some ⟨gr, 0, none⟩) a.n cr] 98 (0, 0))) := Lib.hid (by
    rw [hW0]
    exact (Below.heap_alloc _ _ _ (by simp)).trans (heap_alloc_new w _))
  have HY0 : Hid (W0.heap[w.heap.size + 1]? = some (.cells #[.slice none 0 0, .slice none 0 0] 27 (0, 0))) := Lib.hid (by rw [hW0]; exact three2 w _ _ _ _)
  have HAc := Lib.hid (implAccs_any ga ca a W0 hn (fun q hq => (HB0.out.cell (cell_in (hA q hq))).trans (hA q hq)))
  have HRef := Lib.hid (fun (V : World) (hV : Below w.heap.size w V) ad cc r (hC : ∀ q, q < a.n → V.cell? (ad.add q) = some (.int .i64 ((col a r q : Nat) : Int))) => implRefine_any gr cr ad cc a r V hnum.wf hn (fun q hq k hk => (hV.cell (cell_in (hT q hq k hk))).trans (hT q hq k hk)) hC)
  have HQuo := Lib.hid (fun (V : World) (hV : Below w.heap.size w V) s ad cc adh ch (hC : ∀ q, q < a.n → V.cell? (ad.add q) = some (.int .i64 ((col a (s + 1) q : Nat) : Int))) (hH : ∀ i, i < (hds a s a.n).length → V.cell? (adh.add i) = some (.int .i64 (((hds a s a.n).getD i default : Nat) : Int))) => implQuo_any _ _ a s ad cc adh ch V hnum.wf hn (HAu.out.kept hV) hC hH)
  obtain ⟨c00, -, -, -⟩ := box2_facts HX0.out
  rw [hW0] at c00
  obtain ⟨n, hne⟩ : ∃ n, n = a.n := ⟨_, rfl⟩
  rw [← hne] at hW0 HX0 HAc HRef HQuo hn hpos c00
  rw [← hne]
  have HN := Lib.hid hne
  have HLen : Hid (∀ r, (hds a r n).length ≤ n ∧ 0 < (hds a r n).length) := Lib.hid (fun r => ⟨hds_len_le a r n, hds_pos r hpos⟩)
  clear h hA hT hnum hne
  go_enter Try.func113, Try.ntmps113
  go_wp2_with fail
  go_at_call 122
  rw [← hW0]
  refine HAc.out.mono ?_
  rintro e w1 ⟨v1, rfl, hr1, hb1⟩
  have HR1 := Lib.hid (And.intro hr1 hb1)
  clear hr1 hb1 hW0 c00 HAc
  go_wp2_with fail
  go_loopw [4, 5] (fun vc vh wr => ∃ r : Nat, Hid (RowV wr (fun _ => True) vc (ints (clsRow n (col a r)))) ∧ Hid (RowV wr (fun _ => True) vh (ints (natI (hAt a r)))) ∧ Hid (Below W0.heap.size W0 wr) ∧ (hAt a r).length ≤ 40) (fun _ vh _ => 41 - lenV vh)
  case atStart => exact ⟨0, Lib.hid (HR1.out.1.row.mono (fun _ _ => rfl) (fun _ _ => trivial)), Lib.hid (RowO.nil _ _ _ _).row, Lib.hid HR1.out.2, by simp [hAt]⟩
  case round =>
    obtain ⟨r, HC, HH, HBr, hl40⟩ := hrel
    clear HR1
    obtain ⟨ad, mc, rfl, hcl⟩ := HC.out.cls hpos
    obtain ⟨-, Ah, mh, hvh⟩ := HH.out.ints_shape
    rw [natI_length] at hvh
    subst hvh
    have HBw := Lib.hid (HB0.out.trans (HBr.out.mono HB0.out.size))
    have HRf := Lib.hid (HRef.out wr HBw.out ad mc r hcl)
    have HXr : Hid (wr.heap[w.heap.size]? = some (.cells #[.slice (some ⟨ga, 0, none⟩) n ca, .slice (some ⟨gr, 0, none⟩) n cr] 98 (0, 0))) := Lib.hid ((HBr.out.block _ (blk_lt HX0.out)).trans HX0.out)
    obtain ⟨k0, k1, -, -⟩ := box2_facts HXr.out
    obtain ⟨lh, hlh⟩ : ∃ lh, lh = (hAt a r).length := ⟨_, rfl⟩
    rw [← hlh] at HH hl40 ⊢
    have HLh := Lib.hid hlh
    clear hcl hlh
    go_wp2_with fail
    go_at_call 123
    refine HRf.out.mono ?_
    rintro e w2 ⟨vf, vg, rfl, hrf, hrg, hb2⟩
    rw [← HN.out] at hrf hrg
    obtain ⟨-, Ag, mg, hvg⟩ := hrg.row.ints_shape
    rw [natI_length] at hvg
    subst hvg
    obtain ⟨lg, hlg⟩ : ∃ lg, lg = (hds a r n).length := ⟨_, rfl⟩
    rw [← hlg] at hrg ⊢
    have HLg := Lib.hid hlg
    have HR2 := Lib.hid (And.intro hrf hrg)
    have hlgn : lg ≤ n := by rw [hlg]; exact (HLen.out r).1
    have hlg0 : 0 < lg := by rw [hlg]; exact (HLen.out r).2
    have HB2 := Lib.hid (HBr.out.trans (hb2.mono HBr.out.size))
    have HBw2 := Lib.hid (HB0.out.trans (HB2.out.mono HB0.out.size))
    have HC2 := Lib.hid (HC.out.kept hb2)
    have HH2 := Lib.hid (HH.out.kept hb2)
    have HX2 : Hid (w2.heap[w.heap.size]? = some (.cells #[.slice (some ⟨ga, 0, none⟩) n ca, .slice (some ⟨gr, 0, none⟩) n cr] 98 (0, 0))) := Lib.hid ((hb2.block _ (blk_lt HXr.out)).trans HXr.out)
    have HY2 : Hid (w2.heap[w.heap.size + 1]? = some (.cells #[.slice none 0 0, .slice none 0 0] 27 (0, 0))) := Lib.hid ((HB2.out.block _ (blk_lt HY0.out)).trans HY0.out)
    clear hrf hrg hb2 k0 k1 hlg
    by_cases hbig : 40 < lg
    · have hb1 : (40 : Int) < (lg : Int) := by omega
      obtain ⟨c0, c1, f0, f1⟩ := box2_facts HY2.out
      obtain ⟨hcl, hsz, hot, hBl⟩ := put2 (k := .slice none 0 0) (l := .slice none 0 0) c0 c1
      obtain ⟨hc0, hc1⟩ := hcl
      have HOt := Lib.hid hBl
      clear hsz hot hBl
      go_wp2_with fail
      refine bodyPost_ret (v := .tuple #[.agg #[.slice none 0 0, .slice none 0 0], .bool false]) (by simp [results, Try.results113, go_sem, hc0, hc1]) rfl ?_
      obtain ⟨m, m1, m2, -⟩ := exists_min HNum.out.wf
      have hmn := hds_le_min HNum.out m1 m2 r
      rw [← HN.out, ← HLg.out] at hmn
      have hb : ¬ m.n ≤ 40 := by omega
      refine ⟨m, m1, m2, ?_⟩
      rw [decide_eq_false hb, fitD, if_neg hb]
      exact ⟨_, _, rfl, DfaO.empty _ _, HOt.out _ _ HBw2.out (Nat.le_succ _)⟩
    · have hb1 : ¬ (40 : Int) < (lg : Int) := by omega
      by_cases heq : lg = lh
      · have hb2 : ((lg : Int) == (lh : Int)) = true := by simp; omega
        have hb3 : decide (lg = lh) = true := by simp; omega
        have HS : Hid (∃ s, r = s + 1) := Lib.hid (by
          cases r with
          | zero =>
            have h1 := HLh.out
            simp [hAt] at h1
            omega
          | succ s => exact ⟨s, rfl⟩)
        obtain ⟨s, rfl⟩ := HS.out
        have hle : lh = (hds a s n).length := by
          have h1 := HLh.out
          simp only [hAt] at h1
          rw [HN.out]
          exact h1
        have hlh0 : 0 < (hds a s n).length := (HLen.out s).2
        have hH2 : RowV w2 (fun _ => True) (.slice Ah lh mh) (ints (natI (hds a s n))) := by
          have h1 := HH2.out
          simp only [hAt] at h1
          rw [HN.out]
          exact h1
        obtain ⟨adh, ch, hadh, hhc⟩ := natI_row hH2 hlh0
        injection hadh with e1 e2 e3
        subst e1
        subst e3
        obtain ⟨ad2, mc2, had, hcl2⟩ := HC2.out.cls hpos
        injection had with e4 e5 e6
        injection e4 with e4
        subst e4
        subst e6
        have HQ := Lib.hid (HQuo.out w2 HBw2.out s ad mc adh mh hcl2 hhc)
        rw [← hle] at HQ
        have hst := still_of (a := a) (s := s) (by
          have h1 := HLg.out
          rw [HN.out] at h1 hle
          omega)
        obtain ⟨m1, m2⟩ := quo_canon HNum.out hst
        have hqn : (quo a s).n ≤ 40 := by
          show (hds a s a.n).length ≤ 40
          rw [← HN.out]
          omega
        have HM := Lib.hid (And.intro m1 (And.intro m2 hqn))
        obtain ⟨k0, k1, -, -⟩ := box2_facts HX2.out
        clear hle hlh0 hH2 hhc hcl2 hst m1 m2 hqn e2 e5
        go_wp2_with fail
        go_at_call 124
        refine HQ.out.mono ?_
        rintro e w3 hcd
        obtain ⟨A1, q1, A2, q2, rfl, hoo, hb3⟩ := hcd.shape
        have HO3 := Lib.hid (And.intro hoo hb3)
        obtain ⟨x1, hx1⟩ : ∃ x, x = (fieldsOf (quo a s)).acc.length := ⟨_, rfl⟩
        obtain ⟨x2, hx2⟩ : ∃ x, x = (fieldsOf (quo a s)).nxt.length := ⟨_, rfl⟩
        rw [← hx1, ← hx2] at HO3 ⊢
        obtain ⟨c0, c1, f0, f1⟩ := box2_facts ((hb3.block _ (blk_lt HY2.out)).trans HY2.out)
        obtain ⟨hcl, hsz, hot, hBl⟩ := put2 (k := .slice A1 x1 q1) (l := .slice A2 x2 q2) c0 c1
        obtain ⟨hc0, hc1⟩ := hcl
        have HOt := Lib.hid (And.intro hsz (And.intro hot hBl))
        clear hsz hot hBl hoo hb3 hcd hx1 hx2 k0 k1
        go_wp2_with fail
        refine bodyPost_ret (v := .tuple #[.agg #[.slice A1 x1 q1, .slice A2 x2 q2], .bool true]) (by simp [results, Try.results113, go_sem, hc0, hc1]) rfl ?_
        refine ⟨quo a s, HM.out.1, HM.out.2.1, ?_⟩
        rw [decide_eq_true HM.out.2.2, fitD, if_pos HM.out.2.2]
        have hyl := blk_lt HY0.out
        have hyl2 := blk_lt HY2.out
        have hz2 := HBw2.out.size
        exact ⟨_, _, rfl, HO3.out.1.mono (fun g hg => HOt.out.2.1 g (by have := hg.1; omega)) (fun g hg => ⟨by have := hg.1; omega, by rw [HOt.out.1]; exact hg.2⟩) (by rw [HOt.out.1]; exact Nat.le_refl _), HOt.out.2.2 _ _ (HBw2.out.trans (HO3.out.2.mono hz2)) (Nat.le_succ _)⟩
      · have hb2 : ((lg : Int) == (lh : Int)) = false := by simp; omega
        go_wp2_with fail
        go_roundw
        case rel => exact ⟨r + 1, Lib.hid (HR2.out.1.row.mono (fun _ _ => rfl) (fun _ _ => trivial)), Lib.hid (by
          have h1 := HR2.out.2.row.mono (w' := w2) (S' := fun _ => True) (fun _ _ => rfl) (fun _ _ => trivial)
          rw [HN.out] at h1
          exact h1), HB2, by
          have h1 := HLg.out
          rw [HN.out] at h1
          show (hds a r a.n).length ≤ 40
          omega⟩
        case measure =>
          simp [lenV]
          have h1 : lh < lg := by
            cases r with
            | zero =>
              have h2 := HLh.out
              simp [hAt] at h2
              omega
            | succ s =>
              have h2 := HLh.out
              have h3 := HLg.out
              simp only [hAt] at h2
              rw [HN.out] at h3
              have h4 := hds_grow (a := a) (s := s) (by omega)
              omega
          omega
end Go.Proofs.Ythmfncklepkddaa
