/-
  Texts of one proof, one behind the other.
-/
import Derived.Test.YthmfncklepkddaaShelf
import Derived.Maps.OwnSet
import Derived.Maps.Own
import Derived.Maps.AppendAt
import Derived.WalkArith
import Derived.Deep.RegionLaw
import Derived.DeepKeys5
import Derived.Test.YthmfncklepkddaaBoolPack4

/-
  What impl.quotient answers: the automaton of the classes.
  What impl.minimize answers: the minimal automaton, where it has not too many states.
-/
namespace Go.Proofs.Ythmfncklepkddaa
open Go.RowKit

theorem enters_clone (args : Array Value) (w : World) : (callFunc 129 args).run Try.prog w = .ok (.enter 129 args) w := enters_of Try.func129 (by kernel_rfl) rfl args w
/-- A copy of three numbers. -/
def Clone3 (y0 y1 y2 : Int) (w : World) (e : Ending) (w' : World) : Prop := ∃ g c, e = .returned (.slice (some ⟨g, 0, none⟩) 3 c) ∧ IR w' w.heap.size (.slice (some ⟨g, 0, none⟩) 3 c) [y0, y1, y2] ∧ Below w.heap.size w w'
theorem libClone3 (bx : Nat) (y0 y1 y2 : Int) (T : TypeId) (w : World) (h : Bx3 w bx (.int .i64 y0) (.int .i64 y1) (.int .i64 y2) T) :
    Calls Try.prog 129 #[.slice (some ⟨bx, 0, none⟩) 3 3] w (Clone3 y0 y1 y2 w) := by
  refine (Try.slices_Clone_int bx 0 3 3 [y0, y1, y2] w (Nat.le_refl _) (by decide) (fun j hj => ?_)).mono ?_
  · obtain ⟨⟨c0, c1, c2⟩, -⟩ := h.facts
    have hj3 : j < 3 := hj
    rcases (show j = 0 ∨ j = 1 ∨ j = 2 by omega) with rfl | rfl | rfl
    · exact c0
    · exact c1
    · exact c2
  · rintro e w' ⟨v', rfl, hown, -, hb⟩
    obtain ⟨g, c, rfl⟩ := own_succ (k := 2) hown
    exact ⟨g, c, rfl, hown, hb⟩

theorem IR.lower {w : World} {B B' : Nat} {v : Value} {l : List Int} (h : IR w B' v l) (hB : B ≤ B') : IR w B v l := by
  obtain ⟨h1, h2⟩ := h
  refine ⟨h1, ?_⟩
  rcases h2 with h2 | ⟨g, cap, cur, e, hg, r⟩
  · exact .inl h2
  · exact .inr ⟨g, cap, cur, e, Nat.le_trans hB hg, r⟩
/-- A row of the classes' automaton. -/
def rowQ (a : Au) (s i : Nat) : List Int := (List.range 3).map fun k => (((quo a s).T i k : Nat) : Int)

set_option maxRecDepth 100000 in
set_option maxHeartbeats 6400000 in
theorem implQuo_any (va vr : Value) (a : Au) (s : Nat) (ad : Addr) (cc : Nat) (adh : Addr) (ch : Nat) (w : World) (hw : a.wf) (hn : a.n ≤ 2000) (h : AutoV w va vr a)
    (hC : ∀ q, q < a.n → w.cell? (ad.add q) = some (.int .i64 ((col a (s + 1) q : Nat) : Int)))
    (hH : ∀ i, i < (hds a s a.n).length → w.cell? (adh.add i) = some (.int .i64 (((hds a s a.n).getD i default : Nat) : Int))) :
    Calls Try.prog 124 #[.agg #[va, vr], .slice (some ad) a.n cc, .slice (some adh) (hds a s a.n).length ch] w (CopyD (fieldsOf (quo a s)) w) := by
  obtain ⟨i0, hi, hz0, hz1, hz2⟩ := info_parts intInfo
  obtain ⟨b0, hbi, hb0, hb1, hb2⟩ := info_parts boolInfo
  obtain ⟨r0, hri, hr0, hr1, hr2⟩ := info_parts rowInfo
  obtain ⟨ga, ca, gr, cr, rfl, rfl, hA, hT⟩ := h
  obtain ⟨n, hne⟩ : ∃ n, n = a.n := ⟨_, rfl⟩
  obtain ⟨N, hNe⟩ : ∃ N, N = (hds a s a.n).length := ⟨_, rfl⟩
  obtain ⟨H, hHe⟩ : ∃ H : Nat → Nat, H = fun i => (hds a s a.n).getD i default := ⟨_, rfl⟩
  have hNn : N ≤ n := by rw [hNe, hne]; exact hds_len_le a s a.n
  have HHlt : Hid (∀ i, i < N → H i < n) := Lib.hid (fun i hi => by rw [hHe, hne]; exact (hds_at (by rw [← hNe]; exact hi)).1)
  have HHead : Hid (∀ i, i < N → w.cell? (adh.add i) = some (.int .i64 ((H i : Nat) : Int))) := Lib.hid (by rw [hHe, hNe]; exact hH)
  have HWf : Hid (∀ x k, x < n → k < 3 → a.T x k < n) := Lib.hid (by rw [hne]; exact hw.2)
  have HT : Hid (∀ q, q < n → ∀ k, k < 3 → w.cell? ⟨gr, q * 3 + k, none⟩ = some (.int .i64 ((a.T q k : Nat) : Int))) := Lib.hid (by rw [hne]; exact hT)
  have HA : Hid (∀ q, q < n → w.cell? ⟨ga, q, none⟩ = some (.bool (a.A q))) := Lib.hid (by rw [hne]; exact hA)
  have HC : Hid (∀ q, q < n → w.cell? (ad.add q) = some (.int .i64 ((col a (s + 1) q : Nat) : Int))) := Lib.hid (by rw [hne]; exact hC)
  have HRow : Hid (∀ i, rowQ a s i = [((col a (s + 1) (a.T (H i) 0) : Nat) : Int), ((col a (s + 1) (a.T (H i) 1) : Nat) : Int), ((col a (s + 1) (a.T (H i) 2) : Nat) : Int)]) := Lib.hid (fun i => by rw [hHe]; rfl)
  have HFa : Hid (accOf (quo a s) = (List.range N).map fun i => a.A (H i)) := Lib.hid (by rw [hNe, hHe]; rfl)
  have HFn : Hid (nxtOf (quo a s) = (List.range N).map fun i => rowQ a s i) := Lib.hid (by rw [hNe]; rfl)
  rw [← hne] at hn
  rw [← hNe, ← hne]
  clear hC hH hA hT hne hNe hHe hw
  obtain ⟨W2, hW2⟩ : ∃ W2, W2 = (w.alloc (.cells #[.slice (some ⟨ga, 0, none⟩) n ca, .slice (some ⟨gr, 0, none⟩) n cr] 98)).alloc (.cells #[.slice none 0 0, .slice none 0 0] 27) := ⟨_, rfl⟩
  have HB2 : Hid (Below w.heap.size w W2) := Lib.hid (by rw [hW2]; exact ((Below.refl _ _).alloc (Nat.le_refl _) _).alloc (by simp) _)
  have HX2 : Hid (W2.heap[w.heap.size]? = some (.cells #[.slice (some ⟨ga, 0, none⟩) n ca, .slice (some ⟨gr, 0, none⟩) n cr] 98 (0, 0))) := Lib.hid (by
    rw [hW2]
    exact (Below.heap_alloc _ _ _ (by simp)).trans (heap_alloc_new w _))
  have HY2 : Hid (W2.heap[w.heap.size + 1]? = some (.cells #[.slice none 0 0, .slice none 0 0] 27 (0, 0))) := Lib.hid (by rw [hW2]; exact three2 w _ _ _ _)
  obtain ⟨B, hB⟩ : ∃ B, B = W2.heap.size := ⟨_, rfl⟩
  obtain ⟨W3, hW3⟩ : ∃ W3, W3 = W2.alloc (.cells #[.slice none 0 0, .slice none 0 0] 27) := ⟨_, rfl⟩
  have HS : Hid (Out B W3 B (.slice none 0 0) (.slice none 0 0) [] [] [] (fun _ _ => False) ∧ Below B W2 W3) := Lib.hid (by
    rw [hW3, hB]
    exact ⟨Out.start W2 (Nat.le_refl _), (Below.refl _ _).alloc (Nat.le_refl _) _⟩)
  have hBs : B = w.heap.size + 1 + 1 := by rw [hB, hW2]; simp
  have HBs := Lib.hid (And.intro hB hBs)
  clear hB hBs
  go_enter Try.func124, Try.ntmps124
  go_wp2_with fail
  rw [← hW2, ← hW3, ← HBs.out.2]
  clear hW2 hW3
  go_loopw [13] (fun iv wr => ∃ (i : Nat) (va' vn' : Value) (us : List Value) (K : Nat → Nat → Prop), iv = .int .i64 i ∧ i ≤ N ∧ us.length = i ∧ Hid (Below B W2 wr) ∧ Hid (Out B wr B va' vn' ((List.range i).map fun j => a.A (H j)) us ((List.range i).map fun j => ints (rowQ a s j)) K)) (fun iv _ => N - (intOf iv).toNat)
  case atStart => exact ⟨0, _, _, [], _, rfl, Nat.zero_le _, rfl, Lib.hid HS.out.2, Lib.hid HS.out.1⟩
  case round =>
    obtain ⟨i, va', vn', us, K, rfl, hin, hus, HBr, HO⟩ := hrel
    clear HS
    by_cases hlt : i < N
    · have hhd := HHead.out i hlt
      have hhn := HHlt.out i hlt
      obtain ⟨h, hh⟩ : ∃ h, h = H i := ⟨_, rfl⟩
      rw [← hh] at hhd hhn
      have HHh := Lib.hid hh
      clear hh
      have upB : Hid (Below w.heap.size w wr) := Lib.hid (HB2.out.trans (HBr.out.mono (by have := HBs.out.2; omega)))
      have ghd := (upB.out.cell (cell_in hhd)).trans hhd
      have ht0 := (upB.out.cell (cell_in (HT.out h hhn 0 (by omega)))).trans (HT.out h hhn 0 (by omega))
      have ht1 := (upB.out.cell (cell_in (HT.out h hhn 1 (by omega)))).trans (HT.out h hhn 1 (by omega))
      have ht2 := (upB.out.cell (cell_in (HT.out h hhn 2 (by omega)))).trans (HT.out h hhn 2 (by omega))
      rw [Nat.add_zero] at ht0
      have hx0 := HWf.out h 0 hhn (by omega)
      have hx1 := HWf.out h 1 hhn (by omega)
      have hx2 := HWf.out h 2 hhn (by omega)
      obtain ⟨x0, hx0e⟩ : ∃ x0, x0 = a.T h 0 := ⟨_, rfl⟩
      obtain ⟨x1, hx1e⟩ : ∃ x1, x1 = a.T h 1 := ⟨_, rfl⟩
      obtain ⟨x2, hx2e⟩ : ∃ x2, x2 = a.T h 2 := ⟨_, rfl⟩
      rw [← hx0e] at hx0 ht0
      rw [← hx1e] at hx1 ht1
      rw [← hx2e] at hx2 ht2
      have HAf := Lib.hid (implAfter_any x0 x1 x2 ad n cc (col a (s + 1)) wr hx0 hx1 hx2 (fun p hp => (upB.out.cell (cell_in (HC.out p hp))).trans (HC.out p hp)))
      obtain ⟨y0, hy0⟩ : ∃ y : Int, y = ((col a (s + 1) x0 : Nat) : Int) := ⟨_, rfl⟩
      obtain ⟨y1, hy1⟩ : ∃ y : Int, y = ((col a (s + 1) x1 : Nat) : Int) := ⟨_, rfl⟩
      obtain ⟨y2, hy2⟩ : ∃ y : Int, y = ((col a (s + 1) x2 : Nat) : Int) := ⟨_, rfl⟩
      rw [← hy0, ← hy1, ← hy2] at HAf
      have HY : Hid (rowQ a s i = [y0, y1, y2]) := Lib.hid (by rw [HRow.out, hy0, hy1, hy2, hx0e, hx1e, hx2e, HHh.out])
      have hbl : w.heap.size < B := by have := HBs.out.2; omega
      have HXr : Hid (wr.heap[w.heap.size]? = some (.cells #[.slice (some ⟨ga, 0, none⟩) n ca, .slice (some ⟨gr, 0, none⟩) n cr] 98 (0, 0))) := Lib.hid ((HBr.out.block _ hbl).trans HX2.out)
      obtain ⟨k0, k1, -, -⟩ := box2_facts HXr.out
      have s0 : (h : Int) < (n : Int) := by omega
      have s1 : (0 : Int) ≤ (h : Int) := by omega
      clear hx0e hx1e hx2e hy0 hy1 hy2 hx0 hx1 hx2 hhd
      go_wp2_with fail
      go_at_call 126
      refine HAf.out.mono ?_
      rintro e w5 ⟨rfl, hb5⟩
      go_upto_region 6 with fail
      obtain ⟨bx, hbx⟩ : ∃ bx, bx = w5.heap.size := ⟨_, rfl⟩
      obtain ⟨V6, hV6⟩ : ∃ V6, V6 = w5.alloc (.cells #[.int .i64 y0, .int .i64 y1, .int .i64 y2] 115) := ⟨_, rfl⟩
      rw [← hV6, ← hbx]
      have h6 : Below wr.heap.size wr V6 := by rw [hV6]; exact hb5.alloc hb5.size _
      have HX6 : Hid (Bx3 V6 bx (.int .i64 y0) (.int .i64 y1) (.int .i64 y2) 115) := Lib.hid (by rw [hV6, hbx]; exact Bx3.new w5 _ _ _ _)
      obtain ⟨accs, hacc⟩ : ∃ accs, accs = (List.range i).map fun j => a.A (H j) := ⟨_, rfl⟩
      obtain ⟨rss, hrss⟩ : ∃ rss, rss = (List.range i).map fun j => ints (rowQ a s j) := ⟨_, rfl⟩
      rw [← hacc, ← hrss] at HO
      have hbn : accs.length ≤ 2000 := by rw [hacc]; simp; omega
      have HAc := Lib.hid (And.intro hacc hrss)
      have HO6 := Lib.hid (HO.out.below h6)
      have HB6 := Lib.hid (HBr.out.trans (h6.mono (Nat.le_trans (Nat.le_of_eq HBs.out.1) HBr.out.size)))
      have hAh := HA.out h hhn
      obtain ⟨b, hb⟩ : ∃ b, b = a.A h := ⟨_, rfl⟩
      rw [← hb] at hAh
      have HBb := Lib.hid hb
      have hA6 := (h6.cell (cell_in ((upB.out.cell (cell_in hAh)).trans hAh))).trans ((upB.out.cell (cell_in hAh)).trans hAh)
      obtain ⟨m0, -, -, -⟩ := box2_facts ((h6.block _ (by have := (Array.getElem?_eq_some_iff.1 HXr.out).1; exact this)).trans HXr.out)
      have hbw6 : B ≤ V6.heap.size := Nat.le_trans (Nat.le_of_eq HBs.out.1) HB6.out.size
      clear hV6 hbx h6 hb5 hacc hrss hb hAh k0 k1 ht0 ht1 ht2 ghd
      have HQal := Lib.hid ((HO6.out.below ((Below.refl _ _).alloc (Nat.le_refl _) (.cells #[.bool b] 4))).below (Below.refl _ _).drew)
      obtain ⟨g1, -, g3, -⟩ := box2_facts HO6.out.box
      obtain ⟨e1, -, e3, -⟩ := box2_facts (HO6.out.below ((Below.refl _ _).alloc (Nat.le_refl _) (.cells #[.bool b] 4))).box
      obtain ⟨e5, -, e7, -⟩ := box2_facts HQal.out.box
      obtain ⟨Aa, qa, hva⟩ := (RowO.of_owns HO6.out.acc (by omega)).row.shape
      rw [bools_length] at hva
      subst hva
      go_cut [] from 24 to 33 (fun wc => ∃ va2, Hid (Out B wc B va2 vn' (accs ++ [b]) us rss K) ∧ Hid (Below B W2 wc) ∧ Hid (Bx3 wc bx (.int .i64 y0) (.int .i64 y1) (.int .i64 y2) 115))
      case first =>
        go_region_law (refine step_append_own_at rfl (.tmp 25) (.tmp 31) 24 rfl B 4 b0 (.bool false) 1 1 Try.underlying24 hbi hb0 hb1 hb2 rfl (by decide) _ _ _ rfl (HO6.out.acc.alloc _).drew ⟨V6.heap.size, 0, none⟩ 1 1 [.bool b] rfl rfl (cell_one_new V6 _ _) (by simp [Value.oneCell']) (by unfold maxLen; omega) (by omega) (by simp; omega) ?_; intro v' w9 hown' hgrow hat; obtain ⟨g', cap', rfl⟩ := own_succ hown'; have HB9 := Lib.hid (((HB6.out.alloc hbw6 (.cells #[.bool b] 4)).drew.grown hgrow (by simp [World.drew]; omega) (fun g e => (HQal.out.acc.lt g e).1)).setCell (p := ⟨B, 0, none⟩) (Nat.le_refl _) (.slice (some ⟨g', 0, none⟩) (accs.length + 1) cap')); obtain ⟨z1, z2, HQ9⟩ := HQal.out.acc_push hown' hgrow; obtain ⟨z0, z1⟩ := z1; have HQ9 := Lib.hid HQ9; have HG9 := Lib.hid hgrow)
        all_goals
          have HX9 : Hid (Bx3 (w9.setCell ⟨B, 0, none⟩ (.slice (some ⟨g', 0, none⟩) (accs.length + 1) cap')) bx (.int .i64 y0) (.int .i64 y1) (.int .i64 y2) 115) := Lib.hid (by
            have hxa : Bx3 (V6.alloc (.cells #[.bool b] 4)).drew bx (.int .i64 y0) (.int .i64 y1) (.int .i64 y2) 115 := HX6.out.same (Below.heap_alloc _ _ _ HX6.out.lt)
            refine (hxa.same (HG9.out.block bx hxa.lt (fun e => ?_))).same (Below.heap_setCell _ _ _ _ (fun e => ?_))
            · obtain ⟨cur, hh⟩ := blk_of HQal.out.acc e.symm
              exact blk_ne hh hxa (by decide) rfl
            · exact blk_ne HO6.out.box HX6.out (by decide) (Eq.symm e))
          clear hown' hgrow hat z1 z2 g1 g3 e1 e3 e5 e7
          go_wp2_with fail
          go_meet
          exact ⟨_, HQ9, HB9, HX9⟩
      case rest =>
        obtain ⟨va2, HQ9, HB9, HX9⟩ := hcut
        clear g1 g3 e1 e3 e5 e7 m0 hA6
        have HCl := Lib.hid (libClone3 bx y0 y1 y2 _ wc.drew HX9.out)
        have HQ9d := Lib.hid (HQ9.out.below (Below.refl _ _).drew)
        obtain ⟨-, e1, -, e3⟩ := box2_facts HQ9.out.box
        obtain ⟨-, e5, -, e7⟩ := box2_facts HQ9d.out.box
        have hbwc : B ≤ wc.heap.size := Nat.le_trans (Nat.le_of_eq HBs.out.1) HB9.out.size
        go_upto_region 7 with fail
        go_region_law (first
          | (refine step_call rfl _ _ _ rfl enters_clone #[.slice (some ⟨bx, 0, none⟩) 3 3] (by simp [Act.eval, Act.put]) HCl.out ?_; rintro e w1 ⟨g, c, rfl, hir, hb1⟩; have HB1 := Lib.hid (HB9.out.drew.trans (hb1.mono (by show B ≤ wc.heap.size; omega))); have HO1 := Lib.hid (HQ9d.out.below hb1); have HI1 := Lib.hid hir; obtain ⟨-, l1, -, l3⟩ := box2_facts HO1.out.box; obtain ⟨-, l5, -, l7⟩ := box2_facts (HO1.out.below ((Below.refl _ _).alloc (Nat.le_refl _) (.cells #[.slice (some ⟨g, 0, none⟩) 3 c] 73))).box; have hbw1 : B ≤ w1.heap.size := Nat.le_trans hbwc hb1.size; clear hir hb1; refine ⟨_, rfl, ?_⟩)
          | (refine step_append_own_at rfl (.tmp 35) (.tmp 38) 25 rfl B 73 r0 (.slice none 0 0) 1 24 Try.underlying25 hri hr0 hr1 hr2 rfl (by decide) _ _ _ rfl (HO1.out.nxt.alloc _) ⟨w1.heap.size, 0, none⟩ 1 1 [.slice (some ⟨g, 0, none⟩) 3 c] rfl rfl (cell_one_new _ _ _) (by simp [Value.oneCell']) (by unfold maxLen; omega) (by omega) (by simp; omega) ?_; intro v' w9 hown' hgrow hat; rw [hus] at hown'; obtain ⟨g', cap', rfl⟩ := own_succ hown'; have HU : Hid (∀ g0, (Value.slice (some ⟨g, 0, none⟩) 3 c).ownBlock = some g0 → ∀ j, ¬ K j g0) := Lib.hid (fun g0 e j hk => Nat.lt_irrefl _ (Nat.lt_of_lt_of_le (HQ9.out.rows.lt j g0 hk) (HI1.out.lt g0 e).1)); obtain ⟨⟨z0, z1⟩, z2, HO9⟩ := (HO1.out.below ((Below.refl _ _).alloc (Nat.le_refl _) (.cells #[.slice (some ⟨g, 0, none⟩) 3 c] 73))).nxt_push (vn' := .slice (some ⟨g', 0, none⟩) (i + 1) cap') (IR.lower ((HI1.out.alloc (.cells #[.slice (some ⟨g, 0, none⟩) 3 c] 73))) hbwc) (by simp) HU.out (by rw [hus]; exact hown') hgrow; have HO9 := Lib.hid HO9; have HB9' := Lib.hid (((HB1.out.alloc hbw1 (.cells #[.slice (some ⟨g, 0, none⟩) 3 c] 73)).grown hgrow (by simp; omega) (fun g0 e => (HO1.out.nxt.lt g0 e).1)).setCell (p := ⟨B, 1, none⟩) (Nat.le_refl _) (.slice (some ⟨g', 0, none⟩) (i + 1) cap'))))
        all_goals
          have HA1 : Hid (accs ++ [b] = (List.range (i + 1)).map fun j => a.A (H j)) := Lib.hid (by rw [List.range_succ, List.map_append, HAc.out.1, HBb.out, HHh.out]; rfl)
          have HR1 : Hid (rss ++ [ints [y0, y1, y2]] = (List.range (i + 1)).map fun j => ints (rowQ a s j)) := Lib.hid (by rw [List.range_succ, List.map_append, HAc.out.2, ← HY.out]; rfl)
          rw [HA1.out, HR1.out] at HO9
          clear hown' hgrow hat e1 e3 e5 e7 l1 l3 l5 l7 z1 z2
          go_wp2_with fail
          go_roundw
          case rel => exact ⟨i + 1, _, _, us ++ [.slice (some ⟨g, 0, none⟩) 3 c], _, by go_num, by omega, by simp [hus], HB9', HO9⟩
          case measure => simp [intOf]; omega
    · obtain rfl : i = N := by omega
      obtain ⟨accs, hacc⟩ : ∃ accs, accs = (List.range i).map fun j => a.A (H j) := ⟨_, rfl⟩
      obtain ⟨rss, hrss⟩ : ∃ rss, rss = (List.range i).map fun j => ints (rowQ a s j) := ⟨_, rfl⟩
      rw [← hacc, ← hrss] at HO
      have hal : accs.length = i := by rw [hacc]; simp
      have HD : Hid (DfaO wr (fun g => B ≤ g ∧ g < wr.heap.size) va' vn' (fieldsOf (quo a s))) := Lib.hid (HO.out.whole (by rw [hacc]; exact HFa.out) (by
        rw [hrss]
        show intss (nxtOf (quo a s)) = _
        rw [HFn.out]
        simp [intss]) (by omega) (by omega))
      have hva := (RowO.of_owns HO.out.acc (by omega)).row.shape
      have hvn := (RowO.of_owns HO.out.nxt (by omega)).row.shape
      obtain ⟨A1, q1, rfl⟩ := hva
      obtain ⟨A2, q2, hvn2⟩ := hvn
      rw [hus] at hvn2
      subst hvn2
      obtain ⟨e0, e1, f0, f1⟩ := box2_facts HO.out.box
      have hyb := (HBr.out.block _ (by have := HBs.out.2; omega)).trans HY2.out
      obtain ⟨c0, c1, k0, k1⟩ := box2_facts hyb
      have hd : decide ((i : Int) < (i : Int)) = false := by simp
      obtain ⟨hcl, hsz, hot, hBl⟩ := put2 (k := .slice A1 (bools accs).length q1) (l := .slice A2 i q2) c0 c1
      obtain ⟨hc0, hc1⟩ := hcl
      have HOt := Lib.hid (And.intro hsz (And.intro hot hBl))
      clear f0 f1 hsz hot hBl hyb hal hacc hrss
      go_wp2_with fail
      refine bodyPost_ret (v := .agg #[.slice A1 (bools accs).length q1, .slice A2 i q2]) (by simp [results, Try.results124, go_sem, hc0, hc1]) rfl ?_
      have hBs := HBs.out.2
      exact ⟨_, _, rfl, HD.out.mono (fun g hg => HOt.out.2.1 g (by have := hg.1; omega)) (fun g hg => ⟨by have := hg.1; omega, by rw [HOt.out.1]; exact hg.2⟩) (by rw [HOt.out.1]; exact Nat.le_refl _), HOt.out.2.2 _ _ (HB2.out.trans (HBr.out.mono (by omega))) (Nat.le_succ _)⟩
end Go.Proofs.Ythmfncklepkddaa

namespace Go.Proofs.Ythmfncklepkddaa
open Go.RowKit

/-- The heads that stand beside the classes of round r. -/
def hAt (a : Au) : Nat → List Nat
  | 0 => []
  | s + 1 => hds a s a.n
def lenV : Value → Nat
  | .slice _ n _ => n
  | _ => 0
/-- The minimal automaton of a, or none. -/
def MinPost (a : Au) (w : World) (e : Ending) (w' : World) : Prop := ∃ m, Canon m ∧ Eqv m 0 a 0 ∧ CopyDB (fitD m) (decide (m.n ≤ 40)) w e w'
theorem natI_row {w : World} {S : Nat → Prop} {v : Value} {l : List Nat} (h : RowV w S v (ints (natI l))) (hl : 0 < l.length) : ∃ ad c, v = .slice (some ad) l.length c ∧ ∀ i, i < l.length → w.cell? (ad.add i) = some (.int .i64 ((l.getD i default : Nat) : Int)) := by
  obtain ⟨-, A, c, rfl⟩ := h.ints_shape
  obtain ⟨ad, rfl, -, -⟩ := h.intD (j := 0) (by rw [natI_length]; exact hl)
  refine ⟨ad, c, by rw [natI_length], fun i hi => ?_⟩
  obtain ⟨ad2, e, -, hc⟩ := h.intD (j := i) (by rw [natI_length]; exact hi)
  cases e
  rw [hc, natI_at hi]

set_option maxRecDepth 100000 in
set_option maxHeartbeats 6400000 in
theorem implMinz_any (va vr : Value) (a : Au) (w : World) (hnum : Num a) (hn : a.n ≤ 2000) (h : AutoV w va vr a) :
    Calls Try.prog 113 #[.agg #[va, vr]] w (MinPost a w) := by
  obtain ⟨ga, ca, gr, cr, hva, hvr, hA, hT⟩ := id h
  have HNum := Lib.hid hnum
  have HAu := Lib.hid h
  subst hva
  subst hvr
  have hpos := hnum.pos
  obtain ⟨W0, hW0⟩ : ∃ W0, W0 = (w.alloc (.cells #[.slice (some ⟨ga, 0, none⟩) a.n ca, .slice (some ⟨gr, 0, none⟩) a.n cr] 98)).alloc (.cells #[.slice none 0 0, .slice none 0 0] 27) := ⟨_, rfl⟩
  have HB0 : Hid (Below w.heap.size w W0) := Lib.hid (by rw [hW0]; exact ((Below.refl _ _).alloc (Nat.le_refl _) _).alloc (by simp) _)
  have HX0 : Hid (W0.heap[w.heap.size]? = some (.cells #[.slice (some ⟨ga, 0, none⟩) a.n ca, .slice (some ⟨gr, 0, none⟩) a.n cr] 98 (0, 0))) := Lib.hid (by
    rw [hW0]
    exact (Below.heap_alloc _ _ _ (by simp)).trans (heap_alloc_new w _))
  have HY0 : Hid (W0.heap[w.heap.size + 1]? = some (.cells #[.slice none 0 0, .slice none 0 0] 27 (0, 0))) := Lib.hid (by rw [hW0]; exact three2 w _ _ _ _)
  have HAc := Lib.hid (implAccs_any ga ca a W0 hn (fun q hq => (HB0.out.cell (cell_in (hA q hq))).trans (hA q hq)))
  have HRef := Lib.hid (fun (V : World) (hV : Below w.heap.size w V) ad cc r (hC : ∀ q, q < a.n → V.cell? (ad.add q) = some (.int .i64 ((col a r q : Nat) : Int))) => implRefine_any gr cr ad cc a r V hnum.wf hn (fun q hq k hk => (hV.cell (cell_in (hT q hq k hk))).trans (hT q hq k hk)) hC)
  have HQuo := Lib.hid (fun (V : World) (hV : Below w.heap.size w V) s ad cc adh ch (hC : ∀ q, q < a.n → V.cell? (ad.add q) = some (.int .i64 ((col a (s + 1) q : Nat) : Int))) (hH : ∀ i, i < (hds a s a.n).length → V.cell? (adh.add i) = some (.int .i64 (((hds a s a.n).getD i default : Nat) : Int))) => implQuo_any _ _ a s ad cc adh ch V hnum.wf hn (HAu.out.kept hV) hC hH)
  obtain ⟨c00, -, -, -⟩ := box2_facts HX0.out
  rw [hW0] at c00
  obtain ⟨n, hne⟩ : ∃ n, n = a.n := ⟨_, rfl⟩
  rw [← hne] at hW0 HX0 HAc HRef HQuo hn hpos c00
  rw [← hne]
  have HN := Lib.hid hne
  have HLen : Hid (∀ r, (hds a r n).length ≤ n ∧ 0 < (hds a r n).length) := Lib.hid (fun r => ⟨hds_len_le a r n, hds_pos r hpos⟩)
  clear h hA hT hnum hne
  go_enter Try.func113, Try.ntmps113
  go_wp2_with fail
  go_at_call 122
  rw [← hW0]
  refine HAc.out.mono ?_
  rintro e w1 ⟨v1, rfl, hr1, hb1⟩
  have HR1 := Lib.hid (And.intro hr1 hb1)
  clear hr1 hb1 hW0 c00 HAc
  go_wp2_with fail
  go_loopw [4, 5] (fun vc vh wr => ∃ r : Nat, Hid (RowV wr (fun _ => True) vc (ints (clsRow n (col a r)))) ∧ Hid (RowV wr (fun _ => True) vh (ints (natI (hAt a r)))) ∧ Hid (Below W0.heap.size W0 wr) ∧ (hAt a r).length ≤ 40) (fun _ vh _ => 41 - lenV vh)
  case atStart => exact ⟨0, Lib.hid (HR1.out.1.row.mono (fun _ _ => rfl) (fun _ _ => trivial)), Lib.hid (RowO.nil _ _ _ _).row, Lib.hid HR1.out.2, by simp [hAt]⟩
  case round =>
    obtain ⟨r, HC, HH, HBr, hl40⟩ := hrel
    clear HR1
    obtain ⟨ad, mc, rfl, hcl⟩ := HC.out.cls hpos
    obtain ⟨-, Ah, mh, hvh⟩ := HH.out.ints_shape
    rw [natI_length] at hvh
    subst hvh
    have HBw := Lib.hid (HB0.out.trans (HBr.out.mono HB0.out.size))
    have HRf := Lib.hid (HRef.out wr HBw.out ad mc r hcl)
    have HXr : Hid (wr.heap[w.heap.size]? = some (.cells #[.slice (some ⟨ga, 0, none⟩) n ca, .slice (some ⟨gr, 0, none⟩) n cr] 98 (0, 0))) := Lib.hid ((HBr.out.block _ (blk_lt HX0.out)).trans HX0.out)
    obtain ⟨k0, k1, -, -⟩ := box2_facts HXr.out
    obtain ⟨lh, hlh⟩ : ∃ lh, lh = (hAt a r).length := ⟨_, rfl⟩
    rw [← hlh] at HH hl40 ⊢
    have HLh := Lib.hid hlh
    clear hcl hlh
    go_wp2_with fail
    go_at_call 123
    refine HRf.out.mono ?_
    rintro e w2 ⟨vf, vg, rfl, hrf, hrg, hb2⟩
    rw [← HN.out] at hrf hrg
    obtain ⟨-, Ag, mg, hvg⟩ := hrg.row.ints_shape
    rw [natI_length] at hvg
    subst hvg
    obtain ⟨lg, hlg⟩ : ∃ lg, lg = (hds a r n).length := ⟨_, rfl⟩
    rw [← hlg] at hrg ⊢
    have HLg := Lib.hid hlg
    have HR2 := Lib.hid (And.intro hrf hrg)
    have hlgn : lg ≤ n := by rw [hlg]; exact (HLen.out r).1
    have hlg0 : 0 < lg := by rw [hlg]; exact (HLen.out r).2
    have HB2 := Lib.hid (HBr.out.trans (hb2.mono HBr.out.size))
    have HBw2 := Lib.hid (HB0.out.trans (HB2.out.mono HB0.out.size))
    have HC2 := Lib.hid (HC.out.kept hb2)
    have HH2 := Lib.hid (HH.out.kept hb2)
    have HX2 : Hid (w2.heap[w.heap.size]? = some (.cells #[.slice (some ⟨ga, 0, none⟩) n ca, .slice (some ⟨gr, 0, none⟩) n cr] 98 (0, 0))) := Lib.hid ((hb2.block _ (blk_lt HXr.out)).trans HXr.out)
    have HY2 : Hid (w2.heap[w.heap.size + 1]? = some (.cells #[.slice none 0 0, .slice none 0 0] 27 (0, 0))) := Lib.hid ((HB2.out.block _ (blk_lt HY0.out)).trans HY0.out)
    clear hrf hrg hb2 k0 k1 hlg
    by_cases hbig : 40 < lg
    · have hb1 : (40 : Int) < (lg : Int) := by omega
      obtain ⟨c0, c1, f0, f1⟩ := box2_facts HY2.out
      obtain ⟨hcl, hsz, hot, hBl⟩ := put2 (k := .slice none 0 0) (l := .slice none 0 0) c0 c1
      obtain ⟨hc0, hc1⟩ := hcl
      have HOt := Lib.hid hBl
      clear hsz hot hBl
      go_wp2_with fail
      refine bodyPost_ret (v := .tuple #[.agg #[.slice none 0 0, .slice none 0 0], .bool false]) (by simp [results, Try.results113, go_sem, hc0, hc1]) rfl ?_
      obtain ⟨m, m1, m2, -⟩ := exists_min HNum.out.wf
      have hmn := hds_le_min HNum.out m1 m2 r
      rw [← HN.out, ← HLg.out] at hmn
      have hb : ¬ m.n ≤ 40 := by omega
      refine ⟨m, m1, m2, ?_⟩
      rw [decide_eq_false hb, fitD, if_neg hb]
      exact ⟨_, _, rfl, DfaO.empty _ _, HOt.out _ _ HBw2.out (Nat.le_succ _)⟩
    · have hb1 : ¬ (40 : Int) < (lg : Int) := by omega
      by_cases heq : lg = lh
      · have hb2 : ((lg : Int) == (lh : Int)) = true := by simp; omega
        have hb3 : decide (lg = lh) = true := by simp; omega
        have HS : Hid (∃ s, r = s + 1) := Lib.hid (by
          cases r with
          | zero =>
            have h1 := HLh.out
            simp [hAt] at h1
            omega
          | succ s => exact ⟨s, rfl⟩)
        obtain ⟨s, rfl⟩ := HS.out
        have hle : lh = (hds a s n).length := by
          have h1 := HLh.out
          simp only [hAt] at h1
          rw [HN.out]
          exact h1
        have hlh0 : 0 < (hds a s n).length := (HLen.out s).2
        have hH2 : RowV w2 (fun _ => True) (.slice Ah lh mh) (ints (natI (hds a s n))) := by
          have h1 := HH2.out
          simp only [hAt] at h1
          rw [HN.out]
          exact h1
        obtain ⟨adh, ch, hadh, hhc⟩ := natI_row hH2 hlh0
        injection hadh with e1 e2 e3
        subst e1
        subst e3
        obtain ⟨ad2, mc2, had, hcl2⟩ := HC2.out.cls hpos
        injection had with e4 e5 e6
        injection e4 with e4
        subst e4
        subst e6
        have HQ := Lib.hid (HQuo.out w2 HBw2.out s ad mc adh mh hcl2 hhc)
        rw [← hle] at HQ
        have hst := still_of (a := a) (s := s) (by
          have h1 := HLg.out
          rw [HN.out] at h1 hle
          omega)
        obtain ⟨m1, m2⟩ := quo_canon HNum.out hst
        have hqn : (quo a s).n ≤ 40 := by
          show (hds a s a.n).length ≤ 40
          rw [← HN.out]
          omega
        have HM := Lib.hid (And.intro m1 (And.intro m2 hqn))
        obtain ⟨k0, k1, -, -⟩ := box2_facts HX2.out
        clear hle hlh0 hH2 hhc hcl2 hst m1 m2 hqn e2 e5
        go_wp2_with fail
        go_at_call 124
        refine HQ.out.mono ?_
        rintro e w3 hcd
        obtain ⟨A1, q1, A2, q2, rfl, hoo, hb3⟩ := hcd.shape
        have HO3 := Lib.hid (And.intro hoo hb3)
        obtain ⟨x1, hx1⟩ : ∃ x, x = (fieldsOf (quo a s)).acc.length := ⟨_, rfl⟩
        obtain ⟨x2, hx2⟩ : ∃ x, x = (fieldsOf (quo a s)).nxt.length := ⟨_, rfl⟩
        rw [← hx1, ← hx2] at HO3 ⊢
        obtain ⟨c0, c1, f0, f1⟩ := box2_facts ((hb3.block _ (blk_lt HY2.out)).trans HY2.out)
        obtain ⟨hcl, hsz, hot, hBl⟩ := put2 (k := .slice A1 x1 q1) (l := .slice A2 x2 q2) c0 c1
        obtain ⟨hc0, hc1⟩ := hcl
        have HOt := Lib.hid (And.intro hsz (And.intro hot hBl))
        clear hsz hot hBl hoo hb3 hcd hx1 hx2 k0 k1
        go_wp2_with fail
        refine bodyPost_ret (v := .tuple #[.agg #[.slice A1 x1 q1, .slice A2 x2 q2], .bool true]) (by simp [results, Try.results113, go_sem, hc0, hc1]) rfl ?_
        refine ⟨quo a s, HM.out.1, HM.out.2.1, ?_⟩
        rw [decide_eq_true HM.out.2.2, fitD, if_pos HM.out.2.2]
        have hyl := blk_lt HY0.out
        have hyl2 := blk_lt HY2.out
        have hz2 := HBw2.out.size
        exact ⟨_, _, rfl, HO3.out.1.mono (fun g hg => HOt.out.2.1 g (by have := hg.1; omega)) (fun g hg => ⟨by have := hg.1; omega, by rw [HOt.out.1]; exact hg.2⟩) (by rw [HOt.out.1]; exact Nat.le_refl _), HOt.out.2.2 _ _ (HBw2.out.trans (HO3.out.2.mono hz2)) (Nat.le_succ _)⟩
      · have hb2 : ((lg : Int) == (lh : Int)) = false := by simp; omega
        go_wp2_with fail
        go_roundw
        case rel => exact ⟨r + 1, Lib.hid (HR2.out.1.row.mono (fun _ _ => rfl) (fun _ _ => trivial)), Lib.hid (by
          have h1 := HR2.out.2.row.mono (w' := w2) (S' := fun _ => True) (fun _ _ => rfl) (fun _ _ => trivial)
          rw [HN.out] at h1
          exact h1), HB2, by
          have h1 := HLg.out
          rw [HN.out] at h1
          show (hds a r a.n).length ≤ 40
          omega⟩
        case measure =>
          simp [lenV]
          have h1 : lh < lg := by
            cases r with
            | zero =>
              have h2 := HLh.out
              simp [hAt] at h2
              omega
            | succ s =>
              have h2 := HLh.out
              have h3 := HLg.out
              simp only [hAt] at h2
              rw [HN.out] at h3
              have h4 := hds_grow (a := a) (s := s) (by omega)
              omega
          omega
end Go.Proofs.Ythmfncklepkddaa

/-
  Concatenations and repetitions as searches over a state and a set of states: what a key accepts. Of no function of the program.
  The minimal automaton of a search that may meet too many keys, as an answer: concatenations, repetitions. Of no function of the program but the answers' names.
-/
namespace Go.Proofs.Ythmfncklepkddaa

/-- A set of states, ascending: one more. -/
def putS : List Nat → Nat → List Nat
  | [], q => [q]
  | x :: s, q => if x < q then x :: putS s q else if x = q then x :: s else q :: x :: s
theorem mem_putS {x q : Nat} : ∀ {s : List Nat}, x ∈ putS s q ↔ x = q ∨ x ∈ s
  | [] => by simp [putS]
  | y :: s => by
    unfold putS
    by_cases h1 : y < q
    · rw [if_pos h1, List.mem_cons, mem_putS, List.mem_cons]
      constructor
      · rintro (h | h | h)
        · exact .inr (.inl h)
        · exact .inl h
        · exact .inr (.inr h)
      · rintro (h | h | h)
        · exact .inr (.inl h)
        · exact .inl h
        · exact .inr (.inr h)
    · rw [if_neg h1]
      by_cases h2 : y = q
      · subst h2
        rw [if_pos rfl]
        simp
      · rw [if_neg h2]
        simp
theorem putS_asc {q : Nat} : ∀ {s : List Nat}, s.Pairwise (· < ·) → (putS s q).Pairwise (· < ·)
  | [], _ => by simp [putS]
  | y :: s, h => by
    obtain ⟨h0, h'⟩ := List.pairwise_cons.1 h
    unfold putS
    by_cases h1 : y < q
    · rw [if_pos h1]
      refine List.pairwise_cons.2 ⟨fun z hz => ?_, putS_asc h'⟩
      rcases mem_putS.1 hz with rfl | hz
      · exact h1
      · exact h0 z hz
    · rw [if_neg h1]
      by_cases h2 : y = q
      · rw [if_pos h2]
        exact h
      · rw [if_neg h2]
        refine List.pairwise_cons.2 ⟨fun z hz => ?_, h⟩
        rcases List.mem_cons.1 hz with rfl | hz
        · omega
        · have := h0 z hz
          omega
/-- Two ascending lists with the same elements are the same. -/
theorem asc_eq : ∀ {s t : List Nat}, s.Pairwise (· < ·) → t.Pairwise (· < ·) → (∀ x, x ∈ s ↔ x ∈ t) → s = t
  | [], [], _, _, _ => rfl
  | [], y :: t, _, _, h => absurd ((h y).2 (List.mem_cons_self ..)) (by simp)
  | y :: s, [], _, _, h => absurd ((h y).1 (List.mem_cons_self ..)) (by simp)
  | x :: s, y :: t, hs, ht, h => by
    obtain ⟨hs0, hs'⟩ := List.pairwise_cons.1 hs
    obtain ⟨ht0, ht'⟩ := List.pairwise_cons.1 ht
    have e : x = y := by
      rcases List.mem_cons.1 ((h x).1 (List.mem_cons_self ..)) with e | hx
      · exact e
      · rcases List.mem_cons.1 ((h y).2 (List.mem_cons_self ..)) with e | hy
        · exact e.symm
        · have := ht0 x hx
          have := hs0 y hy
          omega
    subst e
    rw [asc_eq hs' ht' (fun z => ?_)]
    constructor
    · intro hz
      rcases List.mem_cons.1 ((h z).1 (List.mem_cons_of_mem _ hz)) with rfl | h2
      · have := hs0 z hz
        omega
      · exact h2
    · intro hz
      rcases List.mem_cons.1 ((h z).2 (List.mem_cons_of_mem _ hz)) with rfl | h2
      · have := ht0 z hz
        omega
      · exact h2
/-- The set after a letter. -/
def moveS (d : Au) (s : List Nat) (k : Nat) : List Nat := s.foldl (fun out q => putS out (d.T q k)) []
theorem mem_move_from {d : Au} {k x : Nat} : ∀ (s o : List Nat), x ∈ s.foldl (fun out q => putS out (d.T q k)) o ↔ x ∈ o ∨ ∃ q ∈ s, d.T q k = x
  | [], o => by simp
  | y :: s, o => by
    rw [List.foldl_cons, mem_move_from s, mem_putS]
    constructor
    · rintro ((rfl | h) | ⟨q, hq, e⟩)
      · exact .inr ⟨y, List.mem_cons_self .., rfl⟩
      · exact .inl h
      · exact .inr ⟨q, List.mem_cons_of_mem _ hq, e⟩
    · rintro (h | ⟨q, hq, e⟩)
      · exact .inl (.inr h)
      · rcases List.mem_cons.1 hq with rfl | hq
        · exact .inl (.inl e.symm)
        · exact .inr ⟨q, hq, e⟩
theorem mem_move {d : Au} {k x : Nat} {s : List Nat} : x ∈ moveS d s k ↔ ∃ q ∈ s, d.T q k = x := by
  unfold moveS
  rw [mem_move_from]
  simp
theorem move_from_asc {d : Au} {k : Nat} : ∀ (s o : List Nat), o.Pairwise (· < ·) → (s.foldl (fun out q => putS out (d.T q k)) o).Pairwise (· < ·)
  | [], _, h => h
  | _ :: s, _, h => move_from_asc s _ (putS_asc h)
theorem move_asc (d : Au) (s : List Nat) (k : Nat) : (moveS d s k).Pairwise (· < ·) := move_from_asc s [] List.Pairwise.nil
def anyS (d : Au) (s : List Nat) : Bool := s.any d.A
theorem anyS_iff {d : Au} {s : List Nat} : anyS d s = true ↔ ∃ q ∈ s, d.A q = true := by simp [anyS]

/-- The concatenation's search. -/
def catS (a : Au) : Nat × List Nat := (0, if a.A 0 then [0] else [])
def catG (a b : Au) (x : Nat × List Nat) (k : Nat) : Nat × List Nat := (a.T x.1 k, if a.A (a.T x.1 k) then putS (moveS b x.2 k) 0 else moveS b x.2 k)
/-- What a key accepts: a state of the set does, or the word is divided later on. -/
def catL (a b : Au) (x : Nat × List Nat) (w : List Nat) : Prop := (∃ q ∈ x.2, b.A (b.run q w) = true) ∨ ∃ u v, w = u ++ v ∧ u ≠ [] ∧ a.A (a.run x.1 u) = true ∧ b.A (b.run 0 v) = true
theorem catL_nil (a b : Au) (x : Nat × List Nat) : catL a b x [] ↔ anyS b x.2 = true := by
  rw [anyS_iff]
  unfold catL
  constructor
  · rintro (h | ⟨u, v, e, hu, _⟩)
    · exact h
    · exact absurd (List.append_eq_nil_iff.1 e.symm).1 hu
  · exact fun h => .inl h
theorem catL_step (a b : Au) (x : Nat × List Nat) (k : Nat) (w : List Nat) : catL a b (catG a b x k) w ↔ catL a b x (k :: w) := by
  have hm : ∀ q, q ∈ (catG a b x k).2 ↔ (a.A (a.T x.1 k) = true ∧ q = 0) ∨ ∃ p ∈ x.2, b.T p k = q := fun q => by
    unfold catG
    by_cases h : a.A (a.T x.1 k) = true
    · simp only [h, if_true]
      rw [mem_putS, mem_move]
      simp
    · simp only [h]
      simp only [Bool.false_eq_true, if_false, false_and, false_or]
      exact mem_move
  unfold catL
  constructor
  · rintro (⟨q, hq, hb⟩ | ⟨u, v, rfl, hu, ha, hb⟩)
    · rcases (hm q).1 hq with ⟨ha, rfl⟩ | ⟨p, hp, rfl⟩
      · exact .inr ⟨[k], w, rfl, by simp, ha, hb⟩
      · exact .inl ⟨p, hp, hb⟩
    · exact .inr ⟨k :: u, v, rfl, by simp, ha, hb⟩
  · rintro (⟨p, hp, hb⟩ | ⟨u, v, e, hu, ha, hb⟩)
    · exact .inl ⟨b.T p k, (hm _).2 (.inr ⟨p, hp, rfl⟩), hb⟩
    · cases u with
      | nil => exact absurd rfl hu
      | cons y u =>
        injection e with e1 e2
        subst e1
        cases u with
        | nil =>
          have e3 : w = v := e2
          subst e3
          exact .inl ⟨0, (hm 0).2 (.inl ⟨ha, rfl⟩), hb⟩
        | cons z u => exact .inr ⟨z :: u, v, e2, by simp, ha, hb⟩
theorem catL_start (a b : Au) (w : List Nat) : catL a b (catS a) w ↔ ∃ u v, w = u ++ v ∧ a.A (a.run 0 u) = true ∧ b.A (b.run 0 v) = true := by
  unfold catL catS
  constructor
  · rintro (⟨q, hq, hb⟩ | ⟨u, v, e, _, ha, hb⟩)
    · by_cases h : a.A 0 = true
      · simp only [h, if_true, List.mem_singleton] at hq
        subst hq
        exact ⟨[], w, rfl, h, hb⟩
      · simp only [h] at hq
        simp at hq
    · exact ⟨u, v, e, ha, hb⟩
  · rintro ⟨u, v, e, ha, hb⟩
    cases u with
    | nil =>
      have e3 : w = v := e
      subst e3
      have h : a.A 0 = true := ha
      exact .inl ⟨0, by simp [h], hb⟩
    | cons y u => exact .inr ⟨y :: u, v, e, by simp, ha, hb⟩

/-- A word that can be divided into words of d. -/
inductive StarW (d : Au) : List Nat → Prop
  | nil : StarW d []
  | app (u v : List Nat) : u ≠ [] → d.A (d.run 0 u) = true → StarW d v → StarW d (u ++ v)
theorem StarW.more {d : Au} {u v : List Nat} (ha : d.A (d.run 0 u) = true) (hv : StarW d v) : StarW d (u ++ v) := by
  by_cases hu : u = []
  · rw [hu]
    exact hv
  · exact .app u v hu ha hv
/-- The repetition's search: a mark for the first key, and a set. -/
def starS : Bool × List Nat := (true, [0])
def starG (d : Au) (x : Bool × List Nat) (k : Nat) : Bool × List Nat := (false, if anyS d (moveS d x.2 k) then putS (moveS d x.2 k) 0 else moveS d x.2 k)
def starA (d : Au) (x : Bool × List Nat) : Bool := x.1 || anyS d x.2
/-- With an accepting state the set holds the first state. -/
def StarC (d : Au) (x : Bool × List Nat) : Prop := (∃ q ∈ x.2, d.A q = true) → 0 ∈ x.2
theorem starC_start (d : Au) : StarC d starS := fun _ => by simp [starS]
theorem mem_starG {d : Au} {x : Bool × List Nat} {k q : Nat} : q ∈ (starG d x k).2 ↔ (∃ p ∈ x.2, d.T p k = q) ∨ ((∃ p ∈ x.2, d.A (d.T p k) = true) ∧ q = 0) := by
  have ha : anyS d (moveS d x.2 k) = true ↔ ∃ p ∈ x.2, d.A (d.T p k) = true := by
    rw [anyS_iff]
    constructor
    · rintro ⟨q, hq, h⟩
      obtain ⟨p, hp, rfl⟩ := mem_move.1 hq
      exact ⟨p, hp, h⟩
    · rintro ⟨p, hp, h⟩
      exact ⟨_, mem_move.2 ⟨p, hp, rfl⟩, h⟩
  unfold starG
  by_cases h : anyS d (moveS d x.2 k) = true
  · simp only [h, if_true]
    rw [mem_putS, mem_move]
    have := ha.1 h
    constructor
    · rintro (rfl | h2)
      · exact .inr ⟨this, rfl⟩
      · exact .inl h2
    · rintro (h2 | ⟨_, rfl⟩)
      · exact .inr h2
      · exact .inl rfl
  · have hn : ¬ ∃ p ∈ x.2, d.A (d.T p k) = true := fun h2 => h (ha.2 h2)
    simp only [h]
    simp only [Bool.false_eq_true, if_false]
    rw [mem_move]
    constructor
    · exact fun h2 => .inl h2
    · rintro (h2 | ⟨h2, _⟩)
      · exact h2
      · exact absurd h2 hn
theorem starC_step (d : Au) (x : Bool × List Nat) (k : Nat) : StarC d (starG d x k) := by
  rintro ⟨q, hq, h⟩
  rcases mem_starG.1 hq with ⟨p, hp, rfl⟩ | ⟨h2, _⟩
  · exact mem_starG.2 (.inr ⟨⟨p, hp, h⟩, rfl⟩)
  · exact mem_starG.2 (.inr ⟨h2, rfl⟩)
/-- What a key accepts. -/
def starL (d : Au) (x : Bool × List Nat) (w : List Nat) : Prop := (x.1 = true ∧ w = []) ∨ ∃ q ∈ x.2, ∃ u v, w = u ++ v ∧ d.A (d.run q u) = true ∧ StarW d v
theorem starL_nil (d : Au) (x : Bool × List Nat) : starL d x [] ↔ starA d x = true := by
  unfold starL starA
  rw [Bool.or_eq_true, anyS_iff]
  constructor
  · rintro (⟨h, _⟩ | ⟨q, hq, u, v, e, ha, _⟩)
    · exact .inl h
    · rw [(List.append_eq_nil_iff.1 e.symm).1] at ha
      exact .inr ⟨q, hq, ha⟩
  · rintro (h | ⟨q, hq, ha⟩)
    · exact .inl ⟨h, rfl⟩
    · exact .inr ⟨q, hq, [], [], rfl, ha, .nil⟩
theorem starL_step (d : Au) (x : Bool × List Nat) (hx : StarC d x) (k : Nat) (w : List Nat) : starL d (starG d x k) w ↔ starL d x (k :: w) := by
  unfold starL
  constructor
  · rintro (⟨h, _⟩ | ⟨q, hq, u, v, e, ha, hv⟩)
    · exact absurd h (by simp [starG])
    · subst e
      rcases mem_starG.1 hq with ⟨p, hp, rfl⟩ | ⟨⟨p, hp, hpa⟩, rfl⟩
      · exact .inr ⟨p, hp, k :: u, v, rfl, ha, hv⟩
      · exact .inr ⟨p, hp, [k], u ++ v, rfl, hpa, hv.more ha⟩
  · rintro (⟨_, h⟩ | ⟨q, hq, u, v, e, ha, hv⟩)
    · cases h
    · cases u with
      | nil =>
        have e3 : k :: w = v := e
        subst e3
        have h0 := hx ⟨q, hq, ha⟩
        generalize hy : k :: w = y at hv
        cases hv with
        | nil => cases hy
        | app u' v' hu' ha' hv' =>
          cases u' with
          | nil => exact absurd rfl hu'
          | cons z u' =>
            injection hy with e1 e2
            subst e1
            exact .inr ⟨d.T 0 k, mem_starG.2 (.inl ⟨0, h0, rfl⟩), u', v', e2, ha', hv'⟩
      | cons z u =>
        injection e with e1 e2
        subst e1
        exact .inr ⟨d.T q k, mem_starG.2 (.inl ⟨q, hq, rfl⟩), u, v, e2, ha, hv⟩
theorem starL_start (d : Au) (w : List Nat) : starL d starS w ↔ StarW d w := by
  unfold starL starS
  constructor
  · rintro (⟨_, rfl⟩ | ⟨q, hq, u, v, rfl, ha, hv⟩)
    · exact .nil
    · simp only [List.mem_singleton] at hq
      subst hq
      exact hv.more ha
  · intro h
    cases h with
    | nil => exact .inl ⟨rfl, rfl⟩
    | app u v _ ha hv => exact .inr ⟨0, by simp, u, v, rfl, ha, hv⟩
end Go.Proofs.Ythmfncklepkddaa

namespace Go.Proofs.Ythmfncklepkddaa
open Go.RowKit

section
variable {α : Type} [DecidableEq α] [Inhabited α] {s0 : α} {g : α → Nat → α} {M : Nat}
theorem Ends.one {N N' : Nat} (h : Ends s0 g N) (h' : Ends s0 g N') : N = N' := by
  rcases Nat.lt_trichotomy N N' with hl | e | hl
  · have := h'.on N hl
    have := h.stop
    omega
  · exact e
  · have := h.on N' hl
    have := h'.stop
    omega
/-- The search is alive at row i and has met too many: it does not end below. -/
theorem Ends.not_big {i N M : Nat} (ha : ∀ j, j ≤ i → j < (ords s0 g (3 * j)).length) (hb : M < (ords s0 g (3 * (i + 1))).length) (hN : N ≤ M) : ¬ Ends s0 g N := fun h => by
  have hi : i < N := by
    apply Nat.lt_of_not_le
    intro hle
    have := ha N hle
    have := h.stop
    omega
  have h1 := (ords_prefix (s0 := s0) (g := g) (show 3 * (i + 1) ≤ 3 * N by omega)).length_le
  have := h.stop
  omega
/-- The answer of a search: at most M keys, and the minimal automaton has not too many states. -/
def srchR (M : Nat) (s0 : α) (g : α → Nat → α) (acc : α → Bool) (y : Dx) (ok : Bool) : Prop :=
  (∃ N, N ≤ M ∧ Ends s0 g N ∧ ∃ m, Canon m ∧ Eqv m 0 (found s0 g acc N) 0 ∧ y = fitD m ∧ ok = decide (m.n ≤ 40)) ∨ ((∀ N, N ≤ M → ¬ Ends s0 g N) ∧ y = ⟨[], []⟩ ∧ ok = false)
theorem srchR_some (M : Nat) (s0 : α) (g : α → Nat → α) (acc : α → Bool) : ∃ y ok, srchR M s0 g acc y ok := by
  by_cases h : ∃ N, N ≤ M ∧ Ends s0 g N
  · obtain ⟨N, hN, hE⟩ := h
    obtain ⟨m, h1, h2, _⟩ := exists_min (hE.wf acc)
    exact ⟨_, _, .inl ⟨N, hN, hE, m, h1, h2, rfl, rfl⟩⟩
  · exact ⟨_, _, .inr ⟨fun N hN hE => h ⟨N, hN, hE⟩, rfl, rfl⟩⟩
theorem srchR_yes {acc : α → Bool} {y : Dx} {ok : Bool} (h : srchR M s0 g acc y ok) {N : Nat} (hN : N ≤ M) (hE : Ends s0 g N) {m : Au} (h1 : Canon m) (h2 : Eqv m 0 (found s0 g acc N) 0) : fitD m = y ∧ decide (m.n ≤ 40) = ok := by
  rcases h with ⟨N', _, hE', m', n1, n2, rfl, rfl⟩ | ⟨hn, _⟩
  · have e := hE.one hE'
    subst e
    exact fit_one h1 n1 (h2.swap n2)
  · exact absurd hE (hn N hN)
theorem srchR_no {acc : α → Bool} {y : Dx} {ok : Bool} (h : srchR M s0 g acc y ok) (hn : ∀ N, N ≤ M → ¬ Ends s0 g N) : y = ⟨[], []⟩ ∧ ok = false := by
  rcases h with ⟨N, hN, hE, _⟩ | ⟨_, h⟩
  · exact absurd hE (hn N hN)
  · exact h
theorem srchR_wt {acc : α → Bool} {y : Dx} {ok : Bool} (h : srchR M s0 g acc y ok) : wtD y ≤ 1048576 := by
  rcases h with ⟨_, _, _, m, _, _, rfl, _⟩ | ⟨_, rfl, _⟩
  · exact fitD_wt m
  · decide
/-- What the answer accepts. -/
theorem srchR_lang {acc : α → Bool} {y : Dx} (h : srchR M s0 g acc y true) {L : α → List Nat → Prop} (h0 : ∀ x, L x [] ↔ acc x = true) {I : α → Prop} (hI0 : I s0) (hIs : ∀ x k, I x → I (g x k)) (h1 : ∀ x, I x → ∀ k w, L (g x k) w ↔ L x (k :: w)) :
    ∃ m, Canon m ∧ m.n ≤ 40 ∧ y = fieldsOf m ∧ ∀ w, W3 w → (m.A (m.run 0 w) = true ↔ L s0 w) := by
  rcases h with ⟨N, _, hE, m, n1, n2, rfl, hok⟩ | ⟨_, _, hf⟩
  · have hn : m.n ≤ 40 := by simpa using hok.symm
    have hI : ∀ t, t ≤ 3 * N → ∀ x ∈ ords s0 g t, I x := by
      intro t
      induction t with
      | zero =>
        intro _ x hx
        rw [ords, List.mem_singleton] at hx
        rw [hx]
        exact hI0
      | succ t ih =>
        intro ht x hx
        have hk : I ((ords s0 g t).getD (t / 3) default) := by
          refine ih (by omega) _ (getD_mem ?_)
          have h1 := hE.on (t / 3) (by omega)
          have h2 := (ords_prefix (s0 := s0) (g := g) (show 3 * (t / 3) ≤ t by omega)).length_le
          omega
        rw [ords] at hx
        split at hx
        · exact ih (by omega) x hx
        · rcases List.mem_append.1 hx with h | h
          · exact ih (by omega) x h
          · rw [List.mem_singleton.1 h]
            exact hIs _ _ hk
    refine ⟨m, n1, hn, by unfold fitD; rw [if_pos hn], fun w hw => ?_⟩
    have hl := hE.lang (acc := acc) (L := fun x w => @decide (L x w) (Classical.propDecidable _)) (fun x => by
      have := h0 x
      cases ha : acc x <;> simp [ha] at this ⊢ <;> exact this) (fun x hx k _ w _ => by
      have := h1 x (hI _ (Nat.le_refl _) x hx) k w
      exact decide_eq_decide.2 this) w 0 hw hE.pos
    rw [ords_first] at hl
    rw [n2 w hw, hl]
    exact @decide_eq_true_iff _ (Classical.propDecidable _)
  · cases hf
end
/-- ConcatDfa's and StarDfa's answers. -/
def catR (a b y : Dx) (ok : Bool) : Prop := if validD a = true ∧ validD b = true then srchR 400 (catS (auD a)) (catG (auD a) (auD b)) (fun x => anyS (auD b) x.2) y ok else y = ⟨[], []⟩ ∧ ok = false
def starR (d y : Dx) (ok : Bool) : Prop := if validD d = true then srchR 400 starS (starG (auD d)) (starA (auD d)) y ok else y = ⟨[], []⟩ ∧ ok = false
theorem catR_some (a b : Dx) : ∃ y ok, catR a b y ok := by
  unfold catR
  by_cases h : validD a = true ∧ validD b = true
  · simp only [if_pos h]
    exact srchR_some _ _ _ _
  · simp only [if_neg h]
    exact ⟨_, _, rfl, rfl⟩
theorem starR_some (d : Dx) : ∃ y ok, starR d y ok := by
  unfold starR
  by_cases h : validD d = true
  · simp only [if_pos h]
    exact srchR_some _ _ _ _
  · simp only [if_neg h]
    exact ⟨_, _, rfl, rfl⟩
/-- What a concatenation and a repetition accept. -/
theorem catR_lang {a b y : Dx} (h : catR a b y true) : validD a = true ∧ validD b = true ∧ ∃ m, Canon m ∧ m.n ≤ 40 ∧ y = fieldsOf m ∧ ∀ w, W3 w → (m.A (m.run 0 w) = true ↔ ∃ u v, w = u ++ v ∧ (auD a).A ((auD a).run 0 u) = true ∧ (auD b).A ((auD b).run 0 v) = true) := by
  unfold catR at h
  by_cases hc : validD a = true ∧ validD b = true
  · rw [if_pos hc] at h
    obtain ⟨m, h1, h2, h3, h4⟩ := srchR_lang h (L := catL (auD a) (auD b)) (fun x => catL_nil _ _ x) (I := fun _ => True) trivial (fun _ _ _ => trivial) (fun x _ k w => catL_step _ _ x k w)
    exact ⟨hc.1, hc.2, m, h1, h2, h3, fun w hw => (h4 w hw).trans (catL_start _ _ w)⟩
  · rw [if_neg hc] at h
    exact absurd h.2 (by simp)
theorem starR_lang {d y : Dx} (h : starR d y true) : validD d = true ∧ ∃ m, Canon m ∧ m.n ≤ 40 ∧ y = fieldsOf m ∧ ∀ w, W3 w → (m.A (m.run 0 w) = true ↔ StarW (auD d) w) := by
  unfold starR at h
  by_cases hc : validD d = true
  · rw [if_pos hc] at h
    obtain ⟨m, h1, h2, h3, h4⟩ := srchR_lang h (L := starL (auD d)) (fun x => starL_nil _ x) (I := StarC (auD d)) (starC_start _) (fun x k _ => starC_step _ x k) (fun x hx k w => starL_step _ x hx k w)
    exact ⟨hc, m, h1, h2, h3, fun w hw => (h4 w hw).trans (starL_start _ w)⟩
  · rw [if_neg hc] at h
    exact absurd h.2 (by simp)
end Go.Proofs.Ythmfncklepkddaa

/-
  A search in breadth as the program goes it: what is met, in a row and in a map; the automaton that it lays, in a box. Of no function of the program.
  What a search with a limit answers: the minimal automaton of what it meets, or nothing.
-/
namespace Go.Proofs.Ythmfncklepkddaa
open Go.RowKit Go.Maps

section
variable {α : Type} [DecidableEq α] [Inhabited α] {s0 : α} {g : α → Nat → α}
/-- The key of state i; where letter k leads from it. -/
def keyA (s0 : α) (g : α → Nat → α) (i : Nat) : α := (ords s0 g (3 * i)).getD i default
def toA (s0 : α) (g : α → Nat → α) (i k : Nat) : Nat := (ords s0 g (3 * i + k + 1)).idxOf (g (keyA s0 g i) k)
theorem keyA_at {i t : Nat} (hi : i < (ords s0 g (3 * i)).length) (ht : 3 * i ≤ t) : i < (ords s0 g t).length ∧ (ords s0 g t).getD i default = keyA s0 g i :=
  ⟨Nat.lt_of_lt_of_le hi (ords_prefix ht).length_le, ords_at ht hi⟩
theorem keyA_step {i k : Nat} (hi : i < (ords s0 g (3 * i)).length) (hk : k < 3) :
    (g (keyA s0 g i) k ∈ ords s0 g (3 * i + k) → ords s0 g (3 * i + (k + 1)) = ords s0 g (3 * i + k) ∧ toA s0 g i k = (ords s0 g (3 * i + k)).idxOf (g (keyA s0 g i) k)) ∧
    (g (keyA s0 g i) k ∉ ords s0 g (3 * i + k) → ords s0 g (3 * i + (k + 1)) = ords s0 g (3 * i + k) ++ [g (keyA s0 g i) k] ∧ toA s0 g i k = (ords s0 g (3 * i + k)).length) := by
  have e : (ords s0 g (3 * i + k)).getD i default = keyA s0 g i := ords_at (by omega) hi
  have hs : ords s0 g (3 * i + (k + 1)) = if g (keyA s0 g i) k ∈ ords s0 g (3 * i + k) then ords s0 g (3 * i + k) else ords s0 g (3 * i + k) ++ [g (keyA s0 g i) k] := by
    rw [show 3 * i + (k + 1) = 3 * i + k + 1 by omega, ords, show (3 * i + k) / 3 = i by omega, show (3 * i + k) % 3 = k by omega, e]
  have ht : toA s0 g i k = (ords s0 g (3 * i + (k + 1))).idxOf (g (keyA s0 g i) k) := rfl
  refine ⟨fun hx => ?_, fun hx => ?_⟩
  · rw [if_pos hx] at hs
    exact ⟨hs, by rw [ht, hs]⟩
  · rw [if_neg hx] at hs
    refine ⟨hs, ?_⟩
    rw [ht, hs, List.idxOf_append, if_neg hx]
    simp
theorem found_keyA {N : Nat} (h : Ends s0 g N) (acc : α → Bool) {i : Nat} (hi : i < N) : (found s0 g acc N).A i = acc (keyA s0 g i) ∧ ∀ k, k < 3 → (found s0 g acc N).T i k = toA s0 g i k := by
  have hk : (ords s0 g (3 * N)).getD i default = keyA s0 g i := ords_at (by omega) (h.on i hi)
  refine ⟨?_, fun k hk3 => ?_⟩
  · show acc _ = _
    rw [hk]
  · obtain ⟨h1, h2⟩ := h.key hi hk3
    show (ords s0 g (3 * N)).idxOf (g ((ords s0 g (3 * N)).getD i default) k) = _
    rw [hk] at h2 ⊢
    exact idx_prefix (ords_prefix (show 3 * i + k + 1 ≤ 3 * N by omega)) h2
/-- What lies in row i of the automaton. -/
def rowC (s0 : α) (g : α → Nat → α) (i : Nat) : List Value := [.int .i64 ((toA s0 g i 0 : Nat) : Int), .int .i64 ((toA s0 g i 1 : Nat) : Int), .int .i64 ((toA s0 g i 2 : Nat) : Int)]
theorem rowC_length (i : Nat) : (rowC s0 g i).length = 3 := rfl
def rowsC (s0 : α) (g : α → Nat → α) (n : Nat) : List Value := (List.range n).flatMap (rowC s0 g)
theorem rowsC_succ (n : Nat) : rowsC s0 g (n + 1) = rowsC s0 g n ++ rowC s0 g n := by simp [rowsC, List.range_succ, List.flatMap_append]
theorem rowsC_length : ∀ n, (rowsC s0 g n).length = n * 3
  | 0 => rfl
  | n + 1 => by rw [rowsC_succ, List.length_append, rowsC_length n, rowC_length]; omega
theorem rowsC_at : ∀ (n q k : Nat), q < n → k < 3 → (rowsC s0 g n)[q * 3 + k]? = some (.int .i64 ((toA s0 g q k : Nat) : Int))
  | 0, _, _, h, _ => absurd h (Nat.not_lt_zero _)
  | n + 1, q, k, h, hk => by
    rw [rowsC_succ]
    by_cases e : q = n
    · subst e
      rw [List.getElem?_append_right (by rw [rowsC_length]; omega), rowsC_length, Nat.add_sub_cancel_left]
      rcases (show k = 0 ∨ k = 1 ∨ k = 2 by omega) with rfl | rfl | rfl <;> rfl
    · rw [List.getElem?_append_left (by rw [rowsC_length]; omega)]
      exact rowsC_at n q k (by omega) hk

/-- A map that tells each met key's number. -/
def MapOf (kl : α → Lit) (Ok : α → Prop) (D : DataW Unit) (l : List α) : Prop :=
  IsMap D ∧ ∀ x, Ok x → Maps.has D (kl x) = decide (x ∈ l) ∧ (x ∈ l → ∀ z, D.atKey (kl x) z = .lit (.int .i64 ((l.idxOf x : Nat) : Int)))
omit [Inhabited α] in
theorem MapOf.nil (kl : α → Lit) (Ok : α → Prop) : MapOf kl Ok (.map []) [] := ⟨isMap_empty, fun x _ => ⟨by simp [Maps.has], fun h => by simp at h⟩⟩
omit [Inhabited α] in
theorem MapOf.put {kl : α → Lit} {Ok : α → Prop} {D : DataW Unit} {l : List α} (h : MapOf kl Ok D l) (hinj : ∀ x y, Ok x → Ok y → kl x = kl y → x = y) (hkey : ∀ x, Ok x → WideAt.IsKeyLit (kl x)) {x : α} (hx : Ok x) (hn : x ∉ l) :
    MapOf kl Ok (D.put (kl x) (.lit (.int .i64 ((l.length : Nat) : Int)))) (l ++ [x]) := by
  refine ⟨h.1.put _ _, fun y hy => ?_⟩
  by_cases e : y = x
  · subst e
    refine ⟨by rw [has_put_same h.1 (hkey y hy)]; simp, fun _ z => ?_⟩
    rw [atKey_put_same h.1 (hkey y hy), List.idxOf_append, if_neg hn]
    simp
  · have hne : kl y ≠ kl x := fun e2 => e (hinj y x hy hx e2)
    have hmem : y ∈ l ++ [x] ↔ y ∈ l := by simp [e]
    refine ⟨?_, fun hm z => ?_⟩
    · rw [has_put_other hne, (h.2 y hy).1]
      simp [e]
    · rw [atKey_put_other hne, (h.2 y hy).2 (hmem.1 hm) z, List.idxOf_append, if_pos (hmem.1 hm)]
end

theorem blk_ofz {w : World} {base sz : Nat} {e : TypeId} {v : Value} {n : Nat} {xs : List Value} (h : w.ownsRow base e sz v n xs) {g : Nat} (hg : v.ownBlock = some g) : ∃ cur, w.heap[g]? = some (.cells cur e (0, 0)) := by
  rcases h.2 with ⟨rfl, _⟩ | ⟨g', cap, cur, rfl, _, hh, _⟩
  · simp [Value.ownBlock] at hg
  · simp [Value.ownBlock] at hg
    subst hg
    exact ⟨cur, hh⟩
/-- A row stays where what turns is of another make. -/
theorem own_far {w w' : World} {B sz : Nat} {e : TypeId} {v : Value} {n : Nat} {xs : List Value} {row : Option Nat} (h : w.ownsRow B e sz v n xs) (hg : w.grownBy w' row) (hr : ∀ g, row = some g → ∃ o, w.heap[g]? = some o ∧ ∀ cur, o ≠ .cells cur e (0, 0)) : w'.ownsRow B e sz v n xs := by
  refine World.ownsRow.kept h hg ?_
  cases hv : v.ownBlock with
  | none => exact .inl rfl
  | some g =>
    obtain ⟨cur, hh⟩ := blk_ofz h hv
    exact .inr (fun er => by
      obtain ⟨o, ho, hne⟩ := hr g er.symm
      rw [hh] at ho
      cases ho
      exact hne _ rfl)
theorem own_setz {w : World} {B sz : Nat} {e : TypeId} {v : Value} {n : Nat} {xs : List Value} (h : w.ownsRow B e sz v n xs) {p : Addr} (hr : ∃ o, w.heap[p.block]? = some o ∧ ∀ cur, o ≠ .cells cur e (0, 0)) (u : Value) : (w.setCell p u).ownsRow B e sz v n xs := by
  refine ownsRow_setCell_other h (fun er => ?_) _
  obtain ⟨cur, hh⟩ := blk_ofz h er
  obtain ⟨o, ho, hne⟩ := hr
  rw [hh] at ho
  cases ho
  exact hne _ rfl
theorem own_cell {w : World} {B sz : Nat} {e : TypeId} {v : Value} {n : Nat} {xs : List Value} (h : w.ownsRow B e sz v n xs) (hn : 0 < n) : ∃ g c, v = .slice (some ⟨g, 0, none⟩) n c ∧ B ≤ g ∧ ∀ j, j < n * sz → w.cell? ⟨g, j, none⟩ = xs[j]? := by
  rcases h.2 with ⟨_, h0⟩ | ⟨g, cap, cur, rfl, hb, hh, h1, _, h2, h3⟩
  · omega
  · refine ⟨g, cap, rfl, hb, fun j hj => ?_⟩
    rw [cell_of_row w g j cur e (0, 0) hh, ← h3, List.getElem?_take_of_lt hj, Array.getElem?_toList]
theorem ne_cells {T T' : TypeId} {cur : Array Value} (h : T ≠ T') : ∀ cur', (Obj.cells cur T (0, 0)) ≠ .cells cur' T' (0, 0) := fun cur' e => by
  injection e with _ e2
  exact h e2
theorem ne_map {T' : TypeId} {es : Array MapEntry} {clock : Nat} : ∀ cur', (Obj.map es clock) ≠ .cells cur' T' (0, 0) := fun cur' e => by cases e

/-- The search so far: the automaton in its box, the row of what is met, the map of its numbers. -/
structure ExpS (tE sz B bM bR : Nat) (va vr vo : Value) (accs : List Bool) (i : Nat) (rows : List Value) (m : Nat) (xs : List Value) (mm : Nat) (D : DataW Unit) (w : World) : Prop where
  acc : w.ownsRow B 4 1 va accs.length (bools accs)
  row : w.ownsRow B 115 3 vr i rows
  ord : w.ownsRow B tE sz vo m xs
  map : w.ownsMap Try.prog tE (plainElem Try.prog 3) bM mm D
  box : w.heap[bR]? = some (.cells #[va, vr] 98 (0, 0))
  low : B ≤ bR ∧ B ≤ bM
  ne : tE ≠ 4 ∧ tE ≠ 115 ∧ tE ≠ 98
section
variable {tE sz B bM bR : Nat} {va vr vo : Value} {accs : List Bool} {i : Nat} {rows : List Value} {m : Nat} {xs : List Value} {mm : Nat} {D : DataW Unit} {w w' : World}
theorem ExpS.mapB (h : ExpS tE sz B bM bR va vr vo accs i rows m xs mm D w) : ∃ es clock, w.heap[bM]? = some (.map es clock) := by
  obtain ⟨es, clock, hb, _⟩ := h.map
  exact ⟨es, clock, hb⟩
theorem ExpS.below (h : ExpS tE sz B bM bR va vr vo accs i rows m xs mm D w) (hb : Below w.heap.size w w') : ExpS tE sz B bM bR va vr vo accs i rows m xs mm D w' := by
  have hg := grown_of hb
  exact ⟨own_far h.acc hg (fun g e => by cases e), own_far h.row hg (fun g e => by cases e), own_far h.ord hg (fun g e => by cases e), h.map.kept hg (by simp), (hb.block _ (blk_lt h.box)).trans h.box, h.low, h.ne⟩
theorem ExpS.base (h : ExpS tE sz B bM bR va vr vo accs i rows m xs mm D w) : B < w.heap.size := Nat.lt_of_le_of_lt h.low.1 (blk_lt h.box)
/-- One number more in the map. -/
theorem ExpS.map_put {D' : DataW Unit} (h : ExpS tE sz B bM bR va vr vo accs i rows m xs mm D w) (hm : w'.ownsMap Try.prog tE (plainElem Try.prog 3) bM (mm + 1) D') (hg : w.grownBy w' (some bM)) : ExpS tE sz B bM bR va vr vo accs i rows m xs (mm + 1) D' w' := by
  obtain ⟨es, clock, hb⟩ := h.mapB
  have hr : ∀ e g, some bM = some g → ∃ o, w.heap[g]? = some o ∧ ∀ cur, o ≠ .cells cur e (0, 0) := fun e g eg => by cases eg; exact ⟨_, hb, ne_map⟩
  exact ⟨own_far h.acc hg (hr _), own_far h.row hg (hr _), own_far h.ord hg (hr _), hm, (hg.block _ (blk_lt h.box) (fun e => by
    injection e with e
    have := h.box
    rw [e, hb] at this
    cases this)).trans h.box, h.low, h.ne⟩
/-- One key more is met. -/
theorem ExpS.ord_push {vo' : Value} {m' : Nat} {xs' : List Value} (h : ExpS tE sz B bM bR va vr vo accs i rows m xs mm D w) (ho : w'.ownsRow B tE sz vo' m' xs') (hg : w.grownBy w' vo.ownBlock) : ExpS tE sz B bM bR va vr vo' accs i rows m' xs' mm D w' := by
  have hr : ∀ e, tE ≠ e → ∀ g, vo.ownBlock = some g → ∃ o, w.heap[g]? = some o ∧ ∀ cur, o ≠ .cells cur e (0, 0) := fun e hne g eg => by
    obtain ⟨cur, hh⟩ := blk_ofz h.ord eg
    exact ⟨_, hh, ne_cells hne⟩
  obtain ⟨es, clock, hb⟩ := h.mapB
  refine ⟨own_far h.acc hg (hr _ h.ne.1), own_far h.row hg (hr _ h.ne.2.1), ho, h.map.kept hg (fun e => ?_), (hg.block _ (blk_lt h.box) (fun e => ?_)).trans h.box, h.low, h.ne⟩
  · obtain ⟨cur, hh⟩ := blk_ofz h.ord e.symm
    rw [hb] at hh
    cases hh
  · obtain ⟨cur, hh⟩ := blk_ofz h.ord e.symm
    rw [h.box] at hh
    cases hh
    exact h.ne.2.2 rfl
/-- A block that is none of these. -/
def ExpN (B bM bR : Nat) (va vr vo : Value) (g : Nat) : Prop := va.ownBlock ≠ some g ∧ vr.ownBlock ≠ some g ∧ vo.ownBlock ≠ some g ∧ bM ≠ g ∧ bR ≠ g ∧ B ≤ g
theorem ExpS.fresh (h : ExpS tE sz B bM bR va vr vo accs i rows m xs mm D w) {g : Nat} (hg : w.heap.size ≤ g) : ExpN B bM bR va vr vo g :=
  ⟨fun e => by have := (h.acc.lt g e).2; omega, fun e => by have := (h.row.lt g e).2; omega, fun e => by have := (h.ord.lt g e).2; omega, fun e => by have := h.map.lt; omega, fun e => by have := blk_lt h.box; omega, by have := h.base; omega⟩
theorem ExpS.set (h : ExpS tE sz B bM bR va vr vo accs i rows m xs mm D w) {g o : Nat} (hn : ExpN B bM bR va vr vo g) (u : Value) : ExpS tE sz B bM bR va vr vo accs i rows m xs mm D (w.setCell ⟨g, o, none⟩ u) :=
  ⟨ownsRow_setCell_other h.acc hn.1 _, ownsRow_setCell_other h.row hn.2.1 _, ownsRow_setCell_other h.ord hn.2.2.1 _, h.map.setCell hn.2.2.2.1 _, (Below.heap_setCell _ _ _ _ hn.2.2.2.2.1).trans h.box, h.low, h.ne⟩
theorem ExpS.notAcc (h : ExpS tE sz B bM bR va vr vo accs i rows m xs mm D w) : ∀ e, e ≠ 4 → ∀ g, va.ownBlock = some g → ∃ o, w.heap[g]? = some o ∧ ∀ cur, o ≠ .cells cur e (0, 0) := fun e hne g eg => by
  obtain ⟨cur, hh⟩ := blk_ofz h.acc eg
  exact ⟨_, hh, ne_cells hne.symm⟩
theorem ExpS.notRow (h : ExpS tE sz B bM bR va vr vo accs i rows m xs mm D w) : ∀ e, e ≠ 115 → ∀ g, vr.ownBlock = some g → ∃ o, w.heap[g]? = some o ∧ ∀ cur, o ≠ .cells cur e (0, 0) := fun e hne g eg => by
  obtain ⟨cur, hh⟩ := blk_ofz h.row eg
  exact ⟨_, hh, ne_cells hne.symm⟩
/-- One truth value more. -/
theorem ExpS.acc_push {va' : Value} {b : Bool} (h : ExpS tE sz B bM bR va vr vo accs i rows m xs mm D w) (hown : w'.ownsRow B 4 1 va' (accs.length + 1) (bools accs ++ [.bool b])) (hg : w.grownBy w' va.ownBlock) :
    (∃ x, w'.cell? ⟨bR, 0, none⟩ = some x) ∧ w'.frozen? ⟨bR, 0, none⟩ = false ∧ ExpS tE sz B bM bR va' vr vo (accs ++ [b]) i rows m xs mm D (w'.setCell ⟨bR, 0, none⟩ va') := by
  obtain ⟨es, clock, hb⟩ := h.mapB
  have hbox : w'.heap[bR]? = some (.cells #[va, vr] 98 (0, 0)) := (hg.block _ (blk_lt h.box) (fun e => by
    obtain ⟨cur, hh⟩ := blk_ofz h.acc e.symm
    rw [h.box] at hh
    cases hh)).trans h.box
  obtain ⟨c0, c1, f0, f1⟩ := box2_facts hbox
  have hs : ∀ e, e ≠ 98 → ∃ o, w'.heap[(⟨bR, 0, none⟩ : Addr).block]? = some o ∧ ∀ cur, o ≠ .cells cur e (0, 0) := fun e he => ⟨_, hbox, ne_cells he.symm⟩
  have hmk : w'.ownsMap Try.prog tE (plainElem Try.prog 3) bM mm D := h.map.kept hg (fun e => by
    obtain ⟨cur, hh⟩ := blk_ofz h.acc e.symm
    rw [hb] at hh
    cases hh)
  refine ⟨⟨_, c0⟩, f0, ?_, own_setz (own_far h.row hg (h.notAcc _ (by decide))) (hs _ (by decide)) _, own_setz (own_far h.ord hg (h.notAcc _ h.ne.1)) (hs _ h.ne.2.2) _, hmk.setCell (fun e => ?_) _, heap_setCell_same w' bR 0 _ _ va' hbox, h.low, h.ne⟩
  · have e : bools (accs ++ [b]) = bools accs ++ [.bool b] := by simp [bools]
    rw [e, List.length_append]
    exact own_setz hown (hs _ (by decide)) _
  · have e' : bM = bR := e
    obtain ⟨es', clock', hb', _⟩ := hmk
    rw [e', hbox] at hb'
    cases hb'
/-- One row more. -/
theorem ExpS.row_push {vr' : Value} {i' : Nat} {rows' : List Value} (h : ExpS tE sz B bM bR va vr vo accs i rows m xs mm D w) (hown : w'.ownsRow B 115 3 vr' i' rows') (hg : w.grownBy w' vr.ownBlock) :
    (∃ x, w'.cell? ⟨bR, 1, none⟩ = some x) ∧ w'.frozen? ⟨bR, 1, none⟩ = false ∧ ExpS tE sz B bM bR va vr' vo accs i' rows' m xs mm D (w'.setCell ⟨bR, 1, none⟩ vr') := by
  obtain ⟨es, clock, hb⟩ := h.mapB
  have hbox : w'.heap[bR]? = some (.cells #[va, vr] 98 (0, 0)) := (hg.block _ (blk_lt h.box) (fun e => by
    obtain ⟨cur, hh⟩ := blk_ofz h.row e.symm
    rw [h.box] at hh
    cases hh)).trans h.box
  obtain ⟨c0, c1, f0, f1⟩ := box2_facts hbox
  have hs : ∀ e, e ≠ 98 → ∃ o, w'.heap[(⟨bR, 1, none⟩ : Addr).block]? = some o ∧ ∀ cur, o ≠ .cells cur e (0, 0) := fun e he => ⟨_, hbox, ne_cells he.symm⟩
  have hmk : w'.ownsMap Try.prog tE (plainElem Try.prog 3) bM mm D := h.map.kept hg (fun e => by
    obtain ⟨cur, hh⟩ := blk_ofz h.row e.symm
    rw [hb] at hh
    cases hh)
  refine ⟨⟨_, c1⟩, f1, own_setz (own_far h.acc hg (h.notRow _ (by decide))) (hs _ (by decide)) _, own_setz hown (hs _ (by decide)) _, own_setz (own_far h.ord hg (h.notRow _ h.ne.2.1)) (hs _ h.ne.2.2) _, hmk.setCell (fun e => ?_) _, heap_setCell_same w' bR 1 _ _ vr' hbox, h.low, h.ne⟩
  have e' : bM = bR := e
  obtain ⟨es', clock', hb', _⟩ := hmk
  rw [e', hbox] at hb'
  cases hb'
end

/-! An array of three that is filled in a loop. -/
def Arr3 (w : World) (b : Nat) (f : Nat → Value) : Prop := w.heap[b]? = some (.cells #[f 0, f 1, f 2] 115 (0, 0))
theorem Arr3.same {w w' : World} {b : Nat} {f : Nat → Value} (h : Arr3 w b f) (hs : w'.heap[b]? = w.heap[b]?) : Arr3 w' b f := hs.trans h
theorem Arr3.facts {w : World} {b : Nat} {f : Nat → Value} (h : Arr3 w b f) {k : Nat} (hk : k < 3) : w.cell? ⟨b, k, none⟩ = some (f k) ∧ w.frozen? ⟨b, k, none⟩ = false := by
  refine ⟨(cell_of_row w _ k _ _ (0, 0) h).trans ?_, frozen_of_row w _ k _ _ h⟩
  rcases (show k = 0 ∨ k = 1 ∨ k = 2 by omega) with rfl | rfl | rfl <;> rfl
theorem Arr3.set {w : World} {b : Nat} {f : Nat → Value} (h : Arr3 w b f) {k : Nat} (hk : k < 3) {u : Value} {f' : Nat → Value} (hu : f' k = u) (ho : ∀ j, j < 3 → j ≠ k → f' j = f j) : Arr3 (w.setCell ⟨b, k, none⟩ u) b f' := by
  have h1 := heap_setCell_same w b k _ _ u h
  unfold Arr3
  rw [h1]
  rcases (show k = 0 ∨ k = 1 ∨ k = 2 by omega) with rfl | rfl | rfl
  · rw [hu, ho 1 (by omega) (by omega), ho 2 (by omega) (by omega)]; rfl
  · rw [hu, ho 0 (by omega) (by omega), ho 2 (by omega) (by omega)]; rfl
  · rw [hu, ho 0 (by omega) (by omega), ho 1 (by omega) (by omega)]; rfl
theorem Arr3.lt {w : World} {b : Nat} {f : Nat → Value} (h : Arr3 w b f) : b < w.heap.size := blk_lt h
/-- The first k are known. -/
def cutV (t : Nat → Nat) (k j : Nat) : Value := if j < k then .int .i64 ((t j : Nat) : Int) else .int .i64 0
theorem cutV_step (t : Nat → Nat) (k : Nat) : cutV t (k + 1) k = .int .i64 ((t k : Nat) : Int) ∧ ∀ j, j ≠ k → cutV t (k + 1) j = cutV t k j := by
  refine ⟨by simp [cutV], fun j hj => ?_⟩
  unfold cutV
  by_cases h : j < k
  · rw [if_pos h, if_pos (by omega)]
  · rw [if_neg h, if_neg (by omega)]

/-- A call of a function value, as one step of a region that draws. -/
theorem step_call_val {P : Program} {ops : Array Oper} {o : Oper} {a : Act} {w : World} {K : Act → World → Prop} {Q : Exit → Act → World → Prop} {E : Prop}
    (hg : o.guard = none) (fo : Operand) (args : Array Operand) (ts : Array TypeId) (hop : o.op = Op.call { callee := Callee.value fo, args := args, argTypes := ts }) (f : FuncId) (lb : Array Value) (hf : a.eval fo = .func (.func f) #[] lb) (hent : ∀ args w, (callFunc f args).run P w = .ok (.enter f args) w)
    (vs : Array Value) (hvs : args.map a.eval = vs) {R : Ending → World → Prop} (hC : Calls P f (vs ++ lb) w R) (hR : ∀ e w', R e w' → ∃ v, e = .returned v ∧ K (a.put o.dst v) w') :
    if Region.wanted o (yielded ops a.tmps) = true then Oper.wp P o a w K Q else E := by
  rw [if_pos (by simp [Region.wanted, hg])]
  unfold Oper.wp
  have hrun : (execOp a.eval o).run P w = .ok (.enter f (vs ++ lb)) w := by
    simp [execOp, hop, resolve, invoke, hf, Deferred.ofValue, hent, ← hvs]
  rw [hrun, Oper.upon_enter]
  refine hC.mono fun e w' h => ?_
  obtain ⟨v, rfl, hk⟩ := hR e w' h
  exact hk
/-- A map literal's entry. -/
theorem wpList_insert_own {H : Type} {P : Program} (w : World) {ops : Array Oper} {rest : List Oper} {o : Oper} {a : Act} {Q : Exit → Act → World → Prop}
    (hg : o.guard = none) (m x v : Operand) (t : TypeId) (hop : o.op = Op.insert t m x v)
    (k e : TypeId) (K : Keyed P k) (ht : P.underlying t = some (.map k e)) (R : Value → Option (DataW H × List MemPlace)) (b n : Nat) (D : DataW H)
    (hm : a.eval m = .map (some b)) (hown : w.ownsMap P k R b n D) (hn : n < maxLen) (key val : Value) (kl : Lit) (hx : a.eval x = key) (hv : a.eval v = val) (hkey : keyOf P k key = some kl)
    (d : DataW H) (ps : List MemPlace) (hval : R val = some (d, ps))
    (hK : ∀ w', w'.ownsMap P k R b (n + 1) (D.put kl d) → w.grownBy w' (some b) → wpList P ops Q rest (a.put o.dst undef) w') :
    wpList P ops Q (o :: rest) a w := by
  refine wpList_plain hg fun K' hK' => ?_
  obtain ⟨w', hrun, h1, h2⟩ := hown.update K ht hn hkey hval
  unfold Oper.wp
  simp [execOp, hop, hm, hx, hv, hrun, Result.andThen]
  exact hK' _ _ (hK w' h1 h2)

section
variable {α : Type} [DecidableEq α] [Inhabited α]
/-- The automaton that is found, or the word that too much was met. -/
def ExpPost (x0 : α) (T : α → Nat → α) (acc : α → Bool) (M : Nat) (w : World) (e : Ending) (w' : World) : Prop :=
  (∃ N va vr, Ends x0 T N ∧ N ≤ M ∧ e = .returned (.tuple #[.agg #[va, vr], .bool true]) ∧ AutoV w' va vr (found x0 T acc N) ∧ Below w.heap.size w w') ∨
  ((∀ N, N ≤ M → ¬ Ends x0 T N) ∧ e = .returned (.tuple #[.agg #[.slice none 0 0, .slice none 0 0], .bool false]) ∧ Below w.heap.size w w')
/-- What is met is of the kind that it began with. -/
theorem ords_ok {s0 : α} {g : α → Nat → α} {Ok : α → Prop} (h0 : Ok s0) (hg : ∀ x k, Ok x → k < 3 → Ok (g x k)) {i : Nat} (ha : ∀ j, j < i → j < (ords s0 g (3 * j)).length) : ∀ t, t ≤ 3 * i → ∀ x ∈ ords s0 g t, Ok x := by
  intro t
  induction t with
  | zero => intro _ x hx; simp [ords] at hx; rw [hx]; exact h0
  | succ t ih =>
    intro ht x hx
    have hd : Ok ((ords s0 g t).getD (t / 3) default) := by
      refine ih (by omega) _ (getD_mem ?_)
      have h1 := ha (t / 3) (by omega)
      have h2 := (ords_prefix (s0 := s0) (g := g) (show 3 * (t / 3) ≤ t by omega)).length_le
      omega
    rw [ords] at hx
    split at hx
    · exact ih (by omega) x hx
    · rcases List.mem_append.1 hx with hx | hx
      · exact ih (by omega) x hx
      · rw [List.mem_singleton] at hx
        rw [hx]
        exact hg _ _ hd (by omega)
/-- Too much is met. -/
theorem exp_big {s0 : α} {g : α → Nat → α} {i k M : Nat} (ha : ∀ j, j < i + 1 → j < (ords s0 g (3 * j)).length) (hk : k < 3) (hb : (ords s0 g (3 * i + (k + 1))).length = M + 1) : ∀ N, N ≤ M → ¬ Ends s0 g N := fun N hN => by
  refine Ends.not_big (M := M) (i := i) (fun j hj => ha j (by omega)) ?_ hN
  have := (ords_prefix (s0 := s0) (g := g) (show 3 * i + (k + 1) ≤ 3 * (i + 1) by omega)).length_le
  omega
end

theorem lawInt : Keyed Try.prog 3 := int_keyed Try.underlying3
theorem zeroInt (w : World) : (zeroValue 3).run Try.prog w = .ok (.int .i64 0) w := by kernel_rfl
def klN (x : Nat) : Lit := .int .i64 (x : Int)
theorem klN_inj (x y : Nat) (h : klN x = klN y) : x = y := by
  unfold klN at h
  injection h with _ h
  exact_mod_cast h
theorem klN_wf {x : Nat} (h : x < 9223372036854775807) : (Lit.int .i64 (x : Int)).wf = true := by
  exact WalkArith.wf_i64 (by omega)
theorem klN_key {x : Nat} (h : x < 9223372036854775807) : keyOf Try.prog 3 (.int .i64 (x : Int)) = some (klN x) := keyOf_int_mk Try.underlying3 (klN_wf h)

theorem newB3 (w : World) (x y z : Value) (t : TypeId) : ∀ (j : Nat) (u : Value), [x, y, z][j]? = some u → (w.alloc (.cells #[x, y, z] t)).cell? ((⟨w.heap.size, 0, none⟩ : Addr).add j) = some u := by
  intro j u h
  rw [Addr.add_lit]
  match j, h with
  | 0, h => cases h; simp
  | 1, h => cases h; simp
  | 2, h => cases h; simp
theorem newB2 (w : World) (x y : Value) (t : TypeId) : ∀ (j : Nat) (u : Value), [x, y][j]? = some u → (w.alloc (.cells #[x, y] t)).cell? ((⟨w.heap.size, 0, none⟩ : Addr).add j) = some u := by
  intro j u h
  rw [Addr.add_lit]
  match j, h with
  | 0, h => cases h; simp
  | 1, h => cases h; simp
end Go.Proofs.Ythmfncklepkddaa

/-
  Pairs of states as the program lays them: their cells, their keys. Of no function of the program.
  What impl.explore answers over these: the automaton that a search in breadth numbers, or the word that too much was met.
-/
namespace Go.Proofs.Ythmfncklepkddaa
open Go.RowKit Go.Maps

theorem pairInfo : (Try.prog.info? 64).map (fun i => (i.zero, i.size, i.bytes)) = some (some (.agg #[.int .i64 0, .int .i64 0]), 2, 16) := by kernel_rfl
theorem laidOut_progP : laidOutB Try.prog = true := by kernel_rfl
theorem lawPair : Keyed Try.prog 64 := Keyed.of_law (deep_law_gate laidOut_progP (of_decide_eq_true (by kernel_rfl)) (of_decide_eq_true (by kernel_rfl)) (by kernel_rfl) (by kernel_rfl))
/-- A key. -/
def klP (x : Nat × Nat) : Lit := .string (keyBytes [.int .i64 (x.1 : Int), .int .i64 (x.2 : Int)])
def okP (Ma Mb : Nat) (x : Nat × Nat) : Prop := x.1 < Ma ∧ x.2 < Mb
theorem klP_key {Ma Mb : Nat} (ha : Ma ≤ 2000) (hb : Mb ≤ 2000) {x : Nat × Nat} (h : okP Ma Mb x) : keyOf Try.prog 64 (.agg #[.int .i64 (x.1 : Int), .int .i64 (x.2 : Int)]) = some (klP x) := by
  have h1 := klN_wf (x := x.1) (by have := h.1; omega)
  have h2 := klN_wf (x := x.2) (by have := h.2; omega)
  have hk : Try.prog.keyType 64 = true := by kernel_rfl
  have hc : Try.prog.cellsOf 64 = 2 := by kernel_rfl
  have hi : Try.prog.cellsOf 3 = 1 := by kernel_rfl
  have hsz : 64 < Try.prog.types.size := of_decide_eq_true (by kernel_rfl)
  obtain ⟨m, hm⟩ : ∃ m, Try.prog.types.size = m + 1 := ⟨Try.prog.types.size - 1, by omega⟩
  have hu := Try.underlying64
  have hv := Try.underlying3
  obtain ⟨P, hP⟩ : ∃ P, P = Try.prog := ⟨_, rfl⟩
  rw [← hP] at hk hc hi hm hu hv ⊢
  simp [keyOf, hu, hk, Value.formed, Program.keyLits, hc, hi, Value.cells, hm, hv, h1, h2, klP]
theorem klP_inj {Ma Mb : Nat} (ha : Ma ≤ 2000) (hb : Mb ≤ 2000) (x y : Nat × Nat) (hx : okP Ma Mb x) (hy : okP Ma Mb y) (h : klP x = klP y) : x = y := by
  have h1 := klP_key ha hb hx
  have h2 := klP_key ha hb hy
  rw [← h] at h2
  have h3 := lawPair.inj h1 h2
  have e1 : x.1 = y.1 ∧ x.2 = y.2 := by
    simp at h3
    omega
  exact Prod.ext e1.1 e1.2
/-- As cells. -/
def pairC (l : List (Nat × Nat)) : List Value := l.flatMap fun x => [.int .i64 (x.1 : Int), .int .i64 (x.2 : Int)]
theorem pairC_snoc (l : List (Nat × Nat)) (x : Nat × Nat) : pairC (l ++ [x]) = pairC l ++ [.int .i64 (x.1 : Int), .int .i64 (x.2 : Int)] := by simp [pairC]
theorem pairC_at : ∀ (l : List (Nat × Nat)) (i : Nat), i < l.length → (pairC l)[i * 2]? = some (.int .i64 (((l.getD i default)).1 : Int)) ∧ (pairC l)[i * 2 + 1]? = some (.int .i64 (((l.getD i default)).2 : Int))
  | [], i, h => absurd h (Nat.not_lt_zero _)
  | x :: l, 0, _ => ⟨rfl, rfl⟩
  | x :: l, i + 1, h => by
    have ih := pairC_at l i (by simpa using h)
    have e : pairC (x :: l) = .int .i64 (x.1 : Int) :: .int .i64 (x.2 : Int) :: pairC l := rfl
    rw [e, show (i + 1) * 2 = i * 2 + 1 + 1 by omega]
    simpa using ih

set_option maxRecDepth 100000 in
set_option maxHeartbeats 6400000 in
theorem implExpP_any (g1 g2 : Nat) (fa1 lb1 lb2 : Array Value) (eg1 : ∀ args w, (callFunc g1 args).run Try.prog w = .ok (.enter g1 args) w) (eg2 : ∀ args w, (callFunc g2 args).run Try.prog w = .ok (.enter g2 args) w)
    (T : Nat × Nat → Nat → Nat × Nat) (acc : Nat × Nat → Bool) (Ma Mb : Nat) (M : Nat) (x0 : Nat × Nat) (w : World) (ha : Ma ≤ 2000) (hb : Mb ≤ 2000) (hM : M ≤ 2000) (hM1 : 1 ≤ M) (h0 : okP Ma Mb x0) (hT : ∀ x k, okP Ma Mb x → k < 3 → okP Ma Mb (T x k))
    (H1 : ∀ (V : World) (x : Nat × Nat) (k : Nat), Below w.heap.size w V → okP Ma Mb x → k < 3 → Calls Try.prog g1 (fa1 ++ (#[.agg #[.int .i64 (x.1 : Int), .int .i64 (x.2 : Int)], .int .i64 (k : Int)] ++ lb1)) V fun e w' => e = .returned (.agg #[.int .i64 (((T x k)).1 : Int), .int .i64 (((T x k)).2 : Int)]) ∧ Below V.heap.size V w')
    (H2 : ∀ (V : World) (x : Nat × Nat), Below w.heap.size w V → okP Ma Mb x → Calls Try.prog g2 (#[.agg #[.int .i64 (x.1 : Int), .int .i64 (x.2 : Int)]] ++ lb2) V fun e w' => e = .returned (.bool (acc x)) ∧ Below V.heap.size V w') :
    Calls Try.prog 96 #[.agg #[.int .i64 (x0.1 : Int), .int .i64 (x0.2 : Int)], .func (.func g1) fa1 lb1, .func (.func g2) #[] lb2, .int .i64 (M : Int)] w (ExpPost x0 T acc M w) := by
  obtain ⟨i0, hi, hz0, hz1, hz2⟩ := info_parts pairInfo
  obtain ⟨b0, hbi, hb0, hb1, hb2⟩ := info_parts boolInfo
  obtain ⟨r0, hri, hr0, hr1, hr2⟩ := info_parts rowInfo3
  have hmm := @run_makeMap Try.prog
  have HIn : Hid (∀ x y, okP Ma Mb x → okP Ma Mb y → klP x = klP y → x = y) := Lib.hid (fun x y hx hy h => klP_inj ha hb x y hx hy h)
  have HKy : Hid (∀ x, okP Ma Mb x → keyOf Try.prog 64 (.agg #[.int .i64 (x.1 : Int), .int .i64 (x.2 : Int)]) = some (klP x)) := Lib.hid (fun x h => klP_key ha hb h)
  have HKeys : Hid (∀ i, (∀ j, j < i → j < (ords x0 T (3 * j)).length) → ∀ t, t ≤ 3 * i → ∀ x ∈ ords x0 T t, okP Ma Mb x) := Lib.hid (fun i ha t => ords_ok (Ok := okP Ma Mb) h0 hT ha t)
  have HTT := Lib.hid hT
  have HH1 := Lib.hid H1
  have HH2 := Lib.hid H2
  clear hT H1 H2
  obtain ⟨W2, hW2⟩ : ∃ W2, W2 = ((w.alloc (.cells #[.int .i64 (x0.1 : Int), .int .i64 (x0.2 : Int)] 64)).alloc (.cells #[.slice none 0 0, .slice none 0 0] 98)).alloc (.cells #[.slice none 0 0, .slice none 0 0] 98) := ⟨_, rfl⟩
  have HB2 : Hid (Below w.heap.size w W2) := Lib.hid (by rw [hW2]; exact (((Below.refl _ _).alloc (Nat.le_refl _) _).alloc (by simp) _).alloc (by simp; omega) _)
  have HZ2 : Hid (W2.heap.size = w.heap.size + 1 + 1 + 1) := Lib.hid (by rw [hW2]; simp)
  have HX2 : Hid (W2.heap[w.heap.size + 1]? = some (.cells #[.slice none 0 0, .slice none 0 0] 98 (0, 0)) ∧ W2.heap[w.heap.size + 1 + 1]? = some (.cells #[.slice none 0 0, .slice none 0 0] 98 (0, 0))) := Lib.hid (by
    rw [hW2]
    have h1 := heap_alloc_new (w.alloc (.cells #[.int .i64 (x0.1 : Int), .int .i64 (x0.2 : Int)] 64)) (.cells #[.slice none 0 0, .slice none 0 0] 98)
    have h2 := heap_alloc_new ((w.alloc (.cells #[.int .i64 (x0.1 : Int), .int .i64 (x0.2 : Int)] 64)).alloc (.cells #[.slice none 0 0, .slice none 0 0] 98)) (.cells #[.slice none 0 0, .slice none 0 0] 98)
    rw [World.size_alloc] at h1 h2
    rw [World.size_alloc] at h2
    exact ⟨(Below.heap_alloc _ _ _ (by simp)).trans h1, h2⟩)
  have HP2 : Hid (W2.heap[w.heap.size]? = some (.cells #[.int .i64 (x0.1 : Int), .int .i64 (x0.2 : Int)] 64 (0, 0))) := Lib.hid (by
    rw [hW2]
    exact (Below.heap_alloc _ _ _ (by simp; omega)).trans ((Below.heap_alloc _ _ _ (by simp)).trans (heap_alloc_new w _)))
  go_enter Try.func96, Try.ntmps96
  go_upto_region 2 with fail
  rw [← hW2]
  clear hW2
  have hk0 := HKy.out x0 h0
  have hown0 := World.ownsMap_made (H := Unit) W2 Try.prog 64 (plainElem Try.prog 3)
  have hpa : (W2.alloc (.map #[] 0)).heap[w.heap.size]? = some (.cells #[.int .i64 (x0.1 : Int), .int .i64 (x0.2 : Int)] 64 (0, 0)) := (Below.heap_alloc _ _ _ (by have := HZ2.out; omega)).trans HP2.out
  obtain ⟨p0, p1, -, -⟩ := box2_facts hpa
  have HPa := Lib.hid hpa
  clear hpa
  go_upto_region 3 with (refine wpList_insert_own _ rfl (.tmp 19) (.tmp 20) _ 112 rfl 64 3 lawPair Try.underlying112 _ W2.heap.size 0 _ rfl hown0 (by unfold maxLen; omega) _ _ _ rfl rfl hk0 _ [] (plainElem_int Try.underlying3 (a := 0) (by decide)) ?_; intro w3 hown3 hg3)
  have hp3 : w3.heap[w.heap.size]? = some (.cells #[.int .i64 (x0.1 : Int), .int .i64 (x0.2 : Int)] 64 (0, 0)) := (hg3.block _ (blk_lt HPa.out) (fun e => by injection e with e; have := HZ2.out; omega)).trans HPa.out
  obtain ⟨p2, p3, -, -⟩ := box2_facts hp3
  clear p0 p1 hp3
  go_wp2_with fail
  clear p2 p3
  obtain ⟨bM, hbM⟩ : ∃ bM, bM = W2.heap.size := ⟨_, rfl⟩
  rw [← hbM] at hown3 hg3 ⊢
  obtain ⟨W4, hW4⟩ : ∃ W4, W4 = w3.alloc (.cells #[.int .i64 (x0.1 : Int), .int .i64 (x0.2 : Int)] 64) := ⟨_, rfl⟩
  rw [← hW4]
  obtain ⟨B, hB⟩ : ∃ B, B = w.heap.size + 1 + 1 := ⟨_, rfl⟩
  rw [← hB] at HX2 HZ2 ⊢
  have HBe := Lib.hid hB
  have hmx : MapOf klP (okP Ma Mb) ((DataW.map []).put (klP x0) (.lit (.int .i64 0))) [x0] := (MapOf.nil klP (okP Ma Mb)).put HIn.out (fun x _ => by trivial) h0 (by simp)
  have HS4 : Hid (ExpS 64 2 B bM B (.slice none 0 0) (.slice none 0 0) (.slice (some ⟨w3.heap.size, 0, none⟩) 1 1) [] 0 [] 1 (pairC [x0]) 1 ((DataW.map []).put (klP x0) (.lit (.int .i64 0))) W4 ∧ Below B W2 W4) := Lib.hid (by
    have hg2 : W2.grownBy (W2.alloc (.map #[] 0)) none := World.grownBy_alloc _ _ _
    have hz := HZ2.out
    have hba : Below B W2 (W2.alloc (.map #[] 0)) := (Below.refl _ _).alloc (by omega) _
    have hb3 : Below B W2 w3 := hba.grown hg3 (by simp; omega) (fun k e => by cases e; omega)
    have hb4 : Below B W2 W4 := by rw [hW4]; exact hb3.alloc (by have := hb3.size; omega) _
    refine ⟨⟨⟨rfl, .inl ⟨rfl, rfl⟩⟩, ⟨rfl, .inl ⟨rfl, rfl⟩⟩, ?_, ?_, ?_, ⟨Nat.le_refl _, by omega⟩, by decide, by decide, by decide⟩, hb4⟩
    · rw [hW4]
      exact ⟨rfl, .inr ⟨w3.heap.size, 1, #[.int .i64 (x0.1 : Int), .int .i64 (x0.2 : Int)], rfl, by have := hb3.size; omega, heap_alloc_new w3 _, Nat.le_refl _, by decide, rfl, rfl⟩⟩
    · rw [hW4]
      exact hown3.alloc _
    · rw [hW4]
      have h1 := (hg3.block B (by simp; omega) (fun e => by injection e with e; omega)).trans ((Below.heap_alloc W2 _ B (by omega)).trans HX2.out.2)
      exact (Below.heap_alloc w3 _ B (blk_lt h1)).trans h1)
  have HM4 := Lib.hid hmx
  clear hown0 hown3 hg3 hW4 hmx hB hbM hk0
  have HE0 : Hid (ords x0 T (3 * 0) = [x0]) := Lib.hid rfl
  go_loopw [12, 13] (fun vo iv wr => ∃ (i : Nat) (va vr : Value) (D : DataW Unit), iv = .int .i64 i ∧ i ≤ M ∧ Hid ((ords x0 T (3 * i)).length ≤ M) ∧ Hid (Below B W2 wr) ∧ Hid (∀ j, j < i → j < (ords x0 T (3 * j)).length) ∧ Hid (ExpS 64 2 B bM B va vr vo ((List.range i).map fun j => acc (keyA x0 T j)) i (rowsC x0 T i) (ords x0 T (3 * i)).length (pairC (ords x0 T (3 * i))) (ords x0 T (3 * i)).length D wr ∧ MapOf klP (okP Ma Mb) D (ords x0 T (3 * i)))) (fun _ iv _ => M + 1 - (intOf iv).toNat)
  case atStart => exact ⟨0, _, _, _, rfl, Nat.zero_le _, Lib.hid hM1, Lib.hid HS4.out.2, Lib.hid (fun j hj => absurd hj (Nat.not_lt_zero _)), Lib.hid ⟨HS4.out.1, HM4.out⟩⟩
  case round =>
    obtain ⟨i, va, vr, D, rfl, hin, HLe, HBr, hon, HS⟩ := hrel
    clear HS4 HM4 HE0
    obtain ⟨l, hl⟩ : ∃ l, l = ords x0 T (3 * i) := ⟨_, rfl⟩
    rw [← hl] at HS
    have hll : l.length ≤ M := by rw [hl]; exact HLe.out
    have hl0 : 0 < l.length := by rw [hl]; exact ords_pos _
    obtain ⟨go, co, hvo, -, -⟩ := own_cell HS.out.1.ord hl0
    subst hvo
    have HL := Lib.hid hl
    by_cases hlt : i < l.length
    · have hi1 : i < (ords x0 T (3 * i)).length := by rw [← hl]; exact hlt
      have HON : Hid (∀ j, j < i + 1 → j < (ords x0 T (3 * j)).length) := Lib.hid (fun j hj => by
        rcases Nat.lt_or_eq_of_le (Nat.le_of_lt_succ hj) with h | h
        · exact hon.out j h
        · rw [h]; exact hi1)
      clear hl
      have hd : decide ((i : Int) < (l.length : Int)) = true := by simp; omega
      go_upto_region 9 with fail
      obtain ⟨bx, hbx⟩ : ∃ bx, bx = wr.heap.size := ⟨_, rfl⟩
      obtain ⟨V0, hV0⟩ : ∃ V0, V0 = wr.alloc (.cells #[.int .i64 0, .int .i64 0, .int .i64 0] 115) := ⟨_, rfl⟩
      rw [← hV0, ← hbx]
      obtain ⟨accs, hacc⟩ : ∃ accs, accs = (List.range i).map fun j => acc (keyA x0 T j) := ⟨_, rfl⟩
      obtain ⟨rows, hrows⟩ : ∃ rows, rows = rowsC x0 T i := ⟨_, rfl⟩
      rw [← hacc, ← hrows] at HS
      have HAc := Lib.hid (And.intro hacc hrows)
      have hal : accs.length = i := by rw [hacc]; simp
      have HAl := Lib.hid hal
      have HNx : Hid (ExpN B bM B va vr (.slice (some ⟨go, 0, none⟩) l.length co) bx) := Lib.hid (HS.out.1.fresh (by rw [hbx]; exact Nat.le_refl _))
      have HS0 : Hid (Below B W2 V0 ∧ (ExpS 64 2 B bM B va vr (.slice (some ⟨go, 0, none⟩) l.length co) accs i rows (ords x0 T (3 * i + 0)).length (pairC (ords x0 T (3 * i + 0))) (ords x0 T (3 * i + 0)).length D V0 ∧ MapOf klP (okP Ma Mb) D (ords x0 T (3 * i + 0))) ∧ Arr3 V0 bx (cutV (toA x0 T i) 0)) := Lib.hid (by
        rw [Nat.add_zero, ← HL.out]
        refine ⟨by rw [hV0]; exact HBr.out.alloc (Nat.le_of_lt HS.out.1.base) _, ⟨HS.out.1.below (by rw [hV0]; exact (Below.refl _ _).alloc (Nat.le_refl _) _), HS.out.2⟩, ?_⟩
        rw [hV0, hbx]
        exact heap_alloc_new wr _)
      clear hd hV0 hacc hrows hal HS hbx
      go_loopw [12, 30] (fun vo kv wq => ∃ (k : Nat) (D : DataW Unit), kv = .int .i64 k ∧ k ≤ 3 ∧ Hid ((ords x0 T (3 * i + k)).length ≤ M) ∧ Hid (Below B W2 wq ∧ (ExpS 64 2 B bM B va vr vo accs i rows (ords x0 T (3 * i + k)).length (pairC (ords x0 T (3 * i + k))) (ords x0 T (3 * i + k)).length D wq ∧ MapOf klP (okP Ma Mb) D (ords x0 T (3 * i + k))) ∧ Arr3 wq bx (cutV (toA x0 T i) k))) (fun _ kv _ => 3 - (intOf kv).toNat)
      case atStart => exact ⟨0, _, rfl, Nat.zero_le _, HLe, HS0⟩
      case round =>
        obtain ⟨k, Dk, rfl, hk, HLk, HQ⟩ := hrel
        clear HS0
        by_cases hk3 : k < 3
        · obtain ⟨st1, st2⟩ := keyA_step (s0 := x0) (g := T) hi1 hk3
          obtain ⟨hil, hkey⟩ := keyA_at (s0 := x0) (g := T) (t := 3 * i + k) hi1 (by omega)
          have hxM : okP Ma Mb (keyA x0 T i) := HKeys.out (i + 1) HON.out (3 * i) (by omega) _ (getD_mem hi1)
          obtain ⟨x, hx⟩ : ∃ x, x = keyA x0 T i := ⟨_, rfl⟩
          obtain ⟨lq, hlq⟩ : ∃ lq, lq = ords x0 T (3 * i + k) := ⟨_, rfl⟩
          rw [← hx, ← hlq] at st1 st2
          rw [← hlq] at HQ hil hkey
          rw [← hx] at hkey hxM
          have hlqM : lq.length ≤ M := by rw [hlq]; exact HLk.out
          have HLq := Lib.hid (And.intro hlq hx)
          have HLe2 := Lib.hid hlqM
          clear hlq hx
          obtain ⟨y, hy⟩ : ∃ y, y = T x k := ⟨_, rfl⟩
          have hyM : okP Ma Mb y := by rw [hy]; exact HTT.out x k hxM hk3
          rw [← hy] at st1 st2
          obtain ⟨gq, cq, hvq, -, hcq⟩ := own_cell HQ.out.2.1.1.ord (by omega)
          subst hvq
          have hpc := pairC_at lq i hil
          rw [hkey] at hpc
          have hci := (hcq (i * 2) (by omega)).trans hpc.1
          have hcj := (hcq (i * 2 + 1) (by omega)).trans hpc.2
          clear hpc
          have HC1 : Hid (Calls Try.prog g1 (fa1 ++ (#[.agg #[.int .i64 (x.1 : Int), .int .i64 (x.2 : Int)], .int .i64 (k : Int)] ++ lb1)) wr fun e w' => e = .returned (.agg #[.int .i64 (y.1 : Int), .int .i64 (y.2 : Int)]) ∧ Below wr.heap.size wr w') := Lib.hid (by
            rw [hy]
            refine HH1.out wr x k (HB2.out.trans (HQ.out.1.mono ?_)) hxM hk3
            have := HBe.out
            omega)
          have HSt := Lib.hid (And.intro st1 st2)
          have s1 : (i : Int) < (lq.length : Int) := by omega
          have s2 : (0 : Int) ≤ (i : Int) := by omega
          have s3 : (k : Int) < 3 := by omega
          have s4 : (0 : Int) ≤ (k : Int) := by omega
          clear hcq st1 st2 hkey hy
          go_wp2_with fail
          refine HC1.out.mono ?_
          rintro e w4 ⟨rfl, hb4⟩
          clear hci hcj
          go_upto_region 12 with fail
          obtain ⟨be, hbe⟩ : ∃ be, be = w4.heap.size := ⟨_, rfl⟩
          obtain ⟨w5, hw5⟩ : ∃ w5, w5 = w4.alloc (.cells #[.int .i64 (y.1 : Int), .int .i64 (y.2 : Int)] 64) := ⟨_, rfl⟩
          rw [← hw5, ← hbe]
          have hb5 : Below wr.heap.size wr w5 := by rw [hw5]; exact hb4.alloc hb4.size _
          have HE5 : Hid (w5.heap[be]? = some (.cells #[.int .i64 (y.1 : Int), .int .i64 (y.2 : Int)] 64 (0, 0)) ∧ bM ≠ be) := Lib.hid (by
            rw [hw5, hbe]
            refine ⟨heap_alloc_new w4 _, fun e => ?_⟩
            have h1 := HQ.out.2.1.1.map.lt
            have h2 := hb4.size
            omega)
          obtain ⟨p0, p1, -, -⟩ := box2_facts HE5.out.1
          clear hb4 hbe hw5
          have HQ5 := Lib.hid (And.intro (HQ.out.1.trans (hb5.mono (Nat.le_trans (by have := HZ2.out; omega) HQ.out.1.size))) (And.intro (HQ.out.2.1.1.below hb5) (HQ.out.2.2.same (hb5.block _ HQ.out.2.2.lt))))
          have HMo := Lib.hid HQ.out.2.1.2
          obtain ⟨kf1, kf2⟩ := HQ5.out.2.2.facts hk3
          have hky := HKy.out y hyM
          clear hb5
          by_cases hyl : y ∈ lq
          · have hhas : Maps.has Dk (klP y) = true := by rw [(HMo.out.2 y hyM).1]; simpa using hyl
            have HHit := Lib.hid (And.intro ((HMo.out.2 y hyM).2 hyl) (HSt.out.1 hyl))
            clear hyl
            go_wp2_with (at_lookup; refine wpList_lookup_own_ok_int _ rfl (.tmp 41) (.tmp 42) 112 rfl 64 3 .i64 lawPair Try.underlying112 Try.underlying3 (zeroInt _) bM _ _ rfl HQ5.out.2.1.map _ _ rfl hky ?_; intro c hat hwc)
            have hc : c = ((toA x0 T i k : Nat) : Int) := by
              have h1 := HHit.out.1 (.lit (.int .i64 0))
              rw [hat] at h1
              rw [HHit.out.2.2]
              injection h1 with h1
              injection h1 with _ h1
            subst hc
            have HQ6 : Hid (Below B W2 (w5.setCell ⟨bx, k, none⟩ (.int .i64 ((toA x0 T i k : Nat) : Int))) ∧ (ExpS 64 2 B bM B va vr (.slice (some ⟨gq, 0, none⟩) lq.length cq) accs i rows (ords x0 T (3 * i + (k + 1))).length (pairC (ords x0 T (3 * i + (k + 1)))) (ords x0 T (3 * i + (k + 1))).length Dk (w5.setCell ⟨bx, k, none⟩ (.int .i64 ((toA x0 T i k : Nat) : Int))) ∧ MapOf klP (okP Ma Mb) Dk (ords x0 T (3 * i + (k + 1)))) ∧ Arr3 (w5.setCell ⟨bx, k, none⟩ (.int .i64 ((toA x0 T i k : Nat) : Int))) bx (cutV (toA x0 T i) (k + 1))) := Lib.hid (by
              have hN := HNx.out
              rw [HHit.out.2.1]
              refine ⟨below_set HQ5.out.1 hN.2.2.2.2.2 _, ⟨HQ5.out.2.1.set ⟨hN.1, hN.2.1, fun e => ?_, hN.2.2.2.1, hN.2.2.2.2.1, hN.2.2.2.2.2⟩ _, HMo.out⟩, HQ5.out.2.2.set hk3 (cutV_step _ k).1 (fun j _ hj => (cutV_step _ k).2 j hj)⟩
              obtain ⟨cur, hh⟩ := blk_ofz HQ5.out.2.1.ord e
              exact blk_ne hh HQ5.out.2.2 (by decide) rfl)
            clear kf1 kf2 hat hhas hwc p0 p1
            go_wp2_with fail
            go_roundw
            case rel => exact ⟨k + 1, Dk, by go_num, by omega, Lib.hid (by rw [HHit.out.2.1]; exact HLe2.out), HQ6⟩
            case measure => simp [intOf]; omega
          · have hhas : Maps.has Dk (klP y) = false := by rw [(HMo.out.2 y hyM).1]; simpa using hyl
            have HMiss := Lib.hid (And.intro hyl (HSt.out.2 hyl))
            clear hyl
            by_cases hfull : lq.length = M
            · have hcmp : ((lq.length : Int) == (M : Int)) = true := by simp; omega
              have HBig := Lib.hid (exp_big (M := M) HON.out hk3 (by rw [HMiss.out.2.1, List.length_append, hfull]; rfl))
              obtain ⟨c0, c1, k0, k1⟩ := box2_facts ((HQ5.out.1.block _ (by have := HBe.out; omega)).trans HX2.out.1)
              obtain ⟨hcl, hsz, hot, hBl⟩ := put2 (k := .slice none 0 0) (l := .slice none 0 0) c0 c1
              obtain ⟨hc0, hc1⟩ := hcl
              have HOt := Lib.hid (And.intro HQ5.out.1 hBl)
              clear hsz hot hBl kf1 kf2
              go_wp2_with (at_lookup; refine wpList_lookup_own_ok_int _ rfl (.tmp 41) (.tmp 42) 112 rfl 64 3 .i64 lawPair Try.underlying112 Try.underlying3 (zeroInt _) bM _ _ rfl HQ5.out.2.1.map _ _ rfl hky ?_; intro c hat hwc)
              refine bodyPost_ret (v := .tuple #[.agg #[.slice none 0 0, .slice none 0 0], .bool false]) (by simp [results, Try.results96, go_sem, hc0, hc1]) rfl ?_
              exact .inr ⟨HBig.out, rfl, HOt.out.2 _ _ (HB2.out.trans (HOt.out.1.mono (by have := HBe.out; omega))) (Nat.le_succ _)⟩
            have hcmp : ((lq.length : Int) == (M : Int)) = false := by simp; omega
            have hroom : lq.length + 1 ≤ M := by omega
            have HRoom := Lib.hid hroom
            clear hfull
            go_upto_region 17 with (at_lookup; refine wpList_lookup_own_ok_int _ rfl (.tmp 41) (.tmp 42) 112 rfl 64 3 .i64 lawPair Try.underlying112 Try.underlying3 (zeroInt _) bM _ _ rfl HQ5.out.2.1.map _ _ rfl hky ?_; intro c hat hwc)
            go_upto_region 18 with (at_mapUpdate; refine wpList_mapUpdate_own _ rfl (.tmp 55) (.tmp 56) (.tmp 57) 112 rfl 64 3 lawPair Try.underlying112 _ bM lq.length Dk rfl HQ5.out.2.1.map (by unfold maxLen; omega) _ _ _ rfl rfl hky _ [] (plainElem_int Try.underlying3 (klN_wf (x := lq.length) (by omega))) ?_; intro w6 hown6 hg6)
            have HQ6 := Lib.hid (HQ5.out.2.1.map_put hown6 hg6)
            have HA6 : Hid (Below B W2 w6 ∧ Arr3 w6 bx (cutV (toA x0 T i) k)) := Lib.hid ⟨HQ5.out.1.grown hg6 (Nat.le_of_lt HQ5.out.2.1.base) (fun j e => by injection e with e; rw [← e]; exact HQ5.out.2.1.low.2), HQ5.out.2.2.same (hg6.block bx HQ5.out.2.2.lt (fun e => HNx.out.2.2.2.1 (by injection e with e; exact e.symm)))⟩
            have hbw6 : B ≤ w6.heap.size := Nat.le_of_lt HQ6.out.base
            have HMp := Lib.hid (HMo.out.put HIn.out (fun x _ => by trivial) hyM HMiss.out.1)
            obtain ⟨p4, p5, -, -⟩ := box2_facts ((hg6.block be (blk_lt HE5.out.1) (fun e => HE5.out.2 (by injection e with e; exact e.symm))).trans HE5.out.1)
            clear hown6 hg6 hat hwc hhas kf1 kf2 p0 p1
            go_wp2_with (at_builtin; refine wpList_append_own_at _ rfl (.tmp 58) (.tmp 60) 113 rfl B 64 i0 (.agg #[.int .i64 0, .int .i64 0]) 2 16 Try.underlying113 hi hz0 hz1 hz2 rfl (by decide) _ _ _ rfl (HQ6.out.ord.alloc _) ⟨w6.heap.size, 0, none⟩ 1 1 [.int .i64 (y.1 : Int), .int .i64 (y.2 : Int)] rfl rfl (newB2 _ _ _ _) (by simp [Value.oneCell']) (by unfold maxLen; omega) (by omega) (by simp; omega) ?_)
            intro v' w7 hown' hgrow hnil hat
            have HQ7 : Hid (ExpS 64 2 B bM B va vr v' accs i rows (ords x0 T (3 * i + (k + 1))).length (pairC (ords x0 T (3 * i + (k + 1)))) (ords x0 T (3 * i + (k + 1))).length (Dk.put (klP y) (.lit (.int .i64 ((lq.length : Nat) : Int)))) w7) := Lib.hid (by
              have h1 := (HQ6.out.below ((Below.refl _ _).alloc (Nat.le_refl _) (.cells #[.int .i64 (y.1 : Int), .int .i64 (y.2 : Int)] 64))).ord_push hown' hgrow
              rw [HMiss.out.2.1]
              rw [pairC_snoc, List.length_append]
              exact h1)
            have HA7 : Hid (Below B W2 w7 ∧ Arr3 w7 bx (cutV (toA x0 T i) k)) := Lib.hid (by
              refine ⟨(HA6.out.1.alloc hbw6 (.cells #[.int .i64 (y.1 : Int), .int .i64 (y.2 : Int)] 64)).grown hgrow (by simp; omega) (fun j e => (HQ6.out.ord.lt j e).1), ?_⟩
              have h1 : Arr3 (w6.alloc (.cells #[.int .i64 (y.1 : Int), .int .i64 (y.2 : Int)] 64)) bx (cutV (toA x0 T i) k) := HA6.out.2.same (Below.heap_alloc _ _ _ HA6.out.2.lt)
              refine h1.same (hgrow.block bx h1.lt (fun e => ?_))
              obtain ⟨cur, hh⟩ := blk_ofz HQ6.out.ord e.symm
              exact blk_ne hh HA6.out.2 (by decide) rfl)
            obtain ⟨kf1, kf2⟩ := HA7.out.2.facts hk3
            clear hown' hgrow hnil hat p4 p5
            have HQ8 : Hid (Below B W2 (w7.setCell ⟨bx, k, none⟩ (.int .i64 ((lq.length : Nat) : Int))) ∧ (ExpS 64 2 B bM B va vr v' accs i rows (ords x0 T (3 * i + (k + 1))).length (pairC (ords x0 T (3 * i + (k + 1)))) (ords x0 T (3 * i + (k + 1))).length (Dk.put (klP y) (.lit (.int .i64 ((lq.length : Nat) : Int)))) (w7.setCell ⟨bx, k, none⟩ (.int .i64 ((lq.length : Nat) : Int))) ∧ MapOf klP (okP Ma Mb) (Dk.put (klP y) (.lit (.int .i64 ((lq.length : Nat) : Int)))) (ords x0 T (3 * i + (k + 1)))) ∧ Arr3 (w7.setCell ⟨bx, k, none⟩ (.int .i64 ((lq.length : Nat) : Int))) bx (cutV (toA x0 T i) (k + 1))) := Lib.hid (by
              have hN := HNx.out
              refine ⟨below_set HA7.out.1 hN.2.2.2.2.2 _, ⟨HQ7.out.set ⟨hN.1, hN.2.1, fun e => ?_, hN.2.2.2.1, hN.2.2.2.2.1, hN.2.2.2.2.2⟩ _, by rw [HMiss.out.2.1]; exact HMp.out⟩, HA7.out.2.set hk3 ?_ (fun j _ hj => (cutV_step _ k).2 j hj)⟩
              · obtain ⟨cur, hh⟩ := blk_ofz HQ7.out.ord e
                exact blk_ne hh HA7.out.2 (by decide) rfl
              · rw [(cutV_step _ k).1, HMiss.out.2.2])
            go_wp2_with fail
            go_roundw
            case rel => exact ⟨k + 1, _, by go_num, by omega, Lib.hid (by rw [HMiss.out.2.1, List.length_append]; exact HRoom.out), HQ8⟩
            case measure => simp [intOf]; omega
        · obtain rfl : k = 3 := by omega
          obtain ⟨hil, hkey⟩ := keyA_at (s0 := x0) (g := T) (t := 3 * i + 3) hi1 (by omega)
          have hxM : okP Ma Mb (keyA x0 T i) := HKeys.out (i + 1) HON.out (3 * i) (by omega) _ (getD_mem hi1)
          obtain ⟨x, hx⟩ : ∃ x, x = keyA x0 T i := ⟨_, rfl⟩
          obtain ⟨lq, hlq⟩ : ∃ lq, lq = ords x0 T (3 * i + 3) := ⟨_, rfl⟩
          rw [← hlq] at HQ hil hkey
          rw [← hx] at hkey hxM
          have hlqM : lq.length ≤ M := by rw [hlq]; exact HLk.out
          have HLq := Lib.hid (And.intro hlq hx)
          have HLe2 := Lib.hid hlqM
          clear hlq hx
          obtain ⟨gq, cq, hvq, -, hcq⟩ := own_cell HQ.out.2.1.1.ord (by omega)
          subst hvq
          have hpc := pairC_at lq i hil
          rw [hkey] at hpc
          have hci := (hcq (i * 2) (by omega)).trans hpc.1
          have hcj := (hcq (i * 2 + 1) (by omega)).trans hpc.2
          clear hpc
          obtain ⟨b, hb⟩ : ∃ b, b = acc x := ⟨_, rfl⟩
          have HC2 : Hid (Calls Try.prog g2 (#[.agg #[.int .i64 (x.1 : Int), .int .i64 (x.2 : Int)]] ++ lb2) wr.drew fun e w' => e = .returned (.bool b) ∧ Below wr.drew.heap.size wr.drew w') := Lib.hid (by
            rw [hb]
            refine HH2.out wr.drew x ((HB2.out.trans (HQ.out.1.mono ?_)).drew) hxM
            have := HBe.out
            omega)
          have HBb' := Lib.hid hb
          have s1 : (i : Int) < (lq.length : Int) := by omega
          have s2 : (0 : Int) ≤ (i : Int) := by omega
          have hal : accs.length ≤ 2000 := by rw [HAl.out]; omega
          have hbwr : B ≤ wr.heap.size := Nat.le_of_lt HQ.out.2.1.1.base
          have HQd := Lib.hid (HQ.out.2.1.1.below (Below.refl _ _).drew)
          obtain ⟨e0, -, e2, -⟩ := box2_facts HQ.out.2.1.1.box
          obtain ⟨e4, -, e6, -⟩ := box2_facts HQd.out.box
          obtain ⟨Aa, qa, hva⟩ := (RowO.of_owns HQ.out.2.1.1.acc (by omega)).row.shape
          rw [bools_length] at hva
          subst hva
          clear hcq hkey hb
          go_upto_region 21 with fail
          go_cut [] from 66 to 76 (fun wc => ∃ va2, Hid (ExpS 64 2 B bM B va2 vr (.slice (some ⟨gq, 0, none⟩) lq.length cq) (accs ++ [b]) i rows lq.length (pairC lq) lq.length Dk wc) ∧ Hid (Below B W2 wc ∧ Arr3 wc bx (cutV (toA x0 T i) 3)))
          case first =>
            go_region_law (first
              | (refine step_call_val rfl (.tmp 68) _ _ rfl g2 lb2 (by simp [Act.eval]) eg2 #[.agg #[.int .i64 (x.1 : Int), .int .i64 (x.2 : Int)]] (by simp [Act.eval]) HC2.out ?_; rintro e w1 ⟨rfl, hb1⟩; have HO1 := Lib.hid (HQd.out.below hb1); have HA1 := Lib.hid (And.intro (HQ.out.1.drew.trans (hb1.mono (by show B ≤ wr.heap.size; omega))) (HQ.out.2.2.same (hb1.block bx HQ.out.2.2.lt))); obtain ⟨l0, -, l2, -⟩ := box2_facts HO1.out.box; have HO1a := Lib.hid (HO1.out.below ((Below.refl _ _).alloc (Nat.le_refl _) (.cells #[.bool b] 4))); obtain ⟨l4, -, l6, -⟩ := box2_facts HO1a.out.box; have hbw1 : B ≤ w1.heap.size := Nat.le_of_lt HO1.out.base; clear hb1; refine ⟨_, rfl, ?_⟩)
              | (refine step_append_own_at rfl (.tmp 67) (.tmp 74) 24 rfl B 4 b0 (.bool false) 1 1 Try.underlying24 hbi hb0 hb1 hb2 rfl (by decide) _ _ _ rfl (HO1.out.acc.alloc _) ⟨w1.heap.size, 0, none⟩ 1 1 [.bool b] rfl rfl (cell_one_new w1 _ _) (by simp [Value.oneCell']) (by unfold maxLen; omega) (by omega) (by simp; omega) ?_; intro v' w9 hown' hgrow hat; obtain ⟨g', cap', rfl⟩ := own_succ hown'; have HB9 := Lib.hid (((HA1.out.1.alloc hbw1 (.cells #[.bool b] 4)).grown hgrow (by simp; omega) (fun g e => (HO1.out.acc.lt g e).1)).setCell (p := ⟨B, 0, none⟩) (Nat.le_refl _) (.slice (some ⟨g', 0, none⟩) (accs.length + 1) cap')); obtain ⟨z1, z2, HQ9⟩ := HO1a.out.acc_push hown' hgrow; obtain ⟨z0, z1⟩ := z1; have HQ9 := Lib.hid HQ9; have HG9 := Lib.hid hgrow))
            all_goals
              have HX9 : Hid (Arr3 (w9.setCell ⟨B, 0, none⟩ (.slice (some ⟨g', 0, none⟩) (accs.length + 1) cap')) bx (cutV (toA x0 T i) 3)) := Lib.hid (by
                have hxa : Arr3 (w1.alloc (.cells #[.bool b] 4)) bx (cutV (toA x0 T i) 3) := HA1.out.2.same (Below.heap_alloc _ _ _ HA1.out.2.lt)
                refine (hxa.same (HG9.out.block bx hxa.lt (fun e => HNx.out.1 ?_))).same (Below.heap_setCell _ _ _ _ (fun e => HNx.out.2.2.2.2.1 (Eq.symm e)))
                exact e.symm)
              clear hown' hgrow hat z1 z2 l0 l2 l4 l6 e0 e2 e4 e6
              go_wp2_with fail
              go_meet
              exact ⟨_, HQ9, Lib.hid ⟨HB9.out, HX9.out⟩⟩
          case rest =>
            obtain ⟨va2, HQ9, HA9⟩ := hcut
            clear e0 e2 e4 e6 hci hcj
            have hbw9 : B ≤ wc.heap.size := Nat.le_of_lt HQ9.out.base
            obtain ⟨-, e1, -, e3⟩ := box2_facts HQ9.out.box
            have hx3 : Bx3 wc bx (.int .i64 ((toA x0 T i 0 : Nat) : Int)) (.int .i64 ((toA x0 T i 1 : Nat) : Int)) (.int .i64 ((toA x0 T i 2 : Nat) : Int)) 115 := HA9.out.2
            obtain ⟨⟨c0, c1, c2⟩, -⟩ := hx3.facts
            clear hx3
            obtain ⟨t0, ht0⟩ : ∃ y : Int, y = ((toA x0 T i 0 : Nat) : Int) := ⟨_, rfl⟩
            obtain ⟨t1, ht1⟩ : ∃ y : Int, y = ((toA x0 T i 1 : Nat) : Int) := ⟨_, rfl⟩
            obtain ⟨t2, ht2⟩ : ∃ y : Int, y = ((toA x0 T i 2 : Nat) : Int) := ⟨_, rfl⟩
            rw [← ht0] at c0
            rw [← ht1] at c1
            rw [← ht2] at c2
            have HRw : Hid (rows ++ [.int .i64 t0, .int .i64 t1, .int .i64 t2] = rowsC x0 T (i + 1)) := Lib.hid (by rw [rowsC_succ, HAc.out.2, ht0, ht1, ht2]; rfl)
            clear ht0 ht1 ht2
            go_wp2_with (at_builtin; refine wpList_append_own_at _ rfl (.tmp 78) (.tmp 80) 96 rfl B 115 r0 (.agg #[.int .i64 0, .int .i64 0, .int .i64 0]) 3 24 Try.underlying96 hri hr0 hr1 hr2 rfl (by decide) _ _ _ rfl (HQ9.out.row.alloc _) ⟨wc.heap.size, 0, none⟩ 1 1 [.int .i64 t0, .int .i64 t1, .int .i64 t2] rfl rfl (newB3 wc _ _ _ _) (by simp [Value.oneCell']) (by unfold maxLen; omega) (by omega) (by simp; omega) ?_)
            intro v' w9 hown' hgrow hnil hat
            obtain ⟨gn, capn, rfl⟩ := own_succ hown'
            obtain ⟨⟨z0, z1⟩, z2, HQb⟩ := (HQ9.out.below ((Below.refl _ _).alloc (Nat.le_refl _) (.cells #[.int .i64 t0, .int .i64 t1, .int .i64 t2] 115))).row_push hown' hgrow
            rw [HRw.out] at HQb
            have HQb := Lib.hid HQb
            have HBb := Lib.hid (((HA9.out.1.alloc hbw9 (.cells #[.int .i64 t0, .int .i64 t1, .int .i64 t2] 115)).grown hgrow (by simp; omega) (fun g e => (HQ9.out.row.lt g e).1)).setCell (p := ⟨B, 1, none⟩) (Nat.le_refl _) (.slice (some ⟨gn, 0, none⟩) (i + 1) capn))
            have HA1 : Hid (accs ++ [b] = (List.range (i + 1)).map fun j => acc (keyA x0 T j)) := Lib.hid (by rw [List.range_succ, List.map_append, HAc.out.1, HBb'.out, HLq.out.2]; rfl)
            rw [HA1.out] at HQb
            have HMk := Lib.hid HQ.out.2.1.2
            clear hown' hgrow hnil hat
            go_wp2_with fail
            go_roundw
            case rel => exact ⟨i + 1, _, _, Dk, by go_num, by omega, Lib.hid (by rw [show 3 * (i + 1) = 3 * i + 3 by omega]; exact HLk.out), HBb, HON, by
              rw [show 3 * (i + 1) = 3 * i + 3 by omega, ← HLq.out.1]
              exact Lib.hid ⟨HQb.out, HMk.out⟩⟩
            case measure => simp [intOf]; omega
    · have hE : Ends x0 T i := ⟨hon.out, by rw [← hl]; omega⟩
      have hEl := hE.length
      have hiM : i ≤ M := by rw [← hEl]; exact HLe.out
      have hi0 := hE.pos
      have HE := Lib.hid hE
      obtain ⟨ga, ca, rfl, hga, hca⟩ := own_cell HS.out.1.acc (by simp; omega)
      obtain ⟨gr, cr, rfl, hgr, hcr⟩ := own_cell HS.out.1.row hi0
      have HAu : Hid (∀ V : World, (∀ g, g ≠ w.heap.size + 1 → V.heap[g]? = wr.heap[g]?) → AutoV V (.slice (some ⟨ga, 0, none⟩) i ca) (.slice (some ⟨gr, 0, none⟩) i cr) (found x0 T acc i)) := Lib.hid (fun V hV => ⟨ga, ca, gr, cr, rfl, rfl, fun q hq => by
          have hq' : q < i := hq
          have hBe := HBe.out
          rw [World.cell?_of_block (w := wr) (a := ⟨ga, q, none⟩) (hV ga (by omega))]
          rw [hca q (by simp; omega), (found_keyA hE acc hq').1]
          simp [bools, hq'], fun q hq k hk => by
          have hq' : q < i := hq
          have hBe := HBe.out
          rw [World.cell?_of_block (w := wr) (a := ⟨gr, q * 3 + k, none⟩) (hV gr (by omega))]
          rw [hcr (q * 3 + k) (by omega), rowsC_at i q k hq' hk, (found_keyA hE acc hq').2 k hk]⟩)
      obtain ⟨e0, e1, -, -⟩ := box2_facts HS.out.1.box
      have hln : ((List.range i).map fun j => acc (keyA x0 T j)).length = i := by simp
      rw [hln] at e0
      have hyb := (HBr.out.block _ (by have := HBe.out; omega)).trans HX2.out.1
      obtain ⟨c0, c1, k0, k1⟩ := box2_facts hyb
      have hd : decide ((i : Int) < (l.length : Int)) = false := by simp; omega
      obtain ⟨hcl, hsz, hot, hBl⟩ := put2 (k := .slice (some ⟨ga, 0, none⟩) i ca) (l := .slice (some ⟨gr, 0, none⟩) i cr) c0 c1
      obtain ⟨hc0, hc1⟩ := hcl
      have HOt := Lib.hid (And.intro hsz (And.intro hot hBl))
      clear hsz hot hBl hyb hl hca hcr hln hE hEl hga hgr
      go_wp2_with fail
      refine bodyPost_ret (v := .tuple #[.agg #[.slice (some ⟨ga, 0, none⟩) i ca, .slice (some ⟨gr, 0, none⟩) i cr], .bool true]) (by simp [results, Try.results96, go_sem, hc0, hc1]) rfl ?_
      exact .inl ⟨i, _, _, HE.out, hiM, rfl, HAu.out _ HOt.out.2.1, HOt.out.2.2 _ _ (HB2.out.trans (HBr.out.mono (by have := HBe.out; omega))) (Nat.le_succ _)⟩
end Go.Proofs.Ythmfncklepkddaa

namespace Go.Proofs.Ythmfncklepkddaa
open Go.RowKit

set_option maxRecDepth 100000 in
set_option maxHeartbeats 3200000 in
theorem implMdP_any (g1 g2 : Nat) (fa1 lb1 lb2 : Array Value) (eg1 : ∀ args w, (callFunc g1 args).run Try.prog w = .ok (.enter g1 args) w) (eg2 : ∀ args w, (callFunc g2 args).run Try.prog w = .ok (.enter g2 args) w)
    (T : Nat × Nat → Nat → Nat × Nat) (acc : Nat × Nat → Bool) (Ma Mb : Nat) (M : Nat) (x0 : Nat × Nat) (w : World) (ha : Ma ≤ 2000) (hb : Mb ≤ 2000) (hM : M ≤ 2000) (hM1 : 1 ≤ M) (h0 : okP Ma Mb x0) (hT : ∀ x k, okP Ma Mb x → k < 3 → okP Ma Mb (T x k))
    (H1 : ∀ (V : World) (x : Nat × Nat) (k : Nat), Below w.heap.size w V → okP Ma Mb x → k < 3 → Calls Try.prog g1 (fa1 ++ (#[.agg #[.int .i64 (x.1 : Int), .int .i64 (x.2 : Int)], .int .i64 (k : Int)] ++ lb1)) V fun e w' => e = .returned (.agg #[.int .i64 (((T x k)).1 : Int), .int .i64 (((T x k)).2 : Int)]) ∧ Below V.heap.size V w')
    (H2 : ∀ (V : World) (x : Nat × Nat), Below w.heap.size w V → okP Ma Mb x → Calls Try.prog g2 (#[.agg #[.int .i64 (x.1 : Int), .int .i64 (x.2 : Int)]] ++ lb2) V fun e w' => e = .returned (.bool (acc x)) ∧ Below V.heap.size V w')
    (y : Dx) (ok : Bool) (hy : srchR M x0 T acc y ok) :
    Calls Try.prog 100 #[.agg #[.int .i64 (x0.1 : Int), .int .i64 (x0.2 : Int)], .func (.func g1) fa1 lb1, .func (.func g2) #[] lb2, .int .i64 (M : Int)] w (CopyDB y ok w) := by
  obtain ⟨W0, hW0⟩ : ∃ W0, W0 = (w.alloc (.cells #[.int .i64 (x0.1 : Int), .int .i64 (x0.2 : Int)] 64)).alloc (.cells #[.slice none 0 0, .slice none 0 0] 27) := ⟨_, rfl⟩
  have HB0 : Hid (Below w.heap.size w W0) := Lib.hid (by rw [hW0]; exact ((Below.refl _ _).alloc (Nat.le_refl _) _).alloc (by simp) _)
  have HY : Hid (W0.heap[w.heap.size + 1]? = some (.cells #[.slice none 0 0, .slice none 0 0] 27 (0, 0))) := Lib.hid (by rw [hW0]; exact three2 w _ _ _ _)
  have HEx := Lib.hid (implExpP_any g1 g2 fa1 lb1 lb2 eg1 eg2 T acc Ma Mb M x0 W0 ha hb hM hM1 h0 hT (fun V x k hV hx hk => H1 V x k (HB0.out.trans (hV.mono HB0.out.size)) hx hk) (fun V x hV hx => H2 V x (HB0.out.trans (hV.mono HB0.out.size)) hx))
  have HYy := Lib.hid hy
  obtain ⟨q0, q1, -, -⟩ := box2_facts (show W0.heap[w.heap.size]? = some (.cells #[.int .i64 (x0.1 : Int), .int .i64 (x0.2 : Int)] 64 (0, 0)) by rw [hW0]; exact (Below.heap_alloc _ _ _ (by simp)).trans (heap_alloc_new w _))
  rw [hW0] at q0 q1
  clear hy hT H1 H2 h0 hM1
  go_enter Try.func100, Try.ntmps100
  go_wp2_with fail
  go_at_call 96
  rw [← hW0]
  refine HEx.out.mono ?_
  rintro e w1 (⟨N, va2, vr2, hE, hN, rfl, hau, hb1⟩ | ⟨hno, rfl, hb1⟩)
  · have HB1 := Lib.hid hb1
    obtain ⟨W2, hW2⟩ : ∃ W2, W2 = w1.alloc (.cells #[va2, vr2] 98) := ⟨_, rfl⟩
    have HB2 : Hid (Below w1.heap.size w1 W2) := Lib.hid (by rw [hW2]; exact (Below.refl _ _).alloc (Nat.le_refl _) _)
    obtain ⟨a0, a1, -, -⟩ := box2_facts (show W2.heap[w1.heap.size]? = some (.cells #[va2, vr2] 98 (0, 0)) by rw [hW2]; exact heap_alloc_new w1 _)
    have HMn := Lib.hid (implMinz_any va2 vr2 (found x0 T acc N) W2 (hE.num acc) (by show N ≤ 2000; omega) (hau.kept HB2.out))
    have HE := Lib.hid hE
    obtain ⟨ga, ca, gr, cr, rfl, rfl, -, -⟩ := hau
    clear q0 q1 hb1 hE
    rw [hW2] at a0 a1
    go_wp2_with fail
    go_at_call 113
    rw [← hW2]
    refine HMn.out.mono ?_
    rintro e w3 ⟨m, m1, m2, hcd⟩
    obtain ⟨rfl, rfl⟩ := srchR_yes HYy.out hN HE.out m1 m2
    obtain ⟨A1, p1, A2, p2, rfl, hoo, hb3⟩ := hcd.shape
    obtain ⟨x1, hx1⟩ : ∃ x, x = (fitD m).acc.length := ⟨_, rfl⟩
    obtain ⟨x2, hx2⟩ : ∃ x, x = (fitD m).nxt.length := ⟨_, rfl⟩
    obtain ⟨ok, hok⟩ : ∃ b, b = decide (m.n ≤ 40) := ⟨_, rfl⟩
    rw [← hx1, ← hx2] at hoo ⊢
    rw [← hok]
    have HOk := Lib.hid hok
    have HO3 := Lib.hid hoo
    have HB3 := Lib.hid (HB1.out.trans ((HB2.out.trans (hb3.mono HB2.out.size)).mono HB1.out.size))
    have hz1 := HB1.out.size
    have hz2 := HB2.out.size
    have hz3 := hb3.size
    have hyl := blk_lt HY.out
    obtain ⟨c0, c1, k0, k1⟩ := box2_facts ((HB3.out.block _ hyl).trans HY.out)
    obtain ⟨hcl, hsz, hot, hBl⟩ := put2 (k := .slice A1 x1 p1) (l := .slice A2 x2 p2) c0 c1
    obtain ⟨hc0, hc1⟩ := hcl
    have HOt := Lib.hid (And.intro hsz (And.intro hot hBl))
    clear hsz hot hBl hoo hb3 hcd hx1 hx2 m1 m2 hok a0 a1 hW2 hW0
    go_wp2_with fail
    refine bodyPost_ret (v := .tuple #[.agg #[.slice A1 x1 p1, .slice A2 x2 p2], .bool ok]) (by simp [results, Try.results100, go_sem, hc0, hc1]) rfl ?_
    have h0 := HB0.out.size
    rw [← HOk.out]
    exact ⟨_, _, rfl, HO3.out.mono (fun g hg => HOt.out.2.1 g (by have := hg.1; omega)) (fun g hg => ⟨by have := hg.1; omega, by rw [HOt.out.1]; exact hg.2⟩) (by rw [HOt.out.1]; exact Nat.le_refl _), HOt.out.2.2 _ _ (HB0.out.trans (HB3.out.mono h0)) (by omega)⟩
  · have HB1 := Lib.hid hb1
    obtain ⟨rfl, rfl⟩ := srchR_no HYy.out hno
    obtain ⟨c0, c1, k0, k1⟩ := box2_facts (((HB1.out.alloc HB1.out.size (.cells #[.slice none 0 0, .slice none 0 0] 98)).block _ (blk_lt HY.out)).trans HY.out)
    obtain ⟨hcl, hsz, hot, hBl⟩ := put2 (k := .slice none 0 0) (l := .slice none 0 0) c0 c1
    obtain ⟨hr0, hr1⟩ := hcl
    have HOt := Lib.hid hBl
    clear q0 q1 hsz hot hBl hb1 hW0
    go_wp2_with fail
    refine bodyPost_ret (v := .tuple #[.agg #[.slice none 0 0, .slice none 0 0], .bool false]) (by simp [results, Try.results100, go_sem, hr0, hr1]) rfl ?_
    exact ⟨_, _, rfl, DfaO.empty _ _, HOt.out _ _ (HB0.out.trans ((HB1.out.alloc HB1.out.size _).mono HB0.out.size)) (by omega)⟩
end Go.Proofs.Ythmfncklepkddaa
