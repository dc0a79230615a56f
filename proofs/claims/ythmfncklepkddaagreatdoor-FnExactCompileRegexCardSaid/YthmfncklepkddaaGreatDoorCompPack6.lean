/-
  Texts of one proof, one behind the other.
-/
import Derived.Test.YthmfncklepkddaaGreatDoorShelf
import Derived.Maps.OwnSet
import Derived.Maps.Own
import Derived.Maps.AppendAt
import Derived.WalkArith
import Derived.Deep.RegionLaw
import Derived.DeepKeys5
import Derived.IntWalk
import Derived.WalkLawsBesides
import Derived.StillTailTactics
import Derived.Laws.EntriesVeiled
import Derived.Test.YthmfncklepkddaaGreatDoorCompPack5

/-
  What impl.quotient answers: the automaton of the classes.
  What impl.minimize answers: the minimal automaton, where it has not too many states.
-/
namespace Go.Proofs.YthmfncklepkddaaGreatDoor
open Go.RowKit

theorem enters_clone (args : Array Value) (w : World) : (callFunc 150 args).run Tryz.prog w = .ok (.enter 150 args) w := enters_of Tryz.func150 (by kernel_rfl) rfl args w
/-- A copy of three numbers. -/
def Clone3 (y0 y1 y2 : Int) (w : World) (e : Ending) (w' : World) : Prop := ∃ g c, e = .returned (.slice (some ⟨g, 0, none⟩) 3 c) ∧ IR w' w.heap.size (.slice (some ⟨g, 0, none⟩) 3 c) [y0, y1, y2] ∧ Below w.heap.size w w'
theorem libClone3 (bx : Nat) (y0 y1 y2 : Int) (T : TypeId) (w : World) (h : Bx3 w bx (.int .i64 y0) (.int .i64 y1) (.int .i64 y2) T) :
    Calls Tryz.prog 150 #[.slice (some ⟨bx, 0, none⟩) 3 3] w (Clone3 y0 y1 y2 w) := by
  refine (Tryz.slices_Clone_int bx 0 3 3 [y0, y1, y2] w (Nat.le_refl _) (by decide) (fun j hj => ?_)).mono ?_
  · obtain ⟨⟨c0, c1, c2⟩, -⟩ := h.facts
    have hj3 : j < 3 := hj
    rcases (show j = 0 ∨ j = 1 ∨ j = 2 by omega) with rfl | rfl | rfl
    · exact c0
    · exact c1
    · exact c2
  · rintro e w' ⟨v', rfl, hown, -, hb⟩
    obtain ⟨g, c, rfl⟩ := own_succ (k := 2) hown
    exact ⟨g, c, rfl, hown, hb⟩

theorem IR.lower {w : World} {B B' : Nat} {v : Value} {l : List Int} (h : IR w B' v l) (hB : B ≤ B') : IR w B v l := by
  obtain ⟨h1, h2⟩ := h
  refine ⟨h1, ?_⟩
  rcases h2 with h2 | ⟨g, cap, cur, e, hg, r⟩
  · exact .inl h2
  · exact .inr ⟨g, cap, cur, e, Nat.le_trans hB hg, r⟩
/-- A row of the classes' automaton. -/
def rowQ (a : Au) (s i : Nat) : List Int := (List.range 3).map fun k => (((quo a s).T i k : Nat) : Int)

set_option maxRecDepth 100000 in
set_option maxHeartbeats 6400000 in
theorem implQuo_any (va vr : Value) (a : Au) (s : Nat) (ad : Addr) (cc : Nat) (adh : Addr) (ch : Nat) (w : World) (hw : a.wf) (hn : a.n ≤ 2000) (h : AutoV w va vr a)
    (hC : ∀ q, q < a.n → w.cell? (ad.add q) = some (.int .i64 ((col a (s + 1) q : Nat) : Int)))
    (hH : ∀ i, i < (hds a s a.n).length → w.cell? (adh.add i) = some (.int .i64 (((hds a s a.n).getD i default : Nat) : Int))) :
    Calls Tryz.prog 133 #[.agg #[va, vr], .slice (some ad) a.n cc, .slice (some adh) (hds a s a.n).length ch] w (CopyD (fieldsOf (quo a s)) w) := by
  obtain ⟨i0, hi, hz0, hz1, hz2⟩ := info_parts intInfo
  obtain ⟨b0, hbi, hb0, hb1, hb2⟩ := info_parts boolInfo
  obtain ⟨r0, hri, hr0, hr1, hr2⟩ := info_parts rowInfo
  obtain ⟨ga, ca, gr, cr, rfl, rfl, hA, hT⟩ := h
  obtain ⟨n, hne⟩ : ∃ n, n = a.n := ⟨_, rfl⟩
  obtain ⟨N, hNe⟩ : ∃ N, N = (hds a s a.n).length := ⟨_, rfl⟩
  obtain ⟨H, hHe⟩ : ∃ H : Nat → Nat, H = fun i => (hds a s a.n).getD i default := ⟨_, rfl⟩
  have hNn : N ≤ n := by rw [hNe, hne]; exact hds_len_le a s a.n
  have HHlt : Hid (∀ i, i < N → H i < n) := Lib.hid (fun i hi => by rw [hHe, hne]; exact (hds_at (by rw [← hNe]; exact hi)).1)
  have HHead : Hid (∀ i, i < N → w.cell? (adh.add i) = some (.int .i64 ((H i : Nat) : Int))) := Lib.hid (by rw [hHe, hNe]; exact hH)
  have HWf : Hid (∀ x k, x < n → k < 3 → a.T x k < n) := Lib.hid (by rw [hne]; exact hw.2)
  have HT : Hid (∀ q, q < n → ∀ k, k < 3 → w.cell? ⟨gr, q * 3 + k, none⟩ = some (.int .i64 ((a.T q k : Nat) : Int))) := Lib.hid (by rw [hne]; exact hT)
  have HA : Hid (∀ q, q < n → w.cell? ⟨ga, q, none⟩ = some (.bool (a.A q))) := Lib.hid (by rw [hne]; exact hA)
  have HC : Hid (∀ q, q < n → w.cell? (ad.add q) = some (.int .i64 ((col a (s + 1) q : Nat) : Int))) := Lib.hid (by rw [hne]; exact hC)
  have HRow : Hid (∀ i, rowQ a s i = [((col a (s + 1) (a.T (H i) 0) : Nat) : Int), ((col a (s + 1) (a.T (H i) 1) : Nat) : Int), ((col a (s + 1) (a.T (H i) 2) : Nat) : Int)]) := Lib.hid (fun i => by rw [hHe]; rfl)
  have HFa : Hid (accOf (quo a s) = (List.range N).map fun i => a.A (H i)) := Lib.hid (by rw [hNe, hHe]; rfl)
  have HFn : Hid (nxtOf (quo a s) = (List.range N).map fun i => rowQ a s i) := Lib.hid (by rw [hNe]; rfl)
  rw [← hne] at hn
  rw [← hNe, ← hne]
  clear hC hH hA hT hne hNe hHe hw
  obtain ⟨W2, hW2⟩ : ∃ W2, W2 = (w.alloc (.cells #[.slice (some ⟨ga, 0, none⟩) n ca, .slice (some ⟨gr, 0, none⟩) n cr] 123)).alloc (.cells #[.slice none 0 0, .slice none 0 0] 31) := ⟨_, rfl⟩
  have HB2 : Hid (Below w.heap.size w W2) := Lib.hid (by rw [hW2]; exact ((Below.refl _ _).alloc (Nat.le_refl _) _).alloc (by simp) _)
  have HX2 : Hid (W2.heap[w.heap.size]? = some (.cells #[.slice (some ⟨ga, 0, none⟩) n ca, .slice (some ⟨gr, 0, none⟩) n cr] 123 (0, 0))) := Lib.hid (by
    rw [hW2]
    exact (Below.heap_alloc _ _ _ (by simp)).trans (heap_alloc_new w _))
  have HY2 : Hid (W2.heap[w.heap.size + 1]? = some (.cells #[.slice none 0 0, .slice none 0 0] 31 (0, 0))) := Lib.hid (by rw [hW2]; exact three2 w _ _ _ _)
  obtain ⟨B, hB⟩ : ∃ B, B = W2.heap.size := ⟨_, rfl⟩
  obtain ⟨W3, hW3⟩ : ∃ W3, W3 = W2.alloc (.cells #[.slice none 0 0, .slice none 0 0] 31) := ⟨_, rfl⟩
  have HS : Hid (Out B W3 B (.slice none 0 0) (.slice none 0 0) [] [] [] (fun _ _ => False) ∧ Below B W2 W3) := Lib.hid (by
    rw [hW3, hB]
    exact ⟨Out.start W2 (Nat.le_refl _), (Below.refl _ _).alloc (Nat.le_refl _) _⟩)
  have hBs : B = w.heap.size + 1 + 1 := by rw [hB, hW2]; simp
  have HBs := Lib.hid (And.intro hB hBs)
  clear hB hBs
  go_enter Tryz.func133, Tryz.ntmps133
  go_wp2_with fail
  rw [← hW2, ← hW3, ← HBs.out.2]
  clear hW2 hW3
  go_loopw [13] (fun iv wr => ∃ (i : Nat) (va' vn' : Value) (us : List Value) (K : Nat → Nat → Prop), iv = .int .i64 i ∧ i ≤ N ∧ us.length = i ∧ Hid (Below B W2 wr) ∧ Hid (Out B wr B va' vn' ((List.range i).map fun j => a.A (H j)) us ((List.range i).map fun j => ints (rowQ a s j)) K)) (fun iv _ => N - (intOf iv).toNat)
  case atStart => exact ⟨0, _, _, [], _, rfl, Nat.zero_le _, rfl, Lib.hid HS.out.2, Lib.hid HS.out.1⟩
  case round =>
    obtain ⟨i, va', vn', us, K, rfl, hin, hus, HBr, HO⟩ := hrel
    clear HS
    by_cases hlt : i < N
    · have hhd := HHead.out i hlt
      have hhn := HHlt.out i hlt
      obtain ⟨h, hh⟩ : ∃ h, h = H i := ⟨_, rfl⟩
      rw [← hh] at hhd hhn
      have HHh := Lib.hid hh
      clear hh
      have upB : Hid (Below w.heap.size w wr) := Lib.hid (HB2.out.trans (HBr.out.mono (by have := HBs.out.2; omega)))
      have ghd := (upB.out.cell (cell_in hhd)).trans hhd
      have ht0 := (upB.out.cell (cell_in (HT.out h hhn 0 (by omega)))).trans (HT.out h hhn 0 (by omega))
      have ht1 := (upB.out.cell (cell_in (HT.out h hhn 1 (by omega)))).trans (HT.out h hhn 1 (by omega))
      have ht2 := (upB.out.cell (cell_in (HT.out h hhn 2 (by omega)))).trans (HT.out h hhn 2 (by omega))
      rw [Nat.add_zero] at ht0
      have hx0 := HWf.out h 0 hhn (by omega)
      have hx1 := HWf.out h 1 hhn (by omega)
      have hx2 := HWf.out h 2 hhn (by omega)
      obtain ⟨x0, hx0e⟩ : ∃ x0, x0 = a.T h 0 := ⟨_, rfl⟩
      obtain ⟨x1, hx1e⟩ : ∃ x1, x1 = a.T h 1 := ⟨_, rfl⟩
      obtain ⟨x2, hx2e⟩ : ∃ x2, x2 = a.T h 2 := ⟨_, rfl⟩
      rw [← hx0e] at hx0 ht0
      rw [← hx1e] at hx1 ht1
      rw [← hx2e] at hx2 ht2
      have HAf := Lib.hid (implAfter_any x0 x1 x2 ad n cc (col a (s + 1)) wr hx0 hx1 hx2 (fun p hp => (upB.out.cell (cell_in (HC.out p hp))).trans (HC.out p hp)))
      obtain ⟨y0, hy0⟩ : ∃ y : Int, y = ((col a (s + 1) x0 : Nat) : Int) := ⟨_, rfl⟩
      obtain ⟨y1, hy1⟩ : ∃ y : Int, y = ((col a (s + 1) x1 : Nat) : Int) := ⟨_, rfl⟩
      obtain ⟨y2, hy2⟩ : ∃ y : Int, y = ((col a (s + 1) x2 : Nat) : Int) := ⟨_, rfl⟩
      rw [← hy0, ← hy1, ← hy2] at HAf
      have HY : Hid (rowQ a s i = [y0, y1, y2]) := Lib.hid (by rw [HRow.out, hy0, hy1, hy2, hx0e, hx1e, hx2e, HHh.out])
      have hbl : w.heap.size < B := by have := HBs.out.2; omega
      have HXr : Hid (wr.heap[w.heap.size]? = some (.cells #[.slice (some ⟨ga, 0, none⟩) n ca, .slice (some ⟨gr, 0, none⟩) n cr] 123 (0, 0))) := Lib.hid ((HBr.out.block _ hbl).trans HX2.out)
      obtain ⟨k0, k1, -, -⟩ := box2_facts HXr.out
      have s0 : (h : Int) < (n : Int) := by omega
      have s1 : (0 : Int) ≤ (h : Int) := by omega
      clear hx0e hx1e hx2e hy0 hy1 hy2 hx0 hx1 hx2 hhd
      go_wp2_with fail
      go_at_call 147
      refine HAf.out.mono ?_
      rintro e w5 ⟨rfl, hb5⟩
      go_upto_region 6 with fail
      obtain ⟨bx, hbx⟩ : ∃ bx, bx = w5.heap.size := ⟨_, rfl⟩
      obtain ⟨V6, hV6⟩ : ∃ V6, V6 = w5.alloc (.cells #[.int .i64 y0, .int .i64 y1, .int .i64 y2] 169) := ⟨_, rfl⟩
      rw [← hV6, ← hbx]
      have h6 : Below wr.heap.size wr V6 := by rw [hV6]; exact hb5.alloc hb5.size _
      have HX6 : Hid (Bx3 V6 bx (.int .i64 y0) (.int .i64 y1) (.int .i64 y2) 169) := Lib.hid (by rw [hV6, hbx]; exact Bx3.new w5 _ _ _ _)
      obtain ⟨accs, hacc⟩ : ∃ accs, accs = (List.range i).map fun j => a.A (H j) := ⟨_, rfl⟩
      obtain ⟨rss, hrss⟩ : ∃ rss, rss = (List.range i).map fun j => ints (rowQ a s j) := ⟨_, rfl⟩
      rw [← hacc, ← hrss] at HO
      have hbn : accs.length ≤ 2000 := by rw [hacc]; simp; omega
      have HAc := Lib.hid (And.intro hacc hrss)
      have HO6 := Lib.hid (HO.out.below h6)
      have HB6 := Lib.hid (HBr.out.trans (h6.mono (Nat.le_trans (Nat.le_of_eq HBs.out.1) HBr.out.size)))
      have hAh := HA.out h hhn
      obtain ⟨b, hb⟩ : ∃ b, b = a.A h := ⟨_, rfl⟩
      rw [← hb] at hAh
      have HBb := Lib.hid hb
      have hA6 := (h6.cell (cell_in ((upB.out.cell (cell_in hAh)).trans hAh))).trans ((upB.out.cell (cell_in hAh)).trans hAh)
      obtain ⟨m0, -, -, -⟩ := box2_facts ((h6.block _ (by have := (Array.getElem?_eq_some_iff.1 HXr.out).1; exact this)).trans HXr.out)
      have hbw6 : B ≤ V6.heap.size := Nat.le_trans (Nat.le_of_eq HBs.out.1) HB6.out.size
      clear hV6 hbx h6 hb5 hacc hrss hb hAh k0 k1 ht0 ht1 ht2 ghd
      have HQal := Lib.hid ((HO6.out.below ((Below.refl _ _).alloc (Nat.le_refl _) (.cells #[.bool b] 4))).below (Below.refl _ _).drew)
      obtain ⟨g1, -, g3, -⟩ := box2_facts HO6.out.box
      obtain ⟨e1, -, e3, -⟩ := box2_facts (HO6.out.below ((Below.refl _ _).alloc (Nat.le_refl _) (.cells #[.bool b] 4))).box
      obtain ⟨e5, -, e7, -⟩ := box2_facts HQal.out.box
      obtain ⟨Aa, qa, hva⟩ := (RowO.of_owns HO6.out.acc (by omega)).row.shape
      rw [bools_length] at hva
      subst hva
      go_cut [] from 24 to 33 (fun wc => ∃ va2, Hid (Out B wc B va2 vn' (accs ++ [b]) us rss K) ∧ Hid (Below B W2 wc) ∧ Hid (Bx3 wc bx (.int .i64 y0) (.int .i64 y1) (.int .i64 y2) 169))
      case first =>
        go_region_law (refine step_append_own_at rfl (.tmp 25) (.tmp 31) 28 rfl B 4 b0 (.bool false) 1 1 Tryz.underlying28 hbi hb0 hb1 hb2 rfl (by decide) _ _ _ rfl (HO6.out.acc.alloc _).drew ⟨V6.heap.size, 0, none⟩ 1 1 [.bool b] rfl rfl (cell_one_new V6 _ _) (by simp [Value.oneCell']) (by unfold maxLen; omega) (by omega) (by simp; omega) ?_; intro v' w9 hown' hgrow hat; obtain ⟨g', cap', rfl⟩ := own_succ hown'; have HB9 := Lib.hid (((HB6.out.alloc hbw6 (.cells #[.bool b] 4)).drew.grown hgrow (by simp [World.drew]; omega) (fun g e => (HQal.out.acc.lt g e).1)).setCell (p := ⟨B, 0, none⟩) (Nat.le_refl _) (.slice (some ⟨g', 0, none⟩) (accs.length + 1) cap')); obtain ⟨z1, z2, HQ9⟩ := HQal.out.acc_push hown' hgrow; obtain ⟨z0, z1⟩ := z1; have HQ9 := Lib.hid HQ9; have HG9 := Lib.hid hgrow)
        all_goals
          have HX9 : Hid (Bx3 (w9.setCell ⟨B, 0, none⟩ (.slice (some ⟨g', 0, none⟩) (accs.length + 1) cap')) bx (.int .i64 y0) (.int .i64 y1) (.int .i64 y2) 169) := Lib.hid (by
            have hxa : Bx3 (V6.alloc (.cells #[.bool b] 4)).drew bx (.int .i64 y0) (.int .i64 y1) (.int .i64 y2) 169 := HX6.out.same (Below.heap_alloc _ _ _ HX6.out.lt)
            refine (hxa.same (HG9.out.block bx hxa.lt (fun e => ?_))).same (Below.heap_setCell _ _ _ _ (fun e => ?_))
            · obtain ⟨cur, hh⟩ := blk_of HQal.out.acc e.symm
              exact blk_ne hh hxa (by decide) rfl
            · exact blk_ne HO6.out.box HX6.out (by decide) (Eq.symm e))
          clear hown' hgrow hat z1 z2 g1 g3 e1 e3 e5 e7
          go_wp2_with fail
          go_meet
          exact ⟨_, HQ9, HB9, HX9⟩
      case rest =>
        obtain ⟨va2, HQ9, HB9, HX9⟩ := hcut
        clear g1 g3 e1 e3 e5 e7 m0 hA6
        have HCl := Lib.hid (libClone3 bx y0 y1 y2 _ wc.drew HX9.out)
        have HQ9d := Lib.hid (HQ9.out.below (Below.refl _ _).drew)
        obtain ⟨-, e1, -, e3⟩ := box2_facts HQ9.out.box
        obtain ⟨-, e5, -, e7⟩ := box2_facts HQ9d.out.box
        have hbwc : B ≤ wc.heap.size := Nat.le_trans (Nat.le_of_eq HBs.out.1) HB9.out.size
        go_upto_region 7 with fail
        go_region_law (first
          | (refine step_call rfl _ _ _ rfl enters_clone #[.slice (some ⟨bx, 0, none⟩) 3 3] (by simp [Act.eval, Act.put]) HCl.out ?_; rintro e w1 ⟨g, c, rfl, hir, hb1⟩; have HB1 := Lib.hid (HB9.out.drew.trans (hb1.mono (by show B ≤ wc.heap.size; omega))); have HO1 := Lib.hid (HQ9d.out.below hb1); have HI1 := Lib.hid hir; obtain ⟨-, l1, -, l3⟩ := box2_facts HO1.out.box; obtain ⟨-, l5, -, l7⟩ := box2_facts (HO1.out.below ((Below.refl _ _).alloc (Nat.le_refl _) (.cells #[.slice (some ⟨g, 0, none⟩) 3 c] 58))).box; have hbw1 : B ≤ w1.heap.size := Nat.le_trans hbwc hb1.size; clear hir hb1; refine ⟨_, rfl, ?_⟩)
          | (refine step_append_own_at rfl (.tmp 35) (.tmp 38) 29 rfl B 58 r0 (.slice none 0 0) 1 24 Tryz.underlying29 hri hr0 hr1 hr2 rfl (by decide) _ _ _ rfl (HO1.out.nxt.alloc _) ⟨w1.heap.size, 0, none⟩ 1 1 [.slice (some ⟨g, 0, none⟩) 3 c] rfl rfl (cell_one_new _ _ _) (by simp [Value.oneCell']) (by unfold maxLen; omega) (by omega) (by simp; omega) ?_; intro v' w9 hown' hgrow hat; rw [hus] at hown'; obtain ⟨g', cap', rfl⟩ := own_succ hown'; have HU : Hid (∀ g0, (Value.slice (some ⟨g, 0, none⟩) 3 c).ownBlock = some g0 → ∀ j, ¬ K j g0) := Lib.hid (fun g0 e j hk => Nat.lt_irrefl _ (Nat.lt_of_lt_of_le (HQ9.out.rows.lt j g0 hk) (HI1.out.lt g0 e).1)); obtain ⟨⟨z0, z1⟩, z2, HO9⟩ := (HO1.out.below ((Below.refl _ _).alloc (Nat.le_refl _) (.cells #[.slice (some ⟨g, 0, none⟩) 3 c] 58))).nxt_push (vn' := .slice (some ⟨g', 0, none⟩) (i + 1) cap') (IR.lower ((HI1.out.alloc (.cells #[.slice (some ⟨g, 0, none⟩) 3 c] 58))) hbwc) (by simp) HU.out (by rw [hus]; exact hown') hgrow; have HO9 := Lib.hid HO9; have HB9' := Lib.hid (((HB1.out.alloc hbw1 (.cells #[.slice (some ⟨g, 0, none⟩) 3 c] 58)).grown hgrow (by simp; omega) (fun g0 e => (HO1.out.nxt.lt g0 e).1)).setCell (p := ⟨B, 1, none⟩) (Nat.le_refl _) (.slice (some ⟨g', 0, none⟩) (i + 1) cap'))))
        all_goals
          have HA1 : Hid (accs ++ [b] = (List.range (i + 1)).map fun j => a.A (H j)) := Lib.hid (by rw [List.range_succ, List.map_append, HAc.out.1, HBb.out, HHh.out]; rfl)
          have HR1 : Hid (rss ++ [ints [y0, y1, y2]] = (List.range (i + 1)).map fun j => ints (rowQ a s j)) := Lib.hid (by rw [List.range_succ, List.map_append, HAc.out.2, ← HY.out]; rfl)
          rw [HA1.out, HR1.out] at HO9
          clear hown' hgrow hat e1 e3 e5 e7 l1 l3 l5 l7 z1 z2
          go_wp2_with fail
          go_roundw
          case rel => exact ⟨i + 1, _, _, us ++ [.slice (some ⟨g, 0, none⟩) 3 c], _, by go_num, by omega, by simp [hus], HB9', HO9⟩
          case measure => simp [intOf]; omega
    · obtain rfl : i = N := by omega
      obtain ⟨accs, hacc⟩ : ∃ accs, accs = (List.range i).map fun j => a.A (H j) := ⟨_, rfl⟩
      obtain ⟨rss, hrss⟩ : ∃ rss, rss = (List.range i).map fun j => ints (rowQ a s j) := ⟨_, rfl⟩
      rw [← hacc, ← hrss] at HO
      have hal : accs.length = i := by rw [hacc]; simp
      have HD : Hid (DfaO wr (fun g => B ≤ g ∧ g < wr.heap.size) va' vn' (fieldsOf (quo a s))) := Lib.hid (HO.out.whole (by rw [hacc]; exact HFa.out) (by
        rw [hrss]
        show intss (nxtOf (quo a s)) = _
        rw [HFn.out]
        simp [intss]) (by omega) (by omega))
      have hva := (RowO.of_owns HO.out.acc (by omega)).row.shape
      have hvn := (RowO.of_owns HO.out.nxt (by omega)).row.shape
      obtain ⟨A1, q1, rfl⟩ := hva
      obtain ⟨A2, q2, hvn2⟩ := hvn
      rw [hus] at hvn2
      subst hvn2
      obtain ⟨e0, e1, f0, f1⟩ := box2_facts HO.out.box
      have hyb := (HBr.out.block _ (by have := HBs.out.2; omega)).trans HY2.out
      obtain ⟨c0, c1, k0, k1⟩ := box2_facts hyb
      have hd : decide ((i : Int) < (i : Int)) = false := by simp
      obtain ⟨hcl, hsz, hot, hBl⟩ := put2 (k := .slice A1 (bools accs).length q1) (l := .slice A2 i q2) c0 c1
      obtain ⟨hc0, hc1⟩ := hcl
      have HOt := Lib.hid (And.intro hsz (And.intro hot hBl))
      clear f0 f1 hsz hot hBl hyb hal hacc hrss
      go_wp2_with fail
      refine bodyPost_ret (v := .agg #[.slice A1 (bools accs).length q1, .slice A2 i q2]) (by simp [results, Tryz.results133, go_sem, hc0, hc1]) rfl ?_
      have hBs := HBs.out.2
      exact ⟨_, _, rfl, HD.out.mono (fun g hg => HOt.out.2.1 g (by have := hg.1; omega)) (fun g hg => ⟨by have := hg.1; omega, by rw [HOt.out.1]; exact hg.2⟩) (by rw [HOt.out.1]; exact Nat.le_refl _), HOt.out.2.2 _ _ (HB2.out.trans (HBr.out.mono (by omega))) (Nat.le_succ _)⟩
end Go.Proofs.YthmfncklepkddaaGreatDoor

namespace Go.Proofs.YthmfncklepkddaaGreatDoor
open Go.RowKit

/-- The heads that stand beside the classes of round r. -/
def hAt (a : Au) : Nat → List Nat
  | 0 => []
  | s + 1 => hds a s a.n
def lenV : Value → Nat
  | .slice _ n _ => n
  | _ => 0
/-- The minimal automaton of a, or none. -/
def MinPost (a : Au) (w : World) (e : Ending) (w' : World) : Prop := ∃ m, Canon m ∧ Eqv m 0 a 0 ∧ CopyDB (fitD m) (decide (m.n ≤ 40)) w e w'
theorem natI_row {w : World} {S : Nat → Prop} {v : Value} {l : List Nat} (h : RowV w S v (ints (natI l))) (hl : 0 < l.length) : ∃ ad c, v = .slice (some ad) l.length c ∧ ∀ i, i < l.length → w.cell? (ad.add i) = some (.int .i64 ((l.getD i default : Nat) : Int)) := by
  obtain ⟨-, A, c, rfl⟩ := h.ints_shape
  obtain ⟨ad, rfl, -, -⟩ := h.intD (j := 0) (by rw [natI_length]; exact hl)
  refine ⟨ad, c, by rw [natI_length], fun i hi => ?_⟩
  obtain ⟨ad2, e, -, hc⟩ := h.intD (j := i) (by rw [natI_length]; exact hi)
  cases e
  rw [hc, natI_at hi]

set_option maxRecDepth 100000 in
set_option maxHeartbeats 6400000 in
theorem implMinz_any (va vr : Value) (a : Au) (w : World) (hnum : Num a) (hn : a.n ≤ 2000) (h : AutoV w va vr a) :
    Calls Tryz.prog 86 #[.agg #[va, vr]] w (MinPost a w) := by
  obtain ⟨ga, ca, gr, cr, hva, hvr, hA, hT⟩ := id h
  have HNum := Lib.hid hnum
  have HAu := Lib.hid h
  subst hva
  subst hvr
  have hpos := hnum.pos
  obtain ⟨W0, hW0⟩ : ∃ W0, W0 = (w.alloc (.cells #[.slice (some ⟨ga, 0, none⟩) a.n ca, .slice (some ⟨gr, 0, none⟩) a.n cr] 123)).alloc (.cells #[.slice none 0 0, .slice none 0 0] 31) := ⟨_, rfl⟩
  have HB0 : Hid (Below w.heap.size w W0) := Lib.hid (by rw [hW0]; exact ((Below.refl _ _).alloc (Nat.le_refl _) _).alloc (by simp) _)
  have HX0 : Hid (W0.heap[w.heap.size]? = some (.cells #[.slice (some ⟨ga, 0, none⟩) a.n ca, .slice (some ⟨gr, 0, none⟩) a.n cr] 123 (0, 0))) := Lib.hid (by
    rw [hW0]
    exact (Below.heap_alloc _ _ _ (by simp)).trans (heap_alloc_new w _))
  have HY0 : Hid (W0.heap[w.heap.size + 1]? = some (.cells #[.slice none 0 0, .slice none 0 0] 31 (0, 0))) := Lib.hid (by rw [hW0]; exact three2 w _ _ _ _)
  have HAc := Lib.hid (implAccs_any ga ca a W0 hn (fun q hq => (HB0.out.cell (cell_in (hA q hq))).trans (hA q hq)))
  have HRef := Lib.hid (fun (V : World) (hV : Below w.heap.size w V) ad cc r (hC : ∀ q, q < a.n → V.cell? (ad.add q) = some (.int .i64 ((col a r q : Nat) : Int))) => implRefine_any gr cr ad cc a r V hnum.wf hn (fun q hq k hk => (hV.cell (cell_in (hT q hq k hk))).trans (hT q hq k hk)) hC)
  have HQuo := Lib.hid (fun (V : World) (hV : Below w.heap.size w V) s ad cc adh ch (hC : ∀ q, q < a.n → V.cell? (ad.add q) = some (.int .i64 ((col a (s + 1) q : Nat) : Int))) (hH : ∀ i, i < (hds a s a.n).length → V.cell? (adh.add i) = some (.int .i64 (((hds a s a.n).getD i default : Nat) : Int))) => implQuo_any _ _ a s ad cc adh ch V hnum.wf hn (HAu.out.kept hV) hC hH)
  obtain ⟨c00, -, -, -⟩ := box2_facts HX0.out
  rw [hW0] at c00
  obtain ⟨n, hne⟩ : ∃ n, n = a.n := ⟨_, rfl⟩
  rw [← hne] at hW0 HX0 HAc HRef HQuo hn hpos c00
  rw [← hne]
  have HN := Lib.hid hne
  have HLen : Hid (∀ r, (hds a r n).length ≤ n ∧ 0 < (hds a r n).length) := Lib.hid (fun r => ⟨hds_len_le a r n, hds_pos r hpos⟩)
  clear h hA hT hnum hne
  go_enter Tryz.func86, Tryz.ntmps86
  go_wp2_with fail
  go_at_call 131
  rw [← hW0]
  refine HAc.out.mono ?_
  rintro e w1 ⟨v1, rfl, hr1, hb1⟩
  have HR1 := Lib.hid (And.intro hr1 hb1)
  clear hr1 hb1 hW0 c00 HAc
  go_wp2_with fail
  go_loopw [4, 5] (fun vc vh wr => ∃ r : Nat, Hid (RowV wr (fun _ => True) vc (ints (clsRow n (col a r)))) ∧ Hid (RowV wr (fun _ => True) vh (ints (natI (hAt a r)))) ∧ Hid (Below W0.heap.size W0 wr) ∧ (hAt a r).length ≤ 40) (fun _ vh _ => 41 - lenV vh)
  case atStart => exact ⟨0, Lib.hid (HR1.out.1.row.mono (fun _ _ => rfl) (fun _ _ => trivial)), Lib.hid (RowO.nil _ _ _ _).row, Lib.hid HR1.out.2, by simp [hAt]⟩
  case round =>
    obtain ⟨r, HC, HH, HBr, hl40⟩ := hrel
    clear HR1
    obtain ⟨ad, mc, rfl, hcl⟩ := HC.out.cls hpos
    obtain ⟨-, Ah, mh, hvh⟩ := HH.out.ints_shape
    rw [natI_length] at hvh
    subst hvh
    have HBw := Lib.hid (HB0.out.trans (HBr.out.mono HB0.out.size))
    have HRf := Lib.hid (HRef.out wr HBw.out ad mc r hcl)
    have HXr : Hid (wr.heap[w.heap.size]? = some (.cells #[.slice (some ⟨ga, 0, none⟩) n ca, .slice (some ⟨gr, 0, none⟩) n cr] 123 (0, 0))) := Lib.hid ((HBr.out.block _ (blk_lt HX0.out)).trans HX0.out)
    obtain ⟨k0, k1, -, -⟩ := box2_facts HXr.out
    obtain ⟨lh, hlh⟩ : ∃ lh, lh = (hAt a r).length := ⟨_, rfl⟩
    rw [← hlh] at HH hl40 ⊢
    have HLh := Lib.hid hlh
    clear hcl hlh
    go_wp2_with fail
    go_at_call 132
    refine HRf.out.mono ?_
    rintro e w2 ⟨vf, vg, rfl, hrf, hrg, hb2⟩
    rw [← HN.out] at hrf hrg
    obtain ⟨-, Ag, mg, hvg⟩ := hrg.row.ints_shape
    rw [natI_length] at hvg
    subst hvg
    obtain ⟨lg, hlg⟩ : ∃ lg, lg = (hds a r n).length := ⟨_, rfl⟩
    rw [← hlg] at hrg ⊢
    have HLg := Lib.hid hlg
    have HR2 := Lib.hid (And.intro hrf hrg)
    have hlgn : lg ≤ n := by rw [hlg]; exact (HLen.out r).1
    have hlg0 : 0 < lg := by rw [hlg]; exact (HLen.out r).2
    have HB2 := Lib.hid (HBr.out.trans (hb2.mono HBr.out.size))
    have HBw2 := Lib.hid (HB0.out.trans (HB2.out.mono HB0.out.size))
    have HC2 := Lib.hid (HC.out.kept hb2)
    have HH2 := Lib.hid (HH.out.kept hb2)
    have HX2 : Hid (w2.heap[w.heap.size]? = some (.cells #[.slice (some ⟨ga, 0, none⟩) n ca, .slice (some ⟨gr, 0, none⟩) n cr] 123 (0, 0))) := Lib.hid ((hb2.block _ (blk_lt HXr.out)).trans HXr.out)
    have HY2 : Hid (w2.heap[w.heap.size + 1]? = some (.cells #[.slice none 0 0, .slice none 0 0] 31 (0, 0))) := Lib.hid ((HB2.out.block _ (blk_lt HY0.out)).trans HY0.out)
    clear hrf hrg hb2 k0 k1 hlg
    by_cases hbig : 40 < lg
    · have hb1 : (40 : Int) < (lg : Int) := by omega
      obtain ⟨c0, c1, f0, f1⟩ := box2_facts HY2.out
      obtain ⟨hcl, hsz, hot, hBl⟩ := put2 (k := .slice none 0 0) (l := .slice none 0 0) c0 c1
      obtain ⟨hc0, hc1⟩ := hcl
      have HOt := Lib.hid hBl
      clear hsz hot hBl
      go_wp2_with fail
      refine bodyPost_ret (v := .tuple #[.agg #[.slice none 0 0, .slice none 0 0], .bool false]) (by simp [results, Tryz.results86, go_sem, hc0, hc1]) rfl ?_
      obtain ⟨m, m1, m2, -⟩ := exists_min HNum.out.wf
      have hmn := hds_le_min HNum.out m1 m2 r
      rw [← HN.out, ← HLg.out] at hmn
      have hb : ¬ m.n ≤ 40 := by omega
      refine ⟨m, m1, m2, ?_⟩
      rw [decide_eq_false hb, fitD, if_neg hb]
      exact ⟨_, _, rfl, DfaO.empty _ _, HOt.out _ _ HBw2.out (Nat.le_succ _)⟩
    · have hb1 : ¬ (40 : Int) < (lg : Int) := by omega
      by_cases heq : lg = lh
      · have hb2 : ((lg : Int) == (lh : Int)) = true := by simp; omega
        have hb3 : decide (lg = lh) = true := by simp; omega
        have HS : Hid (∃ s, r = s + 1) := Lib.hid (by
          cases r with
          | zero =>
            have h1 := HLh.out
            simp [hAt] at h1
            omega
          | succ s => exact ⟨s, rfl⟩)
        obtain ⟨s, rfl⟩ := HS.out
        have hle : lh = (hds a s n).length := by
          have h1 := HLh.out
          simp only [hAt] at h1
          rw [HN.out]
          exact h1
        have hlh0 : 0 < (hds a s n).length := (HLen.out s).2
        have hH2 : RowV w2 (fun _ => True) (.slice Ah lh mh) (ints (natI (hds a s n))) := by
          have h1 := HH2.out
          simp only [hAt] at h1
          rw [HN.out]
          exact h1
        obtain ⟨adh, ch, hadh, hhc⟩ := natI_row hH2 hlh0
        injection hadh with e1 e2 e3
        subst e1
        subst e3
        obtain ⟨ad2, mc2, had, hcl2⟩ := HC2.out.cls hpos
        injection had with e4 e5 e6
        injection e4 with e4
        subst e4
        subst e6
        have HQ := Lib.hid (HQuo.out w2 HBw2.out s ad mc adh mh hcl2 hhc)
        rw [← hle] at HQ
        have hst := still_of (a := a) (s := s) (by
          have h1 := HLg.out
          rw [HN.out] at h1 hle
          omega)
        obtain ⟨m1, m2⟩ := quo_canon HNum.out hst
        have hqn : (quo a s).n ≤ 40 := by
          show (hds a s a.n).length ≤ 40
          rw [← HN.out]
          omega
        have HM := Lib.hid (And.intro m1 (And.intro m2 hqn))
        obtain ⟨k0, k1, -, -⟩ := box2_facts HX2.out
        clear hle hlh0 hH2 hhc hcl2 hst m1 m2 hqn e2 e5
        go_wp2_with fail
        go_at_call 133
        refine HQ.out.mono ?_
        rintro e w3 hcd
        obtain ⟨A1, q1, A2, q2, rfl, hoo, hb3⟩ := hcd.shape
        have HO3 := Lib.hid (And.intro hoo hb3)
        obtain ⟨x1, hx1⟩ : ∃ x, x = (fieldsOf (quo a s)).acc.length := ⟨_, rfl⟩
        obtain ⟨x2, hx2⟩ : ∃ x, x = (fieldsOf (quo a s)).nxt.length := ⟨_, rfl⟩
        rw [← hx1, ← hx2] at HO3 ⊢
        obtain ⟨c0, c1, f0, f1⟩ := box2_facts ((hb3.block _ (blk_lt HY2.out)).trans HY2.out)
        obtain ⟨hcl, hsz, hot, hBl⟩ := put2 (k := .slice A1 x1 q1) (l := .slice A2 x2 q2) c0 c1
        obtain ⟨hc0, hc1⟩ := hcl
        have HOt := Lib.hid (And.intro hsz (And.intro hot hBl))
        clear hsz hot hBl hoo hb3 hcd hx1 hx2 k0 k1
        go_wp2_with fail
        refine bodyPost_ret (v := .tuple #[.agg #[.slice A1 x1 q1, .slice A2 x2 q2], .bool true]) (by simp [results, Tryz.results86, go_sem, hc0, hc1]) rfl ?_
        refine ⟨quo a s, HM.out.1, HM.out.2.1, ?_⟩
        rw [decide_eq_true HM.out.2.2, fitD, if_pos HM.out.2.2]
        have hyl := blk_lt HY0.out
        have hyl2 := blk_lt HY2.out
        have hz2 := HBw2.out.size
        exact ⟨_, _, rfl, HO3.out.1.mono (fun g hg => HOt.out.2.1 g (by have := hg.1; omega)) (fun g hg => ⟨by have := hg.1; omega, by rw [HOt.out.1]; exact hg.2⟩) (by rw [HOt.out.1]; exact Nat.le_refl _), HOt.out.2.2 _ _ (HBw2.out.trans (HO3.out.2.mono hz2)) (Nat.le_succ _)⟩
      · have hb2 : ((lg : Int) == (lh : Int)) = false := by simp; omega
        go_wp2_with fail
        go_roundw
        case rel => exact ⟨r + 1, Lib.hid (HR2.out.1.row.mono (fun _ _ => rfl) (fun _ _ => trivial)), Lib.hid (by
          have h1 := HR2.out.2.row.mono (w' := w2) (S' := fun _ => True) (fun _ _ => rfl) (fun _ _ => trivial)
          rw [HN.out] at h1
          exact h1), HB2, by
          have h1 := HLg.out
          rw [HN.out] at h1
          show (hds a r a.n).length ≤ 40
          omega⟩
        case measure =>
          simp [lenV]
          have h1 : lh < lg := by
            cases r with
            | zero =>
              have h2 := HLh.out
              simp [hAt] at h2
              omega
            | succ s =>
              have h2 := HLh.out
              have h3 := HLg.out
              simp only [hAt] at h2
              rw [HN.out] at h3
              have h4 := hds_grow (a := a) (s := s) (by omega)
              omega
          omega
end Go.Proofs.YthmfncklepkddaaGreatDoor

/-
  A map that tells each met key's number; rows of a call's own beside what turns. Of no function of the program.
-/
namespace Go.Proofs.YthmfncklepkddaaGreatDoor
open Go.RowKit Go.Maps

section
variable {α : Type} [DecidableEq α] [Inhabited α]
/-- A map that tells each met key's number. -/
def MapOf (kl : α → Lit) (Ok : α → Prop) (D : DataW Unit) (l : List α) : Prop :=
  IsMap D ∧ ∀ x, Ok x → Maps.has D (kl x) = decide (x ∈ l) ∧ (x ∈ l → ∀ z, D.atKey (kl x) z = .lit (.int .i64 ((l.idxOf x : Nat) : Int)))
omit [Inhabited α] in
theorem MapOf.nil (kl : α → Lit) (Ok : α → Prop) : MapOf kl Ok (.map []) [] := ⟨isMap_empty, fun x _ => ⟨by simp [Maps.has], fun h => by simp at h⟩⟩
omit [Inhabited α] in
theorem MapOf.put {kl : α → Lit} {Ok : α → Prop} {D : DataW Unit} {l : List α} (h : MapOf kl Ok D l) (hinj : ∀ x y, Ok x → Ok y → kl x = kl y → x = y) (hkey : ∀ x, Ok x → WideAt.IsKeyLit (kl x)) {x : α} (hx : Ok x) (hn : x ∉ l) :
    MapOf kl Ok (D.put (kl x) (.lit (.int .i64 ((l.length : Nat) : Int)))) (l ++ [x]) := by
  refine ⟨h.1.put _ _, fun y hy => ?_⟩
  by_cases e : y = x
  · subst e
    refine ⟨by rw [has_put_same h.1 (hkey y hy)]; simp, fun _ z => ?_⟩
    rw [atKey_put_same h.1 (hkey y hy), List.idxOf_append, if_neg hn]
    simp
  · have hne : kl y ≠ kl x := fun e2 => e (hinj y x hy hx e2)
    have hmem : y ∈ l ++ [x] ↔ y ∈ l := by simp [e]
    refine ⟨?_, fun hm z => ?_⟩
    · rw [has_put_other hne, (h.2 y hy).1]
      simp [e]
    · rw [atKey_put_other hne, (h.2 y hy).2 (hmem.1 hm) z, List.idxOf_append, if_pos (hmem.1 hm)]
end

theorem blk_ofz {w : World} {base sz : Nat} {e : TypeId} {v : Value} {n : Nat} {xs : List Value} (h : w.ownsRow base e sz v n xs) {g : Nat} (hg : v.ownBlock = some g) : ∃ cur, w.heap[g]? = some (.cells cur e (0, 0)) := by
  rcases h.2 with ⟨rfl, _⟩ | ⟨g', cap, cur, rfl, _, hh, _⟩
  · simp [Value.ownBlock] at hg
  · simp [Value.ownBlock] at hg
    subst hg
    exact ⟨cur, hh⟩
/-- A row stays where what turns is of another make. -/
theorem own_far {w w' : World} {B sz : Nat} {e : TypeId} {v : Value} {n : Nat} {xs : List Value} {row : Option Nat} (h : w.ownsRow B e sz v n xs) (hg : w.grownBy w' row) (hr : ∀ g, row = some g → ∃ o, w.heap[g]? = some o ∧ ∀ cur, o ≠ .cells cur e (0, 0)) : w'.ownsRow B e sz v n xs := by
  refine World.ownsRow.kept h hg ?_
  cases hv : v.ownBlock with
  | none => exact .inl rfl
  | some g =>
    obtain ⟨cur, hh⟩ := blk_ofz h hv
    exact .inr (fun er => by
      obtain ⟨o, ho, hne⟩ := hr g er.symm
      rw [hh] at ho
      cases ho
      exact hne _ rfl)
theorem own_setz {w : World} {B sz : Nat} {e : TypeId} {v : Value} {n : Nat} {xs : List Value} (h : w.ownsRow B e sz v n xs) {p : Addr} (hr : ∃ o, w.heap[p.block]? = some o ∧ ∀ cur, o ≠ .cells cur e (0, 0)) (u : Value) : (w.setCell p u).ownsRow B e sz v n xs := by
  refine ownsRow_setCell_other h (fun er => ?_) _
  obtain ⟨cur, hh⟩ := blk_ofz h er
  obtain ⟨o, ho, hne⟩ := hr
  rw [hh] at ho
  cases ho
  exact hne _ rfl
theorem own_cell {w : World} {B sz : Nat} {e : TypeId} {v : Value} {n : Nat} {xs : List Value} (h : w.ownsRow B e sz v n xs) (hn : 0 < n) : ∃ g c, v = .slice (some ⟨g, 0, none⟩) n c ∧ B ≤ g ∧ ∀ j, j < n * sz → w.cell? ⟨g, j, none⟩ = xs[j]? := by
  rcases h.2 with ⟨_, h0⟩ | ⟨g, cap, cur, rfl, hb, hh, h1, _, h2, h3⟩
  · omega
  · refine ⟨g, cap, rfl, hb, fun j hj => ?_⟩
    rw [cell_of_row w g j cur e (0, 0) hh, ← h3, List.getElem?_take_of_lt hj, Array.getElem?_toList]
theorem ne_cells {T T' : TypeId} {cur : Array Value} (h : T ≠ T') : ∀ cur', (Obj.cells cur T (0, 0)) ≠ .cells cur' T' (0, 0) := fun cur' e => by
  injection e with _ e2
  exact h e2
theorem ne_map {T' : TypeId} {es : Array MapEntry} {clock : Nat} : ∀ cur', (Obj.map es clock) ≠ .cells cur' T' (0, 0) := fun cur' e => by cases e

theorem lawInt : Keyed Tryz.prog 3 := int_keyed Tryz.underlying3
theorem zeroInt (w : World) : (zeroValue 3).run Tryz.prog w = .ok (.int .i64 0) w := by kernel_rfl
def klN (x : Nat) : Lit := .int .i64 (x : Int)
theorem klN_inj (x y : Nat) (h : klN x = klN y) : x = y := by
  unfold klN at h
  injection h with _ h
  exact_mod_cast h
theorem klN_wf {x : Nat} (h : x < 9223372036854775807) : (Lit.int .i64 (x : Int)).wf = true := by
  exact WalkArith.wf_i64 (by omega)
theorem klN_key {x : Nat} (h : x < 9223372036854775807) : keyOf Tryz.prog 3 (.int .i64 (x : Int)) = some (klN x) := keyOf_int_mk Tryz.underlying3 (klN_wf h)
end Go.Proofs.YthmfncklepkddaaGreatDoor

/-
  A search in breadth as the program goes it: what is met, in a row and in a map; the automaton that it lays, in a box. Of no function of the program.
  What a search with a limit answers: the minimal automaton of what it meets, or nothing.
-/
namespace Go.Proofs.YthmfncklepkddaaGreatDoor
open Go.RowKit Go.Maps

section
variable {α : Type} [DecidableEq α] [Inhabited α] {s0 : α} {g : α → Nat → α}
/-- The key of state i; where letter k leads from it. -/
def keyA (s0 : α) (g : α → Nat → α) (i : Nat) : α := (ords s0 g (3 * i)).getD i default
def toA (s0 : α) (g : α → Nat → α) (i k : Nat) : Nat := (ords s0 g (3 * i + k + 1)).idxOf (g (keyA s0 g i) k)
theorem keyA_at {i t : Nat} (hi : i < (ords s0 g (3 * i)).length) (ht : 3 * i ≤ t) : i < (ords s0 g t).length ∧ (ords s0 g t).getD i default = keyA s0 g i :=
  ⟨Nat.lt_of_lt_of_le hi (ords_prefix ht).length_le, ords_at ht hi⟩
theorem keyA_step {i k : Nat} (hi : i < (ords s0 g (3 * i)).length) (hk : k < 3) :
    (g (keyA s0 g i) k ∈ ords s0 g (3 * i + k) → ords s0 g (3 * i + (k + 1)) = ords s0 g (3 * i + k) ∧ toA s0 g i k = (ords s0 g (3 * i + k)).idxOf (g (keyA s0 g i) k)) ∧
    (g (keyA s0 g i) k ∉ ords s0 g (3 * i + k) → ords s0 g (3 * i + (k + 1)) = ords s0 g (3 * i + k) ++ [g (keyA s0 g i) k] ∧ toA s0 g i k = (ords s0 g (3 * i + k)).length) := by
  have e : (ords s0 g (3 * i + k)).getD i default = keyA s0 g i := ords_at (by omega) hi
  have hs : ords s0 g (3 * i + (k + 1)) = if g (keyA s0 g i) k ∈ ords s0 g (3 * i + k) then ords s0 g (3 * i + k) else ords s0 g (3 * i + k) ++ [g (keyA s0 g i) k] := by
    rw [show 3 * i + (k + 1) = 3 * i + k + 1 by omega, ords, show (3 * i + k) / 3 = i by omega, show (3 * i + k) % 3 = k by omega, e]
  have ht : toA s0 g i k = (ords s0 g (3 * i + (k + 1))).idxOf (g (keyA s0 g i) k) := rfl
  refine ⟨fun hx => ?_, fun hx => ?_⟩
  · rw [if_pos hx] at hs
    exact ⟨hs, by rw [ht, hs]⟩
  · rw [if_neg hx] at hs
    refine ⟨hs, ?_⟩
    rw [ht, hs, List.idxOf_append, if_neg hx]
    simp
theorem found_keyA {N : Nat} (h : Ends s0 g N) (acc : α → Bool) {i : Nat} (hi : i < N) : (found s0 g acc N).A i = acc (keyA s0 g i) ∧ ∀ k, k < 3 → (found s0 g acc N).T i k = toA s0 g i k := by
  have hk : (ords s0 g (3 * N)).getD i default = keyA s0 g i := ords_at (by omega) (h.on i hi)
  refine ⟨?_, fun k hk3 => ?_⟩
  · show acc _ = _
    rw [hk]
  · obtain ⟨h1, h2⟩ := h.key hi hk3
    show (ords s0 g (3 * N)).idxOf (g ((ords s0 g (3 * N)).getD i default) k) = _
    rw [hk] at h2 ⊢
    exact idx_prefix (ords_prefix (show 3 * i + k + 1 ≤ 3 * N by omega)) h2
/-- What lies in row i of the automaton. -/
def rowC (s0 : α) (g : α → Nat → α) (i : Nat) : List Value := [.int .i64 ((toA s0 g i 0 : Nat) : Int), .int .i64 ((toA s0 g i 1 : Nat) : Int), .int .i64 ((toA s0 g i 2 : Nat) : Int)]
theorem rowC_length (i : Nat) : (rowC s0 g i).length = 3 := rfl
def rowsC (s0 : α) (g : α → Nat → α) (n : Nat) : List Value := (List.range n).flatMap (rowC s0 g)
theorem rowsC_succ (n : Nat) : rowsC s0 g (n + 1) = rowsC s0 g n ++ rowC s0 g n := by simp [rowsC, List.range_succ, List.flatMap_append]
theorem rowsC_length : ∀ n, (rowsC s0 g n).length = n * 3
  | 0 => rfl
  | n + 1 => by rw [rowsC_succ, List.length_append, rowsC_length n, rowC_length]; omega
theorem rowsC_at : ∀ (n q k : Nat), q < n → k < 3 → (rowsC s0 g n)[q * 3 + k]? = some (.int .i64 ((toA s0 g q k : Nat) : Int))
  | 0, _, _, h, _ => absurd h (Nat.not_lt_zero _)
  | n + 1, q, k, h, hk => by
    rw [rowsC_succ]
    by_cases e : q = n
    · subst e
      rw [List.getElem?_append_right (by rw [rowsC_length]; omega), rowsC_length, Nat.add_sub_cancel_left]
      rcases (show k = 0 ∨ k = 1 ∨ k = 2 by omega) with rfl | rfl | rfl <;> rfl
    · rw [List.getElem?_append_left (by rw [rowsC_length]; omega)]
      exact rowsC_at n q k (by omega) hk

end

/-- The search so far: the automaton in its box, the row of what is met, the map of its numbers. -/
structure ExpS (tE sz B bM bR : Nat) (va vr vo : Value) (accs : List Bool) (i : Nat) (rows : List Value) (m : Nat) (xs : List Value) (mm : Nat) (D : DataW Unit) (w : World) : Prop where
  acc : w.ownsRow B 4 1 va accs.length (bools accs)
  row : w.ownsRow B 169 3 vr i rows
  ord : w.ownsRow B tE sz vo m xs
  map : w.ownsMap Tryz.prog tE (plainElem Tryz.prog 3) bM mm D
  box : w.heap[bR]? = some (.cells #[va, vr] 123 (0, 0))
  low : B ≤ bR ∧ B ≤ bM
  ne : tE ≠ 4 ∧ tE ≠ 169 ∧ tE ≠ 123
section
variable {tE sz B bM bR : Nat} {va vr vo : Value} {accs : List Bool} {i : Nat} {rows : List Value} {m : Nat} {xs : List Value} {mm : Nat} {D : DataW Unit} {w w' : World}
theorem ExpS.mapB (h : ExpS tE sz B bM bR va vr vo accs i rows m xs mm D w) : ∃ es clock, w.heap[bM]? = some (.map es clock) := by
  obtain ⟨es, clock, hb, _⟩ := h.map
  exact ⟨es, clock, hb⟩
theorem ExpS.below (h : ExpS tE sz B bM bR va vr vo accs i rows m xs mm D w) (hb : Below w.heap.size w w') : ExpS tE sz B bM bR va vr vo accs i rows m xs mm D w' := by
  have hg := grown_of hb
  exact ⟨own_far h.acc hg (fun g e => by cases e), own_far h.row hg (fun g e => by cases e), own_far h.ord hg (fun g e => by cases e), h.map.kept hg (by simp), (hb.block _ (blk_lt h.box)).trans h.box, h.low, h.ne⟩
theorem ExpS.base (h : ExpS tE sz B bM bR va vr vo accs i rows m xs mm D w) : B < w.heap.size := Nat.lt_of_le_of_lt h.low.1 (blk_lt h.box)
/-- One number more in the map. -/
theorem ExpS.map_put {D' : DataW Unit} (h : ExpS tE sz B bM bR va vr vo accs i rows m xs mm D w) (hm : w'.ownsMap Tryz.prog tE (plainElem Tryz.prog 3) bM (mm + 1) D') (hg : w.grownBy w' (some bM)) : ExpS tE sz B bM bR va vr vo accs i rows m xs (mm + 1) D' w' := by
  obtain ⟨es, clock, hb⟩ := h.mapB
  have hr : ∀ e g, some bM = some g → ∃ o, w.heap[g]? = some o ∧ ∀ cur, o ≠ .cells cur e (0, 0) := fun e g eg => by cases eg; exact ⟨_, hb, ne_map⟩
  exact ⟨own_far h.acc hg (hr _), own_far h.row hg (hr _), own_far h.ord hg (hr _), hm, (hg.block _ (blk_lt h.box) (fun e => by
    injection e with e
    have := h.box
    rw [e, hb] at this
    cases this)).trans h.box, h.low, h.ne⟩
/-- One key more is met. -/
theorem ExpS.ord_push {vo' : Value} {m' : Nat} {xs' : List Value} (h : ExpS tE sz B bM bR va vr vo accs i rows m xs mm D w) (ho : w'.ownsRow B tE sz vo' m' xs') (hg : w.grownBy w' vo.ownBlock) : ExpS tE sz B bM bR va vr vo' accs i rows m' xs' mm D w' := by
  have hr : ∀ e, tE ≠ e → ∀ g, vo.ownBlock = some g → ∃ o, w.heap[g]? = some o ∧ ∀ cur, o ≠ .cells cur e (0, 0) := fun e hne g eg => by
    obtain ⟨cur, hh⟩ := blk_ofz h.ord eg
    exact ⟨_, hh, ne_cells hne⟩
  obtain ⟨es, clock, hb⟩ := h.mapB
  refine ⟨own_far h.acc hg (hr _ h.ne.1), own_far h.row hg (hr _ h.ne.2.1), ho, h.map.kept hg (fun e => ?_), (hg.block _ (blk_lt h.box) (fun e => ?_)).trans h.box, h.low, h.ne⟩
  · obtain ⟨cur, hh⟩ := blk_ofz h.ord e.symm
    rw [hb] at hh
    cases hh
  · obtain ⟨cur, hh⟩ := blk_ofz h.ord e.symm
    rw [h.box] at hh
    cases hh
    exact h.ne.2.2 rfl
/-- A block that is none of these. -/
def ExpN (B bM bR : Nat) (va vr vo : Value) (g : Nat) : Prop := va.ownBlock ≠ some g ∧ vr.ownBlock ≠ some g ∧ vo.ownBlock ≠ some g ∧ bM ≠ g ∧ bR ≠ g ∧ B ≤ g
theorem ExpS.fresh (h : ExpS tE sz B bM bR va vr vo accs i rows m xs mm D w) {g : Nat} (hg : w.heap.size ≤ g) : ExpN B bM bR va vr vo g :=
  ⟨fun e => by have := (h.acc.lt g e).2; omega, fun e => by have := (h.row.lt g e).2; omega, fun e => by have := (h.ord.lt g e).2; omega, fun e => by have := h.map.lt; omega, fun e => by have := blk_lt h.box; omega, by have := h.base; omega⟩
theorem ExpS.set (h : ExpS tE sz B bM bR va vr vo accs i rows m xs mm D w) {g o : Nat} (hn : ExpN B bM bR va vr vo g) (u : Value) : ExpS tE sz B bM bR va vr vo accs i rows m xs mm D (w.setCell ⟨g, o, none⟩ u) :=
  ⟨ownsRow_setCell_other h.acc hn.1 _, ownsRow_setCell_other h.row hn.2.1 _, ownsRow_setCell_other h.ord hn.2.2.1 _, h.map.setCell hn.2.2.2.1 _, (Below.heap_setCell _ _ _ _ hn.2.2.2.2.1).trans h.box, h.low, h.ne⟩
theorem ExpS.notAcc (h : ExpS tE sz B bM bR va vr vo accs i rows m xs mm D w) : ∀ e, e ≠ 4 → ∀ g, va.ownBlock = some g → ∃ o, w.heap[g]? = some o ∧ ∀ cur, o ≠ .cells cur e (0, 0) := fun e hne g eg => by
  obtain ⟨cur, hh⟩ := blk_ofz h.acc eg
  exact ⟨_, hh, ne_cells hne.symm⟩
theorem ExpS.notRow (h : ExpS tE sz B bM bR va vr vo accs i rows m xs mm D w) : ∀ e, e ≠ 169 → ∀ g, vr.ownBlock = some g → ∃ o, w.heap[g]? = some o ∧ ∀ cur, o ≠ .cells cur e (0, 0) := fun e hne g eg => by
  obtain ⟨cur, hh⟩ := blk_ofz h.row eg
  exact ⟨_, hh, ne_cells hne.symm⟩
/-- One truth value more. -/
theorem ExpS.acc_push {va' : Value} {b : Bool} (h : ExpS tE sz B bM bR va vr vo accs i rows m xs mm D w) (hown : w'.ownsRow B 4 1 va' (accs.length + 1) (bools accs ++ [.bool b])) (hg : w.grownBy w' va.ownBlock) :
    (∃ x, w'.cell? ⟨bR, 0, none⟩ = some x) ∧ w'.frozen? ⟨bR, 0, none⟩ = false ∧ ExpS tE sz B bM bR va' vr vo (accs ++ [b]) i rows m xs mm D (w'.setCell ⟨bR, 0, none⟩ va') := by
  obtain ⟨es, clock, hb⟩ := h.mapB
  have hbox : w'.heap[bR]? = some (.cells #[va, vr] 123 (0, 0)) := (hg.block _ (blk_lt h.box) (fun e => by
    obtain ⟨cur, hh⟩ := blk_ofz h.acc e.symm
    rw [h.box] at hh
    cases hh)).trans h.box
  obtain ⟨c0, c1, f0, f1⟩ := box2_facts hbox
  have hs : ∀ e, e ≠ 123 → ∃ o, w'.heap[(⟨bR, 0, none⟩ : Addr).block]? = some o ∧ ∀ cur, o ≠ .cells cur e (0, 0) := fun e he => ⟨_, hbox, ne_cells he.symm⟩
  have hmk : w'.ownsMap Tryz.prog tE (plainElem Tryz.prog 3) bM mm D := h.map.kept hg (fun e => by
    obtain ⟨cur, hh⟩ := blk_ofz h.acc e.symm
    rw [hb] at hh
    cases hh)
  refine ⟨⟨_, c0⟩, f0, ?_, own_setz (own_far h.row hg (h.notAcc _ (by decide))) (hs _ (by decide)) _, own_setz (own_far h.ord hg (h.notAcc _ h.ne.1)) (hs _ h.ne.2.2) _, hmk.setCell (fun e => ?_) _, heap_setCell_same w' bR 0 _ _ va' hbox, h.low, h.ne⟩
  · have e : bools (accs ++ [b]) = bools accs ++ [.bool b] := by simp [bools]
    rw [e, List.length_append]
    exact own_setz hown (hs _ (by decide)) _
  · have e' : bM = bR := e
    obtain ⟨es', clock', hb', _⟩ := hmk
    rw [e', hbox] at hb'
    cases hb'
/-- One row more. -/
theorem ExpS.row_push {vr' : Value} {i' : Nat} {rows' : List Value} (h : ExpS tE sz B bM bR va vr vo accs i rows m xs mm D w) (hown : w'.ownsRow B 169 3 vr' i' rows') (hg : w.grownBy w' vr.ownBlock) :
    (∃ x, w'.cell? ⟨bR, 1, none⟩ = some x) ∧ w'.frozen? ⟨bR, 1, none⟩ = false ∧ ExpS tE sz B bM bR va vr' vo accs i' rows' m xs mm D (w'.setCell ⟨bR, 1, none⟩ vr') := by
  obtain ⟨es, clock, hb⟩ := h.mapB
  have hbox : w'.heap[bR]? = some (.cells #[va, vr] 123 (0, 0)) := (hg.block _ (blk_lt h.box) (fun e => by
    obtain ⟨cur, hh⟩ := blk_ofz h.row e.symm
    rw [h.box] at hh
    cases hh)).trans h.box
  obtain ⟨c0, c1, f0, f1⟩ := box2_facts hbox
  have hs : ∀ e, e ≠ 123 → ∃ o, w'.heap[(⟨bR, 1, none⟩ : Addr).block]? = some o ∧ ∀ cur, o ≠ .cells cur e (0, 0) := fun e he => ⟨_, hbox, ne_cells he.symm⟩
  have hmk : w'.ownsMap Tryz.prog tE (plainElem Tryz.prog 3) bM mm D := h.map.kept hg (fun e => by
    obtain ⟨cur, hh⟩ := blk_ofz h.row e.symm
    rw [hb] at hh
    cases hh)
  refine ⟨⟨_, c1⟩, f1, own_setz (own_far h.acc hg (h.notRow _ (by decide))) (hs _ (by decide)) _, own_setz hown (hs _ (by decide)) _, own_setz (own_far h.ord hg (h.notRow _ h.ne.2.1)) (hs _ h.ne.2.2) _, hmk.setCell (fun e => ?_) _, heap_setCell_same w' bR 1 _ _ vr' hbox, h.low, h.ne⟩
  have e' : bM = bR := e
  obtain ⟨es', clock', hb', _⟩ := hmk
  rw [e', hbox] at hb'
  cases hb'
end

/-! An array of three that is filled in a loop. -/
def Arr3 (w : World) (b : Nat) (f : Nat → Value) : Prop := w.heap[b]? = some (.cells #[f 0, f 1, f 2] 169 (0, 0))
theorem Arr3.same {w w' : World} {b : Nat} {f : Nat → Value} (h : Arr3 w b f) (hs : w'.heap[b]? = w.heap[b]?) : Arr3 w' b f := hs.trans h
theorem Arr3.facts {w : World} {b : Nat} {f : Nat → Value} (h : Arr3 w b f) {k : Nat} (hk : k < 3) : w.cell? ⟨b, k, none⟩ = some (f k) ∧ w.frozen? ⟨b, k, none⟩ = false := by
  refine ⟨(cell_of_row w _ k _ _ (0, 0) h).trans ?_, frozen_of_row w _ k _ _ h⟩
  rcases (show k = 0 ∨ k = 1 ∨ k = 2 by omega) with rfl | rfl | rfl <;> rfl
theorem Arr3.set {w : World} {b : Nat} {f : Nat → Value} (h : Arr3 w b f) {k : Nat} (hk : k < 3) {u : Value} {f' : Nat → Value} (hu : f' k = u) (ho : ∀ j, j < 3 → j ≠ k → f' j = f j) : Arr3 (w.setCell ⟨b, k, none⟩ u) b f' := by
  have h1 := heap_setCell_same w b k _ _ u h
  unfold Arr3
  rw [h1]
  rcases (show k = 0 ∨ k = 1 ∨ k = 2 by omega) with rfl | rfl | rfl
  · rw [hu, ho 1 (by omega) (by omega), ho 2 (by omega) (by omega)]; rfl
  · rw [hu, ho 0 (by omega) (by omega), ho 2 (by omega) (by omega)]; rfl
  · rw [hu, ho 0 (by omega) (by omega), ho 1 (by omega) (by omega)]; rfl
theorem Arr3.lt {w : World} {b : Nat} {f : Nat → Value} (h : Arr3 w b f) : b < w.heap.size := blk_lt h
/-- The first k are known. -/
def cutV (t : Nat → Nat) (k j : Nat) : Value := if j < k then .int .i64 ((t j : Nat) : Int) else .int .i64 0
theorem cutV_step (t : Nat → Nat) (k : Nat) : cutV t (k + 1) k = .int .i64 ((t k : Nat) : Int) ∧ ∀ j, j ≠ k → cutV t (k + 1) j = cutV t k j := by
  refine ⟨by simp [cutV], fun j hj => ?_⟩
  unfold cutV
  by_cases h : j < k
  · rw [if_pos h, if_pos (by omega)]
  · rw [if_neg h, if_neg (by omega)]

/-- A call of a function value, as one step of a region that draws. -/
theorem step_call_val {P : Program} {ops : Array Oper} {o : Oper} {a : Act} {w : World} {K : Act → World → Prop} {Q : Exit → Act → World → Prop} {E : Prop}
    (hg : o.guard = none) (fo : Operand) (args : Array Operand) (ts : Array TypeId) (hop : o.op = Op.call { callee := Callee.value fo, args := args, argTypes := ts }) (f : FuncId) (lb : Array Value) (hf : a.eval fo = .func (.func f) #[] lb) (hent : ∀ args w, (callFunc f args).run P w = .ok (.enter f args) w)
    (vs : Array Value) (hvs : args.map a.eval = vs) {R : Ending → World → Prop} (hC : Calls P f (vs ++ lb) w R) (hR : ∀ e w', R e w' → ∃ v, e = .returned v ∧ K (a.put o.dst v) w') :
    if Region.wanted o (yielded ops a.tmps) = true then Oper.wp P o a w K Q else E := by
  rw [if_pos (by simp [Region.wanted, hg])]
  unfold Oper.wp
  have hrun : (execOp a.eval o).run P w = .ok (.enter f (vs ++ lb)) w := by
    simp [execOp, hop, resolve, invoke, hf, Deferred.ofValue, hent, ← hvs]
  rw [hrun, Oper.upon_enter]
  refine hC.mono fun e w' h => ?_
  obtain ⟨v, rfl, hk⟩ := hR e w' h
  exact hk
/-- A map literal's entry. -/
theorem wpList_insert_own {H : Type} {P : Program} (w : World) {ops : Array Oper} {rest : List Oper} {o : Oper} {a : Act} {Q : Exit → Act → World → Prop}
    (hg : o.guard = none) (m x v : Operand) (t : TypeId) (hop : o.op = Op.insert t m x v)
    (k e : TypeId) (K : Keyed P k) (ht : P.underlying t = some (.map k e)) (R : Value → Option (DataW H × List MemPlace)) (b n : Nat) (D : DataW H)
    (hm : a.eval m = .map (some b)) (hown : w.ownsMap P k R b n D) (hn : n < maxLen) (key val : Value) (kl : Lit) (hx : a.eval x = key) (hv : a.eval v = val) (hkey : keyOf P k key = some kl)
    (d : DataW H) (ps : List MemPlace) (hval : R val = some (d, ps))
    (hK : ∀ w', w'.ownsMap P k R b (n + 1) (D.put kl d) → w.grownBy w' (some b) → wpList P ops Q rest (a.put o.dst undef) w') :
    wpList P ops Q (o :: rest) a w := by
  refine wpList_plain hg fun K' hK' => ?_
  obtain ⟨w', hrun, h1, h2⟩ := hown.update K ht hn hkey hval
  unfold Oper.wp
  simp [execOp, hop, hm, hx, hv, hrun, Result.andThen]
  exact hK' _ _ (hK w' h1 h2)

section
variable {α : Type} [DecidableEq α] [Inhabited α]
/-- The automaton that is found, or the word that too much was met. -/
def ExpPost (x0 : α) (T : α → Nat → α) (acc : α → Bool) (M : Nat) (w : World) (e : Ending) (w' : World) : Prop :=
  (∃ N va vr, Ends x0 T N ∧ N ≤ M ∧ e = .returned (.tuple #[.agg #[va, vr], .bool true]) ∧ AutoV w' va vr (found x0 T acc N) ∧ Below w.heap.size w w') ∨
  ((∀ N, N ≤ M → ¬ Ends x0 T N) ∧ e = .returned (.tuple #[.agg #[.slice none 0 0, .slice none 0 0], .bool false]) ∧ Below w.heap.size w w')
/-- What is met is of the kind that it began with. -/
theorem ords_ok {s0 : α} {g : α → Nat → α} {Ok : α → Prop} (h0 : Ok s0) (hg : ∀ x k, Ok x → k < 3 → Ok (g x k)) {i : Nat} (ha : ∀ j, j < i → j < (ords s0 g (3 * j)).length) : ∀ t, t ≤ 3 * i → ∀ x ∈ ords s0 g t, Ok x := by
  intro t
  induction t with
  | zero => intro _ x hx; simp [ords] at hx; rw [hx]; exact h0
  | succ t ih =>
    intro ht x hx
    have hd : Ok ((ords s0 g t).getD (t / 3) default) := by
      refine ih (by omega) _ (getD_mem ?_)
      have h1 := ha (t / 3) (by omega)
      have h2 := (ords_prefix (s0 := s0) (g := g) (show 3 * (t / 3) ≤ t by omega)).length_le
      omega
    rw [ords] at hx
    split at hx
    · exact ih (by omega) x hx
    · rcases List.mem_append.1 hx with hx | hx
      · exact ih (by omega) x hx
      · rw [List.mem_singleton] at hx
        rw [hx]
        exact hg _ _ hd (by omega)
/-- Too much is met. -/
theorem exp_big {s0 : α} {g : α → Nat → α} {i k M : Nat} (ha : ∀ j, j < i + 1 → j < (ords s0 g (3 * j)).length) (hk : k < 3) (hb : (ords s0 g (3 * i + (k + 1))).length = M + 1) : ∀ N, N ≤ M → ¬ Ends s0 g N := fun N hN => by
  refine Ends.not_big (M := M) (i := i) (fun j hj => ha j (by omega)) ?_ hN
  have := (ords_prefix (s0 := s0) (g := g) (show 3 * i + (k + 1) ≤ 3 * (i + 1) by omega)).length_le
  omega
end

theorem newB3 (w : World) (x y z : Value) (t : TypeId) : ∀ (j : Nat) (u : Value), [x, y, z][j]? = some u → (w.alloc (.cells #[x, y, z] t)).cell? ((⟨w.heap.size, 0, none⟩ : Addr).add j) = some u := by
  intro j u h
  rw [Addr.add_lit]
  match j, h with
  | 0, h => cases h; simp
  | 1, h => cases h; simp
  | 2, h => cases h; simp
theorem newB2 (w : World) (x y : Value) (t : TypeId) : ∀ (j : Nat) (u : Value), [x, y][j]? = some u → (w.alloc (.cells #[x, y] t)).cell? ((⟨w.heap.size, 0, none⟩ : Addr).add j) = some u := by
  intro j u h
  rw [Addr.add_lit]
  match j, h with
  | 0, h => cases h; simp
  | 1, h => cases h; simp
end Go.Proofs.YthmfncklepkddaaGreatDoor

/-
  The kinds of elements that the subset constructions meet. Of no function of the program.
-/
namespace Go.Proofs.YthmfncklepkddaaGreatDoor
open Go.RowKit

def okC (na nb : Nat) (x : Nat × List Nat) : Prop := x.1 < na ∧ x.2.Pairwise (· < ·) ∧ ∀ q ∈ x.2, q < nb
def okR (nb : Nat) (x : Bool × List Nat) : Prop := x.2.Pairwise (· < ·) ∧ ∀ q ∈ x.2, q < nb
theorem catG_ok {a b : Au} {na n k : Nat} (hn0 : 0 < n) (ha : ∀ q, q < na → a.T q k < na) (hw : ∀ q, q < n → b.T q k < n) {x : Nat × List Nat} (hx : okC na n x) : okC na n (catG a b x k) := by
  obtain ⟨h1, -, h2⟩ := hx
  have hmv : ∀ q ∈ moveS b x.2 k, q < n := fun q hq => by
    obtain ⟨p', h1, rfl⟩ := mem_move.1 hq
    exact hw p' (h2 p' h1)
  unfold catG okC
  dsimp only
  refine ⟨ha _ h1, ?_⟩
  split
  · refine ⟨putS_asc (move_asc _ _ _), fun q hq => ?_⟩
    rcases mem_putS.1 hq with rfl | hq
    · exact hn0
    · exact hmv q hq
  · exact ⟨move_asc _ _ _, hmv⟩
theorem catS_ok {a : Au} {na n : Nat} (ha : 0 < na) (hn : 0 < n) : okC na n (catS a) := by
  unfold catS okC
  dsimp only
  refine ⟨ha, ?_⟩
  split
  · exact ⟨by simp, fun q hq => by simp at hq; omega⟩
  · exact ⟨by simp, fun q hq => by simp at hq⟩

theorem starG_ok {b : Au} {n k : Nat} (hn0 : 0 < n) (hw : ∀ q, q < n → b.T q k < n) {x : Bool × List Nat} (hx : okR n x) : okR n (starG b x k) := by
  obtain ⟨-, h2⟩ := hx
  have hmv : ∀ q ∈ moveS b x.2 k, q < n := fun q hq => by
    obtain ⟨p', h1, rfl⟩ := mem_move.1 hq
    exact hw p' (h2 p' h1)
  unfold starG okR
  dsimp only
  split
  · refine ⟨putS_asc (move_asc _ _ _), fun q hq => ?_⟩
    rcases mem_putS.1 hq with rfl | hq
    · exact hn0
    · exact hmv q hq
  · exact ⟨move_asc _ _ _, hmv⟩

end Go.Proofs.YthmfncklepkddaaGreatDoor

/-
  A state and a set of states as the program lays them: their cells, their keys. Of no function of the program.
  What impl.explore answers over these: the automaton that a search in breadth numbers, or the word that too much was met.
-/
namespace Go.Proofs.YthmfncklepkddaaGreatDoor
open Go.RowKit Go.Maps

theorem ceInfo : (Tryz.prog.info? 140).map (fun i => (i.zero, i.size, i.bytes)) = some (some (.agg #[.int .i64 0, .int .u64 0]), 2, 16) := by kernel_rfl
theorem laidOut_progC : laidOutB Tryz.prog = true := by kernel_rfl
theorem lawCE : Keyed Tryz.prog 140 := Keyed.of_law (deep_law_gate laidOut_progC (of_decide_eq_true (by kernel_rfl)) (of_decide_eq_true (by kernel_rfl)) (by kernel_rfl) (by kernel_rfl))
/-- A key. -/
def klC (x : Nat × List Nat) : Lit := .string (keyBytes [.int .i64 (x.1 : Int), .int .u64 ((mskS x.2 : Nat) : Int)])

theorem klC_key {na nb : Nat} (ha : na ≤ 40) (hb : nb ≤ 40) {x : Nat × List Nat} (h : okC na nb x) : keyOf Tryz.prog 140 (.agg #[.int .i64 (x.1 : Int), .int .u64 ((mskS x.2 : Nat) : Int)]) = some (klC x) := by
  have h1 := klN_wf (x := x.1) (by have := h.1; omega)
  have h2 := msk_wf (s := x.2) (fun q hq => by have := h.2.2 q hq; omega)
  have hk : Tryz.prog.keyType 140 = true := by kernel_rfl
  have hc : Tryz.prog.cellsOf 140 = 2 := by kernel_rfl
  have hi : Tryz.prog.cellsOf 3 = 1 := by kernel_rfl
  have hi' : Tryz.prog.cellsOf 138 = 1 := by kernel_rfl
  have hsz : 140 < Tryz.prog.types.size := of_decide_eq_true (by kernel_rfl)
  obtain ⟨m, hm⟩ : ∃ m, Tryz.prog.types.size = m + 1 := ⟨Tryz.prog.types.size - 1, by omega⟩
  have hu := Tryz.underlying140
  have hv := Tryz.underlying3
  have hv' := Tryz.underlying138
  obtain ⟨P, hP⟩ : ∃ P, P = Tryz.prog := ⟨_, rfl⟩
  rw [← hP] at hk hc hi hi' hm hu hv hv' ⊢
  simp [keyOf, hu, hk, Value.formed, Program.keyLits, hc, hi, hi', Value.cells, hm, hv, hv', h1, h2, klC]
theorem klC_inj {na nb : Nat} (ha : na ≤ 40) (hb : nb ≤ 40) (x y : Nat × List Nat) (hx : okC na nb x) (hy : okC na nb y) (h : klC x = klC y) : x = y := by
  have h1 := klC_key ha hb hx
  have h2 := klC_key ha hb hy
  rw [← h] at h2
  have h3 := lawCE.inj h1 h2
  simp at h3
  exact Prod.ext (by omega) (msk_inj hx.2.1 hy.2.1 (by omega))
/-- As cells. -/
def ceC (l : List (Nat × List Nat)) : List Value := l.flatMap fun x => [.int .i64 (x.1 : Int), .int .u64 ((mskS x.2 : Nat) : Int)]
theorem ceC_snoc (l : List (Nat × List Nat)) (x : Nat × List Nat) : ceC (l ++ [x]) = ceC l ++ [.int .i64 (x.1 : Int), .int .u64 ((mskS x.2 : Nat) : Int)] := by simp [ceC]
theorem ceC_at : ∀ (l : List (Nat × List Nat)) (i : Nat), i < l.length → (ceC l)[i * 2]? = some (.int .i64 (((l.getD i default)).1 : Int)) ∧ (ceC l)[i * 2 + 1]? = some (.int .u64 ((mskS ((l.getD i default)).2 : Nat) : Int))
  | [], i, h => absurd h (Nat.not_lt_zero _)
  | x :: l, 0, _ => ⟨rfl, rfl⟩
  | x :: l, i + 1, h => by
    have ih := ceC_at l i (by simpa using h)
    have e : ceC (x :: l) = .int .i64 (x.1 : Int) :: .int .u64 ((mskS x.2 : Nat) : Int) :: ceC l := rfl
    rw [e, show (i + 1) * 2 = i * 2 + 1 + 1 by omega]
    simpa using ih

set_option maxRecDepth 100000 in
set_option maxHeartbeats 6400000 in
theorem implExpC_any (g1 g2 : Nat) (lb1 lb2 : Array Value) (eg1 : ∀ args w, (callFunc g1 args).run Tryz.prog w = .ok (.enter g1 args) w) (eg2 : ∀ args w, (callFunc g2 args).run Tryz.prog w = .ok (.enter g2 args) w)
    (T : Nat × List Nat → Nat → Nat × List Nat) (acc : Nat × List Nat → Bool) (na nb : Nat) (M : Nat) (x0 : Nat × List Nat) (w : World) (ha : na ≤ 40) (hb : nb ≤ 40) (hM : M ≤ 2000) (hM1 : 1 ≤ M) (h0 : okC na nb x0) (hT : ∀ x k, okC na nb x → k < 3 → okC na nb (T x k))
    (H1 : ∀ (V : World) (x : Nat × List Nat) (k : Nat), Below w.heap.size w V → okC na nb x → k < 3 → Calls Tryz.prog g1 ((#[.agg #[.int .i64 (x.1 : Int), .int .u64 ((mskS x.2 : Nat) : Int)], .int .i64 (k : Int)] ++ lb1)) V fun e w' => e = .returned (.agg #[.int .i64 (((T x k)).1 : Int), .int .u64 ((mskS ((T x k)).2 : Nat) : Int)]) ∧ Below V.heap.size V w')
    (H2 : ∀ (V : World) (x : Nat × List Nat), Below w.heap.size w V → okC na nb x → Calls Tryz.prog g2 (#[.agg #[.int .i64 (x.1 : Int), .int .u64 ((mskS x.2 : Nat) : Int)]] ++ lb2) V fun e w' => e = .returned (.bool (acc x)) ∧ Below V.heap.size V w') :
    Calls Tryz.prog 140 #[.agg #[.int .i64 (x0.1 : Int), .int .u64 ((mskS x0.2 : Nat) : Int)], .func (.func g1) #[] lb1, .func (.func g2) #[] lb2, .int .i64 (M : Int)] w (ExpPost x0 T acc M w) := by
  obtain ⟨i0, hi, hz0, hz1, hz2⟩ := info_parts ceInfo
  obtain ⟨b0, hbi, hb0, hb1, hb2⟩ := info_parts boolInfo
  obtain ⟨r0, hri, hr0, hr1, hr2⟩ := info_parts rowInfo3
  have hmm := @run_makeMap Tryz.prog
  have HIn : Hid (∀ x y, okC na nb x → okC na nb y → klC x = klC y → x = y) := Lib.hid (fun x y hx hy h => klC_inj ha hb x y hx hy h)
  have HKy : Hid (∀ x, okC na nb x → keyOf Tryz.prog 140 (.agg #[.int .i64 (x.1 : Int), .int .u64 ((mskS x.2 : Nat) : Int)]) = some (klC x)) := Lib.hid (fun x h => klC_key ha hb h)
  have HKeys : Hid (∀ i, (∀ j, j < i → j < (ords x0 T (3 * j)).length) → ∀ t, t ≤ 3 * i → ∀ x ∈ ords x0 T t, okC na nb x) := Lib.hid (fun i ha t => ords_ok (Ok := okC na nb) h0 hT ha t)
  have HTT := Lib.hid hT
  have HH1 := Lib.hid H1
  have HH2 := Lib.hid H2
  clear hT H1 H2
  obtain ⟨W2, hW2⟩ : ∃ W2, W2 = ((w.alloc (.cells #[.int .i64 (x0.1 : Int), .int .u64 ((mskS x0.2 : Nat) : Int)] 140)).alloc (.cells #[.slice none 0 0, .slice none 0 0] 123)).alloc (.cells #[.slice none 0 0, .slice none 0 0] 123) := ⟨_, rfl⟩
  have HB2 : Hid (Below w.heap.size w W2) := Lib.hid (by rw [hW2]; exact (((Below.refl _ _).alloc (Nat.le_refl _) _).alloc (by simp) _).alloc (by simp; omega) _)
  have HZ2 : Hid (W2.heap.size = w.heap.size + 1 + 1 + 1) := Lib.hid (by rw [hW2]; simp)
  have HX2 : Hid (W2.heap[w.heap.size + 1]? = some (.cells #[.slice none 0 0, .slice none 0 0] 123 (0, 0)) ∧ W2.heap[w.heap.size + 1 + 1]? = some (.cells #[.slice none 0 0, .slice none 0 0] 123 (0, 0))) := Lib.hid (by
    rw [hW2]
    have h1 := heap_alloc_new (w.alloc (.cells #[.int .i64 (x0.1 : Int), .int .u64 ((mskS x0.2 : Nat) : Int)] 140)) (.cells #[.slice none 0 0, .slice none 0 0] 123)
    have h2 := heap_alloc_new ((w.alloc (.cells #[.int .i64 (x0.1 : Int), .int .u64 ((mskS x0.2 : Nat) : Int)] 140)).alloc (.cells #[.slice none 0 0, .slice none 0 0] 123)) (.cells #[.slice none 0 0, .slice none 0 0] 123)
    rw [World.size_alloc] at h1 h2
    rw [World.size_alloc] at h2
    exact ⟨(Below.heap_alloc _ _ _ (by simp)).trans h1, h2⟩)
  have HP2 : Hid (W2.heap[w.heap.size]? = some (.cells #[.int .i64 (x0.1 : Int), .int .u64 ((mskS x0.2 : Nat) : Int)] 140 (0, 0))) := Lib.hid (by
    rw [hW2]
    exact (Below.heap_alloc _ _ _ (by simp; omega)).trans ((Below.heap_alloc _ _ _ (by simp)).trans (heap_alloc_new w _)))
  go_enter Tryz.func140, Tryz.ntmps140
  go_upto_region 2 with fail
  rw [← hW2]
  clear hW2
  have hk0 := HKy.out x0 h0
  have hown0 := World.ownsMap_made (H := Unit) W2 Tryz.prog 140 (plainElem Tryz.prog 3)
  have hpa : (W2.alloc (.map #[] 0)).heap[w.heap.size]? = some (.cells #[.int .i64 (x0.1 : Int), .int .u64 ((mskS x0.2 : Nat) : Int)] 140 (0, 0)) := (Below.heap_alloc _ _ _ (by have := HZ2.out; omega)).trans HP2.out
  obtain ⟨p0, p1, -, -⟩ := box2_facts hpa
  have HPa := Lib.hid hpa
  clear hpa
  go_upto_region 3 with (refine wpList_insert_own _ rfl (.tmp 19) (.tmp 20) _ 190 rfl 140 3 lawCE Tryz.underlying190 _ W2.heap.size 0 _ rfl hown0 (by unfold maxLen; omega) _ _ _ rfl rfl hk0 _ [] (plainElem_int Tryz.underlying3 (a := 0) (by decide)) ?_; intro w3 hown3 hg3)
  have hp3 : w3.heap[w.heap.size]? = some (.cells #[.int .i64 (x0.1 : Int), .int .u64 ((mskS x0.2 : Nat) : Int)] 140 (0, 0)) := (hg3.block _ (blk_lt HPa.out) (fun e => by injection e with e; have := HZ2.out; omega)).trans HPa.out
  obtain ⟨p2, p3, -, -⟩ := box2_facts hp3
  clear p0 p1 hp3
  go_wp2_with fail
  clear p2 p3
  obtain ⟨bM, hbM⟩ : ∃ bM, bM = W2.heap.size := ⟨_, rfl⟩
  rw [← hbM] at hown3 hg3 ⊢
  obtain ⟨W4, hW4⟩ : ∃ W4, W4 = w3.alloc (.cells #[.int .i64 (x0.1 : Int), .int .u64 ((mskS x0.2 : Nat) : Int)] 140) := ⟨_, rfl⟩
  rw [← hW4]
  obtain ⟨B, hB⟩ : ∃ B, B = w.heap.size + 1 + 1 := ⟨_, rfl⟩
  rw [← hB] at HX2 HZ2 ⊢
  have HBe := Lib.hid hB
  have hmx : MapOf klC (okC na nb) ((DataW.map []).put (klC x0) (.lit (.int .i64 0))) [x0] := (MapOf.nil klC (okC na nb)).put HIn.out (fun x _ => by trivial) h0 (by simp)
  have HS4 : Hid (ExpS 140 2 B bM B (.slice none 0 0) (.slice none 0 0) (.slice (some ⟨w3.heap.size, 0, none⟩) 1 1) [] 0 [] 1 (ceC [x0]) 1 ((DataW.map []).put (klC x0) (.lit (.int .i64 0))) W4 ∧ Below B W2 W4) := Lib.hid (by
    have hg2 : W2.grownBy (W2.alloc (.map #[] 0)) none := World.grownBy_alloc _ _ _
    have hz := HZ2.out
    have hba : Below B W2 (W2.alloc (.map #[] 0)) := (Below.refl _ _).alloc (by omega) _
    have hb3 : Below B W2 w3 := hba.grown hg3 (by simp; omega) (fun k e => by cases e; omega)
    have hb4 : Below B W2 W4 := by rw [hW4]; exact hb3.alloc (by have := hb3.size; omega) _
    refine ⟨⟨⟨rfl, .inl ⟨rfl, rfl⟩⟩, ⟨rfl, .inl ⟨rfl, rfl⟩⟩, ?_, ?_, ?_, ⟨Nat.le_refl _, by omega⟩, by decide, by decide, by decide⟩, hb4⟩
    · rw [hW4]
      exact ⟨rfl, .inr ⟨w3.heap.size, 1, #[.int .i64 (x0.1 : Int), .int .u64 ((mskS x0.2 : Nat) : Int)], rfl, by have := hb3.size; omega, heap_alloc_new w3 _, Nat.le_refl _, by decide, rfl, rfl⟩⟩
    · rw [hW4]
      exact hown3.alloc _
    · rw [hW4]
      have h1 := (hg3.block B (by simp; omega) (fun e => by injection e with e; omega)).trans ((Below.heap_alloc W2 _ B (by omega)).trans HX2.out.2)
      exact (Below.heap_alloc w3 _ B (blk_lt h1)).trans h1)
  have HM4 := Lib.hid hmx
  clear hown0 hown3 hg3 hW4 hmx hB hbM hk0
  have HE0 : Hid (ords x0 T (3 * 0) = [x0]) := Lib.hid rfl
  go_loopw [12, 13] (fun vo iv wr => ∃ (i : Nat) (va vr : Value) (D : DataW Unit), iv = .int .i64 i ∧ i ≤ M ∧ Hid ((ords x0 T (3 * i)).length ≤ M) ∧ Hid (Below B W2 wr) ∧ Hid (∀ j, j < i → j < (ords x0 T (3 * j)).length) ∧ Hid (ExpS 140 2 B bM B va vr vo ((List.range i).map fun j => acc (keyA x0 T j)) i (rowsC x0 T i) (ords x0 T (3 * i)).length (ceC (ords x0 T (3 * i))) (ords x0 T (3 * i)).length D wr ∧ MapOf klC (okC na nb) D (ords x0 T (3 * i)))) (fun _ iv _ => M + 1 - (intOf iv).toNat)
  case atStart => exact ⟨0, _, _, _, rfl, Nat.zero_le _, Lib.hid hM1, Lib.hid HS4.out.2, Lib.hid (fun j hj => absurd hj (Nat.not_lt_zero _)), Lib.hid ⟨HS4.out.1, HM4.out⟩⟩
  case round =>
    obtain ⟨i, va, vr, D, rfl, hin, HLe, HBr, hon, HS⟩ := hrel
    clear HS4 HM4 HE0
    obtain ⟨l, hl⟩ : ∃ l, l = ords x0 T (3 * i) := ⟨_, rfl⟩
    rw [← hl] at HS
    have hll : l.length ≤ M := by rw [hl]; exact HLe.out
    have hl0 : 0 < l.length := by rw [hl]; exact ords_pos _
    obtain ⟨go, co, hvo, -, -⟩ := own_cell HS.out.1.ord hl0
    subst hvo
    have HL := Lib.hid hl
    by_cases hlt : i < l.length
    · have hi1 : i < (ords x0 T (3 * i)).length := by rw [← hl]; exact hlt
      have HON : Hid (∀ j, j < i + 1 → j < (ords x0 T (3 * j)).length) := Lib.hid (fun j hj => by
        rcases Nat.lt_or_eq_of_le (Nat.le_of_lt_succ hj) with h | h
        · exact hon.out j h
        · rw [h]; exact hi1)
      clear hl
      have hd : decide ((i : Int) < (l.length : Int)) = true := by simp; omega
      go_upto_region 9 with fail
      obtain ⟨bx, hbx⟩ : ∃ bx, bx = wr.heap.size := ⟨_, rfl⟩
      obtain ⟨V0, hV0⟩ : ∃ V0, V0 = wr.alloc (.cells #[.int .i64 0, .int .i64 0, .int .i64 0] 169) := ⟨_, rfl⟩
      rw [← hV0, ← hbx]
      obtain ⟨accs, hacc⟩ : ∃ accs, accs = (List.range i).map fun j => acc (keyA x0 T j) := ⟨_, rfl⟩
      obtain ⟨rows, hrows⟩ : ∃ rows, rows = rowsC x0 T i := ⟨_, rfl⟩
      rw [← hacc, ← hrows] at HS
      have HAc := Lib.hid (And.intro hacc hrows)
      have hal : accs.length = i := by rw [hacc]; simp
      have HAl := Lib.hid hal
      have HNx : Hid (ExpN B bM B va vr (.slice (some ⟨go, 0, none⟩) l.length co) bx) := Lib.hid (HS.out.1.fresh (by rw [hbx]; exact Nat.le_refl _))
      have HS0 : Hid (Below B W2 V0 ∧ (ExpS 140 2 B bM B va vr (.slice (some ⟨go, 0, none⟩) l.length co) accs i rows (ords x0 T (3 * i + 0)).length (ceC (ords x0 T (3 * i + 0))) (ords x0 T (3 * i + 0)).length D V0 ∧ MapOf klC (okC na nb) D (ords x0 T (3 * i + 0))) ∧ Arr3 V0 bx (cutV (toA x0 T i) 0)) := Lib.hid (by
        rw [Nat.add_zero, ← HL.out]
        refine ⟨by rw [hV0]; exact HBr.out.alloc (Nat.le_of_lt HS.out.1.base) _, ⟨HS.out.1.below (by rw [hV0]; exact (Below.refl _ _).alloc (Nat.le_refl _) _), HS.out.2⟩, ?_⟩
        rw [hV0, hbx]
        exact heap_alloc_new wr _)
      clear hd hV0 hacc hrows hal HS hbx
      go_loopw [12, 30] (fun vo kv wq => ∃ (k : Nat) (D : DataW Unit), kv = .int .i64 k ∧ k ≤ 3 ∧ Hid ((ords x0 T (3 * i + k)).length ≤ M) ∧ Hid (Below B W2 wq ∧ (ExpS 140 2 B bM B va vr vo accs i rows (ords x0 T (3 * i + k)).length (ceC (ords x0 T (3 * i + k))) (ords x0 T (3 * i + k)).length D wq ∧ MapOf klC (okC na nb) D (ords x0 T (3 * i + k))) ∧ Arr3 wq bx (cutV (toA x0 T i) k))) (fun _ kv _ => 3 - (intOf kv).toNat)
      case atStart => exact ⟨0, _, rfl, Nat.zero_le _, HLe, HS0⟩
      case round =>
        obtain ⟨k, Dk, rfl, hk, HLk, HQ⟩ := hrel
        clear HS0
        by_cases hk3 : k < 3
        · obtain ⟨st1, st2⟩ := keyA_step (s0 := x0) (g := T) hi1 hk3
          obtain ⟨hil, hkey⟩ := keyA_at (s0 := x0) (g := T) (t := 3 * i + k) hi1 (by omega)
          have hxM : okC na nb (keyA x0 T i) := HKeys.out (i + 1) HON.out (3 * i) (by omega) _ (getD_mem hi1)
          obtain ⟨x, hx⟩ : ∃ x, x = keyA x0 T i := ⟨_, rfl⟩
          obtain ⟨lq, hlq⟩ : ∃ lq, lq = ords x0 T (3 * i + k) := ⟨_, rfl⟩
          rw [← hx, ← hlq] at st1 st2
          rw [← hlq] at HQ hil hkey
          rw [← hx] at hkey hxM
          have hlqM : lq.length ≤ M := by rw [hlq]; exact HLk.out
          have HLq := Lib.hid (And.intro hlq hx)
          have HLe2 := Lib.hid hlqM
          clear hlq hx
          obtain ⟨y, hy⟩ : ∃ y, y = T x k := ⟨_, rfl⟩
          have hyM : okC na nb y := by rw [hy]; exact HTT.out x k hxM hk3
          rw [← hy] at st1 st2
          obtain ⟨gq, cq, hvq, -, hcq⟩ := own_cell HQ.out.2.1.1.ord (by omega)
          subst hvq
          have hpc := ceC_at lq i hil
          rw [hkey] at hpc
          have hci := (hcq (i * 2) (by omega)).trans hpc.1
          have hcj := (hcq (i * 2 + 1) (by omega)).trans hpc.2
          clear hpc
          have HC1 : Hid (Calls Tryz.prog g1 ((#[.agg #[.int .i64 (x.1 : Int), .int .u64 ((mskS x.2 : Nat) : Int)], .int .i64 (k : Int)] ++ lb1)) wr fun e w' => e = .returned (.agg #[.int .i64 (y.1 : Int), .int .u64 ((mskS y.2 : Nat) : Int)]) ∧ Below wr.heap.size wr w') := Lib.hid (by
            rw [hy]
            refine HH1.out wr x k (HB2.out.trans (HQ.out.1.mono ?_)) hxM hk3
            have := HBe.out
            omega)
          have HSt := Lib.hid (And.intro st1 st2)
          have s1 : (i : Int) < (lq.length : Int) := by omega
          have s2 : (0 : Int) ≤ (i : Int) := by omega
          have s3 : (k : Int) < 3 := by omega
          have s4 : (0 : Int) ≤ (k : Int) := by omega
          clear hcq st1 st2 hkey hy
          go_wp2_with fail
          refine HC1.out.mono ?_
          rintro e w4 ⟨rfl, hb4⟩
          clear hci hcj
          go_upto_region 12 with fail
          obtain ⟨be, hbe⟩ : ∃ be, be = w4.heap.size := ⟨_, rfl⟩
          obtain ⟨w5, hw5⟩ : ∃ w5, w5 = w4.alloc (.cells #[.int .i64 (y.1 : Int), .int .u64 ((mskS y.2 : Nat) : Int)] 140) := ⟨_, rfl⟩
          rw [← hw5, ← hbe]
          have hb5 : Below wr.heap.size wr w5 := by rw [hw5]; exact hb4.alloc hb4.size _
          have HE5 : Hid (w5.heap[be]? = some (.cells #[.int .i64 (y.1 : Int), .int .u64 ((mskS y.2 : Nat) : Int)] 140 (0, 0)) ∧ bM ≠ be) := Lib.hid (by
            rw [hw5, hbe]
            refine ⟨heap_alloc_new w4 _, fun e => ?_⟩
            have h1 := HQ.out.2.1.1.map.lt
            have h2 := hb4.size
            omega)
          obtain ⟨p0, p1, -, -⟩ := box2_facts HE5.out.1
          clear hb4 hbe hw5
          have HQ5 := Lib.hid (And.intro (HQ.out.1.trans (hb5.mono (Nat.le_trans (by have := HZ2.out; omega) HQ.out.1.size))) (And.intro (HQ.out.2.1.1.below hb5) (HQ.out.2.2.same (hb5.block _ HQ.out.2.2.lt))))
          have HMo := Lib.hid HQ.out.2.1.2
          obtain ⟨kf1, kf2⟩ := HQ5.out.2.2.facts hk3
          have hky := HKy.out y hyM
          clear hb5
          by_cases hyl : y ∈ lq
          · have hhas : Maps.has Dk (klC y) = true := by rw [(HMo.out.2 y hyM).1]; simpa using hyl
            have HHit := Lib.hid (And.intro ((HMo.out.2 y hyM).2 hyl) (HSt.out.1 hyl))
            clear hyl
            go_wp2_with (at_lookup; refine wpList_lookup_own_ok_int _ rfl (.tmp 41) (.tmp 42) 190 rfl 140 3 .i64 lawCE Tryz.underlying190 Tryz.underlying3 (zeroInt _) bM _ _ rfl HQ5.out.2.1.map _ _ rfl hky ?_; intro c hat hwc)
            have hc : c = ((toA x0 T i k : Nat) : Int) := by
              have h1 := HHit.out.1 (.lit (.int .i64 0))
              rw [hat] at h1
              rw [HHit.out.2.2]
              injection h1 with h1
              injection h1 with _ h1
            subst hc
            have HQ6 : Hid (Below B W2 (w5.setCell ⟨bx, k, none⟩ (.int .i64 ((toA x0 T i k : Nat) : Int))) ∧ (ExpS 140 2 B bM B va vr (.slice (some ⟨gq, 0, none⟩) lq.length cq) accs i rows (ords x0 T (3 * i + (k + 1))).length (ceC (ords x0 T (3 * i + (k + 1)))) (ords x0 T (3 * i + (k + 1))).length Dk (w5.setCell ⟨bx, k, none⟩ (.int .i64 ((toA x0 T i k : Nat) : Int))) ∧ MapOf klC (okC na nb) Dk (ords x0 T (3 * i + (k + 1)))) ∧ Arr3 (w5.setCell ⟨bx, k, none⟩ (.int .i64 ((toA x0 T i k : Nat) : Int))) bx (cutV (toA x0 T i) (k + 1))) := Lib.hid (by
              have hN := HNx.out
              rw [HHit.out.2.1]
              refine ⟨below_set HQ5.out.1 hN.2.2.2.2.2 _, ⟨HQ5.out.2.1.set ⟨hN.1, hN.2.1, fun e => ?_, hN.2.2.2.1, hN.2.2.2.2.1, hN.2.2.2.2.2⟩ _, HMo.out⟩, HQ5.out.2.2.set hk3 (cutV_step _ k).1 (fun j _ hj => (cutV_step _ k).2 j hj)⟩
              obtain ⟨cur, hh⟩ := blk_ofz HQ5.out.2.1.ord e
              exact blk_ne hh HQ5.out.2.2 (by decide) rfl)
            clear kf1 kf2 hat hhas hwc p0 p1
            go_wp2_with fail
            go_roundw
            case rel => exact ⟨k + 1, Dk, by go_num, by omega, Lib.hid (by rw [HHit.out.2.1]; exact HLe2.out), HQ6⟩
            case measure => simp [intOf]; omega
          · have hhas : Maps.has Dk (klC y) = false := by rw [(HMo.out.2 y hyM).1]; simpa using hyl
            have HMiss := Lib.hid (And.intro hyl (HSt.out.2 hyl))
            clear hyl
            by_cases hfull : lq.length = M
            · have hcmp : ((lq.length : Int) == (M : Int)) = true := by simp; omega
              have HBig := Lib.hid (exp_big (M := M) HON.out hk3 (by rw [HMiss.out.2.1, List.length_append, hfull]; rfl))
              obtain ⟨c0, c1, k0, k1⟩ := box2_facts ((HQ5.out.1.block _ (by have := HBe.out; omega)).trans HX2.out.1)
              obtain ⟨hcl, hsz, hot, hBl⟩ := put2 (k := .slice none 0 0) (l := .slice none 0 0) c0 c1
              obtain ⟨hc0, hc1⟩ := hcl
              have HOt := Lib.hid (And.intro HQ5.out.1 hBl)
              clear hsz hot hBl kf1 kf2
              go_wp2_with (at_lookup; refine wpList_lookup_own_ok_int _ rfl (.tmp 41) (.tmp 42) 190 rfl 140 3 .i64 lawCE Tryz.underlying190 Tryz.underlying3 (zeroInt _) bM _ _ rfl HQ5.out.2.1.map _ _ rfl hky ?_; intro c hat hwc)
              refine bodyPost_ret (v := .tuple #[.agg #[.slice none 0 0, .slice none 0 0], .bool false]) (by simp [results, Tryz.results140, go_sem, hc0, hc1]) rfl ?_
              exact .inr ⟨HBig.out, rfl, HOt.out.2 _ _ (HB2.out.trans (HOt.out.1.mono (by have := HBe.out; omega))) (Nat.le_succ _)⟩
            have hcmp : ((lq.length : Int) == (M : Int)) = false := by simp; omega
            have hroom : lq.length + 1 ≤ M := by omega
            have HRoom := Lib.hid hroom
            clear hfull
            go_upto_region 17 with (at_lookup; refine wpList_lookup_own_ok_int _ rfl (.tmp 41) (.tmp 42) 190 rfl 140 3 .i64 lawCE Tryz.underlying190 Tryz.underlying3 (zeroInt _) bM _ _ rfl HQ5.out.2.1.map _ _ rfl hky ?_; intro c hat hwc)
            go_upto_region 18 with (at_mapUpdate; refine wpList_mapUpdate_own _ rfl (.tmp 55) (.tmp 56) (.tmp 57) 190 rfl 140 3 lawCE Tryz.underlying190 _ bM lq.length Dk rfl HQ5.out.2.1.map (by unfold maxLen; omega) _ _ _ rfl rfl hky _ [] (plainElem_int Tryz.underlying3 (klN_wf (x := lq.length) (by omega))) ?_; intro w6 hown6 hg6)
            have HQ6 := Lib.hid (HQ5.out.2.1.map_put hown6 hg6)
            have HA6 : Hid (Below B W2 w6 ∧ Arr3 w6 bx (cutV (toA x0 T i) k)) := Lib.hid ⟨HQ5.out.1.grown hg6 (Nat.le_of_lt HQ5.out.2.1.base) (fun j e => by injection e with e; rw [← e]; exact HQ5.out.2.1.low.2), HQ5.out.2.2.same (hg6.block bx HQ5.out.2.2.lt (fun e => HNx.out.2.2.2.1 (by injection e with e; exact e.symm)))⟩
            have hbw6 : B ≤ w6.heap.size := Nat.le_of_lt HQ6.out.base
            have HMp := Lib.hid (HMo.out.put HIn.out (fun x _ => by trivial) hyM HMiss.out.1)
            obtain ⟨p4, p5, -, -⟩ := box2_facts ((hg6.block be (blk_lt HE5.out.1) (fun e => HE5.out.2 (by injection e with e; exact e.symm))).trans HE5.out.1)
            clear hown6 hg6 hat hwc hhas kf1 kf2 p0 p1
            go_wp2_with (at_builtin; refine wpList_append_own_at _ rfl (.tmp 58) (.tmp 60) 191 rfl B 140 i0 (.agg #[.int .i64 0, .int .u64 0]) 2 16 Tryz.underlying191 hi hz0 hz1 hz2 rfl (by decide) _ _ _ rfl (HQ6.out.ord.alloc _) ⟨w6.heap.size, 0, none⟩ 1 1 [.int .i64 (y.1 : Int), .int .u64 ((mskS y.2 : Nat) : Int)] rfl rfl (newB2 _ _ _ _) (by simp [Value.oneCell']) (by unfold maxLen; omega) (by omega) (by simp; omega) ?_)
            intro v' w7 hown' hgrow hnil hat
            have HQ7 : Hid (ExpS 140 2 B bM B va vr v' accs i rows (ords x0 T (3 * i + (k + 1))).length (ceC (ords x0 T (3 * i + (k + 1)))) (ords x0 T (3 * i + (k + 1))).length (Dk.put (klC y) (.lit (.int .i64 ((lq.length : Nat) : Int)))) w7) := Lib.hid (by
              have h1 := (HQ6.out.below ((Below.refl _ _).alloc (Nat.le_refl _) (.cells #[.int .i64 (y.1 : Int), .int .u64 ((mskS y.2 : Nat) : Int)] 140))).ord_push hown' hgrow
              rw [HMiss.out.2.1]
              rw [ceC_snoc, List.length_append]
              exact h1)
            have HA7 : Hid (Below B W2 w7 ∧ Arr3 w7 bx (cutV (toA x0 T i) k)) := Lib.hid (by
              refine ⟨(HA6.out.1.alloc hbw6 (.cells #[.int .i64 (y.1 : Int), .int .u64 ((mskS y.2 : Nat) : Int)] 140)).grown hgrow (by simp; omega) (fun j e => (HQ6.out.ord.lt j e).1), ?_⟩
              have h1 : Arr3 (w6.alloc (.cells #[.int .i64 (y.1 : Int), .int .u64 ((mskS y.2 : Nat) : Int)] 140)) bx (cutV (toA x0 T i) k) := HA6.out.2.same (Below.heap_alloc _ _ _ HA6.out.2.lt)
              refine h1.same (hgrow.block bx h1.lt (fun e => ?_))
              obtain ⟨cur, hh⟩ := blk_ofz HQ6.out.ord e.symm
              exact blk_ne hh HA6.out.2 (by decide) rfl)
            obtain ⟨kf1, kf2⟩ := HA7.out.2.facts hk3
            clear hown' hgrow hnil hat p4 p5
            have HQ8 : Hid (Below B W2 (w7.setCell ⟨bx, k, none⟩ (.int .i64 ((lq.length : Nat) : Int))) ∧ (ExpS 140 2 B bM B va vr v' accs i rows (ords x0 T (3 * i + (k + 1))).length (ceC (ords x0 T (3 * i + (k + 1)))) (ords x0 T (3 * i + (k + 1))).length (Dk.put (klC y) (.lit (.int .i64 ((lq.length : Nat) : Int)))) (w7.setCell ⟨bx, k, none⟩ (.int .i64 ((lq.length : Nat) : Int))) ∧ MapOf klC (okC na nb) (Dk.put (klC y) (.lit (.int .i64 ((lq.length : Nat) : Int)))) (ords x0 T (3 * i + (k + 1)))) ∧ Arr3 (w7.setCell ⟨bx, k, none⟩ (.int .i64 ((lq.length : Nat) : Int))) bx (cutV (toA x0 T i) (k + 1))) := Lib.hid (by
              have hN := HNx.out
              refine ⟨below_set HA7.out.1 hN.2.2.2.2.2 _, ⟨HQ7.out.set ⟨hN.1, hN.2.1, fun e => ?_, hN.2.2.2.1, hN.2.2.2.2.1, hN.2.2.2.2.2⟩ _, by rw [HMiss.out.2.1]; exact HMp.out⟩, HA7.out.2.set hk3 ?_ (fun j _ hj => (cutV_step _ k).2 j hj)⟩
              · obtain ⟨cur, hh⟩ := blk_ofz HQ7.out.ord e
                exact blk_ne hh HA7.out.2 (by decide) rfl
              · rw [(cutV_step _ k).1, HMiss.out.2.2])
            go_wp2_with fail
            go_roundw
            case rel => exact ⟨k + 1, _, by go_num, by omega, Lib.hid (by rw [HMiss.out.2.1, List.length_append]; exact HRoom.out), HQ8⟩
            case measure => simp [intOf]; omega
        · obtain rfl : k = 3 := by omega
          obtain ⟨hil, hkey⟩ := keyA_at (s0 := x0) (g := T) (t := 3 * i + 3) hi1 (by omega)
          have hxM : okC na nb (keyA x0 T i) := HKeys.out (i + 1) HON.out (3 * i) (by omega) _ (getD_mem hi1)
          obtain ⟨x, hx⟩ : ∃ x, x = keyA x0 T i := ⟨_, rfl⟩
          obtain ⟨lq, hlq⟩ : ∃ lq, lq = ords x0 T (3 * i + 3) := ⟨_, rfl⟩
          rw [← hlq] at HQ hil hkey
          rw [← hx] at hkey hxM
          have hlqM : lq.length ≤ M := by rw [hlq]; exact HLk.out
          have HLq := Lib.hid (And.intro hlq hx)
          have HLe2 := Lib.hid hlqM
          clear hlq hx
          obtain ⟨gq, cq, hvq, -, hcq⟩ := own_cell HQ.out.2.1.1.ord (by omega)
          subst hvq
          have hpc := ceC_at lq i hil
          rw [hkey] at hpc
          have hci := (hcq (i * 2) (by omega)).trans hpc.1
          have hcj := (hcq (i * 2 + 1) (by omega)).trans hpc.2
          clear hpc
          obtain ⟨b, hb⟩ : ∃ b, b = acc x := ⟨_, rfl⟩
          have HC2 : Hid (Calls Tryz.prog g2 (#[.agg #[.int .i64 (x.1 : Int), .int .u64 ((mskS x.2 : Nat) : Int)]] ++ lb2) wr.drew fun e w' => e = .returned (.bool b) ∧ Below wr.drew.heap.size wr.drew w') := Lib.hid (by
            rw [hb]
            refine HH2.out wr.drew x ((HB2.out.trans (HQ.out.1.mono ?_)).drew) hxM
            have := HBe.out
            omega)
          have HBb' := Lib.hid hb
          have s1 : (i : Int) < (lq.length : Int) := by omega
          have s2 : (0 : Int) ≤ (i : Int) := by omega
          have hal : accs.length ≤ 2000 := by rw [HAl.out]; omega
          have hbwr : B ≤ wr.heap.size := Nat.le_of_lt HQ.out.2.1.1.base
          have HQd := Lib.hid (HQ.out.2.1.1.below (Below.refl _ _).drew)
          obtain ⟨e0, -, e2, -⟩ := box2_facts HQ.out.2.1.1.box
          obtain ⟨e4, -, e6, -⟩ := box2_facts HQd.out.box
          obtain ⟨Aa, qa, hva⟩ := (RowO.of_owns HQ.out.2.1.1.acc (by omega)).row.shape
          rw [bools_length] at hva
          subst hva
          clear hcq hkey hb
          go_upto_region 21 with fail
          go_cut [] from 66 to 76 (fun wc => ∃ va2, Hid (ExpS 140 2 B bM B va2 vr (.slice (some ⟨gq, 0, none⟩) lq.length cq) (accs ++ [b]) i rows lq.length (ceC lq) lq.length Dk wc) ∧ Hid (Below B W2 wc ∧ Arr3 wc bx (cutV (toA x0 T i) 3)))
          case first =>
            go_region_law (first
              | (refine step_call_val rfl (.tmp 68) _ _ rfl g2 lb2 (by simp [Act.eval]) eg2 #[.agg #[.int .i64 (x.1 : Int), .int .u64 ((mskS x.2 : Nat) : Int)]] (by simp [Act.eval]) HC2.out ?_; rintro e w1 ⟨rfl, hb1⟩; have HO1 := Lib.hid (HQd.out.below hb1); have HA1 := Lib.hid (And.intro (HQ.out.1.drew.trans (hb1.mono (by show B ≤ wr.heap.size; omega))) (HQ.out.2.2.same (hb1.block bx HQ.out.2.2.lt))); obtain ⟨l0, -, l2, -⟩ := box2_facts HO1.out.box; have HO1a := Lib.hid (HO1.out.below ((Below.refl _ _).alloc (Nat.le_refl _) (.cells #[.bool b] 4))); obtain ⟨l4, -, l6, -⟩ := box2_facts HO1a.out.box; have hbw1 : B ≤ w1.heap.size := Nat.le_of_lt HO1.out.base; clear hb1; refine ⟨_, rfl, ?_⟩)
              | (refine step_append_own_at rfl (.tmp 67) (.tmp 74) 28 rfl B 4 b0 (.bool false) 1 1 Tryz.underlying28 hbi hb0 hb1 hb2 rfl (by decide) _ _ _ rfl (HO1.out.acc.alloc _) ⟨w1.heap.size, 0, none⟩ 1 1 [.bool b] rfl rfl (cell_one_new w1 _ _) (by simp [Value.oneCell']) (by unfold maxLen; omega) (by omega) (by simp; omega) ?_; intro v' w9 hown' hgrow hat; obtain ⟨g', cap', rfl⟩ := own_succ hown'; have HB9 := Lib.hid (((HA1.out.1.alloc hbw1 (.cells #[.bool b] 4)).grown hgrow (by simp; omega) (fun g e => (HO1.out.acc.lt g e).1)).setCell (p := ⟨B, 0, none⟩) (Nat.le_refl _) (.slice (some ⟨g', 0, none⟩) (accs.length + 1) cap')); obtain ⟨z1, z2, HQ9⟩ := HO1a.out.acc_push hown' hgrow; obtain ⟨z0, z1⟩ := z1; have HQ9 := Lib.hid HQ9; have HG9 := Lib.hid hgrow))
            all_goals
              have HX9 : Hid (Arr3 (w9.setCell ⟨B, 0, none⟩ (.slice (some ⟨g', 0, none⟩) (accs.length + 1) cap')) bx (cutV (toA x0 T i) 3)) := Lib.hid (by
                have hxa : Arr3 (w1.alloc (.cells #[.bool b] 4)) bx (cutV (toA x0 T i) 3) := HA1.out.2.same (Below.heap_alloc _ _ _ HA1.out.2.lt)
                refine (hxa.same (HG9.out.block bx hxa.lt (fun e => HNx.out.1 ?_))).same (Below.heap_setCell _ _ _ _ (fun e => HNx.out.2.2.2.2.1 (Eq.symm e)))
                exact e.symm)
              clear hown' hgrow hat z1 z2 l0 l2 l4 l6 e0 e2 e4 e6
              go_wp2_with fail
              go_meet
              exact ⟨_, HQ9, Lib.hid ⟨HB9.out, HX9.out⟩⟩
          case rest =>
            obtain ⟨va2, HQ9, HA9⟩ := hcut
            clear e0 e2 e4 e6 hci hcj
            have hbw9 : B ≤ wc.heap.size := Nat.le_of_lt HQ9.out.base
            obtain ⟨-, e1, -, e3⟩ := box2_facts HQ9.out.box
            have hx3 : Bx3 wc bx (.int .i64 ((toA x0 T i 0 : Nat) : Int)) (.int .i64 ((toA x0 T i 1 : Nat) : Int)) (.int .i64 ((toA x0 T i 2 : Nat) : Int)) 169 := HA9.out.2
            obtain ⟨⟨c0, c1, c2⟩, -⟩ := hx3.facts
            clear hx3
            obtain ⟨t0, ht0⟩ : ∃ y : Int, y = ((toA x0 T i 0 : Nat) : Int) := ⟨_, rfl⟩
            obtain ⟨t1, ht1⟩ : ∃ y : Int, y = ((toA x0 T i 1 : Nat) : Int) := ⟨_, rfl⟩
            obtain ⟨t2, ht2⟩ : ∃ y : Int, y = ((toA x0 T i 2 : Nat) : Int) := ⟨_, rfl⟩
            rw [← ht0] at c0
            rw [← ht1] at c1
            rw [← ht2] at c2
            have HRw : Hid (rows ++ [.int .i64 t0, .int .i64 t1, .int .i64 t2] = rowsC x0 T (i + 1)) := Lib.hid (by rw [rowsC_succ, HAc.out.2, ht0, ht1, ht2]; rfl)
            clear ht0 ht1 ht2
            go_wp2_with (at_builtin; refine wpList_append_own_at _ rfl (.tmp 78) (.tmp 80) 121 rfl B 169 r0 (.agg #[.int .i64 0, .int .i64 0, .int .i64 0]) 3 24 Tryz.underlying121 hri hr0 hr1 hr2 rfl (by decide) _ _ _ rfl (HQ9.out.row.alloc _) ⟨wc.heap.size, 0, none⟩ 1 1 [.int .i64 t0, .int .i64 t1, .int .i64 t2] rfl rfl (newB3 wc _ _ _ _) (by simp [Value.oneCell']) (by unfold maxLen; omega) (by omega) (by simp; omega) ?_)
            intro v' w9 hown' hgrow hnil hat
            obtain ⟨gn, capn, rfl⟩ := own_succ hown'
            obtain ⟨⟨z0, z1⟩, z2, HQb⟩ := (HQ9.out.below ((Below.refl _ _).alloc (Nat.le_refl _) (.cells #[.int .i64 t0, .int .i64 t1, .int .i64 t2] 169))).row_push hown' hgrow
            rw [HRw.out] at HQb
            have HQb := Lib.hid HQb
            have HBb := Lib.hid (((HA9.out.1.alloc hbw9 (.cells #[.int .i64 t0, .int .i64 t1, .int .i64 t2] 169)).grown hgrow (by simp; omega) (fun g e => (HQ9.out.row.lt g e).1)).setCell (p := ⟨B, 1, none⟩) (Nat.le_refl _) (.slice (some ⟨gn, 0, none⟩) (i + 1) capn))
            have HA1 : Hid (accs ++ [b] = (List.range (i + 1)).map fun j => acc (keyA x0 T j)) := Lib.hid (by rw [List.range_succ, List.map_append, HAc.out.1, HBb'.out, HLq.out.2]; rfl)
            rw [HA1.out] at HQb
            have HMk := Lib.hid HQ.out.2.1.2
            clear hown' hgrow hnil hat
            go_wp2_with fail
            go_roundw
            case rel => exact ⟨i + 1, _, _, Dk, by go_num, by omega, Lib.hid (by rw [show 3 * (i + 1) = 3 * i + 3 by omega]; exact HLk.out), HBb, HON, by
              rw [show 3 * (i + 1) = 3 * i + 3 by omega, ← HLq.out.1]
              exact Lib.hid ⟨HQb.out, HMk.out⟩⟩
            case measure => simp [intOf]; omega
    · have hE : Ends x0 T i := ⟨hon.out, by rw [← hl]; omega⟩
      have hEl := hE.length
      have hiM : i ≤ M := by rw [← hEl]; exact HLe.out
      have hi0 := hE.pos
      have HE := Lib.hid hE
      obtain ⟨ga, ca, rfl, hga, hca⟩ := own_cell HS.out.1.acc (by simp; omega)
      obtain ⟨gr, cr, rfl, hgr, hcr⟩ := own_cell HS.out.1.row hi0
      have HAu : Hid (∀ V : World, (∀ g, g ≠ w.heap.size + 1 → V.heap[g]? = wr.heap[g]?) → AutoV V (.slice (some ⟨ga, 0, none⟩) i ca) (.slice (some ⟨gr, 0, none⟩) i cr) (found x0 T acc i)) := Lib.hid (fun V hV => ⟨ga, ca, gr, cr, rfl, rfl, fun q hq => by
          have hq' : q < i := hq
          have hBe := HBe.out
          rw [World.cell?_of_block (w := wr) (a := ⟨ga, q, none⟩) (hV ga (by omega))]
          rw [hca q (by simp; omega), (found_keyA hE acc hq').1]
          simp [bools, hq'], fun q hq k hk => by
          have hq' : q < i := hq
          have hBe := HBe.out
          rw [World.cell?_of_block (w := wr) (a := ⟨gr, q * 3 + k, none⟩) (hV gr (by omega))]
          rw [hcr (q * 3 + k) (by omega), rowsC_at i q k hq' hk, (found_keyA hE acc hq').2 k hk]⟩)
      obtain ⟨e0, e1, -, -⟩ := box2_facts HS.out.1.box
      have hln : ((List.range i).map fun j => acc (keyA x0 T j)).length = i := by simp
      rw [hln] at e0
      have hyb := (HBr.out.block _ (by have := HBe.out; omega)).trans HX2.out.1
      obtain ⟨c0, c1, k0, k1⟩ := box2_facts hyb
      have hd : decide ((i : Int) < (l.length : Int)) = false := by simp; omega
      obtain ⟨hcl, hsz, hot, hBl⟩ := put2 (k := .slice (some ⟨ga, 0, none⟩) i ca) (l := .slice (some ⟨gr, 0, none⟩) i cr) c0 c1
      obtain ⟨hc0, hc1⟩ := hcl
      have HOt := Lib.hid (And.intro hsz (And.intro hot hBl))
      clear hsz hot hBl hyb hl hca hcr hln hE hEl hga hgr
      go_wp2_with fail
      refine bodyPost_ret (v := .tuple #[.agg #[.slice (some ⟨ga, 0, none⟩) i ca, .slice (some ⟨gr, 0, none⟩) i cr], .bool true]) (by simp [results, Tryz.results140, go_sem, hc0, hc1]) rfl ?_
      exact .inl ⟨i, _, _, HE.out, hiM, rfl, HAu.out _ HOt.out.2.1, HOt.out.2.2 _ _ (HB2.out.trans (HBr.out.mono (by have := HBe.out; omega))) (Nat.le_succ _)⟩
end Go.Proofs.YthmfncklepkddaaGreatDoor

namespace Go.Proofs.YthmfncklepkddaaGreatDoor
open Go.RowKit

set_option maxRecDepth 100000 in
set_option maxHeartbeats 3200000 in
theorem implMdC_any (g1 g2 : Nat) (lb1 lb2 : Array Value) (eg1 : ∀ args w, (callFunc g1 args).run Tryz.prog w = .ok (.enter g1 args) w) (eg2 : ∀ args w, (callFunc g2 args).run Tryz.prog w = .ok (.enter g2 args) w)
    (T : Nat × List Nat → Nat → Nat × List Nat) (acc : Nat × List Nat → Bool) (na nb : Nat) (M : Nat) (x0 : Nat × List Nat) (w : World) (ha : na ≤ 40) (hb : nb ≤ 40) (hM : M ≤ 2000) (hM1 : 1 ≤ M) (h0 : okC na nb x0) (hT : ∀ x k, okC na nb x → k < 3 → okC na nb (T x k))
    (H1 : ∀ (V : World) (x : Nat × List Nat) (k : Nat), Below w.heap.size w V → okC na nb x → k < 3 → Calls Tryz.prog g1 ((#[.agg #[.int .i64 (x.1 : Int), .int .u64 ((mskS x.2 : Nat) : Int)], .int .i64 (k : Int)] ++ lb1)) V fun e w' => e = .returned (.agg #[.int .i64 (((T x k)).1 : Int), .int .u64 ((mskS ((T x k)).2 : Nat) : Int)]) ∧ Below V.heap.size V w')
    (H2 : ∀ (V : World) (x : Nat × List Nat), Below w.heap.size w V → okC na nb x → Calls Tryz.prog g2 (#[.agg #[.int .i64 (x.1 : Int), .int .u64 ((mskS x.2 : Nat) : Int)]] ++ lb2) V fun e w' => e = .returned (.bool (acc x)) ∧ Below V.heap.size V w')
    (y : Dx) (ok : Bool) (hy : srchR M x0 T acc y ok) :
    Calls Tryz.prog 107 #[.agg #[.int .i64 (x0.1 : Int), .int .u64 ((mskS x0.2 : Nat) : Int)], .func (.func g1) #[] lb1, .func (.func g2) #[] lb2, .int .i64 (M : Int)] w (CopyDB y ok w) := by
  obtain ⟨W0, hW0⟩ : ∃ W0, W0 = (w.alloc (.cells #[.int .i64 (x0.1 : Int), .int .u64 ((mskS x0.2 : Nat) : Int)] 140)).alloc (.cells #[.slice none 0 0, .slice none 0 0] 31) := ⟨_, rfl⟩
  have HB0 : Hid (Below w.heap.size w W0) := Lib.hid (by rw [hW0]; exact ((Below.refl _ _).alloc (Nat.le_refl _) _).alloc (by simp) _)
  have HY : Hid (W0.heap[w.heap.size + 1]? = some (.cells #[.slice none 0 0, .slice none 0 0] 31 (0, 0))) := Lib.hid (by rw [hW0]; exact three2 w _ _ _ _)
  have HEx := Lib.hid (implExpC_any g1 g2 lb1 lb2 eg1 eg2 T acc na nb M x0 W0 ha hb hM hM1 h0 hT (fun V x k hV hx hk => H1 V x k (HB0.out.trans (hV.mono HB0.out.size)) hx hk) (fun V x hV hx => H2 V x (HB0.out.trans (hV.mono HB0.out.size)) hx))
  have HYy := Lib.hid hy
  obtain ⟨q0, q1, -, -⟩ := box2_facts (show W0.heap[w.heap.size]? = some (.cells #[.int .i64 (x0.1 : Int), .int .u64 ((mskS x0.2 : Nat) : Int)] 140 (0, 0)) by rw [hW0]; exact (Below.heap_alloc _ _ _ (by simp)).trans (heap_alloc_new w _))
  rw [hW0] at q0 q1
  clear hy hT H1 H2 h0 hM1
  go_enter Tryz.func107, Tryz.ntmps107
  go_wp2_with fail
  go_at_call 140
  rw [← hW0]
  refine HEx.out.mono ?_
  rintro e w1 (⟨N, va2, vr2, hE, hN, rfl, hau, hb1⟩ | ⟨hno, rfl, hb1⟩)
  · have HB1 := Lib.hid hb1
    obtain ⟨W2, hW2⟩ : ∃ W2, W2 = w1.alloc (.cells #[va2, vr2] 123) := ⟨_, rfl⟩
    have HB2 : Hid (Below w1.heap.size w1 W2) := Lib.hid (by rw [hW2]; exact (Below.refl _ _).alloc (Nat.le_refl _) _)
    obtain ⟨a0, a1, -, -⟩ := box2_facts (show W2.heap[w1.heap.size]? = some (.cells #[va2, vr2] 123 (0, 0)) by rw [hW2]; exact heap_alloc_new w1 _)
    have HMn := Lib.hid (implMinz_any va2 vr2 (found x0 T acc N) W2 (hE.num acc) (by show N ≤ 2000; omega) (hau.kept HB2.out))
    have HE := Lib.hid hE
    obtain ⟨ga, ca, gr, cr, rfl, rfl, -, -⟩ := hau
    clear q0 q1 hb1 hE
    rw [hW2] at a0 a1
    go_wp2_with fail
    go_at_call 86
    rw [← hW2]
    refine HMn.out.mono ?_
    rintro e w3 ⟨m, m1, m2, hcd⟩
    obtain ⟨rfl, rfl⟩ := srchR_yes HYy.out hN HE.out m1 m2
    obtain ⟨A1, p1, A2, p2, rfl, hoo, hb3⟩ := hcd.shape
    obtain ⟨x1, hx1⟩ : ∃ x, x = (fitD m).acc.length := ⟨_, rfl⟩
    obtain ⟨x2, hx2⟩ : ∃ x, x = (fitD m).nxt.length := ⟨_, rfl⟩
    obtain ⟨ok, hok⟩ : ∃ b, b = decide (m.n ≤ 40) := ⟨_, rfl⟩
    rw [← hx1, ← hx2] at hoo ⊢
    rw [← hok]
    have HOk := Lib.hid hok
    have HO3 := Lib.hid hoo
    have HB3 := Lib.hid (HB1.out.trans ((HB2.out.trans (hb3.mono HB2.out.size)).mono HB1.out.size))
    have hz1 := HB1.out.size
    have hz2 := HB2.out.size
    have hz3 := hb3.size
    have hyl := blk_lt HY.out
    obtain ⟨c0, c1, k0, k1⟩ := box2_facts ((HB3.out.block _ hyl).trans HY.out)
    obtain ⟨hcl, hsz, hot, hBl⟩ := put2 (k := .slice A1 x1 p1) (l := .slice A2 x2 p2) c0 c1
    obtain ⟨hc0, hc1⟩ := hcl
    have HOt := Lib.hid (And.intro hsz (And.intro hot hBl))
    clear hsz hot hBl hoo hb3 hcd hx1 hx2 m1 m2 hok a0 a1 hW2 hW0
    go_wp2_with fail
    refine bodyPost_ret (v := .tuple #[.agg #[.slice A1 x1 p1, .slice A2 x2 p2], .bool ok]) (by simp [results, Tryz.results107, go_sem, hc0, hc1]) rfl ?_
    have h0 := HB0.out.size
    rw [← HOk.out]
    exact ⟨_, _, rfl, HO3.out.mono (fun g hg => HOt.out.2.1 g (by have := hg.1; omega)) (fun g hg => ⟨by have := hg.1; omega, by rw [HOt.out.1]; exact hg.2⟩) (by rw [HOt.out.1]; exact Nat.le_refl _), HOt.out.2.2 _ _ (HB0.out.trans (HB3.out.mono h0)) (by omega)⟩
  · have HB1 := Lib.hid hb1
    obtain ⟨rfl, rfl⟩ := srchR_no HYy.out hno
    obtain ⟨c0, c1, k0, k1⟩ := box2_facts (((HB1.out.alloc HB1.out.size (.cells #[.slice none 0 0, .slice none 0 0] 123)).block _ (blk_lt HY.out)).trans HY.out)
    obtain ⟨hcl, hsz, hot, hBl⟩ := put2 (k := .slice none 0 0) (l := .slice none 0 0) c0 c1
    obtain ⟨hr0, hr1⟩ := hcl
    have HOt := Lib.hid hBl
    clear q0 q1 hsz hot hBl hb1 hW0
    go_wp2_with fail
    refine bodyPost_ret (v := .tuple #[.agg #[.slice none 0 0, .slice none 0 0], .bool false]) (by simp [results, Tryz.results107, go_sem, hr0, hr1]) rfl ?_
    exact ⟨_, _, rfl, DfaO.empty _ _, HOt.out _ _ (HB0.out.trans ((HB1.out.alloc HB1.out.size _).mono HB0.out.size)) (by omega)⟩
end Go.Proofs.YthmfncklepkddaaGreatDoor

/-
  What slices.Min and slices.Max answer over a row of three ints: the least and the greatest of them; the world is as it was.
  What impl.IsValidDfa answers.
-/
namespace Go.Proofs.YthmfncklepkddaaGreatDoor
open Go.RowKit

/-- The least. -/
def LeastOf (r : List Int) (w : World) (e : Ending) (w' : World) : Prop := ∃ y : Int, e = .returned (.int .i64 y) ∧ (∀ j, j < 3 → y ≤ r.getD j 0) ∧ (∃ j, j < 3 ∧ y = r.getD j 0) ∧ w = w'

set_option maxRecDepth 100000 in
set_option maxHeartbeats 800000 in
theorem libMin_any (ad : Addr) (c : Nat) (r : List Int) (w : World) (h : ∀ j, j < 3 → w.cell? (ad.add j) = some (.int .i64 (r.getD j 0))) :
    Calls Tryz.prog 87 #[.slice (some ad) 3 c] w (LeastOf r w) := by
  have HE := Lib.hid h
  have h0 : w.cell? ad = some (.int .i64 (r.getD 0 0)) := h 0 (by omega)
  clear h
  obtain ⟨x0, hx0⟩ : ∃ x, x = r.getD 0 0 := ⟨_, rfl⟩
  rw [← hx0] at h0
  have HX0 := Lib.hid hx0
  clear hx0
  go_enter Tryz.func87, Tryz.ntmps87
  go_wp2_with fail
  go_loop [3, 4] (fun m i => ∃ (k : Nat) (y : Int), i = .int .i64 k ∧ m = .int .i64 y ∧ 1 ≤ k ∧ k ≤ 3 ∧ Hid ((∀ j, j < k → y ≤ r.getD j 0) ∧ ∃ j, j < k ∧ y = r.getD j 0)) (fun _ i => 3 - (intOf i).toNat)
  case atStart => exact ⟨1, x0, rfl, rfl, by omega, by omega, Lib.hid ⟨fun j hj => by
    obtain rfl : j = 0 := by omega
    rw [HX0.out]; exact Int.le_refl _, 0, by omega, HX0.out⟩⟩
  case round =>
    obtain ⟨k, y, rfl, rfl, hk1, hk3, HR⟩ := hrel
    clear h0
    by_cases hlt : k < 3
    · have hc := HE.out k hlt
      obtain ⟨x, hx⟩ : ∃ x, x = r.getD k 0 := ⟨_, rfl⟩
      rw [← hx] at hc
      have HX := Lib.hid hx
      clear hx
      by_cases hyx : x < y
      · have hyx2 : ¬ y ≤ x := by omega
        go_wp2_with fail
        go_round
        case rel => exact ⟨k + 1, x, by go_num, by first | rfl | (congr 1; omega), by omega, by omega, Lib.hid ⟨fun j hj => by
          by_cases e : j = k
          · rw [e, HX.out]; exact Int.le_refl _
          · have := HR.out.1 j (by omega); omega, k, by omega, HX.out⟩⟩
        case measure => simp [intOf]; omega
      · have hyx2 : y ≤ x := by omega
        go_wp2_with fail
        go_round
        case rel => exact ⟨k + 1, y, by go_num, by first | rfl | (congr 1; omega), by omega, by omega, Lib.hid ⟨fun j hj => by
          by_cases e : j = k
          · rw [e, ← HX.out]; exact hyx2
          · exact HR.out.1 j (by omega), by
            obtain ⟨j, hj, e⟩ := HR.out.2
            exact ⟨j, by omega, e⟩⟩⟩
        case measure => simp [intOf]; omega
    · obtain rfl : k = 3 := by omega
      go_wp2_with fail
      go_ret
      exact ⟨y, rfl, HR.out.1, HR.out.2, rfl⟩
/-- The greatest. -/
def MostOf (r : List Int) (w : World) (e : Ending) (w' : World) : Prop := ∃ y : Int, e = .returned (.int .i64 y) ∧ (∀ j, j < 3 → r.getD j 0 ≤ y) ∧ (∃ j, j < 3 ∧ y = r.getD j 0) ∧ w = w'

set_option maxRecDepth 100000 in
set_option maxHeartbeats 800000 in
theorem libMax_any (ad : Addr) (c : Nat) (r : List Int) (w : World) (h : ∀ j, j < 3 → w.cell? (ad.add j) = some (.int .i64 (r.getD j 0))) :
    Calls Tryz.prog 88 #[.slice (some ad) 3 c] w (MostOf r w) := by
  have HE := Lib.hid h
  have h0 : w.cell? ad = some (.int .i64 (r.getD 0 0)) := h 0 (by omega)
  clear h
  obtain ⟨x0, hx0⟩ : ∃ x, x = r.getD 0 0 := ⟨_, rfl⟩
  rw [← hx0] at h0
  have HX0 := Lib.hid hx0
  clear hx0
  go_enter Tryz.func88, Tryz.ntmps88
  go_wp2_with fail
  go_loop [3, 4] (fun m i => ∃ (k : Nat) (y : Int), i = .int .i64 k ∧ m = .int .i64 y ∧ 1 ≤ k ∧ k ≤ 3 ∧ Hid ((∀ j, j < k → r.getD j 0 ≤ y) ∧ ∃ j, j < k ∧ y = r.getD j 0)) (fun _ i => 3 - (intOf i).toNat)
  case atStart => exact ⟨1, x0, rfl, rfl, by omega, by omega, Lib.hid ⟨fun j hj => by
    obtain rfl : j = 0 := by omega
    rw [HX0.out]; exact Int.le_refl _, 0, by omega, HX0.out⟩⟩
  case round =>
    obtain ⟨k, y, rfl, rfl, hk1, hk3, HR⟩ := hrel
    clear h0
    by_cases hlt : k < 3
    · have hc := HE.out k hlt
      obtain ⟨x, hx⟩ : ∃ x, x = r.getD k 0 := ⟨_, rfl⟩
      rw [← hx] at hc
      have HX := Lib.hid hx
      clear hx
      by_cases hyx : y < x
      · have hyx2 : ¬ x ≤ y := by omega
        go_wp2_with fail
        go_round
        case rel => exact ⟨k + 1, x, by go_num, by first | rfl | (congr 1; omega), by omega, by omega, Lib.hid ⟨fun j hj => by
          by_cases e : j = k
          · rw [e, HX.out]; exact Int.le_refl _
          · have := HR.out.1 j (by omega); omega, k, by omega, HX.out⟩⟩
        case measure => simp [intOf]; omega
      · have hyx2 : x ≤ y := by omega
        go_wp2_with fail
        go_round
        case rel => exact ⟨k + 1, y, by go_num, by first | rfl | (congr 1; omega), by omega, by omega, Lib.hid ⟨fun j hj => by
          by_cases e : j = k
          · rw [e, ← HX.out]; exact hyx2
          · exact HR.out.1 j (by omega), by
            obtain ⟨j, hj, e⟩ := HR.out.2
            exact ⟨j, by omega, e⟩⟩⟩
        case measure => simp [intOf]; omega
    · obtain rfl : k = 3 := by omega
      go_wp2_with fail
      go_ret
      exact ⟨y, rfl, HR.out.1, HR.out.2, rfl⟩
end Go.Proofs.YthmfncklepkddaaGreatDoor

namespace Go.Proofs.YthmfncklepkddaaGreatDoor
open Go.RowKit

set_option maxRecDepth 100000 in
set_option maxHeartbeats 1600000 in
theorem implValidD_any (va vn : Value) (d : Dx) (S : Nat → Prop) (w : World) (h : DfaV w S va vn d) :
    Calls Tryz.prog 40 #[.agg #[va, vn]] w fun e w' => e = .returned (.bool (validD d)) ∧ Below w.heap.size w w' := by
  obtain ⟨⟨A, c, rfl⟩, A', c', rfl⟩ := h.shape
  obtain ⟨W0, hW0⟩ : ∃ W0, W0 = w.alloc (.cells #[.slice A d.acc.length c, .slice A' d.nxt.length c'] 31) := ⟨_, rfl⟩
  have HB : Hid (Below w.heap.size w W0) := Lib.hid (by rw [hW0]; exact (Below.refl _ _).alloc (Nat.le_refl _) _)
  have HE := Lib.hid (h.2.kept (w' := W0) (by rw [hW0]; exact (Below.refl _ _).alloc (Nat.le_refl _) _))
  have hln := h.1.1
  have hlm := h.2.shape.1
  rw [bools_length] at hln
  rw [intss_length] at hlm
  clear h
  obtain ⟨n, hn⟩ : ∃ n, n = d.acc.length := ⟨_, rfl⟩
  obtain ⟨m, hm⟩ : ∃ m, m = d.nxt.length := ⟨_, rfl⟩
  obtain ⟨R, hR⟩ : ∃ R : Nat → List Int, R = fun j => d.nxt.getD j [] := ⟨_, rfl⟩
  have HNo : Hid (∀ j, j < m → rowOk n (R j) = false → validD d = false) := Lib.hid (fun j hj h => validD_no (j := j) (by rw [← hm]; exact hj) (by rw [← hn]; rw [hR] at h; exact h))
  have HYes : Hid (1 ≤ n → n ≤ 40 → m ≤ n → n ≤ m → (∀ j, j < m → rowOk n (R j) = true) → validD d = true) := Lib.hid (fun h1 h2 h3 h4 h => validD_yes (by omega) (by omega) (by omega) (fun j hj => by rw [← hn]; have := h j (by omega); rw [hR] at this; exact this))
  have HAt : Hid (∀ j, j < m → ∃ ad u, A' = some ad ∧ S ad.block ∧ W0.cell? (ad.add j) = some u ∧ RowV W0 S u (ints (R j))) := Lib.hid (fun j hj => by rw [hR]; exact HE.out.atD (j := j) (by rw [← hm]; exact hj))
  rw [← hn] at hW0 hln
  rw [← hm] at hW0 hlm
  rw [← hn, ← hm]
  have HV1 : Hid (¬ (1 ≤ n ∧ n ≤ 40) → validD d = false) := Lib.hid (fun h => by
    have : ¬ (1 ≤ d.acc.length ∧ d.acc.length ≤ 40) := by rw [← hn]; exact h
    simp only [validD, validF]
    by_cases h1 : 1 ≤ d.acc.length
    · have h2 : decide (d.acc.length ≤ 40) = false := decide_eq_false (by omega)
      simp [h2]
    · have h2 : decide (1 ≤ d.acc.length) = false := decide_eq_false (by omega)
      simp [h2])
  have HV2 : Hid (m ≠ n → validD d = false) := Lib.hid (fun h => by
    have h2 : decide (d.nxt.length = d.acc.length) = false := decide_eq_false (by omega)
    simp [validD, validF, h2])
  obtain ⟨vd, hvd⟩ : ∃ vd, vd = validD d := ⟨_, rfl⟩
  rw [← hvd] at HNo HYes HV1 HV2 ⊢
  clear hn hm hR hvd HE
  have hx := box2_kept (w := w) (w1 := W0) (a := .slice A n c) (b := .slice A' m c') (t := 31) (by rw [hW0]; exact Below.refl _ _)
  obtain ⟨-, c0, c1, -, -⟩ := hx
  rw [hW0] at c0 c1
  go_enter Tryz.func40, Tryz.ntmps40
  by_cases h1 : 1 ≤ n
  · have d1 : ¬ (n : Int) < 1 := by omega
    by_cases h2 : n ≤ 40
    · have d2 : ¬ (40 : Int) < (n : Int) := by omega
      by_cases h3 : m = n
      · subst h3
        have hne : ((m : Int) != (m : Int)) = false := by simp
        go_wp2_with fail
        rw [← hW0]
        clear hne d1 d2 c0 c1 hW0
        go_loopw [25] (fun i wr => ∃ q : Nat, i = .int .i64 q ∧ q ≤ m ∧ wr = W0 ∧ Hid (∀ j, j < q → rowOk m (R j) = true)) (fun i _ => m - (intOf i).toNat)
        case atStart => exact ⟨0, rfl, Nat.zero_le _, rfl, Lib.hid (fun j hj => absurd hj (Nat.not_lt_zero _))⟩
        case round =>
          obtain ⟨q, rfl, hq, rfl, HAll⟩ := hrel
          by_cases hlt : q < m
          · obtain ⟨ad, u, rfl, -, hc, hr⟩ := HAt.out q hlt
            obtain ⟨hrl, Ar, cr, rfl⟩ := hr.ints_shape
            have HR := Lib.hid hr
            obtain ⟨r, hr⟩ : ∃ r, r = R q := ⟨_, rfl⟩
            rw [← hr] at HR hc hrl
            have HRe := Lib.hid hr
            clear hr
            by_cases h4 : r.length = 3
            · have H3 := Lib.hid h4
              obtain ⟨ad2, hAr, -, -⟩ := HR.out.intD (j := 0) (by omega)
              subst hAr
              rw [h4] at hc hrl
              have HMI := Lib.hid (libMin_any ad2 cr r wr (fun j hj => by
                obtain ⟨ad3, e3, -, hc3⟩ := HR.out.intD (j := j) (by rw [h4]; exact hj)
                cases e3; exact hc3))
              have HMA := Lib.hid (libMax_any ad2 cr r wr (fun j hj => by
                obtain ⟨ad3, e3, -, hc3⟩ := HR.out.intD (j := j) (by rw [h4]; exact hj)
                cases e3; exact hc3))
              have h3i : ((3 : Int) != 3) = false := rfl
              clear h4
              go_wp2_with fail
              go_at_call 87
              refine HMI.out.mono ?_
              rintro e w1 ⟨y, rfl, hy1, hy2, rfl⟩
              have HY := Lib.hid (And.intro hy1 hy2)
              clear hy1 hy2
              by_cases hy0 : y < 0
              · have HF : Hid (vd = false) := Lib.hid (by
                  obtain ⟨j, hj, e⟩ := HY.out.2
                  exact HNo.out q hlt (rowOk_bad (k := j) (by rw [← HRe.out, H3.out]; exact hj) (by rw [← HRe.out]; omega)))
                go_wp2_with fail
                go_ret
                exact ⟨congrArg (fun b : Bool => Ending.returned (.bool b)) HF.out.symm, HB.out⟩
              · go_wp2_with fail
                go_at_call 88
                refine HMA.out.mono ?_
                rintro e w1 ⟨z, rfl, hz1, hz2, rfl⟩
                have HZ := Lib.hid (And.intro hz1 hz2)
                clear hz1 hz2
                by_cases hz0 : (m : Int) ≤ z
                · have HF : Hid (vd = false) := Lib.hid (by
                    obtain ⟨j, hj, e⟩ := HZ.out.2
                    exact HNo.out q hlt (rowOk_bad (k := j) (by rw [← HRe.out, H3.out]; exact hj) (by rw [← HRe.out]; omega)))
                  go_wp2_with fail
                  go_ret
                  exact ⟨congrArg (fun b : Bool => Ending.returned (.bool b)) HF.out.symm, HB.out⟩
                · have HOk : Hid (rowOk m (R q) = true) := Lib.hid (by rw [← HRe.out]; exact rowOk_yes H3.out (fun j hj => by
                    have h1 := HY.out.1 j (by rw [← H3.out]; exact hj)
                    have h2 := HZ.out.1 j (by rw [← H3.out]; exact hj)
                    omega))
                  go_wp2_with fail
                  go_roundw
                  case rel => exact ⟨q + 1, by go_num, by omega, by first | rfl | trivial, Lib.hid (fun j hj => by
                    by_cases e : j = q
                    · rw [e]; exact HOk.out
                    · exact HAll.out j (by omega))⟩
                  case measure => simp [intOf]; omega
            · have h3i : ((r.length : Int) != 3) = true := by simp; omega
              have HF : Hid (vd = false) := Lib.hid (HNo.out q hlt (rowOk_no (by rw [← HRe.out]; exact h4)))
              clear h4
              go_wp2_with fail
              go_ret
              exact ⟨congrArg (fun b : Bool => Ending.returned (.bool b)) HF.out.symm, HB.out⟩
          · obtain rfl : q = m := by omega
            have hd : decide ((q : Int) < (q : Int)) = false := by simp
            have HF : Hid (vd = true) := Lib.hid (HYes.out h1 h2 (Nat.le_refl _) (Nat.le_refl _) HAll.out)
            go_wp2_with fail
            go_ret
            exact ⟨congrArg (fun b : Bool => Ending.returned (.bool b)) HF.out.symm, HB.out⟩
      · have hne : ((m : Int) != (n : Int)) = true := by simp; omega
        have HF : Hid (vd = false) := Lib.hid (HV2.out h3)
        clear h3
        go_wp2_with fail
        rw [← hW0]
        go_ret
        exact ⟨congrArg (fun b : Bool => Ending.returned (.bool b)) HF.out.symm, HB.out⟩
    · have d2 : (40 : Int) < (n : Int) := by omega
      have HF : Hid (vd = false) := Lib.hid (HV1.out (by omega))
      go_wp2_with fail
      rw [← hW0]
      go_ret
      exact ⟨congrArg (fun b : Bool => Ending.returned (.bool b)) HF.out.symm, HB.out⟩
  · have d1 : (n : Int) < 1 := by omega
    have HF : Hid (vd = false) := Lib.hid (HV1.out (by omega))
    go_wp2_with fail
    rw [← hW0]
    go_ret
    exact ⟨congrArg (fun b : Bool => Ending.returned (.bool b)) HF.out.symm, HB.out⟩
end Go.Proofs.YthmfncklepkddaaGreatDoor

/-
  What the closures of impl.ConcatDfa answer.
-/
namespace Go.Proofs.YthmfncklepkddaaGreatDoor
open Go.RowKit

/-- A valid automaton in a box. -/
def AuB (V : World) (g n : Nat) (ad : Addr) (c : Nat) (aN : Addr) (c' : Nat) (a : Au) : Prop :=
  V.cell? ⟨g, 0, none⟩ = some (.slice (some ad) n c) ∧ V.cell? ⟨g, 1, none⟩ = some (.slice (some aN) n c') ∧ (∀ q, q < n → V.cell? (ad.add q) = some (.bool (a.A q))) ∧
    ∀ q, q < n → ∃ r q', V.cell? (aN.add q) = some (.slice (some r) 3 q') ∧ ∀ k, k < 3 → V.cell? (r.add k) = some (.int .i64 ((a.T q k : Nat) : Int))
theorem AuB.kept {V V' : World} {g n : Nat} {ad : Addr} {c : Nat} {aN : Addr} {c' : Nat} {a : Au} (h : AuB V g n ad c aN c' a) (hb : Below V.heap.size V V') : AuB V' g n ad c aN c' a :=
  ⟨(hb.cell (cell_in h.1)).trans h.1, (hb.cell (cell_in h.2.1)).trans h.2.1, fun q hq => (hb.cell (cell_in (h.2.2.1 q hq))).trans (h.2.2.1 q hq), fun q hq => by
    obtain ⟨r, q', h1, h2⟩ := h.2.2.2 q hq
    exact ⟨r, q', (hb.cell (cell_in h1)).trans h1, fun k hk => (hb.cell (cell_in (h2 k hk))).trans (h2 k hk)⟩⟩
/-- What is added where the state accepts. -/
def addS (a : Au) (p : Nat) (s : List Nat) : List Nat := if a.A p then putS s 0 else s

set_option maxRecDepth 100000 in
set_option maxHeartbeats 1600000 in
theorem implCatE_any (ba n : Nat) (ad : Addr) (c : Nat) (aN : Addr) (c' : Nat) (a : Au) (p : Nat) (s : List Nat) (w : World) (h : AuB w ba n ad c aN c' a) (hp : p < n) (hs : ∀ q ∈ s, q < 40) :
    Calls Tryz.prog 101 #[.int .i64 (p : Int), .int .u64 ((mskS s : Nat) : Int), .pointer (some ⟨ba, 0, none⟩)] w fun e w' => e = .returned (.agg #[.int .i64 (p : Int), .int .u64 ((mskS (addS a p s) : Nat) : Int)]) ∧ Below w.heap.size w w' := by
  have s0 : (p : Int) < (n : Int) := by omega
  have s1 : (0 : Int) ≤ (p : Int) := by omega
  obtain ⟨W0, hW0⟩ : ∃ W0, W0 = w.alloc (.cells #[.int .i64 0, .int .u64 0] 140) := ⟨_, rfl⟩
  have HB0 : Hid (Below w.heap.size w W0) := Lib.hid (by rw [hW0]; exact (Below.refl _ _).alloc (Nat.le_refl _) _)
  have a0 := (h.kept HB0.out).1
  have a1 := (h.kept HB0.out).2.2.1 p hp
  obtain ⟨c0, c1, k0, k1⟩ := box2_facts (show W0.heap[w.heap.size]? = some (.cells #[.int .i64 0, .int .u64 0] 140 (0, 0)) by rw [hW0]; exact heap_alloc_new w _)
  have hm := mskS_64 hs
  have hor := or_one (a := mskS s) (by omega)
  rw [msk_put0] at hor
  obtain ⟨b, hb⟩ : ∃ b, b = a.A p := ⟨_, rfl⟩
  rw [← hb] at a1
  cases b with
  | true =>
    obtain ⟨m, hm'⟩ : ∃ m, m = mskS (putS s 0) := ⟨_, rfl⟩
    have HR : Hid (mskS (addS a p s) = m) := Lib.hid (by rw [addS, ← hb, hm']; rfl)
    rw [← hm'] at hor
    obtain ⟨hcl, hsz, hot, hBl⟩ := put2 (k := .int .i64 (p : Int)) (l := .int .u64 (m : Int)) c0 c1
    obtain ⟨hc0, hc1⟩ := hcl
    have HOt := Lib.hid hBl
    clear hm' hb hsz hot hBl h hm
    go_enter Tryz.func101, Tryz.ntmps101
    go_upto_region 1 with fail
    rw [← hW0]
    clear hW0
    go_wp2_with fail
    refine bodyPost_ret (v := .agg #[.int .i64 (p : Int), .int .u64 (m : Int)]) (by simp [results, Tryz.results101, go_sem, hc0, hc1]) rfl ?_
    exact ⟨by rw [HR.out], HOt.out _ _ HB0.out (Nat.le_refl _)⟩
  | false =>
    obtain ⟨m, hm'⟩ : ∃ m, m = mskS s := ⟨_, rfl⟩
    have HR : Hid (mskS (addS a p s) = m) := Lib.hid (by rw [addS, ← hb, hm']; rfl)
    rw [← hm']
    obtain ⟨hcl, hsz, hot, hBl⟩ := put2 (k := .int .i64 (p : Int)) (l := .int .u64 (m : Int)) c0 c1
    obtain ⟨hc0, hc1⟩ := hcl
    have HOt := Lib.hid hBl
    clear hm' hb hsz hot hBl h hor hm
    go_enter Tryz.func101, Tryz.ntmps101
    go_upto_region 1 with fail
    rw [← hW0]
    clear hW0
    go_wp2_with fail
    refine bodyPost_ret (v := .agg #[.int .i64 (p : Int), .int .u64 (m : Int)]) (by simp [results, Tryz.results101, go_sem, hc0, hc1]) rfl ?_
    exact ⟨by rw [HR.out], HOt.out _ _ HB0.out (Nat.le_refl _)⟩

set_option maxRecDepth 100000 in
set_option maxHeartbeats 3200000 in
theorem implCatT_any (be ba bb n n' : Nat) (ad : Addr) (c : Nat) (aN : Addr) (c' : Nat) (a : Au) (ad' : Addr) (e : Nat) (aN' : Addr) (e' : Nat) (b : Au) (x : Nat × List Nat) (k : Nat) (w : World)
    (h : AuB w ba n ad c aN c' a) (h' : AuB w bb n' ad' e aN' e' b) (hx : okC n n' x) (hk : k < 3) (hn' : n' ≤ 40) (hwa : ∀ q, q < n → a.T q k < n) (hwb : ∀ q, q < n' → b.T q k < n')
    (hbe : w.cell? ⟨be, 0, none⟩ = some (.func (.func 101) #[] #[.pointer (some ⟨ba, 0, none⟩)])) (hTab : Tab w) :
    Calls Tryz.prog 102 #[.agg #[.int .i64 (x.1 : Int), .int .u64 ((mskS x.2 : Nat) : Int)], .int .i64 (k : Int), .pointer (some ⟨be, 0, none⟩), .pointer (some ⟨ba, 0, none⟩), .pointer (some ⟨bb, 0, none⟩)] w fun e w' => e = .returned (.agg #[.int .i64 ((catG a b x k).1 : Int), .int .u64 ((mskS (catG a b x k).2 : Nat) : Int)]) ∧ Below w.heap.size w w' := by
  obtain ⟨p, s⟩ := x
  obtain ⟨hp, -, hs⟩ := hx
  have hp : p < n := hp
  have hs : ∀ q ∈ s, q < n' := hs
  have s0 : (p : Int) < (n : Int) := by omega
  have s1 : (0 : Int) ≤ (p : Int) := by omega
  have s2 : (k : Int) < 3 := by omega
  have s3 : (0 : Int) ≤ (k : Int) := by omega
  obtain ⟨W0, hW0⟩ : ∃ W0, W0 = (w.alloc (.cells #[.int .i64 (p : Int), .int .u64 ((mskS s : Nat) : Int)] 140)).alloc (.cells #[.int .i64 0, .int .u64 0] 140) := ⟨_, rfl⟩
  have HB0 : Hid (Below w.heap.size w W0) := Lib.hid (by rw [hW0]; exact ((Below.refl _ _).alloc (Nat.le_refl _) _).alloc (by simp) _)
  have HX : Hid (W0.heap[w.heap.size]? = some (.cells #[.int .i64 (p : Int), .int .u64 ((mskS s : Nat) : Int)] 140 (0, 0))) := Lib.hid (by rw [hW0]; exact (Below.heap_alloc _ _ _ (by simp)).trans (heap_alloc_new w _))
  have HY : Hid (W0.heap[w.heap.size + 1]? = some (.cells #[.int .i64 0, .int .u64 0] 140 (0, 0))) := Lib.hid (by rw [hW0]; exact three2 w _ _ _ _)
  obtain ⟨r, qr, a2, a3⟩ := h.2.2.2 p hp
  have a3 := a3 k hk
  obtain ⟨y, hy⟩ : ∃ y, y = a.T p k := ⟨_, rfl⟩
  have hyn : y < n := by rw [hy]; exact hwa p hp
  rw [← hy] at a3
  obtain ⟨m, hm⟩ : ∃ m, m = mskS s := ⟨_, rfl⟩
  have HAf := Lib.hid (fun (V : World) (hV : Below w.heap.size w V) => implMove_any (.slice (some ad') n' e) aN' n' e' k b s V hn' hk hs hwb (fun q hq => by
    obtain ⟨r, q', h1, h2⟩ := (h'.kept hV).2.2.2 q hq
    exact ⟨r, q', h1, h2 k hk⟩) (hTab.kept hV))
  have hmv : ∀ q ∈ moveS b s k, q < 40 := fun q hq => by
    obtain ⟨p', h1, rfl⟩ := mem_move.1 hq
    have := hwb p' (hs p' h1)
    omega
  have HEl := Lib.hid (fun (V : World) (hV : Below w.heap.size w V) => implCatE_any ba n ad c aN c' a y (moveS b s k) V (h.kept hV) hyn hmv)
  have HR : Hid (catG a b (p, s) k = (y, addS a y (moveS b s k))) := Lib.hid (by rw [hy]; rfl)
  obtain ⟨m2, hm2⟩ : ∃ m, m = mskS (moveS b s k) := ⟨_, rfl⟩
  obtain ⟨m3, hm3⟩ : ∃ m, m = mskS (addS a y (moveS b s k)) := ⟨_, rfl⟩
  rw [← hm] at HX hW0 HAf ⊢
  rw [← hm2] at HAf HEl
  rw [← hm3] at HEl
  have HM3 := Lib.hid hm3
  have hsz : w.heap.size + 1 ≤ W0.heap.size := Nat.le_of_lt (blk_lt HY.out)
  have HK := Lib.hid (fun (V : World) (hV : Below (w.heap.size + 1) W0 V) => (by
    have hb := HB0.out.trans (hV.mono (Nat.le_succ _))
    obtain ⟨x0, x1, -, -⟩ := box2_facts ((hV.block _ (Nat.lt_succ_self _)).trans HX.out)
    exact ⟨(hb.cell (cell_in hbe)).trans hbe, (h.kept hb).2.1, x0, x1, (hb.cell (cell_in a2)).trans a2, (hb.cell (cell_in a3)).trans a3, (h'.kept hb).1, (h'.kept hb).2.1⟩ :
    V.cell? ⟨be, 0, none⟩ = some (.func (.func 101) #[] #[.pointer (some ⟨ba, 0, none⟩)]) ∧ V.cell? ⟨ba, 1, none⟩ = some (.slice (some aN) n c') ∧ V.cell? ⟨w.heap.size, 0, none⟩ = some (.int .i64 (p : Int)) ∧ V.cell? ⟨w.heap.size, 1, none⟩ = some (.int .u64 (m : Int)) ∧
    V.cell? (aN.add p) = some (.slice (some r) 3 qr) ∧ V.cell? (r.add k) = some (.int .i64 (y : Int)) ∧ V.cell? ⟨bb, 0, none⟩ = some (.slice (some ad') n' e) ∧ V.cell? ⟨bb, 1, none⟩ = some (.slice (some aN') n' e')))
  have HL := Lib.hid (fun (V : World) (hV : Below W0.heap.size W0 V) => HB0.out.trans (hV.mono HB0.out.size))
  have hbw : Below W0.heap.size W0 W0 := Below.refl _ _
  clear h h' hs hwa hwb hbe hTab a2 a3 hmv hy hm hm2 hm3
  go_enter Tryz.func102, Tryz.ntmps102
  go_upto_region 1 with fail
  rw [← hW0]
  clear hW0
  go_region_held3 (fun V => V.cell? ⟨be, 0, none⟩ = some (.func (.func 101) #[] #[.pointer (some ⟨ba, 0, none⟩)]) ∧ V.cell? ⟨ba, 1, none⟩ = some (.slice (some aN) n c') ∧ V.cell? ⟨w.heap.size, 0, none⟩ = some (.int .i64 (p : Int)) ∧ V.cell? ⟨w.heap.size, 1, none⟩ = some (.int .u64 (m : Int)) ∧
    V.cell? (aN.add p) = some (.slice (some r) 3 qr) ∧ V.cell? (r.add k) = some (.int .i64 (y : Int)) ∧ V.cell? ⟨bb, 0, none⟩ = some (.slice (some ad') n' e) ∧ V.cell? ⟨bb, 1, none⟩ = some (.slice (some aN') n' e')) (first | exact HK.out _ (hbw.drew.mono hsz) | exact HK.out _ (hbw.mono hsz) | exact HK.out _ (((hbw.mono hsz).setCell (p := ⟨w.heap.size + 1, 0, none⟩) (Nat.le_refl _) _).setCell (p := ⟨w.heap.size + 1, 1, none⟩) (Nat.le_refl _) _)) (first | (go_at_call 103; (with_reducible refine (HAf.out _ (HL.out _ hbw.drew)).mono ?_); rintro e1 w1 ⟨rfl, hb1⟩; have hbw := hbw.drew.trans (hb1.mono hbw.drew.size)) | ((with_reducible refine (HEl.out _ (HL.out _ hbw)).mono ?_); rintro e2 w2 ⟨rfl, hb2⟩; have hbw := hbw.trans (hb2.mono hbw.size); obtain ⟨z0, z1, z2, z3⟩ := box2_facts ((hbw.block _ (blk_lt HY.out)).trans HY.out)))
  obtain ⟨hcl, -, -, hBl⟩ := put2 (k := .int .i64 (y : Int)) (l := .int .u64 (m3 : Int)) z0 z1
  obtain ⟨hc0, hc1⟩ := hcl
  have HOt := Lib.hid (hBl _ _ (HL.out _ hbw) (Nat.le_succ _))
  clear hBl z0 z1 z2 z3 hb1 hb2
  go_wp2_with fail
  refine bodyPost_ret (v := .agg #[.int .i64 (y : Int), .int .u64 (m3 : Int)]) (by simp [results, Tryz.results102, go_sem, hc0, hc1]) rfl ?_
  exact ⟨by rw [HR.out, HM3.out], HOt.out⟩

theorem implCatA_any (bm n : Nat) (b : Au) (p : Int) (s : List Nat) (w : World) (hn : n ≤ 40) (hs : ∀ q ∈ s, q < n) (hbn : b.n = n) (hbm : w.cell? ⟨bm, 0, none⟩ = some (.int .u64 ((mskS (accS b n) : Nat) : Int))) :
    Calls Tryz.prog 105 #[.agg #[.int .i64 p, .int .u64 ((mskS s : Nat) : Int)], .pointer (some ⟨bm, 0, none⟩)] w fun e w' => e = .returned (.bool (anyS b s)) ∧ Below w.heap.size w w' := by
  obtain ⟨W0, hW0⟩ : ∃ W0, W0 = w.alloc (.cells #[.int .i64 p, .int .u64 ((mskS s : Nat) : Int)] 140) := ⟨_, rfl⟩
  have HB0 : Hid (Below w.heap.size w W0) := Lib.hid (by rw [hW0]; exact (Below.refl _ _).alloc (Nat.le_refl _) _)
  obtain ⟨-, c1, -, -⟩ := box2_facts (show W0.heap[w.heap.size]? = some (.cells #[.int .i64 p, .int .u64 ((mskS s : Nat) : Int)] 140 (0, 0)) by rw [hW0]; exact heap_alloc_new w _)
  have hc := (HB0.out.cell (cell_in hbm)).trans hbm
  have h1 := mskS_64 (s := s) (fun q hq => by have := hs q hq; omega)
  have h2 := mskS_64 (s := accS b n) (fun q hq => by have := accS_lt hq; omega)
  have HR : Hid (anyS b s = decide (mskS s &&& mskS (accS b n) ≠ 0)) := Lib.hid (by rw [any_meets (by rw [hbn]; exact hs), hbn])
  obtain ⟨m, hm⟩ : ∃ m, m = mskS s := ⟨_, rfl⟩
  obtain ⟨m2, hm2⟩ : ∃ m, m = mskS (accS b n) := ⟨_, rfl⟩
  rw [← hm, ← hm2] at HR
  rw [← hm] at hW0 c1 h1 ⊢
  rw [← hm2] at h2 hc
  have HM := Lib.hid (fun V => implMeets_any m m2 (by omega) (by omega) V)
  obtain ⟨r, hr⟩ : ∃ r, r = decide (m &&& m2 ≠ 0) := ⟨_, rfl⟩
  rw [← hr] at HM HR
  clear hbm hs hbn hm hm2 hr
  go_enter Tryz.func105, Tryz.ntmps105
  go_upto_region 1 with fail
  rw [← hW0]
  clear hW0
  go_wp2_with (go_at_call 106; refine (HM.out _).mono ?_; rintro e w' ⟨rfl, rfl⟩)
  go_ret
  exact ⟨congrArg (fun b : Bool => Ending.returned (.bool b)) HR.out.symm, HB0.out⟩
end Go.Proofs.YthmfncklepkddaaGreatDoor

/-
  What impl.ConcatDfa answers.
-/
namespace Go.Proofs.YthmfncklepkddaaGreatDoor
open Go.RowKit

theorem enters_cat1 (args : Array Value) (w : World) : (callFunc 101 args).run Tryz.prog w = .ok (.enter 101 args) w := enters_of Tryz.func101 (by kernel_rfl) rfl args w
theorem enters_cat2 (args : Array Value) (w : World) : (callFunc 102 args).run Tryz.prog w = .ok (.enter 102 args) w := enters_of Tryz.func102 (by kernel_rfl) rfl args w
theorem enters_cat3 (args : Array Value) (w : World) : (callFunc 105 args).run Tryz.prog w = .ok (.enter 105 args) w := enters_of Tryz.func105 (by kernel_rfl) rfl args w
set_option maxRecDepth 100000 in
set_option maxHeartbeats 6400000 in
theorem implCat_any (va vn va' vn' : Value) (d d' : Dx) (S S' : Nat → Prop) (y : Dx) (ok : Bool) (w : World) (h : DfaV w S va vn d) (h' : DfaV w S' va' vn' d') (hy : catR d d' y ok) (hTab : Tab w) :
    Calls Tryz.prog 61 #[.agg #[va, vn], .agg #[va', vn']] w (CopyDB y ok w) := by
  have hmf : ∀ (fn : Fn) (first cap : Array Value) (w : World), (Instr.makeFunc fn first cap).run Tryz.prog w = .ok (.func fn first cap) w := fun _ _ _ _ => rfl
  obtain ⟨W0, hW0⟩ : ∃ W0, W0 = ((w.alloc (.cells #[va, vn] 31)).alloc (.cells #[va', vn'] 31)).alloc (.cells #[.slice none 0 0, .slice none 0 0] 31) := ⟨_, rfl⟩
  have h3 := three_box' w (.cells #[va, vn] 31) (.cells #[va', vn'] 31) (.cells #[.slice none 0 0, .slice none 0 0] 31)
  rw [← hW0] at h3
  have HB0 : Hid (Below w.heap.size w W0) := Lib.hid h3.2.2.2
  have HX := Lib.hid h3.1
  have HX' := Lib.hid h3.2.1
  have HY := Lib.hid h3.2.2.1
  clear h3
  have HV := Lib.hid (implValidD_any va vn d S W0 (h.kept HB0.out))
  have HV' := Lib.hid (fun (V : World) (hV : Below w.heap.size w V) => implValidD_any va' vn' d' S' V (h'.kept hV))
  obtain ⟨⟨A, c, rfl⟩, A', c', rfl⟩ := h.shape
  obtain ⟨⟨B, e, rfl⟩, B', e', rfl⟩ := h'.shape
  obtain ⟨hc0, hc1, -, -⟩ := box2_facts HX.out
  obtain ⟨hd0, hd1, -, -⟩ := box2_facts HX'.out
  rw [hW0] at hc0 hc1 hd0 hd1
  cases hv : validD d with
  | false =>
    rw [hv] at HV
    unfold catR at hy
    rw [if_neg (by rw [hv]; simp)] at hy
    obtain ⟨rfl, rfl⟩ := hy
    clear h h' hv hTab
    go_enter Tryz.func61, Tryz.ntmps61
    go_wp2_with fail
    go_at_call 40
    rw [← hW0]
    refine HV.out.mono ?_
    rintro e1 w1 ⟨rfl, hb1⟩
    obtain ⟨c0, c1, k0, k1⟩ := box2_facts ((hb1.block _ (blk_lt HY.out)).trans HY.out)
    obtain ⟨hcl, hsz, hot, hBl⟩ := put2 (k := .slice none 0 0) (l := .slice none 0 0) c0 c1
    obtain ⟨hr0, hr1⟩ := hcl
    have HOt := Lib.hid hBl
    have HB1 := Lib.hid hb1
    clear hc0 hc1 hd0 hd1 hW0 hb1 hsz hot hBl
    go_wp2_with fail
    refine bodyPost_ret (v := .tuple #[.agg #[.slice none 0 0, .slice none 0 0], .bool false]) (by simp [results, Tryz.results61, go_sem, hr0, hr1]) rfl ?_
    exact ⟨_, _, rfl, DfaO.empty _ _, HOt.out _ _ (HB0.out.trans (HB1.out.mono HB0.out.size)) (by omega)⟩
  | true =>
  rw [hv] at HV
  cases hv' : validD d' with
  | false =>
    rw [hv'] at HV'
    unfold catR at hy
    rw [if_neg (by rw [hv']; simp)] at hy
    obtain ⟨rfl, rfl⟩ := hy
    clear h h' hv hv' hTab
    go_enter Tryz.func61, Tryz.ntmps61
    go_wp2_with fail
    go_at_call 40
    rw [← hW0]
    refine HV.out.mono ?_
    rintro e1 w1 ⟨rfl, hb1⟩
    have HB1 := Lib.hid hb1
    clear hc0 hc1 hd0 hd1 hW0 hb1
    obtain ⟨hd0, hd1, -, -⟩ := box2_facts ((HB1.out.block _ (blk_lt HX'.out)).trans HX'.out)
    go_wp2_with fail
    go_at_call 40
    refine (HV'.out w1 (HB0.out.trans (HB1.out.mono HB0.out.size))).mono ?_
    rintro e2 w2 ⟨rfl, hb2⟩
    have HB2 := Lib.hid (HB1.out.trans (hb2.mono HB1.out.size))
    obtain ⟨c0, c1, k0, k1⟩ := box2_facts ((HB2.out.block _ (blk_lt HY.out)).trans HY.out)
    obtain ⟨hcl, hsz, hot, hBl⟩ := put2 (k := .slice none 0 0) (l := .slice none 0 0) c0 c1
    obtain ⟨hr0, hr1⟩ := hcl
    have HOt := Lib.hid hBl
    clear hd0 hd1 hb2 hsz hot hBl
    go_wp2_with fail
    refine bodyPost_ret (v := .tuple #[.agg #[.slice none 0 0, .slice none 0 0], .bool false]) (by simp [results, Tryz.results61, go_sem, hr0, hr1]) rfl ?_
    exact ⟨_, _, rfl, DfaO.empty _ _, HOt.out _ _ (HB0.out.trans (HB2.out.mono HB0.out.size)) (by omega)⟩
  | true =>
    rw [hv'] at HV'
    unfold catR at hy
    rw [if_pos ⟨hv, hv'⟩] at hy
    obtain ⟨hw, hn40, hnn, hl, ad, cc, aN, cN, hva, hvn, hA, hT⟩ := h.au hv
    obtain ⟨hw', hn40', hnn', hl', ad', cc', aN', cN', hva', hvn', hA', hT'⟩ := h'.au hv'
    injection hva with e1 e2 e3
    injection hvn with e4 e5 e6
    injection hva' with e1' e2' e3'
    injection hvn' with e4' e5' e6'
    subst e1
    subst e3
    subst e4
    subst e6
    subst e1'
    subst e3'
    subst e4'
    subst e6'
    rw [e5] at HX hW0 HV hc1
    rw [e5'] at HX' hW0 HV' hd1
    rw [e5, e5']
    obtain ⟨n, hne⟩ : ∃ n, n = d.acc.length := ⟨_, rfl⟩
    obtain ⟨n', hne'⟩ : ∃ n, n = d'.acc.length := ⟨_, rfl⟩
    rw [← hne] at HX HV hc0 hc1 hnn hA hT
    rw [← hne'] at HX' HV' hd0 hd1 hnn' hA' hT'
    rw [← hne, ← hne'] at hW0 ⊢
    rw [← hne'] at hc0 hc1
    rw [← hne] at hd0 hd1
    have HAu : Hid (∀ V, Below W0.heap.size W0 V → AuB V w.heap.size n ad c aN c' (auD d)) := Lib.hid (fun V hV => by
      have hb := HB0.out.trans (hV.mono HB0.out.size)
      obtain ⟨x0, x1, -, -⟩ := box2_facts ((hV.block _ (blk_lt HX.out)).trans HX.out)
      refine ⟨x0, x1, fun q hq => (hb.cell (cell_in (hA q hq))).trans (hA q hq), fun q hq => ?_⟩
      obtain ⟨r, q', h1, h2⟩ := hT q hq
      exact ⟨r, q', (hb.cell (cell_in h1)).trans h1, fun k hk => (hb.cell (cell_in (h2 k hk))).trans (h2 k hk)⟩)
    have HAu' : Hid (∀ V, Below W0.heap.size W0 V → AuB V (w.heap.size + 1) n' ad' e aN' e' (auD d')) := Lib.hid (fun V hV => by
      have hb := HB0.out.trans (hV.mono HB0.out.size)
      obtain ⟨x0, x1, -, -⟩ := box2_facts ((hV.block _ (blk_lt HX'.out)).trans HX'.out)
      refine ⟨x0, x1, fun q hq => (hb.cell (cell_in (hA' q hq))).trans (hA' q hq), fun q hq => ?_⟩
      obtain ⟨r, q', h1, h2⟩ := hT' q hq
      exact ⟨r, q', (hb.cell (cell_in h1)).trans h1, fun k hk => (hb.cell (cell_in (h2 k hk))).trans (h2 k hk)⟩)
    have hw2 : ∀ q k, q < n → k < 3 → (auD d).T q k < n := fun q k hq hk => by rw [← hnn] at hq ⊢; exact hw.2 q k hq hk
    have hw2' : ∀ q k, q < n' → k < 3 → (auD d').T q k < n' := fun q k hq hk => by rw [← hnn'] at hq ⊢; exact hw'.2 q k hq hk
    have hn0 : 0 < n := by rw [← hnn]; exact hw.1
    have hn0' : 0 < n' := by rw [← hnn']; exact hw'.1
    have HAc := Lib.hid (fun (V : World) (hV : Below W0.heap.size W0 V) => implAccSt_any ad' n' e (.slice (some aN') n' e') (auD d') V (by omega) (HAu'.out V hV).2.2.1)
    have HTab := Lib.hid (fun (V : World) (hV : Below w.heap.size w V) => hTab.kept hV)
    have HEl := Lib.hid (fun (V : World) (hV : Below W0.heap.size W0 V) => implCatE_any w.heap.size n ad c aN c' (auD d) 0 [] V (HAu.out V hV) hn0 (by simp))
    have hst : mskS (addS (auD d) 0 []) = mskS (catS (auD d)).2 := by
      unfold addS catS
      cases (auD d).A 0 <;> rfl
    rw [hst] at HEl
    have HMd : Hid (∀ (V : World) (be bm : Nat), Below W0.heap.size W0 V → V.cell? ⟨be, 0, none⟩ = some (.func (.func 101) #[] #[.pointer (some ⟨w.heap.size, 0, none⟩)]) → V.cell? ⟨bm, 0, none⟩ = some (.int .u64 ((mskS (accS (auD d') n') : Nat) : Int)) →
        Calls Tryz.prog 107 #[.agg #[.int .i64 0, .int .u64 ((mskS (catS (auD d)).2 : Nat) : Int)], .func (.func 102) #[] #[.pointer (some ⟨be, 0, none⟩), .pointer (some ⟨w.heap.size, 0, none⟩), .pointer (some ⟨w.heap.size + 1, 0, none⟩)], .func (.func 105) #[] #[.pointer (some ⟨bm, 0, none⟩)], .int .i64 400] V (CopyDB y ok V)) := Lib.hid (fun V be bm hV hbe hbm => by
      refine implMdC_any _ _ _ _ enters_cat2 enters_cat3 (catG (auD d) (auD d')) (fun x => anyS (auD d') x.2) n n' 400 (catS (auD d)) V (by omega) (by omega) (by omega) (by omega) (catS_ok hn0 hn0') (fun x k hx hk => catG_ok hn0' (fun q hq => hw2 q k hq hk) (fun q hq => hw2' q k hq hk) hx) (fun U x k hU hx hk => ?_) (fun U x hU hx => ?_) y ok hy
      · exact implCatT_any be w.heap.size (w.heap.size + 1) n n' ad c aN c' (auD d) ad' e aN' e' (auD d') x k U (HAu.out U (hV.trans (hU.mono hV.size))) (HAu'.out U (hV.trans (hU.mono hV.size))) hx hk (by omega) (fun q hq => hw2 q k hq hk) (fun q hq => hw2' q k hq hk) ((hU.cell (cell_in hbe)).trans hbe) (HTab.out U (HB0.out.trans ((hV.trans (hU.mono hV.size)).mono HB0.out.size)))
      · exact implCatA_any bm n' (auD d') _ x.2 U (by omega) hx.2.2 hnn' ((hU.cell (cell_in hbm)).trans hbm))
    obtain ⟨m0, hm0⟩ : ∃ m, m = mskS (catS (auD d)).2 := ⟨_, rfl⟩
    rw [← hm0] at HEl HMd
    clear h h' hy hTab hv hv' hw hn40 hnn hl hA hT e5 hne hw2 hn0 hw' hn40' hnn' hl' hA' hT' e5' hne' hw2' hn0' hst hm0
    go_enter Tryz.func61, Tryz.ntmps61
    go_wp2_with fail
    go_at_call 40
    rw [← hW0]
    refine HV.out.mono ?_
    rintro e1 w1 ⟨rfl, hb1⟩
    have HB1 := Lib.hid hb1
    clear hc0 hc1 hd0 hd1 hW0 hb1
    obtain ⟨hd0, hd1, -, -⟩ := HAu'.out w1 HB1.out
    go_wp2_with fail
    go_at_call 40
    refine (HV'.out w1 (HB0.out.trans (HB1.out.mono HB0.out.size))).mono ?_
    rintro e2 w2 ⟨rfl, hb2⟩
    have HB2 := Lib.hid (HB1.out.trans (hb2.mono HB1.out.size))
    clear hd0 hd1 hb2
    obtain ⟨W3, hW3⟩ : ∃ W3, W3 = w2.alloc (.cells #[.func (.func 101) #[] #[.pointer (some ⟨w.heap.size, 0, none⟩)]] 141) := ⟨_, rfl⟩
    have HB3 : Hid (Below W0.heap.size W0 W3) := Lib.hid (by rw [hW3]; exact HB2.out.alloc HB2.out.size _)
    have hbe := (cell_of_row W3 w2.heap.size 0 _ _ (0, 0) (by rw [hW3]; exact heap_alloc_new w2 _)).trans (rfl : _ = some (Value.func (.func 101) #[] #[.pointer (some ⟨w.heap.size, 0, none⟩)]))
    have HBe := Lib.hid hbe
    obtain ⟨hd0, hd1, -, -⟩ := HAu'.out W3 HB3.out
    go_upto_region 4 with fail
    rw [← hW3]
    clear hW3 hbe
    go_wp2_with fail
    go_at_call 104
    refine (HAc.out W3 HB3.out).mono ?_
    rintro e3 w4 ⟨rfl, hb4⟩
    obtain ⟨W5, hW5⟩ : ∃ W5, W5 = w4.alloc (.cells #[.int .u64 ((mskS (accS (auD d') n') : Nat) : Int)] 138) := ⟨_, rfl⟩
    have HB35 : Hid (Below W3.heap.size W3 W5) := Lib.hid (by rw [hW5]; exact hb4.alloc hb4.size _)
    have HB5 : Hid (Below W0.heap.size W0 W5) := Lib.hid (HB3.out.trans (HB35.out.mono HB3.out.size))
    have hbe5 := (HB35.out.cell (cell_in HBe.out)).trans HBe.out
    have HBe5 := Lib.hid hbe5
    have hcm : W5.cell? ⟨w4.heap.size, 0, none⟩ = some (.int .u64 ((mskS (accS (auD d') n') : Nat) : Int)) := (cell_of_row W5 w4.heap.size 0 _ _ (0, 0) (by rw [hW5]; exact heap_alloc_new w4 _)).trans rfl
    have HCm := Lib.hid hcm
    clear hd0 hd1 hb4 hcm
    go_upto_region 6 with fail
    rw [← hW5]
    clear hW5
    have hE := HEl.out W5 HB5.out
    rw [show ((0 : Nat) : Int) = 0 from rfl, show ((mskS [] : Nat) : Int) = 0 from rfl] at hE
    have HE := Lib.hid hE
    clear hE
    go_wp2_with fail
    refine HE.out.mono ?_
    rintro e5 w6 ⟨rfl, hb6⟩
    have HB6 : Hid (Below W0.heap.size W0 w6) := Lib.hid (HB5.out.trans (hb6.mono HB5.out.size))
    have HMm := Lib.hid (HMd.out w6 w2.heap.size w4.heap.size HB6.out ((hb6.cell (cell_in HBe5.out)).trans HBe5.out) ((hb6.cell (cell_in HCm.out)).trans HCm.out))
    clear hbe5 hb6
    go_wp2_with fail
    go_at_call 107
    refine HMm.out.mono ?_
    rintro e7 w7 hcd
    obtain ⟨A1, p1, A2, p2, rfl, hoo, hb4⟩ := hcd.shape
    obtain ⟨x1, hx1⟩ : ∃ x, x = y.acc.length := ⟨_, rfl⟩
    obtain ⟨x2, hx2⟩ : ∃ x, x = y.nxt.length := ⟨_, rfl⟩
    rw [← hx1, ← hx2] at hoo ⊢
    have HO4 := Lib.hid hoo
    have HB4 := Lib.hid (HB6.out.trans (hb4.mono HB6.out.size))
    have hz3 := HB6.out.size
    have hyl := blk_lt HY.out
    obtain ⟨c0, c1, k0, k1⟩ := box2_facts ((HB4.out.block _ hyl).trans HY.out)
    obtain ⟨hcl, hsz, hot, hBl⟩ := put2 (k := .slice A1 x1 p1) (l := .slice A2 x2 p2) c0 c1
    obtain ⟨hr0, hr1⟩ := hcl
    have HOt := Lib.hid (And.intro hsz (And.intro hot hBl))
    clear hsz hot hBl hoo hb4 hcd hx1 hx2
    go_wp2_with fail
    refine bodyPost_ret (v := .tuple #[.agg #[.slice A1 x1 p1, .slice A2 x2 p2], .bool ok]) (by simp [results, Tryz.results61, go_sem, hr0, hr1]) rfl ?_
    have h0 := HB0.out.size
    exact ⟨_, _, rfl, HO4.out.mono (fun g hg => HOt.out.2.1 g (by have := hg.1; omega)) (fun g hg => ⟨by have := hg.1; omega, by rw [HOt.out.1]; exact hg.2⟩) (by rw [HOt.out.1]; exact Nat.le_refl _), HOt.out.2.2 _ _ (HB0.out.trans (HB4.out.mono h0)) (by omega)⟩
end Go.Proofs.YthmfncklepkddaaGreatDoor
