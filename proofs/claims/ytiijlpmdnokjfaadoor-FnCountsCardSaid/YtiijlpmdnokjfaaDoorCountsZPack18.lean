/- Texts of one proof. -/
import Derived.Test.YtiijlpmdnokjfaaDoorCountsZPack8
set_option maxRecDepth 100000
set_option maxHeartbeats 20000000
namespace Go.Proofs.YtiijlpmdnokjfaaDoor
open Go.RowKit
theorem drawInc_any (A : Option Addr) (n c : Nat) (w : World) (h : BL w w.heap.size A n) (hn : n <= 1048576) :
    Calls Tryd.prog 16 #[.slice A n c] w (AnyU w) := by
  obtain ⟨W0, hW0⟩ : ∃ W0, W0 = (w.alloc (.cells #[.slice none 0 0, .slice none 0 0] 27)).alloc (.cells #[.slice none 0 0, .slice none 0 0] 27) := ⟨_, rfl⟩
  have hb0 : Below w.heap.size w W0 := by rw [hW0]; exact ((Below.refl w.heap.size w).alloc (Nat.le_refl _) _).alloc (by simp) _
  have HN := Lib.hid (l1New_any A n c W0 ((h.below hb0).more hb0.size) hn)
  have HW0 := Lib.hid hW0
  clear h hb0
  go_enter Tryd.func16, Tryd.ntmps16
  go_wp2_with fail
  rw [<- hW0]
  clear hW0
  go_at_call 44
  refine HN.out.mono ?_
  rintro e w1 ⟨g, rfl, hc1, hb1⟩
  have HC1 := Lib.hid hc1
  have HB1 := Lib.hid hb1
  have HDr := Lib.hid (λ V (h : Cur V g W0.heap.size A n c) => (show Calls Tryd.prog 47 #[.pointer (some ⟨g, 0, none⟩), .int .i64 3] V (DrawnD 3 g W0.heap.size A n c V) from l5Draw_any 3 (by omega) (by omega) g W0.heap.size A n c V h hn))
  have HOn := Lib.hid (λ V (h : Cur V g W0.heap.size A n c) => (show Calls Tryd.prog 48 #[.pointer (some ⟨g, 0, none⟩), .int .i64 2] V (OnceM g W0.heap.size A n c V) from l1Once_m g W0.heap.size A n c 2 V h hn (by omega) (by omega)))
  clear hc1 hb1
  go_wp2_with fail
  go_at_call 47
  refine (HDr.out _ HC1.out).mono ?_
  rintro e w2 ⟨va, vn, bo, accs, us, rs, K, rfl, hG, hl1, hl2, hul, hrl, -⟩
  have hd2 := (hG.dfa (by omega) (by omega)).dfa
  obtain ⟨d, hde⟩ : ∃ d : Dx, d = ⟨accs, rs⟩ := ⟨_, rfl⟩
  rw [<- hde] at hd2
  obtain ⟨⟨Aa, qa, rfl⟩, An, qn, rfl⟩ := hd2.shape
  have HC2 := Lib.hid hG.ds.2.1
  have HG2 := Lib.hid hG.ds.2.2
  have hg1 : g < w1.heap.size := HC1.out.lt
  have HBX := Lib.hid (heap_alloc_new w2 (.cells #[.slice Aa d.acc.length qa, .slice An d.nxt.length qn] 27))
  have HGb := Lib.hid (World.grownBy_alloc w2 (.cells #[.slice Aa d.acc.length qa, .slice An d.nxt.length qn] 27) (some g))
  have HD2 := Lib.hid hd2
  have HCb := Lib.hid (HC2.out.alloc (.cells #[.slice Aa d.acc.length qa, .slice An d.nxt.length qn] 27))
  clear hG hl1 hl2 hul hrl hd2 hde
  go_wp2_with fail
  obtain ⟨w3, hw3⟩ : ∃ w3, w3 = w2.alloc (.cells #[.slice Aa d.acc.length qa, .slice An d.nxt.length qn] 27) := ⟨_, rfl⟩
  rw [<- hw3] at HBX HGb HCb ⊢
  have HZ3 := Lib.hid hw3
  clear hw3
  go_at_call 47
  refine (HDr.out _ HCb.out).mono ?_
  rintro e w4 ⟨vb, vm, bo', accs', us', rs', K', rfl, hG, hl1, hl2, hul, hrl, -⟩
  have hd4 := (hG.dfa (by omega) (by omega)).dfa
  obtain ⟨d', hde⟩ : ∃ d' : Dx, d' = ⟨accs', rs'⟩ := ⟨_, rfl⟩
  rw [<- hde] at hd4
  obtain ⟨⟨Ba, pa, rfl⟩, Bn, pn, rfl⟩ := hd4.shape
  have HC4 := Lib.hid hG.ds.2.1
  have HG4 := Lib.hid hG.ds.2.2
  have HBY := Lib.hid (heap_alloc_new w4 (.cells #[.slice Ba d'.acc.length pa, .slice Bn d'.nxt.length pn] 27))
  have HGc := Lib.hid (World.grownBy_alloc w4 (.cells #[.slice Ba d'.acc.length pa, .slice Bn d'.nxt.length pn] 27) (some g))
  have HD4 := Lib.hid hd4
  have HCc := Lib.hid (HC4.out.alloc (.cells #[.slice Ba d'.acc.length pa, .slice Bn d'.nxt.length pn] 27))
  clear hG hl1 hl2 hul hrl hd4 hde
  go_wp2_with fail
  obtain ⟨w5, hw5⟩ : ∃ w5, w5 = w4.alloc (.cells #[.slice Ba d'.acc.length pa, .slice Bn d'.nxt.length pn] 27) := ⟨_, rfl⟩
  rw [<- hw5] at HBY HGc HCc ⊢
  have HZ5 := Lib.hid hw5
  clear hw5
  go_at_call 48
  refine (HOn.out _ HCc.out).mono ?_
  rintro e w6 ⟨b, rfl, hc6, hg6⟩
  have HG6 := Lib.hid hg6
  have hg4 := HC4.out.lt
  clear hc6 hg6
  have hz3 : w2.heap.size + 1 = w3.heap.size := by rw [HZ3.out]; simp
  have hz5 : w4.heap.size + 1 = w5.heap.size := by rw [HZ5.out]; simp
  have hz12 := HG2.out.size
  have hz34 := HG4.out.size
  have hz56 := HG6.out.size
  have hz01 := HB1.out.size
  have G36 := Lib.hid (grown_comp (grown_comp HG4.out HGc.out) HG6.out)
  have G56 := Lib.hid (grown_comp HGc.out HG6.out)
  have HXa6 := Lib.hid ((G36.out.block _ (blk_lt HBX.out) (by simp; omega)).trans HBX.out)
  have HXb6 := Lib.hid ((HG6.out.block _ (blk_lt HBY.out) (by have := HC4.out.lt; simp; omega)).trans HBY.out)
  have HDa6 := Lib.hid (dfa_call HD2.out (λ q hq => ⟨hq.2, by have := hq.1; omega⟩) (grown_comp HGb.out G36.out))
  have HDb6 := Lib.hid (dfa_call HD4.out (λ q hq => ⟨hq.2, by have := hq.1; omega⟩) G56.out)
  have HB6 := Lib.hid ((HB1.out.grown (grown_comp HG2.out (grown_comp HGb.out G36.out)) HB1.out.size (λ q e => by cases e; exact HC1.out.1)))
  obtain ⟨hs2, hs4⟩ : w.heap.size + 1 < w2.heap.size /\ w.heap.size + 1 < w4.heap.size := by
    have hz0 : W0.heap.size = w.heap.size + 2 := by rw [HW0.out]; simp
    omega
  have n1 : w.heap.size ≠ w2.heap.size := by omega
  have n2 : w.heap.size ≠ w4.heap.size := by omega
  have n3 : w.heap.size + 1 ≠ w2.heap.size := by omega
  have n4 : w.heap.size + 1 ≠ w4.heap.size := by omega
  have n5 := n1.symm
  have n6 := n2.symm
  have n7 := n3.symm
  have n8 := n4.symm
  have n9 : w2.heap.size ≠ w4.heap.size := by omega
  have n10 := n9.symm
  have HS : Hid (w.heap.size + 1 < w2.heap.size /\ w.heap.size + 1 < w4.heap.size) := Lib.hid ⟨hs2, hs4⟩
  clear hs2 hs4
  cases b with
  | false =>
    obtain ⟨e0, e1, -, -⟩ := box2_facts HXa6.out
    obtain ⟨e2, e3, -, -⟩ := box2_facts HXb6.out
    have HF := Lib.hid (two_end HB6.out HW0.out HDa6.out (λ q hq => by have h1 : w1.heap.size <= q := hq.1; omega) HDb6.out (λ q hq => by have h1 : w3.heap.size <= q := hq.1; omega))
    obtain ⟨⟨⟨x0, k0⟩, ⟨x1, k1⟩, k2, k3⟩, ⟨⟨x4, k4⟩, ⟨x5, k5⟩, k6, k7⟩, -⟩ := HF.out
    go_wp2_with fail
    go_region_law fail
    all_goals
      go_wp2_with fail
      obtain ⟨-, -, ⟨hc0, hc1⟩, ⟨hc2, hc3⟩, hd, hd', hb⟩ := HF.out
      refine bodyPost_ret (v := .tuple #[.agg #[.slice Aa d.acc.length qa, .slice An d.nxt.length qn], .agg #[.slice Ba d'.acc.length pa, .slice Bn d'.nxt.length pn]]) (by simp [results, Tryd.results16, go_sem, hc0, hc1, hc2, hc3]) rfl ?_
      first
        | exact ⟨_, _, _, _, _, _, rfl, hd, hd', hb⟩
        | exact ⟨_, _, _, _, _, _, rfl, hd.mono (λ _ _ => rfl) (λ _ h => h), hd'.mono (λ _ _ => rfl) (λ _ h => h), hb.drew⟩
  | true =>
    obtain ⟨y, ok, hy⟩ := proR_some d d' 6
    have HP := Lib.hid (specPro_any (.slice Aa d.acc.length qa) (.slice An d.nxt.length qn) (.slice Ba d'.acc.length pa) (.slice Bn d'.nxt.length pn) d d' _ _ 6 y ok w6 HDa6.out HDb6.out hy)
    obtain ⟨e0, e1, -, -⟩ := box2_facts HXa6.out
    obtain ⟨e2, e3, -, -⟩ := box2_facts HXb6.out
    clear hy
    go_wp2_with fail
    go_at_call 49
    refine HP.out.mono ?_
    rintro e w7 hcd
    obtain ⟨Ca, sa, Cn, sn, rfl, hoo, hb7⟩ := hcd.shape
    have HXa7 := Lib.hid ((hb7.block _ (blk_lt HXa6.out)).trans HXa6.out)
    have hXb7 := (hb7.block _ (blk_lt HXb6.out)).trans HXb6.out
    have HDa7 := Lib.hid (HDa6.out.kept hb7)
    have HB7 := Lib.hid (HB6.out.trans (hb7.mono HB6.out.size))
    have hz67 := hb7.size
    clear e0 e1 e2 e3
    obtain ⟨y0, y1, y2, y3⟩ := box2_facts hXb7
    obtain ⟨w8, hw8⟩ : ∃ w8, w8 = (w7.setCell ⟨w4.heap.size, 0, none⟩ (.slice Ca y.acc.length sa)).setCell ⟨w4.heap.size, 1, none⟩ (.slice Cn y.nxt.length sn) := ⟨_, rfl⟩
    obtain ⟨hcl, hsz, hot, hBl⟩ := put2 (k := .slice Ca y.acc.length sa) (l := .slice Cn y.nxt.length sn) y0 y1
    have hx8 : w8.heap[w4.heap.size]? = some (.cells #[.slice Ca y.acc.length sa, .slice Cn y.nxt.length sn] 27 (0, 0)) := by
      rw [hw8]
      exact heap_setCell_same _ _ 1 _ _ _ (heap_setCell_same w7 _ 0 _ _ _ hXb7)
    rw [<- hw8] at hsz hot hBl
    have hXa8 := (hot w2.heap.size (by omega)).trans HXa7.out
    have HDa := Lib.hid (HDa7.out.mono (w' := w8) (λ q hq => hot q (by have := hq.2; omega)) (λ _ h => h))
    have HDb := Lib.hid (hoo.dfa.mono (w' := w8) (λ q hq => hot q (by have := hq.1; omega)) (λ _ h => h))
    have HB8 := Lib.hid (hBl _ _ HB7.out (by omega))
    have HF := Lib.hid (two_end HB8.out HW0.out HDa.out (λ q hq => by have h1 : w1.heap.size <= q := hq.1; omega) HDb.out (λ q hq => by have h1 : w6.heap.size <= q := hq.1; omega))
    have HW8 := Lib.hid hw8
    clear hcd hoo hb7 hcl hsz hot hBl hXb7 hw8 hz67
    go_upto_region 6 with fail
    rw [<- HW8.out]
    clear HW8 y0 y1 y2 y3
    obtain ⟨e0, e1, -, -⟩ := box2_facts hXa8
    obtain ⟨e2, e3, -, -⟩ := box2_facts hx8
    clear hXa8 hx8
    obtain ⟨⟨⟨x0, k0⟩, ⟨x1, k1⟩, k2, k3⟩, ⟨⟨x4, k4⟩, ⟨x5, k5⟩, k6, k7⟩, -⟩ := HF.out
    go_region_law fail
    all_goals
      go_wp2_with fail
      obtain ⟨-, -, ⟨hc0, hc1⟩, ⟨hc2, hc3⟩, hd, hd', hb⟩ := HF.out
      refine bodyPost_ret (v := .tuple #[.agg #[.slice Aa d.acc.length qa, .slice An d.nxt.length qn], .agg #[.slice Ca y.acc.length sa, .slice Cn y.nxt.length sn]]) (by simp [results, Tryd.results16, go_sem, hc0, hc1, hc2, hc3]) rfl ?_
      first
        | exact ⟨_, _, _, _, _, _, rfl, hd, hd', hb⟩
        | exact ⟨_, _, _, _, _, _, rfl, hd.mono (λ _ _ => rfl) (λ _ h => h), hd'.mono (λ _ _ => rfl) (λ _ h => h), hb.drew⟩
end Go.Proofs.YtiijlpmdnokjfaaDoor
