/-
  What impl.ConcatDfa answers.
-/
import Derived.Test.YtlkhmpdncimnfaaDoorCatI
import Derived.Laws.EntriesVeiled
namespace Go.Proofs.YtlkhmpdncimnfaaDoor
open Go.RowKit

theorem enters_cat1 (args : Array Value) (w : World) : (callFunc 23 args).run Tryd.prog w = .ok (.enter 23 args) w := enters_of Tryd.func23 (by kernel_rfl) rfl args w
theorem enters_cat2 (args : Array Value) (w : World) : (callFunc 24 args).run Tryd.prog w = .ok (.enter 24 args) w := enters_of Tryd.func24 (by kernel_rfl) rfl args w
theorem enters_cat3 (args : Array Value) (w : World) : (callFunc 27 args).run Tryd.prog w = .ok (.enter 27 args) w := enters_of Tryd.func27 (by kernel_rfl) rfl args w
set_option maxRecDepth 100000 in
set_option maxHeartbeats 6400000 in
theorem implCat_any (va vn va' vn' : Value) (d d' : Dx) (S S' : Nat → Prop) (y : Dx) (ok : Bool) (w : World) (h : DfaV w S va vn d) (h' : DfaV w S' va' vn' d') (hy : catR d d' y ok) (hTab : Tab w) :
    Calls Tryd.prog 8 #[.agg #[va, vn], .agg #[va', vn']] w (CopyDB y ok w) := by
  have hmf : ∀ (fn : Fn) (first cap : Array Value) (w : World), (Instr.makeFunc fn first cap).run Tryd.prog w = .ok (.func fn first cap) w := fun _ _ _ _ => rfl
  obtain ⟨W0, hW0⟩ : ∃ W0, W0 = ((w.alloc (.cells #[va, vn] 27)).alloc (.cells #[va', vn'] 27)).alloc (.cells #[.slice none 0 0, .slice none 0 0] 27) := ⟨_, rfl⟩
  have h3 := three_box' w (.cells #[va, vn] 27) (.cells #[va', vn'] 27) (.cells #[.slice none 0 0, .slice none 0 0] 27)
  rw [← hW0] at h3
  have HB0 : Hid (Below w.heap.size w W0) := Lib.hid h3.2.2.2
  have HX := Lib.hid h3.1
  have HX' := Lib.hid h3.2.1
  have HY := Lib.hid h3.2.2.1
  clear h3
  have HV := Lib.hid (implValidD_any va vn d S W0 (h.kept HB0.out))
  have HV' := Lib.hid (fun (V : World) (hV : Below w.heap.size w V) => implValidD_any va' vn' d' S' V (h'.kept hV))
  obtain ⟨⟨A, c, rfl⟩, A', c', rfl⟩ := h.shape
  obtain ⟨⟨B, e, rfl⟩, B', e', rfl⟩ := h'.shape
  obtain ⟨hc0, hc1, -, -⟩ := box2_facts HX.out
  obtain ⟨hd0, hd1, -, -⟩ := box2_facts HX'.out
  rw [hW0] at hc0 hc1 hd0 hd1
  cases hv : validD d with
  | false =>
    rw [hv] at HV
    unfold catR at hy
    rw [if_neg (by rw [hv]; simp)] at hy
    obtain ⟨rfl, rfl⟩ := hy
    clear h h' hv hTab
    go_enter Tryd.func8, Tryd.ntmps8
    go_wp2_with fail
    go_at_call 22
    rw [← hW0]
    refine HV.out.mono ?_
    rintro e1 w1 ⟨rfl, hb1⟩
    obtain ⟨c0, c1, k0, k1⟩ := box2_facts ((hb1.block _ (blk_lt HY.out)).trans HY.out)
    obtain ⟨hcl, hsz, hot, hBl⟩ := put2 (k := .slice none 0 0) (l := .slice none 0 0) c0 c1
    obtain ⟨hr0, hr1⟩ := hcl
    have HOt := Lib.hid hBl
    have HB1 := Lib.hid hb1
    clear hc0 hc1 hd0 hd1 hW0 hb1 hsz hot hBl
    go_wp2_with fail
    refine bodyPost_ret (v := .tuple #[.agg #[.slice none 0 0, .slice none 0 0], .bool false]) (by simp [results, Tryd.results8, go_sem, hr0, hr1]) rfl ?_
    exact ⟨_, _, rfl, DfaO.empty _ _, HOt.out _ _ (HB0.out.trans (HB1.out.mono HB0.out.size)) (by omega)⟩
  | true =>
  rw [hv] at HV
  cases hv' : validD d' with
  | false =>
    rw [hv'] at HV'
    unfold catR at hy
    rw [if_neg (by rw [hv']; simp)] at hy
    obtain ⟨rfl, rfl⟩ := hy
    clear h h' hv hv' hTab
    go_enter Tryd.func8, Tryd.ntmps8
    go_wp2_with fail
    go_at_call 22
    rw [← hW0]
    refine HV.out.mono ?_
    rintro e1 w1 ⟨rfl, hb1⟩
    have HB1 := Lib.hid hb1
    clear hc0 hc1 hd0 hd1 hW0 hb1
    obtain ⟨hd0, hd1, -, -⟩ := box2_facts ((HB1.out.block _ (blk_lt HX'.out)).trans HX'.out)
    go_wp2_with fail
    go_at_call 22
    refine (HV'.out w1 (HB0.out.trans (HB1.out.mono HB0.out.size))).mono ?_
    rintro e2 w2 ⟨rfl, hb2⟩
    have HB2 := Lib.hid (HB1.out.trans (hb2.mono HB1.out.size))
    obtain ⟨c0, c1, k0, k1⟩ := box2_facts ((HB2.out.block _ (blk_lt HY.out)).trans HY.out)
    obtain ⟨hcl, hsz, hot, hBl⟩ := put2 (k := .slice none 0 0) (l := .slice none 0 0) c0 c1
    obtain ⟨hr0, hr1⟩ := hcl
    have HOt := Lib.hid hBl
    clear hd0 hd1 hb2 hsz hot hBl
    go_wp2_with fail
    refine bodyPost_ret (v := .tuple #[.agg #[.slice none 0 0, .slice none 0 0], .bool false]) (by simp [results, Tryd.results8, go_sem, hr0, hr1]) rfl ?_
    exact ⟨_, _, rfl, DfaO.empty _ _, HOt.out _ _ (HB0.out.trans (HB2.out.mono HB0.out.size)) (by omega)⟩
  | true =>
    rw [hv'] at HV'
    unfold catR at hy
    rw [if_pos ⟨hv, hv'⟩] at hy
    obtain ⟨hw, hn40, hnn, hl, ad, cc, aN, cN, hva, hvn, hA, hT⟩ := h.au hv
    obtain ⟨hw', hn40', hnn', hl', ad', cc', aN', cN', hva', hvn', hA', hT'⟩ := h'.au hv'
    injection hva with e1 e2 e3
    injection hvn with e4 e5 e6
    injection hva' with e1' e2' e3'
    injection hvn' with e4' e5' e6'
    subst e1
    subst e3
    subst e4
    subst e6
    subst e1'
    subst e3'
    subst e4'
    subst e6'
    rw [e5] at HX hW0 HV hc1
    rw [e5'] at HX' hW0 HV' hd1
    rw [e5, e5']
    obtain ⟨n, hne⟩ : ∃ n, n = d.acc.length := ⟨_, rfl⟩
    obtain ⟨n', hne'⟩ : ∃ n, n = d'.acc.length := ⟨_, rfl⟩
    rw [← hne] at HX HV hc0 hc1 hnn hA hT
    rw [← hne'] at HX' HV' hd0 hd1 hnn' hA' hT'
    rw [← hne, ← hne'] at hW0 ⊢
    rw [← hne'] at hc0 hc1
    rw [← hne] at hd0 hd1
    have HAu : Hid (∀ V, Below W0.heap.size W0 V → AuB V w.heap.size n ad c aN c' (auD d)) := Lib.hid (fun V hV => by
      have hb := HB0.out.trans (hV.mono HB0.out.size)
      obtain ⟨x0, x1, -, -⟩ := box2_facts ((hV.block _ (blk_lt HX.out)).trans HX.out)
      refine ⟨x0, x1, fun q hq => (hb.cell (cell_in (hA q hq))).trans (hA q hq), fun q hq => ?_⟩
      obtain ⟨r, q', h1, h2⟩ := hT q hq
      exact ⟨r, q', (hb.cell (cell_in h1)).trans h1, fun k hk => (hb.cell (cell_in (h2 k hk))).trans (h2 k hk)⟩)
    have HAu' : Hid (∀ V, Below W0.heap.size W0 V → AuB V (w.heap.size + 1) n' ad' e aN' e' (auD d')) := Lib.hid (fun V hV => by
      have hb := HB0.out.trans (hV.mono HB0.out.size)
      obtain ⟨x0, x1, -, -⟩ := box2_facts ((hV.block _ (blk_lt HX'.out)).trans HX'.out)
      refine ⟨x0, x1, fun q hq => (hb.cell (cell_in (hA' q hq))).trans (hA' q hq), fun q hq => ?_⟩
      obtain ⟨r, q', h1, h2⟩ := hT' q hq
      exact ⟨r, q', (hb.cell (cell_in h1)).trans h1, fun k hk => (hb.cell (cell_in (h2 k hk))).trans (h2 k hk)⟩)
    have hw2 : ∀ q k, q < n → k < 3 → (auD d).T q k < n := fun q k hq hk => by rw [← hnn] at hq ⊢; exact hw.2 q k hq hk
    have hw2' : ∀ q k, q < n' → k < 3 → (auD d').T q k < n' := fun q k hq hk => by rw [← hnn'] at hq ⊢; exact hw'.2 q k hq hk
    have hn0 : 0 < n := by rw [← hnn]; exact hw.1
    have hn0' : 0 < n' := by rw [← hnn']; exact hw'.1
    have HAc := Lib.hid (fun (V : World) (hV : Below W0.heap.size W0 V) => implAccSt_any ad' n' e (.slice (some aN') n' e') (auD d') V (by omega) (HAu'.out V hV).2.2.1)
    have HTab := Lib.hid (fun (V : World) (hV : Below w.heap.size w V) => hTab.kept hV)
    have HEl := Lib.hid (fun (V : World) (hV : Below W0.heap.size W0 V) => implCatE_any w.heap.size n ad c aN c' (auD d) 0 [] V (HAu.out V hV) hn0 (by simp))
    have hst : mskS (addS (auD d) 0 []) = mskS (catS (auD d)).2 := by
      unfold addS catS
      cases (auD d).A 0 <;> rfl
    rw [hst] at HEl
    have HMd : Hid (∀ (V : World) (be bm : Nat), Below W0.heap.size W0 V → V.cell? ⟨be, 0, none⟩ = some (.func (.func 23) #[] #[.pointer (some ⟨w.heap.size, 0, none⟩)]) → V.cell? ⟨bm, 0, none⟩ = some (.int .u64 ((mskS (accS (auD d') n') : Nat) : Int)) →
        Calls Tryd.prog 29 #[.agg #[.int .i64 0, .int .u64 ((mskS (catS (auD d)).2 : Nat) : Int)], .func (.func 24) #[] #[.pointer (some ⟨be, 0, none⟩), .pointer (some ⟨w.heap.size, 0, none⟩), .pointer (some ⟨w.heap.size + 1, 0, none⟩)], .func (.func 27) #[] #[.pointer (some ⟨bm, 0, none⟩)], .int .i64 400] V (CopyDB y ok V)) := Lib.hid (fun V be bm hV hbe hbm => by
      refine implMdC_any _ _ _ _ enters_cat2 enters_cat3 (catG (auD d) (auD d')) (fun x => anyS (auD d') x.2) n n' 400 (catS (auD d)) V (by omega) (by omega) (by omega) (by omega) (catS_ok hn0 hn0') (fun x k hx hk => catG_ok hn0' (fun q hq => hw2 q k hq hk) (fun q hq => hw2' q k hq hk) hx) (fun U x k hU hx hk => ?_) (fun U x hU hx => ?_) y ok hy
      · exact implCatT_any be w.heap.size (w.heap.size + 1) n n' ad c aN c' (auD d) ad' e aN' e' (auD d') x k U (HAu.out U (hV.trans (hU.mono hV.size))) (HAu'.out U (hV.trans (hU.mono hV.size))) hx hk (by omega) (fun q hq => hw2 q k hq hk) (fun q hq => hw2' q k hq hk) ((hU.cell (cell_in hbe)).trans hbe) (HTab.out U (HB0.out.trans ((hV.trans (hU.mono hV.size)).mono HB0.out.size)))
      · exact implCatA_any bm n' (auD d') _ x.2 U (by omega) hx.2.2 hnn' ((hU.cell (cell_in hbm)).trans hbm))
    obtain ⟨m0, hm0⟩ : ∃ m, m = mskS (catS (auD d)).2 := ⟨_, rfl⟩
    rw [← hm0] at HEl HMd
    clear h h' hy hTab hv hv' hw hn40 hnn hl hA hT e5 hne hw2 hn0 hw' hn40' hnn' hl' hA' hT' e5' hne' hw2' hn0' hst hm0
    go_enter Tryd.func8, Tryd.ntmps8
    go_wp2_with fail
    go_at_call 22
    rw [← hW0]
    refine HV.out.mono ?_
    rintro e1 w1 ⟨rfl, hb1⟩
    have HB1 := Lib.hid hb1
    clear hc0 hc1 hd0 hd1 hW0 hb1
    obtain ⟨hd0, hd1, -, -⟩ := HAu'.out w1 HB1.out
    go_wp2_with fail
    go_at_call 22
    refine (HV'.out w1 (HB0.out.trans (HB1.out.mono HB0.out.size))).mono ?_
    rintro e2 w2 ⟨rfl, hb2⟩
    have HB2 := Lib.hid (HB1.out.trans (hb2.mono HB1.out.size))
    clear hd0 hd1 hb2
    obtain ⟨W3, hW3⟩ : ∃ W3, W3 = w2.alloc (.cells #[.func (.func 23) #[] #[.pointer (some ⟨w.heap.size, 0, none⟩)]] 51) := ⟨_, rfl⟩
    have HB3 : Hid (Below W0.heap.size W0 W3) := Lib.hid (by rw [hW3]; exact HB2.out.alloc HB2.out.size _)
    have hbe := (cell_of_row W3 w2.heap.size 0 _ _ (0, 0) (by rw [hW3]; exact heap_alloc_new w2 _)).trans (rfl : _ = some (Value.func (.func 23) #[] #[.pointer (some ⟨w.heap.size, 0, none⟩)]))
    have HBe := Lib.hid hbe
    obtain ⟨hd0, hd1, -, -⟩ := HAu'.out W3 HB3.out
    go_upto_region 4 with fail
    rw [← hW3]
    clear hW3 hbe
    go_wp2_with fail
    go_at_call 26
    refine (HAc.out W3 HB3.out).mono ?_
    rintro e3 w4 ⟨rfl, hb4⟩
    obtain ⟨W5, hW5⟩ : ∃ W5, W5 = w4.alloc (.cells #[.int .u64 ((mskS (accS (auD d') n') : Nat) : Int)] 48) := ⟨_, rfl⟩
    have HB35 : Hid (Below W3.heap.size W3 W5) := Lib.hid (by rw [hW5]; exact hb4.alloc hb4.size _)
    have HB5 : Hid (Below W0.heap.size W0 W5) := Lib.hid (HB3.out.trans (HB35.out.mono HB3.out.size))
    have hbe5 := (HB35.out.cell (cell_in HBe.out)).trans HBe.out
    have HBe5 := Lib.hid hbe5
    have hcm : W5.cell? ⟨w4.heap.size, 0, none⟩ = some (.int .u64 ((mskS (accS (auD d') n') : Nat) : Int)) := (cell_of_row W5 w4.heap.size 0 _ _ (0, 0) (by rw [hW5]; exact heap_alloc_new w4 _)).trans rfl
    have HCm := Lib.hid hcm
    clear hd0 hd1 hb4 hcm
    go_upto_region 6 with fail
    rw [← hW5]
    clear hW5
    have hE := HEl.out W5 HB5.out
    rw [show ((0 : Nat) : Int) = 0 from rfl, show ((mskS [] : Nat) : Int) = 0 from rfl] at hE
    have HE := Lib.hid hE
    clear hE
    go_wp2_with fail
    refine HE.out.mono ?_
    rintro e5 w6 ⟨rfl, hb6⟩
    have HB6 : Hid (Below W0.heap.size W0 w6) := Lib.hid (HB5.out.trans (hb6.mono HB5.out.size))
    have HMm := Lib.hid (HMd.out w6 w2.heap.size w4.heap.size HB6.out ((hb6.cell (cell_in HBe5.out)).trans HBe5.out) ((hb6.cell (cell_in HCm.out)).trans HCm.out))
    clear hbe5 hb6
    go_wp2_with fail
    go_at_call 29
    refine HMm.out.mono ?_
    rintro e7 w7 hcd
    obtain ⟨A1, p1, A2, p2, rfl, hoo, hb4⟩ := hcd.shape
    obtain ⟨x1, hx1⟩ : ∃ x, x = y.acc.length := ⟨_, rfl⟩
    obtain ⟨x2, hx2⟩ : ∃ x, x = y.nxt.length := ⟨_, rfl⟩
    rw [← hx1, ← hx2] at hoo ⊢
    have HO4 := Lib.hid hoo
    have HB4 := Lib.hid (HB6.out.trans (hb4.mono HB6.out.size))
    have hz3 := HB6.out.size
    have hyl := blk_lt HY.out
    obtain ⟨c0, c1, k0, k1⟩ := box2_facts ((HB4.out.block _ hyl).trans HY.out)
    obtain ⟨hcl, hsz, hot, hBl⟩ := put2 (k := .slice A1 x1 p1) (l := .slice A2 x2 p2) c0 c1
    obtain ⟨hr0, hr1⟩ := hcl
    have HOt := Lib.hid (And.intro hsz (And.intro hot hBl))
    clear hsz hot hBl hoo hb4 hcd hx1 hx2
    go_wp2_with fail
    refine bodyPost_ret (v := .tuple #[.agg #[.slice A1 x1 p1, .slice A2 x2 p2], .bool ok]) (by simp [results, Tryd.results8, go_sem, hr0, hr1]) rfl ?_
    have h0 := HB0.out.size
    exact ⟨_, _, rfl, HO4.out.mono (fun g hg => HOt.out.2.1 g (by have := hg.1; omega)) (fun g hg => ⟨by have := hg.1; omega, by rw [HOt.out.1]; exact hg.2⟩) (by rw [HOt.out.1]; exact Nat.le_refl _), HOt.out.2.2 _ _ (HB0.out.trans (HB4.out.mono h0)) (by omega)⟩
end Go.Proofs.YtlkhmpdncimnfaaDoor
