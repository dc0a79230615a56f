/-
  What the closures of impl.StarDfa answer, and impl.StarDfa.
-/
import Derived.Test.YtlkhmpdncimnfaaDoorCatI
import Derived.Test.YtlkhmpdncimnfaaDoorExpR
namespace Go.Proofs.YtlkhmpdncimnfaaDoor
open Go.RowKit

set_option maxRecDepth 100000 in
set_option maxHeartbeats 3200000 in
theorem implStaT_any (bb bm n' : Nat) (ad' : Addr) (e : Nat) (aN' : Addr) (e' : Nat) (b : Au) (x : Bool × List Nat) (k : Nat) (w : World)
    (h' : AuB w bb n' ad' e aN' e' b) (hbn : b.n = n') (hx : okR n' x) (hk : k < 3) (hn' : n' ≤ 40) (hwb : ∀ q, q < n' → b.T q k < n')
    (hbm : w.cell? ⟨bm, 0, none⟩ = some (.int .u64 ((mskS (accS b n') : Nat) : Int))) (hTab : Tab w) :
    Calls Tryd.prog 40 #[.agg #[.bool x.1, .int .u64 ((mskS x.2 : Nat) : Int)], .int .i64 (k : Int), .pointer (some ⟨bb, 0, none⟩), .pointer (some ⟨bm, 0, none⟩)] w fun e w' => e = .returned (.agg #[.bool (starG b x k).1, .int .u64 ((mskS (starG b x k).2 : Nat) : Int)]) ∧ Below w.heap.size w w' := by
  obtain ⟨p, s⟩ := x
  obtain ⟨-, hs⟩ := hx
  have hs : ∀ q ∈ s, q < n' := hs
  obtain ⟨W0, hW0⟩ : ∃ W0, W0 = (w.alloc (.cells #[.bool p, .int .u64 ((mskS s : Nat) : Int)] 72)).alloc (.cells #[.bool false, .int .u64 0] 72) := ⟨_, rfl⟩
  have HB0 : Hid (Below w.heap.size w W0) := Lib.hid (by rw [hW0]; exact ((Below.refl _ _).alloc (Nat.le_refl _) _).alloc (by simp) _)
  have HX : Hid (W0.heap[w.heap.size]? = some (.cells #[.bool p, .int .u64 ((mskS s : Nat) : Int)] 72 (0, 0))) := Lib.hid (by rw [hW0]; exact (Below.heap_alloc _ _ _ (by simp)).trans (heap_alloc_new w _))
  have HY : Hid (W0.heap[w.heap.size + 1]? = some (.cells #[.bool false, .int .u64 0] 72 (0, 0))) := Lib.hid (by rw [hW0]; exact three2 w _ _ _ _)
  have HMv := Lib.hid (implMove_any (.slice (some ad') n' e) aN' n' e' k b s W0 hn' hk hs hwb (fun q hq => by
    obtain ⟨r, q', h1, h2⟩ := (h'.kept HB0.out).2.2.2 q hq
    exact ⟨r, q', h1, h2 k hk⟩) (hTab.kept HB0.out))
  have hmv : ∀ q ∈ moveS b s k, q < n' := fun q hq => by
    obtain ⟨p', h1, rfl⟩ := mem_move.1 hq
    exact hwb p' (hs p' h1)
  have h1 := mskS_64 (s := moveS b s k) (fun q hq => by have := hmv q hq; omega)
  have h2 := mskS_64 (s := accS b n') (fun q hq => by have := accS_lt hq; omega)
  have hany : anyS b (moveS b s k) = decide (mskS (moveS b s k) &&& mskS (accS b n') ≠ 0) := by rw [any_meets (by rw [hbn]; exact hmv), hbn]
  have HG : Hid (starG b (p, s) k = (false, if anyS b (moveS b s k) then putS (moveS b s k) 0 else moveS b s k)) := Lib.hid rfl
  have hor := or_one (a := mskS (moveS b s k)) (by omega)
  rw [msk_put0] at hor
  obtain ⟨m, hm⟩ : ∃ m, m = mskS s := ⟨_, rfl⟩
  obtain ⟨m2, hm2⟩ : ∃ m, m = mskS (moveS b s k) := ⟨_, rfl⟩
  obtain ⟨ma, hma⟩ : ∃ m, m = mskS (accS b n') := ⟨_, rfl⟩
  obtain ⟨m3, hm3⟩ : ∃ m, m = mskS (putS (moveS b s k) 0) := ⟨_, rfl⟩
  rw [← hm] at HX hW0 HMv ⊢
  rw [← hm2] at HMv h1 hany hor
  rw [← hma] at h2 hany hbm
  rw [← hm3] at hor
  have HM2 := Lib.hid hm2
  have HM3 := Lib.hid hm3
  have HMe := Lib.hid (fun V => implMeets_any m2 ma (by omega) (by omega) V)
  rw [← hany] at HMe
  obtain ⟨r, hr⟩ : ∃ r, r = anyS b (moveS b s k) := ⟨_, rfl⟩
  rw [← hr] at HMe HG
  have hb0 := (HB0.out.cell (cell_in (h'.1))).trans h'.1
  have hb1 := (HB0.out.cell (cell_in (h'.2.1))).trans h'.2.1
  obtain ⟨x0, x1, -, -⟩ := box2_facts HX.out
  have HBm := Lib.hid (fun (V : World) (hV : Below w.heap.size w V) => (hV.cell (cell_in hbm)).trans hbm)
  clear h' hs hwb hbm hTab hmv hm hm2 hm3 hma hr hany h1 h2 hbn
  go_enter Tryd.func40, Tryd.ntmps40
  go_upto_region 1 with fail
  rw [← hW0]
  clear hW0
  go_wp2_with fail
  go_at_call 25
  refine HMv.out.mono ?_
  rintro e1 w1 ⟨rfl, hb1'⟩
  have HB1 := Lib.hid (HB0.out.trans (hb1'.mono HB0.out.size))
  have hbm1 := HBm.out w1 HB1.out
  obtain ⟨c0, c1, k0, k1⟩ := box2_facts ((hb1'.block _ (blk_lt HY.out)).trans HY.out)
  clear hb1' hb0 hb1 x0 x1
  cases r with
  | true =>
    obtain ⟨hcl, hsz, hot, hBl⟩ := put2 (k := .bool false) (l := .int .u64 (m3 : Int)) c0 c1
    obtain ⟨hc0, hc1⟩ := hcl
    have HOt := Lib.hid hBl
    clear hsz hot hBl
    go_wp2_with (go_at_call 28; refine (HMe.out _).mono ?_; rintro e w' ⟨rfl, rfl⟩)
    refine bodyPost_ret (v := .agg #[.bool false, .int .u64 (m3 : Int)]) (by simp [results, Tryd.results40, go_sem, hc0, hc1]) rfl ?_
    exact ⟨by rw [HG.out, HM3.out]; rfl, HOt.out _ _ HB1.out (Nat.le_succ _)⟩
  | false =>
    obtain ⟨hcl, hsz, hot, hBl⟩ := put2 (k := .bool false) (l := .int .u64 (m2 : Int)) c0 c1
    obtain ⟨hc0, hc1⟩ := hcl
    have HOt := Lib.hid hBl
    clear hsz hot hBl hor
    go_wp2_with (go_at_call 28; refine (HMe.out _).mono ?_; rintro e w' ⟨rfl, rfl⟩)
    refine bodyPost_ret (v := .agg #[.bool false, .int .u64 (m2 : Int)]) (by simp [results, Tryd.results40, go_sem, hc0, hc1]) rfl ?_
    exact ⟨by rw [HG.out, HM2.out]; rfl, HOt.out _ _ HB1.out (Nat.le_succ _)⟩

set_option maxRecDepth 100000 in
set_option maxHeartbeats 1600000 in
theorem implStaA_any (bm n : Nat) (b : Au) (x : Bool × List Nat) (w : World) (hn : n ≤ 40) (hs : ∀ q ∈ x.2, q < n) (hbn : b.n = n) (hbm : w.cell? ⟨bm, 0, none⟩ = some (.int .u64 ((mskS (accS b n) : Nat) : Int))) :
    Calls Tryd.prog 41 #[.agg #[.bool x.1, .int .u64 ((mskS x.2 : Nat) : Int)], .pointer (some ⟨bm, 0, none⟩)] w fun e w' => e = .returned (.bool (starA b x)) ∧ Below w.heap.size w w' := by
  obtain ⟨p, s⟩ := x
  have hs : ∀ q ∈ s, q < n := hs
  obtain ⟨W0, hW0⟩ : ∃ W0, W0 = w.alloc (.cells #[.bool p, .int .u64 ((mskS s : Nat) : Int)] 72) := ⟨_, rfl⟩
  have HB0 : Hid (Below w.heap.size w W0) := Lib.hid (by rw [hW0]; exact (Below.refl _ _).alloc (Nat.le_refl _) _)
  obtain ⟨c0, c1, -, -⟩ := box2_facts (show W0.heap[w.heap.size]? = some (.cells #[.bool p, .int .u64 ((mskS s : Nat) : Int)] 72 (0, 0)) by rw [hW0]; exact heap_alloc_new w _)
  have hc := (HB0.out.cell (cell_in hbm)).trans hbm
  have h1 := mskS_64 (s := s) (fun q hq => by have := hs q hq; omega)
  have h2 := mskS_64 (s := accS b n) (fun q hq => by have := accS_lt hq; omega)
  have HR : Hid (starA b (p, s) = (p || decide (mskS s &&& mskS (accS b n) ≠ 0))) := Lib.hid (by rw [starA, any_meets (by rw [hbn]; exact hs), hbn])
  obtain ⟨m, hm⟩ : ∃ m, m = mskS s := ⟨_, rfl⟩
  obtain ⟨m2, hm2⟩ : ∃ m, m = mskS (accS b n) := ⟨_, rfl⟩
  rw [← hm, ← hm2] at HR
  rw [← hm] at hW0 c1 h1 ⊢
  rw [← hm2] at h2 hc
  have HM := Lib.hid (fun V => implMeets_any m m2 (by omega) (by omega) V)
  obtain ⟨r, hr⟩ : ∃ r, r = decide (m &&& m2 ≠ 0) := ⟨_, rfl⟩
  rw [← hr] at HM HR
  clear hbm hs hbn hm hm2 hr
  cases p with
  | true =>
    go_enter Tryd.func41, Tryd.ntmps41
    go_upto_region 1 with fail
    rw [← hW0]
    clear hW0
    go_wp2_with fail
    go_ret
    exact ⟨congrArg (fun b : Bool => Ending.returned (.bool b)) HR.out.symm, HB0.out⟩
  | false =>
    go_enter Tryd.func41, Tryd.ntmps41
    go_upto_region 1 with fail
    rw [← hW0]
    clear hW0
    go_wp2_with (go_at_call 28; refine (HM.out _).mono ?_; rintro e w' ⟨rfl, rfl⟩)
    go_ret
    exact ⟨congrArg (fun b : Bool => Ending.returned (.bool b)) HR.out.symm, HB0.out⟩
theorem enters_sta1 (args : Array Value) (w : World) : (callFunc 40 args).run Tryd.prog w = .ok (.enter 40 args) w := enters_of Tryd.func40 (by kernel_rfl) rfl args w
theorem enters_sta2 (args : Array Value) (w : World) : (callFunc 41 args).run Tryd.prog w = .ok (.enter 41 args) w := enters_of Tryd.func41 (by kernel_rfl) rfl args w
set_option maxRecDepth 100000 in
set_option maxHeartbeats 3200000 in
theorem implStar_any (va vn : Value) (d : Dx) (S : Nat → Prop) (y : Dx) (ok : Bool) (w : World) (h : DfaV w S va vn d) (hy : starR d y ok) (hTab : Tab w) :
    Calls Tryd.prog 11 #[.agg #[va, vn]] w (CopyDB y ok w) := by
  have hmf : ∀ (fn : Fn) (first cap : Array Value) (w : World), (Instr.makeFunc fn first cap).run Tryd.prog w = .ok (.func fn first cap) w := fun _ _ _ _ => rfl
  obtain ⟨W0, hW0⟩ : ∃ W0, W0 = (w.alloc (.cells #[va, vn] 27)).alloc (.cells #[.slice none 0 0, .slice none 0 0] 27) := ⟨_, rfl⟩
  have HB0 : Hid (Below w.heap.size w W0) := Lib.hid (by rw [hW0]; exact ((Below.refl _ _).alloc (Nat.le_refl _) _).alloc (by simp) _)
  have HX : Hid (W0.heap[w.heap.size]? = some (.cells #[va, vn] 27 (0, 0))) := Lib.hid (by rw [hW0]; exact (Below.heap_alloc _ _ _ (by simp)).trans (heap_alloc_new w _))
  have HY : Hid (W0.heap[w.heap.size + 1]? = some (.cells #[.slice none 0 0, .slice none 0 0] 27 (0, 0))) := Lib.hid (by rw [hW0]; exact three2 w _ _ _ _)
  have HV := Lib.hid (implValidD_any va vn d S W0 (h.kept HB0.out))
  obtain ⟨⟨A, c, rfl⟩, A', c', rfl⟩ := h.shape
  obtain ⟨hc0, hc1, -, -⟩ := box2_facts HX.out
  rw [hW0] at hc0 hc1
  cases hv : validD d with
  | false =>
    rw [hv] at HV
    unfold starR at hy
    rw [if_neg (by rw [hv]; decide)] at hy
    obtain ⟨rfl, rfl⟩ := hy
    clear h hv hTab
    go_enter Tryd.func11, Tryd.ntmps11
    go_wp2_with fail
    go_at_call 22
    rw [← hW0]
    refine HV.out.mono ?_
    rintro e w1 ⟨rfl, hb1⟩
    obtain ⟨c0, c1, k0, k1⟩ := box2_facts ((hb1.block _ (blk_lt HY.out)).trans HY.out)
    obtain ⟨hcl, hsz, hot, hBl⟩ := put2 (k := .slice none 0 0) (l := .slice none 0 0) c0 c1
    obtain ⟨hr0, hr1⟩ := hcl
    have HOt := Lib.hid hBl
    have HB1 := Lib.hid hb1
    clear hc0 hc1 hW0 hb1 hsz hot hBl
    go_wp2_with fail
    refine bodyPost_ret (v := .tuple #[.agg #[.slice none 0 0, .slice none 0 0], .bool false]) (by simp [results, Tryd.results11, go_sem, hr0, hr1]) rfl ?_
    exact ⟨_, _, rfl, DfaO.empty _ _, HOt.out _ _ (HB0.out.trans (HB1.out.mono HB0.out.size)) (Nat.le_succ _)⟩
  | true =>
    rw [hv] at HV
    unfold starR at hy
    rw [if_pos hv] at hy
    obtain ⟨hw, hn40, hnn, hl, ad, cc, aN, cN, hva, hvn, hA, hT⟩ := h.au hv
    injection hva with e1 e2 e3
    injection hvn with e4 e5 e6
    subst e1
    subst e3
    subst e4
    subst e6
    rw [e5] at HX hW0 HV hc1
    rw [e5]
    obtain ⟨n, hne⟩ : ∃ n, n = d.acc.length := ⟨_, rfl⟩
    rw [← hne] at HX hW0 HV hc0 hc1 hnn hA hT ⊢
    have HAu : Hid (∀ V, Below W0.heap.size W0 V → AuB V w.heap.size n ad c aN c' (auD d)) := Lib.hid (fun V hV => by
      have hb := HB0.out.trans (hV.mono HB0.out.size)
      obtain ⟨x0, x1, -, -⟩ := box2_facts ((hV.block _ (blk_lt HX.out)).trans HX.out)
      refine ⟨x0, x1, fun q hq => (hb.cell (cell_in (hA q hq))).trans (hA q hq), fun q hq => ?_⟩
      obtain ⟨r, q', h1, h2⟩ := hT q hq
      exact ⟨r, q', (hb.cell (cell_in h1)).trans h1, fun k hk => (hb.cell (cell_in (h2 k hk))).trans (h2 k hk)⟩)
    have hw2 : ∀ q k, q < n → k < 3 → (auD d).T q k < n := fun q k hq hk => by rw [← hnn] at hq ⊢; exact hw.2 q k hq hk
    have hn0 : 0 < n := by rw [← hnn]; exact hw.1
    have HAc := Lib.hid (fun (V : World) (hV : Below W0.heap.size W0 V) => implAccSt_any ad n c (.slice (some aN) n c') (auD d) V (by omega) (HAu.out V hV).2.2.1)
    have HTab := Lib.hid (fun (V : World) (hV : Below w.heap.size w V) => hTab.kept hV)
    have HMd : Hid (∀ (V : World) (bm : Nat), Below W0.heap.size W0 V → V.cell? ⟨bm, 0, none⟩ = some (.int .u64 ((mskS (accS (auD d) n) : Nat) : Int)) →
        Calls Tryd.prog 42 #[.agg #[.bool true, .int .u64 1], .func (.func 40) #[] #[.pointer (some ⟨w.heap.size, 0, none⟩), .pointer (some ⟨bm, 0, none⟩)], .func (.func 41) #[] #[.pointer (some ⟨bm, 0, none⟩)], .int .i64 400] V (CopyDB y ok V)) := Lib.hid (fun V bm hV hbm => by
      refine implMdR_any _ _ _ _ enters_sta1 enters_sta2 (starG (auD d)) (starA (auD d)) n 400 starS V (by omega) (by omega) (by omega) ⟨by simp [starS], fun q hq => by simp [starS] at hq; omega⟩ (fun x k hx hk => starG_ok hn0 (fun q hq => hw2 q k hq hk) hx) (fun U x k hU hx hk => ?_) (fun U x hU hx => ?_) y ok hy
      · exact implStaT_any w.heap.size bm n ad c aN c' (auD d) x k U (HAu.out U (hV.trans (hU.mono hV.size))) hnn hx hk (by omega) (fun q hq => hw2 q k hq hk) ((hU.cell (cell_in hbm)).trans hbm) (HTab.out U (HB0.out.trans ((hV.trans (hU.mono hV.size)).mono HB0.out.size)))
      · exact implStaA_any bm n (auD d) x U (by omega) hx.2 hnn ((hU.cell (cell_in hbm)).trans hbm))
    clear h hy hTab hv hw hn40 hnn hl hA hT e5 hne hw2 hn0
    go_enter Tryd.func11, Tryd.ntmps11
    go_wp2_with fail
    go_at_call 22
    rw [← hW0]
    refine HV.out.mono ?_
    rintro e w1 ⟨rfl, hb1⟩
    have HB1 := Lib.hid hb1
    clear hc0 hc1 hW0 hb1
    obtain ⟨hc0, hc1, -, -⟩ := HAu.out w1 HB1.out
    go_wp2_with fail
    go_at_call 26
    refine (HAc.out w1 HB1.out).mono ?_
    rintro e w2 ⟨rfl, hb2⟩
    obtain ⟨W3, hW3⟩ : ∃ W3, W3 = w2.alloc (.cells #[.int .u64 ((mskS (accS (auD d) n) : Nat) : Int)] 48) := ⟨_, rfl⟩
    have HB3 : Hid (Below W0.heap.size W0 W3) := Lib.hid (by rw [hW3]; exact (HB1.out.trans (hb2.mono HB1.out.size)).alloc (HB1.out.trans (hb2.mono HB1.out.size)).size _)
    have hcm : W3.cell? ⟨w2.heap.size, 0, none⟩ = some (.int .u64 ((mskS (accS (auD d) n) : Nat) : Int)) := (cell_of_row W3 w2.heap.size 0 _ _ (0, 0) (by rw [hW3]; exact heap_alloc_new w2 _)).trans rfl
    have HMm := Lib.hid (HMd.out W3 w2.heap.size HB3.out hcm)
    clear hc0 hc1 hb2 hcm
    go_upto_region 4 with fail
    rw [← hW3]
    clear hW3
    go_wp2_with fail
    go_at_call 42
    refine HMm.out.mono ?_
    rintro e w4 hcd
    obtain ⟨A1, p1, A2, p2, rfl, hoo, hb4⟩ := hcd.shape
    obtain ⟨x1, hx1⟩ : ∃ x, x = y.acc.length := ⟨_, rfl⟩
    obtain ⟨x2, hx2⟩ : ∃ x, x = y.nxt.length := ⟨_, rfl⟩
    rw [← hx1, ← hx2] at hoo ⊢
    have HO4 := Lib.hid hoo
    have HB4 := Lib.hid (HB3.out.trans (hb4.mono HB3.out.size))
    have hz3 := HB3.out.size
    have hyl := blk_lt HY.out
    obtain ⟨c0, c1, k0, k1⟩ := box2_facts ((HB4.out.block _ hyl).trans HY.out)
    obtain ⟨hcl, hsz, hot, hBl⟩ := put2 (k := .slice A1 x1 p1) (l := .slice A2 x2 p2) c0 c1
    obtain ⟨hr0, hr1⟩ := hcl
    have HOt := Lib.hid (And.intro hsz (And.intro hot hBl))
    clear hsz hot hBl hoo hb4 hcd hx1 hx2
    go_wp2_with fail
    refine bodyPost_ret (v := .tuple #[.agg #[.slice A1 x1 p1, .slice A2 x2 p2], .bool ok]) (by simp [results, Tryd.results11, go_sem, hr0, hr1]) rfl ?_
    have h0 := HB0.out.size
    exact ⟨_, _, rfl, HO4.out.mono (fun g hg => HOt.out.2.1 g (by have := hg.1; omega)) (fun g hg => ⟨by have := hg.1; omega, by rw [HOt.out.1]; exact hg.2⟩) (by rw [HOt.out.1]; exact Nat.le_refl _), HOt.out.2.2 _ _ (HB0.out.trans (HB4.out.mono h0)) (Nat.le_succ _)⟩
end Go.Proofs.YtlkhmpdncimnfaaDoor
