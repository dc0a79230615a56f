/-
  Texts of one proof, one behind the other.
-/
import Derived.DeepKeys5
import Derived.StillTailTactics
import Derived.Test.YtlkhmpdncimnfaaGreatDoorCompPack8

/-
  What the closures of impl.StarDfa answer, and impl.StarDfa.
-/
namespace Go.Proofs.YtlkhmpdncimnfaaGreatDoor
open Go.RowKit

set_option maxRecDepth 100000 in
set_option maxHeartbeats 3200000 in
theorem implStaT_any (bb bm n' : Nat) (ad' : Addr) (e : Nat) (aN' : Addr) (e' : Nat) (b : Au) (x : Bool × List Nat) (k : Nat) (w : World)
    (h' : AuB w bb n' ad' e aN' e' b) (hbn : b.n = n') (hx : okR n' x) (hk : k < 3) (hn' : n' ≤ 40) (hwb : ∀ q, q < n' → b.T q k < n')
    (hbm : w.cell? ⟨bm, 0, none⟩ = some (.int .u64 ((mskS (accS b n') : Nat) : Int))) (hTab : Tab w) :
    Calls Tryz.prog 80 #[.agg #[.bool x.1, .int .u64 ((mskS x.2 : Nat) : Int)], .int .i64 (k : Int), .pointer (some ⟨bb, 0, none⟩), .pointer (some ⟨bm, 0, none⟩)] w fun e w' => e = .returned (.agg #[.bool (starG b x k).1, .int .u64 ((mskS (starG b x k).2 : Nat) : Int)]) ∧ Below w.heap.size w w' := by
  obtain ⟨p, s⟩ := x
  obtain ⟨-, hs⟩ := hx
  have hs : ∀ q ∈ s, q < n' := hs
  obtain ⟨W0, hW0⟩ : ∃ W0, W0 = (w.alloc (.cells #[.bool p, .int .u64 ((mskS s : Nat) : Int)] 124)).alloc (.cells #[.bool false, .int .u64 0] 124) := ⟨_, rfl⟩
  have HB0 : Hid (Below w.heap.size w W0) := Lib.hid (by rw [hW0]; exact ((Below.refl _ _).alloc (Nat.le_refl _) _).alloc (by simp) _)
  have HX : Hid (W0.heap[w.heap.size]? = some (.cells #[.bool p, .int .u64 ((mskS s : Nat) : Int)] 124 (0, 0))) := Lib.hid (by rw [hW0]; exact (Below.heap_alloc _ _ _ (by simp)).trans (heap_alloc_new w _))
  have HY : Hid (W0.heap[w.heap.size + 1]? = some (.cells #[.bool false, .int .u64 0] 124 (0, 0))) := Lib.hid (by rw [hW0]; exact three2 w _ _ _ _)
  have HMv := Lib.hid (implMove_any (.slice (some ad') n' e) aN' n' e' k b s W0 hn' hk hs hwb (fun q hq => by
    obtain ⟨r, q', h1, h2⟩ := (h'.kept HB0.out).2.2.2 q hq
    exact ⟨r, q', h1, h2 k hk⟩) (hTab.kept HB0.out))
  have hmv : ∀ q ∈ moveS b s k, q < n' := fun q hq => by
    obtain ⟨p', h1, rfl⟩ := mem_move.1 hq
    exact hwb p' (hs p' h1)
  have h1 := mskS_64 (s := moveS b s k) (fun q hq => by have := hmv q hq; omega)
  have h2 := mskS_64 (s := accS b n') (fun q hq => by have := accS_lt hq; omega)
  have hany : anyS b (moveS b s k) = decide (mskS (moveS b s k) &&& mskS (accS b n') ≠ 0) := by rw [any_meets (by rw [hbn]; exact hmv), hbn]
  have HG : Hid (starG b (p, s) k = (false, if anyS b (moveS b s k) then putS (moveS b s k) 0 else moveS b s k)) := Lib.hid rfl
  have hor := or_one (a := mskS (moveS b s k)) (by omega)
  rw [msk_put0] at hor
  obtain ⟨m, hm⟩ : ∃ m, m = mskS s := ⟨_, rfl⟩
  obtain ⟨m2, hm2⟩ : ∃ m, m = mskS (moveS b s k) := ⟨_, rfl⟩
  obtain ⟨ma, hma⟩ : ∃ m, m = mskS (accS b n') := ⟨_, rfl⟩
  obtain ⟨m3, hm3⟩ : ∃ m, m = mskS (putS (moveS b s k) 0) := ⟨_, rfl⟩
  rw [← hm] at HX hW0 HMv ⊢
  rw [← hm2] at HMv h1 hany hor
  rw [← hma] at h2 hany hbm
  rw [← hm3] at hor
  have HM2 := Lib.hid hm2
  have HM3 := Lib.hid hm3
  have HMe := Lib.hid (fun V => implMeets_any m2 ma (by omega) (by omega) V)
  rw [← hany] at HMe
  obtain ⟨r, hr⟩ : ∃ r, r = anyS b (moveS b s k) := ⟨_, rfl⟩
  rw [← hr] at HMe HG
  have hb0 := (HB0.out.cell (cell_in (h'.1))).trans h'.1
  have hb1 := (HB0.out.cell (cell_in (h'.2.1))).trans h'.2.1
  obtain ⟨x0, x1, -, -⟩ := box2_facts HX.out
  have HBm := Lib.hid (fun (V : World) (hV : Below w.heap.size w V) => (hV.cell (cell_in hbm)).trans hbm)
  clear h' hs hwb hbm hTab hmv hm hm2 hm3 hma hr hany h1 h2 hbn
  go_enter Tryz.func80, Tryz.ntmps80
  go_upto_region 1 with fail
  rw [← hW0]
  clear hW0
  go_wp2_with fail
  go_at_call 72
  refine HMv.out.mono ?_
  rintro e1 w1 ⟨rfl, hb1'⟩
  have HB1 := Lib.hid (HB0.out.trans (hb1'.mono HB0.out.size))
  have hbm1 := HBm.out w1 HB1.out
  obtain ⟨c0, c1, k0, k1⟩ := box2_facts ((hb1'.block _ (blk_lt HY.out)).trans HY.out)
  clear hb1' hb0 hb1 x0 x1
  cases r with
  | true =>
    obtain ⟨hcl, hsz, hot, hBl⟩ := put2 (k := .bool false) (l := .int .u64 (m3 : Int)) c0 c1
    obtain ⟨hc0, hc1⟩ := hcl
    have HOt := Lib.hid hBl
    clear hsz hot hBl
    go_wp2_with (go_at_call 75; refine (HMe.out _).mono ?_; rintro e w' ⟨rfl, rfl⟩)
    refine bodyPost_ret (v := .agg #[.bool false, .int .u64 (m3 : Int)]) (by simp [results, Tryz.results80, go_sem, hc0, hc1]) rfl ?_
    exact ⟨by rw [HG.out, HM3.out]; rfl, HOt.out _ _ HB1.out (Nat.le_succ _)⟩
  | false =>
    obtain ⟨hcl, hsz, hot, hBl⟩ := put2 (k := .bool false) (l := .int .u64 (m2 : Int)) c0 c1
    obtain ⟨hc0, hc1⟩ := hcl
    have HOt := Lib.hid hBl
    clear hsz hot hBl hor
    go_wp2_with (go_at_call 75; refine (HMe.out _).mono ?_; rintro e w' ⟨rfl, rfl⟩)
    refine bodyPost_ret (v := .agg #[.bool false, .int .u64 (m2 : Int)]) (by simp [results, Tryz.results80, go_sem, hc0, hc1]) rfl ?_
    exact ⟨by rw [HG.out, HM2.out]; rfl, HOt.out _ _ HB1.out (Nat.le_succ _)⟩

set_option maxRecDepth 100000 in
set_option maxHeartbeats 1600000 in
theorem implStaA_any (bm n : Nat) (b : Au) (x : Bool × List Nat) (w : World) (hn : n ≤ 40) (hs : ∀ q ∈ x.2, q < n) (hbn : b.n = n) (hbm : w.cell? ⟨bm, 0, none⟩ = some (.int .u64 ((mskS (accS b n) : Nat) : Int))) :
    Calls Tryz.prog 81 #[.agg #[.bool x.1, .int .u64 ((mskS x.2 : Nat) : Int)], .pointer (some ⟨bm, 0, none⟩)] w fun e w' => e = .returned (.bool (starA b x)) ∧ Below w.heap.size w w' := by
  obtain ⟨p, s⟩ := x
  have hs : ∀ q ∈ s, q < n := hs
  obtain ⟨W0, hW0⟩ : ∃ W0, W0 = w.alloc (.cells #[.bool p, .int .u64 ((mskS s : Nat) : Int)] 124) := ⟨_, rfl⟩
  have HB0 : Hid (Below w.heap.size w W0) := Lib.hid (by rw [hW0]; exact (Below.refl _ _).alloc (Nat.le_refl _) _)
  obtain ⟨c0, c1, -, -⟩ := box2_facts (show W0.heap[w.heap.size]? = some (.cells #[.bool p, .int .u64 ((mskS s : Nat) : Int)] 124 (0, 0)) by rw [hW0]; exact heap_alloc_new w _)
  have hc := (HB0.out.cell (cell_in hbm)).trans hbm
  have h1 := mskS_64 (s := s) (fun q hq => by have := hs q hq; omega)
  have h2 := mskS_64 (s := accS b n) (fun q hq => by have := accS_lt hq; omega)
  have HR : Hid (starA b (p, s) = (p || decide (mskS s &&& mskS (accS b n) ≠ 0))) := Lib.hid (by rw [starA, any_meets (by rw [hbn]; exact hs), hbn])
  obtain ⟨m, hm⟩ : ∃ m, m = mskS s := ⟨_, rfl⟩
  obtain ⟨m2, hm2⟩ : ∃ m, m = mskS (accS b n) := ⟨_, rfl⟩
  rw [← hm, ← hm2] at HR
  rw [← hm] at hW0 c1 h1 ⊢
  rw [← hm2] at h2 hc
  have HM := Lib.hid (fun V => implMeets_any m m2 (by omega) (by omega) V)
  obtain ⟨r, hr⟩ : ∃ r, r = decide (m &&& m2 ≠ 0) := ⟨_, rfl⟩
  rw [← hr] at HM HR
  clear hbm hs hbn hm hm2 hr
  cases p with
  | true =>
    go_enter Tryz.func81, Tryz.ntmps81
    go_upto_region 1 with fail
    rw [← hW0]
    clear hW0
    go_wp2_with fail
    go_ret
    exact ⟨congrArg (fun b : Bool => Ending.returned (.bool b)) HR.out.symm, HB0.out⟩
  | false =>
    go_enter Tryz.func81, Tryz.ntmps81
    go_upto_region 1 with fail
    rw [← hW0]
    clear hW0
    go_wp2_with (go_at_call 75; refine (HM.out _).mono ?_; rintro e w' ⟨rfl, rfl⟩)
    go_ret
    exact ⟨congrArg (fun b : Bool => Ending.returned (.bool b)) HR.out.symm, HB0.out⟩
theorem enters_sta1 (args : Array Value) (w : World) : (callFunc 80 args).run Tryz.prog w = .ok (.enter 80 args) w := enters_of Tryz.func80 (by kernel_rfl) rfl args w
theorem enters_sta2 (args : Array Value) (w : World) : (callFunc 81 args).run Tryz.prog w = .ok (.enter 81 args) w := enters_of Tryz.func81 (by kernel_rfl) rfl args w
set_option maxRecDepth 100000 in
set_option maxHeartbeats 3200000 in
theorem implStar_any (va vn : Value) (d : Dx) (S : Nat → Prop) (y : Dx) (ok : Bool) (w : World) (h : DfaV w S va vn d) (hy : starR d y ok) (hTab : Tab w) :
    Calls Tryz.prog 41 #[.agg #[va, vn]] w (CopyDB y ok w) := by
  have hmf : ∀ (fn : Fn) (first cap : Array Value) (w : World), (Instr.makeFunc fn first cap).run Tryz.prog w = .ok (.func fn first cap) w := fun _ _ _ _ => rfl
  obtain ⟨W0, hW0⟩ : ∃ W0, W0 = (w.alloc (.cells #[va, vn] 29)).alloc (.cells #[.slice none 0 0, .slice none 0 0] 29) := ⟨_, rfl⟩
  have HB0 : Hid (Below w.heap.size w W0) := Lib.hid (by rw [hW0]; exact ((Below.refl _ _).alloc (Nat.le_refl _) _).alloc (by simp) _)
  have HX : Hid (W0.heap[w.heap.size]? = some (.cells #[va, vn] 29 (0, 0))) := Lib.hid (by rw [hW0]; exact (Below.heap_alloc _ _ _ (by simp)).trans (heap_alloc_new w _))
  have HY : Hid (W0.heap[w.heap.size + 1]? = some (.cells #[.slice none 0 0, .slice none 0 0] 29 (0, 0))) := Lib.hid (by rw [hW0]; exact three2 w _ _ _ _)
  have HV := Lib.hid (implValidD_any va vn d S W0 (h.kept HB0.out))
  obtain ⟨⟨A, c, rfl⟩, A', c', rfl⟩ := h.shape
  obtain ⟨hc0, hc1, -, -⟩ := box2_facts HX.out
  rw [hW0] at hc0 hc1
  cases hv : validD d with
  | false =>
    rw [hv] at HV
    unfold starR at hy
    rw [if_neg (by rw [hv]; decide)] at hy
    obtain ⟨rfl, rfl⟩ := hy
    clear h hv hTab
    go_enter Tryz.func41, Tryz.ntmps41
    go_wp2_with fail
    go_at_call 69
    rw [← hW0]
    refine HV.out.mono ?_
    rintro e w1 ⟨rfl, hb1⟩
    obtain ⟨c0, c1, k0, k1⟩ := box2_facts ((hb1.block _ (blk_lt HY.out)).trans HY.out)
    obtain ⟨hcl, hsz, hot, hBl⟩ := put2 (k := .slice none 0 0) (l := .slice none 0 0) c0 c1
    obtain ⟨hr0, hr1⟩ := hcl
    have HOt := Lib.hid hBl
    have HB1 := Lib.hid hb1
    clear hc0 hc1 hW0 hb1 hsz hot hBl
    go_wp2_with fail
    refine bodyPost_ret (v := .tuple #[.agg #[.slice none 0 0, .slice none 0 0], .bool false]) (by simp [results, Tryz.results41, go_sem, hr0, hr1]) rfl ?_
    exact ⟨_, _, rfl, DfaO.empty _ _, HOt.out _ _ (HB0.out.trans (HB1.out.mono HB0.out.size)) (Nat.le_succ _)⟩
  | true =>
    rw [hv] at HV
    unfold starR at hy
    rw [if_pos hv] at hy
    obtain ⟨hw, hn40, hnn, hl, ad, cc, aN, cN, hva, hvn, hA, hT⟩ := h.au hv
    injection hva with e1 e2 e3
    injection hvn with e4 e5 e6
    subst e1
    subst e3
    subst e4
    subst e6
    rw [e5] at HX hW0 HV hc1
    rw [e5]
    obtain ⟨n, hne⟩ : ∃ n, n = d.acc.length := ⟨_, rfl⟩
    rw [← hne] at HX hW0 HV hc0 hc1 hnn hA hT ⊢
    have HAu : Hid (∀ V, Below W0.heap.size W0 V → AuB V w.heap.size n ad c aN c' (auD d)) := Lib.hid (fun V hV => by
      have hb := HB0.out.trans (hV.mono HB0.out.size)
      obtain ⟨x0, x1, -, -⟩ := box2_facts ((hV.block _ (blk_lt HX.out)).trans HX.out)
      refine ⟨x0, x1, fun q hq => (hb.cell (cell_in (hA q hq))).trans (hA q hq), fun q hq => ?_⟩
      obtain ⟨r, q', h1, h2⟩ := hT q hq
      exact ⟨r, q', (hb.cell (cell_in h1)).trans h1, fun k hk => (hb.cell (cell_in (h2 k hk))).trans (h2 k hk)⟩)
    have hw2 : ∀ q k, q < n → k < 3 → (auD d).T q k < n := fun q k hq hk => by rw [← hnn] at hq ⊢; exact hw.2 q k hq hk
    have hn0 : 0 < n := by rw [← hnn]; exact hw.1
    have HAc := Lib.hid (fun (V : World) (hV : Below W0.heap.size W0 V) => implAccSt_any ad n c (.slice (some aN) n c') (auD d) V (by omega) (HAu.out V hV).2.2.1)
    have HTab := Lib.hid (fun (V : World) (hV : Below w.heap.size w V) => hTab.kept hV)
    have HMd : Hid (∀ (V : World) (bm : Nat), Below W0.heap.size W0 V → V.cell? ⟨bm, 0, none⟩ = some (.int .u64 ((mskS (accS (auD d) n) : Nat) : Int)) →
        Calls Tryz.prog 82 #[.agg #[.bool true, .int .u64 1], .func (.func 80) #[] #[.pointer (some ⟨w.heap.size, 0, none⟩), .pointer (some ⟨bm, 0, none⟩)], .func (.func 81) #[] #[.pointer (some ⟨bm, 0, none⟩)], .int .i64 400] V (CopyDB y ok V)) := Lib.hid (fun V bm hV hbm => by
      refine implMdR_any _ _ _ _ enters_sta1 enters_sta2 (starG (auD d)) (starA (auD d)) n 400 starS V (by omega) (by omega) (by omega) ⟨by simp [starS], fun q hq => by simp [starS] at hq; omega⟩ (fun x k hx hk => starG_ok hn0 (fun q hq => hw2 q k hq hk) hx) (fun U x k hU hx hk => ?_) (fun U x hU hx => ?_) y ok hy
      · exact implStaT_any w.heap.size bm n ad c aN c' (auD d) x k U (HAu.out U (hV.trans (hU.mono hV.size))) hnn hx hk (by omega) (fun q hq => hw2 q k hq hk) ((hU.cell (cell_in hbm)).trans hbm) (HTab.out U (HB0.out.trans ((hV.trans (hU.mono hV.size)).mono HB0.out.size)))
      · exact implStaA_any bm n (auD d) x U (by omega) hx.2 hnn ((hU.cell (cell_in hbm)).trans hbm))
    clear h hy hTab hv hw hn40 hnn hl hA hT e5 hne hw2 hn0
    go_enter Tryz.func41, Tryz.ntmps41
    go_wp2_with fail
    go_at_call 69
    rw [← hW0]
    refine HV.out.mono ?_
    rintro e w1 ⟨rfl, hb1⟩
    have HB1 := Lib.hid hb1
    clear hc0 hc1 hW0 hb1
    obtain ⟨hc0, hc1, -, -⟩ := HAu.out w1 HB1.out
    go_wp2_with fail
    go_at_call 73
    refine (HAc.out w1 HB1.out).mono ?_
    rintro e w2 ⟨rfl, hb2⟩
    obtain ⟨W3, hW3⟩ : ∃ W3, W3 = w2.alloc (.cells #[.int .u64 ((mskS (accS (auD d) n) : Nat) : Int)] 109) := ⟨_, rfl⟩
    have HB3 : Hid (Below W0.heap.size W0 W3) := Lib.hid (by rw [hW3]; exact (HB1.out.trans (hb2.mono HB1.out.size)).alloc (HB1.out.trans (hb2.mono HB1.out.size)).size _)
    have hcm : W3.cell? ⟨w2.heap.size, 0, none⟩ = some (.int .u64 ((mskS (accS (auD d) n) : Nat) : Int)) := (cell_of_row W3 w2.heap.size 0 _ _ (0, 0) (by rw [hW3]; exact heap_alloc_new w2 _)).trans rfl
    have HMm := Lib.hid (HMd.out W3 w2.heap.size HB3.out hcm)
    clear hc0 hc1 hb2 hcm
    go_upto_region 4 with fail
    rw [← hW3]
    clear hW3
    go_wp2_with fail
    go_at_call 82
    refine HMm.out.mono ?_
    rintro e w4 hcd
    obtain ⟨A1, p1, A2, p2, rfl, hoo, hb4⟩ := hcd.shape
    obtain ⟨x1, hx1⟩ : ∃ x, x = y.acc.length := ⟨_, rfl⟩
    obtain ⟨x2, hx2⟩ : ∃ x, x = y.nxt.length := ⟨_, rfl⟩
    rw [← hx1, ← hx2] at hoo ⊢
    have HO4 := Lib.hid hoo
    have HB4 := Lib.hid (HB3.out.trans (hb4.mono HB3.out.size))
    have hz3 := HB3.out.size
    have hyl := blk_lt HY.out
    obtain ⟨c0, c1, k0, k1⟩ := box2_facts ((HB4.out.block _ hyl).trans HY.out)
    obtain ⟨hcl, hsz, hot, hBl⟩ := put2 (k := .slice A1 x1 p1) (l := .slice A2 x2 p2) c0 c1
    obtain ⟨hr0, hr1⟩ := hcl
    have HOt := Lib.hid (And.intro hsz (And.intro hot hBl))
    clear hsz hot hBl hoo hb4 hcd hx1 hx2
    go_wp2_with fail
    refine bodyPost_ret (v := .tuple #[.agg #[.slice A1 x1 p1, .slice A2 x2 p2], .bool ok]) (by simp [results, Tryz.results41, go_sem, hr0, hr1]) rfl ?_
    have h0 := HB0.out.size
    exact ⟨_, _, rfl, HO4.out.mono (fun g hg => HOt.out.2.1 g (by have := hg.1; omega)) (fun g hg => ⟨by have := hg.1; omega, by rw [HOt.out.1]; exact hg.2⟩) (by rw [HOt.out.1]; exact Nat.le_refl _), HOt.out.2.2 _ _ (HB0.out.trans (HB4.out.mono h0)) (Nat.le_succ _)⟩
end Go.Proofs.YtlkhmpdncimnfaaGreatDoor

/-
  Pairs of states as the program lays them: their cells, their keys. Of no function of the program.
  What impl.explore answers over these: the automaton that a search in breadth numbers, or the word that too much was met.
-/
namespace Go.Proofs.YtlkhmpdncimnfaaGreatDoor
open Go.RowKit Go.Maps

theorem pairInfo : (Tryz.prog.info? 121).map (fun i => (i.zero, i.size, i.bytes)) = some (some (.agg #[.int .i64 0, .int .i64 0]), 2, 16) := by kernel_rfl
theorem laidOut_progP : laidOutB Tryz.prog = true := by kernel_rfl
theorem lawPair : Keyed Tryz.prog 121 := Keyed.of_law (deep_law_gate laidOut_progP (of_decide_eq_true (by kernel_rfl)) (of_decide_eq_true (by kernel_rfl)) (by kernel_rfl) (by kernel_rfl))
/-- A key. -/
def klP (x : Nat × Nat) : Lit := .string (keyBytes [.int .i64 (x.1 : Int), .int .i64 (x.2 : Int)])
def okP (Ma Mb : Nat) (x : Nat × Nat) : Prop := x.1 < Ma ∧ x.2 < Mb
theorem klP_key {Ma Mb : Nat} (ha : Ma ≤ 2000) (hb : Mb ≤ 2000) {x : Nat × Nat} (h : okP Ma Mb x) : keyOf Tryz.prog 121 (.agg #[.int .i64 (x.1 : Int), .int .i64 (x.2 : Int)]) = some (klP x) := by
  have h1 := klN_wf (x := x.1) (by have := h.1; omega)
  have h2 := klN_wf (x := x.2) (by have := h.2; omega)
  have hk : Tryz.prog.keyType 121 = true := by kernel_rfl
  have hc : Tryz.prog.cellsOf 121 = 2 := by kernel_rfl
  have hi : Tryz.prog.cellsOf 3 = 1 := by kernel_rfl
  have hsz : 121 < Tryz.prog.types.size := of_decide_eq_true (by kernel_rfl)
  obtain ⟨m, hm⟩ : ∃ m, Tryz.prog.types.size = m + 1 := ⟨Tryz.prog.types.size - 1, by omega⟩
  have hu := Tryz.underlying121
  have hv := Tryz.underlying3
  obtain ⟨P, hP⟩ : ∃ P, P = Tryz.prog := ⟨_, rfl⟩
  rw [← hP] at hk hc hi hm hu hv ⊢
  simp [keyOf, hu, hk, Value.formed, Program.keyLits, hc, hi, Value.cells, hm, hv, h1, h2, klP]
theorem klP_inj {Ma Mb : Nat} (ha : Ma ≤ 2000) (hb : Mb ≤ 2000) (x y : Nat × Nat) (hx : okP Ma Mb x) (hy : okP Ma Mb y) (h : klP x = klP y) : x = y := by
  have h1 := klP_key ha hb hx
  have h2 := klP_key ha hb hy
  rw [← h] at h2
  have h3 := lawPair.inj h1 h2
  have e1 : x.1 = y.1 ∧ x.2 = y.2 := by
    simp at h3
    omega
  exact Prod.ext e1.1 e1.2
/-- As cells. -/
def pairC (l : List (Nat × Nat)) : List Value := l.flatMap fun x => [.int .i64 (x.1 : Int), .int .i64 (x.2 : Int)]
theorem pairC_snoc (l : List (Nat × Nat)) (x : Nat × Nat) : pairC (l ++ [x]) = pairC l ++ [.int .i64 (x.1 : Int), .int .i64 (x.2 : Int)] := by simp [pairC]
theorem pairC_at : ∀ (l : List (Nat × Nat)) (i : Nat), i < l.length → (pairC l)[i * 2]? = some (.int .i64 (((l.getD i default)).1 : Int)) ∧ (pairC l)[i * 2 + 1]? = some (.int .i64 (((l.getD i default)).2 : Int))
  | [], i, h => absurd h (Nat.not_lt_zero _)
  | x :: l, 0, _ => ⟨rfl, rfl⟩
  | x :: l, i + 1, h => by
    have ih := pairC_at l i (by simpa using h)
    have e : pairC (x :: l) = .int .i64 (x.1 : Int) :: .int .i64 (x.2 : Int) :: pairC l := rfl
    rw [e, show (i + 1) * 2 = i * 2 + 1 + 1 by omega]
    simpa using ih

set_option maxRecDepth 100000 in
set_option maxHeartbeats 6400000 in
theorem implExpP_any (g1 g2 : Nat) (lb1 lb2 : Array Value) (eg1 : ∀ args w, (callFunc g1 args).run Tryz.prog w = .ok (.enter g1 args) w) (eg2 : ∀ args w, (callFunc g2 args).run Tryz.prog w = .ok (.enter g2 args) w)
    (T : Nat × Nat → Nat → Nat × Nat) (acc : Nat × Nat → Bool) (Ma Mb : Nat) (M : Nat) (x0 : Nat × Nat) (w : World) (ha : Ma ≤ 2000) (hb : Mb ≤ 2000) (hM : M ≤ 2000) (hM1 : 1 ≤ M) (h0 : okP Ma Mb x0) (hT : ∀ x k, okP Ma Mb x → k < 3 → okP Ma Mb (T x k))
    (H1 : ∀ (V : World) (x : Nat × Nat) (k : Nat), Below w.heap.size w V → okP Ma Mb x → k < 3 → Calls Tryz.prog g1 (#[.agg #[.int .i64 (x.1 : Int), .int .i64 (x.2 : Int)], .int .i64 (k : Int)] ++ lb1) V fun e w' => e = .returned (.agg #[.int .i64 (((T x k)).1 : Int), .int .i64 (((T x k)).2 : Int)]) ∧ Below V.heap.size V w')
    (H2 : ∀ (V : World) (x : Nat × Nat), Below w.heap.size w V → okP Ma Mb x → Calls Tryz.prog g2 (#[.agg #[.int .i64 (x.1 : Int), .int .i64 (x.2 : Int)]] ++ lb2) V fun e w' => e = .returned (.bool (acc x)) ∧ Below V.heap.size V w') :
    Calls Tryz.prog 104 #[.agg #[.int .i64 (x0.1 : Int), .int .i64 (x0.2 : Int)], .func (.func g1) #[] lb1, .func (.func g2) #[] lb2, .int .i64 (M : Int)] w (ExpPost x0 T acc M w) := by
  obtain ⟨i0, hi, hz0, hz1, hz2⟩ := info_parts pairInfo
  obtain ⟨b0, hbi, hb0, hb1, hb2⟩ := info_parts boolInfo
  obtain ⟨r0, hri, hr0, hr1, hr2⟩ := info_parts rowInfo3
  have hmm := @run_makeMap Tryz.prog
  have HIn : Hid (∀ x y, okP Ma Mb x → okP Ma Mb y → klP x = klP y → x = y) := Lib.hid (fun x y hx hy h => klP_inj ha hb x y hx hy h)
  have HKy : Hid (∀ x, okP Ma Mb x → keyOf Tryz.prog 121 (.agg #[.int .i64 (x.1 : Int), .int .i64 (x.2 : Int)]) = some (klP x)) := Lib.hid (fun x h => klP_key ha hb h)
  have HKeys : Hid (∀ i, (∀ j, j < i → j < (ords x0 T (3 * j)).length) → ∀ t, t ≤ 3 * i → ∀ x ∈ ords x0 T t, okP Ma Mb x) := Lib.hid (fun i ha t => ords_ok (Ok := okP Ma Mb) h0 hT ha t)
  have HTT := Lib.hid hT
  have HH1 := Lib.hid H1
  have HH2 := Lib.hid H2
  clear hT H1 H2
  obtain ⟨W2, hW2⟩ : ∃ W2, W2 = ((w.alloc (.cells #[.int .i64 (x0.1 : Int), .int .i64 (x0.2 : Int)] 121)).alloc (.cells #[.slice none 0 0, .slice none 0 0] 133)).alloc (.cells #[.slice none 0 0, .slice none 0 0] 133) := ⟨_, rfl⟩
  have HB2 : Hid (Below w.heap.size w W2) := Lib.hid (by rw [hW2]; exact (((Below.refl _ _).alloc (Nat.le_refl _) _).alloc (by simp) _).alloc (by simp; omega) _)
  have HZ2 : Hid (W2.heap.size = w.heap.size + 1 + 1 + 1) := Lib.hid (by rw [hW2]; simp)
  have HX2 : Hid (W2.heap[w.heap.size + 1]? = some (.cells #[.slice none 0 0, .slice none 0 0] 133 (0, 0)) ∧ W2.heap[w.heap.size + 1 + 1]? = some (.cells #[.slice none 0 0, .slice none 0 0] 133 (0, 0))) := Lib.hid (by
    rw [hW2]
    have h1 := heap_alloc_new (w.alloc (.cells #[.int .i64 (x0.1 : Int), .int .i64 (x0.2 : Int)] 121)) (.cells #[.slice none 0 0, .slice none 0 0] 133)
    have h2 := heap_alloc_new ((w.alloc (.cells #[.int .i64 (x0.1 : Int), .int .i64 (x0.2 : Int)] 121)).alloc (.cells #[.slice none 0 0, .slice none 0 0] 133)) (.cells #[.slice none 0 0, .slice none 0 0] 133)
    rw [World.size_alloc] at h1 h2
    rw [World.size_alloc] at h2
    exact ⟨(Below.heap_alloc _ _ _ (by simp)).trans h1, h2⟩)
  have HP2 : Hid (W2.heap[w.heap.size]? = some (.cells #[.int .i64 (x0.1 : Int), .int .i64 (x0.2 : Int)] 121 (0, 0))) := Lib.hid (by
    rw [hW2]
    exact (Below.heap_alloc _ _ _ (by simp; omega)).trans ((Below.heap_alloc _ _ _ (by simp)).trans (heap_alloc_new w _)))
  go_enter Tryz.func104, Tryz.ntmps104
  go_upto_region 2 with fail
  rw [← hW2]
  clear hW2
  have hk0 := HKy.out x0 h0
  have hown0 := World.ownsMap_made (H := Unit) W2 Tryz.prog 121 (plainElem Tryz.prog 3)
  have hpa : (W2.alloc (.map #[] 0)).heap[w.heap.size]? = some (.cells #[.int .i64 (x0.1 : Int), .int .i64 (x0.2 : Int)] 121 (0, 0)) := (Below.heap_alloc _ _ _ (by have := HZ2.out; omega)).trans HP2.out
  obtain ⟨p0, p1, -, -⟩ := box2_facts hpa
  have HPa := Lib.hid hpa
  clear hpa
  go_upto_region 3 with (refine wpList_insert_own _ rfl (.tmp 19) (.tmp 20) _ 162 rfl 121 3 lawPair Tryz.underlying162 _ W2.heap.size 0 _ rfl hown0 (by unfold maxLen; omega) _ _ _ rfl rfl hk0 _ [] (plainElem_int Tryz.underlying3 (a := 0) (by decide)) ?_; intro w3 hown3 hg3)
  have hp3 : w3.heap[w.heap.size]? = some (.cells #[.int .i64 (x0.1 : Int), .int .i64 (x0.2 : Int)] 121 (0, 0)) := (hg3.block _ (blk_lt HPa.out) (fun e => by injection e with e; have := HZ2.out; omega)).trans HPa.out
  obtain ⟨p2, p3, -, -⟩ := box2_facts hp3
  clear p0 p1 hp3
  go_wp2_with fail
  clear p2 p3
  obtain ⟨bM, hbM⟩ : ∃ bM, bM = W2.heap.size := ⟨_, rfl⟩
  rw [← hbM] at hown3 hg3 ⊢
  obtain ⟨W4, hW4⟩ : ∃ W4, W4 = w3.alloc (.cells #[.int .i64 (x0.1 : Int), .int .i64 (x0.2 : Int)] 121) := ⟨_, rfl⟩
  rw [← hW4]
  obtain ⟨B, hB⟩ : ∃ B, B = w.heap.size + 1 + 1 := ⟨_, rfl⟩
  rw [← hB] at HX2 HZ2 ⊢
  have HBe := Lib.hid hB
  have hmx : MapOf klP (okP Ma Mb) ((DataW.map []).put (klP x0) (.lit (.int .i64 0))) [x0] := (MapOf.nil klP (okP Ma Mb)).put HIn.out (fun x _ => by trivial) h0 (by simp)
  have HS4 : Hid (ExpS 121 2 B bM B (.slice none 0 0) (.slice none 0 0) (.slice (some ⟨w3.heap.size, 0, none⟩) 1 1) [] 0 [] 1 (pairC [x0]) 1 ((DataW.map []).put (klP x0) (.lit (.int .i64 0))) W4 ∧ Below B W2 W4) := Lib.hid (by
    have hg2 : W2.grownBy (W2.alloc (.map #[] 0)) none := World.grownBy_alloc _ _ _
    have hz := HZ2.out
    have hba : Below B W2 (W2.alloc (.map #[] 0)) := (Below.refl _ _).alloc (by omega) _
    have hb3 : Below B W2 w3 := hba.grown hg3 (by simp; omega) (fun k e => by cases e; omega)
    have hb4 : Below B W2 W4 := by rw [hW4]; exact hb3.alloc (by have := hb3.size; omega) _
    refine ⟨⟨⟨rfl, .inl ⟨rfl, rfl⟩⟩, ⟨rfl, .inl ⟨rfl, rfl⟩⟩, ?_, ?_, ?_, ⟨Nat.le_refl _, by omega⟩, by decide, by decide, by decide⟩, hb4⟩
    · rw [hW4]
      exact ⟨rfl, .inr ⟨w3.heap.size, 1, #[.int .i64 (x0.1 : Int), .int .i64 (x0.2 : Int)], rfl, by have := hb3.size; omega, heap_alloc_new w3 _, Nat.le_refl _, by decide, rfl, rfl⟩⟩
    · rw [hW4]
      exact hown3.alloc _
    · rw [hW4]
      have h1 := (hg3.block B (by simp; omega) (fun e => by injection e with e; omega)).trans ((Below.heap_alloc W2 _ B (by omega)).trans HX2.out.2)
      exact (Below.heap_alloc w3 _ B (blk_lt h1)).trans h1)
  have HM4 := Lib.hid hmx
  clear hown0 hown3 hg3 hW4 hmx hB hbM hk0
  have HE0 : Hid (ords x0 T (3 * 0) = [x0]) := Lib.hid rfl
  go_loopw [12, 13] (fun vo iv wr => ∃ (i : Nat) (va vr : Value) (D : DataW Unit), iv = .int .i64 i ∧ i ≤ M ∧ Hid ((ords x0 T (3 * i)).length ≤ M) ∧ Hid (Below B W2 wr) ∧ Hid (∀ j, j < i → j < (ords x0 T (3 * j)).length) ∧ Hid (ExpS 121 2 B bM B va vr vo ((List.range i).map fun j => acc (keyA x0 T j)) i (rowsC x0 T i) (ords x0 T (3 * i)).length (pairC (ords x0 T (3 * i))) (ords x0 T (3 * i)).length D wr ∧ MapOf klP (okP Ma Mb) D (ords x0 T (3 * i)))) (fun _ iv _ => M + 1 - (intOf iv).toNat)
  case atStart => exact ⟨0, _, _, _, rfl, Nat.zero_le _, Lib.hid hM1, Lib.hid HS4.out.2, Lib.hid (fun j hj => absurd hj (Nat.not_lt_zero _)), Lib.hid ⟨HS4.out.1, HM4.out⟩⟩
  case round =>
    obtain ⟨i, va, vr, D, rfl, hin, HLe, HBr, hon, HS⟩ := hrel
    clear HS4 HM4 HE0
    obtain ⟨l, hl⟩ : ∃ l, l = ords x0 T (3 * i) := ⟨_, rfl⟩
    rw [← hl] at HS
    have hll : l.length ≤ M := by rw [hl]; exact HLe.out
    have hl0 : 0 < l.length := by rw [hl]; exact ords_pos _
    obtain ⟨go, co, hvo, -, -⟩ := own_cell HS.out.1.ord hl0
    subst hvo
    have HL := Lib.hid hl
    by_cases hlt : i < l.length
    · have hi1 : i < (ords x0 T (3 * i)).length := by rw [← hl]; exact hlt
      have HON : Hid (∀ j, j < i + 1 → j < (ords x0 T (3 * j)).length) := Lib.hid (fun j hj => by
        rcases Nat.lt_or_eq_of_le (Nat.le_of_lt_succ hj) with h | h
        · exact hon.out j h
        · rw [h]; exact hi1)
      clear hl
      have hd : decide ((i : Int) < (l.length : Int)) = true := by simp; omega
      go_upto_region 9 with fail
      obtain ⟨bx, hbx⟩ : ∃ bx, bx = wr.heap.size := ⟨_, rfl⟩
      obtain ⟨V0, hV0⟩ : ∃ V0, V0 = wr.alloc (.cells #[.int .i64 0, .int .i64 0, .int .i64 0] 146) := ⟨_, rfl⟩
      rw [← hV0, ← hbx]
      obtain ⟨accs, hacc⟩ : ∃ accs, accs = (List.range i).map fun j => acc (keyA x0 T j) := ⟨_, rfl⟩
      obtain ⟨rows, hrows⟩ : ∃ rows, rows = rowsC x0 T i := ⟨_, rfl⟩
      rw [← hacc, ← hrows] at HS
      have HAc := Lib.hid (And.intro hacc hrows)
      have hal : accs.length = i := by rw [hacc]; simp
      have HAl := Lib.hid hal
      have HNx : Hid (ExpN B bM B va vr (.slice (some ⟨go, 0, none⟩) l.length co) bx) := Lib.hid (HS.out.1.fresh (by rw [hbx]; exact Nat.le_refl _))
      have HS0 : Hid (Below B W2 V0 ∧ (ExpS 121 2 B bM B va vr (.slice (some ⟨go, 0, none⟩) l.length co) accs i rows (ords x0 T (3 * i + 0)).length (pairC (ords x0 T (3 * i + 0))) (ords x0 T (3 * i + 0)).length D V0 ∧ MapOf klP (okP Ma Mb) D (ords x0 T (3 * i + 0))) ∧ Arr3 V0 bx (cutV (toA x0 T i) 0)) := Lib.hid (by
        rw [Nat.add_zero, ← HL.out]
        refine ⟨by rw [hV0]; exact HBr.out.alloc (Nat.le_of_lt HS.out.1.base) _, ⟨HS.out.1.below (by rw [hV0]; exact (Below.refl _ _).alloc (Nat.le_refl _) _), HS.out.2⟩, ?_⟩
        rw [hV0, hbx]
        exact heap_alloc_new wr _)
      clear hd hV0 hacc hrows hal HS hbx
      go_loopw [12, 30] (fun vo kv wq => ∃ (k : Nat) (D : DataW Unit), kv = .int .i64 k ∧ k ≤ 3 ∧ Hid ((ords x0 T (3 * i + k)).length ≤ M) ∧ Hid (Below B W2 wq ∧ (ExpS 121 2 B bM B va vr vo accs i rows (ords x0 T (3 * i + k)).length (pairC (ords x0 T (3 * i + k))) (ords x0 T (3 * i + k)).length D wq ∧ MapOf klP (okP Ma Mb) D (ords x0 T (3 * i + k))) ∧ Arr3 wq bx (cutV (toA x0 T i) k))) (fun _ kv _ => 3 - (intOf kv).toNat)
      case atStart => exact ⟨0, _, rfl, Nat.zero_le _, HLe, HS0⟩
      case round =>
        obtain ⟨k, Dk, rfl, hk, HLk, HQ⟩ := hrel
        clear HS0
        by_cases hk3 : k < 3
        · obtain ⟨st1, st2⟩ := keyA_step (s0 := x0) (g := T) hi1 hk3
          obtain ⟨hil, hkey⟩ := keyA_at (s0 := x0) (g := T) (t := 3 * i + k) hi1 (by omega)
          have hxM : okP Ma Mb (keyA x0 T i) := HKeys.out (i + 1) HON.out (3 * i) (by omega) _ (getD_mem hi1)
          obtain ⟨x, hx⟩ : ∃ x, x = keyA x0 T i := ⟨_, rfl⟩
          obtain ⟨lq, hlq⟩ : ∃ lq, lq = ords x0 T (3 * i + k) := ⟨_, rfl⟩
          rw [← hx, ← hlq] at st1 st2
          rw [← hlq] at HQ hil hkey
          rw [← hx] at hkey hxM
          have hlqM : lq.length ≤ M := by rw [hlq]; exact HLk.out
          have HLq := Lib.hid (And.intro hlq hx)
          have HLe2 := Lib.hid hlqM
          clear hlq hx
          obtain ⟨y, hy⟩ : ∃ y, y = T x k := ⟨_, rfl⟩
          have hyM : okP Ma Mb y := by rw [hy]; exact HTT.out x k hxM hk3
          rw [← hy] at st1 st2
          obtain ⟨gq, cq, hvq, -, hcq⟩ := own_cell HQ.out.2.1.1.ord (by omega)
          subst hvq
          have hpc := pairC_at lq i hil
          rw [hkey] at hpc
          have hci := (hcq (i * 2) (by omega)).trans hpc.1
          have hcj := (hcq (i * 2 + 1) (by omega)).trans hpc.2
          clear hpc
          have HC1 : Hid (Calls Tryz.prog g1 (#[.agg #[.int .i64 (x.1 : Int), .int .i64 (x.2 : Int)], .int .i64 (k : Int)] ++ lb1) wr fun e w' => e = .returned (.agg #[.int .i64 (y.1 : Int), .int .i64 (y.2 : Int)]) ∧ Below wr.heap.size wr w') := Lib.hid (by
            rw [hy]
            refine HH1.out wr x k (HB2.out.trans (HQ.out.1.mono ?_)) hxM hk3
            have := HBe.out
            omega)
          have HSt := Lib.hid (And.intro st1 st2)
          have s1 : (i : Int) < (lq.length : Int) := by omega
          have s2 : (0 : Int) ≤ (i : Int) := by omega
          have s3 : (k : Int) < 3 := by omega
          have s4 : (0 : Int) ≤ (k : Int) := by omega
          clear hcq st1 st2 hkey hy
          go_wp2_with fail
          refine HC1.out.mono ?_
          rintro e w4 ⟨rfl, hb4⟩
          clear hci hcj
          go_upto_region 12 with fail
          obtain ⟨be, hbe⟩ : ∃ be, be = w4.heap.size := ⟨_, rfl⟩
          obtain ⟨w5, hw5⟩ : ∃ w5, w5 = w4.alloc (.cells #[.int .i64 (y.1 : Int), .int .i64 (y.2 : Int)] 121) := ⟨_, rfl⟩
          rw [← hw5, ← hbe]
          have hb5 : Below wr.heap.size wr w5 := by rw [hw5]; exact hb4.alloc hb4.size _
          have HE5 : Hid (w5.heap[be]? = some (.cells #[.int .i64 (y.1 : Int), .int .i64 (y.2 : Int)] 121 (0, 0)) ∧ bM ≠ be) := Lib.hid (by
            rw [hw5, hbe]
            refine ⟨heap_alloc_new w4 _, fun e => ?_⟩
            have h1 := HQ.out.2.1.1.map.lt
            have h2 := hb4.size
            omega)
          obtain ⟨p0, p1, -, -⟩ := box2_facts HE5.out.1
          clear hb4 hbe hw5
          have HQ5 := Lib.hid (And.intro (HQ.out.1.trans (hb5.mono (Nat.le_trans (by have := HZ2.out; omega) HQ.out.1.size))) (And.intro (HQ.out.2.1.1.below hb5) (HQ.out.2.2.same (hb5.block _ HQ.out.2.2.lt))))
          have HMo := Lib.hid HQ.out.2.1.2
          obtain ⟨kf1, kf2⟩ := HQ5.out.2.2.facts hk3
          have hky := HKy.out y hyM
          clear hb5
          by_cases hyl : y ∈ lq
          · have hhas : Maps.has Dk (klP y) = true := by rw [(HMo.out.2 y hyM).1]; simpa using hyl
            have HHit := Lib.hid (And.intro ((HMo.out.2 y hyM).2 hyl) (HSt.out.1 hyl))
            clear hyl
            go_wp2_with (at_lookup; refine wpList_lookup_own_ok_int _ rfl (.tmp 41) (.tmp 42) 162 rfl 121 3 .i64 lawPair Tryz.underlying162 Tryz.underlying3 (zeroInt _) bM _ _ rfl HQ5.out.2.1.map _ _ rfl hky ?_; intro c hat hwc)
            have hc : c = ((toA x0 T i k : Nat) : Int) := by
              have h1 := HHit.out.1 (.lit (.int .i64 0))
              rw [hat] at h1
              rw [HHit.out.2.2]
              injection h1 with h1
              injection h1 with _ h1
            subst hc
            have HQ6 : Hid (Below B W2 (w5.setCell ⟨bx, k, none⟩ (.int .i64 ((toA x0 T i k : Nat) : Int))) ∧ (ExpS 121 2 B bM B va vr (.slice (some ⟨gq, 0, none⟩) lq.length cq) accs i rows (ords x0 T (3 * i + (k + 1))).length (pairC (ords x0 T (3 * i + (k + 1)))) (ords x0 T (3 * i + (k + 1))).length Dk (w5.setCell ⟨bx, k, none⟩ (.int .i64 ((toA x0 T i k : Nat) : Int))) ∧ MapOf klP (okP Ma Mb) Dk (ords x0 T (3 * i + (k + 1)))) ∧ Arr3 (w5.setCell ⟨bx, k, none⟩ (.int .i64 ((toA x0 T i k : Nat) : Int))) bx (cutV (toA x0 T i) (k + 1))) := Lib.hid (by
              have hN := HNx.out
              rw [HHit.out.2.1]
              refine ⟨below_set HQ5.out.1 hN.2.2.2.2.2 _, ⟨HQ5.out.2.1.set ⟨hN.1, hN.2.1, fun e => ?_, hN.2.2.2.1, hN.2.2.2.2.1, hN.2.2.2.2.2⟩ _, HMo.out⟩, HQ5.out.2.2.set hk3 (cutV_step _ k).1 (fun j _ hj => (cutV_step _ k).2 j hj)⟩
              obtain ⟨cur, hh⟩ := blk_ofz HQ5.out.2.1.ord e
              exact blk_ne hh HQ5.out.2.2 (by decide) rfl)
            clear kf1 kf2 hat hhas hwc p0 p1
            go_wp2_with fail
            go_roundw
            case rel => exact ⟨k + 1, Dk, by go_num, by omega, Lib.hid (by rw [HHit.out.2.1]; exact HLe2.out), HQ6⟩
            case measure => simp [intOf]; omega
          · have hhas : Maps.has Dk (klP y) = false := by rw [(HMo.out.2 y hyM).1]; simpa using hyl
            have HMiss := Lib.hid (And.intro hyl (HSt.out.2 hyl))
            clear hyl
            by_cases hfull : lq.length = M
            · have hcmp : ((lq.length : Int) == (M : Int)) = true := by simp; omega
              have HBig := Lib.hid (exp_big (M := M) HON.out hk3 (by rw [HMiss.out.2.1, List.length_append, hfull]; rfl))
              obtain ⟨c0, c1, k0, k1⟩ := box2_facts ((HQ5.out.1.block _ (by have := HBe.out; omega)).trans HX2.out.1)
              obtain ⟨hcl, hsz, hot, hBl⟩ := put2 (k := .slice none 0 0) (l := .slice none 0 0) c0 c1
              obtain ⟨hc0, hc1⟩ := hcl
              have HOt := Lib.hid (And.intro HQ5.out.1 hBl)
              clear hsz hot hBl kf1 kf2
              go_wp2_with (at_lookup; refine wpList_lookup_own_ok_int _ rfl (.tmp 41) (.tmp 42) 162 rfl 121 3 .i64 lawPair Tryz.underlying162 Tryz.underlying3 (zeroInt _) bM _ _ rfl HQ5.out.2.1.map _ _ rfl hky ?_; intro c hat hwc)
              refine bodyPost_ret (v := .tuple #[.agg #[.slice none 0 0, .slice none 0 0], .bool false]) (by simp [results, Tryz.results104, go_sem, hc0, hc1]) rfl ?_
              exact .inr ⟨HBig.out, rfl, HOt.out.2 _ _ (HB2.out.trans (HOt.out.1.mono (by have := HBe.out; omega))) (Nat.le_succ _)⟩
            have hcmp : ((lq.length : Int) == (M : Int)) = false := by simp; omega
            have hroom : lq.length + 1 ≤ M := by omega
            have HRoom := Lib.hid hroom
            clear hfull
            go_upto_region 17 with (at_lookup; refine wpList_lookup_own_ok_int _ rfl (.tmp 41) (.tmp 42) 162 rfl 121 3 .i64 lawPair Tryz.underlying162 Tryz.underlying3 (zeroInt _) bM _ _ rfl HQ5.out.2.1.map _ _ rfl hky ?_; intro c hat hwc)
            go_upto_region 18 with (at_mapUpdate; refine wpList_mapUpdate_own _ rfl (.tmp 55) (.tmp 56) (.tmp 57) 162 rfl 121 3 lawPair Tryz.underlying162 _ bM lq.length Dk rfl HQ5.out.2.1.map (by unfold maxLen; omega) _ _ _ rfl rfl hky _ [] (plainElem_int Tryz.underlying3 (klN_wf (x := lq.length) (by omega))) ?_; intro w6 hown6 hg6)
            have HQ6 := Lib.hid (HQ5.out.2.1.map_put hown6 hg6)
            have HA6 : Hid (Below B W2 w6 ∧ Arr3 w6 bx (cutV (toA x0 T i) k)) := Lib.hid ⟨HQ5.out.1.grown hg6 (Nat.le_of_lt HQ5.out.2.1.base) (fun j e => by injection e with e; rw [← e]; exact HQ5.out.2.1.low.2), HQ5.out.2.2.same (hg6.block bx HQ5.out.2.2.lt (fun e => HNx.out.2.2.2.1 (by injection e with e; exact e.symm)))⟩
            have hbw6 : B ≤ w6.heap.size := Nat.le_of_lt HQ6.out.base
            have HMp := Lib.hid (HMo.out.put HIn.out (fun x _ => by trivial) hyM HMiss.out.1)
            obtain ⟨p4, p5, -, -⟩ := box2_facts ((hg6.block be (blk_lt HE5.out.1) (fun e => HE5.out.2 (by injection e with e; exact e.symm))).trans HE5.out.1)
            clear hown6 hg6 hat hwc hhas kf1 kf2 p0 p1
            go_wp2_with (at_builtin; refine wpList_append_own_at _ rfl (.tmp 58) (.tmp 60) 163 rfl B 121 i0 (.agg #[.int .i64 0, .int .i64 0]) 2 16 Tryz.underlying163 hi hz0 hz1 hz2 rfl (by decide) _ _ _ rfl (HQ6.out.ord.alloc _) ⟨w6.heap.size, 0, none⟩ 1 1 [.int .i64 (y.1 : Int), .int .i64 (y.2 : Int)] rfl rfl (newB2 _ _ _ _) (by simp [Value.oneCell']) (by unfold maxLen; omega) (by omega) (by simp; omega) ?_)
            intro v' w7 hown' hgrow hnil hat
            have HQ7 : Hid (ExpS 121 2 B bM B va vr v' accs i rows (ords x0 T (3 * i + (k + 1))).length (pairC (ords x0 T (3 * i + (k + 1)))) (ords x0 T (3 * i + (k + 1))).length (Dk.put (klP y) (.lit (.int .i64 ((lq.length : Nat) : Int)))) w7) := Lib.hid (by
              have h1 := (HQ6.out.below ((Below.refl _ _).alloc (Nat.le_refl _) (.cells #[.int .i64 (y.1 : Int), .int .i64 (y.2 : Int)] 121))).ord_push hown' hgrow
              rw [HMiss.out.2.1]
              rw [pairC_snoc, List.length_append]
              exact h1)
            have HA7 : Hid (Below B W2 w7 ∧ Arr3 w7 bx (cutV (toA x0 T i) k)) := Lib.hid (by
              refine ⟨(HA6.out.1.alloc hbw6 (.cells #[.int .i64 (y.1 : Int), .int .i64 (y.2 : Int)] 121)).grown hgrow (by simp; omega) (fun j e => (HQ6.out.ord.lt j e).1), ?_⟩
              have h1 : Arr3 (w6.alloc (.cells #[.int .i64 (y.1 : Int), .int .i64 (y.2 : Int)] 121)) bx (cutV (toA x0 T i) k) := HA6.out.2.same (Below.heap_alloc _ _ _ HA6.out.2.lt)
              refine h1.same (hgrow.block bx h1.lt (fun e => ?_))
              obtain ⟨cur, hh⟩ := blk_ofz HQ6.out.ord e.symm
              exact blk_ne hh HA6.out.2 (by decide) rfl)
            obtain ⟨kf1, kf2⟩ := HA7.out.2.facts hk3
            clear hown' hgrow hnil hat p4 p5
            have HQ8 : Hid (Below B W2 (w7.setCell ⟨bx, k, none⟩ (.int .i64 ((lq.length : Nat) : Int))) ∧ (ExpS 121 2 B bM B va vr v' accs i rows (ords x0 T (3 * i + (k + 1))).length (pairC (ords x0 T (3 * i + (k + 1)))) (ords x0 T (3 * i + (k + 1))).length (Dk.put (klP y) (.lit (.int .i64 ((lq.length : Nat) : Int)))) (w7.setCell ⟨bx, k, none⟩ (.int .i64 ((lq.length : Nat) : Int))) ∧ MapOf klP (okP Ma Mb) (Dk.put (klP y) (.lit (.int .i64 ((lq.length : Nat) : Int)))) (ords x0 T (3 * i + (k + 1)))) ∧ Arr3 (w7.setCell ⟨bx, k, none⟩ (.int .i64 ((lq.length : Nat) : Int))) bx (cutV (toA x0 T i) (k + 1))) := Lib.hid (by
              have hN := HNx.out
              refine ⟨below_set HA7.out.1 hN.2.2.2.2.2 _, ⟨HQ7.out.set ⟨hN.1, hN.2.1, fun e => ?_, hN.2.2.2.1, hN.2.2.2.2.1, hN.2.2.2.2.2⟩ _, by rw [HMiss.out.2.1]; exact HMp.out⟩, HA7.out.2.set hk3 ?_ (fun j _ hj => (cutV_step _ k).2 j hj)⟩
              · obtain ⟨cur, hh⟩ := blk_ofz HQ7.out.ord e
                exact blk_ne hh HA7.out.2 (by decide) rfl
              · rw [(cutV_step _ k).1, HMiss.out.2.2])
            go_wp2_with fail
            go_roundw
            case rel => exact ⟨k + 1, _, by go_num, by omega, Lib.hid (by rw [HMiss.out.2.1, List.length_append]; exact HRoom.out), HQ8⟩
            case measure => simp [intOf]; omega
        · obtain rfl : k = 3 := by omega
          obtain ⟨hil, hkey⟩ := keyA_at (s0 := x0) (g := T) (t := 3 * i + 3) hi1 (by omega)
          have hxM : okP Ma Mb (keyA x0 T i) := HKeys.out (i + 1) HON.out (3 * i) (by omega) _ (getD_mem hi1)
          obtain ⟨x, hx⟩ : ∃ x, x = keyA x0 T i := ⟨_, rfl⟩
          obtain ⟨lq, hlq⟩ : ∃ lq, lq = ords x0 T (3 * i + 3) := ⟨_, rfl⟩
          rw [← hlq] at HQ hil hkey
          rw [← hx] at hkey hxM
          have hlqM : lq.length ≤ M := by rw [hlq]; exact HLk.out
          have HLq := Lib.hid (And.intro hlq hx)
          have HLe2 := Lib.hid hlqM
          clear hlq hx
          obtain ⟨gq, cq, hvq, -, hcq⟩ := own_cell HQ.out.2.1.1.ord (by omega)
          subst hvq
          have hpc := pairC_at lq i hil
          rw [hkey] at hpc
          have hci := (hcq (i * 2) (by omega)).trans hpc.1
          have hcj := (hcq (i * 2 + 1) (by omega)).trans hpc.2
          clear hpc
          obtain ⟨b, hb⟩ : ∃ b, b = acc x := ⟨_, rfl⟩
          have HC2 : Hid (Calls Tryz.prog g2 (#[.agg #[.int .i64 (x.1 : Int), .int .i64 (x.2 : Int)]] ++ lb2) wr.drew fun e w' => e = .returned (.bool b) ∧ Below wr.drew.heap.size wr.drew w') := Lib.hid (by
            rw [hb]
            refine HH2.out wr.drew x ((HB2.out.trans (HQ.out.1.mono ?_)).drew) hxM
            have := HBe.out
            omega)
          have HBb' := Lib.hid hb
          have s1 : (i : Int) < (lq.length : Int) := by omega
          have s2 : (0 : Int) ≤ (i : Int) := by omega
          have hal : accs.length ≤ 2000 := by rw [HAl.out]; omega
          have hbwr : B ≤ wr.heap.size := Nat.le_of_lt HQ.out.2.1.1.base
          have HQd := Lib.hid (HQ.out.2.1.1.below (Below.refl _ _).drew)
          obtain ⟨e0, -, e2, -⟩ := box2_facts HQ.out.2.1.1.box
          obtain ⟨e4, -, e6, -⟩ := box2_facts HQd.out.box
          obtain ⟨Aa, qa, hva⟩ := (RowO.of_owns HQ.out.2.1.1.acc (by omega)).row.shape
          rw [bools_length] at hva
          subst hva
          clear hcq hkey hb
          go_upto_region 21 with fail
          go_cut [] from 66 to 76 (fun wc => ∃ va2, Hid (ExpS 121 2 B bM B va2 vr (.slice (some ⟨gq, 0, none⟩) lq.length cq) (accs ++ [b]) i rows lq.length (pairC lq) lq.length Dk wc) ∧ Hid (Below B W2 wc ∧ Arr3 wc bx (cutV (toA x0 T i) 3)))
          case first =>
            go_region_law (first
              | (refine step_call_val rfl (.tmp 68) _ _ rfl g2 lb2 (by simp [Act.eval]) eg2 #[.agg #[.int .i64 (x.1 : Int), .int .i64 (x.2 : Int)]] (by simp [Act.eval]) HC2.out ?_; rintro e w1 ⟨rfl, hb1⟩; have HO1 := Lib.hid (HQd.out.below hb1); have HA1 := Lib.hid (And.intro (HQ.out.1.drew.trans (hb1.mono (by show B ≤ wr.heap.size; omega))) (HQ.out.2.2.same (hb1.block bx HQ.out.2.2.lt))); obtain ⟨l0, -, l2, -⟩ := box2_facts HO1.out.box; have HO1a := Lib.hid (HO1.out.below ((Below.refl _ _).alloc (Nat.le_refl _) (.cells #[.bool b] 4))); obtain ⟨l4, -, l6, -⟩ := box2_facts HO1a.out.box; have hbw1 : B ≤ w1.heap.size := Nat.le_of_lt HO1.out.base; clear hb1; refine ⟨_, rfl, ?_⟩)
              | (refine step_append_own_at rfl (.tmp 67) (.tmp 74) 26 rfl B 4 b0 (.bool false) 1 1 Tryz.underlying26 hbi hb0 hb1 hb2 rfl (by decide) _ _ _ rfl (HO1.out.acc.alloc _) ⟨w1.heap.size, 0, none⟩ 1 1 [.bool b] rfl rfl (cell_one_new w1 _ _) (by simp [Value.oneCell']) (by unfold maxLen; omega) (by omega) (by simp; omega) ?_; intro v' w9 hown' hgrow hat; obtain ⟨g', cap', rfl⟩ := own_succ hown'; have HB9 := Lib.hid (((HA1.out.1.alloc hbw1 (.cells #[.bool b] 4)).grown hgrow (by simp; omega) (fun g e => (HO1.out.acc.lt g e).1)).setCell (p := ⟨B, 0, none⟩) (Nat.le_refl _) (.slice (some ⟨g', 0, none⟩) (accs.length + 1) cap')); obtain ⟨z1, z2, HQ9⟩ := HO1a.out.acc_push hown' hgrow; obtain ⟨z0, z1⟩ := z1; have HQ9 := Lib.hid HQ9; have HG9 := Lib.hid hgrow))
            all_goals
              have HX9 : Hid (Arr3 (w9.setCell ⟨B, 0, none⟩ (.slice (some ⟨g', 0, none⟩) (accs.length + 1) cap')) bx (cutV (toA x0 T i) 3)) := Lib.hid (by
                have hxa : Arr3 (w1.alloc (.cells #[.bool b] 4)) bx (cutV (toA x0 T i) 3) := HA1.out.2.same (Below.heap_alloc _ _ _ HA1.out.2.lt)
                refine (hxa.same (HG9.out.block bx hxa.lt (fun e => HNx.out.1 ?_))).same (Below.heap_setCell _ _ _ _ (fun e => HNx.out.2.2.2.2.1 (Eq.symm e)))
                exact e.symm)
              clear hown' hgrow hat z1 z2 l0 l2 l4 l6 e0 e2 e4 e6
              go_wp2_with fail
              go_meet
              exact ⟨_, HQ9, Lib.hid ⟨HB9.out, HX9.out⟩⟩
          case rest =>
            obtain ⟨va2, HQ9, HA9⟩ := hcut
            clear e0 e2 e4 e6 hci hcj
            have hbw9 : B ≤ wc.heap.size := Nat.le_of_lt HQ9.out.base
            obtain ⟨-, e1, -, e3⟩ := box2_facts HQ9.out.box
            have hx3 : Bx3 wc bx (.int .i64 ((toA x0 T i 0 : Nat) : Int)) (.int .i64 ((toA x0 T i 1 : Nat) : Int)) (.int .i64 ((toA x0 T i 2 : Nat) : Int)) 146 := HA9.out.2
            obtain ⟨⟨c0, c1, c2⟩, -⟩ := hx3.facts
            clear hx3
            obtain ⟨t0, ht0⟩ : ∃ y : Int, y = ((toA x0 T i 0 : Nat) : Int) := ⟨_, rfl⟩
            obtain ⟨t1, ht1⟩ : ∃ y : Int, y = ((toA x0 T i 1 : Nat) : Int) := ⟨_, rfl⟩
            obtain ⟨t2, ht2⟩ : ∃ y : Int, y = ((toA x0 T i 2 : Nat) : Int) := ⟨_, rfl⟩
            rw [← ht0] at c0
            rw [← ht1] at c1
            rw [← ht2] at c2
            have HRw : Hid (rows ++ [.int .i64 t0, .int .i64 t1, .int .i64 t2] = rowsC x0 T (i + 1)) := Lib.hid (by rw [rowsC_succ, HAc.out.2, ht0, ht1, ht2]; rfl)
            clear ht0 ht1 ht2
            go_wp2_with (at_builtin; refine wpList_append_own_at _ rfl (.tmp 78) (.tmp 80) 131 rfl B 146 r0 (.agg #[.int .i64 0, .int .i64 0, .int .i64 0]) 3 24 Tryz.underlying131 hri hr0 hr1 hr2 rfl (by decide) _ _ _ rfl (HQ9.out.row.alloc _) ⟨wc.heap.size, 0, none⟩ 1 1 [.int .i64 t0, .int .i64 t1, .int .i64 t2] rfl rfl (newB3 wc _ _ _ _) (by simp [Value.oneCell']) (by unfold maxLen; omega) (by omega) (by simp; omega) ?_)
            intro v' w9 hown' hgrow hnil hat
            obtain ⟨gn, capn, rfl⟩ := own_succ hown'
            obtain ⟨⟨z0, z1⟩, z2, HQb⟩ := (HQ9.out.below ((Below.refl _ _).alloc (Nat.le_refl _) (.cells #[.int .i64 t0, .int .i64 t1, .int .i64 t2] 146))).row_push hown' hgrow
            rw [HRw.out] at HQb
            have HQb := Lib.hid HQb
            have HBb := Lib.hid (((HA9.out.1.alloc hbw9 (.cells #[.int .i64 t0, .int .i64 t1, .int .i64 t2] 146)).grown hgrow (by simp; omega) (fun g e => (HQ9.out.row.lt g e).1)).setCell (p := ⟨B, 1, none⟩) (Nat.le_refl _) (.slice (some ⟨gn, 0, none⟩) (i + 1) capn))
            have HA1 : Hid (accs ++ [b] = (List.range (i + 1)).map fun j => acc (keyA x0 T j)) := Lib.hid (by rw [List.range_succ, List.map_append, HAc.out.1, HBb'.out, HLq.out.2]; rfl)
            rw [HA1.out] at HQb
            have HMk := Lib.hid HQ.out.2.1.2
            clear hown' hgrow hnil hat
            go_wp2_with fail
            go_roundw
            case rel => exact ⟨i + 1, _, _, Dk, by go_num, by omega, Lib.hid (by rw [show 3 * (i + 1) = 3 * i + 3 by omega]; exact HLk.out), HBb, HON, by
              rw [show 3 * (i + 1) = 3 * i + 3 by omega, ← HLq.out.1]
              exact Lib.hid ⟨HQb.out, HMk.out⟩⟩
            case measure => simp [intOf]; omega
    · have hE : Ends x0 T i := ⟨hon.out, by rw [← hl]; omega⟩
      have hEl := hE.length
      have hiM : i ≤ M := by rw [← hEl]; exact HLe.out
      have hi0 := hE.pos
      have HE := Lib.hid hE
      obtain ⟨ga, ca, rfl, hga, hca⟩ := own_cell HS.out.1.acc (by simp; omega)
      obtain ⟨gr, cr, rfl, hgr, hcr⟩ := own_cell HS.out.1.row hi0
      have HAu : Hid (∀ V : World, (∀ g, g ≠ w.heap.size + 1 → V.heap[g]? = wr.heap[g]?) → AutoV V (.slice (some ⟨ga, 0, none⟩) i ca) (.slice (some ⟨gr, 0, none⟩) i cr) (found x0 T acc i)) := Lib.hid (fun V hV => ⟨ga, ca, gr, cr, rfl, rfl, fun q hq => by
          have hq' : q < i := hq
          have hBe := HBe.out
          rw [World.cell?_of_block (w := wr) (a := ⟨ga, q, none⟩) (hV ga (by omega))]
          rw [hca q (by simp; omega), (found_keyA hE acc hq').1]
          simp [bools, hq'], fun q hq k hk => by
          have hq' : q < i := hq
          have hBe := HBe.out
          rw [World.cell?_of_block (w := wr) (a := ⟨gr, q * 3 + k, none⟩) (hV gr (by omega))]
          rw [hcr (q * 3 + k) (by omega), rowsC_at i q k hq' hk, (found_keyA hE acc hq').2 k hk]⟩)
      obtain ⟨e0, e1, -, -⟩ := box2_facts HS.out.1.box
      have hln : ((List.range i).map fun j => acc (keyA x0 T j)).length = i := by simp
      rw [hln] at e0
      have hyb := (HBr.out.block _ (by have := HBe.out; omega)).trans HX2.out.1
      obtain ⟨c0, c1, k0, k1⟩ := box2_facts hyb
      have hd : decide ((i : Int) < (l.length : Int)) = false := by simp; omega
      obtain ⟨hcl, hsz, hot, hBl⟩ := put2 (k := .slice (some ⟨ga, 0, none⟩) i ca) (l := .slice (some ⟨gr, 0, none⟩) i cr) c0 c1
      obtain ⟨hc0, hc1⟩ := hcl
      have HOt := Lib.hid (And.intro hsz (And.intro hot hBl))
      clear hsz hot hBl hyb hl hca hcr hln hE hEl hga hgr
      go_wp2_with fail
      refine bodyPost_ret (v := .tuple #[.agg #[.slice (some ⟨ga, 0, none⟩) i ca, .slice (some ⟨gr, 0, none⟩) i cr], .bool true]) (by simp [results, Tryz.results104, go_sem, hc0, hc1]) rfl ?_
      exact .inl ⟨i, _, _, HE.out, hiM, rfl, HAu.out _ HOt.out.2.1, HOt.out.2.2 _ _ (HB2.out.trans (HBr.out.mono (by have := HBe.out; omega))) (Nat.le_succ _)⟩
end Go.Proofs.YtlkhmpdncimnfaaGreatDoor

namespace Go.Proofs.YtlkhmpdncimnfaaGreatDoor
open Go.RowKit

set_option maxRecDepth 100000 in
set_option maxHeartbeats 3200000 in
theorem implMdP_any (g1 g2 : Nat) (lb1 lb2 : Array Value) (eg1 : ∀ args w, (callFunc g1 args).run Tryz.prog w = .ok (.enter g1 args) w) (eg2 : ∀ args w, (callFunc g2 args).run Tryz.prog w = .ok (.enter g2 args) w)
    (T : Nat × Nat → Nat → Nat × Nat) (acc : Nat × Nat → Bool) (Ma Mb : Nat) (M : Nat) (x0 : Nat × Nat) (w : World) (ha : Ma ≤ 2000) (hb : Mb ≤ 2000) (hM : M ≤ 2000) (hM1 : 1 ≤ M) (h0 : okP Ma Mb x0) (hT : ∀ x k, okP Ma Mb x → k < 3 → okP Ma Mb (T x k))
    (H1 : ∀ (V : World) (x : Nat × Nat) (k : Nat), Below w.heap.size w V → okP Ma Mb x → k < 3 → Calls Tryz.prog g1 (#[.agg #[.int .i64 (x.1 : Int), .int .i64 (x.2 : Int)], .int .i64 (k : Int)] ++ lb1) V fun e w' => e = .returned (.agg #[.int .i64 (((T x k)).1 : Int), .int .i64 (((T x k)).2 : Int)]) ∧ Below V.heap.size V w')
    (H2 : ∀ (V : World) (x : Nat × Nat), Below w.heap.size w V → okP Ma Mb x → Calls Tryz.prog g2 (#[.agg #[.int .i64 (x.1 : Int), .int .i64 (x.2 : Int)]] ++ lb2) V fun e w' => e = .returned (.bool (acc x)) ∧ Below V.heap.size V w')
    (y : Dx) (ok : Bool) (hy : srchR M x0 T acc y ok) :
    Calls Tryz.prog 96 #[.agg #[.int .i64 (x0.1 : Int), .int .i64 (x0.2 : Int)], .func (.func g1) #[] lb1, .func (.func g2) #[] lb2, .int .i64 (M : Int)] w (CopyDB y ok w) := by
  obtain ⟨W0, hW0⟩ : ∃ W0, W0 = (w.alloc (.cells #[.int .i64 (x0.1 : Int), .int .i64 (x0.2 : Int)] 121)).alloc (.cells #[.slice none 0 0, .slice none 0 0] 29) := ⟨_, rfl⟩
  have HB0 : Hid (Below w.heap.size w W0) := Lib.hid (by rw [hW0]; exact ((Below.refl _ _).alloc (Nat.le_refl _) _).alloc (by simp) _)
  have HY : Hid (W0.heap[w.heap.size + 1]? = some (.cells #[.slice none 0 0, .slice none 0 0] 29 (0, 0))) := Lib.hid (by rw [hW0]; exact three2 w _ _ _ _)
  have HEx := Lib.hid (implExpP_any g1 g2 lb1 lb2 eg1 eg2 T acc Ma Mb M x0 W0 ha hb hM hM1 h0 hT (fun V x k hV hx hk => H1 V x k (HB0.out.trans (hV.mono HB0.out.size)) hx hk) (fun V x hV hx => H2 V x (HB0.out.trans (hV.mono HB0.out.size)) hx))
  have HYy := Lib.hid hy
  obtain ⟨q0, q1, -, -⟩ := box2_facts (show W0.heap[w.heap.size]? = some (.cells #[.int .i64 (x0.1 : Int), .int .i64 (x0.2 : Int)] 121 (0, 0)) by rw [hW0]; exact (Below.heap_alloc _ _ _ (by simp)).trans (heap_alloc_new w _))
  rw [hW0] at q0 q1
  clear hy hT H1 H2 h0 hM1
  go_enter Tryz.func96, Tryz.ntmps96
  go_wp2_with fail
  go_at_call 104
  rw [← hW0]
  refine HEx.out.mono ?_
  rintro e w1 (⟨N, va2, vr2, hE, hN, rfl, hau, hb1⟩ | ⟨hno, rfl, hb1⟩)
  · have HB1 := Lib.hid hb1
    obtain ⟨W2, hW2⟩ : ∃ W2, W2 = w1.alloc (.cells #[va2, vr2] 133) := ⟨_, rfl⟩
    have HB2 : Hid (Below w1.heap.size w1 W2) := Lib.hid (by rw [hW2]; exact (Below.refl _ _).alloc (Nat.le_refl _) _)
    obtain ⟨a0, a1, -, -⟩ := box2_facts (show W2.heap[w1.heap.size]? = some (.cells #[va2, vr2] 133 (0, 0)) by rw [hW2]; exact heap_alloc_new w1 _)
    have HMn := Lib.hid (implMinz_any va2 vr2 (found x0 T acc N) W2 (hE.num acc) (by show N ≤ 2000; omega) (hau.kept HB2.out))
    have HE := Lib.hid hE
    obtain ⟨ga, ca, gr, cr, rfl, rfl, -, -⟩ := hau
    clear q0 q1 hb1 hE
    rw [hW2] at a0 a1
    go_wp2_with fail
    go_at_call 90
    rw [← hW2]
    refine HMn.out.mono ?_
    rintro e w3 ⟨m, m1, m2, hcd⟩
    obtain ⟨rfl, rfl⟩ := srchR_yes HYy.out hN HE.out m1 m2
    obtain ⟨A1, p1, A2, p2, rfl, hoo, hb3⟩ := hcd.shape
    obtain ⟨x1, hx1⟩ : ∃ x, x = (fitD m).acc.length := ⟨_, rfl⟩
    obtain ⟨x2, hx2⟩ : ∃ x, x = (fitD m).nxt.length := ⟨_, rfl⟩
    obtain ⟨ok, hok⟩ : ∃ b, b = decide (m.n ≤ 40) := ⟨_, rfl⟩
    rw [← hx1, ← hx2] at hoo ⊢
    rw [← hok]
    have HOk := Lib.hid hok
    have HO3 := Lib.hid hoo
    have HB3 := Lib.hid (HB1.out.trans ((HB2.out.trans (hb3.mono HB2.out.size)).mono HB1.out.size))
    have hz1 := HB1.out.size
    have hz2 := HB2.out.size
    have hz3 := hb3.size
    have hyl := blk_lt HY.out
    obtain ⟨c0, c1, k0, k1⟩ := box2_facts ((HB3.out.block _ hyl).trans HY.out)
    obtain ⟨hcl, hsz, hot, hBl⟩ := put2 (k := .slice A1 x1 p1) (l := .slice A2 x2 p2) c0 c1
    obtain ⟨hc0, hc1⟩ := hcl
    have HOt := Lib.hid (And.intro hsz (And.intro hot hBl))
    clear hsz hot hBl hoo hb3 hcd hx1 hx2 m1 m2 hok a0 a1 hW2 hW0
    go_wp2_with fail
    refine bodyPost_ret (v := .tuple #[.agg #[.slice A1 x1 p1, .slice A2 x2 p2], .bool ok]) (by simp [results, Tryz.results96, go_sem, hc0, hc1]) rfl ?_
    have h0 := HB0.out.size
    rw [← HOk.out]
    exact ⟨_, _, rfl, HO3.out.mono (fun g hg => HOt.out.2.1 g (by have := hg.1; omega)) (fun g hg => ⟨by have := hg.1; omega, by rw [HOt.out.1]; exact hg.2⟩) (by rw [HOt.out.1]; exact Nat.le_refl _), HOt.out.2.2 _ _ (HB0.out.trans (HB3.out.mono h0)) (by omega)⟩
  · have HB1 := Lib.hid hb1
    obtain ⟨rfl, rfl⟩ := srchR_no HYy.out hno
    obtain ⟨c0, c1, k0, k1⟩ := box2_facts (((HB1.out.alloc HB1.out.size (.cells #[.slice none 0 0, .slice none 0 0] 133)).block _ (blk_lt HY.out)).trans HY.out)
    obtain ⟨hcl, hsz, hot, hBl⟩ := put2 (k := .slice none 0 0) (l := .slice none 0 0) c0 c1
    obtain ⟨hr0, hr1⟩ := hcl
    have HOt := Lib.hid hBl
    clear q0 q1 hsz hot hBl hb1 hW0
    go_wp2_with fail
    refine bodyPost_ret (v := .tuple #[.agg #[.slice none 0 0, .slice none 0 0], .bool false]) (by simp [results, Tryz.results96, go_sem, hr0, hr1]) rfl ?_
    exact ⟨_, _, rfl, DfaO.empty _ _, HOt.out _ _ (HB0.out.trans ((HB1.out.alloc HB1.out.size _).mono HB0.out.size)) (by omega)⟩
end Go.Proofs.YtlkhmpdncimnfaaGreatDoor

/-
  What impl.explore answers over ints: the automaton that a search in breadth numbers, or the word that too much was met.
-/
namespace Go.Proofs.YtlkhmpdncimnfaaGreatDoor
open Go.RowKit Go.Maps

set_option maxRecDepth 100000 in
set_option maxHeartbeats 6400000 in
theorem implExpI_any (g1 g2 : Nat) (lb1 lb2 : Array Value) (eg1 : ∀ args w, (callFunc g1 args).run Tryz.prog w = .ok (.enter g1 args) w) (eg2 : ∀ args w, (callFunc g2 args).run Tryz.prog w = .ok (.enter g2 args) w)
    (T : Nat → Nat → Nat) (acc : Nat → Bool) (K M x0 : Nat) (w : World) (hK : K ≤ 2000) (hM : M ≤ 2000) (hM1 : 1 ≤ M) (h0 : x0 < K) (hT : ∀ x k, x < K → k < 3 → T x k < K)
    (H1 : ∀ (V : World) (x k : Nat), Below w.heap.size w V → x < K → k < 3 → Calls Tryz.prog g1 (#[.int .i64 (x : Int), .int .i64 (k : Int)] ++ lb1) V fun e w' => e = .returned (.int .i64 ((T x k : Nat) : Int)) ∧ Below V.heap.size V w')
    (H2 : ∀ (V : World) (x : Nat), Below w.heap.size w V → x < K → Calls Tryz.prog g2 (#[.int .i64 (x : Int)] ++ lb2) V fun e w' => e = .returned (.bool (acc x)) ∧ Below V.heap.size V w') :
    Calls Tryz.prog 89 #[.int .i64 (x0 : Int), .func (.func g1) #[] lb1, .func (.func g2) #[] lb2, .int .i64 (M : Int)] w (ExpPost x0 T acc M w) := by
  obtain ⟨i0, hi, hz0, hz1, hz2⟩ := info_parts intInfo
  obtain ⟨b0, hbi, hb0, hb1, hb2⟩ := info_parts boolInfo
  obtain ⟨r0, hri, hr0, hr1, hr2⟩ := info_parts rowInfo3
  have hmm := @run_makeMap Tryz.prog
  have HKeys : Hid (∀ i, (∀ j, j < i → j < (ords x0 T (3 * j)).length) → ∀ t, t ≤ 3 * i → ∀ x ∈ ords x0 T t, x < K) := Lib.hid (fun i ha t => ords_ok (Ok := (· < K)) h0 hT ha t)
  have HTT := Lib.hid hT
  have HH1 := Lib.hid H1
  have HH2 := Lib.hid H2
  clear hT H1 H2
  obtain ⟨W2, hW2⟩ : ∃ W2, W2 = (w.alloc (.cells #[.slice none 0 0, .slice none 0 0] 133)).alloc (.cells #[.slice none 0 0, .slice none 0 0] 133) := ⟨_, rfl⟩
  have HB2 : Hid (Below w.heap.size w W2) := Lib.hid (by rw [hW2]; exact ((Below.refl _ _).alloc (Nat.le_refl _) _).alloc (by simp) _)
  have HZ2 : Hid (W2.heap.size = w.heap.size + 1 + 1) := Lib.hid (by rw [hW2]; simp)
  have HX2 : Hid (W2.heap[w.heap.size]? = some (.cells #[.slice none 0 0, .slice none 0 0] 133 (0, 0)) ∧ W2.heap[w.heap.size + 1]? = some (.cells #[.slice none 0 0, .slice none 0 0] 133 (0, 0))) := Lib.hid (by
    rw [hW2]
    refine ⟨(Below.heap_alloc _ _ _ (by simp)).trans (heap_alloc_new w _), ?_⟩
    have := heap_alloc_new (w.alloc (.cells #[.slice none 0 0, .slice none 0 0] 133)) (.cells #[.slice none 0 0, .slice none 0 0] 133)
    rwa [World.size_alloc] at this)
  go_enter Tryz.func89, Tryz.ntmps89
  go_upto_region 2 with fail
  rw [← hW2]
  clear hW2
  have hk0 := klN_key (x := x0) (by omega)
  have hown0 := World.ownsMap_made (H := Unit) W2 Tryz.prog 3 (plainElem Tryz.prog 3)
  go_wp2_with (refine wpList_insert_own _ rfl (.tmp 19) (.tmp 20) _ 144 rfl 3 3 lawInt Tryz.underlying144 _ W2.heap.size 0 _ rfl hown0 (by unfold maxLen; omega) _ _ _ rfl rfl hk0 _ [] (plainElem_int Tryz.underlying3 (a := 0) (by decide)) ?_; intro w3 hown3 hg3)
  obtain ⟨bM, hbM⟩ : ∃ bM, bM = W2.heap.size := ⟨_, rfl⟩
  rw [← hbM] at hown3 hg3 ⊢
  obtain ⟨W4, hW4⟩ : ∃ W4, W4 = w3.alloc (.cells #[.int .i64 (x0 : Int)] 3) := ⟨_, rfl⟩
  rw [← hW4]
  obtain ⟨B, hB⟩ : ∃ B, B = w.heap.size + 1 := ⟨_, rfl⟩
  rw [← hB] at HX2 HZ2 ⊢
  have HBe := Lib.hid hB
  have hmx : MapOf klN (· < K) ((DataW.map []).put (klN x0) (.lit (.int .i64 0))) [x0] := (MapOf.nil klN (· < K)).put (fun x y _ _ h => klN_inj x y h) (fun x _ => by trivial) h0 (by simp)
  have HS4 : Hid (ExpS 3 1 B bM B (.slice none 0 0) (.slice none 0 0) (.slice (some ⟨w3.heap.size, 0, none⟩) 1 1) [] 0 [] 1 (ints (natI [x0])) 1 ((DataW.map []).put (klN x0) (.lit (.int .i64 0))) W4 ∧ Below B W2 W4) := Lib.hid (by
    have hg2 : W2.grownBy (W2.alloc (.map #[] 0)) none := World.grownBy_alloc _ _ _
    have hz := HZ2.out
    have hba : Below B W2 (W2.alloc (.map #[] 0)) := (Below.refl _ _).alloc (by omega) _
    have hb3 : Below B W2 w3 := hba.grown hg3 (by simp; omega) (fun k e => by cases e; omega)
    have hb4 : Below B W2 W4 := by rw [hW4]; exact hb3.alloc (by have := hb3.size; omega) _
    refine ⟨⟨⟨rfl, .inl ⟨rfl, rfl⟩⟩, ⟨rfl, .inl ⟨rfl, rfl⟩⟩, ?_, ?_, ?_, ⟨Nat.le_refl _, by omega⟩, by decide, by decide, by decide⟩, hb4⟩
    · rw [hW4]
      exact ⟨rfl, .inr ⟨w3.heap.size, 1, #[.int .i64 (x0 : Int)], rfl, by have := hb3.size; omega, heap_alloc_new w3 _, Nat.le_refl _, by decide, rfl, rfl⟩⟩
    · rw [hW4]
      exact hown3.alloc _
    · rw [hW4]
      have h1 := (hg3.block B (by simp; omega) (fun e => by injection e with e; omega)).trans ((Below.heap_alloc W2 _ B (by omega)).trans HX2.out.2)
      exact (Below.heap_alloc w3 _ B (blk_lt h1)).trans h1)
  have HM4 := Lib.hid hmx
  clear hown0 hown3 hg3 hW4 hmx hB hbM hk0
  have HE0 : Hid (ords x0 T (3 * 0) = [x0]) := Lib.hid rfl
  go_loopw [12, 13] (fun vo iv wr => ∃ (i : Nat) (va vr : Value) (D : DataW Unit), iv = .int .i64 i ∧ i ≤ M ∧ Hid ((ords x0 T (3 * i)).length ≤ M) ∧ Hid (Below B W2 wr) ∧ Hid (∀ j, j < i → j < (ords x0 T (3 * j)).length) ∧ Hid (ExpS 3 1 B bM B va vr vo ((List.range i).map fun j => acc (keyA x0 T j)) i (rowsC x0 T i) (ords x0 T (3 * i)).length (ints (natI (ords x0 T (3 * i)))) (ords x0 T (3 * i)).length D wr ∧ MapOf klN (· < K) D (ords x0 T (3 * i)))) (fun _ iv _ => M + 1 - (intOf iv).toNat)
  case atStart => exact ⟨0, _, _, _, rfl, Nat.zero_le _, Lib.hid hM1, Lib.hid HS4.out.2, Lib.hid (fun j hj => absurd hj (Nat.not_lt_zero _)), Lib.hid ⟨HS4.out.1, HM4.out⟩⟩
  case round =>
    obtain ⟨i, va, vr, D, rfl, hin, HLe, HBr, hon, HS⟩ := hrel
    clear HS4 HM4 HE0
    obtain ⟨l, hl⟩ : ∃ l, l = ords x0 T (3 * i) := ⟨_, rfl⟩
    rw [← hl] at HS
    have hll : l.length ≤ M := by rw [hl]; exact HLe.out
    have hl0 : 0 < l.length := by rw [hl]; exact ords_pos _
    obtain ⟨go, co, hvo, -, -⟩ := own_cell HS.out.1.ord hl0
    subst hvo
    have HL := Lib.hid hl
    by_cases hlt : i < l.length
    · have hi1 : i < (ords x0 T (3 * i)).length := by rw [← hl]; exact hlt
      have HON : Hid (∀ j, j < i + 1 → j < (ords x0 T (3 * j)).length) := Lib.hid (fun j hj => by
        rcases Nat.lt_or_eq_of_le (Nat.le_of_lt_succ hj) with h | h
        · exact hon.out j h
        · rw [h]; exact hi1)
      clear hl
      have hd : decide ((i : Int) < (l.length : Int)) = true := by simp; omega
      go_upto_region 9 with fail
      obtain ⟨bx, hbx⟩ : ∃ bx, bx = wr.heap.size := ⟨_, rfl⟩
      obtain ⟨V0, hV0⟩ : ∃ V0, V0 = wr.alloc (.cells #[.int .i64 0, .int .i64 0, .int .i64 0] 146) := ⟨_, rfl⟩
      rw [← hV0, ← hbx]
      obtain ⟨accs, hacc⟩ : ∃ accs, accs = (List.range i).map fun j => acc (keyA x0 T j) := ⟨_, rfl⟩
      obtain ⟨rows, hrows⟩ : ∃ rows, rows = rowsC x0 T i := ⟨_, rfl⟩
      rw [← hacc, ← hrows] at HS
      have HAc := Lib.hid (And.intro hacc hrows)
      have hal : accs.length = i := by rw [hacc]; simp
      have HAl := Lib.hid hal
      have HNx : Hid (ExpN B bM B va vr (.slice (some ⟨go, 0, none⟩) l.length co) bx) := Lib.hid (HS.out.1.fresh (by rw [hbx]; exact Nat.le_refl _))
      have HS0 : Hid (Below B W2 V0 ∧ (ExpS 3 1 B bM B va vr (.slice (some ⟨go, 0, none⟩) l.length co) accs i rows (ords x0 T (3 * i + 0)).length (ints (natI (ords x0 T (3 * i + 0)))) (ords x0 T (3 * i + 0)).length D V0 ∧ MapOf klN (· < K) D (ords x0 T (3 * i + 0))) ∧ Arr3 V0 bx (cutV (toA x0 T i) 0)) := Lib.hid (by
        rw [Nat.add_zero, ← HL.out]
        refine ⟨by rw [hV0]; exact HBr.out.alloc (Nat.le_of_lt HS.out.1.base) _, ⟨HS.out.1.below (by rw [hV0]; exact (Below.refl _ _).alloc (Nat.le_refl _) _), HS.out.2⟩, ?_⟩
        rw [hV0, hbx]
        exact heap_alloc_new wr _)
      clear hd hV0 hacc hrows hal HS hbx
      go_loopw [12, 30] (fun vo kv wq => ∃ (k : Nat) (D : DataW Unit), kv = .int .i64 k ∧ k ≤ 3 ∧ Hid ((ords x0 T (3 * i + k)).length ≤ M) ∧ Hid (Below B W2 wq ∧ (ExpS 3 1 B bM B va vr vo accs i rows (ords x0 T (3 * i + k)).length (ints (natI (ords x0 T (3 * i + k)))) (ords x0 T (3 * i + k)).length D wq ∧ MapOf klN (· < K) D (ords x0 T (3 * i + k))) ∧ Arr3 wq bx (cutV (toA x0 T i) k))) (fun _ kv _ => 3 - (intOf kv).toNat)
      case atStart => exact ⟨0, _, rfl, Nat.zero_le _, HLe, HS0⟩
      case round =>
        obtain ⟨k, Dk, rfl, hk, HLk, HQ⟩ := hrel
        clear HS0
        by_cases hk3 : k < 3
        · obtain ⟨st1, st2⟩ := keyA_step (s0 := x0) (g := T) hi1 hk3
          obtain ⟨hil, hkey⟩ := keyA_at (s0 := x0) (g := T) (t := 3 * i + k) hi1 (by omega)
          have hxM : keyA x0 T i < K := HKeys.out (i + 1) HON.out (3 * i) (by omega) _ (getD_mem hi1)
          obtain ⟨x, hx⟩ : ∃ x, x = keyA x0 T i := ⟨_, rfl⟩
          obtain ⟨lq, hlq⟩ : ∃ lq, lq = ords x0 T (3 * i + k) := ⟨_, rfl⟩
          rw [← hx, ← hlq] at st1 st2
          rw [← hlq] at HQ hil hkey
          rw [← hx] at hkey hxM
          have hlqM : lq.length ≤ M := by rw [hlq]; exact HLk.out
          have HLq := Lib.hid (And.intro hlq hx)
          have HLe2 := Lib.hid hlqM
          clear hlq hx
          obtain ⟨y, hy⟩ : ∃ y, y = T x k := ⟨_, rfl⟩
          have hyM : y < K := by rw [hy]; exact HTT.out x k hxM hk3
          rw [← hy] at st1 st2
          obtain ⟨gq, cq, hvq, -, hcq⟩ := own_cell HQ.out.2.1.1.ord (by omega)
          subst hvq
          have hci := hcq i (by omega)
          rw [show (ints (natI lq))[i]? = some (.int .i64 (x : Int)) by
            rw [← hkey]
            simp [ints, natI, List.getD_eq_getElem?_getD, List.getElem?_eq_getElem hil]] at hci
          have HC1 : Hid (Calls Tryz.prog g1 (#[.int .i64 (x : Int), .int .i64 (k : Int)] ++ lb1) wr fun e w' => e = .returned (.int .i64 (y : Int)) ∧ Below wr.heap.size wr w') := Lib.hid (by
            rw [hy]
            refine HH1.out wr x k (HB2.out.trans (HQ.out.1.mono ?_)) hxM hk3
            have := HBe.out
            omega)
          have HSt := Lib.hid (And.intro st1 st2)
          have s1 : (i : Int) < (lq.length : Int) := by omega
          have s2 : (0 : Int) ≤ (i : Int) := by omega
          have s3 : (k : Int) < 3 := by omega
          have s4 : (0 : Int) ≤ (k : Int) := by omega
          clear hcq st1 st2 hkey hy
          go_wp2_with fail
          refine HC1.out.mono ?_
          rintro e w5 ⟨rfl, hb5⟩
          have HQ5 := Lib.hid (And.intro (HQ.out.1.trans (hb5.mono (Nat.le_trans (by have := HZ2.out; omega) HQ.out.1.size))) (And.intro (HQ.out.2.1.1.below hb5) (HQ.out.2.2.same (hb5.block _ HQ.out.2.2.lt))))
          have HMo := Lib.hid HQ.out.2.1.2
          obtain ⟨kf1, kf2⟩ := HQ5.out.2.2.facts hk3
          have hky := klN_key (x := y) (by omega)
          clear hci hb5
          by_cases hyl : y ∈ lq
          · have hhas : Maps.has Dk (klN y) = true := by rw [(HMo.out.2 y hyM).1]; simpa using hyl
            have HHit := Lib.hid (And.intro ((HMo.out.2 y hyM).2 hyl) (HSt.out.1 hyl))
            clear hyl
            go_wp2_with (at_lookup; refine wpList_lookup_own_ok_int _ rfl (.tmp 41) (.tmp 42) 144 rfl 3 3 .i64 lawInt Tryz.underlying144 Tryz.underlying3 (zeroInt _) bM _ _ rfl HQ5.out.2.1.map _ _ rfl hky ?_; intro c hat hwc)
            have hc : c = ((toA x0 T i k : Nat) : Int) := by
              have h1 := HHit.out.1 (.lit (.int .i64 0))
              rw [hat] at h1
              rw [HHit.out.2.2]
              injection h1 with h1
              injection h1 with _ h1
            subst hc
            have HQ6 : Hid (Below B W2 (w5.setCell ⟨bx, k, none⟩ (.int .i64 ((toA x0 T i k : Nat) : Int))) ∧ (ExpS 3 1 B bM B va vr (.slice (some ⟨gq, 0, none⟩) lq.length cq) accs i rows (ords x0 T (3 * i + (k + 1))).length (ints (natI (ords x0 T (3 * i + (k + 1))))) (ords x0 T (3 * i + (k + 1))).length Dk (w5.setCell ⟨bx, k, none⟩ (.int .i64 ((toA x0 T i k : Nat) : Int))) ∧ MapOf klN (· < K) Dk (ords x0 T (3 * i + (k + 1)))) ∧ Arr3 (w5.setCell ⟨bx, k, none⟩ (.int .i64 ((toA x0 T i k : Nat) : Int))) bx (cutV (toA x0 T i) (k + 1))) := Lib.hid (by
              have hN := HNx.out
              rw [HHit.out.2.1]
              refine ⟨below_set HQ5.out.1 hN.2.2.2.2.2 _, ⟨HQ5.out.2.1.set ⟨hN.1, hN.2.1, fun e => ?_, hN.2.2.2.1, hN.2.2.2.2.1, hN.2.2.2.2.2⟩ _, HMo.out⟩, HQ5.out.2.2.set hk3 (cutV_step _ k).1 (fun j _ hj => (cutV_step _ k).2 j hj)⟩
              obtain ⟨cur, hh⟩ := blk_ofz HQ5.out.2.1.ord e
              exact blk_ne hh HQ5.out.2.2 (by decide) rfl)
            clear kf1 kf2 hat hhas hwc
            go_wp2_with fail
            go_roundw
            case rel => exact ⟨k + 1, Dk, by go_num, by omega, Lib.hid (by rw [HHit.out.2.1]; exact HLe2.out), HQ6⟩
            case measure => simp [intOf]; omega
          · have hhas : Maps.has Dk (klN y) = false := by rw [(HMo.out.2 y hyM).1]; simpa using hyl
            have HMiss := Lib.hid (And.intro hyl (HSt.out.2 hyl))
            clear hyl
            by_cases hfull : lq.length = M
            · have hcmp : ((lq.length : Int) == (M : Int)) = true := by simp; omega
              have HBig := Lib.hid (exp_big (M := M) HON.out hk3 (by rw [HMiss.out.2.1, List.length_append, hfull]; rfl))
              obtain ⟨c0, c1, k0, k1⟩ := box2_facts ((HQ5.out.1.block _ (by have := HBe.out; omega)).trans HX2.out.1)
              obtain ⟨hcl, hsz, hot, hBl⟩ := put2 (k := .slice none 0 0) (l := .slice none 0 0) c0 c1
              obtain ⟨hc0, hc1⟩ := hcl
              have HOt := Lib.hid (And.intro HQ5.out.1 hBl)
              clear hsz hot hBl kf1 kf2
              go_wp2_with (at_lookup; refine wpList_lookup_own_ok_int _ rfl (.tmp 41) (.tmp 42) 144 rfl 3 3 .i64 lawInt Tryz.underlying144 Tryz.underlying3 (zeroInt _) bM _ _ rfl HQ5.out.2.1.map _ _ rfl hky ?_; intro c hat hwc)
              refine bodyPost_ret (v := .tuple #[.agg #[.slice none 0 0, .slice none 0 0], .bool false]) (by simp [results, Tryz.results89, go_sem, hc0, hc1]) rfl ?_
              exact .inr ⟨HBig.out, rfl, HOt.out.2 _ _ (HB2.out.trans (HOt.out.1.mono (by have := HBe.out; omega))) (Nat.le_refl _)⟩
            have hcmp : ((lq.length : Int) == (M : Int)) = false := by simp; omega
            have hroom : lq.length + 1 ≤ M := by omega
            have HRoom := Lib.hid hroom
            clear hfull
            go_upto_region 17 with (at_lookup; refine wpList_lookup_own_ok_int _ rfl (.tmp 41) (.tmp 42) 144 rfl 3 3 .i64 lawInt Tryz.underlying144 Tryz.underlying3 (zeroInt _) bM _ _ rfl HQ5.out.2.1.map _ _ rfl hky ?_; intro c hat hwc)
            go_upto_region 18 with (at_mapUpdate; refine wpList_mapUpdate_own _ rfl (.tmp 55) (.tmp 56) (.tmp 57) 144 rfl 3 3 lawInt Tryz.underlying144 _ bM lq.length Dk rfl HQ5.out.2.1.map (by unfold maxLen; omega) _ _ _ rfl rfl hky _ [] (plainElem_int Tryz.underlying3 (klN_wf (x := lq.length) (by omega))) ?_; intro w6 hown6 hg6)
            have HQ6 := Lib.hid (HQ5.out.2.1.map_put hown6 hg6)
            have HA6 : Hid (Below B W2 w6 ∧ Arr3 w6 bx (cutV (toA x0 T i) k)) := Lib.hid ⟨HQ5.out.1.grown hg6 (Nat.le_of_lt HQ5.out.2.1.base) (fun j e => by injection e with e; rw [← e]; exact HQ5.out.2.1.low.2), HQ5.out.2.2.same (hg6.block bx HQ5.out.2.2.lt (fun e => HNx.out.2.2.2.1 (by injection e with e; exact e.symm)))⟩
            have hbw6 : B ≤ w6.heap.size := Nat.le_of_lt HQ6.out.base
            have HMp := Lib.hid (HMo.out.put (fun x y _ _ h => klN_inj x y h) (fun x _ => by trivial) hyM HMiss.out.1)
            clear hown6 hg6 hat hwc hhas kf1 kf2
            go_wp2_with (at_builtin; refine wpList_append_own_at _ rfl (.tmp 58) (.tmp 60) 68 rfl B 3 i0 (.int .i64 0) 1 8 Tryz.underlying68 hi hz0 hz1 hz2 rfl (by decide) _ _ _ rfl (HQ6.out.ord.alloc _) ⟨w6.heap.size, 0, none⟩ 1 1 [.int .i64 (y : Int)] rfl rfl (cell_one_new _ _ _) (by simp [Value.oneCell']) (by unfold maxLen; omega) (by omega) (by simp; omega) ?_)
            intro v' w7 hown' hgrow hnil hat
            have HQ7 : Hid (ExpS 3 1 B bM B va vr v' accs i rows (ords x0 T (3 * i + (k + 1))).length (ints (natI (ords x0 T (3 * i + (k + 1))))) (ords x0 T (3 * i + (k + 1))).length (Dk.put (klN y) (.lit (.int .i64 ((lq.length : Nat) : Int)))) w7) := Lib.hid (by
              have h1 := (HQ6.out.below ((Below.refl _ _).alloc (Nat.le_refl _) (.cells #[.int .i64 (y : Int)] 3))).ord_push hown' hgrow
              rw [HMiss.out.2.1]
              have e1 : ints (natI (lq ++ [y])) = ints (natI lq) ++ [.int .i64 (y : Int)] := by simp [ints, natI]
              rw [e1, List.length_append]
              exact h1)
            have HA7 : Hid (Below B W2 w7 ∧ Arr3 w7 bx (cutV (toA x0 T i) k)) := Lib.hid (by
              refine ⟨(HA6.out.1.alloc hbw6 (.cells #[.int .i64 (y : Int)] 3)).grown hgrow (by simp; omega) (fun j e => (HQ6.out.ord.lt j e).1), ?_⟩
              have h1 : Arr3 (w6.alloc (.cells #[.int .i64 (y : Int)] 3)) bx (cutV (toA x0 T i) k) := HA6.out.2.same (Below.heap_alloc _ _ _ HA6.out.2.lt)
              refine h1.same (hgrow.block bx h1.lt (fun e => ?_))
              obtain ⟨cur, hh⟩ := blk_ofz HQ6.out.ord e.symm
              exact blk_ne hh HA6.out.2 (by decide) rfl)
            obtain ⟨kf1, kf2⟩ := HA7.out.2.facts hk3
            clear hown' hgrow hnil hat
            have HQ8 : Hid (Below B W2 (w7.setCell ⟨bx, k, none⟩ (.int .i64 ((lq.length : Nat) : Int))) ∧ (ExpS 3 1 B bM B va vr v' accs i rows (ords x0 T (3 * i + (k + 1))).length (ints (natI (ords x0 T (3 * i + (k + 1))))) (ords x0 T (3 * i + (k + 1))).length (Dk.put (klN y) (.lit (.int .i64 ((lq.length : Nat) : Int)))) (w7.setCell ⟨bx, k, none⟩ (.int .i64 ((lq.length : Nat) : Int))) ∧ MapOf klN (· < K) (Dk.put (klN y) (.lit (.int .i64 ((lq.length : Nat) : Int)))) (ords x0 T (3 * i + (k + 1)))) ∧ Arr3 (w7.setCell ⟨bx, k, none⟩ (.int .i64 ((lq.length : Nat) : Int))) bx (cutV (toA x0 T i) (k + 1))) := Lib.hid (by
              have hN := HNx.out
              refine ⟨below_set HA7.out.1 hN.2.2.2.2.2 _, ⟨HQ7.out.set ⟨hN.1, hN.2.1, fun e => ?_, hN.2.2.2.1, hN.2.2.2.2.1, hN.2.2.2.2.2⟩ _, by rw [HMiss.out.2.1]; exact HMp.out⟩, HA7.out.2.set hk3 ?_ (fun j _ hj => (cutV_step _ k).2 j hj)⟩
              · obtain ⟨cur, hh⟩ := blk_ofz HQ7.out.ord e
                exact blk_ne hh HA7.out.2 (by decide) rfl
              · rw [(cutV_step _ k).1, HMiss.out.2.2])
            go_wp2_with fail
            go_roundw
            case rel => exact ⟨k + 1, _, by go_num, by omega, Lib.hid (by rw [HMiss.out.2.1, List.length_append]; exact HRoom.out), HQ8⟩
            case measure => simp [intOf]; omega
        · obtain rfl : k = 3 := by omega
          obtain ⟨hil, hkey⟩ := keyA_at (s0 := x0) (g := T) (t := 3 * i + 3) hi1 (by omega)
          have hxM : keyA x0 T i < K := HKeys.out (i + 1) HON.out (3 * i) (by omega) _ (getD_mem hi1)
          obtain ⟨x, hx⟩ : ∃ x, x = keyA x0 T i := ⟨_, rfl⟩
          obtain ⟨lq, hlq⟩ : ∃ lq, lq = ords x0 T (3 * i + 3) := ⟨_, rfl⟩
          rw [← hlq] at HQ hil hkey
          rw [← hx] at hkey hxM
          have hlqM : lq.length ≤ M := by rw [hlq]; exact HLk.out
          have HLq := Lib.hid (And.intro hlq hx)
          have HLe2 := Lib.hid hlqM
          clear hlq hx
          obtain ⟨gq, cq, hvq, -, hcq⟩ := own_cell HQ.out.2.1.1.ord (by omega)
          subst hvq
          have hci := hcq i (by omega)
          rw [show (ints (natI lq))[i]? = some (.int .i64 (x : Int)) by
            rw [← hkey]
            simp [ints, natI, List.getD_eq_getElem?_getD, List.getElem?_eq_getElem hil]] at hci
          obtain ⟨b, hb⟩ : ∃ b, b = acc x := ⟨_, rfl⟩
          have HC2 : Hid (Calls Tryz.prog g2 (#[.int .i64 (x : Int)] ++ lb2) wr.drew fun e w' => e = .returned (.bool b) ∧ Below wr.drew.heap.size wr.drew w') := Lib.hid (by
            rw [hb]
            refine HH2.out wr.drew x ((HB2.out.trans (HQ.out.1.mono ?_)).drew) hxM
            have := HBe.out
            omega)
          have HBb' := Lib.hid hb
          have s1 : (i : Int) < (lq.length : Int) := by omega
          have s2 : (0 : Int) ≤ (i : Int) := by omega
          have hal : accs.length ≤ 2000 := by rw [HAl.out]; omega
          have hbwr : B ≤ wr.heap.size := Nat.le_of_lt HQ.out.2.1.1.base
          have HQd := Lib.hid (HQ.out.2.1.1.below (Below.refl _ _).drew)
          obtain ⟨e0, -, e2, -⟩ := box2_facts HQ.out.2.1.1.box
          obtain ⟨e4, -, e6, -⟩ := box2_facts HQd.out.box
          obtain ⟨Aa, qa, hva⟩ := (RowO.of_owns HQ.out.2.1.1.acc (by omega)).row.shape
          rw [bools_length] at hva
          subst hva
          clear hcq hkey hb
          go_upto_region 21 with fail
          go_cut [] from 66 to 76 (fun wc => ∃ va2, Hid (ExpS 3 1 B bM B va2 vr (.slice (some ⟨gq, 0, none⟩) lq.length cq) (accs ++ [b]) i rows lq.length (ints (natI lq)) lq.length Dk wc) ∧ Hid (Below B W2 wc ∧ Arr3 wc bx (cutV (toA x0 T i) 3)))
          case first =>
            go_region_law (first
              | (refine step_call_val rfl (.tmp 68) _ _ rfl g2 lb2 (by simp [Act.eval]) eg2 #[.int .i64 (x : Int)] (by simp [Act.eval]) HC2.out ?_; rintro e w1 ⟨rfl, hb1⟩; have HO1 := Lib.hid (HQd.out.below hb1); have HA1 := Lib.hid (And.intro (HQ.out.1.drew.trans (hb1.mono (by show B ≤ wr.heap.size; omega))) (HQ.out.2.2.same (hb1.block bx HQ.out.2.2.lt))); obtain ⟨l0, -, l2, -⟩ := box2_facts HO1.out.box; have HO1a := Lib.hid (HO1.out.below ((Below.refl _ _).alloc (Nat.le_refl _) (.cells #[.bool b] 4))); obtain ⟨l4, -, l6, -⟩ := box2_facts HO1a.out.box; have hbw1 : B ≤ w1.heap.size := Nat.le_of_lt HO1.out.base; clear hb1; refine ⟨_, rfl, ?_⟩)
              | (refine step_append_own_at rfl (.tmp 67) (.tmp 74) 26 rfl B 4 b0 (.bool false) 1 1 Tryz.underlying26 hbi hb0 hb1 hb2 rfl (by decide) _ _ _ rfl (HO1.out.acc.alloc _) ⟨w1.heap.size, 0, none⟩ 1 1 [.bool b] rfl rfl (cell_one_new w1 _ _) (by simp [Value.oneCell']) (by unfold maxLen; omega) (by omega) (by simp; omega) ?_; intro v' w9 hown' hgrow hat; obtain ⟨g', cap', rfl⟩ := own_succ hown'; have HB9 := Lib.hid (((HA1.out.1.alloc hbw1 (.cells #[.bool b] 4)).grown hgrow (by simp; omega) (fun g e => (HO1.out.acc.lt g e).1)).setCell (p := ⟨B, 0, none⟩) (Nat.le_refl _) (.slice (some ⟨g', 0, none⟩) (accs.length + 1) cap')); obtain ⟨z1, z2, HQ9⟩ := HO1a.out.acc_push hown' hgrow; obtain ⟨z0, z1⟩ := z1; have HQ9 := Lib.hid HQ9; have HG9 := Lib.hid hgrow))
            all_goals
              have HX9 : Hid (Arr3 (w9.setCell ⟨B, 0, none⟩ (.slice (some ⟨g', 0, none⟩) (accs.length + 1) cap')) bx (cutV (toA x0 T i) 3)) := Lib.hid (by
                have hxa : Arr3 (w1.alloc (.cells #[.bool b] 4)) bx (cutV (toA x0 T i) 3) := HA1.out.2.same (Below.heap_alloc _ _ _ HA1.out.2.lt)
                refine (hxa.same (HG9.out.block bx hxa.lt (fun e => HNx.out.1 ?_))).same (Below.heap_setCell _ _ _ _ (fun e => HNx.out.2.2.2.2.1 (Eq.symm e)))
                exact e.symm)
              clear hown' hgrow hat z1 z2 l0 l2 l4 l6 e0 e2 e4 e6
              go_wp2_with fail
              go_meet
              exact ⟨_, HQ9, Lib.hid ⟨HB9.out, HX9.out⟩⟩
          case rest =>
            obtain ⟨va2, HQ9, HA9⟩ := hcut
            clear e0 e2 e4 e6 hci
            have hbw9 : B ≤ wc.heap.size := Nat.le_of_lt HQ9.out.base
            obtain ⟨-, e1, -, e3⟩ := box2_facts HQ9.out.box
            have hx3 : Bx3 wc bx (.int .i64 ((toA x0 T i 0 : Nat) : Int)) (.int .i64 ((toA x0 T i 1 : Nat) : Int)) (.int .i64 ((toA x0 T i 2 : Nat) : Int)) 146 := HA9.out.2
            obtain ⟨⟨c0, c1, c2⟩, -⟩ := hx3.facts
            clear hx3
            obtain ⟨t0, ht0⟩ : ∃ y : Int, y = ((toA x0 T i 0 : Nat) : Int) := ⟨_, rfl⟩
            obtain ⟨t1, ht1⟩ : ∃ y : Int, y = ((toA x0 T i 1 : Nat) : Int) := ⟨_, rfl⟩
            obtain ⟨t2, ht2⟩ : ∃ y : Int, y = ((toA x0 T i 2 : Nat) : Int) := ⟨_, rfl⟩
            rw [← ht0] at c0
            rw [← ht1] at c1
            rw [← ht2] at c2
            have HRw : Hid (rows ++ [.int .i64 t0, .int .i64 t1, .int .i64 t2] = rowsC x0 T (i + 1)) := Lib.hid (by rw [rowsC_succ, HAc.out.2, ht0, ht1, ht2]; rfl)
            clear ht0 ht1 ht2
            go_wp2_with (at_builtin; refine wpList_append_own_at _ rfl (.tmp 78) (.tmp 80) 131 rfl B 146 r0 (.agg #[.int .i64 0, .int .i64 0, .int .i64 0]) 3 24 Tryz.underlying131 hri hr0 hr1 hr2 rfl (by decide) _ _ _ rfl (HQ9.out.row.alloc _) ⟨wc.heap.size, 0, none⟩ 1 1 [.int .i64 t0, .int .i64 t1, .int .i64 t2] rfl rfl (newB3 wc _ _ _ _) (by simp [Value.oneCell']) (by unfold maxLen; omega) (by omega) (by simp; omega) ?_)
            intro v' w9 hown' hgrow hnil hat
            obtain ⟨gn, capn, rfl⟩ := own_succ hown'
            obtain ⟨⟨z0, z1⟩, z2, HQb⟩ := (HQ9.out.below ((Below.refl _ _).alloc (Nat.le_refl _) (.cells #[.int .i64 t0, .int .i64 t1, .int .i64 t2] 146))).row_push hown' hgrow
            rw [HRw.out] at HQb
            have HQb := Lib.hid HQb
            have HBb := Lib.hid (((HA9.out.1.alloc hbw9 (.cells #[.int .i64 t0, .int .i64 t1, .int .i64 t2] 146)).grown hgrow (by simp; omega) (fun g e => (HQ9.out.row.lt g e).1)).setCell (p := ⟨B, 1, none⟩) (Nat.le_refl _) (.slice (some ⟨gn, 0, none⟩) (i + 1) capn))
            have HA1 : Hid (accs ++ [b] = (List.range (i + 1)).map fun j => acc (keyA x0 T j)) := Lib.hid (by rw [List.range_succ, List.map_append, HAc.out.1, HBb'.out, HLq.out.2]; rfl)
            rw [HA1.out] at HQb
            have HMk := Lib.hid HQ.out.2.1.2
            clear hown' hgrow hnil hat
            go_wp2_with fail
            go_roundw
            case rel => exact ⟨i + 1, _, _, Dk, by go_num, by omega, Lib.hid (by rw [show 3 * (i + 1) = 3 * i + 3 by omega]; exact HLk.out), HBb, HON, by
              rw [show 3 * (i + 1) = 3 * i + 3 by omega, ← HLq.out.1]
              exact Lib.hid ⟨HQb.out, HMk.out⟩⟩
            case measure => simp [intOf]; omega
    · have hE : Ends x0 T i := ⟨hon.out, by rw [← hl]; omega⟩
      have hEl := hE.length
      have hiM : i ≤ M := by rw [← hEl]; exact HLe.out
      have hi0 := hE.pos
      have HE := Lib.hid hE
      obtain ⟨ga, ca, rfl, hga, hca⟩ := own_cell HS.out.1.acc (by simp; omega)
      obtain ⟨gr, cr, rfl, hgr, hcr⟩ := own_cell HS.out.1.row hi0
      have HAu : Hid (∀ V : World, (∀ g, g ≠ w.heap.size → V.heap[g]? = wr.heap[g]?) → AutoV V (.slice (some ⟨ga, 0, none⟩) i ca) (.slice (some ⟨gr, 0, none⟩) i cr) (found x0 T acc i)) := Lib.hid (fun V hV => ⟨ga, ca, gr, cr, rfl, rfl, fun q hq => by
          have hq' : q < i := hq
          have hBe := HBe.out
          rw [World.cell?_of_block (w := wr) (a := ⟨ga, q, none⟩) (hV ga (by omega))]
          rw [hca q (by simp; omega), (found_keyA hE acc hq').1]
          simp [bools, hq'], fun q hq k hk => by
          have hq' : q < i := hq
          have hBe := HBe.out
          rw [World.cell?_of_block (w := wr) (a := ⟨gr, q * 3 + k, none⟩) (hV gr (by omega))]
          rw [hcr (q * 3 + k) (by omega), rowsC_at i q k hq' hk, (found_keyA hE acc hq').2 k hk]⟩)
      obtain ⟨e0, e1, -, -⟩ := box2_facts HS.out.1.box
      have hln : ((List.range i).map fun j => acc (keyA x0 T j)).length = i := by simp
      rw [hln] at e0
      have hyb := (HBr.out.block _ (by have := HBe.out; omega)).trans HX2.out.1
      obtain ⟨c0, c1, k0, k1⟩ := box2_facts hyb
      have hd : decide ((i : Int) < (l.length : Int)) = false := by simp; omega
      obtain ⟨hcl, hsz, hot, hBl⟩ := put2 (k := .slice (some ⟨ga, 0, none⟩) i ca) (l := .slice (some ⟨gr, 0, none⟩) i cr) c0 c1
      obtain ⟨hc0, hc1⟩ := hcl
      have HOt := Lib.hid (And.intro hsz (And.intro hot hBl))
      clear hsz hot hBl hyb hl hca hcr hln hE hEl hga hgr
      go_wp2_with fail
      refine bodyPost_ret (v := .tuple #[.agg #[.slice (some ⟨ga, 0, none⟩) i ca, .slice (some ⟨gr, 0, none⟩) i cr], .bool true]) (by simp [results, Tryz.results89, go_sem, hc0, hc1]) rfl ?_
      exact .inl ⟨i, _, _, HE.out, hiM, rfl, HAu.out _ HOt.out.2.1, HOt.out.2.2 _ _ (HB2.out.trans (HBr.out.mono (by have := HBe.out; omega))) (Nat.le_refl _)⟩
end Go.Proofs.YtlkhmpdncimnfaaGreatDoor

namespace Go.Proofs.YtlkhmpdncimnfaaGreatDoor
open Go.RowKit

set_option maxRecDepth 100000 in
set_option maxHeartbeats 3200000 in
theorem implMdI_any (g1 g2 : Nat) (lb1 lb2 : Array Value) (eg1 : ∀ args w, (callFunc g1 args).run Tryz.prog w = .ok (.enter g1 args) w) (eg2 : ∀ args w, (callFunc g2 args).run Tryz.prog w = .ok (.enter g2 args) w)
    (T : Nat → Nat → Nat) (acc : Nat → Bool) (K : Nat) (M : Nat) (x0 : Nat) (w : World) (hK : K ≤ 2000) (hM : M ≤ 2000) (hM1 : 1 ≤ M) (h0 : x0 < K) (hT : ∀ x k, x < K → k < 3 → T x k < K)
    (H1 : ∀ (V : World) (x : Nat) (k : Nat), Below w.heap.size w V → x < K → k < 3 → Calls Tryz.prog g1 (#[.int .i64 ((x : Nat) : Int), .int .i64 (k : Int)] ++ lb1) V fun e w' => e = .returned (.int .i64 (((T x k) : Nat) : Int)) ∧ Below V.heap.size V w')
    (H2 : ∀ (V : World) (x : Nat), Below w.heap.size w V → x < K → Calls Tryz.prog g2 (#[.int .i64 ((x : Nat) : Int)] ++ lb2) V fun e w' => e = .returned (.bool (acc x)) ∧ Below V.heap.size V w')
    (y : Dx) (ok : Bool) (hy : srchR M x0 T acc y ok) :
    Calls Tryz.prog 67 #[.int .i64 ((x0 : Nat) : Int), .func (.func g1) #[] lb1, .func (.func g2) #[] lb2, .int .i64 (M : Int)] w (CopyDB y ok w) := by
  obtain ⟨W0, hW0⟩ : ∃ W0, W0 = w.alloc (.cells #[.slice none 0 0, .slice none 0 0] 29) := ⟨_, rfl⟩
  have HB0 : Hid (Below w.heap.size w W0) := Lib.hid (by rw [hW0]; exact (Below.refl _ _).alloc (Nat.le_refl _) _)
  have HY : Hid (W0.heap[w.heap.size]? = some (.cells #[.slice none 0 0, .slice none 0 0] 29 (0, 0))) := Lib.hid (by rw [hW0]; exact heap_alloc_new w _)
  have HEx := Lib.hid (implExpI_any g1 g2 lb1 lb2 eg1 eg2 T acc K M x0 W0 hK hM hM1 h0 hT (fun V x k hV hx hk => H1 V x k (HB0.out.trans (hV.mono HB0.out.size)) hx hk) (fun V x hV hx => H2 V x (HB0.out.trans (hV.mono HB0.out.size)) hx))
  have HYy := Lib.hid hy
  clear hy hT H1 H2 h0 hM1
  go_enter Tryz.func67, Tryz.ntmps67
  go_wp2_with fail
  go_at_call 89
  rw [← hW0]
  refine HEx.out.mono ?_
  rintro e w1 (⟨N, va2, vr2, hE, hN, rfl, hau, hb1⟩ | ⟨hno, rfl, hb1⟩)
  · have HB1 := Lib.hid hb1
    obtain ⟨W2, hW2⟩ : ∃ W2, W2 = w1.alloc (.cells #[va2, vr2] 133) := ⟨_, rfl⟩
    have HB2 : Hid (Below w1.heap.size w1 W2) := Lib.hid (by rw [hW2]; exact (Below.refl _ _).alloc (Nat.le_refl _) _)
    obtain ⟨a0, a1, -, -⟩ := box2_facts (show W2.heap[w1.heap.size]? = some (.cells #[va2, vr2] 133 (0, 0)) by rw [hW2]; exact heap_alloc_new w1 _)
    have HMn := Lib.hid (implMinz_any va2 vr2 (found x0 T acc N) W2 (hE.num acc) (by show N ≤ 2000; omega) (hau.kept HB2.out))
    have HE := Lib.hid hE
    obtain ⟨ga, ca, gr, cr, rfl, rfl, -, -⟩ := hau
    clear hb1 hE
    rw [hW2] at a0 a1
    go_wp2_with fail
    go_at_call 90
    rw [← hW2]
    refine HMn.out.mono ?_
    rintro e w3 ⟨m, m1, m2, hcd⟩
    obtain ⟨rfl, rfl⟩ := srchR_yes HYy.out hN HE.out m1 m2
    obtain ⟨A1, p1, A2, p2, rfl, hoo, hb3⟩ := hcd.shape
    obtain ⟨x1, hx1⟩ : ∃ x, x = (fitD m).acc.length := ⟨_, rfl⟩
    obtain ⟨x2, hx2⟩ : ∃ x, x = (fitD m).nxt.length := ⟨_, rfl⟩
    obtain ⟨ok, hok⟩ : ∃ b, b = decide (m.n ≤ 40) := ⟨_, rfl⟩
    rw [← hx1, ← hx2] at hoo ⊢
    rw [← hok]
    have HOk := Lib.hid hok
    have HO3 := Lib.hid hoo
    have HB3 := Lib.hid (HB1.out.trans ((HB2.out.trans (hb3.mono HB2.out.size)).mono HB1.out.size))
    have hz1 := HB1.out.size
    have hz2 := HB2.out.size
    have hz3 := hb3.size
    have hyl := blk_lt HY.out
    obtain ⟨c0, c1, k0, k1⟩ := box2_facts ((HB3.out.block _ hyl).trans HY.out)
    obtain ⟨hcl, hsz, hot, hBl⟩ := put2 (k := .slice A1 x1 p1) (l := .slice A2 x2 p2) c0 c1
    obtain ⟨hc0, hc1⟩ := hcl
    have HOt := Lib.hid (And.intro hsz (And.intro hot hBl))
    clear hsz hot hBl hoo hb3 hcd hx1 hx2 m1 m2 hok a0 a1 hW2 hW0
    go_wp2_with fail
    refine bodyPost_ret (v := .tuple #[.agg #[.slice A1 x1 p1, .slice A2 x2 p2], .bool ok]) (by simp [results, Tryz.results67, go_sem, hc0, hc1]) rfl ?_
    have h0 := HB0.out.size
    rw [← HOk.out]
    exact ⟨_, _, rfl, HO3.out.mono (fun g hg => HOt.out.2.1 g (by have := hg.1; omega)) (fun g hg => ⟨by have := hg.1; omega, by rw [HOt.out.1]; exact hg.2⟩) (by rw [HOt.out.1]; exact Nat.le_refl _), HOt.out.2.2 _ _ (HB0.out.trans (HB3.out.mono h0)) (by omega)⟩
  · have HB1 := Lib.hid hb1
    obtain ⟨rfl, rfl⟩ := srchR_no HYy.out hno
    obtain ⟨c0, c1, k0, k1⟩ := box2_facts (((HB1.out.alloc HB1.out.size (.cells #[.slice none 0 0, .slice none 0 0] 133)).block _ (blk_lt HY.out)).trans HY.out)
    obtain ⟨hcl, hsz, hot, hBl⟩ := put2 (k := .slice none 0 0) (l := .slice none 0 0) c0 c1
    obtain ⟨hr0, hr1⟩ := hcl
    have HOt := Lib.hid hBl
    clear hsz hot hBl hb1 hW0
    go_wp2_with fail
    refine bodyPost_ret (v := .tuple #[.agg #[.slice none 0 0, .slice none 0 0], .bool false]) (by simp [results, Tryz.results67, go_sem, hr0, hr1]) rfl ?_
    exact ⟨_, _, rfl, DfaO.empty _ _, HOt.out _ _ (HB0.out.trans ((HB1.out.alloc HB1.out.size _).mono HB0.out.size)) (by omega)⟩
end Go.Proofs.YtlkhmpdncimnfaaGreatDoor

/-
  What impl.minimizeStates, impl.MinimizeDfa and the closures that they take answer.
-/
namespace Go.Proofs.YtlkhmpdncimnfaaGreatDoor
open Go.RowKit

theorem implRejQ_any (bd : Nat) (ad : Addr) (n c q : Nat) (b : Bool) (w : World) (hq : q < n) (c0 : w.cell? ⟨bd, 0, none⟩ = some (.slice (some ad) n c)) (c1 : w.cell? (ad.add q) = some (.bool b)) :
    Calls Tryz.prog 84 #[.int .i64 (q : Int), .pointer (some ⟨bd, 0, none⟩)] w fun e w' => e = .returned (.bool (!b)) ∧ w = w' := by
  have s0 : (q : Int) < (n : Int) := by omega
  have s1 : (0 : Int) ≤ (q : Int) := by omega
  go_enter Tryz.func84, Tryz.ntmps84
  go_wp2_with fail
  go_ret
  exact ⟨rfl, rfl⟩
theorem implNextQ_any (bd : Nat) (ad' : Addr) (n c' q k : Nat) (ad2 : Addr) (c2 : Nat) (x : Int) (w : World) (hq : q < n) (hk : k < 3) (c0 : w.cell? ⟨bd, 1, none⟩ = some (.slice (some ad') n c')) (c1 : w.cell? (ad'.add q) = some (.slice (some ad2) 3 c2)) (h2 : w.cell? (ad2.add k) = some (.int .i64 x)) :
    Calls Tryz.prog 98 #[.int .i64 (q : Int), .int .i64 (k : Int), .pointer (some ⟨bd, 0, none⟩)] w fun e w' => e = .returned (.int .i64 x) ∧ w = w' := by
  have s0 : (q : Int) < (n : Int) := by omega
  have s1 : (0 : Int) ≤ (q : Int) := by omega
  have s2 : (k : Int) < 3 := by omega
  have s3 : (0 : Int) ≤ (k : Int) := by omega
  go_enter Tryz.func98, Tryz.ntmps98
  go_wp2_with fail
  go_ret
  exact ⟨rfl, rfl⟩

theorem enters_rej (args : Array Value) (w : World) : (callFunc 84 args).run Tryz.prog w = .ok (.enter 84 args) w := enters_of Tryz.func84 (by kernel_rfl) rfl args w
theorem enters_next (args : Array Value) (w : World) : (callFunc 98 args).run Tryz.prog w = .ok (.enter 98 args) w := enters_of Tryz.func98 (by kernel_rfl) rfl args w

/-- An automaton with other accepting states. -/
def accA (a : Au) (acc : Nat → Bool) : Au := ⟨a.n, acc, a.T⟩
theorem accA_wf {a : Au} (h : a.wf) (acc : Nat → Bool) : (accA a acc).wf := h
/-- The minimal automaton of a valid one under other accepting states. -/
def MinStY (d : Dx) (acc : Nat → Bool) (w : World) (e : Ending) (w' : World) : Prop := ∃ m, Canon m ∧ Eqv m 0 (accA (auD d) acc) 0 ∧ CopyD (fieldsOf m) w e w'

set_option maxRecDepth 100000 in
set_option maxHeartbeats 3200000 in
theorem implMinSt_yes (va vn : Value) (d : Dx) (S : Nat → Prop) (g2 : Nat) (lb2 : Array Value) (eg2 : ∀ args w, (callFunc g2 args).run Tryz.prog w = .ok (.enter g2 args) w) (acc : Nat → Bool) (w : World) (h : DfaV w S va vn d) (hv : validD d = true)
    (H2 : ∀ (V : World) (x : Nat), Below w.heap.size w V → x < d.acc.length → Calls Tryz.prog g2 (#[.int .i64 (x : Int)] ++ lb2) V fun e w' => e = .returned (.bool (acc x)) ∧ Below V.heap.size V w') :
    Calls Tryz.prog 83 #[.agg #[va, vn], .func (.func g2) #[] lb2] w (MinStY d acc w) := by
  have hmf : ∀ (fn : Fn) (first cap : Array Value) (w : World), (Instr.makeFunc fn first cap).run Tryz.prog w = .ok (.func fn first cap) w := fun _ _ _ _ => rfl
  obtain ⟨hw, hn40, hnn, hl, ad, c, ad', c', rfl, rfl, hA, hT⟩ := h.au hv
  obtain ⟨n, hne⟩ : ∃ n, n = d.acc.length := ⟨_, rfl⟩
  rw [← hne] at hA hT H2 hnn ⊢
  obtain ⟨W0, hW0⟩ : ∃ W0, W0 = (w.alloc (.cells #[.slice (some ad) n c, .slice (some ad') n c'] 29)).alloc (.cells #[.slice none 0 0, .slice none 0 0] 29) := ⟨_, rfl⟩
  have HB0 : Hid (Below w.heap.size w W0) := Lib.hid (by rw [hW0]; exact ((Below.refl _ _).alloc (Nat.le_refl _) _).alloc (by simp) _)
  have HX : Hid (Bx2 W0 w.heap.size (.slice (some ad) n c) (.slice (some ad') n c')) := Lib.hid (by
    have k := box2_kept (w := w) (w1 := W0) (a := .slice (some ad) n c) (b := .slice (some ad') n c') (t := 29) (by rw [hW0]; exact (Below.refl _ _).alloc (by simp) _)
    exact ⟨k.2.1, k.2.2.1⟩)
  have HY : Hid (W0.heap[w.heap.size + 1]? = some (.cells #[.slice none 0 0, .slice none 0 0] 29 (0, 0))) := Lib.hid (by rw [hW0]; exact three2 w _ _ _ _)
  have HV := Lib.hid (implValidD_any (.slice (some ad) n c) (.slice (some ad') n c') d S W0 (by rw [hne]; exact h.kept HB0.out))
  rw [hv] at HV
  obtain ⟨N, hN, hE⟩ := ends_some (s0 := 0) (g := (auD d).T) (M := (auD d).n) (fun t => (own_keys hw t).2)
  have hEa : Ends 0 (accA (auD d) acc).T N := hE
  obtain ⟨f1, f2, f3⟩ := own_found (accA_wf hw acc) hEa
  obtain ⟨m, m1, m2, m3⟩ := exists_min (hE.wf acc)
  have hm40 : m.n ≤ 40 := by
    have h5 : m.n ≤ N := m3
    omega
  have hsr : srchR 40 0 (auD d).T acc (fieldsOf m) true := .inl ⟨N, by omega, hE, m, m1, m2, by unfold fitD; rw [if_pos hm40], by simp [hm40]⟩
  have HM : Hid (Canon m ∧ Eqv m 0 (accA (auD d) acc) 0) := Lib.hid ⟨m1, Eqv.trans m2 f2⟩
  have HEx : Hid (∀ V : World, Below W0.heap.size W0 V → Calls Tryz.prog 67 #[.int .i64 0, .func (.func 98) #[] #[.pointer (some ⟨w.heap.size, 0, none⟩)], .func (.func g2) #[] lb2, .int .i64 40] V (CopyDB (fieldsOf m) true V)) := Lib.hid (fun V hV => by
    refine implMdI_any _ g2 _ lb2 enters_next eg2 (auD d).T acc n 40 0 V (by omega) (by omega) (by omega) (by rw [← hnn]; exact hw.1) (fun x k hx hk => by rw [← hnn] at hx ⊢; exact hw.2 x k hx hk) (fun U x k hU hx hk => ?_) (fun U x hU hx => ?_) _ _ hsr
    · have hb : Below w.heap.size w U := HB0.out.trans ((hV.trans (hU.mono hV.size)).mono HB0.out.size)
      obtain ⟨ad2, c2, h1, h2⟩ := hT x hx
      have h3 := h2 k hk
      exact (implNextQ_any w.heap.size ad' n c' x k ad2 c2 _ U hx hk (((HX.out.kept hV).kept hU).2) ((hb.cell (cell_in h1)).trans h1) ((hb.cell (cell_in h3)).trans h3)).mono (fun e w' he => ⟨he.1, by rw [← he.2]; exact Below.refl _ _⟩)
    · exact H2 U x (HB0.out.trans ((hV.trans (hU.mono hV.size)).mono HB0.out.size)) hx)
  obtain ⟨hc00, hc01⟩ := HX.out
  rw [hW0] at hc00 hc01
  clear h hA hT H2 hw hne hl hv hn40 hnn hN hE hEa f1 f2 f3 m1 m2 m3 hm40 hsr
  go_enter Tryz.func83, Tryz.ntmps83
  go_wp2_with fail
  go_at_call 69
  rw [← hW0]
  refine HV.out.mono ?_
  rintro e w1 ⟨rfl, hb1⟩
  have HB1 := Lib.hid hb1
  have HE1 := Lib.hid (HEx.out w1 hb1)
  clear hc00 hc01 hW0 hb1
  go_wp2_with fail
  go_at_call 67
  refine HE1.out.mono ?_
  rintro e w3 hcd
  obtain ⟨A1, p1, A2, p2, rfl, hoo, hb3⟩ := hcd.shape
  obtain ⟨x1, hx1⟩ : ∃ x, x = (fieldsOf m).acc.length := ⟨_, rfl⟩
  obtain ⟨x2, hx2⟩ : ∃ x, x = (fieldsOf m).nxt.length := ⟨_, rfl⟩
  rw [← hx1, ← hx2] at hoo ⊢
  have HO3 := Lib.hid hoo
  have HB3 := Lib.hid (HB1.out.trans (hb3.mono HB1.out.size))
  have hz1 := HB1.out.size
  have hz3 := hb3.size
  have hyl := blk_lt HY.out
  obtain ⟨W4, hW4⟩ : ∃ W4, W4 = w3.alloc (.cells #[.slice A1 x1 p1, .slice A2 x2 p2] 29) := ⟨_, rfl⟩
  have HX4 : Hid (W4.heap[w3.heap.size]? = some (.cells #[.slice A1 x1 p1, .slice A2 x2 p2] 29 (0, 0)) ∧ Below w3.heap.size w3 W4) := Lib.hid (by
    rw [hW4]
    exact ⟨heap_alloc_new w3 _, (Below.refl _ _).alloc (Nat.le_refl _) _⟩)
  obtain ⟨g0, g1, -, -⟩ := box2_facts HX4.out.1
  obtain ⟨c0, c1, k0, k1⟩ := box2_facts ((HX4.out.2.block _ (by omega)).trans ((HB3.out.block _ hyl).trans HY.out))
  obtain ⟨hcl, hsz, hot, hBl⟩ := put2 (k := .slice A1 x1 p1) (l := .slice A2 x2 p2) c0 c1
  obtain ⟨hc0, hc1⟩ := hcl
  have HOt := Lib.hid (And.intro hsz (And.intro hot hBl))
  have HW4 := Lib.hid hW4
  rw [hW4] at g0 g1 c0 c1 k0 k1 hc0 hc1
  clear hsz hot hBl hoo hb3 hcd hx1 hx2 hW4
  go_wp2_with fail
  refine bodyPost_ret (v := .agg #[.slice A1 x1 p1, .slice A2 x2 p2]) (by simp [results, Tryz.results83, go_sem, hc0, hc1]) rfl ?_
  rw [← HW4.out]
  have h0 := HB0.out.size
  have hz4 := HX4.out.2.size
  exact ⟨m, HM.out.1, HM.out.2, _, _, rfl, HO3.out.mono (fun g hg => (HOt.out.2.1 g (by have := hg.1; omega)).trans (HX4.out.2.block g hg.2)) (fun g hg => ⟨by have := hg.1; omega, by rw [HOt.out.1]; have := hg.2; omega⟩) (by rw [HOt.out.1]; exact hz4), HOt.out.2.2 _ _ (HB0.out.trans ((HB3.out.trans (HX4.out.2.mono HB3.out.size)).mono h0)) (Nat.le_succ _)⟩

set_option maxRecDepth 100000 in
set_option maxHeartbeats 3200000 in
theorem implMinSt_no (va vn : Value) (d : Dx) (S : Nat → Prop) (g2 : Nat) (lb2 : Array Value) (w : World) (h : DfaV w S va vn d) (hv : validD d = false) :
    Calls Tryz.prog 83 #[.agg #[va, vn], .func (.func g2) #[] lb2] w (CopyD ⟨[], []⟩ w) := by
  obtain ⟨W0, hW0⟩ : ∃ W0, W0 = (w.alloc (.cells #[va, vn] 29)).alloc (.cells #[.slice none 0 0, .slice none 0 0] 29) := ⟨_, rfl⟩
  have HB0 : Hid (Below w.heap.size w W0) := Lib.hid (by rw [hW0]; exact ((Below.refl _ _).alloc (Nat.le_refl _) _).alloc (by simp) _)
  have hx := (by
    have k := box2_kept (w := w) (w1 := W0) (a := va) (b := vn) (t := 29) (by rw [hW0]; exact (Below.refl _ _).alloc (by simp) _)
    exact ⟨k.2.1, k.2.2.1⟩ : Bx2 W0 w.heap.size va vn)
  have HY : Hid (W0.heap[w.heap.size + 1]? = some (.cells #[.slice none 0 0, .slice none 0 0] 29 (0, 0))) := Lib.hid (by rw [hW0]; exact three2 w _ _ _ _)
  have HV := Lib.hid (implValidD_any va vn d S W0 (h.kept HB0.out))
  rw [hv] at HV
  obtain ⟨⟨A, c, rfl⟩, A', c', rfl⟩ := h.shape
  obtain ⟨hc00, hc01⟩ := hx
  rw [hW0] at hc00 hc01
  clear h hv
  go_enter Tryz.func83, Tryz.ntmps83
  go_wp2_with fail
  go_at_call 69
  rw [← hW0]
  refine HV.out.mono ?_
  rintro e w1 ⟨rfl, hb1⟩
  obtain ⟨c0, c1, k0, k1⟩ := box2_facts ((hb1.block _ (blk_lt HY.out)).trans HY.out)
  obtain ⟨hcl, hsz, hot, hBl⟩ := put2 (k := .slice none 0 0) (l := .slice none 0 0) c0 c1
  obtain ⟨hc0, hc1⟩ := hcl
  have HOt := Lib.hid hBl
  have HB1 := Lib.hid hb1
  clear hc00 hc01 hW0 hb1 hsz hot hBl
  go_wp2_with fail
  refine bodyPost_ret (v := .agg #[.slice none 0 0, .slice none 0 0]) (by simp [results, Tryz.results83, go_sem, hc0, hc1]) rfl ?_
  exact ⟨_, _, rfl, DfaO.empty _ _, HOt.out _ _ (HB0.out.trans (HB1.out.mono HB0.out.size)) (Nat.le_succ _)⟩
end Go.Proofs.YtlkhmpdncimnfaaGreatDoor

/-
  What impl.ProductDfa, impl.product and the closures that they take answer.
  What impl.ProductDfa answers.
-/
namespace Go.Proofs.YtlkhmpdncimnfaaGreatDoor
open Go.RowKit

/-- A search over pairs ends. -/
theorem ords_pairs {s0 : Nat × Nat} {g : Nat × Nat → Nat → Nat × Nat} {Ma Mb : Nat} (h0 : okP Ma Mb s0) (hg : ∀ x k, okP Ma Mb x → k < 3 → okP Ma Mb (g x k)) (t : Nat) : (∀ x ∈ ords s0 g t, okP Ma Mb x) ∧ (ords s0 g t).length ≤ Ma * Mb := by
  have hall : ∀ t, ∀ x ∈ ords s0 g t, okP Ma Mb x := fun t => by
    induction t with
    | zero => intro x hx; simp [ords] at hx; rw [hx]; exact h0
    | succ t ih =>
      intro x hx
      rw [ords] at hx
      have hd : okP Ma Mb ((ords s0 g t).getD (t / 3) default) := by
        by_cases hl : t / 3 < (ords s0 g t).length
        · exact ih _ (getD_mem hl)
        · rw [List.getD_eq_getElem?_getD, List.getElem?_eq_none (by omega)]
          exact ⟨Nat.lt_of_le_of_lt (Nat.zero_le _) h0.1, Nat.lt_of_le_of_lt (Nat.zero_le _) h0.2⟩
      split at hx
      · exact ih x hx
      · rcases List.mem_append.1 hx with hx | hx
        · exact ih x hx
        · rw [List.mem_singleton] at hx
          rw [hx]
          exact hg _ _ hd (by omega)
  refine ⟨hall t, ?_⟩
  have hnd : ((ords s0 g t).map fun x => x.1 * Mb + x.2).Nodup := by
    rw [List.nodup_iff_pairwise_ne, List.pairwise_map]
    refine (ords_nodup (s0 := s0) (g := g) t).imp_of_mem ?_
    intro x y hx hy hne e
    have h1 := (hall t x hx).2
    have h2 := (hall t y hy).2
    apply hne
    have e1 : x.1 = y.1 := by rw [← pair_div (p := x.1) h1, ← pair_div (p := y.1) h2, e]
    have e2 : x.2 = y.2 := by rw [← pair_mod (p := x.1) h1, ← pair_mod (p := y.1) h2, e]
    exact Prod.ext e1 e2
  have := nodup_len (Ma * Mb) _ hnd (fun z hz => by
    obtain ⟨x, hx, rfl⟩ := List.mem_map.1 hz
    exact pair_lt (hall t x hx).1 (hall t x hx).2)
  rwa [List.length_map] at this
theorem implOrP_any (ba bb : Nat) (ad ad' : Addr) (n n' c c' p q : Nat) (x y : Bool) (w : World) (hp : p < n) (hq : q < n') (a0 : w.cell? ⟨ba, 0, none⟩ = some (.slice (some ad) n c)) (a1 : w.cell? (ad.add p) = some (.bool x))
    (b0 : w.cell? ⟨bb, 0, none⟩ = some (.slice (some ad') n' c')) (b1 : w.cell? (ad'.add q) = some (.bool y)) :
    Calls Tryz.prog 78 #[.agg #[.int .i64 (p : Int), .int .i64 (q : Int)], .pointer (some ⟨ba, 0, none⟩), .pointer (some ⟨bb, 0, none⟩)] w fun e w' => e = .returned (.bool (x || y)) ∧ Below w.heap.size w w' := by
  have s0 : (p : Int) < (n : Int) := by omega
  have s1 : (0 : Int) ≤ (p : Int) := by omega
  have s2 : (q : Int) < (n' : Int) := by omega
  have s3 : (0 : Int) ≤ (q : Int) := by omega
  obtain ⟨W0, hW0⟩ : ∃ W0, W0 = w.alloc (.cells #[.int .i64 (p : Int), .int .i64 (q : Int)] 121) := ⟨_, rfl⟩
  have hb0 : Below w.heap.size w W0 := by rw [hW0]; exact (Below.refl _ _).alloc (Nat.le_refl _) _
  have a0' := (hb0.cell (cell_in a0)).trans a0
  have a1' := (hb0.cell (cell_in a1)).trans a1
  have b0' := (hb0.cell (cell_in b0)).trans b0
  have b1' := (hb0.cell (cell_in b1)).trans b1
  obtain ⟨p0, p1, -, -⟩ := box2_facts (show W0.heap[w.heap.size]? = some (.cells #[.int .i64 (p : Int), .int .i64 (q : Int)] 121 (0, 0)) by rw [hW0]; exact heap_alloc_new w _)
  have HB0 := Lib.hid hb0
  clear a0 a1 b0 b1 hb0
  cases x with
  | true =>
    go_enter Tryz.func78, Tryz.ntmps78
    go_upto_region 1 with fail
    rw [← hW0]
    clear hW0
    go_wp2_with fail
    go_ret
    exact ⟨rfl, HB0.out⟩
  | false =>
    go_enter Tryz.func78, Tryz.ntmps78
    go_upto_region 1 with fail
    rw [← hW0]
    clear hW0
    go_wp2_with fail
    go_ret
    exact ⟨by simp, HB0.out⟩
theorem implAndP_any (ba bb : Nat) (ad ad' : Addr) (n n' c c' p q : Nat) (x y : Bool) (w : World) (hp : p < n) (hq : q < n') (a0 : w.cell? ⟨ba, 0, none⟩ = some (.slice (some ad) n c)) (a1 : w.cell? (ad.add p) = some (.bool x))
    (b0 : w.cell? ⟨bb, 0, none⟩ = some (.slice (some ad') n' c')) (b1 : w.cell? (ad'.add q) = some (.bool y)) :
    Calls Tryz.prog 79 #[.agg #[.int .i64 (p : Int), .int .i64 (q : Int)], .pointer (some ⟨ba, 0, none⟩), .pointer (some ⟨bb, 0, none⟩)] w fun e w' => e = .returned (.bool (x && y)) ∧ Below w.heap.size w w' := by
  have s0 : (p : Int) < (n : Int) := by omega
  have s1 : (0 : Int) ≤ (p : Int) := by omega
  have s2 : (q : Int) < (n' : Int) := by omega
  have s3 : (0 : Int) ≤ (q : Int) := by omega
  obtain ⟨W0, hW0⟩ : ∃ W0, W0 = w.alloc (.cells #[.int .i64 (p : Int), .int .i64 (q : Int)] 121) := ⟨_, rfl⟩
  have hb0 : Below w.heap.size w W0 := by rw [hW0]; exact (Below.refl _ _).alloc (Nat.le_refl _) _
  have a0' := (hb0.cell (cell_in a0)).trans a0
  have a1' := (hb0.cell (cell_in a1)).trans a1
  have b0' := (hb0.cell (cell_in b0)).trans b0
  have b1' := (hb0.cell (cell_in b1)).trans b1
  obtain ⟨p0, p1, -, -⟩ := box2_facts (show W0.heap[w.heap.size]? = some (.cells #[.int .i64 (p : Int), .int .i64 (q : Int)] 121 (0, 0)) by rw [hW0]; exact heap_alloc_new w _)
  have HB0 := Lib.hid hb0
  clear a0 a1 b0 b1 hb0
  cases x with
  | true =>
    go_enter Tryz.func79, Tryz.ntmps79
    go_upto_region 1 with fail
    rw [← hW0]
    clear hW0
    go_wp2_with fail
    go_ret
    exact ⟨by simp, HB0.out⟩
  | false =>
    go_enter Tryz.func79, Tryz.ntmps79
    go_upto_region 1 with fail
    rw [← hW0]
    clear hW0
    go_wp2_with fail
    go_ret
    exact ⟨by simp, HB0.out⟩

set_option maxRecDepth 100000 in
set_option maxHeartbeats 3200000 in
theorem implStepP_any (ba bb : Nat) (ad ad' : Addr) (n n' c c' p q k : Nat) (ra rb : Addr) (ca cb : Nat) (x y : Int) (w : World) (hp : p < n) (hq : q < n') (hk : k < 3)
    (a0 : w.cell? ⟨ba, 1, none⟩ = some (.slice (some ad) n c)) (a1 : w.cell? (ad.add p) = some (.slice (some ra) 3 ca)) (a2 : w.cell? (ra.add k) = some (.int .i64 x))
    (b0 : w.cell? ⟨bb, 1, none⟩ = some (.slice (some ad') n' c')) (b1 : w.cell? (ad'.add q) = some (.slice (some rb) 3 cb)) (b2 : w.cell? (rb.add k) = some (.int .i64 y)) :
    Calls Tryz.prog 95 #[.agg #[.int .i64 (p : Int), .int .i64 (q : Int)], .int .i64 (k : Int), .pointer (some ⟨ba, 0, none⟩), .pointer (some ⟨bb, 0, none⟩)] w fun e w' => e = .returned (.agg #[.int .i64 x, .int .i64 y]) ∧ Below w.heap.size w w' := by
  have s0 : (p : Int) < (n : Int) := by omega
  have s1 : (0 : Int) ≤ (p : Int) := by omega
  have s2 : (q : Int) < (n' : Int) := by omega
  have s3 : (0 : Int) ≤ (q : Int) := by omega
  have s4 : (k : Int) < 3 := by omega
  have s5 : (0 : Int) ≤ (k : Int) := by omega
  obtain ⟨W0, hW0⟩ : ∃ W0, W0 = (w.alloc (.cells #[.int .i64 (p : Int), .int .i64 (q : Int)] 121)).alloc (.cells #[.int .i64 0, .int .i64 0] 121) := ⟨_, rfl⟩
  have hb0 : Below w.heap.size w W0 := by rw [hW0]; exact ((Below.refl _ _).alloc (Nat.le_refl _) _).alloc (by simp) _
  have a0' := (hb0.cell (cell_in a0)).trans a0
  have a1' := (hb0.cell (cell_in a1)).trans a1
  have a2' := (hb0.cell (cell_in a2)).trans a2
  have b0' := (hb0.cell (cell_in b0)).trans b0
  have b1' := (hb0.cell (cell_in b1)).trans b1
  have b2' := (hb0.cell (cell_in b2)).trans b2
  obtain ⟨p0, p1, -, -⟩ := box2_facts (show W0.heap[w.heap.size]? = some (.cells #[.int .i64 (p : Int), .int .i64 (q : Int)] 121 (0, 0)) by rw [hW0]; exact (Below.heap_alloc _ _ _ (by simp)).trans (heap_alloc_new w _))
  have hy : W0.heap[w.heap.size + 1]? = some (.cells #[.int .i64 0, .int .i64 0] 121 (0, 0)) := by
    rw [hW0]
    have := heap_alloc_new (w.alloc (.cells #[.int .i64 (p : Int), .int .i64 (q : Int)] 121)) (.cells #[.int .i64 0, .int .i64 0] 121)
    rwa [World.size_alloc] at this
  obtain ⟨c0, c1, k0, k1⟩ := box2_facts hy
  obtain ⟨hcl, hsz, hot, hBl⟩ := put2 (k := .int .i64 x) (l := .int .i64 y) c0 c1
  obtain ⟨hc0, hc1⟩ := hcl
  have HOt := Lib.hid hBl
  have HB0 := Lib.hid hb0
  clear a0 a1 a2 b0 b1 b2 hb0 hy hsz hot hBl
  go_enter Tryz.func95, Tryz.ntmps95
  go_upto_region 1 with fail
  rw [← hW0]
  clear hW0
  go_still_tail 19, (by kernel_rfl)
  go_wp2_with fail
  refine bodyPost_ret (v := .agg #[.int .i64 x, .int .i64 y]) (by simp [results, Tryz.results95, go_sem, hc0, hc1]) rfl ?_
  exact ⟨rfl, (HOt.out _ _ HB0.out (Nat.le_succ _)).drew⟩

/-- Where letter k leads a pair. -/
def pairT (a b : Au) (x : Nat × Nat) (k : Nat) : Nat × Nat := (a.T x.1 k, b.T x.2 k)
theorem found_prd {a b : Au} {f : Bool → Bool → Bool} (hb : b.wf) {N : Nat} (h : Ends (0, 0) (pairT a b) N) : Eqv (found (0, 0) (pairT a b) (fun x => f (a.A x.1) (b.A x.2)) N) 0 (prd a b f) 0 := fun w hw => by
  rw [prd_lang hb w hw]
  have h1 := h.lang (acc := fun x : Nat × Nat => f (a.A x.1) (b.A x.2)) (L := fun x w => f (a.A (a.run x.1 w)) (b.A (b.run x.2 w))) (fun _ => rfl) (fun _ _ _ _ _ _ => rfl) w 0 hw h.pos
  rw [h1, ords_first]
theorem enters_step (args : Array Value) (w : World) : (callFunc 95 args).run Tryz.prog w = .ok (.enter 95 args) w := enters_of Tryz.func95 (by kernel_rfl) rfl args w
theorem enters_or (args : Array Value) (w : World) : (callFunc 78 args).run Tryz.prog w = .ok (.enter 78 args) w := enters_of Tryz.func78 (by kernel_rfl) rfl args w
theorem enters_and (args : Array Value) (w : World) : (callFunc 79 args).run Tryz.prog w = .ok (.enter 79 args) w := enters_of Tryz.func79 (by kernel_rfl) rfl args w
/-- The minimal automaton of a product, or none. -/
def PrdPost (a b : Au) (f : Bool → Bool → Bool) (w : World) (e : Ending) (w' : World) : Prop := ∃ m, Canon m ∧ Eqv m 0 (prd a b f) 0 ∧ CopyDB (fitD m) (decide (m.n ≤ 40)) w e w'
theorem three_box (w : World) (a b c : Obj) : let W := ((w.alloc a).alloc b).alloc c
    W.heap[w.heap.size]? = some a ∧ W.heap[w.heap.size + 1]? = some b ∧ W.heap[w.heap.size + 1 + 1]? = some c ∧ Below w.heap.size w W := by
  intro W
  have h1 := heap_alloc_new (w.alloc a) b
  have h2 := heap_alloc_new ((w.alloc a).alloc b) c
  rw [World.size_alloc] at h1 h2
  rw [World.size_alloc] at h2
  exact ⟨(Below.heap_alloc _ _ _ (by simp; omega)).trans ((Below.heap_alloc _ _ _ (by simp)).trans (heap_alloc_new w a)), (Below.heap_alloc _ _ _ (by simp)).trans h1, h2, (((Below.refl _ _).alloc (Nat.le_refl _) _).alloc (by simp) _).alloc (by simp; omega) _⟩

set_option maxRecDepth 100000 in
set_option maxHeartbeats 3200000 in
theorem implPrd_any (va vn va' vn' : Value) (d d' : Dx) (S S' : Nat → Prop) (f : Bool → Bool → Bool) (g2 : Nat) (lb2 : Array Value) (eg2 : ∀ args w, (callFunc g2 args).run Tryz.prog w = .ok (.enter g2 args) w) (w : World) (h : DfaV w S va vn d) (h' : DfaV w S' va' vn' d') (hv : validD d = true) (hv' : validD d' = true)
    (H2 : ∀ (V : World) (x : Nat × Nat), Below w.heap.size w V → okP d.acc.length d'.acc.length x → Calls Tryz.prog g2 (#[.agg #[.int .i64 (x.1 : Int), .int .i64 (x.2 : Int)]] ++ lb2) V fun e w' => e = .returned (.bool (f ((auD d).A x.1) ((auD d').A x.2))) ∧ Below V.heap.size V w') :
    Calls Tryz.prog 77 #[.agg #[va, vn], .agg #[va', vn'], .func (.func g2) #[] lb2] w (PrdPost (auD d) (auD d') f w) := by
  have hmf : ∀ (fn : Fn) (first cap : Array Value) (w : World), (Instr.makeFunc fn first cap).run Tryz.prog w = .ok (.func fn first cap) w := fun _ _ _ _ => rfl
  obtain ⟨hw, hn40, hnn, hl, ad, c, aN, c', rfl, rfl, hA, hT⟩ := h.au hv
  obtain ⟨hw', hn40', hnn', hl', ad', cc, aN', cc', rfl, rfl, hA', hT'⟩ := h'.au hv'
  obtain ⟨n, hne⟩ : ∃ n, n = d.acc.length := ⟨_, rfl⟩
  obtain ⟨n', hne'⟩ : ∃ n', n' = d'.acc.length := ⟨_, rfl⟩
  rw [← hne] at hT H2 hnn ⊢
  rw [← hne'] at hT' H2 hnn' ⊢
  obtain ⟨W0, hW0⟩ : ∃ W0, W0 = ((w.alloc (.cells #[.slice (some ad) n c, .slice (some aN) n c'] 29)).alloc (.cells #[.slice (some ad') n' cc, .slice (some aN') n' cc'] 29)).alloc (.cells #[.slice none 0 0, .slice none 0 0] 29) := ⟨_, rfl⟩
  have h3 := three_box w (.cells #[.slice (some ad) n c, .slice (some aN) n c'] 29) (.cells #[.slice (some ad') n' cc, .slice (some aN') n' cc'] 29) (.cells #[.slice none 0 0, .slice none 0 0] 29)
  rw [← hW0] at h3
  have HB0 : Hid (Below w.heap.size w W0) := Lib.hid h3.2.2.2
  have HX := Lib.hid h3.1
  have HX' := Lib.hid h3.2.1
  have HY := Lib.hid h3.2.2.1
  clear h3
  have hM : n * n' ≤ 1600 := by
    have := Nat.mul_le_mul (show n ≤ 40 by omega) (show n' ≤ 40 by omega)
    omega
  have h00 : okP n n' (0, 0) := ⟨by rw [← hnn]; exact hw.1, by rw [← hnn']; exact hw'.1⟩
  have hTT : ∀ x k, okP n n' x → k < 3 → okP n n' (pairT (auD d) (auD d') x k) := fun x k hx hk => ⟨by have := hw.2 x.1 k (by rw [hnn]; exact hx.1) hk; rw [hnn] at this; exact this, by have := hw'.2 x.2 k (by rw [hnn']; exact hx.2) hk; rw [hnn'] at this; exact this⟩
  obtain ⟨N, hN, hE⟩ := ends_some (s0 := (0, 0)) (g := pairT (auD d) (auD d')) (M := n * n') (fun t => (ords_pairs h00 hTT t).2)
  obtain ⟨m, m1, m2, -⟩ := exists_min (hE.wf fun x => f ((auD d).A x.1) ((auD d').A x.2))
  have HM : Hid (Canon m ∧ Eqv m 0 (prd (auD d) (auD d') f) 0) := Lib.hid ⟨m1, m2.trans (found_prd (f := f) hw' hE)⟩
  have HEx : Hid (Calls Tryz.prog 96 #[.agg #[.int .i64 0, .int .i64 0], .func (.func 95) #[] #[.pointer (some ⟨w.heap.size, 0, none⟩), .pointer (some ⟨w.heap.size + 1, 0, none⟩)], .func (.func g2) #[] lb2, .int .i64 1600] W0 (CopyDB (fitD m) (decide (m.n ≤ 40)) W0)) := Lib.hid (by
    refine implMdP_any _ g2 _ lb2 enters_step eg2 (pairT (auD d) (auD d')) (fun x => f ((auD d).A x.1) ((auD d').A x.2)) n n' 1600 (0, 0) W0 (by omega) (by omega) (by omega) (by omega) h00 hTT (fun U x k hU hx hk => ?_) (fun U x hU hx => ?_) _ _ (.inl ⟨N, by omega, hE, m, m1, m2, rfl, rfl⟩)
    · have hb : Below w.heap.size w U := HB0.out.trans (hU.mono HB0.out.size)
      obtain ⟨r1, q1, a1, a2⟩ := hT x.1 hx.1
      obtain ⟨r2, q2, b1, b2⟩ := hT' x.2 hx.2
      have a3 := a2 k hk
      have b3 := b2 k hk
      exact implStepP_any w.heap.size (w.heap.size + 1) aN aN' n n' c' cc' x.1 x.2 k r1 r2 q1 q2 _ _ U hx.1 hx.2 hk (box2_facts ((hU.block _ (blk_lt HX.out)).trans HX.out)).2.1 ((hb.cell (cell_in a1)).trans a1) ((hb.cell (cell_in a3)).trans a3) (box2_facts ((hU.block _ (blk_lt HX'.out)).trans HX'.out)).2.1 ((hb.cell (cell_in b1)).trans b1) ((hb.cell (cell_in b3)).trans b3)
    · exact H2 U x (HB0.out.trans (hU.mono HB0.out.size)) hx)
  clear h h' hA hT hA' hT' H2 hw hne hne' hl hl' hv hv' hn40 hnn hn40' hnn' hw' h00 hTT hN hE m1 m2
  go_enter Tryz.func77, Tryz.ntmps77
  go_wp2_with fail
  go_at_call 96
  rw [← hW0]
  refine HEx.out.mono ?_
  rintro e w3 hcd
  obtain ⟨A1, p1, A2, p2, rfl, hoo, hb3⟩ := hcd.shape
  obtain ⟨x1, hx1⟩ : ∃ x, x = (fitD m).acc.length := ⟨_, rfl⟩
  obtain ⟨x2, hx2⟩ : ∃ x, x = (fitD m).nxt.length := ⟨_, rfl⟩
  obtain ⟨ok, hok⟩ : ∃ b, b = decide (m.n ≤ 40) := ⟨_, rfl⟩
  rw [← hx1, ← hx2] at hoo ⊢
  rw [← hok]
  have HO3 := Lib.hid hoo
  have HOk := Lib.hid hok
  have HB3 := Lib.hid hb3
  have hz3 := hb3.size
  have hyl := blk_lt HY.out
  obtain ⟨c0, c1, k0, k1⟩ := box2_facts ((HB3.out.block _ hyl).trans HY.out)
  obtain ⟨hcl, hsz, hot, hBl⟩ := put2 (k := .slice A1 x1 p1) (l := .slice A2 x2 p2) c0 c1
  obtain ⟨hc0, hc1⟩ := hcl
  have HOt := Lib.hid (And.intro hsz (And.intro hot hBl))
  clear hsz hot hBl hoo hb3 hcd hx1 hx2 hok hW0
  go_wp2_with fail
  refine bodyPost_ret (v := .tuple #[.agg #[.slice A1 x1 p1, .slice A2 x2 p2], .bool ok]) (by simp [results, Tryz.results77, go_sem, hc0, hc1]) rfl ?_
  have h0 := HB0.out.size
  refine ⟨m, HM.out.1, HM.out.2, ?_⟩
  rw [← HOk.out]
  exact ⟨_, _, rfl, HO3.out.mono (fun g hg => HOt.out.2.1 g (by have := hg.1; omega)) (fun g hg => ⟨by have := hg.1; omega, by rw [HOt.out.1]; exact hg.2⟩) (by rw [HOt.out.1]; exact Nat.le_refl _), HOt.out.2.2 _ _ (HB0.out.trans (HB3.out.mono h0)) (by omega)⟩
end Go.Proofs.YtlkhmpdncimnfaaGreatDoor

namespace Go.Proofs.YtlkhmpdncimnfaaGreatDoor
open Go.RowKit

set_option maxRecDepth 100000 in
set_option maxHeartbeats 6400000 in
theorem implPro_any (va vn va' vn' : Value) (d d' : Dx) (S S' : Nat → Prop) (kind : Int) (y : Dx) (ok : Bool) (w : World) (h : DfaV w S va vn d) (h' : DfaV w S' va' vn' d') (hy : proR d d' kind y ok) :
    Calls Tryz.prog 40 #[.agg #[va, vn], .agg #[va', vn'], .int .i64 kind] w (CopyDB y ok w) := by
  have hmf : ∀ (fn : Fn) (first cap : Array Value) (w : World), (Instr.makeFunc fn first cap).run Tryz.prog w = .ok (.func fn first cap) w := fun _ _ _ _ => rfl
  obtain ⟨W0, hW0⟩ : ∃ W0, W0 = ((w.alloc (.cells #[va, vn] 29)).alloc (.cells #[va', vn'] 29)).alloc (.cells #[.slice none 0 0, .slice none 0 0] 29) := ⟨_, rfl⟩
  have h3 := three_box w (.cells #[va, vn] 29) (.cells #[va', vn'] 29) (.cells #[.slice none 0 0, .slice none 0 0] 29)
  rw [← hW0] at h3
  have HB0 : Hid (Below w.heap.size w W0) := Lib.hid h3.2.2.2
  have HX := Lib.hid h3.1
  have HX' := Lib.hid h3.2.1
  have HY := Lib.hid h3.2.2.1
  clear h3
  have HV := Lib.hid (implValidD_any va vn d S W0 (h.kept HB0.out))
  have HV' := Lib.hid (fun (V : World) (hV : Below w.heap.size w V) => implValidD_any va' vn' d' S' V (h'.kept hV))
  have HPr : Hid (validD d = true → validD d' = true → ∀ (f : Bool → Bool → Bool) (g : Nat) (eg : ∀ args w, (callFunc g args).run Tryz.prog w = .ok (.enter g args) w) (V : World), Below W0.heap.size W0 V → (∀ (U : World) (p q : Nat) (ad ad' : Addr) (c c' : Nat) (x z : Bool), p < d.acc.length → q < d'.acc.length → U.cell? ⟨w.heap.size, 0, none⟩ = some (.slice (some ad) d.acc.length c) → U.cell? (ad.add p) = some (.bool x) → U.cell? ⟨w.heap.size + 1, 0, none⟩ = some (.slice (some ad') d'.acc.length c') → U.cell? (ad'.add q) = some (.bool z) → Calls Tryz.prog g #[.agg #[.int .i64 (p : Int), .int .i64 (q : Int)], .pointer (some ⟨w.heap.size, 0, none⟩), .pointer (some ⟨w.heap.size + 1, 0, none⟩)] U fun e w' => e = .returned (.bool (f x z)) ∧ Below U.heap.size U w') →
      Calls Tryz.prog 77 #[.agg #[va, vn], .agg #[va', vn'], .func (.func g) #[] #[.pointer (some ⟨w.heap.size, 0, none⟩), .pointer (some ⟨w.heap.size + 1, 0, none⟩)]] V (PrdPost (auD d) (auD d') f V)) := Lib.hid (fun hv hv' f g eg V hV hc => by
    have hb : Below w.heap.size w V := HB0.out.trans (hV.mono HB0.out.size)
    refine implPrd_any va vn va' vn' d d' S S' f g _ eg V (h.kept hb) (h'.kept hb) hv hv' (fun U x hU hx => ?_)
    have hbU : Below w.heap.size w U := hb.trans (hU.mono hb.size)
    have hbW : Below W0.heap.size W0 U := hV.trans (hU.mono hV.size)
    obtain ⟨-, -, -, -, ad, c, aN, c', hva, hvn, hA, -⟩ := h.au hv
    obtain ⟨-, -, -, -, ad', cc, aN', cc', hva', hvn', hA', -⟩ := h'.au hv'
    have a1 := hA x.1 hx.1
    have b1 := hA' x.2 hx.2
    refine hc U x.1 x.2 ad ad' c cc _ _ hx.1 hx.2 ?_ ((hbU.cell (cell_in a1)).trans a1) ?_ ((hbU.cell (cell_in b1)).trans b1)
    · rw [← hva]
      exact (box2_facts ((hbW.block _ (blk_lt HX.out)).trans HX.out)).1
    · rw [← hva']
      exact (box2_facts ((hbW.block _ (blk_lt HX'.out)).trans HX'.out)).1)
  obtain ⟨⟨A, c, hA⟩, A', c', hA'⟩ := h.shape
  obtain ⟨⟨B, e, hB⟩, B', e', hB'⟩ := h'.shape
  subst hA
  subst hA'
  subst hB
  subst hB'
  obtain ⟨hc0, hc1, -, -⟩ := box2_facts HX.out
  obtain ⟨hd0, hd1, -, -⟩ := box2_facts HX'.out
  rw [hW0] at hc0 hc1 hd0 hd1
  have HYy := Lib.hid hy
  obtain ⟨v, hv⟩ : ∃ v, v = validD d := ⟨_, rfl⟩
  obtain ⟨v', hv'⟩ : ∃ v, v = validD d' := ⟨_, rfl⟩
  rw [← hv] at HV
  rw [← hv'] at HV'
  have HVe := Lib.hid (And.intro hv hv')
  clear h h' hy hv hv'
  go_enter Tryz.func40, Tryz.ntmps40
  go_wp2_with fail
  go_at_call 69
  rw [← hW0]
  refine HV.out.mono ?_
  rintro e1 w1 ⟨rfl, hb1⟩
  have HB1 := Lib.hid hb1
  clear hc0 hc1 hd0 hd1 hW0 hb1
  have hw1 := Lib.hid (HB0.out.trans (HB1.out.mono HB0.out.size))
  obtain ⟨hc0, hc1, -, -⟩ := box2_facts ((HB1.out.block _ (blk_lt HX.out)).trans HX.out)
  obtain ⟨hd0, hd1, -, -⟩ := box2_facts ((HB1.out.block _ (blk_lt HX'.out)).trans HX'.out)
  cases v with
  | false =>
    obtain ⟨rfl, rfl⟩ := proR_no HYy.out (fun hh => by have := HVe.out.1; rw [hh.1] at this; cases this)
    obtain ⟨c0, c1, k0, k1⟩ := box2_facts ((HB1.out.block _ (blk_lt HY.out)).trans HY.out)
    obtain ⟨hcl, hsz, hot, hBl⟩ := put2 (k := .slice none 0 0) (l := .slice none 0 0) c0 c1
    obtain ⟨hr0, hr1⟩ := hcl
    have HOt := Lib.hid hBl
    clear hsz hot hBl
    go_wp2_with fail
    refine bodyPost_ret (v := .tuple #[.agg #[.slice none 0 0, .slice none 0 0], .bool false]) (by simp [results, Tryz.results40, go_sem, hr0, hr1]) rfl ?_
    exact ⟨_, _, rfl, DfaO.empty _ _, HOt.out _ _ (HB0.out.trans (HB1.out.mono HB0.out.size)) (by omega)⟩
  | true =>
    go_wp2_with fail
    go_at_call 69
    refine (HV'.out w1 hw1.out).mono ?_
    rintro e2 w2 ⟨rfl, hb2⟩
    have HB2 := Lib.hid (HB1.out.trans (hb2.mono HB1.out.size))
    clear hc0 hc1 hd0 hd1 hb2
    obtain ⟨hc0, hc1, -, -⟩ := box2_facts ((HB2.out.block _ (blk_lt HX.out)).trans HX.out)
    obtain ⟨hd0, hd1, -, -⟩ := box2_facts ((HB2.out.block _ (blk_lt HX'.out)).trans HX'.out)
    cases v' with
    | false =>
      obtain ⟨rfl, rfl⟩ := proR_no HYy.out (fun hh => by have := HVe.out.2; rw [hh.2.1] at this; cases this)
      obtain ⟨c0, c1, k0, k1⟩ := box2_facts ((HB2.out.block _ (blk_lt HY.out)).trans HY.out)
      obtain ⟨hcl, hsz, hot, hBl⟩ := put2 (k := .slice none 0 0) (l := .slice none 0 0) c0 c1
      obtain ⟨hr0, hr1⟩ := hcl
      have HOt := Lib.hid hBl
      clear hsz hot hBl
      go_wp2_with fail
      refine bodyPost_ret (v := .tuple #[.agg #[.slice none 0 0, .slice none 0 0], .bool false]) (by simp [results, Tryz.results40, go_sem, hr0, hr1]) rfl ?_
      exact ⟨_, _, rfl, DfaO.empty _ _, HOt.out _ _ (HB0.out.trans (HB2.out.mono HB0.out.size)) (by omega)⟩
    | true =>
      by_cases h6 : kind = 6
      · subst h6
        have HP := Lib.hid (HPr.out HVe.out.1.symm HVe.out.2.symm (· || ·) _ enters_or w2 HB2.out (fun U p q ad ad' c c' x z hp hq a0 a1 b0 b1 => implOrP_any _ _ ad ad' _ _ c c' p q x z U hp hq a0 a1 b0 b1))
        go_wp2_with fail
        go_at_call 77
        refine HP.out.mono ?_
        rintro e3 w3 ⟨m, m1, m2, hcd⟩
        obtain ⟨rfl, rfl⟩ := proR_yes HYy.out HVe.out.1.symm HVe.out.2.symm (by simp) m1 m2
        obtain ⟨A1, p1, A2, p2, rfl, hoo, hb3⟩ := hcd.shape
        obtain ⟨x1, hx1⟩ : ∃ x, x = (fitD m).acc.length := ⟨_, rfl⟩
        obtain ⟨x2, hx2⟩ : ∃ x, x = (fitD m).nxt.length := ⟨_, rfl⟩
        obtain ⟨ok, hok⟩ : ∃ b, b = decide (m.n ≤ 40) := ⟨_, rfl⟩
        rw [← hx1, ← hx2] at hoo ⊢
        rw [← hok]
        have HOk := Lib.hid hok
        have HO3 := Lib.hid hoo
        have HB3 := Lib.hid (HB2.out.trans (hb3.mono HB2.out.size))
        have hz2 := HB2.out.size
        have hz3 := hb3.size
        have hyl := blk_lt HY.out
        obtain ⟨c0, c1, k0, k1⟩ := box2_facts ((HB3.out.block _ hyl).trans HY.out)
        obtain ⟨hcl, hsz, hot, hBl⟩ := put2 (k := .slice A1 x1 p1) (l := .slice A2 x2 p2) c0 c1
        obtain ⟨hr0, hr1⟩ := hcl
        have HOt := Lib.hid (And.intro hsz (And.intro hot hBl))
        clear hsz hot hBl hoo hb3 hcd hx1 hx2 m1 m2 hok hc0 hc1 hd0 hd1
        go_wp2_with fail
        refine bodyPost_ret (v := .tuple #[.agg #[.slice A1 x1 p1, .slice A2 x2 p2], .bool ok]) (by simp [results, Tryz.results40, go_sem, hr0, hr1]) rfl ?_
        have h0 := HB0.out.size
        rw [← HOk.out]
        exact ⟨_, _, rfl, HO3.out.mono (fun g hg => HOt.out.2.1 g (by have := hg.1; omega)) (fun g hg => ⟨by have := hg.1; omega, by rw [HOt.out.1]; exact hg.2⟩) (by rw [HOt.out.1]; exact Nat.le_refl _), HOt.out.2.2 _ _ (HB0.out.trans (HB3.out.mono h0)) (by omega)⟩
      · by_cases h7 : kind = 7
        · subst h7
          have HP := Lib.hid (HPr.out HVe.out.1.symm HVe.out.2.symm (· && ·) _ enters_and w2 HB2.out (fun U p q ad ad' c c' x z hp hq a0 a1 b0 b1 => implAndP_any _ _ ad ad' _ _ c c' p q x z U hp hq a0 a1 b0 b1))
          go_wp2_with fail
          go_at_call 77
          refine HP.out.mono ?_
          rintro e3 w3 ⟨m, m1, m2, hcd⟩
          obtain ⟨rfl, rfl⟩ := proR_yes HYy.out HVe.out.1.symm HVe.out.2.symm (by simp) m1 m2
          obtain ⟨A1, p1, A2, p2, rfl, hoo, hb3⟩ := hcd.shape
          obtain ⟨x1, hx1⟩ : ∃ x, x = (fitD m).acc.length := ⟨_, rfl⟩
          obtain ⟨x2, hx2⟩ : ∃ x, x = (fitD m).nxt.length := ⟨_, rfl⟩
          obtain ⟨ok, hok⟩ : ∃ b, b = decide (m.n ≤ 40) := ⟨_, rfl⟩
          rw [← hx1, ← hx2] at hoo ⊢
          rw [← hok]
          have HOk := Lib.hid hok
          have HO3 := Lib.hid hoo
          have HB3 := Lib.hid (HB2.out.trans (hb3.mono HB2.out.size))
          have hz2 := HB2.out.size
          have hz3 := hb3.size
          have hyl := blk_lt HY.out
          obtain ⟨c0, c1, k0, k1⟩ := box2_facts ((HB3.out.block _ hyl).trans HY.out)
          obtain ⟨hcl, hsz, hot, hBl⟩ := put2 (k := .slice A1 x1 p1) (l := .slice A2 x2 p2) c0 c1
          obtain ⟨hr0, hr1⟩ := hcl
          have HOt := Lib.hid (And.intro hsz (And.intro hot hBl))
          clear hsz hot hBl hoo hb3 hcd hx1 hx2 m1 m2 hok hc0 hc1 hd0 hd1
          go_wp2_with fail
          refine bodyPost_ret (v := .tuple #[.agg #[.slice A1 x1 p1, .slice A2 x2 p2], .bool ok]) (by simp [results, Tryz.results40, go_sem, hr0, hr1]) rfl ?_
          have h0 := HB0.out.size
          rw [← HOk.out]
          exact ⟨_, _, rfl, HO3.out.mono (fun g hg => HOt.out.2.1 g (by have := hg.1; omega)) (fun g hg => ⟨by have := hg.1; omega, by rw [HOt.out.1]; exact hg.2⟩) (by rw [HOt.out.1]; exact Nat.le_refl _), HOt.out.2.2 _ _ (HB0.out.trans (HB3.out.mono h0)) (by omega)⟩
        · have k6 : (kind == 6) = false := by simpa using h6
          have k7 : (kind == 7) = false := by simpa using h7
          obtain ⟨rfl, rfl⟩ := proR_no HYy.out (fun hh => by rcases hh.2.2 with e | e; exact h6 e; exact h7 e)
          clear h6 h7
          obtain ⟨c0, c1, k0, k1⟩ := box2_facts ((HB2.out.block _ (blk_lt HY.out)).trans HY.out)
          obtain ⟨hcl, hsz, hot, hBl⟩ := put2 (k := .slice none 0 0) (l := .slice none 0 0) c0 c1
          obtain ⟨hr0, hr1⟩ := hcl
          have HOt := Lib.hid hBl
          clear hsz hot hBl
          go_wp2_with fail
          refine bodyPost_ret (v := .tuple #[.agg #[.slice none 0 0, .slice none 0 0], .bool false]) (by simp [results, Tryz.results40, go_sem, hr0, hr1]) rfl ?_
          exact ⟨_, _, rfl, DfaO.empty _ _, HOt.out _ _ (HB0.out.trans (HB2.out.mono HB0.out.size)) (by omega)⟩
end Go.Proofs.YtlkhmpdncimnfaaGreatDoor
