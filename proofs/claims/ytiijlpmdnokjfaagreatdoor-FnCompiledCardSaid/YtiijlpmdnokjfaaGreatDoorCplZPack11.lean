/- Texts of one proof. -/
import Derived.Laws.EntriesVeiled
import Derived.Test.YtiijlpmdnokjfaaGreatDoorCplZPack10
set_option maxRecDepth 100000
set_option maxHeartbeats 20000000
namespace Go.Proofs.YtiijlpmdnokjfaaGreatDoor
open Go.RowKit
theorem enters_cat2 (args : Array Value) (w : World) : (callFunc 80 args).run Tryz.prog w = .ok (.enter 80 args) w := enters_of Tryz.func80 (by kernel_rfl) rfl args w
theorem enters_cat3 (args : Array Value) (w : World) : (callFunc 83 args).run Tryz.prog w = .ok (.enter 83 args) w := enters_of Tryz.func83 (by kernel_rfl) rfl args w
theorem implCat_any (va vn va' vn' : Value) (d d' : Dx) (S S' : Nat -> Prop) (y : Dx) (ok : Bool) (w : World) (h : DfaV w S va vn d) (h' : DfaV w S' va' vn' d') (hy : catR d d' y ok) (hTab : Tab w) :
    Calls Tryz.prog 43 #[.agg #[va, vn], .agg #[va', vn']] w (CopyDB y ok w) := by
  have hmf : ∀ (fn : Fn) (first cap : Array Value) (w : World), (Instr.makeFunc fn first cap).run Tryz.prog w = .ok (.func fn first cap) w := λ _ _ _ _ => rfl
  obtain ⟨W0, hW0⟩ : ∃ W0, W0 = ((w.alloc (.cells #[va, vn] 31)).alloc (.cells #[va', vn'] 31)).alloc (.cells #[.slice none 0 0, .slice none 0 0] 31) := ⟨_, rfl⟩
  have h3 := three_box' w (.cells #[va, vn] 31) (.cells #[va', vn'] 31) (.cells #[.slice none 0 0, .slice none 0 0] 31)
  rw [<- hW0] at h3
  have HB0 : Hid (Below w.heap.size w W0) := Lib.hid h3.2.2.2
  have HX := Lib.hid h3.1
  have HX' := Lib.hid h3.2.1
  have HY := Lib.hid h3.2.2.1
  clear h3
  have HV := Lib.hid (implValidD_any va vn d S W0 (h.kept HB0.out))
  have HV' := Lib.hid (λ (V : World) (hV : Below w.heap.size w V) => implValidD_any va' vn' d' S' V (h'.kept hV))
  obtain ⟨⟨A, c, rfl⟩, A', c', rfl⟩ := h.shape
  obtain ⟨⟨B, e, rfl⟩, B', e', rfl⟩ := h'.shape
  obtain ⟨hc0, hc1, -, -⟩ := box2_facts HX.out
  obtain ⟨hd0, hd1, -, -⟩ := box2_facts HX'.out
  rw [hW0] at hc0 hc1 hd0 hd1
  cases hv : validD d with
  | false =>
    rw [hv] at HV
    unfold catR at hy
    rw [if_neg (by rw [hv]; simp)] at hy
    obtain ⟨rfl, rfl⟩ := hy
    clear h h' hv hTab
    go_enter Tryz.func43, Tryz.ntmps43
    go_wp2_with fail
    go_at_call 32
    rw [<- hW0]
    refine HV.out.mono ?_
    rintro e1 w1 ⟨rfl, hb1⟩
    obtain ⟨c0, c1, k0, k1⟩ := box2_facts ((hb1.block _ (blk_lt HY.out)).trans HY.out)
    obtain ⟨hcl, hsz, hot, hBl⟩ := put2 (k := .slice none 0 0) (l := .slice none 0 0) c0 c1
    obtain ⟨hr0, hr1⟩ := hcl
    have HOt := Lib.hid hBl
    have HB1 := Lib.hid hb1
    clear hc0 hc1 hd0 hd1 hW0 hb1 hsz hot hBl
    go_wp2_with fail
    refine bodyPost_ret (v := .tuple #[.agg #[.slice none 0 0, .slice none 0 0], .bool false]) (by simp [results, Tryz.results43, go_sem, hr0, hr1]) rfl ?_
    exact ⟨_, _, rfl, DfaO.empty _ _, HOt.out _ _ (HB0.out.trans (HB1.out.mono HB0.out.size)) (by omega)⟩
  | true =>
  rw [hv] at HV
  cases hv' : validD d' with
  | false =>
    rw [hv'] at HV'
    unfold catR at hy
    rw [if_neg (by rw [hv']; simp)] at hy
    obtain ⟨rfl, rfl⟩ := hy
    clear h h' hv hv' hTab
    go_enter Tryz.func43, Tryz.ntmps43
    go_wp2_with fail
    go_at_call 32
    rw [<- hW0]
    refine HV.out.mono ?_
    rintro e1 w1 ⟨rfl, hb1⟩
    have HB1 := Lib.hid hb1
    clear hc0 hc1 hd0 hd1 hW0 hb1
    obtain ⟨hd0, hd1, -, -⟩ := box2_facts ((HB1.out.block _ (blk_lt HX'.out)).trans HX'.out)
    go_wp2_with fail
    go_at_call 32
    refine (HV'.out w1 (HB0.out.trans (HB1.out.mono HB0.out.size))).mono ?_
    rintro e2 w2 ⟨rfl, hb2⟩
    have HB2 := Lib.hid (HB1.out.trans (hb2.mono HB1.out.size))
    obtain ⟨c0, c1, k0, k1⟩ := box2_facts ((HB2.out.block _ (blk_lt HY.out)).trans HY.out)
    obtain ⟨hcl, hsz, hot, hBl⟩ := put2 (k := .slice none 0 0) (l := .slice none 0 0) c0 c1
    obtain ⟨hr0, hr1⟩ := hcl
    have HOt := Lib.hid hBl
    clear hd0 hd1 hb2 hsz hot hBl
    go_wp2_with fail
    refine bodyPost_ret (v := .tuple #[.agg #[.slice none 0 0, .slice none 0 0], .bool false]) (by simp [results, Tryz.results43, go_sem, hr0, hr1]) rfl ?_
    exact ⟨_, _, rfl, DfaO.empty _ _, HOt.out _ _ (HB0.out.trans (HB2.out.mono HB0.out.size)) (by omega)⟩
  | true =>
    rw [hv'] at HV'
    unfold catR at hy
    rw [if_pos ⟨hv, hv'⟩] at hy
    obtain ⟨hw, hn40, hnn, hl, ad, cc, aN, cN, hva, hvn, hA, hT⟩ := h.au hv
    obtain ⟨hw', hn40', hnn', hl', ad', cc', aN', cN', hva', hvn', hA', hT'⟩ := h'.au hv'
    injection hva with e1 e2 e3
    injection hvn with e4 e5 e6
    injection hva' with e1' e2' e3'
    injection hvn' with e4' e5' e6'
    subst e1
    subst e3
    subst e4
    subst e6
    subst e1'
    subst e3'
    subst e4'
    subst e6'
    rw [e5] at HX hW0 HV hc1
    rw [e5'] at HX' hW0 HV' hd1
    rw [e5, e5']
    obtain ⟨n, hne⟩ : ∃ n, n = d.acc.length := ⟨_, rfl⟩
    obtain ⟨n', hne'⟩ : ∃ n, n = d'.acc.length := ⟨_, rfl⟩
    rw [<- hne] at HX HV hc0 hc1 hnn hA hT
    rw [<- hne'] at HX' HV' hd0 hd1 hnn' hA' hT'
    rw [<- hne, <- hne'] at hW0 ⊢
    rw [<- hne'] at hc0 hc1
    rw [<- hne] at hd0 hd1
    have HAu : Hid (∀ V, Below W0.heap.size W0 V -> AuB V w.heap.size n ad c aN c' (auD d)) := Lib.hid (λ V hV => by
      have hb := HB0.out.trans (hV.mono HB0.out.size)
      obtain ⟨x0, x1, -, -⟩ := box2_facts ((hV.block _ (blk_lt HX.out)).trans HX.out)
      refine ⟨x0, x1, λ q hq => (hb.cell (cell_in (hA q hq))).trans (hA q hq), λ q hq => ?_⟩
      obtain ⟨r, q', h1, h2⟩ := hT q hq
      exact ⟨r, q', (hb.cell (cell_in h1)).trans h1, λ k hk => (hb.cell (cell_in (h2 k hk))).trans (h2 k hk)⟩)
    have HAu' : Hid (∀ V, Below W0.heap.size W0 V -> AuB V (w.heap.size + 1) n' ad' e aN' e' (auD d')) := Lib.hid (λ V hV => by
      have hb := HB0.out.trans (hV.mono HB0.out.size)
      obtain ⟨x0, x1, -, -⟩ := box2_facts ((hV.block _ (blk_lt HX'.out)).trans HX'.out)
      refine ⟨x0, x1, λ q hq => (hb.cell (cell_in (hA' q hq))).trans (hA' q hq), λ q hq => ?_⟩
      obtain ⟨r, q', h1, h2⟩ := hT' q hq
      exact ⟨r, q', (hb.cell (cell_in h1)).trans h1, λ k hk => (hb.cell (cell_in (h2 k hk))).trans (h2 k hk)⟩)
    have hw2 : ∀ q k, q < n -> k < 3 -> (auD d).T q k < n := λ q k hq hk => by rw [<- hnn] at hq ⊢; exact hw.2 q k hq hk
    have hw2' : ∀ q k, q < n' -> k < 3 -> (auD d').T q k < n' := λ q k hq hk => by rw [<- hnn'] at hq ⊢; exact hw'.2 q k hq hk
    have hn0 : 0 < n := by rw [<- hnn]; exact hw.1
    have hn0' : 0 < n' := by rw [<- hnn']; exact hw'.1
    have HAc := Lib.hid (λ (V : World) (hV : Below W0.heap.size W0 V) => implAccSt_any ad' n' e (.slice (some aN') n' e') (auD d') V (by omega) (HAu'.out V hV).2.2.1)
    have HTab := Lib.hid (λ (V : World) (hV : Below w.heap.size w V) => hTab.kept hV)
    have HEl := Lib.hid (λ (V : World) (hV : Below W0.heap.size W0 V) => implCatE_any w.heap.size n ad c aN c' (auD d) 0 [] V (HAu.out V hV) hn0 (by simp))
    have hst : mskS (addS (auD d) 0 []) = mskS (catS (auD d)).2 := by
      unfold addS catS
      cases (auD d).A 0 <;> rfl
    rw [hst] at HEl
    have HMd : Hid (∀ (V : World) (be bm : Nat), Below W0.heap.size W0 V -> V.cell? ⟨be, 0, none⟩ = some (.func (.func 79) #[] #[.pointer (some ⟨w.heap.size, 0, none⟩)]) -> V.cell? ⟨bm, 0, none⟩ = some (.int .u64 ((mskS (accS (auD d') n') : Nat) : Int)) ->
        Calls Tryz.prog 85 #[.agg #[.int .i64 0, .int .u64 ((mskS (catS (auD d)).2 : Nat) : Int)], .func (.func 80) #[] #[.pointer (some ⟨be, 0, none⟩), .pointer (some ⟨w.heap.size, 0, none⟩), .pointer (some ⟨w.heap.size + 1, 0, none⟩)], .func (.func 83) #[] #[.pointer (some ⟨bm, 0, none⟩)], .int .i64 400] V (CopyDB y ok V)) := Lib.hid (λ V be bm hV hbe hbm => by
      refine implMdC_any _ _ _ _ enters_cat2 enters_cat3 (catG (auD d) (auD d')) (λ x => anyS (auD d') x.2) n n' 400 (catS (auD d)) V (by omega) (by omega) (by omega) (by omega) (catS_ok hn0 hn0') (λ x k hx hk => catG_ok hn0' (λ q hq => hw2 q k hq hk) (λ q hq => hw2' q k hq hk) hx) (λ U x k hU hx hk => ?_) (λ U x hU hx => ?_) y ok hy
      . exact implCatT_any be w.heap.size (w.heap.size + 1) n n' ad c aN c' (auD d) ad' e aN' e' (auD d') x k U (HAu.out U (hV.trans (hU.mono hV.size))) (HAu'.out U (hV.trans (hU.mono hV.size))) hx hk (by omega) (λ q hq => hw2 q k hq hk) (λ q hq => hw2' q k hq hk) ((hU.cell (cell_in hbe)).trans hbe) (HTab.out U (HB0.out.trans ((hV.trans (hU.mono hV.size)).mono HB0.out.size)))
      . exact implCatA_any bm n' (auD d') _ x.2 U (by omega) hx.2.2 hnn' ((hU.cell (cell_in hbm)).trans hbm))
    obtain ⟨m0, hm0⟩ : ∃ m, m = mskS (catS (auD d)).2 := ⟨_, rfl⟩
    rw [<- hm0] at HEl HMd
    clear h h' hy hTab hv hv' hw hn40 hnn hl hA hT e5 hne hw2 hn0 hw' hn40' hnn' hl' hA' hT' e5' hne' hw2' hn0' hst hm0
    go_enter Tryz.func43, Tryz.ntmps43
    go_wp2_with fail
    go_at_call 32
    rw [<- hW0]
    refine HV.out.mono ?_
    rintro e1 w1 ⟨rfl, hb1⟩
    have HB1 := Lib.hid hb1
    clear hc0 hc1 hd0 hd1 hW0 hb1
    obtain ⟨hd0, hd1, -, -⟩ := HAu'.out w1 HB1.out
    go_wp2_with fail
    go_at_call 32
    refine (HV'.out w1 (HB0.out.trans (HB1.out.mono HB0.out.size))).mono ?_
    rintro e2 w2 ⟨rfl, hb2⟩
    have HB2 := Lib.hid (HB1.out.trans (hb2.mono HB1.out.size))
    clear hd0 hd1 hb2
    obtain ⟨W3, hW3⟩ : ∃ W3, W3 = w2.alloc (.cells #[.func (.func 79) #[] #[.pointer (some ⟨w.heap.size, 0, none⟩)]] 124) := ⟨_, rfl⟩
    have HB3 : Hid (Below W0.heap.size W0 W3) := Lib.hid (by rw [hW3]; exact HB2.out.alloc HB2.out.size _)
    have hbe := (cell_of_row W3 w2.heap.size 0 _ _ (0, 0) (by rw [hW3]; exact heap_alloc_new w2 _)).trans (rfl : _ = some (Value.func (.func 79) #[] #[.pointer (some ⟨w.heap.size, 0, none⟩)]))
    have HBe := Lib.hid hbe
    obtain ⟨hd0, hd1, -, -⟩ := HAu'.out W3 HB3.out
    go_upto_region 4 with fail
    rw [<- hW3]
    clear hW3 hbe
    go_wp2_with fail
    go_at_call 82
    refine (HAc.out W3 HB3.out).mono ?_
    rintro e3 w4 ⟨rfl, hb4⟩
    obtain ⟨W5, hW5⟩ : ∃ W5, W5 = w4.alloc (.cells #[.int .u64 ((mskS (accS (auD d') n') : Nat) : Int)] 121) := ⟨_, rfl⟩
    have HB35 : Hid (Below W3.heap.size W3 W5) := Lib.hid (by rw [hW5]; exact hb4.alloc hb4.size _)
    have HB5 : Hid (Below W0.heap.size W0 W5) := Lib.hid (HB3.out.trans (HB35.out.mono HB3.out.size))
    have hbe5 := (HB35.out.cell (cell_in HBe.out)).trans HBe.out
    have HBe5 := Lib.hid hbe5
    have hcm : W5.cell? ⟨w4.heap.size, 0, none⟩ = some (.int .u64 ((mskS (accS (auD d') n') : Nat) : Int)) := (cell_of_row W5 w4.heap.size 0 _ _ (0, 0) (by rw [hW5]; exact heap_alloc_new w4 _)).trans rfl
    have HCm := Lib.hid hcm
    clear hd0 hd1 hb4 hcm
    go_upto_region 6 with fail
    rw [<- hW5]
    clear hW5
    have hE := HEl.out W5 HB5.out
    rw [show ((0 : Nat) : Int) = 0 from rfl, show ((mskS [] : Nat) : Int) = 0 from rfl] at hE
    have HE := Lib.hid hE
    clear hE
    go_wp2_with fail
    refine HE.out.mono ?_
    rintro e5 w6 ⟨rfl, hb6⟩
    have HB6 : Hid (Below W0.heap.size W0 w6) := Lib.hid (HB5.out.trans (hb6.mono HB5.out.size))
    have HMm := Lib.hid (HMd.out w6 w2.heap.size w4.heap.size HB6.out ((hb6.cell (cell_in HBe5.out)).trans HBe5.out) ((hb6.cell (cell_in HCm.out)).trans HCm.out))
    clear hbe5 hb6
    go_wp2_with fail
    go_at_call 85
    refine HMm.out.mono ?_
    rintro e7 w7 hcd
    obtain ⟨A1, p1, A2, p2, rfl, hoo, hb4⟩ := hcd.shape
    obtain ⟨x1, hx1⟩ : ∃ x, x = y.acc.length := ⟨_, rfl⟩
    obtain ⟨x2, hx2⟩ : ∃ x, x = y.nxt.length := ⟨_, rfl⟩
    rw [<- hx1, <- hx2] at hoo ⊢
    have HO4 := Lib.hid hoo
    have HB4 := Lib.hid (HB6.out.trans (hb4.mono HB6.out.size))
    have hz3 := HB6.out.size
    have hyl := blk_lt HY.out
    obtain ⟨c0, c1, k0, k1⟩ := box2_facts ((HB4.out.block _ hyl).trans HY.out)
    obtain ⟨hcl, hsz, hot, hBl⟩ := put2 (k := .slice A1 x1 p1) (l := .slice A2 x2 p2) c0 c1
    obtain ⟨hr0, hr1⟩ := hcl
    have HOt := Lib.hid (And.intro hsz (And.intro hot hBl))
    clear hsz hot hBl hoo hb4 hcd hx1 hx2
    go_wp2_with fail
    refine bodyPost_ret (v := .tuple #[.agg #[.slice A1 x1 p1, .slice A2 x2 p2], .bool ok]) (by simp [results, Tryz.results43, go_sem, hr0, hr1]) rfl ?_
    have h0 := HB0.out.size
    exact ⟨_, _, rfl, HO4.out.mono (λ g hg => HOt.out.2.1 g (by have := hg.1; omega)) (λ g hg => ⟨by have := hg.1; omega, by rw [HOt.out.1]; exact hg.2⟩) (by rw [HOt.out.1]; exact Nat.le_refl _), HOt.out.2.2 _ _ (HB0.out.trans (HB4.out.mono h0)) (by omega)⟩
end Go.Proofs.YtiijlpmdnokjfaaGreatDoor
namespace Go.Proofs.YtiijlpmdnokjfaaGreatDoor
open Go.RowKit Go.Maps
theorem seInfo : (Tryz.prog.info? 136).map (λ i => (i.zero, i.size, i.bytes)) = some (some (.agg #[.bool false, .int .u64 0]), 2, 16) := by kernel_rfl
theorem laidOut_progR : laidOutB Tryz.prog = true := by kernel_rfl
theorem lawSE : Keyed Tryz.prog 136 := Keyed.of_law (deep_law_gate laidOut_progR (of_decide_eq_true (by kernel_rfl)) (of_decide_eq_true (by kernel_rfl)) (by kernel_rfl) (by kernel_rfl))
def klR (x : Bool × List Nat) : Lit := .string (keyBytes [.bool x.1, .int .u64 ((mskS x.2 : Nat) : Int)])
theorem klR_key {nb : Nat} (hb : nb <= 40) {x : Bool × List Nat} (h : okR nb x) : keyOf Tryz.prog 136 (.agg #[.bool x.1, .int .u64 ((mskS x.2 : Nat) : Int)]) = some (klR x) := by
  have h2 := msk_wf (s := x.2) (λ q hq => by have := h.2 q hq; omega)
  have hk : Tryz.prog.keyType 136 = true := by kernel_rfl
  have hc : Tryz.prog.cellsOf 136 = 2 := by kernel_rfl
  have hi : Tryz.prog.cellsOf 4 = 1 := by kernel_rfl
  have hi' : Tryz.prog.cellsOf 121 = 1 := by kernel_rfl
  have hsz : 136 < Tryz.prog.types.size := of_decide_eq_true (by kernel_rfl)
  obtain ⟨m, hm⟩ : ∃ m, Tryz.prog.types.size = m + 1 := ⟨Tryz.prog.types.size - 1, by omega⟩
  have hu := Tryz.underlying136
  have hv := Tryz.underlying4
  have hv' := Tryz.underlying121
  obtain ⟨P, hP⟩ : ∃ P, P = Tryz.prog := ⟨_, rfl⟩
  rw [<- hP] at hk hc hi hi' hm hu hv hv' ⊢
  simp [keyOf, hu, hk, Value.formed, Program.keyLits, hc, hi, hi', Value.cells, hm, hv, hv', h2, klR]
theorem klR_inj {nb : Nat} (hb : nb <= 40) (x y : Bool × List Nat) (hx : okR nb x) (hy : okR nb y) (h : klR x = klR y) : x = y := by
  have h1 := klR_key hb hx
  have h2 := klR_key hb hy
  rw [<- h] at h2
  have h3 := lawSE.inj h1 h2
  simp at h3
  exact Prod.ext h3.1 (msk_inj hx.1 hy.1 (by omega))
def seC (l : List (Bool × List Nat)) : List Value := l.flatMap λ x => [.bool x.1, .int .u64 ((mskS x.2 : Nat) : Int)]
theorem seC_snoc (l : List (Bool × List Nat)) (x : Bool × List Nat) : seC (l ++ [x]) = seC l ++ [.bool x.1, .int .u64 ((mskS x.2 : Nat) : Int)] := by simp [seC]
theorem seC_at : ∀ (l : List (Bool × List Nat)) (i : Nat), i < l.length -> (seC l)[i * 2]? = some (.bool ((l.getD i default)).1) /\ (seC l)[i * 2 + 1]? = some (.int .u64 ((mskS ((l.getD i default)).2 : Nat) : Int))
  | [], i, h => absurd h (Nat.not_lt_zero _)
  | x :: l, 0, _ => ⟨rfl, rfl⟩
  | x :: l, i + 1, h => by
    have ih := seC_at l i (by simpa using h)
    have e : seC (x :: l) = .bool x.1 :: .int .u64 ((mskS x.2 : Nat) : Int) :: seC l := rfl
    rw [e, show (i + 1) * 2 = i * 2 + 1 + 1 by omega]
    simpa using ih
theorem implExpR_any (g1 g2 : Nat) (lb1 lb2 : Array Value) (eg1 : ∀ args w, (callFunc g1 args).run Tryz.prog w = .ok (.enter g1 args) w) (eg2 : ∀ args w, (callFunc g2 args).run Tryz.prog w = .ok (.enter g2 args) w)
    (T : Bool × List Nat -> Nat -> Bool × List Nat) (acc : Bool × List Nat -> Bool) (nb : Nat) (M : Nat) (x0 : Bool × List Nat) (w : World) (hb : nb <= 40) (hM : M <= 2000) (hM1 : 1 <= M) (h0 : okR nb x0) (hT : ∀ x k, okR nb x -> k < 3 -> okR nb (T x k))
    (H1 : ∀ (V : World) (x : Bool × List Nat) (k : Nat), Below w.heap.size w V -> okR nb x -> k < 3 -> Calls Tryz.prog g1 ((#[.agg #[.bool x.1, .int .u64 ((mskS x.2 : Nat) : Int)], .int .i64 (k : Int)] ++ lb1)) V λ e w' => e = .returned (.agg #[.bool ((T x k)).1, .int .u64 ((mskS ((T x k)).2 : Nat) : Int)]) /\ Below V.heap.size V w')
    (H2 : ∀ (V : World) (x : Bool × List Nat), Below w.heap.size w V -> okR nb x -> Calls Tryz.prog g2 (#[.agg #[.bool x.1, .int .u64 ((mskS x.2 : Nat) : Int)]] ++ lb2) V λ e w' => e = .returned (.bool (acc x)) /\ Below V.heap.size V w') :
    Calls Tryz.prog 121 #[.agg #[.bool x0.1, .int .u64 ((mskS x0.2 : Nat) : Int)], .func (.func g1) #[] lb1, .func (.func g2) #[] lb2, .int .i64 (M : Int)] w (ExpPost x0 T acc M w) := by
  obtain ⟨i0, hi, hz0, hz1, hz2⟩ := info_parts seInfo
  obtain ⟨b0, hbi, hb0, hb1, hb2⟩ := info_parts boolInfo
  obtain ⟨r0, hri, hr0, hr1, hr2⟩ := info_parts rowInfo3
  have hmm := @run_makeMap Tryz.prog
  have HIn : Hid (∀ x y, okR nb x -> okR nb y -> klR x = klR y -> x = y) := Lib.hid (λ x y hx hy h => klR_inj hb x y hx hy h)
  have HKy : Hid (∀ x, okR nb x -> keyOf Tryz.prog 136 (.agg #[.bool x.1, .int .u64 ((mskS x.2 : Nat) : Int)]) = some (klR x)) := Lib.hid (λ x h => klR_key hb h)
  have HKeys : Hid (∀ i, (∀ j, j < i -> j < (ords x0 T (3 * j)).length) -> ∀ t, t <= 3 * i -> ∀ x ∈ ords x0 T t, okR nb x) := Lib.hid (λ i ha t => ords_ok (Ok := okR nb) h0 hT ha t)
  have HTT := Lib.hid hT
  have HH1 := Lib.hid H1
  have HH2 := Lib.hid H2
  clear hT H1 H2
  obtain ⟨W2, hW2⟩ : ∃ W2, W2 = ((w.alloc (.cells #[.bool x0.1, .int .u64 ((mskS x0.2 : Nat) : Int)] 136)).alloc (.cells #[.slice none 0 0, .slice none 0 0] 107)).alloc (.cells #[.slice none 0 0, .slice none 0 0] 107) := ⟨_, rfl⟩
  have HB2 : Hid (Below w.heap.size w W2) := Lib.hid (by rw [hW2]; exact (((Below.refl _ _).alloc (Nat.le_refl _) _).alloc (by simp) _).alloc (by simp; omega) _)
  have HZ2 : Hid (W2.heap.size = w.heap.size + 1 + 1 + 1) := Lib.hid (by rw [hW2]; simp)
  have HX2 : Hid (W2.heap[w.heap.size + 1]? = some (.cells #[.slice none 0 0, .slice none 0 0] 107 (0, 0)) /\ W2.heap[w.heap.size + 1 + 1]? = some (.cells #[.slice none 0 0, .slice none 0 0] 107 (0, 0))) := Lib.hid (by
    rw [hW2]
    have h1 := heap_alloc_new (w.alloc (.cells #[.bool x0.1, .int .u64 ((mskS x0.2 : Nat) : Int)] 136)) (.cells #[.slice none 0 0, .slice none 0 0] 107)
    have h2 := heap_alloc_new ((w.alloc (.cells #[.bool x0.1, .int .u64 ((mskS x0.2 : Nat) : Int)] 136)).alloc (.cells #[.slice none 0 0, .slice none 0 0] 107)) (.cells #[.slice none 0 0, .slice none 0 0] 107)
    rw [World.size_alloc] at h1 h2
    rw [World.size_alloc] at h2
    exact ⟨(Below.heap_alloc _ _ _ (by simp)).trans h1, h2⟩)
  have HP2 : Hid (W2.heap[w.heap.size]? = some (.cells #[.bool x0.1, .int .u64 ((mskS x0.2 : Nat) : Int)] 136 (0, 0))) := Lib.hid (by
    rw [hW2]
    exact (Below.heap_alloc _ _ _ (by simp; omega)).trans ((Below.heap_alloc _ _ _ (by simp)).trans (heap_alloc_new w _)))
  go_enter Tryz.func121, Tryz.ntmps121
  go_upto_region 2 with fail
  rw [<- hW2]
  clear hW2
  have hk0 := HKy.out x0 h0
  have hown0 := World.ownsMap_made (H := Unit) W2 Tryz.prog 136 (plainElem Tryz.prog 3)
  have hpa : (W2.alloc (.map #[] 0)).heap[w.heap.size]? = some (.cells #[.bool x0.1, .int .u64 ((mskS x0.2 : Nat) : Int)] 136 (0, 0)) := (Below.heap_alloc _ _ _ (by have := HZ2.out; omega)).trans HP2.out
  obtain ⟨p0, p1, -, -⟩ := box2_facts hpa
  have HPa := Lib.hid hpa
  clear hpa
  go_upto_region 3 with (refine wpList_insert_own _ rfl (.tmp 19) (.tmp 20) _ 177 rfl 136 3 lawSE Tryz.underlying177 _ W2.heap.size 0 _ rfl hown0 (by unfold maxLen; omega) _ _ _ rfl rfl hk0 _ [] (plainElem_int Tryz.underlying3 (a := 0) (by decide)) ?_; intro w3 hown3 hg3)
  have hp3 : w3.heap[w.heap.size]? = some (.cells #[.bool x0.1, .int .u64 ((mskS x0.2 : Nat) : Int)] 136 (0, 0)) := (hg3.block _ (blk_lt HPa.out) (λ e => by injection e with e; have := HZ2.out; omega)).trans HPa.out
  obtain ⟨p2, p3, -, -⟩ := box2_facts hp3
  clear p0 p1 hp3
  go_wp2_with fail
  clear p2 p3
  obtain ⟨bM, hbM⟩ : ∃ bM, bM = W2.heap.size := ⟨_, rfl⟩
  rw [<- hbM] at hown3 hg3 ⊢
  obtain ⟨W4, hW4⟩ : ∃ W4, W4 = w3.alloc (.cells #[.bool x0.1, .int .u64 ((mskS x0.2 : Nat) : Int)] 136) := ⟨_, rfl⟩
  rw [<- hW4]
  obtain ⟨B, hB⟩ : ∃ B, B = w.heap.size + 1 + 1 := ⟨_, rfl⟩
  rw [<- hB] at HX2 HZ2 ⊢
  have HBe := Lib.hid hB
  have hmx : MapOf klR (okR nb) ((DataW.map []).put (klR x0) (.lit (.int .i64 0))) [x0] := (MapOf.nil klR (okR nb)).put HIn.out (λ x _ => by trivial) h0 (by simp)
  have HS4 : Hid (ExpS 136 2 B bM B (.slice none 0 0) (.slice none 0 0) (.slice (some ⟨w3.heap.size, 0, none⟩) 1 1) [] 0 [] 1 (seC [x0]) 1 ((DataW.map []).put (klR x0) (.lit (.int .i64 0))) W4 /\ Below B W2 W4) := Lib.hid (by
    have hg2 : W2.grownBy (W2.alloc (.map #[] 0)) none := World.grownBy_alloc _ _ _
    have hz := HZ2.out
    have hba : Below B W2 (W2.alloc (.map #[] 0)) := (Below.refl _ _).alloc (by omega) _
    have hb3 : Below B W2 w3 := hba.grown hg3 (by simp; omega) (λ k e => by cases e; omega)
    have hb4 : Below B W2 W4 := by rw [hW4]; exact hb3.alloc (by have := hb3.size; omega) _
    refine ⟨⟨⟨rfl, .inl ⟨rfl, rfl⟩⟩, ⟨rfl, .inl ⟨rfl, rfl⟩⟩, ?_, ?_, ?_, ⟨Nat.le_refl _, by omega⟩, by decide, by decide, by decide⟩, hb4⟩
    . rw [hW4]
      exact ⟨rfl, .inr ⟨w3.heap.size, 1, #[.bool x0.1, .int .u64 ((mskS x0.2 : Nat) : Int)], rfl, by have := hb3.size; omega, heap_alloc_new w3 _, Nat.le_refl _, by decide, rfl, rfl⟩⟩
    . rw [hW4]
      exact hown3.alloc _
    . rw [hW4]
      have h1 := (hg3.block B (by simp; omega) (λ e => by injection e with e; omega)).trans ((Below.heap_alloc W2 _ B (by omega)).trans HX2.out.2)
      exact (Below.heap_alloc w3 _ B (blk_lt h1)).trans h1)
  have HM4 := Lib.hid hmx
  clear hown0 hown3 hg3 hW4 hmx hB hbM hk0
  have HE0 : Hid (ords x0 T (3 * 0) = [x0]) := Lib.hid rfl
  go_loopw [12, 13] (λ vo iv wr => ∃ (i : Nat) (va vr : Value) (D : DataW Unit), iv = .int .i64 i /\ i <= M /\ Hid ((ords x0 T (3 * i)).length <= M) /\ Hid (Below B W2 wr) /\ Hid (∀ j, j < i -> j < (ords x0 T (3 * j)).length) /\ Hid (ExpS 136 2 B bM B va vr vo ((List.range i).map λ j => acc (keyA x0 T j)) i (rowsC x0 T i) (ords x0 T (3 * i)).length (seC (ords x0 T (3 * i))) (ords x0 T (3 * i)).length D wr /\ MapOf klR (okR nb) D (ords x0 T (3 * i)))) (λ _ iv _ => M + 1 - (intOf iv).toNat)
  case atStart => exact ⟨0, _, _, _, rfl, Nat.zero_le _, Lib.hid hM1, Lib.hid HS4.out.2, Lib.hid (λ j hj => absurd hj (Nat.not_lt_zero _)), Lib.hid ⟨HS4.out.1, HM4.out⟩⟩
  case round =>
    obtain ⟨i, va, vr, D, rfl, hin, HLe, HBr, hon, HS⟩ := hrel
    clear HS4 HM4 HE0
    obtain ⟨l, hl⟩ : ∃ l, l = ords x0 T (3 * i) := ⟨_, rfl⟩
    rw [<- hl] at HS
    have hll : l.length <= M := by rw [hl]; exact HLe.out
    have hl0 : 0 < l.length := by rw [hl]; exact ords_pos _
    obtain ⟨go, co, hvo, -, -⟩ := own_cell HS.out.1.ord hl0
    subst hvo
    have HL := Lib.hid hl
    by_cases hlt : i < l.length
    . have hi1 : i < (ords x0 T (3 * i)).length := by rw [<- hl]; exact hlt
      have HON : Hid (∀ j, j < i + 1 -> j < (ords x0 T (3 * j)).length) := Lib.hid (λ j hj => by
        rcases Nat.lt_or_eq_of_le (Nat.le_of_lt_succ hj) with h | h
        . exact hon.out j h
        . rw [h]; exact hi1)
      clear hl
      have hd : decide ((i : Int) < (l.length : Int)) = true := by simp; omega
      go_upto_region 9 with fail
      obtain ⟨bx, hbx⟩ : ∃ bx, bx = wr.heap.size := ⟨_, rfl⟩
      obtain ⟨V0, hV0⟩ : ∃ V0, V0 = wr.alloc (.cells #[.int .i64 0, .int .i64 0, .int .i64 0] 153) := ⟨_, rfl⟩
      rw [<- hV0, <- hbx]
      obtain ⟨accs, hacc⟩ : ∃ accs, accs = (List.range i).map λ j => acc (keyA x0 T j) := ⟨_, rfl⟩
      obtain ⟨rows, hrows⟩ : ∃ rows, rows = rowsC x0 T i := ⟨_, rfl⟩
      rw [<- hacc, <- hrows] at HS
      have HAc := Lib.hid (And.intro hacc hrows)
      have hal : accs.length = i := by rw [hacc]; simp
      have HAl := Lib.hid hal
      have HNx : Hid (ExpN B bM B va vr (.slice (some ⟨go, 0, none⟩) l.length co) bx) := Lib.hid (HS.out.1.fresh (by rw [hbx]; exact Nat.le_refl _))
      have HS0 : Hid (Below B W2 V0 /\ (ExpS 136 2 B bM B va vr (.slice (some ⟨go, 0, none⟩) l.length co) accs i rows (ords x0 T (3 * i + 0)).length (seC (ords x0 T (3 * i + 0))) (ords x0 T (3 * i + 0)).length D V0 /\ MapOf klR (okR nb) D (ords x0 T (3 * i + 0))) /\ Arr3 V0 bx (cutV (toA x0 T i) 0)) := Lib.hid (by
        rw [Nat.add_zero, <- HL.out]
        refine ⟨by rw [hV0]; exact HBr.out.alloc (Nat.le_of_lt HS.out.1.base) _, ⟨HS.out.1.below (by rw [hV0]; exact (Below.refl _ _).alloc (Nat.le_refl _) _), HS.out.2⟩, ?_⟩
        rw [hV0, hbx]
        exact heap_alloc_new wr _)
      clear hd hV0 hacc hrows hal HS hbx
      go_loopw [12, 30] (λ vo kv wq => ∃ (k : Nat) (D : DataW Unit), kv = .int .i64 k /\ k <= 3 /\ Hid ((ords x0 T (3 * i + k)).length <= M) /\ Hid (Below B W2 wq /\ (ExpS 136 2 B bM B va vr vo accs i rows (ords x0 T (3 * i + k)).length (seC (ords x0 T (3 * i + k))) (ords x0 T (3 * i + k)).length D wq /\ MapOf klR (okR nb) D (ords x0 T (3 * i + k))) /\ Arr3 wq bx (cutV (toA x0 T i) k))) (λ _ kv _ => 3 - (intOf kv).toNat)
      case atStart => exact ⟨0, _, rfl, Nat.zero_le _, HLe, HS0⟩
      case round =>
        obtain ⟨k, Dk, rfl, hk, HLk, HQ⟩ := hrel
        clear HS0
        by_cases hk3 : k < 3
        . obtain ⟨st1, st2⟩ := keyA_step (s0 := x0) (g := T) hi1 hk3
          obtain ⟨hil, hkey⟩ := keyA_at (s0 := x0) (g := T) (t := 3 * i + k) hi1 (by omega)
          have hxM : okR nb (keyA x0 T i) := HKeys.out (i + 1) HON.out (3 * i) (by omega) _ (getD_mem hi1)
          obtain ⟨x, hx⟩ : ∃ x, x = keyA x0 T i := ⟨_, rfl⟩
          obtain ⟨lq, hlq⟩ : ∃ lq, lq = ords x0 T (3 * i + k) := ⟨_, rfl⟩
          rw [<- hx, <- hlq] at st1 st2
          rw [<- hlq] at HQ hil hkey
          rw [<- hx] at hkey hxM
          have hlqM : lq.length <= M := by rw [hlq]; exact HLk.out
          have HLq := Lib.hid (And.intro hlq hx)
          have HLe2 := Lib.hid hlqM
          clear hlq hx
          obtain ⟨y, hy⟩ : ∃ y, y = T x k := ⟨_, rfl⟩
          have hyM : okR nb y := by rw [hy]; exact HTT.out x k hxM hk3
          rw [<- hy] at st1 st2
          obtain ⟨gq, cq, hvq, -, hcq⟩ := own_cell HQ.out.2.1.1.ord (by omega)
          subst hvq
          have hpc := seC_at lq i hil
          rw [hkey] at hpc
          have hci := (hcq (i * 2) (by omega)).trans hpc.1
          have hcj := (hcq (i * 2 + 1) (by omega)).trans hpc.2
          clear hpc
          have HC1 : Hid (Calls Tryz.prog g1 ((#[.agg #[.bool x.1, .int .u64 ((mskS x.2 : Nat) : Int)], .int .i64 (k : Int)] ++ lb1)) wr λ e w' => e = .returned (.agg #[.bool y.1, .int .u64 ((mskS y.2 : Nat) : Int)]) /\ Below wr.heap.size wr w') := Lib.hid (by
            rw [hy]
            refine HH1.out wr x k (HB2.out.trans (HQ.out.1.mono ?_)) hxM hk3
            have := HBe.out
            omega)
          have HSt := Lib.hid (And.intro st1 st2)
          have s1 : (i : Int) < (lq.length : Int) := by omega
          have s2 : (0 : Int) <= (i : Int) := by omega
          have s3 : (k : Int) < 3 := by omega
          have s4 : (0 : Int) <= (k : Int) := by omega
          clear hcq st1 st2 hkey hy
          go_wp2_with fail
          refine HC1.out.mono ?_
          rintro e w4 ⟨rfl, hb4⟩
          clear hci hcj
          go_upto_region 12 with fail
          obtain ⟨be, hbe⟩ : ∃ be, be = w4.heap.size := ⟨_, rfl⟩
          obtain ⟨w5, hw5⟩ : ∃ w5, w5 = w4.alloc (.cells #[.bool y.1, .int .u64 ((mskS y.2 : Nat) : Int)] 136) := ⟨_, rfl⟩
          rw [<- hw5, <- hbe]
          have hb5 : Below wr.heap.size wr w5 := by rw [hw5]; exact hb4.alloc hb4.size _
          have HE5 : Hid (w5.heap[be]? = some (.cells #[.bool y.1, .int .u64 ((mskS y.2 : Nat) : Int)] 136 (0, 0)) /\ bM ≠ be) := Lib.hid (by
            rw [hw5, hbe]
            refine ⟨heap_alloc_new w4 _, λ e => ?_⟩
            have h1 := HQ.out.2.1.1.map.lt
            have h2 := hb4.size
            omega)
          obtain ⟨p0, p1, -, -⟩ := box2_facts HE5.out.1
          clear hb4 hbe hw5
          have HQ5 := Lib.hid (And.intro (HQ.out.1.trans (hb5.mono (Nat.le_trans (by have := HZ2.out; omega) HQ.out.1.size))) (And.intro (HQ.out.2.1.1.below hb5) (HQ.out.2.2.same (hb5.block _ HQ.out.2.2.lt))))
          have HMo := Lib.hid HQ.out.2.1.2
          obtain ⟨kf1, kf2⟩ := HQ5.out.2.2.facts hk3
          have hky := HKy.out y hyM
          clear hb5
          by_cases hyl : y ∈ lq
          . have hhas : Maps.has Dk (klR y) = true := by rw [(HMo.out.2 y hyM).1]; simpa using hyl
            have HHit := Lib.hid (And.intro ((HMo.out.2 y hyM).2 hyl) (HSt.out.1 hyl))
            clear hyl
            go_wp2_with (at_lookup; refine wpList_lookup_own_ok_int _ rfl (.tmp 41) (.tmp 42) 177 rfl 136 3 .i64 lawSE Tryz.underlying177 Tryz.underlying3 (zeroInt _) bM _ _ rfl HQ5.out.2.1.map _ _ rfl hky ?_; intro c hat hwc)
            have hc : c = ((toA x0 T i k : Nat) : Int) := by
              have h1 := HHit.out.1 (.lit (.int .i64 0))
              rw [hat] at h1
              rw [HHit.out.2.2]
              injection h1 with h1
              injection h1 with _ h1
            subst hc
            have HQ6 : Hid (Below B W2 (w5.setCell ⟨bx, k, none⟩ (.int .i64 ((toA x0 T i k : Nat) : Int))) /\ (ExpS 136 2 B bM B va vr (.slice (some ⟨gq, 0, none⟩) lq.length cq) accs i rows (ords x0 T (3 * i + (k + 1))).length (seC (ords x0 T (3 * i + (k + 1)))) (ords x0 T (3 * i + (k + 1))).length Dk (w5.setCell ⟨bx, k, none⟩ (.int .i64 ((toA x0 T i k : Nat) : Int))) /\ MapOf klR (okR nb) Dk (ords x0 T (3 * i + (k + 1)))) /\ Arr3 (w5.setCell ⟨bx, k, none⟩ (.int .i64 ((toA x0 T i k : Nat) : Int))) bx (cutV (toA x0 T i) (k + 1))) := Lib.hid (by
              have hN := HNx.out
              rw [HHit.out.2.1]
              refine ⟨below_set HQ5.out.1 hN.2.2.2.2.2 _, ⟨HQ5.out.2.1.set ⟨hN.1, hN.2.1, λ e => ?_, hN.2.2.2.1, hN.2.2.2.2.1, hN.2.2.2.2.2⟩ _, HMo.out⟩, HQ5.out.2.2.set hk3 (cutV_step _ k).1 (λ j _ hj => (cutV_step _ k).2 j hj)⟩
              obtain ⟨cur, hh⟩ := blk_ofz HQ5.out.2.1.ord e
              exact blk_ne hh HQ5.out.2.2 (by decide) rfl)
            clear kf1 kf2 hat hhas hwc p0 p1
            go_wp2_with fail
            go_roundw
            case rel => exact ⟨k + 1, Dk, by go_num, by omega, Lib.hid (by rw [HHit.out.2.1]; exact HLe2.out), HQ6⟩
            case measure => simp [intOf]; omega
          . have hhas : Maps.has Dk (klR y) = false := by rw [(HMo.out.2 y hyM).1]; simpa using hyl
            have HMiss := Lib.hid (And.intro hyl (HSt.out.2 hyl))
            clear hyl
            by_cases hfull : lq.length = M
            . have hcmp : ((lq.length : Int) == (M : Int)) = true := by simp; omega
              have HBig := Lib.hid (exp_big (M := M) HON.out hk3 (by rw [HMiss.out.2.1, List.length_append, hfull]; rfl))
              obtain ⟨c0, c1, k0, k1⟩ := box2_facts ((HQ5.out.1.block _ (by have := HBe.out; omega)).trans HX2.out.1)
              obtain ⟨hcl, hsz, hot, hBl⟩ := put2 (k := .slice none 0 0) (l := .slice none 0 0) c0 c1
              obtain ⟨hc0, hc1⟩ := hcl
              have HOt := Lib.hid (And.intro HQ5.out.1 hBl)
              clear hsz hot hBl kf1 kf2
              go_wp2_with (at_lookup; refine wpList_lookup_own_ok_int _ rfl (.tmp 41) (.tmp 42) 177 rfl 136 3 .i64 lawSE Tryz.underlying177 Tryz.underlying3 (zeroInt _) bM _ _ rfl HQ5.out.2.1.map _ _ rfl hky ?_; intro c hat hwc)
              refine bodyPost_ret (v := .tuple #[.agg #[.slice none 0 0, .slice none 0 0], .bool false]) (by simp [results, Tryz.results121, go_sem, hc0, hc1]) rfl ?_
              exact .inr ⟨HBig.out, rfl, HOt.out.2 _ _ (HB2.out.trans (HOt.out.1.mono (by have := HBe.out; omega))) (Nat.le_succ _)⟩
            have hcmp : ((lq.length : Int) == (M : Int)) = false := by simp; omega
            have hroom : lq.length + 1 <= M := by omega
            have HRoom := Lib.hid hroom
            clear hfull
            go_upto_region 17 with (at_lookup; refine wpList_lookup_own_ok_int _ rfl (.tmp 41) (.tmp 42) 177 rfl 136 3 .i64 lawSE Tryz.underlying177 Tryz.underlying3 (zeroInt _) bM _ _ rfl HQ5.out.2.1.map _ _ rfl hky ?_; intro c hat hwc)
            go_upto_region 18 with (at_mapUpdate; refine wpList_mapUpdate_own _ rfl (.tmp 55) (.tmp 56) (.tmp 57) 177 rfl 136 3 lawSE Tryz.underlying177 _ bM lq.length Dk rfl HQ5.out.2.1.map (by unfold maxLen; omega) _ _ _ rfl rfl hky _ [] (plainElem_int Tryz.underlying3 (klN_wf (x := lq.length) (by omega))) ?_; intro w6 hown6 hg6)
            have HQ6 := Lib.hid (HQ5.out.2.1.map_put hown6 hg6)
            have HA6 : Hid (Below B W2 w6 /\ Arr3 w6 bx (cutV (toA x0 T i) k)) := Lib.hid ⟨HQ5.out.1.grown hg6 (Nat.le_of_lt HQ5.out.2.1.base) (λ j e => by injection e with e; rw [<- e]; exact HQ5.out.2.1.low.2), HQ5.out.2.2.same (hg6.block bx HQ5.out.2.2.lt (λ e => HNx.out.2.2.2.1 (by injection e with e; exact e.symm)))⟩
            have hbw6 : B <= w6.heap.size := Nat.le_of_lt HQ6.out.base
            have HMp := Lib.hid (HMo.out.put HIn.out (λ x _ => by trivial) hyM HMiss.out.1)
            obtain ⟨p4, p5, -, -⟩ := box2_facts ((hg6.block be (blk_lt HE5.out.1) (λ e => HE5.out.2 (by injection e with e; exact e.symm))).trans HE5.out.1)
            clear hown6 hg6 hat hwc hhas kf1 kf2 p0 p1
            go_wp2_with (at_builtin; refine wpList_append_own_at _ rfl (.tmp 58) (.tmp 60) 178 rfl B 136 i0 (.agg #[.bool false, .int .u64 0]) 2 16 Tryz.underlying178 hi hz0 hz1 hz2 rfl (by decide) _ _ _ rfl (HQ6.out.ord.alloc _) ⟨w6.heap.size, 0, none⟩ 1 1 [.bool y.1, .int .u64 ((mskS y.2 : Nat) : Int)] rfl rfl (newB2 _ _ _ _) (by simp [Value.oneCell']) (by unfold maxLen; omega) (by omega) (by simp; omega) ?_)
            intro v' w7 hown' hgrow hnil hat
            have HQ7 : Hid (ExpS 136 2 B bM B va vr v' accs i rows (ords x0 T (3 * i + (k + 1))).length (seC (ords x0 T (3 * i + (k + 1)))) (ords x0 T (3 * i + (k + 1))).length (Dk.put (klR y) (.lit (.int .i64 ((lq.length : Nat) : Int)))) w7) := Lib.hid (by
              have h1 := (HQ6.out.below ((Below.refl _ _).alloc (Nat.le_refl _) (.cells #[.bool y.1, .int .u64 ((mskS y.2 : Nat) : Int)] 136))).ord_push hown' hgrow
              rw [HMiss.out.2.1]
              rw [seC_snoc, List.length_append]
              exact h1)
            have HA7 : Hid (Below B W2 w7 /\ Arr3 w7 bx (cutV (toA x0 T i) k)) := Lib.hid (by
              refine ⟨(HA6.out.1.alloc hbw6 (.cells #[.bool y.1, .int .u64 ((mskS y.2 : Nat) : Int)] 136)).grown hgrow (by simp; omega) (λ j e => (HQ6.out.ord.lt j e).1), ?_⟩
              have h1 : Arr3 (w6.alloc (.cells #[.bool y.1, .int .u64 ((mskS y.2 : Nat) : Int)] 136)) bx (cutV (toA x0 T i) k) := HA6.out.2.same (Below.heap_alloc _ _ _ HA6.out.2.lt)
              refine h1.same (hgrow.block bx h1.lt (λ e => ?_))
              obtain ⟨cur, hh⟩ := blk_ofz HQ6.out.ord e.symm
              exact blk_ne hh HA6.out.2 (by decide) rfl)
            obtain ⟨kf1, kf2⟩ := HA7.out.2.facts hk3
            clear hown' hgrow hnil hat p4 p5
            have HQ8 : Hid (Below B W2 (w7.setCell ⟨bx, k, none⟩ (.int .i64 ((lq.length : Nat) : Int))) /\ (ExpS 136 2 B bM B va vr v' accs i rows (ords x0 T (3 * i + (k + 1))).length (seC (ords x0 T (3 * i + (k + 1)))) (ords x0 T (3 * i + (k + 1))).length (Dk.put (klR y) (.lit (.int .i64 ((lq.length : Nat) : Int)))) (w7.setCell ⟨bx, k, none⟩ (.int .i64 ((lq.length : Nat) : Int))) /\ MapOf klR (okR nb) (Dk.put (klR y) (.lit (.int .i64 ((lq.length : Nat) : Int)))) (ords x0 T (3 * i + (k + 1)))) /\ Arr3 (w7.setCell ⟨bx, k, none⟩ (.int .i64 ((lq.length : Nat) : Int))) bx (cutV (toA x0 T i) (k + 1))) := Lib.hid (by
              have hN := HNx.out
              refine ⟨below_set HA7.out.1 hN.2.2.2.2.2 _, ⟨HQ7.out.set ⟨hN.1, hN.2.1, λ e => ?_, hN.2.2.2.1, hN.2.2.2.2.1, hN.2.2.2.2.2⟩ _, by rw [HMiss.out.2.1]; exact HMp.out⟩, HA7.out.2.set hk3 ?_ (λ j _ hj => (cutV_step _ k).2 j hj)⟩
              . obtain ⟨cur, hh⟩ := blk_ofz HQ7.out.ord e
                exact blk_ne hh HA7.out.2 (by decide) rfl
              . rw [(cutV_step _ k).1, HMiss.out.2.2])
            go_wp2_with fail
            go_roundw
            case rel => exact ⟨k + 1, _, by go_num, by omega, Lib.hid (by rw [HMiss.out.2.1, List.length_append]; exact HRoom.out), HQ8⟩
            case measure => simp [intOf]; omega
        . obtain rfl : k = 3 := by omega
          obtain ⟨hil, hkey⟩ := keyA_at (s0 := x0) (g := T) (t := 3 * i + 3) hi1 (by omega)
          have hxM : okR nb (keyA x0 T i) := HKeys.out (i + 1) HON.out (3 * i) (by omega) _ (getD_mem hi1)
          obtain ⟨x, hx⟩ : ∃ x, x = keyA x0 T i := ⟨_, rfl⟩
          obtain ⟨lq, hlq⟩ : ∃ lq, lq = ords x0 T (3 * i + 3) := ⟨_, rfl⟩
          rw [<- hlq] at HQ hil hkey
          rw [<- hx] at hkey hxM
          have hlqM : lq.length <= M := by rw [hlq]; exact HLk.out
          have HLq := Lib.hid (And.intro hlq hx)
          have HLe2 := Lib.hid hlqM
          clear hlq hx
          obtain ⟨gq, cq, hvq, -, hcq⟩ := own_cell HQ.out.2.1.1.ord (by omega)
          subst hvq
          have hpc := seC_at lq i hil
          rw [hkey] at hpc
          have hci := (hcq (i * 2) (by omega)).trans hpc.1
          have hcj := (hcq (i * 2 + 1) (by omega)).trans hpc.2
          clear hpc
          obtain ⟨b, hb⟩ : ∃ b, b = acc x := ⟨_, rfl⟩
          have HC2 : Hid (Calls Tryz.prog g2 (#[.agg #[.bool x.1, .int .u64 ((mskS x.2 : Nat) : Int)]] ++ lb2) wr.drew λ e w' => e = .returned (.bool b) /\ Below wr.drew.heap.size wr.drew w') := Lib.hid (by
            rw [hb]
            refine HH2.out wr.drew x ((HB2.out.trans (HQ.out.1.mono ?_)).drew) hxM
            have := HBe.out
            omega)
          have HBb' := Lib.hid hb
          have s1 : (i : Int) < (lq.length : Int) := by omega
          have s2 : (0 : Int) <= (i : Int) := by omega
          have hal : accs.length <= 2000 := by rw [HAl.out]; omega
          have hbwr : B <= wr.heap.size := Nat.le_of_lt HQ.out.2.1.1.base
          have HQd := Lib.hid (HQ.out.2.1.1.below (Below.refl _ _).drew)
          obtain ⟨e0, -, e2, -⟩ := box2_facts HQ.out.2.1.1.box
          obtain ⟨e4, -, e6, -⟩ := box2_facts HQd.out.box
          obtain ⟨Aa, qa, hva⟩ := (RowO.of_owns HQ.out.2.1.1.acc (by omega)).row.shape
          rw [bools_length] at hva
          subst hva
          clear hcq hkey hb
          go_upto_region 21 with fail
          go_cut [] from 66 to 76 (λ wc => ∃ va2, Hid (ExpS 136 2 B bM B va2 vr (.slice (some ⟨gq, 0, none⟩) lq.length cq) (accs ++ [b]) i rows lq.length (seC lq) lq.length Dk wc) /\ Hid (Below B W2 wc /\ Arr3 wc bx (cutV (toA x0 T i) 3)))
          case first =>
            go_region_law (first
              | (refine step_call_val rfl (.tmp 68) _ _ rfl g2 lb2 (by simp [Act.eval]) eg2 #[.agg #[.bool x.1, .int .u64 ((mskS x.2 : Nat) : Int)]] (by simp [Act.eval]) HC2.out ?_; rintro e w1 ⟨rfl, hb1⟩; have HO1 := Lib.hid (HQd.out.below hb1); have HA1 := Lib.hid (And.intro (HQ.out.1.drew.trans (hb1.mono (by show B <= wr.heap.size; omega))) (HQ.out.2.2.same (hb1.block bx HQ.out.2.2.lt))); obtain ⟨l0, -, l2, -⟩ := box2_facts HO1.out.box; have HO1a := Lib.hid (HO1.out.below ((Below.refl _ _).alloc (Nat.le_refl _) (.cells #[.bool b] 4))); obtain ⟨l4, -, l6, -⟩ := box2_facts HO1a.out.box; have hbw1 : B <= w1.heap.size := Nat.le_of_lt HO1.out.base; clear hb1; refine ⟨_, rfl, ?_⟩)
              | (refine step_append_own_at rfl (.tmp 67) (.tmp 74) 28 rfl B 4 b0 (.bool false) 1 1 Tryz.underlying28 hbi hb0 hb1 hb2 rfl (by decide) _ _ _ rfl (HO1.out.acc.alloc _) ⟨w1.heap.size, 0, none⟩ 1 1 [.bool b] rfl rfl (cell_one_new w1 _ _) (by simp [Value.oneCell']) (by unfold maxLen; omega) (by omega) (by simp; omega) ?_; intro v' w9 hown' hgrow hat; obtain ⟨g', cap', rfl⟩ := own_succ hown'; have HB9 := Lib.hid (((HA1.out.1.alloc hbw1 (.cells #[.bool b] 4)).grown hgrow (by simp; omega) (λ g e => (HO1.out.acc.lt g e).1)).setCell (p := ⟨B, 0, none⟩) (Nat.le_refl _) (.slice (some ⟨g', 0, none⟩) (accs.length + 1) cap')); obtain ⟨z1, z2, HQ9⟩ := HO1a.out.acc_push hown' hgrow; obtain ⟨z0, z1⟩ := z1; have HQ9 := Lib.hid HQ9; have HG9 := Lib.hid hgrow))
            all_goals
              have HX9 : Hid (Arr3 (w9.setCell ⟨B, 0, none⟩ (.slice (some ⟨g', 0, none⟩) (accs.length + 1) cap')) bx (cutV (toA x0 T i) 3)) := Lib.hid (by
                have hxa : Arr3 (w1.alloc (.cells #[.bool b] 4)) bx (cutV (toA x0 T i) 3) := HA1.out.2.same (Below.heap_alloc _ _ _ HA1.out.2.lt)
                refine (hxa.same (HG9.out.block bx hxa.lt (λ e => HNx.out.1 ?_))).same (Below.heap_setCell _ _ _ _ (λ e => HNx.out.2.2.2.2.1 (Eq.symm e)))
                exact e.symm)
              clear hown' hgrow hat z1 z2 l0 l2 l4 l6 e0 e2 e4 e6
              go_wp2_with fail
              go_meet
              exact ⟨_, HQ9, Lib.hid ⟨HB9.out, HX9.out⟩⟩
          case rest =>
            obtain ⟨va2, HQ9, HA9⟩ := hcut
            clear e0 e2 e4 e6 hci hcj
            have hbw9 : B <= wc.heap.size := Nat.le_of_lt HQ9.out.base
            obtain ⟨-, e1, -, e3⟩ := box2_facts HQ9.out.box
            have hx3 : Bx3 wc bx (.int .i64 ((toA x0 T i 0 : Nat) : Int)) (.int .i64 ((toA x0 T i 1 : Nat) : Int)) (.int .i64 ((toA x0 T i 2 : Nat) : Int)) 153 := HA9.out.2
            obtain ⟨⟨c0, c1, c2⟩, -⟩ := hx3.facts
            clear hx3
            obtain ⟨t0, ht0⟩ : ∃ y : Int, y = ((toA x0 T i 0 : Nat) : Int) := ⟨_, rfl⟩
            obtain ⟨t1, ht1⟩ : ∃ y : Int, y = ((toA x0 T i 1 : Nat) : Int) := ⟨_, rfl⟩
            obtain ⟨t2, ht2⟩ : ∃ y : Int, y = ((toA x0 T i 2 : Nat) : Int) := ⟨_, rfl⟩
            rw [<- ht0] at c0
            rw [<- ht1] at c1
            rw [<- ht2] at c2
            have HRw : Hid (rows ++ [.int .i64 t0, .int .i64 t1, .int .i64 t2] = rowsC x0 T (i + 1)) := Lib.hid (by rw [rowsC_succ, HAc.out.2, ht0, ht1, ht2]; rfl)
            clear ht0 ht1 ht2
            go_wp2_with (at_builtin; refine wpList_append_own_at _ rfl (.tmp 78) (.tmp 80) 105 rfl B 153 r0 (.agg #[.int .i64 0, .int .i64 0, .int .i64 0]) 3 24 Tryz.underlying105 hri hr0 hr1 hr2 rfl (by decide) _ _ _ rfl (HQ9.out.row.alloc _) ⟨wc.heap.size, 0, none⟩ 1 1 [.int .i64 t0, .int .i64 t1, .int .i64 t2] rfl rfl (newB3 wc _ _ _ _) (by simp [Value.oneCell']) (by unfold maxLen; omega) (by omega) (by simp; omega) ?_)
            intro v' w9 hown' hgrow hnil hat
            obtain ⟨gn, capn, rfl⟩ := own_succ hown'
            obtain ⟨⟨z0, z1⟩, z2, HQb⟩ := (HQ9.out.below ((Below.refl _ _).alloc (Nat.le_refl _) (.cells #[.int .i64 t0, .int .i64 t1, .int .i64 t2] 153))).row_push hown' hgrow
            rw [HRw.out] at HQb
            have HQb := Lib.hid HQb
            have HBb := Lib.hid (((HA9.out.1.alloc hbw9 (.cells #[.int .i64 t0, .int .i64 t1, .int .i64 t2] 153)).grown hgrow (by simp; omega) (λ g e => (HQ9.out.row.lt g e).1)).setCell (p := ⟨B, 1, none⟩) (Nat.le_refl _) (.slice (some ⟨gn, 0, none⟩) (i + 1) capn))
            have HA1 : Hid (accs ++ [b] = (List.range (i + 1)).map λ j => acc (keyA x0 T j)) := Lib.hid (by rw [List.range_succ, List.map_append, HAc.out.1, HBb'.out, HLq.out.2]; rfl)
            rw [HA1.out] at HQb
            have HMk := Lib.hid HQ.out.2.1.2
            clear hown' hgrow hnil hat
            go_wp2_with fail
            go_roundw
            case rel => exact ⟨i + 1, _, _, Dk, by go_num, by omega, Lib.hid (by rw [show 3 * (i + 1) = 3 * i + 3 by omega]; exact HLk.out), HBb, HON, by
              rw [show 3 * (i + 1) = 3 * i + 3 by omega, <- HLq.out.1]
              exact Lib.hid ⟨HQb.out, HMk.out⟩⟩
            case measure => simp [intOf]; omega
    . have hE : Ends x0 T i := ⟨hon.out, by rw [<- hl]; omega⟩
      have hEl := hE.length
      have hiM : i <= M := by rw [<- hEl]; exact HLe.out
      have hi0 := hE.pos
      have HE := Lib.hid hE
      obtain ⟨ga, ca, rfl, hga, hca⟩ := own_cell HS.out.1.acc (by simp; omega)
      obtain ⟨gr, cr, rfl, hgr, hcr⟩ := own_cell HS.out.1.row hi0
      have HAu : Hid (∀ V : World, (∀ g, g ≠ w.heap.size + 1 -> V.heap[g]? = wr.heap[g]?) -> AutoV V (.slice (some ⟨ga, 0, none⟩) i ca) (.slice (some ⟨gr, 0, none⟩) i cr) (found x0 T acc i)) := Lib.hid (λ V hV => ⟨ga, ca, gr, cr, rfl, rfl, λ q hq => by
          have hq' : q < i := hq
          have hBe := HBe.out
          rw [World.cell?_of_block (w := wr) (a := ⟨ga, q, none⟩) (hV ga (by omega))]
          rw [hca q (by simp; omega), (found_keyA hE acc hq').1]
          simp [bools, hq'], λ q hq k hk => by
          have hq' : q < i := hq
          have hBe := HBe.out
          rw [World.cell?_of_block (w := wr) (a := ⟨gr, q * 3 + k, none⟩) (hV gr (by omega))]
          rw [hcr (q * 3 + k) (by omega), rowsC_at i q k hq' hk, (found_keyA hE acc hq').2 k hk]⟩)
      obtain ⟨e0, e1, -, -⟩ := box2_facts HS.out.1.box
      have hln : ((List.range i).map λ j => acc (keyA x0 T j)).length = i := by simp
      rw [hln] at e0
      have hyb := (HBr.out.block _ (by have := HBe.out; omega)).trans HX2.out.1
      obtain ⟨c0, c1, k0, k1⟩ := box2_facts hyb
      have hd : decide ((i : Int) < (l.length : Int)) = false := by simp; omega
      obtain ⟨hcl, hsz, hot, hBl⟩ := put2 (k := .slice (some ⟨ga, 0, none⟩) i ca) (l := .slice (some ⟨gr, 0, none⟩) i cr) c0 c1
      obtain ⟨hc0, hc1⟩ := hcl
      have HOt := Lib.hid (And.intro hsz (And.intro hot hBl))
      clear hsz hot hBl hyb hl hca hcr hln hE hEl hga hgr
      go_wp2_with fail
      refine bodyPost_ret (v := .tuple #[.agg #[.slice (some ⟨ga, 0, none⟩) i ca, .slice (some ⟨gr, 0, none⟩) i cr], .bool true]) (by simp [results, Tryz.results121, go_sem, hc0, hc1]) rfl ?_
      exact .inl ⟨i, _, _, HE.out, hiM, rfl, HAu.out _ HOt.out.2.1, HOt.out.2.2 _ _ (HB2.out.trans (HBr.out.mono (by have := HBe.out; omega))) (Nat.le_succ _)⟩
end Go.Proofs.YtiijlpmdnokjfaaGreatDoor
namespace Go.Proofs.YtiijlpmdnokjfaaGreatDoor
open Go.RowKit
theorem implMdR_any (g1 g2 : Nat) (lb1 lb2 : Array Value) (eg1 : ∀ args w, (callFunc g1 args).run Tryz.prog w = .ok (.enter g1 args) w) (eg2 : ∀ args w, (callFunc g2 args).run Tryz.prog w = .ok (.enter g2 args) w)
    (T : Bool × List Nat -> Nat -> Bool × List Nat) (acc : Bool × List Nat -> Bool) (nb : Nat) (M : Nat) (x0 : Bool × List Nat) (w : World) (hb : nb <= 40) (hM : M <= 2000) (hM1 : 1 <= M) (h0 : okR nb x0) (hT : ∀ x k, okR nb x -> k < 3 -> okR nb (T x k))
    (H1 : ∀ (V : World) (x : Bool × List Nat) (k : Nat), Below w.heap.size w V -> okR nb x -> k < 3 -> Calls Tryz.prog g1 ((#[.agg #[.bool x.1, .int .u64 ((mskS x.2 : Nat) : Int)], .int .i64 (k : Int)] ++ lb1)) V λ e w' => e = .returned (.agg #[.bool ((T x k)).1, .int .u64 ((mskS ((T x k)).2 : Nat) : Int)]) /\ Below V.heap.size V w')
    (H2 : ∀ (V : World) (x : Bool × List Nat), Below w.heap.size w V -> okR nb x -> Calls Tryz.prog g2 (#[.agg #[.bool x.1, .int .u64 ((mskS x.2 : Nat) : Int)]] ++ lb2) V λ e w' => e = .returned (.bool (acc x)) /\ Below V.heap.size V w')
    (y : Dx) (ok : Bool) (hy : srchR M x0 T acc y ok) :
    Calls Tryz.prog 91 #[.agg #[.bool x0.1, .int .u64 ((mskS x0.2 : Nat) : Int)], .func (.func g1) #[] lb1, .func (.func g2) #[] lb2, .int .i64 (M : Int)] w (CopyDB y ok w) := by
  obtain ⟨W0, hW0⟩ : ∃ W0, W0 = (w.alloc (.cells #[.bool x0.1, .int .u64 ((mskS x0.2 : Nat) : Int)] 136)).alloc (.cells #[.slice none 0 0, .slice none 0 0] 31) := ⟨_, rfl⟩
  have HB0 : Hid (Below w.heap.size w W0) := Lib.hid (by rw [hW0]; exact ((Below.refl _ _).alloc (Nat.le_refl _) _).alloc (by simp) _)
  have HY : Hid (W0.heap[w.heap.size + 1]? = some (.cells #[.slice none 0 0, .slice none 0 0] 31 (0, 0))) := Lib.hid (by rw [hW0]; exact three2 w _ _ _ _)
  have HEx := Lib.hid (implExpR_any g1 g2 lb1 lb2 eg1 eg2 T acc nb M x0 W0 hb hM hM1 h0 hT (λ V x k hV hx hk => H1 V x k (HB0.out.trans (hV.mono HB0.out.size)) hx hk) (λ V x hV hx => H2 V x (HB0.out.trans (hV.mono HB0.out.size)) hx))
  have HYy := Lib.hid hy
  obtain ⟨q0, q1, -, -⟩ := box2_facts (show W0.heap[w.heap.size]? = some (.cells #[.bool x0.1, .int .u64 ((mskS x0.2 : Nat) : Int)] 136 (0, 0)) by rw [hW0]; exact (Below.heap_alloc _ _ _ (by simp)).trans (heap_alloc_new w _))
  rw [hW0] at q0 q1
  clear hy hT H1 H2 h0 hM1
  go_enter Tryz.func91, Tryz.ntmps91
  go_wp2_with fail
  go_at_call 121
  rw [<- hW0]
  refine HEx.out.mono ?_
  rintro e w1 (⟨N, va2, vr2, hE, hN, rfl, hau, hb1⟩ | ⟨hno, rfl, hb1⟩)
  . have HB1 := Lib.hid hb1
    obtain ⟨W2, hW2⟩ : ∃ W2, W2 = w1.alloc (.cells #[va2, vr2] 107) := ⟨_, rfl⟩
    have HB2 : Hid (Below w1.heap.size w1 W2) := Lib.hid (by rw [hW2]; exact (Below.refl _ _).alloc (Nat.le_refl _) _)
    obtain ⟨a0, a1, -, -⟩ := box2_facts (show W2.heap[w1.heap.size]? = some (.cells #[va2, vr2] 107 (0, 0)) by rw [hW2]; exact heap_alloc_new w1 _)
    have HMn := Lib.hid (implMinz_any va2 vr2 (found x0 T acc N) W2 (hE.num acc) (by show N <= 2000; omega) (hau.kept HB2.out))
    have HE := Lib.hid hE
    obtain ⟨ga, ca, gr, cr, rfl, rfl, -, -⟩ := hau
    clear q0 q1 hb1 hE
    rw [hW2] at a0 a1
    go_wp2_with fail
    go_at_call 68
    rw [<- hW2]
    refine HMn.out.mono ?_
    rintro e w3 ⟨m, m1, m2, hcd⟩
    obtain ⟨rfl, rfl⟩ := srchR_yes HYy.out hN HE.out m1 m2
    obtain ⟨A1, p1, A2, p2, rfl, hoo, hb3⟩ := hcd.shape
    obtain ⟨x1, hx1⟩ : ∃ x, x = (fitD m).acc.length := ⟨_, rfl⟩
    obtain ⟨x2, hx2⟩ : ∃ x, x = (fitD m).nxt.length := ⟨_, rfl⟩
    obtain ⟨ok, hok⟩ : ∃ b, b = decide (m.n <= 40) := ⟨_, rfl⟩
    rw [<- hx1, <- hx2] at hoo ⊢
    rw [<- hok]
    have HOk := Lib.hid hok
    have HO3 := Lib.hid hoo
    have HB3 := Lib.hid (HB1.out.trans ((HB2.out.trans (hb3.mono HB2.out.size)).mono HB1.out.size))
    have hz1 := HB1.out.size
    have hz2 := HB2.out.size
    have hz3 := hb3.size
    have hyl := blk_lt HY.out
    obtain ⟨c0, c1, k0, k1⟩ := box2_facts ((HB3.out.block _ hyl).trans HY.out)
    obtain ⟨hcl, hsz, hot, hBl⟩ := put2 (k := .slice A1 x1 p1) (l := .slice A2 x2 p2) c0 c1
    obtain ⟨hc0, hc1⟩ := hcl
    have HOt := Lib.hid (And.intro hsz (And.intro hot hBl))
    clear hsz hot hBl hoo hb3 hcd hx1 hx2 m1 m2 hok a0 a1 hW2 hW0
    go_wp2_with fail
    refine bodyPost_ret (v := .tuple #[.agg #[.slice A1 x1 p1, .slice A2 x2 p2], .bool ok]) (by simp [results, Tryz.results91, go_sem, hc0, hc1]) rfl ?_
    have h0 := HB0.out.size
    rw [<- HOk.out]
    exact ⟨_, _, rfl, HO3.out.mono (λ g hg => HOt.out.2.1 g (by have := hg.1; omega)) (λ g hg => ⟨by have := hg.1; omega, by rw [HOt.out.1]; exact hg.2⟩) (by rw [HOt.out.1]; exact Nat.le_refl _), HOt.out.2.2 _ _ (HB0.out.trans (HB3.out.mono h0)) (by omega)⟩
  . have HB1 := Lib.hid hb1
    obtain ⟨rfl, rfl⟩ := srchR_no HYy.out hno
    obtain ⟨c0, c1, k0, k1⟩ := box2_facts (((HB1.out.alloc HB1.out.size (.cells #[.slice none 0 0, .slice none 0 0] 107)).block _ (blk_lt HY.out)).trans HY.out)
    obtain ⟨hcl, hsz, hot, hBl⟩ := put2 (k := .slice none 0 0) (l := .slice none 0 0) c0 c1
    obtain ⟨hr0, hr1⟩ := hcl
    have HOt := Lib.hid hBl
    clear q0 q1 hsz hot hBl hb1 hW0
    go_wp2_with fail
    refine bodyPost_ret (v := .tuple #[.agg #[.slice none 0 0, .slice none 0 0], .bool false]) (by simp [results, Tryz.results91, go_sem, hr0, hr1]) rfl ?_
    exact ⟨_, _, rfl, DfaO.empty _ _, HOt.out _ _ (HB0.out.trans ((HB1.out.alloc HB1.out.size _).mono HB0.out.size)) (by omega)⟩
end Go.Proofs.YtiijlpmdnokjfaaGreatDoor
namespace Go.Proofs.YtiijlpmdnokjfaaGreatDoor
open Go.RowKit
theorem implStaT_any (bb bm n' : Nat) (ad' : Addr) (e : Nat) (aN' : Addr) (e' : Nat) (b : Au) (x : Bool × List Nat) (k : Nat) (w : World)
    (h' : AuB w bb n' ad' e aN' e' b) (hbn : b.n = n') (hx : okR n' x) (hk : k < 3) (hn' : n' <= 40) (hwb : ∀ q, q < n' -> b.T q k < n')
    (hbm : w.cell? ⟨bm, 0, none⟩ = some (.int .u64 ((mskS (accS b n') : Nat) : Int))) (hTab : Tab w) :
    Calls Tryz.prog 89 #[.agg #[.bool x.1, .int .u64 ((mskS x.2 : Nat) : Int)], .int .i64 (k : Int), .pointer (some ⟨bb, 0, none⟩), .pointer (some ⟨bm, 0, none⟩)] w λ e w' => e = .returned (.agg #[.bool (starG b x k).1, .int .u64 ((mskS (starG b x k).2 : Nat) : Int)]) /\ Below w.heap.size w w' := by
  obtain ⟨p, s⟩ := x
  obtain ⟨-, hs⟩ := hx
  have hs : ∀ q ∈ s, q < n' := hs
  obtain ⟨W0, hW0⟩ : ∃ W0, W0 = (w.alloc (.cells #[.bool p, .int .u64 ((mskS s : Nat) : Int)] 136)).alloc (.cells #[.bool false, .int .u64 0] 136) := ⟨_, rfl⟩
  have HB0 : Hid (Below w.heap.size w W0) := Lib.hid (by rw [hW0]; exact ((Below.refl _ _).alloc (Nat.le_refl _) _).alloc (by simp) _)
  have HX : Hid (W0.heap[w.heap.size]? = some (.cells #[.bool p, .int .u64 ((mskS s : Nat) : Int)] 136 (0, 0))) := Lib.hid (by rw [hW0]; exact (Below.heap_alloc _ _ _ (by simp)).trans (heap_alloc_new w _))
  have HY : Hid (W0.heap[w.heap.size + 1]? = some (.cells #[.bool false, .int .u64 0] 136 (0, 0))) := Lib.hid (by rw [hW0]; exact three2 w _ _ _ _)
  have HMv := Lib.hid (implMove_any (.slice (some ad') n' e) aN' n' e' k b s W0 hn' hk hs hwb (λ q hq => by
    obtain ⟨r, q', h1, h2⟩ := (h'.kept HB0.out).2.2.2 q hq
    exact ⟨r, q', h1, h2 k hk⟩) (hTab.kept HB0.out))
  have hmv : ∀ q ∈ moveS b s k, q < n' := λ q hq => by
    obtain ⟨p', h1, rfl⟩ := mem_move.1 hq
    exact hwb p' (hs p' h1)
  have h1 := mskS_64 (s := moveS b s k) (λ q hq => by have := hmv q hq; omega)
  have h2 := mskS_64 (s := accS b n') (λ q hq => by have := accS_lt hq; omega)
  have hany : anyS b (moveS b s k) = decide (mskS (moveS b s k) &&& mskS (accS b n') ≠ 0) := by rw [any_meets (by rw [hbn]; exact hmv), hbn]
  have HG : Hid (starG b (p, s) k = (false, if anyS b (moveS b s k) then putS (moveS b s k) 0 else moveS b s k)) := Lib.hid rfl
  have hor := or_one (a := mskS (moveS b s k)) (by omega)
  rw [msk_put0] at hor
  obtain ⟨m, hm⟩ : ∃ m, m = mskS s := ⟨_, rfl⟩
  obtain ⟨m2, hm2⟩ : ∃ m, m = mskS (moveS b s k) := ⟨_, rfl⟩
  obtain ⟨ma, hma⟩ : ∃ m, m = mskS (accS b n') := ⟨_, rfl⟩
  obtain ⟨m3, hm3⟩ : ∃ m, m = mskS (putS (moveS b s k) 0) := ⟨_, rfl⟩
  rw [<- hm] at HX hW0 HMv ⊢
  rw [<- hm2] at HMv h1 hany hor
  rw [<- hma] at h2 hany hbm
  rw [<- hm3] at hor
  have HM2 := Lib.hid hm2
  have HM3 := Lib.hid hm3
  have HMe := Lib.hid (λ V => implMeets_any m2 ma (by omega) (by omega) V)
  rw [<- hany] at HMe
  obtain ⟨r, hr⟩ : ∃ r, r = anyS b (moveS b s k) := ⟨_, rfl⟩
  rw [<- hr] at HMe HG
  have hb0 := (HB0.out.cell (cell_in (h'.1))).trans h'.1
  have hb1 := (HB0.out.cell (cell_in (h'.2.1))).trans h'.2.1
  obtain ⟨x0, x1, -, -⟩ := box2_facts HX.out
  have HBm := Lib.hid (λ (V : World) (hV : Below w.heap.size w V) => (hV.cell (cell_in hbm)).trans hbm)
  clear h' hs hwb hbm hTab hmv hm hm2 hm3 hma hr hany h1 h2 hbn
  go_enter Tryz.func89, Tryz.ntmps89
  go_upto_region 1 with fail
  rw [<- hW0]
  clear hW0
  go_wp2_with fail
  go_at_call 81
  refine HMv.out.mono ?_
  rintro e1 w1 ⟨rfl, hb1'⟩
  have HB1 := Lib.hid (HB0.out.trans (hb1'.mono HB0.out.size))
  have hbm1 := HBm.out w1 HB1.out
  obtain ⟨c0, c1, k0, k1⟩ := box2_facts ((hb1'.block _ (blk_lt HY.out)).trans HY.out)
  clear hb1' hb0 hb1 x0 x1
  cases r with
  | true =>
    obtain ⟨hcl, hsz, hot, hBl⟩ := put2 (k := .bool false) (l := .int .u64 (m3 : Int)) c0 c1
    obtain ⟨hc0, hc1⟩ := hcl
    have HOt := Lib.hid hBl
    clear hsz hot hBl
    go_wp2_with (go_at_call 84; refine (HMe.out _).mono ?_; rintro e w' ⟨rfl, rfl⟩)
    refine bodyPost_ret (v := .agg #[.bool false, .int .u64 (m3 : Int)]) (by simp [results, Tryz.results89, go_sem, hc0, hc1]) rfl ?_
    exact ⟨by rw [HG.out, HM3.out]; rfl, HOt.out _ _ HB1.out (Nat.le_succ _)⟩
  | false =>
    obtain ⟨hcl, hsz, hot, hBl⟩ := put2 (k := .bool false) (l := .int .u64 (m2 : Int)) c0 c1
    obtain ⟨hc0, hc1⟩ := hcl
    have HOt := Lib.hid hBl
    clear hsz hot hBl hor
    go_wp2_with (go_at_call 84; refine (HMe.out _).mono ?_; rintro e w' ⟨rfl, rfl⟩)
    refine bodyPost_ret (v := .agg #[.bool false, .int .u64 (m2 : Int)]) (by simp [results, Tryz.results89, go_sem, hc0, hc1]) rfl ?_
    exact ⟨by rw [HG.out, HM2.out]; rfl, HOt.out _ _ HB1.out (Nat.le_succ _)⟩
theorem implStaA_any (bm n : Nat) (b : Au) (x : Bool × List Nat) (w : World) (hn : n <= 40) (hs : ∀ q ∈ x.2, q < n) (hbn : b.n = n) (hbm : w.cell? ⟨bm, 0, none⟩ = some (.int .u64 ((mskS (accS b n) : Nat) : Int))) :
    Calls Tryz.prog 90 #[.agg #[.bool x.1, .int .u64 ((mskS x.2 : Nat) : Int)], .pointer (some ⟨bm, 0, none⟩)] w λ e w' => e = .returned (.bool (starA b x)) /\ Below w.heap.size w w' := by
  obtain ⟨p, s⟩ := x
  have hs : ∀ q ∈ s, q < n := hs
  obtain ⟨W0, hW0⟩ : ∃ W0, W0 = w.alloc (.cells #[.bool p, .int .u64 ((mskS s : Nat) : Int)] 136) := ⟨_, rfl⟩
  have HB0 : Hid (Below w.heap.size w W0) := Lib.hid (by rw [hW0]; exact (Below.refl _ _).alloc (Nat.le_refl _) _)
  obtain ⟨c0, c1, -, -⟩ := box2_facts (show W0.heap[w.heap.size]? = some (.cells #[.bool p, .int .u64 ((mskS s : Nat) : Int)] 136 (0, 0)) by rw [hW0]; exact heap_alloc_new w _)
  have hc := (HB0.out.cell (cell_in hbm)).trans hbm
  have h1 := mskS_64 (s := s) (λ q hq => by have := hs q hq; omega)
  have h2 := mskS_64 (s := accS b n) (λ q hq => by have := accS_lt hq; omega)
  have HR : Hid (starA b (p, s) = (p || decide (mskS s &&& mskS (accS b n) ≠ 0))) := Lib.hid (by rw [starA, any_meets (by rw [hbn]; exact hs), hbn])
  obtain ⟨m, hm⟩ : ∃ m, m = mskS s := ⟨_, rfl⟩
  obtain ⟨m2, hm2⟩ : ∃ m, m = mskS (accS b n) := ⟨_, rfl⟩
  rw [<- hm, <- hm2] at HR
  rw [<- hm] at hW0 c1 h1 ⊢
  rw [<- hm2] at h2 hc
  have HM := Lib.hid (λ V => implMeets_any m m2 (by omega) (by omega) V)
  obtain ⟨r, hr⟩ : ∃ r, r = decide (m &&& m2 ≠ 0) := ⟨_, rfl⟩
  rw [<- hr] at HM HR
  clear hbm hs hbn hm hm2 hr
  cases p with
  | true =>
    go_enter Tryz.func90, Tryz.ntmps90
    go_upto_region 1 with fail
    rw [<- hW0]
    clear hW0
    go_wp2_with fail
    go_ret
    exact ⟨congrArg (λ b : Bool => Ending.returned (.bool b)) HR.out.symm, HB0.out⟩
  | false =>
    go_enter Tryz.func90, Tryz.ntmps90
    go_upto_region 1 with fail
    rw [<- hW0]
    clear hW0
    go_wp2_with (go_at_call 84; refine (HM.out _).mono ?_; rintro e w' ⟨rfl, rfl⟩)
    go_ret
    exact ⟨congrArg (λ b : Bool => Ending.returned (.bool b)) HR.out.symm, HB0.out⟩
theorem enters_sta1 (args : Array Value) (w : World) : (callFunc 89 args).run Tryz.prog w = .ok (.enter 89 args) w := enters_of Tryz.func89 (by kernel_rfl) rfl args w
theorem enters_sta2 (args : Array Value) (w : World) : (callFunc 90 args).run Tryz.prog w = .ok (.enter 90 args) w := enters_of Tryz.func90 (by kernel_rfl) rfl args w
theorem implStar_any (va vn : Value) (d : Dx) (S : Nat -> Prop) (y : Dx) (ok : Bool) (w : World) (h : DfaV w S va vn d) (hy : starR d y ok) (hTab : Tab w) :
    Calls Tryz.prog 45 #[.agg #[va, vn]] w (CopyDB y ok w) := by
  have hmf : ∀ (fn : Fn) (first cap : Array Value) (w : World), (Instr.makeFunc fn first cap).run Tryz.prog w = .ok (.func fn first cap) w := λ _ _ _ _ => rfl
  obtain ⟨W0, hW0⟩ : ∃ W0, W0 = (w.alloc (.cells #[va, vn] 31)).alloc (.cells #[.slice none 0 0, .slice none 0 0] 31) := ⟨_, rfl⟩
  have HB0 : Hid (Below w.heap.size w W0) := Lib.hid (by rw [hW0]; exact ((Below.refl _ _).alloc (Nat.le_refl _) _).alloc (by simp) _)
  have HX : Hid (W0.heap[w.heap.size]? = some (.cells #[va, vn] 31 (0, 0))) := Lib.hid (by rw [hW0]; exact (Below.heap_alloc _ _ _ (by simp)).trans (heap_alloc_new w _))
  have HY : Hid (W0.heap[w.heap.size + 1]? = some (.cells #[.slice none 0 0, .slice none 0 0] 31 (0, 0))) := Lib.hid (by rw [hW0]; exact three2 w _ _ _ _)
  have HV := Lib.hid (implValidD_any va vn d S W0 (h.kept HB0.out))
  obtain ⟨⟨A, c, rfl⟩, A', c', rfl⟩ := h.shape
  obtain ⟨hc0, hc1, -, -⟩ := box2_facts HX.out
  rw [hW0] at hc0 hc1
  cases hv : validD d with
  | false =>
    rw [hv] at HV
    unfold starR at hy
    rw [if_neg (by rw [hv]; decide)] at hy
    obtain ⟨rfl, rfl⟩ := hy
    clear h hv hTab
    go_enter Tryz.func45, Tryz.ntmps45
    go_wp2_with fail
    go_at_call 32
    rw [<- hW0]
    refine HV.out.mono ?_
    rintro e w1 ⟨rfl, hb1⟩
    obtain ⟨c0, c1, k0, k1⟩ := box2_facts ((hb1.block _ (blk_lt HY.out)).trans HY.out)
    obtain ⟨hcl, hsz, hot, hBl⟩ := put2 (k := .slice none 0 0) (l := .slice none 0 0) c0 c1
    obtain ⟨hr0, hr1⟩ := hcl
    have HOt := Lib.hid hBl
    have HB1 := Lib.hid hb1
    clear hc0 hc1 hW0 hb1 hsz hot hBl
    go_wp2_with fail
    refine bodyPost_ret (v := .tuple #[.agg #[.slice none 0 0, .slice none 0 0], .bool false]) (by simp [results, Tryz.results45, go_sem, hr0, hr1]) rfl ?_
    exact ⟨_, _, rfl, DfaO.empty _ _, HOt.out _ _ (HB0.out.trans (HB1.out.mono HB0.out.size)) (Nat.le_succ _)⟩
  | true =>
    rw [hv] at HV
    unfold starR at hy
    rw [if_pos hv] at hy
    obtain ⟨hw, hn40, hnn, hl, ad, cc, aN, cN, hva, hvn, hA, hT⟩ := h.au hv
    injection hva with e1 e2 e3
    injection hvn with e4 e5 e6
    subst e1
    subst e3
    subst e4
    subst e6
    rw [e5] at HX hW0 HV hc1
    rw [e5]
    obtain ⟨n, hne⟩ : ∃ n, n = d.acc.length := ⟨_, rfl⟩
    rw [<- hne] at HX hW0 HV hc0 hc1 hnn hA hT ⊢
    have HAu : Hid (∀ V, Below W0.heap.size W0 V -> AuB V w.heap.size n ad c aN c' (auD d)) := Lib.hid (λ V hV => by
      have hb := HB0.out.trans (hV.mono HB0.out.size)
      obtain ⟨x0, x1, -, -⟩ := box2_facts ((hV.block _ (blk_lt HX.out)).trans HX.out)
      refine ⟨x0, x1, λ q hq => (hb.cell (cell_in (hA q hq))).trans (hA q hq), λ q hq => ?_⟩
      obtain ⟨r, q', h1, h2⟩ := hT q hq
      exact ⟨r, q', (hb.cell (cell_in h1)).trans h1, λ k hk => (hb.cell (cell_in (h2 k hk))).trans (h2 k hk)⟩)
    have hw2 : ∀ q k, q < n -> k < 3 -> (auD d).T q k < n := λ q k hq hk => by rw [<- hnn] at hq ⊢; exact hw.2 q k hq hk
    have hn0 : 0 < n := by rw [<- hnn]; exact hw.1
    have HAc := Lib.hid (λ (V : World) (hV : Below W0.heap.size W0 V) => implAccSt_any ad n c (.slice (some aN) n c') (auD d) V (by omega) (HAu.out V hV).2.2.1)
    have HTab := Lib.hid (λ (V : World) (hV : Below w.heap.size w V) => hTab.kept hV)
    have HMd : Hid (∀ (V : World) (bm : Nat), Below W0.heap.size W0 V -> V.cell? ⟨bm, 0, none⟩ = some (.int .u64 ((mskS (accS (auD d) n) : Nat) : Int)) ->
        Calls Tryz.prog 91 #[.agg #[.bool true, .int .u64 1], .func (.func 89) #[] #[.pointer (some ⟨w.heap.size, 0, none⟩), .pointer (some ⟨bm, 0, none⟩)], .func (.func 90) #[] #[.pointer (some ⟨bm, 0, none⟩)], .int .i64 400] V (CopyDB y ok V)) := Lib.hid (λ V bm hV hbm => by
      refine implMdR_any _ _ _ _ enters_sta1 enters_sta2 (starG (auD d)) (starA (auD d)) n 400 starS V (by omega) (by omega) (by omega) ⟨by simp [starS], λ q hq => by simp [starS] at hq; omega⟩ (λ x k hx hk => starG_ok hn0 (λ q hq => hw2 q k hq hk) hx) (λ U x k hU hx hk => ?_) (λ U x hU hx => ?_) y ok hy
      . exact implStaT_any w.heap.size bm n ad c aN c' (auD d) x k U (HAu.out U (hV.trans (hU.mono hV.size))) hnn hx hk (by omega) (λ q hq => hw2 q k hq hk) ((hU.cell (cell_in hbm)).trans hbm) (HTab.out U (HB0.out.trans ((hV.trans (hU.mono hV.size)).mono HB0.out.size)))
      . exact implStaA_any bm n (auD d) x U (by omega) hx.2 hnn ((hU.cell (cell_in hbm)).trans hbm))
    clear h hy hTab hv hw hn40 hnn hl hA hT e5 hne hw2 hn0
    go_enter Tryz.func45, Tryz.ntmps45
    go_wp2_with fail
    go_at_call 32
    rw [<- hW0]
    refine HV.out.mono ?_
    rintro e w1 ⟨rfl, hb1⟩
    have HB1 := Lib.hid hb1
    clear hc0 hc1 hW0 hb1
    obtain ⟨hc0, hc1, -, -⟩ := HAu.out w1 HB1.out
    go_wp2_with fail
    go_at_call 82
    refine (HAc.out w1 HB1.out).mono ?_
    rintro e w2 ⟨rfl, hb2⟩
    obtain ⟨W3, hW3⟩ : ∃ W3, W3 = w2.alloc (.cells #[.int .u64 ((mskS (accS (auD d) n) : Nat) : Int)] 121) := ⟨_, rfl⟩
    have HB3 : Hid (Below W0.heap.size W0 W3) := Lib.hid (by rw [hW3]; exact (HB1.out.trans (hb2.mono HB1.out.size)).alloc (HB1.out.trans (hb2.mono HB1.out.size)).size _)
    have hcm : W3.cell? ⟨w2.heap.size, 0, none⟩ = some (.int .u64 ((mskS (accS (auD d) n) : Nat) : Int)) := (cell_of_row W3 w2.heap.size 0 _ _ (0, 0) (by rw [hW3]; exact heap_alloc_new w2 _)).trans rfl
    have HMm := Lib.hid (HMd.out W3 w2.heap.size HB3.out hcm)
    clear hc0 hc1 hb2 hcm
    go_upto_region 4 with fail
    rw [<- hW3]
    clear hW3
    go_wp2_with fail
    go_at_call 91
    refine HMm.out.mono ?_
    rintro e w4 hcd
    obtain ⟨A1, p1, A2, p2, rfl, hoo, hb4⟩ := hcd.shape
    obtain ⟨x1, hx1⟩ : ∃ x, x = y.acc.length := ⟨_, rfl⟩
    obtain ⟨x2, hx2⟩ : ∃ x, x = y.nxt.length := ⟨_, rfl⟩
    rw [<- hx1, <- hx2] at hoo ⊢
    have HO4 := Lib.hid hoo
    have HB4 := Lib.hid (HB3.out.trans (hb4.mono HB3.out.size))
    have hz3 := HB3.out.size
    have hyl := blk_lt HY.out
    obtain ⟨c0, c1, k0, k1⟩ := box2_facts ((HB4.out.block _ hyl).trans HY.out)
    obtain ⟨hcl, hsz, hot, hBl⟩ := put2 (k := .slice A1 x1 p1) (l := .slice A2 x2 p2) c0 c1
    obtain ⟨hr0, hr1⟩ := hcl
    have HOt := Lib.hid (And.intro hsz (And.intro hot hBl))
    clear hsz hot hBl hoo hb4 hcd hx1 hx2
    go_wp2_with fail
    refine bodyPost_ret (v := .tuple #[.agg #[.slice A1 x1 p1, .slice A2 x2 p2], .bool ok]) (by simp [results, Tryz.results45, go_sem, hr0, hr1]) rfl ?_
    have h0 := HB0.out.size
    exact ⟨_, _, rfl, HO4.out.mono (λ g hg => HOt.out.2.1 g (by have := hg.1; omega)) (λ g hg => ⟨by have := hg.1; omega, by rw [HOt.out.1]; exact hg.2⟩) (by rw [HOt.out.1]; exact Nat.le_refl _), HOt.out.2.2 _ _ (HB0.out.trans (HB4.out.mono h0)) (Nat.le_succ _)⟩
end Go.Proofs.YtiijlpmdnokjfaaGreatDoor
