/-
  What the closures of impl.ConcatDfa answer.
-/
import Derived.Test.YtlkhmpdncimnfaaDoorSetI
import Derived.Test.YtlkhmpdncimnfaaDoorExpC
import Derived.Test.YtlkhmpdncimnfaaDoorVDfaI
import Derived.StillTailTactics
namespace Go.Proofs.YtlkhmpdncimnfaaDoor
open Go.RowKit

/-- A valid automaton in a box. -/
def AuB (V : World) (g n : Nat) (ad : Addr) (c : Nat) (aN : Addr) (c' : Nat) (a : Au) : Prop :=
  V.cell? ⟨g, 0, none⟩ = some (.slice (some ad) n c) ∧ V.cell? ⟨g, 1, none⟩ = some (.slice (some aN) n c') ∧ (∀ q, q < n → V.cell? (ad.add q) = some (.bool (a.A q))) ∧
    ∀ q, q < n → ∃ r q', V.cell? (aN.add q) = some (.slice (some r) 3 q') ∧ ∀ k, k < 3 → V.cell? (r.add k) = some (.int .i64 ((a.T q k : Nat) : Int))
theorem AuB.kept {V V' : World} {g n : Nat} {ad : Addr} {c : Nat} {aN : Addr} {c' : Nat} {a : Au} (h : AuB V g n ad c aN c' a) (hb : Below V.heap.size V V') : AuB V' g n ad c aN c' a :=
  ⟨(hb.cell (cell_in h.1)).trans h.1, (hb.cell (cell_in h.2.1)).trans h.2.1, fun q hq => (hb.cell (cell_in (h.2.2.1 q hq))).trans (h.2.2.1 q hq), fun q hq => by
    obtain ⟨r, q', h1, h2⟩ := h.2.2.2 q hq
    exact ⟨r, q', (hb.cell (cell_in h1)).trans h1, fun k hk => (hb.cell (cell_in (h2 k hk))).trans (h2 k hk)⟩⟩
/-- What is added where the state accepts. -/
def addS (a : Au) (p : Nat) (s : List Nat) : List Nat := if a.A p then putS s 0 else s

set_option maxRecDepth 100000 in
set_option maxHeartbeats 1600000 in
theorem implCatE_any (ba n : Nat) (ad : Addr) (c : Nat) (aN : Addr) (c' : Nat) (a : Au) (p : Nat) (s : List Nat) (w : World) (h : AuB w ba n ad c aN c' a) (hp : p < n) (hs : ∀ q ∈ s, q < 40) :
    Calls Tryd.prog 23 #[.int .i64 (p : Int), .int .u64 ((mskS s : Nat) : Int), .pointer (some ⟨ba, 0, none⟩)] w fun e w' => e = .returned (.agg #[.int .i64 (p : Int), .int .u64 ((mskS (addS a p s) : Nat) : Int)]) ∧ Below w.heap.size w w' := by
  have s0 : (p : Int) < (n : Int) := by omega
  have s1 : (0 : Int) ≤ (p : Int) := by omega
  obtain ⟨W0, hW0⟩ : ∃ W0, W0 = w.alloc (.cells #[.int .i64 0, .int .u64 0] 50) := ⟨_, rfl⟩
  have HB0 : Hid (Below w.heap.size w W0) := Lib.hid (by rw [hW0]; exact (Below.refl _ _).alloc (Nat.le_refl _) _)
  have a0 := (h.kept HB0.out).1
  have a1 := (h.kept HB0.out).2.2.1 p hp
  obtain ⟨c0, c1, k0, k1⟩ := box2_facts (show W0.heap[w.heap.size]? = some (.cells #[.int .i64 0, .int .u64 0] 50 (0, 0)) by rw [hW0]; exact heap_alloc_new w _)
  have hm := mskS_64 hs
  have hor := or_one (a := mskS s) (by omega)
  rw [msk_put0] at hor
  obtain ⟨b, hb⟩ : ∃ b, b = a.A p := ⟨_, rfl⟩
  rw [← hb] at a1
  cases b with
  | true =>
    obtain ⟨m, hm'⟩ : ∃ m, m = mskS (putS s 0) := ⟨_, rfl⟩
    have HR : Hid (mskS (addS a p s) = m) := Lib.hid (by rw [addS, ← hb, hm']; rfl)
    rw [← hm'] at hor
    obtain ⟨hcl, hsz, hot, hBl⟩ := put2 (k := .int .i64 (p : Int)) (l := .int .u64 (m : Int)) c0 c1
    obtain ⟨hc0, hc1⟩ := hcl
    have HOt := Lib.hid hBl
    clear hm' hb hsz hot hBl h hm
    go_enter Tryd.func23, Tryd.ntmps23
    go_upto_region 1 with fail
    rw [← hW0]
    clear hW0
    go_wp2_with fail
    refine bodyPost_ret (v := .agg #[.int .i64 (p : Int), .int .u64 (m : Int)]) (by simp [results, Tryd.results23, go_sem, hc0, hc1]) rfl ?_
    exact ⟨by rw [HR.out], HOt.out _ _ HB0.out (Nat.le_refl _)⟩
  | false =>
    obtain ⟨m, hm'⟩ : ∃ m, m = mskS s := ⟨_, rfl⟩
    have HR : Hid (mskS (addS a p s) = m) := Lib.hid (by rw [addS, ← hb, hm']; rfl)
    rw [← hm']
    obtain ⟨hcl, hsz, hot, hBl⟩ := put2 (k := .int .i64 (p : Int)) (l := .int .u64 (m : Int)) c0 c1
    obtain ⟨hc0, hc1⟩ := hcl
    have HOt := Lib.hid hBl
    clear hm' hb hsz hot hBl h hor hm
    go_enter Tryd.func23, Tryd.ntmps23
    go_upto_region 1 with fail
    rw [← hW0]
    clear hW0
    go_wp2_with fail
    refine bodyPost_ret (v := .agg #[.int .i64 (p : Int), .int .u64 (m : Int)]) (by simp [results, Tryd.results23, go_sem, hc0, hc1]) rfl ?_
    exact ⟨by rw [HR.out], HOt.out _ _ HB0.out (Nat.le_refl _)⟩

set_option maxRecDepth 100000 in
set_option maxHeartbeats 3200000 in
theorem implCatT_any (be ba bb n n' : Nat) (ad : Addr) (c : Nat) (aN : Addr) (c' : Nat) (a : Au) (ad' : Addr) (e : Nat) (aN' : Addr) (e' : Nat) (b : Au) (x : Nat × List Nat) (k : Nat) (w : World)
    (h : AuB w ba n ad c aN c' a) (h' : AuB w bb n' ad' e aN' e' b) (hx : okC n n' x) (hk : k < 3) (hn' : n' ≤ 40) (hwa : ∀ q, q < n → a.T q k < n) (hwb : ∀ q, q < n' → b.T q k < n')
    (hbe : w.cell? ⟨be, 0, none⟩ = some (.func (.func 23) #[] #[.pointer (some ⟨ba, 0, none⟩)])) (hTab : Tab w) :
    Calls Tryd.prog 24 #[.agg #[.int .i64 (x.1 : Int), .int .u64 ((mskS x.2 : Nat) : Int)], .int .i64 (k : Int), .pointer (some ⟨be, 0, none⟩), .pointer (some ⟨ba, 0, none⟩), .pointer (some ⟨bb, 0, none⟩)] w fun e w' => e = .returned (.agg #[.int .i64 ((catG a b x k).1 : Int), .int .u64 ((mskS (catG a b x k).2 : Nat) : Int)]) ∧ Below w.heap.size w w' := by
  obtain ⟨p, s⟩ := x
  obtain ⟨hp, -, hs⟩ := hx
  have hp : p < n := hp
  have hs : ∀ q ∈ s, q < n' := hs
  have s0 : (p : Int) < (n : Int) := by omega
  have s1 : (0 : Int) ≤ (p : Int) := by omega
  have s2 : (k : Int) < 3 := by omega
  have s3 : (0 : Int) ≤ (k : Int) := by omega
  obtain ⟨W0, hW0⟩ : ∃ W0, W0 = (w.alloc (.cells #[.int .i64 (p : Int), .int .u64 ((mskS s : Nat) : Int)] 50)).alloc (.cells #[.int .i64 0, .int .u64 0] 50) := ⟨_, rfl⟩
  have HB0 : Hid (Below w.heap.size w W0) := Lib.hid (by rw [hW0]; exact ((Below.refl _ _).alloc (Nat.le_refl _) _).alloc (by simp) _)
  have HX : Hid (W0.heap[w.heap.size]? = some (.cells #[.int .i64 (p : Int), .int .u64 ((mskS s : Nat) : Int)] 50 (0, 0))) := Lib.hid (by rw [hW0]; exact (Below.heap_alloc _ _ _ (by simp)).trans (heap_alloc_new w _))
  have HY : Hid (W0.heap[w.heap.size + 1]? = some (.cells #[.int .i64 0, .int .u64 0] 50 (0, 0))) := Lib.hid (by rw [hW0]; exact three2 w _ _ _ _)
  obtain ⟨r, qr, a2, a3⟩ := h.2.2.2 p hp
  have a3 := a3 k hk
  obtain ⟨y, hy⟩ : ∃ y, y = a.T p k := ⟨_, rfl⟩
  have hyn : y < n := by rw [hy]; exact hwa p hp
  rw [← hy] at a3
  obtain ⟨m, hm⟩ : ∃ m, m = mskS s := ⟨_, rfl⟩
  have HAf := Lib.hid (fun (V : World) (hV : Below w.heap.size w V) => implMove_any (.slice (some ad') n' e) aN' n' e' k b s V hn' hk hs hwb (fun q hq => by
    obtain ⟨r, q', h1, h2⟩ := (h'.kept hV).2.2.2 q hq
    exact ⟨r, q', h1, h2 k hk⟩) (hTab.kept hV))
  have hmv : ∀ q ∈ moveS b s k, q < 40 := fun q hq => by
    obtain ⟨p', h1, rfl⟩ := mem_move.1 hq
    have := hwb p' (hs p' h1)
    omega
  have HEl := Lib.hid (fun (V : World) (hV : Below w.heap.size w V) => implCatE_any ba n ad c aN c' a y (moveS b s k) V (h.kept hV) hyn hmv)
  have HR : Hid (catG a b (p, s) k = (y, addS a y (moveS b s k))) := Lib.hid (by rw [hy]; rfl)
  obtain ⟨m2, hm2⟩ : ∃ m, m = mskS (moveS b s k) := ⟨_, rfl⟩
  obtain ⟨m3, hm3⟩ : ∃ m, m = mskS (addS a y (moveS b s k)) := ⟨_, rfl⟩
  rw [← hm] at HX hW0 HAf ⊢
  rw [← hm2] at HAf HEl
  rw [← hm3] at HEl
  have HM3 := Lib.hid hm3
  have hsz : w.heap.size + 1 ≤ W0.heap.size := Nat.le_of_lt (blk_lt HY.out)
  have HK := Lib.hid (fun (V : World) (hV : Below (w.heap.size + 1) W0 V) => (by
    have hb := HB0.out.trans (hV.mono (Nat.le_succ _))
    obtain ⟨x0, x1, -, -⟩ := box2_facts ((hV.block _ (Nat.lt_succ_self _)).trans HX.out)
    exact ⟨(hb.cell (cell_in hbe)).trans hbe, (h.kept hb).2.1, x0, x1, (hb.cell (cell_in a2)).trans a2, (hb.cell (cell_in a3)).trans a3, (h'.kept hb).1, (h'.kept hb).2.1⟩ :
    V.cell? ⟨be, 0, none⟩ = some (.func (.func 23) #[] #[.pointer (some ⟨ba, 0, none⟩)]) ∧ V.cell? ⟨ba, 1, none⟩ = some (.slice (some aN) n c') ∧ V.cell? ⟨w.heap.size, 0, none⟩ = some (.int .i64 (p : Int)) ∧ V.cell? ⟨w.heap.size, 1, none⟩ = some (.int .u64 (m : Int)) ∧
    V.cell? (aN.add p) = some (.slice (some r) 3 qr) ∧ V.cell? (r.add k) = some (.int .i64 (y : Int)) ∧ V.cell? ⟨bb, 0, none⟩ = some (.slice (some ad') n' e) ∧ V.cell? ⟨bb, 1, none⟩ = some (.slice (some aN') n' e')))
  have HL := Lib.hid (fun (V : World) (hV : Below W0.heap.size W0 V) => HB0.out.trans (hV.mono HB0.out.size))
  have hbw : Below W0.heap.size W0 W0 := Below.refl _ _
  clear h h' hs hwa hwb hbe hTab a2 a3 hmv hy hm hm2 hm3
  go_enter Tryd.func24, Tryd.ntmps24
  go_upto_region 1 with fail
  rw [← hW0]
  clear hW0
  go_region_held3 (fun V => V.cell? ⟨be, 0, none⟩ = some (.func (.func 23) #[] #[.pointer (some ⟨ba, 0, none⟩)]) ∧ V.cell? ⟨ba, 1, none⟩ = some (.slice (some aN) n c') ∧ V.cell? ⟨w.heap.size, 0, none⟩ = some (.int .i64 (p : Int)) ∧ V.cell? ⟨w.heap.size, 1, none⟩ = some (.int .u64 (m : Int)) ∧
    V.cell? (aN.add p) = some (.slice (some r) 3 qr) ∧ V.cell? (r.add k) = some (.int .i64 (y : Int)) ∧ V.cell? ⟨bb, 0, none⟩ = some (.slice (some ad') n' e) ∧ V.cell? ⟨bb, 1, none⟩ = some (.slice (some aN') n' e')) (first | exact HK.out _ (hbw.drew.mono hsz) | exact HK.out _ (hbw.mono hsz) | exact HK.out _ (((hbw.mono hsz).setCell (p := ⟨w.heap.size + 1, 0, none⟩) (Nat.le_refl _) _).setCell (p := ⟨w.heap.size + 1, 1, none⟩) (Nat.le_refl _) _)) (first | (go_at_call 25; (with_reducible refine (HAf.out _ (HL.out _ hbw.drew)).mono ?_); rintro e1 w1 ⟨rfl, hb1⟩; have hbw := hbw.drew.trans (hb1.mono hbw.drew.size)) | ((with_reducible refine (HEl.out _ (HL.out _ hbw)).mono ?_); rintro e2 w2 ⟨rfl, hb2⟩; have hbw := hbw.trans (hb2.mono hbw.size); obtain ⟨z0, z1, z2, z3⟩ := box2_facts ((hbw.block _ (blk_lt HY.out)).trans HY.out)))
  obtain ⟨hcl, -, -, hBl⟩ := put2 (k := .int .i64 (y : Int)) (l := .int .u64 (m3 : Int)) z0 z1
  obtain ⟨hc0, hc1⟩ := hcl
  have HOt := Lib.hid (hBl _ _ (HL.out _ hbw) (Nat.le_succ _))
  clear hBl z0 z1 z2 z3 hb1 hb2
  go_wp2_with fail
  refine bodyPost_ret (v := .agg #[.int .i64 (y : Int), .int .u64 (m3 : Int)]) (by simp [results, Tryd.results24, go_sem, hc0, hc1]) rfl ?_
  exact ⟨by rw [HR.out, HM3.out], HOt.out⟩

theorem implCatA_any (bm n : Nat) (b : Au) (p : Int) (s : List Nat) (w : World) (hn : n ≤ 40) (hs : ∀ q ∈ s, q < n) (hbn : b.n = n) (hbm : w.cell? ⟨bm, 0, none⟩ = some (.int .u64 ((mskS (accS b n) : Nat) : Int))) :
    Calls Tryd.prog 27 #[.agg #[.int .i64 p, .int .u64 ((mskS s : Nat) : Int)], .pointer (some ⟨bm, 0, none⟩)] w fun e w' => e = .returned (.bool (anyS b s)) ∧ Below w.heap.size w w' := by
  obtain ⟨W0, hW0⟩ : ∃ W0, W0 = w.alloc (.cells #[.int .i64 p, .int .u64 ((mskS s : Nat) : Int)] 50) := ⟨_, rfl⟩
  have HB0 : Hid (Below w.heap.size w W0) := Lib.hid (by rw [hW0]; exact (Below.refl _ _).alloc (Nat.le_refl _) _)
  obtain ⟨-, c1, -, -⟩ := box2_facts (show W0.heap[w.heap.size]? = some (.cells #[.int .i64 p, .int .u64 ((mskS s : Nat) : Int)] 50 (0, 0)) by rw [hW0]; exact heap_alloc_new w _)
  have hc := (HB0.out.cell (cell_in hbm)).trans hbm
  have h1 := mskS_64 (s := s) (fun q hq => by have := hs q hq; omega)
  have h2 := mskS_64 (s := accS b n) (fun q hq => by have := accS_lt hq; omega)
  have HR : Hid (anyS b s = decide (mskS s &&& mskS (accS b n) ≠ 0)) := Lib.hid (by rw [any_meets (by rw [hbn]; exact hs), hbn])
  obtain ⟨m, hm⟩ : ∃ m, m = mskS s := ⟨_, rfl⟩
  obtain ⟨m2, hm2⟩ : ∃ m, m = mskS (accS b n) := ⟨_, rfl⟩
  rw [← hm, ← hm2] at HR
  rw [← hm] at hW0 c1 h1 ⊢
  rw [← hm2] at h2 hc
  have HM := Lib.hid (fun V => implMeets_any m m2 (by omega) (by omega) V)
  obtain ⟨r, hr⟩ : ∃ r, r = decide (m &&& m2 ≠ 0) := ⟨_, rfl⟩
  rw [← hr] at HM HR
  clear hbm hs hbn hm hm2 hr
  go_enter Tryd.func27, Tryd.ntmps27
  go_upto_region 1 with fail
  rw [← hW0]
  clear hW0
  go_wp2_with (go_at_call 28; refine (HM.out _).mono ?_; rintro e w' ⟨rfl, rfl⟩)
  go_ret
  exact ⟨congrArg (fun b : Bool => Ending.returned (.bool b)) HR.out.symm, HB0.out⟩
end Go.Proofs.YtlkhmpdncimnfaaDoor
