/-
  What impl.countsAfter and impl.CountWords answer.
-/
import Derived.Test.YthmfncklepkddabCntM
import Derived.Test.YthmfncklepkddabLangR
import Derived.Test.YthmfncklepkddabVDfaI
import Derived.Test.YthmfncklepkddabCls
import Derived.IntWalk
namespace Go.Proofs.Ythmfncklepkddab
open Go.RowKit

/-- Numbers as a row's cells. -/
def natV (l : List Nat) : List Value := l.map fun x => .int .i64 ((x : Nat) : Int)
theorem natV_length (l : List Nat) : (natV l).length = l.length := by simp [natV]
theorem natV_at {l : List Nat} {j : Nat} (h : j < l.length) : (natV l)[j]? = some (.int .i64 ((l.getD j 0 : Nat) : Int)) := by
  simp [natV, List.getD_eq_getElem?_getD, h]
theorem natV_up (l : List Nat) (j v : Nat) : natV (upN l j v) = (natV l).set j (.int .i64 ((l.getD j 0 + v : Nat) : Int)) := by
  unfold natV upN
  rw [List.map_set]
theorem natV_zero (n : Nat) : natV (List.replicate n 0) = List.replicate n (.int .i64 0) := by simp [natV]
theorem upN_self {l : List Nat} {j v : Nat} (hj : j < l.length) : (upN l j v).getD j 0 = l.getD j 0 + v := by rw [upN_at hj, if_pos rfl]

set_option maxRecDepth 100000 in
set_option maxHeartbeats 3200000 in
theorem implCa_any (va vc : Value) (ad' : Addr) (c' : Nat) (a : Au) (n : Nat) (c : List Nat) (Sc : Nat → Prop) (w : World) (ha : a.wf) (hn : a.n = n) (hn40 : n ≤ 40) (hc : c.length = n)
    (hT : ∀ q, q < n → ∃ ad2 c2, w.cell? (ad'.add q) = some (.slice (some ad2) 3 c2) ∧ ∀ k, k < 3 → w.cell? (ad2.add k) = some (.int .i64 ((a.T q k : Nat) : Int)))
    (hV : RowV w Sc vc (natV c)) (hb1 : ∀ q, q < n → c.getD q 0 ≤ 3486784401) (hb2 : ∀ t q, t ≤ 3 * n → q < n → (goN a c t).getD q 0 ≤ 3486784401) :
    Calls Try.prog 23 #[.agg #[va, .slice (some ad') n c'], vc] w (Copy (natV (goN a c (3 * n))) w) := by
  obtain ⟨i0, hi, hz0, hz1, hz2⟩ := info_parts intInfo
  obtain ⟨A, cc, rfl⟩ := hV.shape
  rw [natV_length, hc] at hV ⊢
  obtain ⟨W0, hW0⟩ : ∃ W0, W0 = w.alloc (.cells #[va, .slice (some ad') n c'] 28) := ⟨_, rfl⟩
  have HB0 : Hid (Below w.heap.size w W0 ∧ W0.heap.size = w.heap.size + 1) := Lib.hid (by rw [hW0]; exact ⟨(Below.refl _ _).alloc (Nat.le_refl _) _, by simp⟩)
  have HX : Hid (W0.heap[w.heap.size]? = some (.cells #[va, .slice (some ad') n c'] 28 (0, 0))) := Lib.hid (by rw [hW0]; exact heap_alloc_new w _)
  have HC := Lib.hid (fun j (hj : j < n) => (by
    obtain ⟨a1, h1, -, h2⟩ := hV.at (j := j) (by rw [natV_length]; omega)
    have h3 := natV_at (l := c) (j := j) (by omega)
    rw [List.getElem?_eq_getElem (by rw [natV_length]; omega)] at h3
    exact ⟨a1, h1, h2.trans h3⟩ : ∃ ad, A = some ad ∧ w.cell? (ad.add j) = some (.int .i64 ((c.getD j 0 : Nat) : Int))))
  have HT := Lib.hid hT
  have HG := Lib.hid (And.intro ha (And.intro hn (And.intro hc (And.intro hb1 hb2))))
  clear hT hV ha hn hc hb1 hb2
  go_enter Try.func23, Try.ntmps23
  go_upto_region 1 with fail
  rw [← hW0]
  clear hW0
  go_wp2_with (at_make; refine wpList_make_full _ rfl _ _ 40 rfl W0.heap.size 3 i0 _ 1 Try.underlying40 hi hz0 hz1 _ _ _ _ n rfl rfl rfl rfl (by rw [hz2]; omega) (by unfold maxLen; omega) (Nat.le_refl _) ?_; intro w1 hown hgr)
  obtain ⟨ho, hb, hwl⟩ := made_row_o hown hgr (by omega) (fun _ => .int .i64 0)
  obtain ⟨B, hB⟩ : ∃ B, B = W0.heap.size := ⟨_, rfl⟩
  rw [← hB] at ho hb hwl ⊢
  have HBe := Lib.hid hB
  have HS0 : Hid (RowO w1 (fun g => g = B) (.slice (some ⟨B, 0, none⟩) n n) (natV (goN a c (3 * 0)))) := Lib.hid (by
    show RowO w1 (fun g => g = B) (.slice (some ⟨B, 0, none⟩) n n) (natV (List.replicate c.length 0))
    rw [natV_zero, HG.out.2.2.1]
    simpa using ho)
  have HB1 := Lib.hid (And.intro hb hwl)
  clear hown hgr ho hb hwl hB
  go_loopw [15] (fun i wr => ∃ q : Nat, i = .int .i64 q ∧ q ≤ n ∧ Hid (RowO wr (fun g => g = B) (.slice (some ⟨B, 0, none⟩) n n) (natV (goN a c (3 * q)))) ∧ Hid (Below B W0 wr ∧ B < wr.heap.size)) (fun i _ => n - (intOf i).toNat)
  case atStart => exact ⟨0, rfl, Nat.zero_le _, HS0, HB1⟩
  case round =>
    obtain ⟨q, rfl, hq, HS, HBr⟩ := hrel
    have HBw := Lib.hid (HB0.out.1.trans (HBr.out.1.mono (by have := HBe.out; have := HB0.out.2; omega)))
    by_cases hlt : q < n
    · obtain ⟨ad2, c2, t1, t2⟩ := HT.out q hlt
      obtain ⟨adc, rfl, v1⟩ := HC.out q hlt
      have k0 := (HBr.out.1.block w.heap.size (by have := HBe.out; have := HB0.out.2; omega)).trans HX.out
      obtain ⟨e0, e1, -, -⟩ := box2_facts k0
      have u1 := (HBw.out.cell (cell_in t1)).trans t1
      have u2 := (HBw.out.cell (cell_in v1)).trans v1
      obtain ⟨z, hz⟩ : ∃ z : Nat, z = c.getD q 0 := ⟨_, rfl⟩
      rw [← hz] at u2
      have hzb : z ≤ 3486784401 := by rw [hz]; exact HG.out.2.2.2.1 q hlt
      have HZ := Lib.hid hz
      have HT2 := Lib.hid t2
      have s0 : (0 : Int) ≤ (q : Int) := by omega
      have s1 : (q : Int) < (n : Int) := by omega
      clear t1 t2 v1 hz k0
      obtain ⟨wL, rfl⟩ : ∃ x, x = wr := ⟨_, rfl⟩
      go_wp2_with fail
      clear e0 e1 u1 u2
      go_loopw [26] (fun i wr => ∃ k : Nat, i = .int .i64 k ∧ k ≤ 3 ∧ Hid (RowO wr (fun g => g = B) (.slice (some ⟨B, 0, none⟩) n n) (natV (goN a c (3 * q + k)))) ∧ Hid (Below B W0 wr ∧ B < wr.heap.size)) (fun i _ => 3 - (intOf i).toNat)
      case atStart => exact ⟨0, rfl, Nat.zero_le _, HS, HBr⟩
      case round =>
        obtain ⟨k, rfl, hk, HSk, HBk⟩ := hrel
        have HBv := Lib.hid (HB0.out.1.trans (HBk.out.1.mono (by have := HBe.out; have := HB0.out.2; omega)))
        by_cases hk3 : k < 3
        · have t3 := HT2.out k hk3
          have u3 := (HBv.out.cell (cell_in t3)).trans t3
          obtain ⟨x, hx⟩ : ∃ x : Nat, x = a.T q k := ⟨_, rfl⟩
          rw [← hx] at u3
          have hxn : x < n := by rw [hx, ← HG.out.2.1]; exact HG.out.1.2 q k (by rw [HG.out.2.1]; exact hlt) hk3
          have hgl : (goN a c (3 * q + k)).length = n := by rw [goN_length]; exact HG.out.2.2.1
          obtain ⟨g, hg, -, -, hst⟩ := HSk.out.set (j := x) (by rw [natV_length, hgl]; exact hxn)
          cases hg
          obtain ⟨-, hf0, hset⟩ := hst wr rfl
          obtain ⟨y, hy⟩ : ∃ y : Nat, y = (goN a c (3 * q + k)).getD x 0 := ⟨_, rfl⟩
          have hyb : y ≤ 3486784401 := by rw [hy]; exact HG.out.2.2.2.2 _ x (by omega) hxn
          have u4 : wr.cell? ⟨B, x, none⟩ = some (.int .i64 (y : Int)) := by
            obtain ⟨a1, h1, -, h2⟩ := HSk.out.row.at (j := x) (by rw [natV_length, hgl]; exact hxn)
            cases h1
            rw [Addr.add_lit, Nat.zero_add] at h2
            have h3 := natV_at (l := goN a c (3 * q + k)) (j := x) (by rw [hgl]; exact hxn)
            rw [List.getElem?_eq_getElem (by rw [natV_length, hgl]; exact hxn)] at h3
            rw [hy]
            exact h2.trans h3
          have HSn : Hid (RowO (wr.setCell ⟨B, x, none⟩ (.int .i64 ((y : Int) + (z : Int)))) (fun g => g = B) (.slice (some ⟨B, 0, none⟩) n n) (natV (goN a c (3 * q + (k + 1))))) := Lib.hid (by
            have h1 := hset (.int .i64 ((y : Int) + (z : Int)))
            have e : goN a c (3 * q + (k + 1)) = upN (goN a c (3 * q + k)) x z := by
              show goN a c (3 * q + k + 1) = _
              rw [goN, show (3 * q + k) / 3 = q by omega, show (3 * q + k) % 3 = k by omega, hx, HZ.out]
            rw [e, natV_up, ← hy]
            rw [show (((y + z : Nat) : Nat) : Int) = (y : Int) + (z : Int) by omega]
            exact h1)
          have HBn : Hid (Below B W0 (wr.setCell ⟨B, x, none⟩ (.int .i64 ((y : Int) + (z : Int)))) ∧ B < (wr.setCell ⟨B, x, none⟩ (.int .i64 ((y : Int) + (z : Int)))).heap.size) := Lib.hid ⟨HBk.out.1.setCell (p := ⟨B, x, none⟩) (Nat.le_refl _) _, by simpa [World.setCell] using HBk.out.2⟩
          have s2 : (0 : Int) ≤ (x : Int) := by omega
          have s3 : (x : Int) < (n : Int) := by omega
          have s4 : (0 : Int) ≤ (k : Int) := by omega
          have s5 : (k : Int) < 3 := by omega
          have s6 : (0 : Int) ≤ (y : Int) := by omega
          have s7 : (y : Int) ≤ 3486784401 := by omega
          have s8 : (0 : Int) ≤ (z : Int) := by omega
          have s9 : (z : Int) ≤ 3486784401 := by omega
          clear t3 hx hst hset hy hgl
          go_wp2_with fail
          go_roundw
          case rel => exact ⟨k + 1, by go_num, by omega, HSn, HBn⟩
          case measure => simp [intOf]; omega
        · have HS3 : Hid (RowO wr (fun g => g = B) (.slice (some ⟨B, 0, none⟩) n n) (natV (goN a c (3 * (q + 1))))) := Lib.hid (by
            have e : 3 * (q + 1) = 3 * q + k := by omega
            rw [e]
            exact HSk.out)
          clear HSk
          go_wp2_with fail
          go_roundw
          case rel => exact ⟨q + 1, by go_num, by omega, HS3, HBk⟩
          case measure => simp [intOf]; omega
    · have hqe : q = n := by omega
      have HSe : Hid (RowO wr (fun g => g = B) (.slice (some ⟨B, 0, none⟩) n n) (natV (goN a c (3 * n)))) := Lib.hid (by
        have h := HS.out
        rw [hqe] at h
        exact h)
      clear HS hqe
      go_wp2_with fail
      go_ret
      exact ⟨_, rfl, HSe.out.mono (fun _ _ => rfl) (fun g hg => by rw [hg]; exact ⟨by have := HBe.out; have := HB0.out.2; omega, HBr.out.2⟩), HBw.out⟩

theorem pow_20 {k : Nat} (h : k ≤ 20) : 3 ^ k ≤ 3486784401 := Nat.le_trans (Nat.pow_le_pow_right (by omega) h) (by decide)

set_option maxRecDepth 100000 in
set_option maxHeartbeats 3200000 in
theorem implCnt_no (va vn : Value) (d : Dx) (S : Nat → Prop) (n : Int) (w : World) (h : DfaV w S va vn d) (hno : ¬ (validD d = true ∧ 0 ≤ n ∧ n ≤ 20)) :
    Calls Try.prog 8 #[.agg #[va, vn], .int .i64 n] w fun e w' => e = .returned (.int .i64 0) ∧ Below w.heap.size w w' := by
  obtain ⟨W0, hW0⟩ : ∃ W0, W0 = w.alloc (.cells #[va, vn] 28) := ⟨_, rfl⟩
  have HB0 : Hid (Below w.heap.size w W0) := Lib.hid (by rw [hW0]; exact (Below.refl _ _).alloc (Nat.le_refl _) _)
  have hx : Bx2 W0 w.heap.size va vn := (by
    have k := box2_kept (w := w) (w1 := W0) (a := va) (b := vn) (t := 28) (by rw [hW0]; exact Below.refl _ _)
    exact ⟨k.2.1, k.2.2.1⟩)
  have HV := Lib.hid (implValidD_any va vn d S W0 (h.kept HB0.out))
  obtain ⟨⟨A, c, rfl⟩, A', c', rfl⟩ := h.shape
  obtain ⟨c0, c1⟩ := hx
  rw [hW0] at c0 c1
  cases hv : validD d with
  | false =>
    rw [hv] at HV
    clear h hv hno
    go_enter Try.func8, Try.ntmps8
    go_wp2_with fail
    go_at_call 22
    rw [← hW0]
    clear hW0 c0 c1
    refine HV.out.mono ?_
    rintro e w1 ⟨rfl, hb1⟩
    have HB1 := Lib.hid (HB0.out.trans (hb1.mono HB0.out.size))
    clear hb1
    go_wp2_with fail
    go_ret
    exact ⟨rfl, HB1.out⟩
  | true =>
    rw [hv] at HV hno
    by_cases hn0 : n < 0
    · have hd : decide (n < 0) = true := by simpa using hn0
      clear h hv hno
      go_enter Try.func8, Try.ntmps8
      go_wp2_with fail
      go_at_call 22
      rw [← hW0]
      clear hW0 c0 c1
      refine HV.out.mono ?_
      rintro e w1 ⟨rfl, hb1⟩
      have HB1 := Lib.hid (HB0.out.trans (hb1.mono HB0.out.size))
      clear hb1
      go_wp2_with fail
      go_ret
      exact ⟨rfl, HB1.out⟩
    · have hd : decide (n < 0) = false := by simpa using hn0
      have hn1 : 20 < n := by
        apply Int.lt_of_not_ge
        intro hh
        exact hno ⟨rfl, by omega, hh⟩
      have hd2 : decide (20 < n) = true := by simpa using hn1
      have hd3 : decide (n > 20) = true := by simpa using hn1
      clear h hv hno
      go_enter Try.func8, Try.ntmps8
      go_wp2_with fail
      go_at_call 22
      rw [← hW0]
      clear hW0 c0 c1
      refine HV.out.mono ?_
      rintro e w1 ⟨rfl, hb1⟩
      have HB1 := Lib.hid (HB0.out.trans (hb1.mono HB0.out.size))
      clear hb1
      go_wp2_with fail
      go_ret
      exact ⟨rfl, HB1.out⟩

set_option maxRecDepth 100000 in
set_option maxHeartbeats 6400000 in
theorem implCnt_yes (va vn : Value) (d : Dx) (S : Nat → Prop) (m : Nat) (w : World) (h : DfaV w S va vn d) (hv : validD d = true) (hm : m ≤ 20) :
    Calls Try.prog 8 #[.agg #[va, vn], .int .i64 (m : Int)] w fun e w' => e = .returned (.int .i64 ((waysN (auD d) m 0 : Nat) : Int)) ∧ Below w.heap.size w w' := by
  obtain ⟨i0, hi, hz0, hz1, hz2⟩ := info_parts intInfo
  obtain ⟨W0, hW0⟩ : ∃ W0, W0 = w.alloc (.cells #[va, vn] 28) := ⟨_, rfl⟩
  have HB0 : Hid (Below w.heap.size w W0) := Lib.hid (by rw [hW0]; exact (Below.refl _ _).alloc (Nat.le_refl _) _)
  have HX : Hid (W0.heap[w.heap.size]? = some (.cells #[va, vn] 28 (0, 0))) := Lib.hid (by rw [hW0]; exact heap_alloc_new w _)
  have HV := Lib.hid (implValidD_any va vn d S W0 (h.kept HB0.out))
  rw [hv] at HV
  obtain ⟨hw, hn40, hnn, hl, ad, c, ad', c', rfl, rfl, hA, hT⟩ := h.au hv
  obtain ⟨n, hne⟩ : ∃ n, n = d.acc.length := ⟨_, rfl⟩
  rw [← hne] at hA hT hnn HV HX hW0 ⊢
  obtain ⟨a, hae⟩ : ∃ a, a = auD d := ⟨_, rfl⟩
  rw [← hae] at hA hT hnn hw hn40 ⊢
  have hnp : 0 < n := by rw [← hnn]; exact hw.1
  have HA := Lib.hid hA
  have HG := Lib.hid (And.intro hw hnn)
  have hn40' : n ≤ 40 := by omega
  have HCa := Lib.hid (fun (V : World) (hV : Below w.heap.size w V) (k : Nat) (hk : k ≤ 19) vc Sc (hr : RowV V Sc vc (natV (cntN a k))) => implCa_any (.slice (some ad) n c) vc ad' c' a n (cntN a k) Sc V hw hnn hn40' (by rw [cntN_length]; exact hnn)
    (fun q hq => by
      obtain ⟨r, e, h1, h2⟩ := hT q hq
      exact ⟨r, e, (hV.cell (cell_in h1)).trans h1, fun k hk => (hV.cell (cell_in (h2 k hk))).trans (h2 k hk)⟩) hr
    (fun q hq => Nat.le_trans (cntN_at_le hw k (by omega)) (pow_20 (by omega))) (fun t q ht hq => Nat.le_trans (goN_at_le hw k (by omega) (by omega)) (pow_20 (by omega))))
  have HLe := Lib.hid (fun q (hq : q < n) => Nat.le_trans (cntN_at_le hw m (q := q) (by omega)) (pow_20 hm))
  have HAc := Lib.hid (fun q (hq : q ≤ n) => Nat.le_trans (accN_le hw m q (by omega)) (pow_20 hm))
  have HAl : Hid (accN a (cntN a m) n = waysN a m 0) := Lib.hid (by rw [← hnn]; exact accN_all hw m)
  have hN0 : decide ((m : Int) < 0) = false := by simp
  have s0 : (0 : Int) < (n : Int) := by omega
  have hN1 : decide (20 < (m : Int)) = false := by simp; omega
  have hN2 : decide ((m : Int) > 20) = false := by simp; omega
  obtain ⟨c0, c1, -, -⟩ := box2_facts HX.out
  rw [hW0] at c0 c1
  clear h hv hA hT hw hne hl hn40 hnn hae
  go_enter Try.func8, Try.ntmps8
  go_wp2_with fail
  go_at_call 22
  rw [← hW0]
  clear hW0 c0 c1
  refine HV.out.mono ?_
  rintro e w1 ⟨rfl, hb1⟩
  have HB1 := Lib.hid (HB0.out.trans (hb1.mono HB0.out.size))
  have HX1 := Lib.hid ((hb1.block _ (blk_lt HX.out)).trans HX.out)
  obtain ⟨c0, c1, -, -⟩ := box2_facts HX1.out
  clear hb1
  go_wp2_with (at_make; refine wpList_make_full _ rfl _ _ 40 rfl w1.heap.size 3 i0 _ 1 Try.underlying40 hi hz0 hz1 _ _ _ _ n rfl rfl rfl rfl (by rw [hz2]; omega) (by unfold maxLen; omega) (Nat.le_refl _) ?_; intro w2 hown hgr; obtain ⟨ho, hb, hwl⟩ := made_row_o hown hgr (by omega) (fun _ => .int .i64 0); clear hown hgr; have HO := Lib.hid (And.intro ho (And.intro hb hwl)); obtain ⟨g, hg, -, -, hst⟩ := ho.set (j := 0) (by simp; omega); cases hg; obtain ⟨⟨x0, hx0⟩, hf0, -⟩ := hst w2 rfl; clear hst ho hb hwl)
  clear c0 c1
  obtain ⟨ho, hb, hwl⟩ := HO.out
  obtain ⟨g, hg, -, -, hst⟩ := ho.set (j := 0) (by simp; omega)
  cases hg
  have hset := (hst w2 rfl).2.2
  have HS0 : Hid (RowV (w2.setCell ⟨w1.heap.size, 0, none⟩ (.int .i64 1)) (fun g => g < (w2.setCell ⟨w1.heap.size, 0, none⟩ (.int .i64 1)).heap.size) (.slice (some ⟨w1.heap.size, 0, none⟩) n n) (natV (cntN a 0))) := Lib.hid (by
    have h1 := hset (.int .i64 1)
    have e : natV (cntN a 0) = (List.replicate n (.int .i64 0 : Value)).set 0 (.int .i64 1) := by
      rw [cntN, natV_up, natV_zero, HG.out.2]
      congr 2
      simp [List.getD_eq_getElem?_getD, hnp]
    rw [e]
    refine RowV.mono (h1.row.mono (fun _ _ => rfl) (fun g hg => hg)) (fun _ _ => rfl) (fun g hg => ?_) |> fun h => by simpa using h
    rw [hg]
    simpa [World.setCell] using hwl)
  have HB2 : Hid (Below w1.heap.size w1 (w2.setCell ⟨w1.heap.size, 0, none⟩ (.int .i64 1))) := Lib.hid (hb.setCell (p := ⟨w1.heap.size, 0, none⟩) (Nat.le_refl _) _)
  clear ho hb hwl hst hset
  go_wp2_with fail
  go_loopw [27, 5] (fun i v wr => ∃ k : Nat, i = .int .i64 k ∧ k ≤ m ∧ Hid (RowV wr (fun g => g < wr.heap.size) v (natV (cntN a k))) ∧ Hid (Below w1.heap.size w1 wr)) (fun i _ _ => m - (intOf i).toNat)
  case atStart => exact ⟨0, rfl, Nat.zero_le _, HS0, HB2⟩
  case round =>
    obtain ⟨k, rfl, hk, HS, HBr⟩ := hrel
    clear hx0 hf0
    have HBw := Lib.hid (HB1.out.trans (HBr.out.mono HB1.out.size))
    have HXr := Lib.hid ((HBr.out.block _ (blk_lt HX1.out)).trans HX1.out)
    obtain ⟨c0, c1, -, -⟩ := box2_facts HXr.out
    by_cases hlt : k < m
    · have hk1 : (k : Int) < (m : Int) := by omega
      have HC := Lib.hid (HCa.out wr HBw.out k (by omega) _ _ HS.out)
      go_wp2_with fail
      go_at_call 23
      refine HC.out.mono ?_
      rintro e w3 ⟨v3, rfl, ho3, hb3⟩
      have HS3 : Hid (RowV w3 (fun g => g < w3.heap.size) v3 (natV (cntN a (k + 1)))) := Lib.hid (by
        rw [cntN, HG.out.2]
        exact ho3.row.mono (fun _ _ => rfl) (fun g hg => hg.2))
      have HB3 := Lib.hid (HBr.out.trans (hb3.mono HBr.out.size))
      clear ho3 hb3 c0 c1
      go_wp2_with fail
      go_roundw
      case rel => exact ⟨k + 1, by go_num, by omega, HS3, HB3⟩
      case measure => simp [intOf]; omega
    · have hke : k = m := by omega
      have HSm : Hid (RowV wr (fun g => g < wr.heap.size) u5 (natV (cntN a m))) := Lib.hid (by
        have h := HS.out
        rw [hke] at h
        exact h)
      obtain ⟨Ar, cr, hv5⟩ := HS.out.shape
      rw [natV_length, cntN_length, HG.out.2] at hv5
      subst hv5
      clear HS hke
      have HC := Lib.hid (fun j (hj : j < n) => (by
        have hcl : (cntN a m).length = n := by rw [cntN_length]; exact HG.out.2
        obtain ⟨a1, h1, -, h2⟩ := HSm.out.at (j := j) (by rw [natV_length]; omega)
        have h3 := natV_at (l := cntN a m) (j := j) (by omega)
        rw [List.getElem?_eq_getElem (by rw [natV_length]; omega)] at h3
        exact ⟨a1, h1, h2.trans h3⟩ : ∃ ad, Ar = some ad ∧ wr.cell? (ad.add j) = some (.int .i64 (((cntN a m).getD j 0 : Nat) : Int))))
      have HAr := Lib.hid (fun j (hj : j < n) => (HBw.out.cell (cell_in (HA.out j hj))).trans (HA.out j hj))
      obtain ⟨wL, hwL⟩ : ∃ x, x = wr := ⟨_, rfl⟩
      rw [← hwL] at c0 c1 HC HAr HBw ⊢
      clear hwL
      go_wp2_with fail
      go_loop [35, 6] (fun i v => ∃ q : Nat, i = .int .i64 q ∧ q ≤ n ∧ v = .int .i64 ((accN a (cntN a m) q : Nat) : Int)) (fun i _ => n - (intOf i).toNat)
      case atStart => exact ⟨0, rfl, Nat.zero_le _, rfl⟩
      case round =>
        obtain ⟨q, rfl, hq, rfl⟩ := hrel
        by_cases hqn : q < n
        · obtain ⟨adc, rfl, v1⟩ := HC.out q hqn
          have v2 := HAr.out q hqn
          obtain ⟨z, hz⟩ : ∃ z : Nat, z = (cntN a m).getD q 0 := ⟨_, rfl⟩
          rw [← hz] at v1
          have hzb : z ≤ 3486784401 := by rw [hz]; exact HLe.out q hqn
          obtain ⟨y, hy⟩ : ∃ y : Nat, y = accN a (cntN a m) q := ⟨_, rfl⟩
          have hyb : y ≤ 3486784401 := by rw [hy]; exact HAc.out q hq
          have hsu := accN_succ a (cntN a m) q
          rw [← hz, ← hy] at hsu
          rw [← hy]
          obtain ⟨b, hb⟩ : ∃ b, b = a.A q := ⟨_, rfl⟩
          rw [← hb] at v2 hsu
          have HSu := Lib.hid hsu
          have s1 : (0 : Int) ≤ (q : Int) := by omega
          have s2 : (q : Int) < (n : Int) := by omega
          have s3 : (0 : Int) ≤ (y : Int) := by omega
          have s4 : (y : Int) ≤ 3486784401 := by omega
          have s5 : (0 : Int) ≤ (z : Int) := by omega
          have s6 : (z : Int) ≤ 3486784401 := by omega
          clear hz hy hb hsu
          cases b with
          | true =>
            go_wp2_with fail
            go_round
            case rel => exact ⟨q + 1, by go_num, by omega, by rw [HSu.out]; simp⟩
            case measure => simp [intOf]; omega
          | false =>
            go_wp2_with fail
            go_round
            case rel => exact ⟨q + 1, by go_num, by omega, by rw [HSu.out]; simp⟩
            case measure => simp [intOf]; omega
        · have hqe : q = n := by omega
          have HE : Hid (accN a (cntN a m) q = waysN a m 0) := Lib.hid (by rw [hqe]; exact HAl.out)
          clear hqe
          go_wp2_with fail
          go_ret
          exact ⟨congrArg (fun z : Nat => Ending.returned (.int .i64 ((z : Nat) : Int))) HE.out, HBw.out⟩
theorem implCnt_any (va vn : Value) (d : Dx) (S : Nat → Prop) (n : Int) (w : World) (h : DfaV w S va vn d) :
    Calls Try.prog 8 #[.agg #[va, vn], .int .i64 n] w fun e w' => e = .returned (.int .i64 (cntR d n)) ∧ Below w.heap.size w w' := by
  unfold cntR
  by_cases hc : validD d = true ∧ 0 ≤ n ∧ n ≤ 20
  · rw [if_pos hc]
    obtain ⟨m, rfl⟩ : ∃ m : Nat, n = (m : Int) := ⟨n.toNat, by omega⟩
    rw [Int.toNat_natCast]
    exact implCnt_yes va vn d S m w h hc.1 (by omega)
  · rw [if_neg hc]
    exact implCnt_no va vn d S n w h hc
end Go.Proofs.Ythmfncklepkddab
