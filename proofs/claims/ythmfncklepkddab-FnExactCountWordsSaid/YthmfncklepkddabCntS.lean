/-
  What spec.CountWords answers.
-/
import Derived.Test.YthmfncklepkddabLangR
import Derived.Test.YthmfncklepkddabVDfaS
import Derived.Test.YthmfncklepkddabCls
import Derived.StillTailTactics
import Derived.IntWalk
namespace Go.Proofs.Ythmfncklepkddab
open Go.RowKit

def wayV (a : Au) (k : Nat) : Nat → Value := fun q => .int .i64 ((waysN a k q : Nat) : Int)
/-- The sum over the first i letters. -/
def psum (a : Au) (k q : Nat) : Nat → Nat
  | 0 => 0
  | i + 1 => psum a k q i + waysN a k (a.T q i)
theorem psum_three (a : Au) (k q : Nat) : psum a k q 3 = waysN a (k + 1) q := by simp [psum, waysN]
theorem three_pow {k : Nat} (h : k ≤ 19) : 3 ^ k ≤ 1162261467 := Nat.le_trans (Nat.pow_le_pow_right (by omega) h) (by decide)
theorem ways_small (a : Au) {k : Nat} (h : k ≤ 19) (q : Nat) : waysN a k q ≤ 1162261467 := Nat.le_trans (waysN_le a k q) (three_pow h)
theorem psum_small (a : Au) {k : Nat} (h : k ≤ 19) (q : Nat) : ∀ i, psum a k q i ≤ i * 1162261467
  | 0 => by simp [psum]
  | i + 1 => by
    have h1 := psum_small a h q i
    have h2 := ways_small a h (a.T q i)
    unfold psum
    omega
/-- The row while the q-th sum is under way. -/
def sumRow (a : Au) (k n q i : Nat) : List Value := ((List.range q).map (wayV a (k + 1)) ++ (List.replicate n (.int .i64 0 : Value)).drop q).set q (.int .i64 ((psum a k q i : Nat) : Int))
theorem sumRow_length (a : Au) {k n q i : Nat} (hq : q ≤ n) : (sumRow a k n q i).length = n := by
  unfold sumRow
  simp
  omega
theorem sumRow_zero (a : Au) {k n q : Nat} : sumRow a k n q 0 = (List.range q).map (wayV a (k + 1)) ++ (List.replicate n (.int .i64 0 : Value)).drop q := by
  unfold sumRow
  apply List.ext_getElem
  · simp
  · intro j h1 h2
    rw [List.getElem_set]
    split
    · rename_i e
      subst e
      rw [List.getElem_append_right (by simp)]
      simp [psum]
    · rfl
theorem sumRow_set (a : Au) (k n q i j : Nat) : (sumRow a k n q i).set q (.int .i64 ((psum a k q j : Nat) : Int)) = sumRow a k n q j := by
  unfold sumRow
  rw [List.set_set]
theorem sumRow_three (a : Au) {k n q : Nat} (hq : q < n) : sumRow a k n q 3 = (List.range (q + 1)).map (wayV a (k + 1)) ++ (List.replicate n (.int .i64 0 : Value)).drop (q + 1) := by
  unfold sumRow
  rw [psum_three]
  exact set_zero (wayV a (k + 1)) n q hq
theorem sumRow_at (a : Au) {k n q i : Nat} (hq : q < n) : (sumRow a k n q i)[q]? = some (.int .i64 ((psum a k q i : Nat) : Int)) := by
  unfold sumRow
  rw [List.getElem?_set_self]
  simp
  omega
theorem wayV_at (a : Au) {k n q : Nat} (hq : q < n) : ((List.range n).map (wayV a k))[q]? = some (.int .i64 ((waysN a k q : Nat) : Int)) := by
  rw [List.getElem?_map, List.getElem?_range hq]
  rfl

theorem drew_set_size (w : World) (p : Addr) (v : Value) : (w.setCell p v).drew.heap.size = w.heap.size := by
  show (w.setCell p v).heap.size = w.heap.size
  simp [World.setCell]

set_option maxRecDepth 100000 in
set_option maxHeartbeats 6400000 in
theorem specCnt_yes (va vn : Value) (d : Dx) (S : Nat → Prop) (m : Nat) (w : World) (h : DfaV w S va vn d) (hv : validD d = true) (hm : m ≤ 20) :
    Calls Try.prog 6 #[.agg #[va, vn], .int .i64 (m : Int)] w fun e w' => e = .returned (.int .i64 ((waysN (auD d) m 0 : Nat) : Int)) ∧ Below w.heap.size w w' := by
  obtain ⟨i0, hi, hz0, hz1, hz2⟩ := info_parts intInfo
  obtain ⟨W0, hW0⟩ : ∃ W0, W0 = w.alloc (.cells #[va, vn] 28) := ⟨_, rfl⟩
  have HB0 : Hid (Below w.heap.size w W0) := Lib.hid (by rw [hW0]; exact (Below.refl _ _).alloc (Nat.le_refl _) _)
  have HX : Hid (Bx2 W0 w.heap.size va vn) := Lib.hid (by
    have k := box2_kept (w := w) (w1 := W0) (a := va) (b := vn) (t := 28) (by rw [hW0]; exact Below.refl _ _)
    exact ⟨k.2.1, k.2.2.1⟩)
  have HV := Lib.hid (specValidD_any va vn d S W0 (h.kept HB0.out))
  have HL := Lib.hid (fun w => l1In_yes (m : Int) 0 20 w (by omega))
  obtain ⟨hw, hn, hnn, hl, ad, c, ad', c', rfl, rfl, hA, hT⟩ := h.au hv
  rw [hv] at HV
  obtain ⟨c0, c1⟩ := HX.out
  rw [hW0] at c0 c1
  obtain ⟨a, ha⟩ : ∃ a, a = auD d := ⟨_, rfl⟩
  rw [← ha] at hw hn hnn hA hT ⊢
  rw [← hnn] at hW0 HX HV hA hT c0 c1 ⊢
  have HW := Lib.hid hw
  obtain ⟨n, hne⟩ : ∃ n, n = a.n := ⟨_, rfl⟩
  rw [← hne] at hW0 HX HV hA hT hn c0 c1 ⊢
  have HN := Lib.hid hne
  have hn0 : 0 < n := by rw [hne]; exact hw.1
  have HA := Lib.hid hA
  have HT := Lib.hid hT
  have HK := Lib.hid (fun (V : World) (hV : Below w.heap.size w V) {p : Addr} {u : Value} (hc : w.cell? p = some u) => (hV.cell (cell_in hc)).trans hc)
  clear h hv ha hA hT hw hnn hl hne
  go_enter Try.func6, Try.ntmps6
  go_wp2_with fail
  go_at_call 18
  rw [← hW0]
  clear hW0 c0 c1
  refine HV.out.mono ?_
  rintro e w1 ⟨rfl, hb1⟩
  have HB1 := Lib.hid (HB0.out.trans (hb1.mono HB0.out.size))
  have HX1 := Lib.hid (HX.out.kept hb1)
  obtain ⟨c0, c1⟩ := HX1.out
  clear hb1
  go_wp2_with fail
  go_at_call 19
  refine (HL.out _).mono ?_
  rintro e w2 ⟨rfl, rfl⟩
  go_wp2_with (at_make; refine wpList_make_full _ rfl _ _ 40 rfl w1.heap.size 3 i0 _ 1 Try.underlying40 hi hz0 hz1 _ _ _ _ n rfl rfl rfl rfl (by rw [hz2]; omega) (by unfold maxLen; omega) (Nat.le_refl _) ?_; intro w3 hown hgr)
  obtain ⟨ho, hb, hwl⟩ := made_row_o hown hgr (by omega) (wayV a 0)
  have HO0 := Lib.hid ho
  have HB3 := Lib.hid hb
  have HWl := Lib.hid hwl
  clear hown hgr ho hb hwl c0 c1
  obtain ⟨wM, hwM⟩ : ∃ x, x = w1 := ⟨_, rfl⟩
  rw [← hwM] at HO0 HB3 HWl HB1 HX1 ⊢
  clear hwM
  go_loopw [6] (fun iv wr => ∃ q : Nat, iv = .int .i64 q ∧ q ≤ n ∧ Hid (RowO wr (fun g => g = wM.heap.size) (.slice (some ⟨wM.heap.size, 0, none⟩) n n) ((List.range q).map (wayV a 0) ++ (List.replicate n (.int .i64 0 : Value)).drop q)) ∧ Hid (Below wM.heap.size wM wr ∧ wM.heap.size < wr.heap.size)) (fun iv _ => n - (intOf iv).toNat)
  case atStart => exact ⟨0, rfl, Nat.zero_le _, HO0, Lib.hid ⟨HB3.out, HWl.out⟩⟩
  case round =>
    obtain ⟨q, rfl, hq, HO, HBr⟩ := hrel
    clear HO0 HB3 HWl
    have c0 := (HX1.out.kept HBr.out.1).1
    by_cases hlt : q < n
    · have hd : decide ((q : Int) < (n : Int)) = true := by simp; omega
      have hca := HA.out q hlt
      have hca2 := HK.out wr (HB1.out.trans (HBr.out.1.mono HB1.out.size)) hca
      obtain ⟨b, hb⟩ : ∃ b, b = a.A q := ⟨_, rfl⟩
      rw [← hb] at hca2
      have s1 : (0 : Int) ≤ (q : Int) := by omega
      have s2 : (q : Int) < (n : Int) := by omega
      clear hca
      cases b with
      | true =>
        have hv : wayV a 0 q = .int .i64 1 := by simp [wayV, waysN, ← hb]
        obtain ⟨g, hg, -, hgl, hst⟩ := HO.out.set (j := q) (by simp; omega)
        cases hg
        obtain ⟨⟨x0, hx0⟩, hf0, hset⟩ := hst wr rfl
        have HS : Hid (RowO (wr.setCell ⟨wM.heap.size, q, none⟩ (.int .i64 1)) (fun g => g = wM.heap.size) (.slice (some ⟨wM.heap.size, 0, none⟩) n n) ((List.range (q + 1)).map (wayV a 0) ++ (List.replicate n (.int .i64 0 : Value)).drop (q + 1))) := Lib.hid (by
          have h1 := hset (wayV a 0 q)
          rw [set_zero _ n q hlt, hv] at h1
          exact h1)
        have HB2 : Hid (Below wM.heap.size wM (wr.setCell ⟨wM.heap.size, q, none⟩ (.int .i64 1)) ∧ wM.heap.size < (wr.setCell ⟨wM.heap.size, q, none⟩ (.int .i64 1)).heap.size) := Lib.hid ⟨HBr.out.1.setCell (p := ⟨wM.heap.size, q, none⟩) (Nat.le_refl _) (.int .i64 1), by simpa [World.setCell] using HBr.out.2⟩
        clear hv hset hst hb
        go_wp2_with fail
        go_roundw
        case rel => exact ⟨q + 1, by go_num, by omega, HS, HB2⟩
        case measure => simp [intOf]; omega
      | false =>
        have hv : wayV a 0 q = .int .i64 0 := by simp [wayV, waysN, ← hb]
        have HS : Hid (RowO wr (fun g => g = wM.heap.size) (.slice (some ⟨wM.heap.size, 0, none⟩) n n) ((List.range (q + 1)).map (wayV a 0) ++ (List.replicate n (.int .i64 0 : Value)).drop (q + 1))) := Lib.hid (by
          rw [← zero_step _ n q hlt hv]
          exact HO.out)
        clear hv hb
        go_wp2_with fail
        go_roundw
        case rel => exact ⟨q + 1, by go_num, by omega, HS, HBr⟩
        case measure => simp [intOf]; omega
    · have hqe : q = n := by omega
      have hd : decide ((q : Int) < (n : Int)) = false := by simp; omega
      have HOw : Hid (RowO wr (fun g => g = wM.heap.size) (.slice (some ⟨wM.heap.size, 0, none⟩) n n) ((List.range n).map (wayV a 0))) := Lib.hid (by
        have h := HO.out
        rw [hqe, zero_all] at h
        exact h)
      clear HO hqe
      obtain ⟨q0, rfl⟩ : ∃ x, x = q := ⟨_, rfl⟩
      obtain ⟨gM, hgM⟩ : ∃ x, x = wM.heap.size := ⟨_, rfl⟩
      have HBw := Lib.hid (HB1.out.trans (HBr.out.1.mono HB1.out.size))
      have HXw := Lib.hid (HX1.out.kept HBr.out.1)
      have HG : Hid (w.heap.size ≤ gM ∧ gM < wr.heap.size) := Lib.hid (by rw [hgM]; exact ⟨HB1.out.size, HBr.out.2⟩)
      rw [← hgM] at HOw ⊢
      clear HBr hgM c0
      obtain ⟨wN, rfl⟩ : ∃ x, x = wr := ⟨_, rfl⟩
      go_wp2_with fail
      clear hd
      go_loopw [5, 7] (fun ov kv wr => ∃ k g : Nat, kv = .int .i64 k ∧ ov = .slice (some ⟨g, 0, none⟩) n n ∧ k ≤ m ∧ Hid (RowO wr (fun x => x = g) (.slice (some ⟨g, 0, none⟩) n n) ((List.range n).map (wayV a k))) ∧ Hid (Below wN.heap.size wN wr ∧ w.heap.size ≤ g ∧ g < wr.heap.size)) (fun _ kv _ => m - (intOf kv).toNat)
      case atStart => exact ⟨0, gM, rfl, rfl, Nat.zero_le _, HOw, Lib.hid ⟨Below.refl _ _, HG.out⟩⟩
      clear HOw HG
      case round =>
        obtain ⟨k, g, rfl, rfl, hk, HO, HBk⟩ := hrel
        have HBwk := Lib.hid (HBw.out.trans (HBk.out.1.mono HBw.out.size))
        by_cases hkm : k < m
        · have hd : decide ((k : Int) < (m : Int)) = true := by simp; omega
          go_wp2_with (at_make; refine wpList_make_full _ rfl _ _ 40 rfl wr.heap.size 3 i0 _ 1 Try.underlying40 hi hz0 hz1 _ _ _ _ n rfl rfl rfl rfl (by rw [hz2]; omega) (by unfold maxLen; omega) (Nat.le_refl _) ?_; intro w3 hown hgr)
          obtain ⟨ho, hb, hwl⟩ := made_row_o hown hgr (by omega) (wayV a (k + 1))
          have HO3 := Lib.hid ho
          have HB3 := Lib.hid (And.intro hb hwl)
          clear hown hgr ho hb hwl hd
          obtain ⟨wK, rfl⟩ : ∃ x, x = wr := ⟨_, rfl⟩
          have HRow : Hid (∀ V, Below wK.heap.size wK V → ∀ q, q < n → V.cell? ⟨g, q, none⟩ = some (.int .i64 ((waysN a k q : Nat) : Int))) := Lib.hid (fun V hV q hq => by
            obtain ⟨-, A, c, hA2, hc⟩ := HO.out.row.kept hV
            injection hA2 with e1 e2 e3
            subst e1
            clear e2 e3
            obtain ⟨ad, had, -, hce⟩ := hc q _ (wayV_at a hq)
            cases had
            rwa [Addr.add_lit, Nat.zero_add] at hce)
          obtain ⟨gN, hgN⟩ : ∃ x, x = wK.heap.size := ⟨_, rfl⟩
          rw [← hgN] at HO3 ⊢
          have HGn := Lib.hid hgN
          clear hgN
          go_loopw [9] (fun iv wr => ∃ q : Nat, iv = .int .i64 q ∧ q ≤ n ∧ Hid (RowO wr (fun x => x = gN) (.slice (some ⟨gN, 0, none⟩) n n) ((List.range q).map (wayV a (k + 1)) ++ (List.replicate n (.int .i64 0 : Value)).drop q)) ∧ Hid (Below wK.heap.size wK wr ∧ wK.heap.size < wr.heap.size)) (fun iv _ => n - (intOf iv).toNat)
          case atStart => exact ⟨0, rfl, Nat.zero_le _, HO3, HB3⟩
          clear HO3 HB3
          case round =>
            obtain ⟨q, rfl, hq, HQ, HBq⟩ := hrel
            by_cases hqn : q < n
            · have hd : decide ((q : Int) < (n : Int)) = true := by simp; omega
              have HQi : Hid (RowO wr (fun x => x = gN) (.slice (some ⟨gN, 0, none⟩) n n) (sumRow a k n q 0)) := Lib.hid (by rw [sumRow_zero]; exact HQ.out)
              clear HQ
              go_wp2_with fail
              clear hd
              go_loopw [10] (fun iv wr => ∃ i : Nat, iv = .int .i64 i ∧ i ≤ 3 ∧ Hid (RowO wr (fun x => x = gN) (.slice (some ⟨gN, 0, none⟩) n n) (sumRow a k n q i)) ∧ Hid (Below wK.heap.size wK wr ∧ wK.heap.size < wr.heap.size)) (fun iv _ => 3 - (intOf iv).toNat)
              case atStart => exact ⟨0, rfl, Nat.zero_le _, HQi, HBq⟩
              clear HQi HBq
              case round =>
                obtain ⟨i, rfl, hi3, HI, HBi⟩ := hrel
                by_cases hi3' : i < 3
                · have hd : decide ((i : Int) < 3) = true := by simp; omega
                  have hxn := hqn
                  obtain ⟨r, q', h1, h2⟩ := HT.out q hqn
                  have h2 := h2 i hi3'
                  have htn : a.T q i < n := by rw [HN.out]; exact HW.out.2 q i (by rw [← HN.out]; exact hqn) hi3'
                  have h3 := HRow.out wr HBi.out.1 (a.T q i) htn
                  have hk19 : k ≤ 19 := by omega
                  have hx1 := ways_small a hk19 (a.T q i)
                  have hp1 := psum_small a hk19 q i
                  have hpe : psum a k q (i + 1) = psum a k q i + waysN a k (a.T q i) := rfl
                  obtain ⟨t, ht⟩ : ∃ t, t = a.T q i := ⟨_, rfl⟩
                  rw [← ht] at h2 h3 htn hx1 hpe
                  obtain ⟨x, hx⟩ : ∃ x, x = waysN a k t := ⟨_, rfl⟩
                  rw [← hx] at h3 hx1 hpe
                  obtain ⟨gg, hg, -, hgl, hst⟩ := HI.out.set (j := q) (by rw [sumRow_length a hq]; exact hqn)
                  cases hg
                  obtain ⟨-, A, c3, hA2, hc⟩ := HI.out.row
                  injection hA2 with e1 e2 e3
                  subst e1
                  clear e2 e3
                  obtain ⟨ad1, had, -, h4⟩ := hc q _ (sumRow_at a hqn)
                  cases had
                  rw [Addr.add_lit, Nat.zero_add] at h4
                  obtain ⟨p, hp⟩ : ∃ p, p = psum a k q i := ⟨_, rfl⟩
                  rw [← hp] at h4 hp1 hpe
                  obtain ⟨⟨x0, hx0⟩, hf0, hset⟩ := hst wr rfl
                  have e0 : x0 = .int .i64 (p : Int) := Option.some.inj (hx0.symm.trans h4)
                  subst e0
                  clear h4
                  obtain ⟨WS, hWS⟩ : ∃ WS, WS = (wr.setCell ⟨gN, q, none⟩ (.int .i64 ((p : Int) + (x : Int)))).drew := ⟨_, rfl⟩
                  have HS : Hid (RowO WS (fun x => x = gN) (.slice (some ⟨gN, 0, none⟩) n n) (sumRow a k n q (i + 1))) := Lib.hid (by
                    have h := hset (.int .i64 ((psum a k q (i + 1) : Nat) : Int))
                    rw [sumRow_set] at h
                    rw [hWS]
                    rw [hpe] at h
                    exact h.mono (fun _ _ => rfl) (fun _ h => h))
                  have HBS : Hid (Below wK.heap.size wK WS ∧ wK.heap.size < WS.heap.size) := Lib.hid (by
                    rw [hWS]
                    exact ⟨(HBi.out.1.setCell (p := ⟨gN, q, none⟩) (by rw [HGn.out]; exact Nat.le_refl _) _).drew, by rw [drew_set_size]; exact HBi.out.2⟩)
                  have HWs := Lib.hid hWS
                  have hb := HBwk.out.trans (HBi.out.1.mono HBwk.out.size)
                  have x1 := ((HXw.out.kept HBk.out.1).kept HBi.out.1).2
                  have x2 := HK.out wr hb h1
                  have x3 := HK.out wr hb h2
                  have s1 : (0 : Int) ≤ (q : Int) := by omega
                  have s2 : (q : Int) < (n : Int) := by omega
                  have s3 : (0 : Int) ≤ (i : Int) := by omega
                  have s4 : (i : Int) < 3 := by omega
                  have s5 : (0 : Int) ≤ (t : Int) := by omega
                  have s6 : (t : Int) < (n : Int) := by omega
                  have hp2 : p ≤ 3324522934 := by omega
                  have hsum : IntKind.i64.wrap ((p : Int) + (x : Int)) = (p : Int) + (x : Int) := IntWalk.i64_in _ (by omega)
                  clear hx ht hp hpe h1 h2 hc hst hset hWS hb hp1 hsum
                  go_wp2_with fail
                  go_still_tail 19, (by kernel_rfl)
                  go_wp2_with fail
                  rw [← HWs.out]
                  exact ⟨⟨i + 1, by go_num, by omega, HS, HBS⟩, by simp [intOf]; omega⟩
                · have hie : i = 3 := by omega
                  have hd : decide ((i : Int) < 3) = false := by simp; omega
                  have HI3 : Hid (RowO wr (fun x => x = gN) (.slice (some ⟨gN, 0, none⟩) n n) ((List.range (q + 1)).map (wayV a (k + 1)) ++ (List.replicate n (.int .i64 0 : Value)).drop (q + 1))) := Lib.hid (by
                    have h := HI.out
                    rw [hie, sumRow_three a hqn] at h
                    exact h)
                  clear HI hie
                  go_wp2_with fail
                  go_roundw
                  case rel => exact ⟨q + 1, by go_num, by omega, HI3, HBi⟩
                  case measure => simp [intOf]; omega
            · have hqe : q = n := by omega
              have hd : decide ((q : Int) < (n : Int)) = false := by simp; omega
              have HQn : Hid (RowO wr (fun x => x = gN) (.slice (some ⟨gN, 0, none⟩) n n) ((List.range n).map (wayV a (k + 1)))) := Lib.hid (by
                have h := HQ.out
                rw [hqe, zero_all] at h
                exact h)
              have HBn : Hid (Below wN.heap.size wN wr ∧ w.heap.size ≤ gN ∧ gN < wr.heap.size) := Lib.hid ⟨HBk.out.1.trans (HBq.out.1.mono HBk.out.1.size), by rw [HGn.out]; exact Nat.le_trans HBwk.out.size (Nat.le_refl _), by rw [HGn.out]; exact HBq.out.2⟩
              clear HQ hqe
              go_wp2_with fail
              go_roundw
              case rel => exact ⟨k + 1, gN, by go_num, rfl, by omega, HQn, HBn⟩
              case measure => simp [intOf]; omega
        · have hke : k = m := by omega
          have hd : decide ((k : Int) < (m : Int)) = false := by simp; omega
          obtain ⟨-, A, c, hA2, hc⟩ := HO.out.row
          injection hA2 with e1 e2 e3
          subst e1
          clear e2 e3
          obtain ⟨ad1, had, -, hce⟩ := hc 0 _ (wayV_at a hn0)
          cases had
          rw [Addr.add_lit, Nat.zero_add] at hce
          obtain ⟨z, hz⟩ : ∃ z, z = waysN a k 0 := ⟨_, rfl⟩
          rw [← hz] at hce
          have HZ : Hid (waysN a m 0 = z) := Lib.hid (by rw [← hke]; exact hz.symm)
          have s1 : (0 : Int) < (n : Int) := by omega
          clear hc hke hz
          go_wp2_with fail
          go_ret
          exact ⟨congrArg (fun z : Nat => Ending.returned (.int .i64 (z : Int))) HZ.out.symm, HBwk.out⟩

set_option maxRecDepth 100000 in
set_option maxHeartbeats 1600000 in
theorem specCnt_any (va vn : Value) (d : Dx) (S : Nat → Prop) (m : Int) (w : World) (h : DfaV w S va vn d) :
    Calls Try.prog 6 #[.agg #[va, vn], .int .i64 m] w fun e w' => e = .returned (.int .i64 (cntR d m)) ∧ Below w.heap.size w w' := by
  by_cases hok : validD d = true ∧ 0 ≤ m ∧ m ≤ 20
  · obtain ⟨k, rfl⟩ : ∃ k : Nat, m = k := ⟨m.toNat, by omega⟩
    have e : cntR d (k : Int) = ((waysN (auD d) k 0 : Nat) : Int) := by
      unfold cntR
      rw [if_pos hok]
      rfl
    rw [e]
    exact specCnt_yes va vn d S k w h hok.1 (by omega)
  · have HZ : Hid (cntR d m = 0) := Lib.hid (by
      unfold cntR
      rw [if_neg hok])
    obtain ⟨W0, hW0⟩ : ∃ W0, W0 = w.alloc (.cells #[va, vn] 28) := ⟨_, rfl⟩
    have HB0 : Hid (Below w.heap.size w W0) := Lib.hid (by rw [hW0]; exact (Below.refl _ _).alloc (Nat.le_refl _) _)
    have HX : Hid (Bx2 W0 w.heap.size va vn) := Lib.hid (by
      have k := box2_kept (w := w) (w1 := W0) (a := va) (b := vn) (t := 28) (by rw [hW0]; exact Below.refl _ _)
      exact ⟨k.2.1, k.2.2.1⟩)
    have HV := Lib.hid (specValidD_any va vn d S W0 (h.kept HB0.out))
    obtain ⟨⟨A, c, rfl⟩, A', c', rfl⟩ := h.shape
    obtain ⟨c0, c1⟩ := HX.out
    rw [hW0] at c0 c1
    cases hv : validD d with
    | false =>
      rw [hv] at HV
      clear h hv hok
      go_enter Try.func6, Try.ntmps6
      go_wp2_with fail
      go_at_call 18
      rw [← hW0]
      clear hW0 c0 c1
      refine HV.out.mono ?_
      rintro e w1 ⟨rfl, hb1⟩
      have HB1 := Lib.hid (HB0.out.trans (hb1.mono HB0.out.size))
      clear hb1
      go_wp2_with fail
      go_ret
      exact ⟨congrArg (fun z => Ending.returned (.int .i64 z)) HZ.out.symm, HB1.out⟩
    | true =>
      rw [hv] at HV
      have HL := Lib.hid (fun w => l1In_no m 0 20 w (fun hh => hok ⟨hv, hh⟩))
      clear h hv hok
      go_enter Try.func6, Try.ntmps6
      go_wp2_with fail
      go_at_call 18
      rw [← hW0]
      clear hW0 c0 c1
      refine HV.out.mono ?_
      rintro e w1 ⟨rfl, hb1⟩
      have HB1 := Lib.hid (HB0.out.trans (hb1.mono HB0.out.size))
      clear hb1
      go_wp2_with fail
      go_at_call 19
      refine (HL.out _).mono ?_
      rintro e w2 ⟨rfl, rfl⟩
      go_wp2_with fail
      go_ret
      exact ⟨congrArg (fun z => Ending.returned (.int .i64 z)) HZ.out.symm, HB1.out⟩
end Go.Proofs.Ythmfncklepkddab
