/-
  What spec.l7Reach answers: all states that are reached by at least one letter, in ascending order.
-/
import Derived.Test.YthmfncklepkddabDoorRchM
import Derived.Test.YthmfncklepkddabDoorMovS
namespace Go.Proofs.YthmfncklepkddabDoor
open Go.RowKit

/-- What l7Reach answers. -/
def RchPost (a : Au) (p : Nat) (w : World) (e : Ending) (w' : World) : Prop := ∃ v l, RchL a p l ∧ l.length ≤ a.n ∧ e = .returned v ∧ IR w' w.heap.size v (natI l) ∧ v ≠ .slice none 0 0 ∧ Below w.heap.size w w'

set_option maxRecDepth 100000 in
set_option maxHeartbeats 6400000 in
theorem specReach_any (va : Value) (aN : Addr) (c : Nat) (p : Nat) (a : Au) (w : World) (ha : a.wf) (hn : a.n ≤ 2000) (hp : p < a.n)
    (hT : ∀ q, q < a.n → ∃ r q', w.cell? (aN.add q) = some (.slice (some r) 3 q') ∧ ∀ k, k < 3 → w.cell? (r.add k) = some (.int .i64 ((a.T q k : Nat) : Int))) :
    Calls Tryd.prog 20 #[.agg #[va, .slice (some aN) a.n c], .int .i64 (p : Int)] w (RchPost a p w) := by
  obtain ⟨W0, hW0⟩ : ∃ W0, W0 = (w.alloc (.cells #[va, .slice (some aN) a.n c] 28)).alloc (.cells #[] 3) := ⟨_, rfl⟩
  have HB0 : Hid (Below w.heap.size w W0) := Lib.hid (by rw [hW0]; exact ((Below.refl _ _).alloc (Nat.le_refl _) _).alloc (by simp) _)
  have HX : Hid (W0.heap[w.heap.size]? = some (.cells #[va, .slice (some aN) a.n c] 28 (0, 0))) := Lib.hid (by rw [hW0]; exact (Below.heap_alloc _ _ _ (by simp)).trans (heap_alloc_new w _))
  have HN : Hid (IR W0 w.heap.size (.slice (some ⟨w.heap.size + 1, 0, none⟩) 0 0) []) := Lib.hid (by
    have h := IR.none (w.alloc (.cells #[va, .slice (some aN) a.n c] 28)) (B := w.heap.size) (by simp)
    rw [World.size_alloc, ← hW0] at h
    exact h)
  have HK := Lib.hid (fun (V : World) (hV : Below w.heap.size w V) {p : Addr} {u : Value} (hc : w.cell? p = some u) => (hV.cell (cell_in hc)).trans hc)
  have HMath := Lib.hid ha
  obtain ⟨n, hne⟩ : ∃ n, n = a.n := ⟨_, rfl⟩
  rw [← hne] at hT hn hp hW0 HX
  rw [← hne]
  have HN2 := Lib.hid hne
  have HT := Lib.hid hT
  clear hT ha hne
  go_enter Tryd.func20, Tryd.ntmps20
  go_upto_region 2 with fail
  rw [← hW0]
  clear hW0
  go_wp2_with fail
  go_loopw [5, 6] (fun ov kv wr => ∃ k : Nat, kv = .int .i64 k ∧ k ≤ 3 ∧ ov ≠ .slice none 0 0 ∧ Hid (IR wr w.heap.size ov (natI (firstT a p k))) ∧ Hid (Below w.heap.size w wr ∧ wr.heap[w.heap.size]? = some (.cells #[va, .slice (some aN) n c] 28 (0, 0)))) (fun _ kv _ => 3 - (intOf kv).toNat)
  case atStart => exact ⟨0, rfl, Nat.zero_le _, by simp, HN, Lib.hid ⟨HB0.out, HX.out⟩⟩
  case round =>
    obtain ⟨k, rfl, hk, hne, HO, HBr⟩ := hrel
    by_cases hk3 : k < 3
    · have hd : decide ((k : Int) < 3) = true := by simp; omega
      obtain ⟨r, q', h1, h2⟩ := HT.out p hp
      have h2 := h2 k hk3
      obtain ⟨y, hy⟩ : ∃ y, y = a.T p k := ⟨_, rfl⟩
      rw [← hy] at h2
      have HSu : Hid (firstT a p (k + 1) = putS (firstT a p k) y) := Lib.hid (by rw [firstT_succ, hy])
      have hll : (firstT a p k).length ≤ n := by rw [HN2.out]; exact firstT_len HMath.out (by rw [← HN2.out]; exact hp) hk
      obtain ⟨g, cap, rfl, -, -⟩ := ir_some HO.out hne
      rw [natI_length] at HO ⊢
      have HPu := Lib.hid (fun (V : World) (hV : Below wr.heap.size wr V) => specPut_any w.heap.size (.slice (some ⟨g, 0, none⟩) (firstT a p k).length cap) (firstT a p k) y V (by
        have h := HO.out.below hV
        exact h) (by simp) (by omega))
      obtain ⟨m, hm⟩ : ∃ m, m = (firstT a p k).length := ⟨_, rfl⟩
      rw [← hm] at HO HPu ⊢
      obtain ⟨-, x1, -, -⟩ := box2_facts HBr.out.2
      have x2 := HK.out wr HBr.out.1 h1
      have x3 := HK.out wr HBr.out.1 h2
      have s3 : (0 : Int) ≤ (p : Int) := by omega
      have s4 : (p : Int) < (n : Int) := by omega
      have s5 : (0 : Int) ≤ (k : Int) := by omega
      have s6 : (k : Int) < 3 := by omega
      clear hy h1 h2 hm hll
      go_wp2_with fail
      go_at_call 19
      refine (HPu.out _ (Below.refl _ _)).mono ?_
      rintro e1 w1 ⟨v1, rfl, hi1, hn1, ho1, hb1⟩
      have HO2 := Lib.hid hi1
      rw [← HSu.out] at HO2
      have HB2 : Hid (Below w.heap.size w w1 ∧ w1.heap[w.heap.size]? = some (.cells #[va, .slice (some aN) n c] 28 (0, 0))) := Lib.hid ⟨HBr.out.1.trans (hb1.mono HBr.out.1.size), (hb1.block _ (blk_lt HBr.out.2)).trans HBr.out.2⟩
      clear hi1 ho1 hb1 x1 x2 x3
      go_wp2_with fail
      go_roundw
      case rel => exact ⟨k + 1, by go_num, by omega, hn1, HO2, HB2⟩
      case measure => simp [intOf]; omega
    · have hke : k = 3 := by omega
      have hd : decide ((k : Int) < 3) = false := by simp; omega
      have HO' : Hid (OnWay a p (firstT a p k)) := Lib.hid (by rw [hke]; exact onWay_start a p)
      obtain ⟨l0, hl0⟩ : ∃ l0, l0 = firstT a p k := ⟨_, rfl⟩
      rw [← hl0] at HO HO'
      obtain ⟨k0, rfl⟩ : ∃ x, x = k := ⟨_, rfl⟩
      clear hke
      clear hl0
      go_wp2_with fail
      clear hd
      go_loopw [5] (fun ov wr => ∃ l : List Nat, ov ≠ .slice none 0 0 ∧ Hid (OnWay a p l) ∧ Hid (IR wr w.heap.size ov (natI l)) ∧ Hid (Below w.heap.size w wr ∧ wr.heap[w.heap.size]? = some (.cells #[va, .slice (some aN) n c] 28 (0, 0)))) (fun ov _ => n + 1 - sliceLen ov)
      case atStart => exact ⟨l0, hne, HO', HO, HBr⟩
      case round =>
        obtain ⟨l, hnl, HW, HL, HBl⟩ := hrel
        obtain ⟨wL, rfl⟩ : ∃ x, x = wr := ⟨_, rfl⟩
        clear HO HBr HO'
        have hll : l.length ≤ n := by rw [HN2.out]; exact HW.out.len HMath.out (by rw [← HN2.out]; exact hp)
        obtain ⟨g, cap, rfl, -, -⟩ := ir_some HL.out hnl
        rw [natI_length] at HL ⊢
        obtain ⟨N, hN⟩ : ∃ N, N = l.length := ⟨_, rfl⟩
        have HNl := Lib.hid hN
        rw [← hN] at HL hll ⊢
        clear hN
        have HM0 : Hid (IR wL w.heap.size (.slice (some ⟨g, 0, none⟩) N cap) (natI (moreT a l (3 * 0)))) := HL
        go_wp2_with fail
        go_loopw [7, 8] (fun mv iv wq => ∃ i : Nat, iv = .int .i64 i ∧ i ≤ N ∧ mv ≠ .slice none 0 0 ∧ Hid (IR wq w.heap.size mv (natI (moreT a l (3 * i)))) ∧ Hid (Below wL.heap.size wL wq)) (fun _ iv _ => N - (intOf iv).toNat)
        case atStart => exact ⟨0, rfl, Nat.zero_le _, by simp, HM0, Lib.hid (Below.refl _ _)⟩
        case round =>
          obtain ⟨i, rfl, hi, hmn, HM, HBq⟩ := hrel
          obtain ⟨wq, rfl⟩ : ∃ x, x = wr := ⟨_, rfl⟩
          obtain ⟨mv, rfl⟩ : ∃ x, x = u7 := ⟨_, rfl⟩
          clear HM0
          by_cases hiN : i < N
          · have hd : decide ((i : Int) < (N : Int)) = true := by simp; omega
            have HMk : Hid (IR wq w.heap.size mv (natI (moreT a l (3 * i + 0)))) := HM
            go_wp2_with fail
            clear hd
            go_loopw [7, 9] (fun mv kv wk => ∃ k : Nat, kv = .int .i64 k ∧ k ≤ 3 ∧ mv ≠ .slice none 0 0 ∧ Hid (IR wk w.heap.size mv (natI (moreT a l (3 * i + k)))) ∧ Hid (Below wL.heap.size wL wk)) (fun _ kv _ => 3 - (intOf kv).toNat)
            case atStart => exact ⟨0, rfl, Nat.zero_le _, hmn, HMk, HBq⟩
            case round =>
              obtain ⟨k, rfl, hk, hmn2, HM2, HBk⟩ := hrel
              obtain ⟨wk, rfl⟩ : ∃ x, x = wr := ⟨_, rfl⟩
              clear HMk HM
              by_cases hk3 : k < 3
              · have hd : decide ((k : Int) < 3) = true := by simp; omega
                have hil : i < l.length := by rw [← HNl.out]; exact hiN
                obtain ⟨ad2, c2, hv, hc⟩ := row_at (HL.out.below HBk.out |>.rowV (by rw [← HNl.out]; omega)) hil
                injection hv with hv1 hv2 hv3
                cases hv1
                clear hv2
                rw [Addr.add_lit, Nat.zero_add] at hc
                obtain ⟨x, hx⟩ : ∃ x, x = l[i] := ⟨_, rfl⟩
                rw [← hx] at hc
                have hxn : x < n := by rw [hx, HN2.out]; exact HW.out.lt HMath.out (by rw [← HN2.out]; exact hp) _ (List.getElem_mem hil)
                obtain ⟨r, q', h1, h2⟩ := HT.out x hxn
                have h2 := h2 k hk3
                obtain ⟨y, hy⟩ : ∃ y, y = a.T x k := ⟨_, rfl⟩
                rw [← hy] at h2
                have HSu : Hid (moreT a l (3 * i + (k + 1)) = putS (moreT a l (3 * i + k)) y) := Lib.hid (by
                  rw [show 3 * i + (k + 1) = 3 * i + k + 1 from rfl, moreT_succ, hy, hx, show (3 * i + k) / 3 = i by omega, show (3 * i + k) % 3 = k by omega, List.getD_eq_getElem?_getD, List.getElem?_eq_getElem hil]
                  rfl)
                have hml : (moreT a l (3 * i + k)).length ≤ n := by rw [HN2.out]; exact (HW.out.more (by rw [← HNl.out]; omega)).len HMath.out (by rw [← HN2.out]; exact hp)
                obtain ⟨g2, cap2, rfl, -, -⟩ := ir_some HM2.out hmn2
                rw [natI_length] at HM2 ⊢
                have HPu := Lib.hid (fun (V : World) (hV : Below wk.heap.size wk V) => specPut_any w.heap.size (.slice (some ⟨g2, 0, none⟩) (moreT a l (3 * i + k)).length cap2) (moreT a l (3 * i + k)) y V (by
                  have h := HM2.out.below hV
                  exact h) (by simp) (by omega))
                obtain ⟨m, hm⟩ : ∃ m, m = (moreT a l (3 * i + k)).length := ⟨_, rfl⟩
                rw [← hm] at HM2 HPu ⊢
                have HKe := Lib.hid (fun (V : World) (hV : Below wk.heap.size wk V) => (by
                  have hbv := HBk.out.trans (hV.mono HBk.out.size)
                  have hb := HBl.out.1.trans (hbv.mono HBl.out.1.size)
                  obtain ⟨-, x1, -, -⟩ := box2_facts ((hbv.block _ (blk_lt HBl.out.2)).trans HBl.out.2)
                  exact ⟨x1, (hV.cell (cell_in hc)).trans hc, HK.out V hb h1, HK.out V hb h2⟩ :
                  V.cell? ⟨w.heap.size, 1, none⟩ = some (.slice (some aN) n c) ∧ V.cell? ⟨g, i, none⟩ = some (.int .i64 (x : Int)) ∧ V.cell? (aN.add x) = some (.slice (some r) 3 q') ∧ V.cell? (r.add k) = some (.int .i64 (y : Int))))
                have hbw : Below wk.heap.size wk wk := Below.refl _ _
                have s1 : (0 : Int) ≤ (i : Int) := by omega
                have s2 : (i : Int) < (N : Int) := by omega
                have s3 : (0 : Int) ≤ (x : Int) := by omega
                have s4 : (x : Int) < (n : Int) := by omega
                have s5 : (0 : Int) ≤ (k : Int) := by omega
                have s6 : (k : Int) < 3 := by omega
                clear hx hy hv3 h1 h2 hm hml hc
                go_wp2_with fail
                go_region_held3 (fun V => V.cell? ⟨w.heap.size, 1, none⟩ = some (.slice (some aN) n c) ∧ V.cell? ⟨g, i, none⟩ = some (.int .i64 (x : Int)) ∧ V.cell? (aN.add x) = some (.slice (some r) 3 q') ∧ V.cell? (r.add k) = some (.int .i64 (y : Int))) (first | exact HKe.out _ hbw.drew | exact HKe.out _ hbw) (first | (go_at_call 19; (with_reducible refine (HPu.out _ hbw.drew).mono ?_); rintro e1 w1 ⟨v1, rfl, hi1, hn1, ho1, hb1⟩; have hbw := hbw.drew.trans (hb1.mono hbw.drew.size)))
                have HO2 := Lib.hid hi1
                rw [← HSu.out] at HO2
                have HB2 := Lib.hid (HBk.out.trans (hbw.mono HBk.out.size))
                clear hi1 ho1 hb1 hbw
                go_wp2_with fail
                go_roundw
                case rel => exact ⟨k + 1, by go_num, by omega, hn1, HO2, HB2⟩
                case measure => simp [intOf]; omega
              · obtain rfl : k = 3 := by omega
                have hd : decide ((3 : Int) < 3) = false := by decide
                go_wp2_with fail
                go_roundw
                case rel => exact ⟨i + 1, by go_num, by omega, hmn2, by rw [show 3 * (i + 1) = 3 * i + 3 by omega]; exact HM2, HBk⟩
                case measure => simp [intOf]; omega
          · have hiN' : i = N := by omega
            have hd : decide ((i : Int) < (N : Int)) = false := by simp; omega
            have HBw := Lib.hid (HBl.out.1.trans (HBq.out.mono HBl.out.1.size))
            have HXq := Lib.hid ((HBq.out.block _ (blk_lt HBl.out.2)).trans HBl.out.2)
            have HWm : Hid (OnWay a p (moreT a l (3 * i))) := Lib.hid (HW.out.more (by rw [← HNl.out]; omega))
            have hml : (moreT a l (3 * i)).length ≤ n := by rw [HN2.out]; exact HWm.out.len HMath.out (by rw [← HN2.out]; exact hp)
            have hle : N ≤ (moreT a l (3 * i)).length := by rw [HNl.out]; exact moreT_le HW.out.asc _
            have HEnd : Hid ((moreT a l (3 * i)).length = N → ∀ x, x ∈ l ↔ Rch a p x) := Lib.hid (fun e x => HW.out.whole (by rw [← HNl.out]; rw [hiN'] at e; exact e))
            obtain ⟨g2, cap2, rfl, -, -⟩ := ir_some HM.out hmn
            rw [natI_length] at HM ⊢
            obtain ⟨m, hm⟩ : ∃ m, m = (moreT a l (3 * i)).length := ⟨_, rfl⟩
            obtain ⟨l2, hl2⟩ : ∃ l2, l2 = moreT a l (3 * i) := ⟨_, rfl⟩
            rw [← hm] at HEnd hml hle HM ⊢
            rw [← hl2] at HWm HM hm
            have HMl := Lib.hid hm
            clear hm hl2
            by_cases hmN : m = N
            · have he : ((m : Int) == (N : Int)) = true := by simp; omega
              have HRes := Lib.hid (HEnd.out hmN)
              have HLq := Lib.hid (HL.out.below HBq.out)
              clear hmN HEnd
              go_wp2_with fail
              go_ret
              exact ⟨_, l, ⟨HW.out.asc, HRes.out⟩, by rw [← HNl.out, ← HN2.out]; exact hll, rfl, HLq.out, by simp, HBw.out⟩
            · have he : ((m : Int) == (N : Int)) = false := by simp; omega
              clear HEnd
              go_wp2_with fail
              go_roundw
              case rel => exact ⟨l2, by simp, HWm, HM, Lib.hid ⟨HBw.out, HXq.out⟩⟩
              case measure => simp [sliceLen]; omega
end Go.Proofs.YthmfncklepkddabDoor
