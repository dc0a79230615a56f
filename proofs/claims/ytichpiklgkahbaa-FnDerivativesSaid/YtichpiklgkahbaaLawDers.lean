/-
  laws.FnDerivatives answers true at every slice of bytes: a word matches the derivative exactly if the letter followed by it matches.
-/
import Derived.Test.YtichpiklgkahbaaDerMath
import Derived.Test.YtichpiklgkahbaaDerTop
import Derived.Test.YtichpiklgkahbaaEqualS
import Derived.Test.YtichpiklgkahbaaDrawMx
import Derived.Test.YtichpiklgkahbaaSpecTo
import Derived.Deep.RegionHeld3
namespace Go.Proofs.Ytichpiklgkahbaa
open Go.RowKit

theorem derX_le (k : Int) (l : ByteArray) (a : Fr) (cl : ByteArray) : (derX k l a cl).2.2.size ≤ 400 := by
  unfold derX
  split
  · rename_i h
    rw [Bool.and_eq_true, Bool.and_eq_true] at h
    have h1 := (valid_all h.1.1).2.1
    have h2 := nodeD_size cl k l a (ders cl a)
    have h3 := ders_size cl a
    have h4 : a.size * (a.size + 6) ≤ 15 * 21 := Nat.mul_le_mul h1 (by omega)
    omega
  · simp [noX, Fr.size]
/-- .. as the matcher tells it. -/
theorem der_same (k : Int) (l : ByteArray) (a : Fr) (cl x : ByteArray) (y : Nx) (hy : y = derX k l a cl) (hv : validRx y.1 y.2.1 y.2.2 = true) (hs : isW x.data.toList = true) (hl : x.data.toList.length ≤ 29) :
    matchRx y.1 y.2.1 y.2.2 x.data.toList = matchRx k l a (cl ++ x).data.toList := by
  obtain ⟨h1, ⟨c0, hc, hc0⟩, h3⟩ := der_match k l a cl x.data.toList y.1 y.2.1 y.2.2 hy.symm hv
  have e : (cl ++ x).data.toList = c0 :: x.data.toList := by simp [hc]
  have hw : isW (c0 :: x.data.toList) = true := by
    unfold isW at hs ⊢
    simp only [Bool.and_eq_true, decide_eq_true_eq, List.all_cons, List.length_cons] at hs ⊢
    exact ⟨⟨hc0, hs.1⟩, by omega⟩
  rw [hc] at h3
  unfold matchRx
  rw [hv, hs, e, h1, hw, h3]
  rfl
/-- The words of at most two letters. -/
def twos : List (List UInt8) := under 3
theorem twos_len : twos.length = 13 := by decide +kernel
theorem twos_all : (twos.all fun p => isW p && decide (p.length ≤ 2)) = true := by decide +kernel

set_option maxRecDepth 100000 in
set_option maxHeartbeats 6400000 in
theorem lawDers_any (A : Option Addr) (n c : Nat) (w : World) (h : BL w w.heap.size A n) (hn : n ≤ 1048576) :
    Calls Try.prog 3 #[.slice A n c] w fun e w' => e = .returned (.bool true) ∧ Below w.heap.size w w' := by
  have e1 : decide ((n : Int) > 1048576) = false := by simp; omega
  have HDD := Lib.hid (drawDer_any A n c w h hn)
  have HDM := Lib.hid (fun wr (hb : Below w.heap.size w wr) => drawMatch_any A n c wr ((h.below hb).more hb.size) hn)
  have HW := Lib.hid (fun wr => specTo_any 2 3 wr (by omega) (fun k hk => by omega) (fun h => by omega) (by omega))
  obtain ⟨ps, hps⟩ : ∃ ps, ps = under 3 := ⟨_, rfl⟩
  have hl13 : ps.length = 13 := by rw [hps]; exact twos_len
  have HALL := Lib.hid (fun (x : List UInt8) (hx : x ∈ ps) => (show isW x = true ∧ x.length ≤ 2 by
    have := List.all_eq_true.1 twos_all x (by rw [hps] at hx; exact hx)
    simpa using this))
  rw [← hps] at HW
  clear hps
  clear h
  go_enter Try.func3, Try.ntmps3
  go_wp2_with (go_at_call 7; go_in)
  go_at_call 8
  refine HDD.out.mono ?_
  rintro e w1 ⟨k, l, A1, q1, a, s, rfl, hss, hls, ha, hs1, hb1⟩
  obtain ⟨y, hy⟩ : ∃ y, y = derX k l a s := ⟨_, rfl⟩
  have hyl : y.2.1.size ≤ 1 := by
    rw [hy, derX_l]
    exact Nat.zero_le _
  have hys := derX_le k l a s
  have HD := Lib.hid (fun V (hV : Below w1.heap.size w1 V) => implDerOf_any 6 V.heap.size k l _ a s V (own_slt hs1 hV V.heap.size hV.size) (Nat.le_refl _) (by omega) (by omega) (by omega))
  have HDS := Lib.hid (fun V (hV : Below w1.heap.size w1 V) => specDerOf_any 6 V.heap.size k l _ a s V (own_slt hs1 hV V.heap.size hV.size) (Nat.le_refl _) (by omega) (by omega) (by omega))
  have HNU := Lib.hid (fun V (hV : Below w1.heap.size w1 V) => implNullable_any 6 V.heap.size k l _ a V (own_slt hs1 hV V.heap.size hV.size) (Nat.le_refl _) (by omega) (by omega))
  have HMR := Lib.hid (fun V (hV : Below w1.heap.size w1 V) (x : ByteArray) (b : Bool) (hx : x.size ≤ 100) (hb : matchRx k l a x.data.toList = b) => (show Calls Try.prog 13 #[.agg #[.int .i64 k, .string l, .slice A1 a.items.length q1], .string x] V fun e w' => e = .returned (.bool b) ∧ Below V.heap.size V w' by
    rw [← hb]
    exact implMatch_any 6 V.heap.size k l _ a x V (own_slt hs1 hV V.heap.size hV.size) (Nat.le_refl _) (by omega) (by omega) (by omega)))
  obtain ⟨vy, hvy⟩ : ∃ b, b = validRx y.1 y.2.1 y.2.2 := ⟨_, rfl⟩
  have HSAME := Lib.hid (fun x (hv : vy = true) hs hl => der_same k l a s x y hy (by rw [← hvy]; exact hv) hs hl)
  rw [← hy] at HD HDS hys
  have BX1 := Lib.hid (box_new w w1 w.heap.size k l (.slice A1 a.items.length q1) 26 hb1 (Nat.le_refl _))
  clear hs1 hb1 hy
  obtain ⟨nul, hnul⟩ : ∃ b, b = matchRx k l a [] := ⟨_, rfl⟩
  rw [← hnul] at HNU
  have HME := Lib.hid (fun V (hV : Below w1.heap.size w1 V) => HMR.out V hV ⟨#[]⟩ nul (by decide) hnul.symm)
  clear hnul
  go_wp2_with fail
  obtain ⟨W1, hW1⟩ : ∃ W1, W1 = w1.alloc (.cells #[.int .i64 k, .string l, .slice A1 a.items.length q1] 26) := ⟨_, rfl⟩
  rw [← hW1] at BX1 ⊢
  clear hW1
  have hz1 := BX1.out.2.2.2
  go_at_call 9
  refine (HD.out W1 BX1.out.2.2.1).mono ?_
  rintro e w2 ⟨v2, rfl, hs2, hb2⟩
  obtain ⟨A2, q2, rfl⟩ := hs2.shape
  have hz2 := hb2.size
  have HSY := Lib.hid (fun V (hV : Below w2.heap.size w2 V) => own_slt hs2 hV V.heap.size hV.size)
  have BX2 := Lib.hid (box_new W1 w2 W1.heap.size y.1 y.2.1 (.slice A2 y.2.2.items.length q2) 26 hb2 (Nat.le_refl _))
  obtain ⟨c0, c1, c2⟩ := BX1.out.2.1.below hb2 (by omega)
  clear hs2 hb2
  go_wp2_with fail
  obtain ⟨W2, hW2⟩ : ∃ W2, W2 = w2.alloc (.cells #[.int .i64 y.1, .string y.2.1, .slice A2 y.2.2.items.length q2] 26) := ⟨_, rfl⟩
  rw [← hW2] at BX2 ⊢
  clear hW2 c0 c1 c2
  have hZ2 := BX2.out.2.2.2
  -- what is held from here on
  have HK := Lib.hid (fun (V : World) (h : Below W2.heap.size W2 V) => (⟨(BX2.out.2.1.below h (by omega)).1, (BX2.out.2.1.below h (by omega)).2.1, (BX2.out.2.1.below h (by omega)).2.2, ((BX1.out.2.1.below BX2.out.1 (by omega)).below h (by omega)).1, ((BX1.out.2.1.below BX2.out.1 (by omega)).below h (by omega)).2.1, ((BX1.out.2.1.below BX2.out.1 (by omega)).below h (by omega)).2.2⟩ :
    V.cell? ⟨w2.heap.size, 0, none⟩ = some (.int .i64 y.1) ∧ V.cell? ⟨w2.heap.size, 1, none⟩ = some (.string y.2.1) ∧ V.cell? ⟨w2.heap.size, 2, none⟩ = some (.slice A2 y.2.2.items.length q2) ∧ V.cell? ⟨w1.heap.size, 0, none⟩ = some (.int .i64 k) ∧ V.cell? ⟨w1.heap.size, 1, none⟩ = some (.string l) ∧ V.cell? ⟨w1.heap.size, 2, none⟩ = some (.slice A1 a.items.length q1)))
  have H12 := Lib.hid (fun (V : World) (h : Below W2.heap.size W2 V) => (BX1.out.2.2.1.trans (BX2.out.1.mono (by omega))).trans (h.mono (show w1.heap.size ≤ W2.heap.size by omega)))
  have H22 := Lib.hid (fun (V : World) (h : Below W2.heap.size W2 V) => BX2.out.2.2.1.trans (h.mono (show w2.heap.size ≤ W2.heap.size by omega)))
  have H02 := Lib.hid (fun (V : World) (h : Below W2.heap.size W2 V) => (BX1.out.1.trans (BX2.out.1.mono BX1.out.1.size)).trans (h.mono (show w.heap.size ≤ W2.heap.size by have := BX1.out.1.size; omega)))
  have HEQ := Lib.hid (fun (V : World) (h : Below W2.heap.size W2 V) u (hu : Sl V V.heap.size 13 u y.2.2) => (show Calls Try.prog 10 #[.agg #[.int .i64 y.1, .string y.2.1, .slice A2 y.2.2.items.length q2], .agg #[.int .i64 y.1, .string y.2.1, u]] V fun e w' => e = .returned (.bool true) ∧ Below V.heap.size V w' by
    have := specEqual_any 13 13 V.heap.size y.1 y.1 y.2.1 y.2.1 (.slice A2 y.2.2.items.length q2) u y.2.2 y.2.2 V (HSY.out V (H22.out V h)) hu (Nat.le_refl _)
    rw [show sameRx y.1 y.1 y.2.1 y.2.1 y.2.2 y.2.2 = true by simp [sameRx]] at this
    exact this))
  have HMY := Lib.hid (fun V (hV : Below W2.heap.size W2 V) (x : ByteArray) (b : Bool) (hx : x.size ≤ 100) (hb : matchRx y.1 y.2.1 y.2.2 x.data.toList = b) => (show Calls Try.prog 13 #[.agg #[.int .i64 y.1, .string y.2.1, .slice A2 y.2.2.items.length q2], .string x] V fun e w' => e = .returned (.bool b) ∧ Below V.heap.size V w' by
    rw [← hb]
    exact implMatch_any 13 V.heap.size y.1 y.2.1 _ y.2.2 x V (HSY.out V (H22.out V hV)) (Nat.le_refl _) (by omega) (by omega) (by omega)))
  have HVY := Lib.hid (fun V (hV : Below W2.heap.size W2 V) => specValid_any 13 V.heap.size y.1 y.2.1 _ y.2.2 V (HSY.out V (H22.out V hV)) (Nat.le_refl _) (by omega) (by omega))
  rw [← hvy] at HVY
  clear hvy
  have hbw : Below W2.heap.size W2 W2 := Below.refl _ _
  have hnn : (nul != nul) = false := by simp
  go_upto_region 5 with fail
  go_region_held3 (fun V => V.cell? ⟨w2.heap.size, 0, none⟩ = some (.int .i64 y.1) ∧ V.cell? ⟨w2.heap.size, 1, none⟩ = some (.string y.2.1) ∧ V.cell? ⟨w2.heap.size, 2, none⟩ = some (.slice A2 y.2.2.items.length q2) ∧ V.cell? ⟨w1.heap.size, 0, none⟩ = some (.int .i64 k) ∧ V.cell? ⟨w1.heap.size, 1, none⟩ = some (.string l) ∧ V.cell? ⟨w1.heap.size, 2, none⟩ = some (.slice A1 a.items.length q1))
    (first | exact HK.out _ hbw.drew | exact HK.out _ hbw)
    (first | (go_at_call 11; (with_reducible refine (HDS.out _ ?_).mono ?_); exact H12.out _ hbw.drew; rintro e w7 ⟨v7, rfl, hs7, hb7⟩; obtain ⟨A7, q7, rfl⟩ := hs7.shape; have hbw := hbw.drew.trans (hb7.mono hbw.drew.size)) | (go_at_call 10; (with_reducible refine (HEQ.out _ hbw _ ?_).mono ?_); exact own_slt hs7 (Below.refl _ _) _ (Nat.le_refl _); rintro e w8 ⟨rfl, hb8⟩; have hbw := hbw.trans (hb8.mono hbw.size)) | (go_at_call 12; (with_reducible refine (HNU.out _ (H12.out _ hbw)).mono ?_); rintro e w9 ⟨rfl, hb9⟩; have hbw := hbw.trans (hb9.mono hbw.size)) | (go_at_call 13; (with_reducible refine (HME.out _ (H12.out _ hbw)).mono ?_); rintro e w10 ⟨rfl, hb10⟩; have hbw := hbw.trans (hb10.mono hbw.size)))
  all_goals
    have HB10 : Hid (Below W2.heap.size W2 w10) := Lib.hid hbw
    clear hs7 hb7 hb8 hb9 hb10 hbw hnn
    have hz10 := HB10.out.size
    go_wp2_with fail
    go_at_call 14
    refine (HDM.out w10 (H02.out _ HB10.out)).mono ?_
    rintro e w11 ⟨k3, l3, A3, q3, a3, s3, rfl, hss3, hls3, ha3, hs11, hb11⟩
    obtain ⟨vm, hvm⟩ : ∃ b, b = matchRx k3 l3 a3 s3.data.toList := ⟨_, rfl⟩
    have HMI := Lib.hid (fun V (hV : Below w11.heap.size w11 V) => implMatch_any 6 V.heap.size k3 l3 _ a3 s3 V (own_slt hs11 hV V.heap.size hV.size) (Nat.le_refl _) (by omega) (by omega) (by omega))
    have HMS := Lib.hid (fun V (hV : Below w11.heap.size w11 V) => specMatch_any 6 V.heap.size k3 l3 _ a3 s3 V (own_slt hs11 hV V.heap.size hV.size) (Nat.le_refl _) (by omega) (by omega) (by omega))
    rw [← hvm] at HMI HMS
    have BX11 := Lib.hid (box_new w10 w11 w10.heap.size k3 l3 (.slice A3 a3.items.length q3) 26 hb11 (Nat.le_refl _))
    clear hs11 hb11 hvm
    go_wp2_with fail
    obtain ⟨W11, hW11⟩ : ∃ W11, W11 = w11.alloc (.cells #[.int .i64 k3, .string l3, .slice A3 a3.items.length q3] 26) := ⟨_, rfl⟩
    rw [← hW11] at BX11 ⊢
    clear hW11
    have hZ11 := BX11.out.2.2.2
    have HB11 := Lib.hid (HB10.out.trans (BX11.out.1.mono hz10))
    have HK11 := Lib.hid (fun (V : World) (h : Below W11.heap.size W11 V) => (⟨(BX11.out.2.1.below h (by omega)).1, (BX11.out.2.1.below h (by omega)).2.1, (BX11.out.2.1.below h (by omega)).2.2⟩ :
      V.cell? ⟨w11.heap.size, 0, none⟩ = some (.int .i64 k3) ∧ V.cell? ⟨w11.heap.size, 1, none⟩ = some (.string l3) ∧ V.cell? ⟨w11.heap.size, 2, none⟩ = some (.slice A3 a3.items.length q3)))
    have H1111 := Lib.hid (fun (V : World) (h : Below W11.heap.size W11 V) => BX11.out.2.2.1.trans (h.mono (show w11.heap.size ≤ W11.heap.size by omega)))
    have hbw : Below W11.heap.size W11 W11 := Below.refl _ _
    have hmm : (vm != vm) = false := by simp
    go_region_held3 (fun V => V.cell? ⟨w11.heap.size, 0, none⟩ = some (.int .i64 k3) ∧ V.cell? ⟨w11.heap.size, 1, none⟩ = some (.string l3) ∧ V.cell? ⟨w11.heap.size, 2, none⟩ = some (.slice A3 a3.items.length q3))
      (first | exact HK11.out _ hbw.drew | exact HK11.out _ hbw)
      (first | (go_at_call 13; (with_reducible refine (HMI.out _ (H1111.out _ hbw.drew)).mono ?_); rintro e w12 ⟨rfl, hb12⟩; have hbw := hbw.drew.trans (hb12.mono hbw.drew.size)) | (go_at_call 15; (with_reducible refine (HMS.out _ (H1111.out _ hbw)).mono ?_); rintro e w13 ⟨rfl, hb13⟩; have hbw := hbw.trans (hb13.mono hbw.size)))
    have HB13 := Lib.hid (HB11.out.trans (hbw.mono HB11.out.size))
    clear hb12 hb13 hbw hmm
    go_wp2_with fail
    go_at_call 16
    refine (HW.out w13).mono ?_
    intro e w14 hp
    obtain ⟨g, cp, rfl, hown, hb14⟩ := hp.row (by omega)
    have hgl := (hown.lt g (by simp [Value.ownBlock])).2
    have HROW := Lib.hid hown
    have HB14 := Lib.hid (HB13.out.trans (hb14.mono HB13.out.size))
    clear hp hown hb14
    go_wp2_with fail
    go_loopw [9] (fun i wr => ∃ j : Nat, i = .int .i64 (j : Int) ∧ j ≤ ps.length ∧ Below w14.heap.size w14 wr) (fun i _ => ps.length - (intOf i).toNat)
    case atStart => exact ⟨0, rfl, Nat.zero_le _, Below.refl _ _⟩
    case round =>
      obtain ⟨j, rfl, hj, hb⟩ := hrel
      have HBr := Lib.hid hb
      have HB2r := Lib.hid (HB14.out.trans (hb.mono HB14.out.size))
      clear hb
      by_cases hlt : j < ps.length
      · have hd : decide ((j : Int) < (ps.length : Int)) = true := by simp; omega
        obtain ⟨c0, c1, c2, -⟩ := HK.out wr HB2r.out
        go_wp2_with fail
        go_at_call 17
        refine (HVY.out wr HB2r.out).mono ?_
        rintro e wv ⟨rfl, hbv⟩
        have HB2v := Lib.hid (HB2r.out.trans (hbv.mono HB2r.out.size))
        have HBv := Lib.hid (HBr.out.trans (hbv.mono HBr.out.size))
        clear hbv c0 c1 c2 hd
        cases vy with
        | false =>
          go_wp2_with fail
          go_ret
          exact ⟨rfl, H02.out _ HB2v.out⟩
        | true =>
          obtain ⟨x, hx⟩ : ∃ x : ByteArray, x = ⟨(ps[j]'hlt).toArray⟩ := ⟨_, rfl⟩
          have hxp : x.data.toList = ps[j]'hlt := by rw [hx]
          obtain ⟨hxw, hxl⟩ := HALL.out (ps[j]'hlt) (List.getElem_mem _)
          rw [← hxp] at hxw hxl
          have hxs : x.size ≤ 2 := by simpa using hxl
          have hcx : wv.cell? ⟨g, j, none⟩ = some (.string x) := by
            rw [HBv.out.cell (p := ⟨g, j, none⟩) hgl, HROW.out.cellAt j (by omega), hx]
            simp [strs]
          obtain ⟨vx, hvx⟩ : ∃ b, b = matchRx y.1 y.2.1 y.2.2 x.data.toList := ⟨_, rfl⟩
          have hvr : matchRx k l a (s ++ x).data.toList = vx := by rw [hvx]; exact (HSAME.out x rfl hxw (by omega)).symm
          have hsx : (s ++ x).size ≤ 100 := by rw [ByteArray.size_append]; omega
          have HA := Lib.hid (fun V (hV : Below wv.heap.size wv V) => HMY.out V (HB2v.out.trans (hV.mono HB2v.out.size)) x vx (by omega) hvx.symm)
          have HC := Lib.hid (fun V (hV : Below wv.heap.size wv V) => HMR.out V (H12.out V (HB2v.out.trans (hV.mono HB2v.out.size))) (s ++ x) vx hsx hvr)
          have HKv := Lib.hid (fun (V : World) (hV : Below wv.heap.size wv V) => (by
            obtain ⟨k0, k1, k2, k3, k4, k5⟩ := HK.out V (HB2v.out.trans (hV.mono HB2v.out.size))
            exact ⟨k0, k1, k2, k3, k4, k5, (hV.cell (p := ⟨g, j, none⟩) (Nat.lt_of_lt_of_le hgl HBv.out.size)).trans hcx⟩ :
            V.cell? ⟨w2.heap.size, 0, none⟩ = some (.int .i64 y.1) ∧ V.cell? ⟨w2.heap.size, 1, none⟩ = some (.string y.2.1) ∧ V.cell? ⟨w2.heap.size, 2, none⟩ = some (.slice A2 y.2.2.items.length q2) ∧ V.cell? ⟨w1.heap.size, 0, none⟩ = some (.int .i64 k) ∧ V.cell? ⟨w1.heap.size, 1, none⟩ = some (.string l) ∧ V.cell? ⟨w1.heap.size, 2, none⟩ = some (.slice A1 a.items.length q1) ∧ V.cell? ⟨g, j, none⟩ = some (.string x)))
          have hlen : (9223372036854775807 < s.size + x.size) = False := by simp; omega
          have hbw : Below wv.heap.size wv wv := Below.refl _ _
          have hvv : (vx != vx) = false := by simp
          have s4 : (j : Int) < (ps.length : Int) := by omega
          have s8 : (0 : Int) ≤ (j : Int) := by omega
          clear hx hxp hxw hxl hcx hvx hvr hsx
          go_wp2_with fail
          go_region_held3 (fun V => V.cell? ⟨w2.heap.size, 0, none⟩ = some (.int .i64 y.1) ∧ V.cell? ⟨w2.heap.size, 1, none⟩ = some (.string y.2.1) ∧ V.cell? ⟨w2.heap.size, 2, none⟩ = some (.slice A2 y.2.2.items.length q2) ∧ V.cell? ⟨w1.heap.size, 0, none⟩ = some (.int .i64 k) ∧ V.cell? ⟨w1.heap.size, 1, none⟩ = some (.string l) ∧ V.cell? ⟨w1.heap.size, 2, none⟩ = some (.slice A1 a.items.length q1) ∧ V.cell? ⟨g, j, none⟩ = some (.string x))
            (first | exact HKv.out _ hbw.drew | exact HKv.out _ hbw)
            (first | (go_at_call 13; (with_reducible refine (HA.out _ hbw.drew).mono ?_); rintro e w21 ⟨rfl, hb21⟩; have hbw := hbw.drew.trans (hb21.mono hbw.drew.size)) | (go_at_call 13; (with_reducible refine (HC.out _ hbw).mono ?_); rintro e w22 ⟨rfl, hb22⟩; have hbw := hbw.trans (hb22.mono hbw.size)))
          have HBw := Lib.hid (HBv.out.trans (hbw.mono HBv.out.size))
          clear hb21 hb22 hbw hvv hlen s4 s8
          go_wp2_with fail
          go_roundw
          case rel => exact ⟨j + 1, by go_num, by omega, HBw.out⟩
          case measure => simp [intOf]; omega
      · have hd : decide ((j : Int) < (ps.length : Int)) = false := by simp; omega
        go_wp2_with fail
        go_ret
        exact ⟨rfl, H02.out _ HB2r.out⟩
end Go.Proofs.Ytichpiklgkahbaa
