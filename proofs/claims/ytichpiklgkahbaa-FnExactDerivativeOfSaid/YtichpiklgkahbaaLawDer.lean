/-
  laws.FnExactDerivativeOf answers true at every expression and string: the derivative is its model's, in memory of its own.
-/
import Derived.Test.YtichpiklgkahbaaDerTop
import Derived.Test.YtichpiklgkahbaaSzEq
import Derived.Test.YtichpiklgkahbaaTo
import Derived.Test.YtichpiklgkahbaaHeldRx
import Derived.Outline
namespace Go.Proofs.Ytichpiklgkahbaa
open Go.RowKit

theorem derX_size (k : Int) (l : ByteArray) (a : Fr) (cl : ByteArray) : (derX k l a cl).2.2.size ≤ 400 := by
  unfold derX
  split
  · rename_i h
    rw [Bool.and_eq_true, Bool.and_eq_true] at h
    have h1 := (valid_all h.1.1).2.1
    have h2 := nodeD_size cl k l a (ders cl a)
    have h3 := ders_size cl a
    have h4 : a.size * (a.size + 6) ≤ 15 * 21 := Nat.mul_le_mul h1 (by omega)
    omega
  · simp [noX, Fr.size]
theorem slt_sl {w wr : World} {n : Nat} {S : Nat → Prop} {v : Value} {f : Fr} (h : SlT w n S v f) (hs : ∀ g, S g → wr.heap[g]? = w.heap[g]?) (hS : ∀ g, S g → g < wr.heap.size) : Sl wr wr.heap.size n v f := h.sl.mono hs hS

set_option maxRecDepth 100000 in
set_option maxHeartbeats 6400000 in
theorem lawDer_walk (n : Nat) (k : Int) (l : ByteArray) (u : Value) (a : Fr) (s : ByteArray) (w : World) (hss : s.size ≤ 1048576) (hS : Sl w w.heap.size n u a) (hls : l.size ≤ 9223372036854775807) (hfit : ((l.size + wt a : Nat) : Int) ≤ 1048576) :
    Calls Try.prog 6 #[.agg #[.int .i64 k, .string l, u], .string s] w fun e w' => e = .returned (.bool true) ∧ Below w.heap.size w w' := by
  have e1 : decide ((s.size : Int) > 1048576) = false := by simp; omega
  have HB0 := Lib.hid ((Below.refl w.heap.size w).alloc (Nat.le_refl _) (.cells #[.int .i64 k, .string l, u] 37))
  have HZ := Lib.hid (fun wr (hb : Below w.heap.size w wr) => szNode_of (szS_any n) w.heap.size k l u a 1048576 wr (hS.mono hb (Nat.le_refl _)) hb.size hls (by omega) (by omega))
  have hsz : a.size ≤ 2097152 := by have := size_wt a; omega
  have HT := Lib.hid (fun wr (hb : Below w.heap.size w wr) => toNodeT_of (toST_any n) w.heap.size k l u a wr (hS.mono hb (Nat.le_refl _)) hb.size hsz)
  obtain ⟨y, hy⟩ : ∃ y, y = derX k l a s := ⟨_, rfl⟩
  have HSD := Lib.hid (fun v wr (h : Sl wr wr.heap.size n v a) => specDerOf_any n wr.heap.size k l v a s wr h (Nat.le_refl _) hsz hls (by omega))
  have HID := Lib.hid (fun v wr (h : Sl wr wr.heap.size n v a) => implDerOf_any n wr.heap.size k l v a s wr h (Nat.le_refl _) hsz hls (by omega))
  have hys := derX_size k l a s
  rw [← hy] at HSD HID hys
  have HEQ := Lib.hid (fun (u u' : Value) (wr : World) (h : Sl wr wr.heap.size (2 * n + 1) u y.2.2) (h' : Sl wr wr.heap.size (2 * n + 1) u' y.2.2) => eqNode_of (n := 2 * n + 1) (m := 2 * n + 1) (fun B u u' f w => eqS_any (2 * n + 1) (2 * n + 1) B u u' f w) wr.heap.size y.1 y.2.1 u u' y.2.2 wr h h' (Nat.le_refl _))
  have HEX := Lib.hid (fun (u u' : Value) (wr : World) (h : Sl wr wr.heap.size n u a) (h' : Sl wr wr.heap.size n u' a) => eqNode_of (n := n) (m := n) (fun B u u' f w => eqS_any n n B u u' f w) wr.heap.size k l u u' a wr h h' (Nat.le_refl _))
  obtain ⟨r, hr⟩ : ∃ r, r = 1 + 2 * y.2.2.size := ⟨_, rfl⟩
  obtain ⟨r1, hr1⟩ : ∃ r1, r1 = 1 + 2 * a.size := ⟨_, rfl⟩
  have HMX := Lib.hid (fun (S : Nat → Prop) (u : Value) (wr : World) (h : SlT wr n S u a) (hS : ∀ g, S g → g < wr.heap.size) => mark_any n 1 S k l u a wr h hS (by omega) (by omega))
  have HMY := Lib.hid (fun (S : Nat → Prop) (u : Value) (wr : World) (h : SlT wr (2 * n + 1) S u y.2.2) (hS : ∀ g, S g → g < wr.heap.size) => mark_any (2 * n + 1) 1 S y.1 y.2.1 u y.2.2 wr h hS (by omega) (by omega))
  have HHY := Lib.hid (fun (u : Value) (wr : World) (h : Sl wr wr.heap.size (2 * n + 1) u (mkF 1 y.2.2)) => held_any (2 * n + 1) 1 wr.heap.size y.1 y.2.1 u y.2.2 wr h (Nat.le_refl _) (by omega) (by omega))
  rw [← hr] at HMY HHY
  rw [← hr1] at HMX
  have hneg : decide ((r : Int) < 0) = false := by simp
  have hneg1 : decide ((r1 : Int) < 0) = false := by simp
  have hpos : 0 ≤ (1048576 : Int) - ((l.size + wt a : Nat) : Int) := by omega
  obtain ⟨q, hq⟩ : ∃ q : Int, q = 1048576 - ((l.size + wt a : Nat) : Int) := ⟨_, rfl⟩
  rw [← hq] at hpos
  have HQ := Lib.hid ((leftOf_yes hfit).trans hq.symm)
  clear hS hq hfit hsz hr hr1 hy hys
  go_enter Try.func6, Try.ntmps6
  go_wp2_with fail
  refine (HZ.out _ HB0.out).mono ?_
  rintro e w1 ⟨he, hb1⟩
  rw [HQ.out] at he
  subst he
  have hb1' : Below (w.heap.size + 1) (w.alloc (.cells #[.int .i64 k, .string l, u] 37)) w1 := by simpa using hb1
  have hx2 : Bx w1 w.heap.size k l u := box_cells hb1'
  obtain ⟨c0, c1, c2⟩ := hx2
  have hz1 := hb1'.size
  rw [World.size_alloc] at hz1
  have HW1 := Lib.hid (HB0.out.trans (hb1'.mono (Nat.le_succ _)))
  have HX2 : Hid (Bx w1 w.heap.size k l u) := Lib.hid (box_cells hb1')
  clear hb1 hb1'
  go_wp2_with fail
  go_at_call 19
  refine (HT.out _ HW1.out).mono ?_
  rintro e w2 ⟨v2, rfl, hs2, hb2⟩
  obtain ⟨A2, q2, rfl⟩ := hs2.shape
  have HS2 := Lib.hid (own_sl hs2.sl)
  have hz2 := hb2.size
  have HW2 := Lib.hid (HW1.out.trans (hb2.mono (by omega)))
  have HX2b := Lib.hid (HX2.out.below hb2 (by omega))
  clear hs2 hb2 c0 c1 c2
  go_wp2_with fail
  go_at_call 11
  refine (HSD.out _ _ HS2.out).mono ?_
  rintro e w3 ⟨v3, rfl, hs3, hb3⟩
  obtain ⟨A3, q3, rfl⟩ := hs3.shape
  have BN3 := box_new w2 w3 w2.heap.size y.1 y.2.1 (.slice A3 y.2.2.items.length q3) 26 hb3 (Nat.le_refl _)
  have hx := HX2b.out.below BN3.1 (by omega)
  obtain ⟨c0, c1, c2⟩ := hx
  have hz3 := hb3.size
  have HS3 := Lib.hid hs3
  have HN3 := Lib.hid (And.intro BN3 (HX2b.out.below BN3.1 (show w.heap.size < w2.heap.size by omega)))
  clear BN3 hs3 hb3
  go_wp2_with fail
  obtain ⟨W3, hW3⟩ : ∃ W3, W3 = w3.alloc (.cells #[.int .i64 y.1, .string y.2.1, .slice A3 y.2.2.items.length q3] 26) := ⟨_, rfl⟩
  rw [← hW3] at HN3 ⊢
  clear hW3 c0 c1 c2
  have hZ3 := HN3.out.1.2.2.2
  have HW3 := Lib.hid (HW2.out.trans (HN3.out.1.1.mono (by omega)))
  go_at_call 19
  refine (HT.out _ HW3.out).mono ?_
  rintro e w4 ⟨v4, rfl, hs4, hb4⟩
  obtain ⟨A4, q4, rfl⟩ := hs4.shape
  have BN4 := box_new W3 w4 W3.heap.size k l (.slice A4 a.items.length q4) 26 hb4 (Nat.le_refl _)
  have hz4 := hb4.size
  obtain ⟨c0, c1, c2⟩ := BN4.2.1
  have HS4 := Lib.hid hs4
  have HN4 := Lib.hid BN4
  clear BN4 hs4 hb4
  go_wp2_with fail
  obtain ⟨W4, hW4⟩ : ∃ W4, W4 = w4.alloc (.cells #[.int .i64 k, .string l, .slice A4 a.items.length q4] 26) := ⟨_, rfl⟩
  rw [← hW4] at HN4 ⊢
  clear hW4 c0 c1 c2
  have hZ4 := HN4.out.2.2.2
  have HS4b : Hid (SlT W4 n (OwnB W3 w4) (.slice A4 a.items.length q4) a) := Lib.hid (HS4.out.mono (fun g hg => HN4.out.2.2.1.block g hg.2) (fun _ h => h))
  have HW4 := Lib.hid (HW3.out.trans (HN4.out.1.mono (by have := HW3.out.size; omega)))
  go_at_call 9
  refine (HID.out _ W4 (slt_sl HS4b.out (fun _ _ => rfl) (fun g hg => by have := hg.2; omega))).mono ?_
  rintro e w5 ⟨v5, rfl, hs5, hb5⟩
  obtain ⟨A5, q5, rfl⟩ := hs5.shape
  have BN5 := box_new W4 w5 W4.heap.size y.1 y.2.1 (.slice A5 y.2.2.items.length q5) 26 hb5 (Nat.le_refl _)
  have hz5 := hb5.size
  have h36 : Below W3.heap.size W3 (w5.alloc (.cells #[.int .i64 y.1, .string y.2.1, .slice A5 y.2.2.items.length q5] 26)) := HN4.out.1.trans (BN5.1.mono (by omega))
  obtain ⟨c0, c1, c2⟩ := BN5.2.1
  have hx6 := HN3.out.1.2.1.below h36 (show w3.heap.size < W3.heap.size by omega)
  obtain ⟨d0, d1, d2⟩ := hx6
  have HS5 := Lib.hid hs5
  have HN5 := Lib.hid BN5
  have H36 := Lib.hid h36
  clear BN5 hs5 hb5 h36
  go_wp2_with fail
  obtain ⟨W5, hW5⟩ : ∃ W5, W5 = w5.alloc (.cells #[.int .i64 y.1, .string y.2.1, .slice A5 y.2.2.items.length q5] 26) := ⟨_, rfl⟩
  rw [← hW5] at HN5 H36 ⊢
  clear hW5 c0 c1 c2 d0 d1 d2
  have hZ5 := HN5.out.2.2.2
  -- the boxes and the trees, at W5
  have X2 := Lib.hid (HN3.out.2.below (B := W3.heap.size) H36.out (by omega))
  have X6 := Lib.hid (HN3.out.1.2.1.below (B := W3.heap.size) H36.out (by omega))
  have X7 := Lib.hid (HN4.out.2.1.below (B := W4.heap.size) HN5.out.1 (by omega))
  have X8 := Lib.hid HN5.out.2.1
  have T3 : Hid (SlT W5 (2 * n + 1) (OwnB w2 w3) (.slice A3 y.2.2.items.length q3) y.2.2) := Lib.hid (HS3.out.mono (fun g hg => (H36.out.block g (by have := hg.2; omega)).trans (HN3.out.1.2.2.1.block g hg.2)) (fun _ h => h))
  have T4 : Hid (SlT W5 n (OwnB W3 w4) (.slice A4 a.items.length q4) a) := Lib.hid (HS4b.out.mono (fun g hg => HN5.out.1.block g (by have := hg.2; omega)) (fun _ h => h))
  have T5 : Hid (SlT W5 (2 * n + 1) (OwnB W4 w5) (.slice A5 y.2.2.items.length q5) y.2.2) := Lib.hid (HS5.out.mono (fun g hg => HN5.out.2.2.1.block g hg.2) (fun _ h => h))
  have HW5 := Lib.hid (HW4.out.trans (HN5.out.1.mono (by have := HW4.out.size; omega)))
  go_at_call 20
  refine (HEQ.out _ _ W5 (slt_sl T5.out (fun _ _ => rfl) (fun g hg => by have := hg.2; omega)) (slt_sl T3.out (fun _ _ => rfl) (fun g hg => by have := hg.2; omega))).mono ?_
  rintro e w6 ⟨rfl, hb6⟩
  have HB6 := Lib.hid hb6
  have hz6 := hb6.size
  have HW6 := Lib.hid (HW5.out.trans (hb6.mono HW5.out.size))
  have hbw : Below W5.heap.size W5 w6 := hb6
  have HK := Lib.hid (fun (V : World) (h : Below W5.heap.size W5 V) => (⟨(X7.out.below h (by omega)).1, (X7.out.below h (by omega)).2.1, (X7.out.below h (by omega)).2.2, (X2.out.below h (by omega)).1, (X2.out.below h (by omega)).2.1, (X2.out.below h (by omega)).2.2⟩ :
    V.cell? ⟨w4.heap.size, 0, none⟩ = some (.int .i64 k) ∧ V.cell? ⟨w4.heap.size, 1, none⟩ = some (.string l) ∧ V.cell? ⟨w4.heap.size, 2, none⟩ = some (.slice A4 a.items.length q4) ∧ V.cell? ⟨w.heap.size, 0, none⟩ = some (.int .i64 k) ∧ V.cell? ⟨w.heap.size, 1, none⟩ = some (.string l) ∧ V.cell? ⟨w.heap.size, 2, none⟩ = some u))
  clear hb6
  go_upto_region 12 with fail
  go_region_held3 (fun V => V.cell? ⟨w4.heap.size, 0, none⟩ = some (.int .i64 k) ∧ V.cell? ⟨w4.heap.size, 1, none⟩ = some (.string l) ∧ V.cell? ⟨w4.heap.size, 2, none⟩ = some (.slice A4 a.items.length q4) ∧ V.cell? ⟨w.heap.size, 0, none⟩ = some (.int .i64 k) ∧ V.cell? ⟨w.heap.size, 1, none⟩ = some (.string l) ∧ V.cell? ⟨w.heap.size, 2, none⟩ = some u)
    (first | exact HK.out _ hbw.drew | exact HK.out _ hbw)
    (first | (go_at_call 19; (with_reducible refine (HT.out _ ?_).mono ?_); exact HW5.out.trans (hbw.drew.mono HW5.out.size); rintro e w7 ⟨v7, rfl, hs7, hb7⟩; obtain ⟨A7, q7, rfl⟩ := hs7.shape; have hbw := hbw.drew.trans (hb7.mono hbw.drew.size)) | (go_at_call 20; (with_reducible refine (HEX.out _ _ w7 ?_ ?_).mono ?_); exact slt_sl T4.out (fun g hg => hbw.block g (by have := hg.2; omega)) (fun g hg => by have := hg.2; have := hbw.size; omega); exact own_sl hs7.sl; rintro e w8 ⟨rfl, hb8⟩; have hbw := hbw.trans (hb8.mono hbw.size)))
  all_goals
    have HB8 : Hid (Below W5.heap.size W5 w8) := Lib.hid hbw
    have HW8 := Lib.hid (HW5.out.trans (hbw.mono HW5.out.size))
    have hz8 := hbw.size
    obtain ⟨c0, c1, c2⟩ := X7.out.below hbw (by omega)
    clear hs7 hb7 hb8 hbw
    go_wp2_with fail
    go_at_call 22
    refine (HMX.out (OwnB W3 w4) _ w8 (T4.out.mono (fun g hg => HB8.out.block g (by have := hg.2; omega)) (fun _ h => h)) (fun g hg => by have := hg.2; omega)).mono ?_
    rintro e w9 ⟨rfl, hs9, hc9⟩
    have hz9 := hc9.size
    have n4 : ∀ g, OwnB W3 w4 g → W3.heap.size ≤ g ∧ g < w4.heap.size := fun g hg => hg
    have X6c := Lib.hid ((X6.out.below HB8.out (by omega)).chg hc9 (by omega) (fun h => by have := h.1; omega))
    have X8c := Lib.hid ((X8.out.below HB8.out (by omega)).chg hc9 (by omega) (fun h => by have := h.2; omega))
    have X2c := Lib.hid ((X2.out.below HB8.out (by omega)).chg hc9 (by omega) (fun h => by have := h.1; omega))
    have T3c : Hid (SlT w9 (2 * n + 1) (OwnB w2 w3) (.slice A3 y.2.2.items.length q3) y.2.2) := Lib.hid (T3.out.mono (fun g hg => (hc9.block g (by have := hg.2; omega) (fun h => by have := h.1; have := hg.2; omega)).trans (HB8.out.block g (by have := hg.2; omega))) (fun _ h => h))
    have T5c : Hid (SlT w9 (2 * n + 1) (OwnB W4 w5) (.slice A5 y.2.2.items.length q5) y.2.2) := Lib.hid (T5.out.mono (fun g hg => (hc9.block g (by have := hg.2; omega) (fun h => by have := h.2; have := hg.1; omega)).trans (HB8.out.block g (by have := hg.2; omega))) (fun _ h => h))
    have HW9 := Lib.hid (HW8.out.trans (hc9.old (B := w.heap.size) (fun g hg => by have := hg.1; have := HW3.out.size; omega) HW8.out.size))
    obtain ⟨d0, d1, d2⟩ := X6c.out
    obtain ⟨b0, b1, b2⟩ := X8c.out
    clear hs9 hc9 c0 c1 c2
    go_wp2_with fail
    go_at_call 20
    refine (HEQ.out _ _ w9 (slt_sl T5c.out (fun _ _ => rfl) (fun g hg => by have := hg.2; omega)) (slt_sl T3c.out (fun _ _ => rfl) (fun g hg => by have := hg.2; omega))).mono ?_
    rintro e w10 ⟨rfl, hb10⟩
    have hz10 := hb10.size
    have HB10 := Lib.hid hb10
    have HW10 := Lib.hid (HW9.out.trans (hb10.mono HW9.out.size))
    clear hb10 d0 d1 d2 b0 b1 b2
    obtain ⟨b0, b1, b2⟩ := X8c.out.below HB10.out (by omega)
    go_wp2_with fail
    go_at_call 22
    refine (HMY.out (OwnB W4 w5) _ w10 (T5c.out.mono (fun g hg => HB10.out.block g (by have := hg.2; omega)) (fun _ h => h)) (fun g hg => by have := hg.2; omega)).mono ?_
    rintro e w11 ⟨rfl, hs11, hc11⟩
    have hz11 := hc11.size
    have HS11 := Lib.hid hs11
    have X6d := Lib.hid ((X6c.out.below HB10.out (by omega)).chg hc11 (by omega) (fun h => by have := h.1; omega))
    have X8d := Lib.hid ((X8c.out.below HB10.out (by omega)).chg hc11 (by omega) (fun h => by have := h.2; omega))
    have X2d := Lib.hid ((X2c.out.below HB10.out (by omega)).chg hc11 (by omega) (fun h => by have := h.1; omega))
    have T3d : Hid (SlT w11 (2 * n + 1) (OwnB w2 w3) (.slice A3 y.2.2.items.length q3) y.2.2) := Lib.hid (T3c.out.mono (fun g hg => (hc11.block g (by have := hg.2; omega) (fun h => by have := h.1; have := hg.2; omega)).trans (HB10.out.block g (by have := hg.2; omega))) (fun _ h => h))
    have HW11 := Lib.hid (HW10.out.trans (hc11.old (B := w.heap.size) (fun g hg => by have := hg.1; have := HW4.out.size; omega) HW10.out.size))
    clear hs11 hc11 b0 b1 b2
    obtain ⟨b0, b1, b2⟩ := X8d.out
    go_wp2_with fail
    go_at_call 23
    refine (HHY.out _ w11 (slt_sl HS11.out (fun _ _ => rfl) (fun g hg => by have := hg.2; omega))).mono ?_
    rintro e w12 ⟨rfl, hb12⟩
    have hz12 := hb12.size
    have HB12 := Lib.hid hb12
    have HW12 := Lib.hid (HW11.out.trans (hb12.mono HW11.out.size))
    clear hb12 b0 b1 b2
    obtain ⟨c0, c1, c2⟩ := X2d.out.below HB12.out (by omega)
    go_wp2_with fail
    go_at_call 19
    refine (HT.out _ HW12.out).mono ?_
    rintro e w13 ⟨v13, rfl, hs13, hb13⟩
    obtain ⟨A13, q13, rfl⟩ := hs13.shape
    have hz13 := hb13.size
    have HB13 := Lib.hid (HB12.out.trans (hb13.mono hz12))
    have HS13 := Lib.hid (own_sl hs13.sl)
    clear hs13 hb13 c0 c1 c2
    go_wp2_with fail
    go_at_call 9
    refine (HID.out _ w13 HS13.out).mono ?_
    rintro e w14 ⟨v14, rfl, hs14, hb14⟩
    obtain ⟨A14, q14, rfl⟩ := hs14.shape
    have hz14 := hb14.size
    have BN14 := box_new w13 w14 w13.heap.size y.1 y.2.1 (.slice A14 y.2.2.items.length q14) 26 hb14 (Nat.le_refl _)
    have hb1114 : Below w11.heap.size w11 (w14.alloc (.cells #[.int .i64 y.1, .string y.2.1, .slice A14 y.2.2.items.length q14] 26)) := HB13.out.trans (BN14.1.mono (by omega))
    obtain ⟨c0, c1, c2⟩ := BN14.2.1
    obtain ⟨d0, d1, d2⟩ := X6d.out.below hb1114 (by omega)
    have HN14 := Lib.hid BN14
    have HB14 := Lib.hid hb1114
    have HS14 := Lib.hid hs14
    clear BN14 hb1114 hs14 hb14
    go_wp2_with fail
    obtain ⟨W14, hW14⟩ : ∃ W14, W14 = w14.alloc (.cells #[.int .i64 y.1, .string y.2.1, .slice A14 y.2.2.items.length q14] 26) := ⟨_, rfl⟩
    rw [← hW14] at HN14 HB14 ⊢
    clear hW14 c0 c1 c2 d0 d1 d2
    have hZ14 := HN14.out.2.2.2
    go_at_call 20
    refine (HEQ.out _ _ W14 (slt_sl HS14.out (fun g hg => HN14.out.2.2.1.block g hg.2) (fun g hg => by have := hg.2; omega)) (slt_sl T3d.out (fun g hg => HB14.out.block g (by have := hg.2; omega)) (fun g hg => by have := hg.2; have := HB14.out.size; omega))).mono ?_
    rintro e w15 ⟨rfl, hb15⟩
    have hz15 := hb15.size
    have HB15 := Lib.hid (HB14.out.trans (hb15.mono HB14.out.size))
    have HW15 := Lib.hid (HW11.out.trans (HB15.out.mono HW11.out.size))
    clear hb15
    obtain ⟨b0, b1, b2⟩ := X8d.out.below HB15.out (by omega)
    go_wp2_with fail
    go_at_call 23
    refine (HHY.out _ w15 (slt_sl HS11.out (fun g hg => HB15.out.block g (by have := hg.2; omega)) (fun g hg => by have := hg.2; have := HB15.out.size; omega))).mono ?_
    rintro e w16 ⟨rfl, hb16⟩
    have HW16 := Lib.hid (HW15.out.trans (hb16.mono HW15.out.size))
    clear hb16 b0 b1 b2
    go_wp2_with fail
    go_ret
    exact ⟨rfl, HW16.out⟩

theorem lawDer_any (n : Nat) (k : Int) (l : ByteArray) (u : Value) (a : Fr) (s : ByteArray) (w : World) (hS : Sl w w.heap.size n u a) (hls : l.size ≤ 9223372036854775807) (hss : s.size ≤ 9223372036854775807) :
    Calls Try.prog 6 #[.agg #[.int .i64 k, .string l, u], .string s] w fun e w' => e = .returned (.bool true) ∧ Below w.heap.size w w' := by
  have HB0 := Lib.hid ((Below.refl w.heap.size w).alloc (Nat.le_refl _) (.cells #[.int .i64 k, .string l, u] 37))
  by_cases hz : 1048576 < s.size
  · have e1 : decide ((s.size : Int) > 1048576) = true := by simp; omega
    clear hS
    go_enter Try.func6, Try.ntmps6
    go_wp2_with fail
    go_ret
    exact ⟨rfl, HB0.out⟩
  · by_cases hfit : ((l.size + wt a : Nat) : Int) ≤ 1048576
    · exact lawDer_walk n k l u a s w (by omega) hS hls hfit
    · have e1 : decide ((s.size : Int) > 1048576) = false := by simp; omega
      have HZ := Lib.hid (fun wr (hb : Below w.heap.size w wr) => szNode_of (szS_any n) w.heap.size k l u a 1048576 wr (hS.mono hb (Nat.le_refl _)) hb.size hls (by omega) (by omega))
      have HQ := Lib.hid (leftOf_no (m := l.size + wt a) (z := 1048576) hfit)
      clear hS hfit
      go_enter Try.func6, Try.ntmps6
      go_wp2_with fail
      refine (HZ.out _ HB0.out).mono ?_
      rintro e w1 ⟨he, hb1⟩
      rw [HQ.out] at he
      subst he
      have HW1 := Lib.hid (HB0.out.trans (hb1.mono (by simp)))
      clear hb1
      go_wp2_with fail
      go_ret
      exact ⟨rfl, HW1.out⟩
end Go.Proofs.Ytichpiklgkahbaa
