/- Texts of one proof. -/
import Derived.Deep.RegionWith
import Derived.Test.YtiijlpmdnokjfaaDoorCountsZPack8
set_option maxRecDepth 100000
set_option maxHeartbeats 20000000
namespace Go.Proofs.YtiijlpmdnokjfaaDoor
open Go.RowKit
theorem Cur.drew {w : World} {g B : Nat} {A : Option Addr} {n c : Nat} (h : Cur w g B A n c) : Cur w.drew g B A n c := h
theorem grown_drew {a w : World} {row : Option Nat} (h : a.grownBy w row) : a.grownBy w.drew row := ⟨h.os, h.tape, h.output, h.size, h.block⟩
theorem l3Draw_deep (d : Nat) (D : Int) (hD2 : 2 <= D) (hD4 : D <= 9) (g B : Nat) (A : Option Addr) (n c : Nat) (hn : n <= 1048576)
    (ih : ∀ w, Cur w g B A n c -> Calls Tryd.prog 64 #[.pointer (some ⟨g, 0, none⟩), .int .i64 (D - 1)] w (RxPost (d + 1) g B A n c w)) (w : World) (hc : Cur w g B A n c) :
    Calls Tryd.prog 64 #[.pointer (some ⟨g, 0, none⟩), .int .i64 D] w (RxPost (d + 2) g B A n c w) := by
  have hgl := hc.lt
  have H5 := Lib.hid (l1Once_any g B A n c 5 _ (hc.alloc (.cells #[.int .i64 0, .string ⟨#[]⟩, .slice none 0 0] 89)) hn (by omega) (by omega))
  have H8 := Lib.hid (λ w (h : Cur w g B A n c) => l1Below_small g B A n c 8 w h hn (by omega) (by omega))
  have H10 := Lib.hid (λ w (h : Cur w g B A n c) => l1Below_small g B A n c 10 w h hn (by omega) (by omega))
  have IH := Lib.hid ih
  have dD : decide (D < 2) = false := by simp; omega
  clear hc ih
  go_enter Tryd.func64, Tryd.ntmps64
  go_wp2_with fail
  go_at_call 48
  refine H5.out.mono ?_
  rintro e w1 ⟨b, rfl, hc1, hg1⟩
  have HC1 := Lib.hid hc1
  have HG1 := Lib.hid hg1
  clear hc1 hg1
  cases b with
  | true =>
    go_wp2_with fail
    go_at_call 43
    refine (H8.out _ HC1.out).mono ?_
    rintro e w2 ⟨x, rfl, hx, hc2, hg2⟩
    obtain ⟨-, b0, b1, b2, f0, f1, f2⟩ := box_grown (grown_tr HG1.out hg2) hgl
    have HC2 := Lib.hid hc2
    have HG2 := Lib.hid (grown_tr HG1.out hg2)
    clear hc2 hg2
    by_cases h0 : x = 0
    . subst h0
      have HF := Lib.hid (rx_leaf_end (d := d + 1) (k := 2) (l := ⟨#[]⟩) (by omega) (by omega) (by decide) HC2.out hgl HG2.out b0 b1 b2)
      go_wp2_with fail
      obtain ⟨⟨c0, c1, c2⟩, hP⟩ := HF.out
      exact bodyPost_ret (v := .agg #[.int .i64 2, .string ⟨#[]⟩, .slice none 0 0]) (by simp [results, Tryd.results64, go_sem, c0, c1, c2]) rfl hP
    by_cases h1 : x = 1
    . subst h1
      have HF := Lib.hid (rx_leaf_end (d := d + 1) (k := 4) (l := ⟨#[]⟩) (by omega) (by omega) (by decide) HC2.out hgl HG2.out b0 b1 b2)
      go_wp2_with fail
      obtain ⟨⟨c0, c1, c2⟩, hP⟩ := HF.out
      exact bodyPost_ret (v := .agg #[.int .i64 4, .string ⟨#[]⟩, .slice none 0 0]) (by simp [results, Tryd.results64, go_sem, c0, c1, c2]) rfl hP
    by_cases h2 : x = 2
    . subst h2
      have HF := Lib.hid (rx_leaf_end (d := d + 1) (k := 1) (l := ⟨#[]⟩) (by omega) (by omega) (by decide) HC2.out hgl HG2.out b0 b1 b2)
      go_wp2_with fail
      obtain ⟨⟨c0, c1, c2⟩, hP⟩ := HF.out
      exact bodyPost_ret (v := .agg #[.int .i64 1, .string ⟨#[]⟩, .slice none 0 0]) (by simp [results, Tryd.results64, go_sem, c0, c1, c2]) rfl hP
    have d0 : ((x : Int) == 0) = false := by simp; omega
    have d1 : ((x : Int) == 1) = false := by simp; omega
    have d2 : ((x : Int) == 2) = false := by simp; omega
    have C2 := Lib.hid (HC2.out.alloc (.cells (rxLetters.map λ p => Value.string ⟨p.toArray⟩).toArray 9))
    have G2 := Lib.hid (grown_made HG2.out (.cells (rxLetters.map λ p => Value.string ⟨p.toArray⟩).toArray 9))
    have hl1 := HC2.out.lt
    clear b0 b1 b2 f0 f1 f2
    go_wp2_with fail
    go_at_call 85
    refine (l1Pick_any g B w2.heap.size A n c 5 rxLetters _ C2.out hn (by omega) (by omega) rfl (by omega) (heap_alloc_new w2 _)).mono ?_
    rintro e w9 ⟨p, hp, rfl, hc9, hg9⟩
    have C9 := Lib.hid hc9
    have HG9 := Lib.hid (grown_tr G2.out hg9)
    have HP := Lib.hid (letters_size p hp)
    clear hc9 hg9 hp
    obtain ⟨-, b0, b1, b2, f0, f1, f2⟩ := box_grown HG9.out hgl
    have HF := Lib.hid (rx_leaf_end (d := d + 1) (k := 3) (l := ⟨p.toArray⟩) (by omega) (by omega) HP.out C9.out hgl HG9.out b0 b1 b2)
    go_wp2_with fail
    obtain ⟨⟨c0, c1, c2⟩, hP⟩ := HF.out
    exact bodyPost_ret (v := .agg #[.int .i64 3, .string ⟨p.toArray⟩, .slice none 0 0]) (by simp [results, Tryd.results64, go_sem, c0, c1, c2]) rfl hP
  | false =>
    go_wp2_with fail
    go_at_call 43
    refine (H10.out _ HC1.out).mono ?_
    rintro e w2 ⟨x, rfl, hx, hc2, hg2⟩
    have HC2 := Lib.hid hc2
    have HG2 := Lib.hid (grown_tr HG1.out hg2)
    clear hc2 hg2
    have hx' : x = 0 \/ x = 1 \/ x = 2 \/ x = 3 \/ x = 4 \/ x = 5 \/ x = 6 \/ x = 7 \/ x = 8 \/ x = 9 := by omega
    rcases hx' with rfl | rfl | rfl | rfl | rfl | rfl | rfl | rfl | rfl | rfl
    . go_wp2_with fail
      go_at_call 64
      (with_reducible refine (IH.out _ HC2.out).mono ?_)
      rintro e w3 ⟨k1, l1, A1, q1, a1, rfl, -, -, hl1, hz1, -, hs1, hc3, hg3⟩
      have HG3 := Lib.hid (grown_tr HG2.out hg3)
      obtain ⟨W3, hW3⟩ : ∃ W3, W3 = w3.alloc (.cells #[.int .i64 k1, .string l1, .slice A1 a1.items.length q1] 89) := ⟨_, rfl⟩
      obtain ⟨-, b0, b1, b2, f0, f1, f2⟩ := box_grown (w1 := W3) (by rw [hW3]; exact grown_tr HG3.out (World.grownBy_alloc _ _ _)) hgl
      have HF := Lib.hid (rx_one_end (k := 8) hW3 (by omega) (by omega) (by have := HG2.out.size; rw [World.size_alloc] at this; exact this) hg3.size hl1 hz1 hs1 hc3 hgl HG3.out b0 b1 b2)
      rw [hW3] at b0 b1 b2 f0 f1 f2
      have HW3 := Lib.hid hW3
      clear hl1 hz1 hs1 hc3 hg3 hW3
      go_wp2_with fail
      rw [<- HW3.out]
      obtain ⟨⟨c0, c1, c2⟩, hP⟩ := HF.out
      exact bodyPost_ret (v := .agg #[.int .i64 8, .string ⟨#[]⟩, .slice (some ⟨w3.heap.size, 0, none⟩) 1 1]) (by simp [results, Tryd.results64, go_sem, c0, c1, c2]) rfl hP
    . go_wp2_with fail
      go_at_call 64
      (with_reducible refine (IH.out _ HC2.out).mono ?_)
      rintro e w3 ⟨k1, l1, A1, q1, a1, rfl, -, -, hl1, hz1, -, hs1, hc3, hg3⟩
      have HG3 := Lib.hid (grown_tr HG2.out hg3)
      obtain ⟨W3, hW3⟩ : ∃ W3, W3 = w3.alloc (.cells #[.int .i64 k1, .string l1, .slice A1 a1.items.length q1] 89) := ⟨_, rfl⟩
      obtain ⟨-, b0, b1, b2, f0, f1, f2⟩ := box_grown (w1 := W3) (by rw [hW3]; exact grown_tr HG3.out (World.grownBy_alloc _ _ _)) hgl
      have HF := Lib.hid (rx_one_end (k := 8) hW3 (by omega) (by omega) (by have := HG2.out.size; rw [World.size_alloc] at this; exact this) hg3.size hl1 hz1 hs1 hc3 hgl HG3.out b0 b1 b2)
      rw [hW3] at b0 b1 b2 f0 f1 f2
      have HW3 := Lib.hid hW3
      clear hl1 hz1 hs1 hc3 hg3 hW3
      go_wp2_with fail
      rw [<- HW3.out]
      obtain ⟨⟨c0, c1, c2⟩, hP⟩ := HF.out
      exact bodyPost_ret (v := .agg #[.int .i64 8, .string ⟨#[]⟩, .slice (some ⟨w3.heap.size, 0, none⟩) 1 1]) (by simp [results, Tryd.results64, go_sem, c0, c1, c2]) rfl hP
    . go_wp2_with fail
      go_at_call 64
      (with_reducible refine (IH.out _ HC2.out).mono ?_)
      rintro e w3 ⟨k1, l1, A1, q1, a1, rfl, -, -, hl1, hz1, -, hs1, hc3, hg3⟩
      have HG3 := Lib.hid (grown_tr HG2.out hg3)
      obtain ⟨W3, hW3⟩ : ∃ W3, W3 = w3.alloc (.cells #[.int .i64 k1, .string l1, .slice A1 a1.items.length q1] 89) := ⟨_, rfl⟩
      obtain ⟨-, b0, b1, b2, f0, f1, f2⟩ := box_grown (w1 := W3) (by rw [hW3]; exact grown_tr HG3.out (World.grownBy_alloc _ _ _)) hgl
      have HF := Lib.hid (rx_one_end (k := 8) hW3 (by omega) (by omega) (by have := HG2.out.size; rw [World.size_alloc] at this; exact this) hg3.size hl1 hz1 hs1 hc3 hgl HG3.out b0 b1 b2)
      rw [hW3] at b0 b1 b2 f0 f1 f2
      have HW3 := Lib.hid hW3
      clear hl1 hz1 hs1 hc3 hg3 hW3
      go_wp2_with fail
      rw [<- HW3.out]
      obtain ⟨⟨c0, c1, c2⟩, hP⟩ := HF.out
      exact bodyPost_ret (v := .agg #[.int .i64 8, .string ⟨#[]⟩, .slice (some ⟨w3.heap.size, 0, none⟩) 1 1]) (by simp [results, Tryd.results64, go_sem, c0, c1, c2]) rfl hP
    . go_wp2_with fail
      go_at_call 64
      (with_reducible refine (IH.out _ HC2.out).mono ?_)
      rintro e w3 ⟨k1, l1, A1, q1, a1, rfl, -, -, hl1, hz1, -, hs1, hc3, hg3⟩
      have HG3 := Lib.hid (grown_tr HG2.out hg3)
      obtain ⟨W3, hW3⟩ : ∃ W3, W3 = w3.alloc (.cells #[.int .i64 k1, .string l1, .slice A1 a1.items.length q1] 89) := ⟨_, rfl⟩
      obtain ⟨-, b0, b1, b2, f0, f1, f2⟩ := box_grown (w1 := W3) (by rw [hW3]; exact grown_tr HG3.out (World.grownBy_alloc _ _ _)) hgl
      have HF := Lib.hid (rx_one_end (k := 9) hW3 (by omega) (by omega) (by have := HG2.out.size; rw [World.size_alloc] at this; exact this) hg3.size hl1 hz1 hs1 hc3 hgl HG3.out b0 b1 b2)
      rw [hW3] at b0 b1 b2 f0 f1 f2
      have HW3 := Lib.hid hW3
      clear hl1 hz1 hs1 hc3 hg3 hW3
      go_wp2_with fail
      rw [<- HW3.out]
      obtain ⟨⟨c0, c1, c2⟩, hP⟩ := HF.out
      exact bodyPost_ret (v := .agg #[.int .i64 9, .string ⟨#[]⟩, .slice (some ⟨w3.heap.size, 0, none⟩) 1 1]) (by simp [results, Tryd.results64, go_sem, c0, c1, c2]) rfl hP
    . go_wp2_with fail
      go_at_call 64
      (with_reducible refine (IH.out _ HC2.out).mono ?_)
      rintro e w3 ⟨k1, l1, A1, q1, a1, rfl, -, -, hl1, hz1, -, hs1, hc3, hg3⟩
      have HG3 := Lib.hid (grown_tr HG2.out hg3)
      have HC3 := Lib.hid (Cur.drew (hc3.alloc (.cells #[.int .i64 k1, .string l1, .slice A1 a1.items.length q1] 89)))
      have HL3 := Lib.hid hc3.lt
      have HX := Lib.hid (show (l1.size <= 1 /\ a1.size + 2 <= 2 ^ (d + 1)) /\ SlT w3 (d + 1) (OwnB w2 w3) (.slice A1 a1.items.length q1) a1 /\ w2.heap.size <= w3.heap.size from ⟨⟨hl1, hz1⟩, hs1, hg3.size⟩)
      have HQ3 := Lib.hid (grown_drew (World.grownBy_alloc w3 (.cells #[.int .i64 k1, .string l1, .slice A1 a1.items.length q1] 89) (some g)))
      have HU3 := Lib.hid (grown_drew (World.grownBy.refl (w3.alloc (.cells #[.int .i64 k1, .string l1, .slice A1 a1.items.length q1] 89)) (some g)))
      clear hl1 hz1 hs1 hc3 hg3
      go_wp2_with fail
      have hwr : IntKind.i64.wrap (D - 1) = D - 1 := IntWalk.i64_in _ (by omega)
      go_region_with (go_at_call 64; clear hwr; (with_reducible refine (IH.out _ HC3.out).mono ?_); rintro e w4 ⟨k2, l2, A2, q2, a2, rfl, -, -, hl2, hz2, -, hs2, hc4, hg4⟩; have HQ4 := Lib.hid (grown_tr HQ3.out hg4); have HG4 := Lib.hid (grown_tr HG3.out HQ4.out); obtain ⟨-, y0, y1, y2, -⟩ := box_grown (grown_tr HU3.out hg4) HL3.out; obtain ⟨W3, hW3⟩ : ∃ W3, W3 = w4.alloc (.cells #[.int .i64 k1, .string l1, .slice A1 a1.items.length q1, .int .i64 k2, .string l2, .slice A2 a2.items.length q2] 89) := ⟨_, rfl⟩; obtain ⟨-, b0, b1, b2, f0, f1, f2⟩ := box_grown (w1 := W3) (by rw [hW3]; exact grown_tr HG4.out (World.grownBy_alloc _ _ _)) hgl; have HF := Lib.hid (rx_two_end (k := 7) hW3 (by omega) (by omega) (by have := HG2.out.size; rw [World.size_alloc] at this; exact this) HX.out.2.2 (by have := HQ3.out.size; exact this) HX.out.1.1 hl2 HX.out.1.2 hz2 HX.out.2.1 hs2 HQ4.out hg4.size hc4 hgl HG4.out b0 b1 b2); rw [hW3] at b0 b1 b2 f0 f1 f2; have HW3 := Lib.hid hW3; clear hl2 hz2 hs2 hc4 hg4 hW3)
      all_goals
        go_wp2_with fail
        rw [<- HW3.out]
        obtain ⟨⟨c0, c1, c2⟩, hP⟩ := HF.out
        exact bodyPost_ret (v := .agg #[.int .i64 7, .string ⟨#[]⟩, .slice (some ⟨w4.heap.size, 0, none⟩) 2 2]) (by simp [results, Tryd.results64, go_sem, c0, c1, c2]) rfl hP
    . go_wp2_with fail
      go_at_call 64
      (with_reducible refine (IH.out _ HC2.out).mono ?_)
      rintro e w3 ⟨k1, l1, A1, q1, a1, rfl, -, -, hl1, hz1, -, hs1, hc3, hg3⟩
      have HG3 := Lib.hid (grown_tr HG2.out hg3)
      have HC3 := Lib.hid (Cur.drew (hc3.alloc (.cells #[.int .i64 k1, .string l1, .slice A1 a1.items.length q1] 89)))
      have HL3 := Lib.hid hc3.lt
      have HX := Lib.hid (show (l1.size <= 1 /\ a1.size + 2 <= 2 ^ (d + 1)) /\ SlT w3 (d + 1) (OwnB w2 w3) (.slice A1 a1.items.length q1) a1 /\ w2.heap.size <= w3.heap.size from ⟨⟨hl1, hz1⟩, hs1, hg3.size⟩)
      have HQ3 := Lib.hid (grown_drew (World.grownBy_alloc w3 (.cells #[.int .i64 k1, .string l1, .slice A1 a1.items.length q1] 89) (some g)))
      have HU3 := Lib.hid (grown_drew (World.grownBy.refl (w3.alloc (.cells #[.int .i64 k1, .string l1, .slice A1 a1.items.length q1] 89)) (some g)))
      clear hl1 hz1 hs1 hc3 hg3
      go_wp2_with fail
      have hwr : IntKind.i64.wrap (D - 1) = D - 1 := IntWalk.i64_in _ (by omega)
      go_region_with (go_at_call 64; clear hwr; (with_reducible refine (IH.out _ HC3.out).mono ?_); rintro e w4 ⟨k2, l2, A2, q2, a2, rfl, -, -, hl2, hz2, -, hs2, hc4, hg4⟩; have HQ4 := Lib.hid (grown_tr HQ3.out hg4); have HG4 := Lib.hid (grown_tr HG3.out HQ4.out); obtain ⟨-, y0, y1, y2, -⟩ := box_grown (grown_tr HU3.out hg4) HL3.out; obtain ⟨W3, hW3⟩ : ∃ W3, W3 = w4.alloc (.cells #[.int .i64 k1, .string l1, .slice A1 a1.items.length q1, .int .i64 k2, .string l2, .slice A2 a2.items.length q2] 89) := ⟨_, rfl⟩; obtain ⟨-, b0, b1, b2, f0, f1, f2⟩ := box_grown (w1 := W3) (by rw [hW3]; exact grown_tr HG4.out (World.grownBy_alloc _ _ _)) hgl; have HF := Lib.hid (rx_two_end (k := 6) hW3 (by omega) (by omega) (by have := HG2.out.size; rw [World.size_alloc] at this; exact this) HX.out.2.2 (by have := HQ3.out.size; exact this) HX.out.1.1 hl2 HX.out.1.2 hz2 HX.out.2.1 hs2 HQ4.out hg4.size hc4 hgl HG4.out b0 b1 b2); rw [hW3] at b0 b1 b2 f0 f1 f2; have HW3 := Lib.hid hW3; clear hl2 hz2 hs2 hc4 hg4 hW3)
      all_goals
        go_wp2_with fail
        rw [<- HW3.out]
        obtain ⟨⟨c0, c1, c2⟩, hP⟩ := HF.out
        exact bodyPost_ret (v := .agg #[.int .i64 6, .string ⟨#[]⟩, .slice (some ⟨w4.heap.size, 0, none⟩) 2 2]) (by simp [results, Tryd.results64, go_sem, c0, c1, c2]) rfl hP
    . go_wp2_with fail
      go_at_call 64
      (with_reducible refine (IH.out _ HC2.out).mono ?_)
      rintro e w3 ⟨k1, l1, A1, q1, a1, rfl, -, -, hl1, hz1, -, hs1, hc3, hg3⟩
      have HG3 := Lib.hid (grown_tr HG2.out hg3)
      have HC3 := Lib.hid (Cur.drew (hc3.alloc (.cells #[.int .i64 k1, .string l1, .slice A1 a1.items.length q1] 89)))
      have HL3 := Lib.hid hc3.lt
      have HX := Lib.hid (show (l1.size <= 1 /\ a1.size + 2 <= 2 ^ (d + 1)) /\ SlT w3 (d + 1) (OwnB w2 w3) (.slice A1 a1.items.length q1) a1 /\ w2.heap.size <= w3.heap.size from ⟨⟨hl1, hz1⟩, hs1, hg3.size⟩)
      have HQ3 := Lib.hid (grown_drew (World.grownBy_alloc w3 (.cells #[.int .i64 k1, .string l1, .slice A1 a1.items.length q1] 89) (some g)))
      have HU3 := Lib.hid (grown_drew (World.grownBy.refl (w3.alloc (.cells #[.int .i64 k1, .string l1, .slice A1 a1.items.length q1] 89)) (some g)))
      clear hl1 hz1 hs1 hc3 hg3
      go_wp2_with fail
      have hwr : IntKind.i64.wrap (D - 1) = D - 1 := IntWalk.i64_in _ (by omega)
      go_region_with (go_at_call 64; clear hwr; (with_reducible refine (IH.out _ HC3.out).mono ?_); rintro e w4 ⟨k2, l2, A2, q2, a2, rfl, -, -, hl2, hz2, -, hs2, hc4, hg4⟩; have HQ4 := Lib.hid (grown_tr HQ3.out hg4); have HG4 := Lib.hid (grown_tr HG3.out HQ4.out); obtain ⟨-, y0, y1, y2, -⟩ := box_grown (grown_tr HU3.out hg4) HL3.out; obtain ⟨W3, hW3⟩ : ∃ W3, W3 = w4.alloc (.cells #[.int .i64 k1, .string l1, .slice A1 a1.items.length q1, .int .i64 k2, .string l2, .slice A2 a2.items.length q2] 89) := ⟨_, rfl⟩; obtain ⟨-, b0, b1, b2, f0, f1, f2⟩ := box_grown (w1 := W3) (by rw [hW3]; exact grown_tr HG4.out (World.grownBy_alloc _ _ _)) hgl; have HF := Lib.hid (rx_two_end (k := 6) hW3 (by omega) (by omega) (by have := HG2.out.size; rw [World.size_alloc] at this; exact this) HX.out.2.2 (by have := HQ3.out.size; exact this) HX.out.1.1 hl2 HX.out.1.2 hz2 HX.out.2.1 hs2 HQ4.out hg4.size hc4 hgl HG4.out b0 b1 b2); rw [hW3] at b0 b1 b2 f0 f1 f2; have HW3 := Lib.hid hW3; clear hl2 hz2 hs2 hc4 hg4 hW3)
      all_goals
        go_wp2_with fail
        rw [<- HW3.out]
        obtain ⟨⟨c0, c1, c2⟩, hP⟩ := HF.out
        exact bodyPost_ret (v := .agg #[.int .i64 6, .string ⟨#[]⟩, .slice (some ⟨w4.heap.size, 0, none⟩) 2 2]) (by simp [results, Tryd.results64, go_sem, c0, c1, c2]) rfl hP
    . go_wp2_with fail
      go_at_call 64
      (with_reducible refine (IH.out _ HC2.out).mono ?_)
      rintro e w3 ⟨k1, l1, A1, q1, a1, rfl, -, -, hl1, hz1, -, hs1, hc3, hg3⟩
      have HG3 := Lib.hid (grown_tr HG2.out hg3)
      have HC3 := Lib.hid (Cur.drew (hc3.alloc (.cells #[.int .i64 k1, .string l1, .slice A1 a1.items.length q1] 89)))
      have HL3 := Lib.hid hc3.lt
      have HX := Lib.hid (show (l1.size <= 1 /\ a1.size + 2 <= 2 ^ (d + 1)) /\ SlT w3 (d + 1) (OwnB w2 w3) (.slice A1 a1.items.length q1) a1 /\ w2.heap.size <= w3.heap.size from ⟨⟨hl1, hz1⟩, hs1, hg3.size⟩)
      have HQ3 := Lib.hid (grown_drew (World.grownBy_alloc w3 (.cells #[.int .i64 k1, .string l1, .slice A1 a1.items.length q1] 89) (some g)))
      have HU3 := Lib.hid (grown_drew (World.grownBy.refl (w3.alloc (.cells #[.int .i64 k1, .string l1, .slice A1 a1.items.length q1] 89)) (some g)))
      clear hl1 hz1 hs1 hc3 hg3
      go_wp2_with fail
      have hwr : IntKind.i64.wrap (D - 1) = D - 1 := IntWalk.i64_in _ (by omega)
      go_region_with (go_at_call 64; clear hwr; (with_reducible refine (IH.out _ HC3.out).mono ?_); rintro e w4 ⟨k2, l2, A2, q2, a2, rfl, -, -, hl2, hz2, -, hs2, hc4, hg4⟩; have HQ4 := Lib.hid (grown_tr HQ3.out hg4); have HG4 := Lib.hid (grown_tr HG3.out HQ4.out); obtain ⟨-, y0, y1, y2, -⟩ := box_grown (grown_tr HU3.out hg4) HL3.out; obtain ⟨W3, hW3⟩ : ∃ W3, W3 = w4.alloc (.cells #[.int .i64 k1, .string l1, .slice A1 a1.items.length q1, .int .i64 k2, .string l2, .slice A2 a2.items.length q2] 89) := ⟨_, rfl⟩; obtain ⟨-, b0, b1, b2, f0, f1, f2⟩ := box_grown (w1 := W3) (by rw [hW3]; exact grown_tr HG4.out (World.grownBy_alloc _ _ _)) hgl; have HF := Lib.hid (rx_two_end (k := 5) hW3 (by omega) (by omega) (by have := HG2.out.size; rw [World.size_alloc] at this; exact this) HX.out.2.2 (by have := HQ3.out.size; exact this) HX.out.1.1 hl2 HX.out.1.2 hz2 HX.out.2.1 hs2 HQ4.out hg4.size hc4 hgl HG4.out b0 b1 b2); rw [hW3] at b0 b1 b2 f0 f1 f2; have HW3 := Lib.hid hW3; clear hl2 hz2 hs2 hc4 hg4 hW3)
      all_goals
        go_wp2_with fail
        rw [<- HW3.out]
        obtain ⟨⟨c0, c1, c2⟩, hP⟩ := HF.out
        exact bodyPost_ret (v := .agg #[.int .i64 5, .string ⟨#[]⟩, .slice (some ⟨w4.heap.size, 0, none⟩) 2 2]) (by simp [results, Tryd.results64, go_sem, c0, c1, c2]) rfl hP
    . go_wp2_with fail
      go_at_call 64
      (with_reducible refine (IH.out _ HC2.out).mono ?_)
      rintro e w3 ⟨k1, l1, A1, q1, a1, rfl, -, -, hl1, hz1, -, hs1, hc3, hg3⟩
      have HG3 := Lib.hid (grown_tr HG2.out hg3)
      have HC3 := Lib.hid (Cur.drew (hc3.alloc (.cells #[.int .i64 k1, .string l1, .slice A1 a1.items.length q1] 89)))
      have HL3 := Lib.hid hc3.lt
      have HX := Lib.hid (show (l1.size <= 1 /\ a1.size + 2 <= 2 ^ (d + 1)) /\ SlT w3 (d + 1) (OwnB w2 w3) (.slice A1 a1.items.length q1) a1 /\ w2.heap.size <= w3.heap.size from ⟨⟨hl1, hz1⟩, hs1, hg3.size⟩)
      have HQ3 := Lib.hid (grown_drew (World.grownBy_alloc w3 (.cells #[.int .i64 k1, .string l1, .slice A1 a1.items.length q1] 89) (some g)))
      have HU3 := Lib.hid (grown_drew (World.grownBy.refl (w3.alloc (.cells #[.int .i64 k1, .string l1, .slice A1 a1.items.length q1] 89)) (some g)))
      clear hl1 hz1 hs1 hc3 hg3
      go_wp2_with fail
      have hwr : IntKind.i64.wrap (D - 1) = D - 1 := IntWalk.i64_in _ (by omega)
      go_region_with (go_at_call 64; clear hwr; (with_reducible refine (IH.out _ HC3.out).mono ?_); rintro e w4 ⟨k2, l2, A2, q2, a2, rfl, -, -, hl2, hz2, -, hs2, hc4, hg4⟩; have HQ4 := Lib.hid (grown_tr HQ3.out hg4); have HG4 := Lib.hid (grown_tr HG3.out HQ4.out); obtain ⟨-, y0, y1, y2, -⟩ := box_grown (grown_tr HU3.out hg4) HL3.out; obtain ⟨W3, hW3⟩ : ∃ W3, W3 = w4.alloc (.cells #[.int .i64 k1, .string l1, .slice A1 a1.items.length q1, .int .i64 k2, .string l2, .slice A2 a2.items.length q2] 89) := ⟨_, rfl⟩; obtain ⟨-, b0, b1, b2, f0, f1, f2⟩ := box_grown (w1 := W3) (by rw [hW3]; exact grown_tr HG4.out (World.grownBy_alloc _ _ _)) hgl; have HF := Lib.hid (rx_two_end (k := 5) hW3 (by omega) (by omega) (by have := HG2.out.size; rw [World.size_alloc] at this; exact this) HX.out.2.2 (by have := HQ3.out.size; exact this) HX.out.1.1 hl2 HX.out.1.2 hz2 HX.out.2.1 hs2 HQ4.out hg4.size hc4 hgl HG4.out b0 b1 b2); rw [hW3] at b0 b1 b2 f0 f1 f2; have HW3 := Lib.hid hW3; clear hl2 hz2 hs2 hc4 hg4 hW3)
      all_goals
        go_wp2_with fail
        rw [<- HW3.out]
        obtain ⟨⟨c0, c1, c2⟩, hP⟩ := HF.out
        exact bodyPost_ret (v := .agg #[.int .i64 5, .string ⟨#[]⟩, .slice (some ⟨w4.heap.size, 0, none⟩) 2 2]) (by simp [results, Tryd.results64, go_sem, c0, c1, c2]) rfl hP
    . go_wp2_with fail
      go_at_call 64
      (with_reducible refine (IH.out _ HC2.out).mono ?_)
      rintro e w3 ⟨k1, l1, A1, q1, a1, rfl, -, -, hl1, hz1, -, hs1, hc3, hg3⟩
      have HG3 := Lib.hid (grown_tr HG2.out hg3)
      have HC3 := Lib.hid (Cur.drew (hc3.alloc (.cells #[.int .i64 k1, .string l1, .slice A1 a1.items.length q1] 89)))
      have HL3 := Lib.hid hc3.lt
      have HX := Lib.hid (show (l1.size <= 1 /\ a1.size + 2 <= 2 ^ (d + 1)) /\ SlT w3 (d + 1) (OwnB w2 w3) (.slice A1 a1.items.length q1) a1 /\ w2.heap.size <= w3.heap.size from ⟨⟨hl1, hz1⟩, hs1, hg3.size⟩)
      have HQ3 := Lib.hid (grown_drew (World.grownBy_alloc w3 (.cells #[.int .i64 k1, .string l1, .slice A1 a1.items.length q1] 89) (some g)))
      have HU3 := Lib.hid (grown_drew (World.grownBy.refl (w3.alloc (.cells #[.int .i64 k1, .string l1, .slice A1 a1.items.length q1] 89)) (some g)))
      clear hl1 hz1 hs1 hc3 hg3
      go_wp2_with fail
      have hwr : IntKind.i64.wrap (D - 1) = D - 1 := IntWalk.i64_in _ (by omega)
      go_region_with (go_at_call 64; clear hwr; (with_reducible refine (IH.out _ HC3.out).mono ?_); rintro e w4 ⟨k2, l2, A2, q2, a2, rfl, -, -, hl2, hz2, -, hs2, hc4, hg4⟩; have HQ4 := Lib.hid (grown_tr HQ3.out hg4); have HG4 := Lib.hid (grown_tr HG3.out HQ4.out); obtain ⟨-, y0, y1, y2, -⟩ := box_grown (grown_tr HU3.out hg4) HL3.out; obtain ⟨W3, hW3⟩ : ∃ W3, W3 = w4.alloc (.cells #[.int .i64 k1, .string l1, .slice A1 a1.items.length q1, .int .i64 k2, .string l2, .slice A2 a2.items.length q2] 89) := ⟨_, rfl⟩; obtain ⟨-, b0, b1, b2, f0, f1, f2⟩ := box_grown (w1 := W3) (by rw [hW3]; exact grown_tr HG4.out (World.grownBy_alloc _ _ _)) hgl; have HF := Lib.hid (rx_two_end (k := 5) hW3 (by omega) (by omega) (by have := HG2.out.size; rw [World.size_alloc] at this; exact this) HX.out.2.2 (by have := HQ3.out.size; exact this) HX.out.1.1 hl2 HX.out.1.2 hz2 HX.out.2.1 hs2 HQ4.out hg4.size hc4 hgl HG4.out b0 b1 b2); rw [hW3] at b0 b1 b2 f0 f1 f2; have HW3 := Lib.hid hW3; clear hl2 hz2 hs2 hc4 hg4 hW3)
      all_goals
        go_wp2_with fail
        rw [<- HW3.out]
        obtain ⟨⟨c0, c1, c2⟩, hP⟩ := HF.out
        exact bodyPost_ret (v := .agg #[.int .i64 5, .string ⟨#[]⟩, .slice (some ⟨w4.heap.size, 0, none⟩) 2 2]) (by simp [results, Tryd.results64, go_sem, c0, c1, c2]) rfl hP
theorem l3Draw_any (g B : Nat) (A : Option Addr) (n c : Nat) (hn : n <= 1048576) : ∀ (d : Nat), d <= 8 -> ∀ (w : World), Cur w g B A n c ->
    Calls Tryd.prog 64 #[.pointer (some ⟨g, 0, none⟩), .int .i64 ((d + 1 : Nat) : Int)] w (RxPost (d + 1) g B A n c w)
  | 0, _, w, hc => l3Draw_one g B A n c w hc hn
  | d + 1, hd, w, hc => l3Draw_deep d _ (by omega) (by omega) g B A n c hn (λ w h => by
      have e : ((d + 1 + 1 : Nat) : Int) - 1 = ((d + 1 : Nat) : Int) := by omega
      rw [e]
      exact l3Draw_any g B A n c hn d (by omega) w h) w hc
end Go.Proofs.YtiijlpmdnokjfaaDoor
