/-
  What spec.l4Derive answers at a leaf.
  What spec.l4Derive answers at a union, an intersection, a complement.
  What spec.l4Derive answers at a repetition, at a concatenation.
  What spec.l4Derive answers at a concatenation.
  What spec.l4Derive answers at a concatenation.
-/
import Derived.Test.YtichpiklgkahbaaDerMX
import Derived.Test.YtichpiklgkahbaaCopyIS
namespace Go.Proofs.Ytichpiklgkahbaa
open Go.RowKit

set_option maxRecDepth 100000 in
set_option maxHeartbeats 3200000 in
theorem sder_1 (D : Nat) (l cl : ByteArray) (A : Option Addr) (c : Nat) (w : World) :
    Calls Try.prog 31 #[.agg #[.int .i64 1, .string l, .slice A 0 c], .string cl] w (NdT (D + 1) (1, ⟨#[]⟩, .nil) w) := by
  go_enter Try.func31, Try.ntmps31
  go_wp2_with fail
  exact bodyPost_ret (v := .agg #[.int .i64 1, .string ⟨#[]⟩, .slice none 0 0]) (by simp [results, Try.results31, go_sem]) rfl ⟨_, rfl, SlT.none _ _ _ _ _, ((Below.refl w.heap.size w).alloc (Nat.le_refl _) _).alloc (by simp) _⟩

set_option maxRecDepth 100000 in
set_option maxHeartbeats 3200000 in
theorem sder_2 (D : Nat) (l cl : ByteArray) (A : Option Addr) (c : Nat) (w : World) :
    Calls Try.prog 31 #[.agg #[.int .i64 2, .string l, .slice A 0 c], .string cl] w (NdT (D + 1) (1, ⟨#[]⟩, .nil) w) := by
  go_enter Try.func31, Try.ntmps31
  go_wp2_with fail
  exact bodyPost_ret (v := .agg #[.int .i64 1, .string ⟨#[]⟩, .slice none 0 0]) (by simp [results, Try.results31, go_sem]) rfl ⟨_, rfl, SlT.none _ _ _ _ _, ((Below.refl w.heap.size w).alloc (Nat.le_refl _) _).alloc (by simp) _⟩

set_option maxRecDepth 100000 in
set_option maxHeartbeats 3200000 in
theorem sder_4 (D : Nat) (l cl : ByteArray) (A : Option Addr) (c : Nat) (w : World) :
    Calls Try.prog 31 #[.agg #[.int .i64 4, .string l, .slice A 0 c], .string cl] w (NdT (D + 1) (2, ⟨#[]⟩, .nil) w) := by
  go_enter Try.func31, Try.ntmps31
  go_wp2_with fail
  exact bodyPost_ret (v := .agg #[.int .i64 2, .string ⟨#[]⟩, .slice none 0 0]) (by simp [results, Try.results31, go_sem]) rfl ⟨_, rfl, SlT.none _ _ _ _ _, ((Below.refl w.heap.size w).alloc (Nat.le_refl _) _).alloc (by simp) _⟩

set_option maxRecDepth 100000 in
set_option maxHeartbeats 3200000 in
theorem sder_3_yes (D : Nat) (l cl : ByteArray) (A : Option Addr) (c : Nat) (w : World) (hl : (l.toList == cl.toList) = true) :
    Calls Try.prog 31 #[.agg #[.int .i64 3, .string l, .slice A 0 c], .string cl] w (NdT (D + 1) (2, ⟨#[]⟩, .nil) w) := by
  go_enter Try.func31, Try.ntmps31
  go_wp2_with fail
  exact bodyPost_ret (v := .agg #[.int .i64 2, .string ⟨#[]⟩, .slice none 0 0]) (by simp [results, Try.results31, go_sem]) rfl ⟨_, rfl, SlT.none _ _ _ _ _, ((Below.refl w.heap.size w).alloc (Nat.le_refl _) _).alloc (by simp) _⟩

set_option maxRecDepth 100000 in
set_option maxHeartbeats 3200000 in
theorem sder_3_no (D : Nat) (l cl : ByteArray) (A : Option Addr) (c : Nat) (w : World) (hl : (l.toList == cl.toList) = false) :
    Calls Try.prog 31 #[.agg #[.int .i64 3, .string l, .slice A 0 c], .string cl] w (NdT (D + 1) (1, ⟨#[]⟩, .nil) w) := by
  go_enter Try.func31, Try.ntmps31
  go_wp2_with fail
  exact bodyPost_ret (v := .agg #[.int .i64 1, .string ⟨#[]⟩, .slice none 0 0]) (by simp [results, Try.results31, go_sem]) rfl ⟨_, rfl, SlT.none _ _ _ _ _, ((Below.refl w.heap.size w).alloc (Nat.le_refl _) _).alloc (by simp) _⟩

end Go.Proofs.Ytichpiklgkahbaa

namespace Go.Proofs.Ytichpiklgkahbaa
open Go.RowKit

theorem enters_l4Derive : ∀ args w, (callFunc 31 args).run Try.prog w = .ok (.enter 31 args) w := enters_of Try.func31 (by kernel_rfl) rfl

set_option maxRecDepth 100000 in
set_option maxHeartbeats 3200000 in
theorem sder_6 (n : Nat) (l cl : ByteArray) (A : Option Addr) (c : Nat) (a : Fr) (w : World) (hl2 : a.items.length ≤ 2)
    (hkid : ∀ j x, a.items[j]? = some x → ∃ g o A' c', Kid Try.prog 31 56 (2 * n + 1) n cl w A j x (nodeD cl x.1 x.2.1 x.2.2 (ders cl x.2.2)) g o A' c') :
    Calls Try.prog 31 #[.agg #[.int .i64 6, .string l, .slice A a.items.length c], .string cl] w (NdT (2 * n + 3) (6, ⟨#[]⟩, rowOf (ders cl a)) w) := by
  obtain ⟨r0, hr0, hrz, hrs, hrb⟩ : ∃ i : TypeInfo, Try.prog.info? 26 = some i ∧ i.zero = some (.agg #[.int .i64 0, .string ⟨#[]⟩, .slice none 0 0]) ∧ i.size = 3 ∧ i.bytes = 48 := ⟨(Try.prog.info? 26).get!, by kernel_rfl, by kernel_rfl, by kernel_rfl, by kernel_rfl⟩
  have hdl := ders_len cl a
  obtain ⟨W3, hW3⟩ : ∃ W3, W3 = ((w.alloc (.cells #[.int .i64 6, .string l, .slice A a.items.length c] 26)).alloc (.cells #[.int .i64 0, .string ⟨#[]⟩, .slice none 0 0] 26)).alloc (.cells #[.int .i64 6, .string ⟨#[]⟩, .slice none 0 0] 26) := ⟨_, rfl⟩
  obtain ⟨t1, t2, t3⟩ := three_new w (.cells #[.int .i64 6, .string l, .slice A a.items.length c] 26) (.cells #[.int .i64 0, .string ⟨#[]⟩, .slice none 0 0] 26) (.cells #[.int .i64 6, .string ⟨#[]⟩, .slice none 0 0] 26)
  have hz3 : W3.heap.size = w.heap.size + 3 := by rw [hW3]; simp
  have hbW : Below w.heap.size w W3 := by rw [hW3]; exact (((Below.refl _ _).alloc (Nat.le_refl _) _).alloc (by simp) _).alloc (by simp; omega) _
  rw [← hW3] at t1 t2 t3
  have HW := Lib.hid (And.intro hbW (And.intro t1 (And.intro t2 t3)))
  have HKID := Lib.hid hkid
  clear t1 t2 t3 hbW hkid
  go_enter Try.func31, Try.ntmps31
  go_wp2_with fail
  rw [← hW3]
  clear hW3
  go_loopw [6] (fun iv wr => ∃ (j : Nat) (pv : Value) (xs : List Value) (K : Nat → Nat → Prop), iv = .int .i64 j ∧ j ≤ a.items.length ∧ wr.heap[w.heap.size + 1 + 1]? = some (.cells #[.int .i64 6, .string ⟨#[]⟩, pv] 26 (0, 0)) ∧ RowT (w.heap.size + 3) wr (2 * n + 1) pv ((ders cl a).take j) xs K ∧ Below (w.heap.size + 1 + 1) W3 wr) (fun iv _ => a.items.length - (intOf iv).toNat)
  case atStart => exact ⟨0, .slice none 0 0, [], _, rfl, Nat.zero_le _, HW.out.2.2.2, RowT.start _ _ _, Below.refl _ _⟩
  case round =>
    obtain ⟨j, pv, xs, K, rfl, hj, hbx, hrow, hb⟩ := hrel
    have HB := Lib.hid hb
    have HR := Lib.hid hrow
    have HBX := Lib.hid hbx
    have hwz : w.heap.size + 3 ≤ wr.heap.size := by have := hb.size; omega
    obtain ⟨b0, b1, b2, -, -, -⟩ := three_at HB.out (by omega) HW.out.2.1
    have hLl : ((ders cl a).take j).length = j := by simp; omega
    have hown := hrow.own
    rw [hLl] at hown
    obtain ⟨Av, cv, hv⟩ := row_shape hown
    subst hv
    obtain ⟨x0, x1, x2, y0, y1, y2⟩ := three_at (Below.refl (w.heap.size + 3) wr) (by omega) hbx
    by_cases hlt : j < a.items.length
    · obtain ⟨x, hx⟩ : ∃ x, a.items[j]? = some x := ⟨_, List.getElem?_eq_getElem hlt⟩
      obtain ⟨g, o, A', m', kid⟩ := HKID.out j x hx
      have hg := kid.lt
      have hA := kid.at_
      subst hA
      obtain ⟨d, hd⟩ : ∃ d, d = nodeD cl x.1 x.2.1 x.2.2 (ders cl x.2.2) := ⟨_, rfl⟩
      have hdx := ders_get (c := cl) (k := x.1) (l := x.2.1) (a := x.2.2) hx
      rw [← hd] at hdx kid
      obtain ⟨c0, c1, c2⟩ := kid.el.below (HW.out.1.trans (hb.mono (show w.heap.size ≤ w.heap.size + 1 + 1 by omega))) hg
      have HK := Lib.hid (kid.der wr.drew (HW.out.1.trans (hb.mono (show w.heap.size ≤ w.heap.size + 1 + 1 by omega))).drew)
      have HR1 := Lib.hid (hrow.below (Below.refl wr.heap.size wr).drew)
      have HX := Lib.hid hdx
      have hld : d.2.1.size ≤ 9223372036854775807 := by rw [kid.ld]; decide
      have hS0 : wr.cell? ⟨w.heap.size + 1 + 1, 2, none⟩ = some (.slice Av j cv) ∧ wr.cell? ⟨w.heap.size, 2, none⟩ = some (.slice (some ⟨g, o, none⟩) a.items.length c) ∧ wr.cell? ⟨g, o + j * 3, none⟩ = some (.int .i64 x.1) ∧ wr.cell? ⟨g, o + j * 3 + 1, none⟩ = some (.string x.2.1) ∧ wr.cell? ⟨g, o + j * 3 + 2, none⟩ = some (.slice A' x.2.2.items.length m') := ⟨x2, b2, c0, c1, c2⟩
      have HKP := Lib.hid (fun (V : World) (h : ∀ q, q < w.heap.size + 3 → V.heap[q]? = wr.heap[q]?) => (⟨(World.cell?_of_block (a := ⟨w.heap.size + 1 + 1, 2, none⟩) (h _ (by show w.heap.size + 1 + 1 < w.heap.size + 3; omega))).trans hS0.1, (World.cell?_of_block (a := ⟨w.heap.size, 2, none⟩) (h _ (by show w.heap.size < w.heap.size + 3; omega))).trans hS0.2.1, (World.cell?_of_block (a := ⟨g, o + j * 3, none⟩) (h _ (by show g < w.heap.size + 3; omega))).trans hS0.2.2.1, (World.cell?_of_block (a := ⟨g, o + j * 3 + 1, none⟩) (h _ (by show g < w.heap.size + 3; omega))).trans hS0.2.2.2.1, (World.cell?_of_block (a := ⟨g, o + j * 3 + 2, none⟩) (h _ (by show g < w.heap.size + 3; omega))).trans hS0.2.2.2.2⟩ :
        V.cell? ⟨w.heap.size + 1 + 1, 2, none⟩ = some (.slice Av j cv) ∧ V.cell? ⟨w.heap.size, 2, none⟩ = some (.slice (some ⟨g, o, none⟩) a.items.length c) ∧ V.cell? ⟨g, o + j * 3, none⟩ = some (.int .i64 x.1) ∧ V.cell? ⟨g, o + j * 3 + 1, none⟩ = some (.string x.2.1) ∧ V.cell? ⟨g, o + j * 3 + 2, none⟩ = some (.slice A' x.2.2.items.length m')))
      clear kid hx hdx hrow hb hbx hown hS0 hd
      go_wp2_with fail
      obtain ⟨k2, k3, k4, k5, k6⟩ := HKP.out wr.drew (fun q _ => rfl)
      go_region_law (first
          | (refine step_append_own_at rfl (.tmp 35) (.tmp 43) 24 rfl (w.heap.size + 3) 26 r0 (.agg #[.int .i64 0, .string ⟨#[]⟩, .slice none 0 0]) 3 48 Try.underlying24 hr0 hrz hrs hrb rfl (by decide) _ _ _ rfl (HOWN.out.alloc _) ⟨w1.heap.size, 0, none⟩ 1 1 _ rfl rfl (new_three w1 _ _ _ _) (by simp [Value.oneCell']) (by unfold maxLen; omega) (by omega) (by simp; omega) ?_; intro v' w3 hown' hgrow hat; obtain ⟨g', cap', rfl⟩ := ownsRow_succ hown'; have hH3 := (fun q (hq : q < w.heap.size + 3) => (hgrow.block q (by simp; omega) (fun e => by have := (HOWN.out.lt q e.symm).1; omega)).trans ((Below.heap_alloc _ _ _ (by omega)).trans (HH1.out q hq))); have z3 := (HKP.out w3 hH3).1; have hbx3 := (hH3 (w.heap.size + 1 + 1) (by omega)).trans HBX.out; have fz3 := frozen_of_row w3 (w.heap.size + 1 + 1) 2 _ _ hbx3; have HG3 := Lib.hid (And.intro hown' (And.intro hgrow (And.intro hat hbx3))); clear hown' hgrow hat hbx3 hH3)
          | (refine step_call rfl _ _ _ rfl enters_l4Derive #[.agg #[.int .i64 x.1, .string x.2.1, .slice A' x.2.2.items.length m'], .string cl] (by simp [Act.eval]) HK.out ?_; rintro e w1 ⟨u1, rfl, hs1, hb1⟩; obtain ⟨A1, m1, rfl⟩ := hs1.shape; have HBB := Lib.hid hb1; have HS1 := Lib.hid hs1; have HH1 := Lib.hid (fun q (hq : q < w.heap.size + 3) => hb1.block q (by show q < wr.heap.size; omega)); have z2 := (HKP.out w1 HH1.out).1; have z4 := (HKP.out (w1.alloc (.cells #[.int .i64 d.1, .string d.2.1, .slice A1 d.2.2.items.length m1] 26)) (fun q hq => (Below.heap_alloc _ _ _ (by have : wr.heap.size ≤ w1.heap.size := hb1.size; omega)).trans (HH1.out q hq))).1; have hz1 : wr.heap.size ≤ w1.heap.size := hb1.size; have HR2 := Lib.hid (HR1.out.below hb1); have hown := HR2.out.own; rw [hLl] at hown; have HOWN := Lib.hid hown; clear hs1 hb1 hown; refine ⟨_, rfl, ?_⟩))
      all_goals
        have HN := Lib.hid ((HR1.out.step (x := d) (by show w.heap.size + 3 ≤ wr.heap.size; omega) HBB.out HS1.out hld (by rw [hLl]; exact HG3.out.1) HG3.out.2.1 (HG3.out.2.2.1.imp (fun h => h) (fun h => by rw [World.size_alloc] at h; exact h))).set_low (p := ⟨w.heap.size + 1 + 1, 2, none⟩) (u := .slice (some ⟨g', 0, none⟩) (j + 1) cap') (by show w.heap.size + 1 + 1 < w.heap.size + 3; omega))
        rw [show (ders cl a).take j ++ [d] = (ders cl a).take (j + 1) by rw [List.take_add_one, HX.out]; rfl] at HN
        have HX3 := Lib.hid (heap_setCell_same w3 (w.heap.size + 1 + 1) 2 _ _ (.slice (some ⟨g', 0, none⟩) (j + 1) cap') HG3.out.2.2.2)
        have HB3 := Lib.hid ((((HB.out.drew.trans (HBB.out.mono (by show w.heap.size + 1 + 1 ≤ wr.heap.size; omega))).alloc (by omega) _).grown HG3.out.2.1 (by simp; omega) (fun g hg => by have := (HOWN.out.lt g hg).1; omega)).setCell (p := ⟨w.heap.size + 1 + 1, 2, none⟩) (Nat.le_refl _) (.slice (some ⟨g', 0, none⟩) (j + 1) cap'))
        clear z2 z4 z3 fz3 k2 k3 k4 k5 k6 x0 x1 x2 y0 y1 y2 b0 b1 b2 c0 c1 c2
        go_wp2_with fail
        go_roundw
        case rel => exact ⟨j + 1, _, _, _, by go_num, by omega, HX3.out, HN.out, HB3.out⟩
        case measure => simp [intOf]; omega
    · obtain rfl : j = a.items.length := by omega
      rw [← hdl, List.take_length] at HR
      obtain ⟨d0, d1, d2, f0, f1, f2⟩ := three_at HB.out (by omega) HW.out.2.2.1
      have HP := Lib.hid (put3 (k := .int .i64 6) (l := .string ⟨#[]⟩) (u := .slice Av a.items.length cv) d0 d1 d2)
      clear hrow hb hbx hown
      go_wp2_with fail
      obtain ⟨⟨e0, e1, e2⟩, hsz4, hot, hBp⟩ := HP.out
      have hT : SlT wr (2 * n + 1 + 1) (OwnB W3 wr) (.slice Av a.items.length cv) (rowOf (ders cl a)) := (hdl ▸ HR.out).tree (fun g hg => by have := HR.out.lt (hdl ▸ hg); exact ⟨by omega, this.2⟩) (by omega)
      refine bodyPost_ret (v := .agg #[.int .i64 6, .string ⟨#[]⟩, .slice Av a.items.length cv]) (by simp [results, Try.results31, go_sem, e0, e1, e2]) rfl ⟨_, rfl, (slt_le hT (by omega)).mono (fun g hg => hot g (by have := hg.1; omega)) (fun g hg => ⟨by have := hg.1; omega, by rw [hsz4]; exact hg.2⟩), hBp _ _ (HW.out.1.trans (HB.out.mono (by omega))) (by omega)⟩

set_option maxRecDepth 100000 in
set_option maxHeartbeats 3200000 in
theorem sder_7 (n : Nat) (l cl : ByteArray) (A : Option Addr) (c : Nat) (a : Fr) (w : World) (hl2 : a.items.length ≤ 2)
    (hkid : ∀ j x, a.items[j]? = some x → ∃ g o A' c', Kid Try.prog 31 56 (2 * n + 1) n cl w A j x (nodeD cl x.1 x.2.1 x.2.2 (ders cl x.2.2)) g o A' c') :
    Calls Try.prog 31 #[.agg #[.int .i64 7, .string l, .slice A a.items.length c], .string cl] w (NdT (2 * n + 3) (7, ⟨#[]⟩, rowOf (ders cl a)) w) := by
  obtain ⟨r0, hr0, hrz, hrs, hrb⟩ : ∃ i : TypeInfo, Try.prog.info? 26 = some i ∧ i.zero = some (.agg #[.int .i64 0, .string ⟨#[]⟩, .slice none 0 0]) ∧ i.size = 3 ∧ i.bytes = 48 := ⟨(Try.prog.info? 26).get!, by kernel_rfl, by kernel_rfl, by kernel_rfl, by kernel_rfl⟩
  have hdl := ders_len cl a
  obtain ⟨W3, hW3⟩ : ∃ W3, W3 = ((w.alloc (.cells #[.int .i64 7, .string l, .slice A a.items.length c] 26)).alloc (.cells #[.int .i64 0, .string ⟨#[]⟩, .slice none 0 0] 26)).alloc (.cells #[.int .i64 7, .string ⟨#[]⟩, .slice none 0 0] 26) := ⟨_, rfl⟩
  obtain ⟨t1, t2, t3⟩ := three_new w (.cells #[.int .i64 7, .string l, .slice A a.items.length c] 26) (.cells #[.int .i64 0, .string ⟨#[]⟩, .slice none 0 0] 26) (.cells #[.int .i64 7, .string ⟨#[]⟩, .slice none 0 0] 26)
  have hz3 : W3.heap.size = w.heap.size + 3 := by rw [hW3]; simp
  have hbW : Below w.heap.size w W3 := by rw [hW3]; exact (((Below.refl _ _).alloc (Nat.le_refl _) _).alloc (by simp) _).alloc (by simp; omega) _
  rw [← hW3] at t1 t2 t3
  have HW := Lib.hid (And.intro hbW (And.intro t1 (And.intro t2 t3)))
  have HKID := Lib.hid hkid
  clear t1 t2 t3 hbW hkid
  go_enter Try.func31, Try.ntmps31
  go_wp2_with fail
  rw [← hW3]
  clear hW3
  go_loopw [6] (fun iv wr => ∃ (j : Nat) (pv : Value) (xs : List Value) (K : Nat → Nat → Prop), iv = .int .i64 j ∧ j ≤ a.items.length ∧ wr.heap[w.heap.size + 1 + 1]? = some (.cells #[.int .i64 7, .string ⟨#[]⟩, pv] 26 (0, 0)) ∧ RowT (w.heap.size + 3) wr (2 * n + 1) pv ((ders cl a).take j) xs K ∧ Below (w.heap.size + 1 + 1) W3 wr) (fun iv _ => a.items.length - (intOf iv).toNat)
  case atStart => exact ⟨0, .slice none 0 0, [], _, rfl, Nat.zero_le _, HW.out.2.2.2, RowT.start _ _ _, Below.refl _ _⟩
  case round =>
    obtain ⟨j, pv, xs, K, rfl, hj, hbx, hrow, hb⟩ := hrel
    have HB := Lib.hid hb
    have HR := Lib.hid hrow
    have HBX := Lib.hid hbx
    have hwz : w.heap.size + 3 ≤ wr.heap.size := by have := hb.size; omega
    obtain ⟨b0, b1, b2, -, -, -⟩ := three_at HB.out (by omega) HW.out.2.1
    have hLl : ((ders cl a).take j).length = j := by simp; omega
    have hown := hrow.own
    rw [hLl] at hown
    obtain ⟨Av, cv, hv⟩ := row_shape hown
    subst hv
    obtain ⟨x0, x1, x2, y0, y1, y2⟩ := three_at (Below.refl (w.heap.size + 3) wr) (by omega) hbx
    by_cases hlt : j < a.items.length
    · obtain ⟨x, hx⟩ : ∃ x, a.items[j]? = some x := ⟨_, List.getElem?_eq_getElem hlt⟩
      obtain ⟨g, o, A', m', kid⟩ := HKID.out j x hx
      have hg := kid.lt
      have hA := kid.at_
      subst hA
      obtain ⟨d, hd⟩ : ∃ d, d = nodeD cl x.1 x.2.1 x.2.2 (ders cl x.2.2) := ⟨_, rfl⟩
      have hdx := ders_get (c := cl) (k := x.1) (l := x.2.1) (a := x.2.2) hx
      rw [← hd] at hdx kid
      obtain ⟨c0, c1, c2⟩ := kid.el.below (HW.out.1.trans (hb.mono (show w.heap.size ≤ w.heap.size + 1 + 1 by omega))) hg
      have HK := Lib.hid (kid.der wr.drew (HW.out.1.trans (hb.mono (show w.heap.size ≤ w.heap.size + 1 + 1 by omega))).drew)
      have HR1 := Lib.hid (hrow.below (Below.refl wr.heap.size wr).drew)
      have HX := Lib.hid hdx
      have hld : d.2.1.size ≤ 9223372036854775807 := by rw [kid.ld]; decide
      have hS0 : wr.cell? ⟨w.heap.size + 1 + 1, 2, none⟩ = some (.slice Av j cv) ∧ wr.cell? ⟨w.heap.size, 2, none⟩ = some (.slice (some ⟨g, o, none⟩) a.items.length c) ∧ wr.cell? ⟨g, o + j * 3, none⟩ = some (.int .i64 x.1) ∧ wr.cell? ⟨g, o + j * 3 + 1, none⟩ = some (.string x.2.1) ∧ wr.cell? ⟨g, o + j * 3 + 2, none⟩ = some (.slice A' x.2.2.items.length m') := ⟨x2, b2, c0, c1, c2⟩
      have HKP := Lib.hid (fun (V : World) (h : ∀ q, q < w.heap.size + 3 → V.heap[q]? = wr.heap[q]?) => (⟨(World.cell?_of_block (a := ⟨w.heap.size + 1 + 1, 2, none⟩) (h _ (by show w.heap.size + 1 + 1 < w.heap.size + 3; omega))).trans hS0.1, (World.cell?_of_block (a := ⟨w.heap.size, 2, none⟩) (h _ (by show w.heap.size < w.heap.size + 3; omega))).trans hS0.2.1, (World.cell?_of_block (a := ⟨g, o + j * 3, none⟩) (h _ (by show g < w.heap.size + 3; omega))).trans hS0.2.2.1, (World.cell?_of_block (a := ⟨g, o + j * 3 + 1, none⟩) (h _ (by show g < w.heap.size + 3; omega))).trans hS0.2.2.2.1, (World.cell?_of_block (a := ⟨g, o + j * 3 + 2, none⟩) (h _ (by show g < w.heap.size + 3; omega))).trans hS0.2.2.2.2⟩ :
        V.cell? ⟨w.heap.size + 1 + 1, 2, none⟩ = some (.slice Av j cv) ∧ V.cell? ⟨w.heap.size, 2, none⟩ = some (.slice (some ⟨g, o, none⟩) a.items.length c) ∧ V.cell? ⟨g, o + j * 3, none⟩ = some (.int .i64 x.1) ∧ V.cell? ⟨g, o + j * 3 + 1, none⟩ = some (.string x.2.1) ∧ V.cell? ⟨g, o + j * 3 + 2, none⟩ = some (.slice A' x.2.2.items.length m')))
      clear kid hx hdx hrow hb hbx hown hS0 hd
      go_wp2_with fail
      obtain ⟨k2, k3, k4, k5, k6⟩ := HKP.out wr.drew (fun q _ => rfl)
      go_region_law (first
          | (refine step_append_own_at rfl (.tmp 35) (.tmp 43) 24 rfl (w.heap.size + 3) 26 r0 (.agg #[.int .i64 0, .string ⟨#[]⟩, .slice none 0 0]) 3 48 Try.underlying24 hr0 hrz hrs hrb rfl (by decide) _ _ _ rfl (HOWN.out.alloc _) ⟨w1.heap.size, 0, none⟩ 1 1 _ rfl rfl (new_three w1 _ _ _ _) (by simp [Value.oneCell']) (by unfold maxLen; omega) (by omega) (by simp; omega) ?_; intro v' w3 hown' hgrow hat; obtain ⟨g', cap', rfl⟩ := ownsRow_succ hown'; have hH3 := (fun q (hq : q < w.heap.size + 3) => (hgrow.block q (by simp; omega) (fun e => by have := (HOWN.out.lt q e.symm).1; omega)).trans ((Below.heap_alloc _ _ _ (by omega)).trans (HH1.out q hq))); have z3 := (HKP.out w3 hH3).1; have hbx3 := (hH3 (w.heap.size + 1 + 1) (by omega)).trans HBX.out; have fz3 := frozen_of_row w3 (w.heap.size + 1 + 1) 2 _ _ hbx3; have HG3 := Lib.hid (And.intro hown' (And.intro hgrow (And.intro hat hbx3))); clear hown' hgrow hat hbx3 hH3)
          | (refine step_call rfl _ _ _ rfl enters_l4Derive #[.agg #[.int .i64 x.1, .string x.2.1, .slice A' x.2.2.items.length m'], .string cl] (by simp [Act.eval]) HK.out ?_; rintro e w1 ⟨u1, rfl, hs1, hb1⟩; obtain ⟨A1, m1, rfl⟩ := hs1.shape; have HBB := Lib.hid hb1; have HS1 := Lib.hid hs1; have HH1 := Lib.hid (fun q (hq : q < w.heap.size + 3) => hb1.block q (by show q < wr.heap.size; omega)); have z2 := (HKP.out w1 HH1.out).1; have z4 := (HKP.out (w1.alloc (.cells #[.int .i64 d.1, .string d.2.1, .slice A1 d.2.2.items.length m1] 26)) (fun q hq => (Below.heap_alloc _ _ _ (by have : wr.heap.size ≤ w1.heap.size := hb1.size; omega)).trans (HH1.out q hq))).1; have hz1 : wr.heap.size ≤ w1.heap.size := hb1.size; have HR2 := Lib.hid (HR1.out.below hb1); have hown := HR2.out.own; rw [hLl] at hown; have HOWN := Lib.hid hown; clear hs1 hb1 hown; refine ⟨_, rfl, ?_⟩))
      all_goals
        have HN := Lib.hid ((HR1.out.step (x := d) (by show w.heap.size + 3 ≤ wr.heap.size; omega) HBB.out HS1.out hld (by rw [hLl]; exact HG3.out.1) HG3.out.2.1 (HG3.out.2.2.1.imp (fun h => h) (fun h => by rw [World.size_alloc] at h; exact h))).set_low (p := ⟨w.heap.size + 1 + 1, 2, none⟩) (u := .slice (some ⟨g', 0, none⟩) (j + 1) cap') (by show w.heap.size + 1 + 1 < w.heap.size + 3; omega))
        rw [show (ders cl a).take j ++ [d] = (ders cl a).take (j + 1) by rw [List.take_add_one, HX.out]; rfl] at HN
        have HX3 := Lib.hid (heap_setCell_same w3 (w.heap.size + 1 + 1) 2 _ _ (.slice (some ⟨g', 0, none⟩) (j + 1) cap') HG3.out.2.2.2)
        have HB3 := Lib.hid ((((HB.out.drew.trans (HBB.out.mono (by show w.heap.size + 1 + 1 ≤ wr.heap.size; omega))).alloc (by omega) _).grown HG3.out.2.1 (by simp; omega) (fun g hg => by have := (HOWN.out.lt g hg).1; omega)).setCell (p := ⟨w.heap.size + 1 + 1, 2, none⟩) (Nat.le_refl _) (.slice (some ⟨g', 0, none⟩) (j + 1) cap'))
        clear z2 z4 z3 fz3 k2 k3 k4 k5 k6 x0 x1 x2 y0 y1 y2 b0 b1 b2 c0 c1 c2
        go_wp2_with fail
        go_roundw
        case rel => exact ⟨j + 1, _, _, _, by go_num, by omega, HX3.out, HN.out, HB3.out⟩
        case measure => simp [intOf]; omega
    · obtain rfl : j = a.items.length := by omega
      rw [← hdl, List.take_length] at HR
      obtain ⟨d0, d1, d2, f0, f1, f2⟩ := three_at HB.out (by omega) HW.out.2.2.1
      have HP := Lib.hid (put3 (k := .int .i64 7) (l := .string ⟨#[]⟩) (u := .slice Av a.items.length cv) d0 d1 d2)
      clear hrow hb hbx hown
      go_wp2_with fail
      obtain ⟨⟨e0, e1, e2⟩, hsz4, hot, hBp⟩ := HP.out
      have hT : SlT wr (2 * n + 1 + 1) (OwnB W3 wr) (.slice Av a.items.length cv) (rowOf (ders cl a)) := (hdl ▸ HR.out).tree (fun g hg => by have := HR.out.lt (hdl ▸ hg); exact ⟨by omega, this.2⟩) (by omega)
      refine bodyPost_ret (v := .agg #[.int .i64 7, .string ⟨#[]⟩, .slice Av a.items.length cv]) (by simp [results, Try.results31, go_sem, e0, e1, e2]) rfl ⟨_, rfl, (slt_le hT (by omega)).mono (fun g hg => hot g (by have := hg.1; omega)) (fun g hg => ⟨by have := hg.1; omega, by rw [hsz4]; exact hg.2⟩), hBp _ _ (HW.out.1.trans (HB.out.mono (by omega))) (by omega)⟩

set_option maxRecDepth 100000 in
set_option maxHeartbeats 3200000 in
theorem sder_9 (n : Nat) (l cl : ByteArray) (A : Option Addr) (c : Nat) (a : Fr) (w : World) (hl2 : a.items.length ≤ 2)
    (hkid : ∀ j x, a.items[j]? = some x → ∃ g o A' c', Kid Try.prog 31 56 (2 * n + 1) n cl w A j x (nodeD cl x.1 x.2.1 x.2.2 (ders cl x.2.2)) g o A' c') :
    Calls Try.prog 31 #[.agg #[.int .i64 9, .string l, .slice A a.items.length c], .string cl] w (NdT (2 * n + 3) (9, ⟨#[]⟩, rowOf (ders cl a)) w) := by
  obtain ⟨r0, hr0, hrz, hrs, hrb⟩ : ∃ i : TypeInfo, Try.prog.info? 26 = some i ∧ i.zero = some (.agg #[.int .i64 0, .string ⟨#[]⟩, .slice none 0 0]) ∧ i.size = 3 ∧ i.bytes = 48 := ⟨(Try.prog.info? 26).get!, by kernel_rfl, by kernel_rfl, by kernel_rfl, by kernel_rfl⟩
  have hdl := ders_len cl a
  obtain ⟨W3, hW3⟩ : ∃ W3, W3 = ((w.alloc (.cells #[.int .i64 9, .string l, .slice A a.items.length c] 26)).alloc (.cells #[.int .i64 0, .string ⟨#[]⟩, .slice none 0 0] 26)).alloc (.cells #[.int .i64 9, .string ⟨#[]⟩, .slice none 0 0] 26) := ⟨_, rfl⟩
  obtain ⟨t1, t2, t3⟩ := three_new w (.cells #[.int .i64 9, .string l, .slice A a.items.length c] 26) (.cells #[.int .i64 0, .string ⟨#[]⟩, .slice none 0 0] 26) (.cells #[.int .i64 9, .string ⟨#[]⟩, .slice none 0 0] 26)
  have hz3 : W3.heap.size = w.heap.size + 3 := by rw [hW3]; simp
  have hbW : Below w.heap.size w W3 := by rw [hW3]; exact (((Below.refl _ _).alloc (Nat.le_refl _) _).alloc (by simp) _).alloc (by simp; omega) _
  rw [← hW3] at t1 t2 t3
  have HW := Lib.hid (And.intro hbW (And.intro t1 (And.intro t2 t3)))
  have HKID := Lib.hid hkid
  clear t1 t2 t3 hbW hkid
  go_enter Try.func31, Try.ntmps31
  go_wp2_with fail
  rw [← hW3]
  clear hW3
  go_loopw [6] (fun iv wr => ∃ (j : Nat) (pv : Value) (xs : List Value) (K : Nat → Nat → Prop), iv = .int .i64 j ∧ j ≤ a.items.length ∧ wr.heap[w.heap.size + 1 + 1]? = some (.cells #[.int .i64 9, .string ⟨#[]⟩, pv] 26 (0, 0)) ∧ RowT (w.heap.size + 3) wr (2 * n + 1) pv ((ders cl a).take j) xs K ∧ Below (w.heap.size + 1 + 1) W3 wr) (fun iv _ => a.items.length - (intOf iv).toNat)
  case atStart => exact ⟨0, .slice none 0 0, [], _, rfl, Nat.zero_le _, HW.out.2.2.2, RowT.start _ _ _, Below.refl _ _⟩
  case round =>
    obtain ⟨j, pv, xs, K, rfl, hj, hbx, hrow, hb⟩ := hrel
    have HB := Lib.hid hb
    have HR := Lib.hid hrow
    have HBX := Lib.hid hbx
    have hwz : w.heap.size + 3 ≤ wr.heap.size := by have := hb.size; omega
    obtain ⟨b0, b1, b2, -, -, -⟩ := three_at HB.out (by omega) HW.out.2.1
    have hLl : ((ders cl a).take j).length = j := by simp; omega
    have hown := hrow.own
    rw [hLl] at hown
    obtain ⟨Av, cv, hv⟩ := row_shape hown
    subst hv
    obtain ⟨x0, x1, x2, y0, y1, y2⟩ := three_at (Below.refl (w.heap.size + 3) wr) (by omega) hbx
    by_cases hlt : j < a.items.length
    · obtain ⟨x, hx⟩ : ∃ x, a.items[j]? = some x := ⟨_, List.getElem?_eq_getElem hlt⟩
      obtain ⟨g, o, A', m', kid⟩ := HKID.out j x hx
      have hg := kid.lt
      have hA := kid.at_
      subst hA
      obtain ⟨d, hd⟩ : ∃ d, d = nodeD cl x.1 x.2.1 x.2.2 (ders cl x.2.2) := ⟨_, rfl⟩
      have hdx := ders_get (c := cl) (k := x.1) (l := x.2.1) (a := x.2.2) hx
      rw [← hd] at hdx kid
      obtain ⟨c0, c1, c2⟩ := kid.el.below (HW.out.1.trans (hb.mono (show w.heap.size ≤ w.heap.size + 1 + 1 by omega))) hg
      have HK := Lib.hid (kid.der wr.drew (HW.out.1.trans (hb.mono (show w.heap.size ≤ w.heap.size + 1 + 1 by omega))).drew)
      have HR1 := Lib.hid (hrow.below (Below.refl wr.heap.size wr).drew)
      have HX := Lib.hid hdx
      have hld : d.2.1.size ≤ 9223372036854775807 := by rw [kid.ld]; decide
      have hS0 : wr.cell? ⟨w.heap.size + 1 + 1, 2, none⟩ = some (.slice Av j cv) ∧ wr.cell? ⟨w.heap.size, 2, none⟩ = some (.slice (some ⟨g, o, none⟩) a.items.length c) ∧ wr.cell? ⟨g, o + j * 3, none⟩ = some (.int .i64 x.1) ∧ wr.cell? ⟨g, o + j * 3 + 1, none⟩ = some (.string x.2.1) ∧ wr.cell? ⟨g, o + j * 3 + 2, none⟩ = some (.slice A' x.2.2.items.length m') := ⟨x2, b2, c0, c1, c2⟩
      have HKP := Lib.hid (fun (V : World) (h : ∀ q, q < w.heap.size + 3 → V.heap[q]? = wr.heap[q]?) => (⟨(World.cell?_of_block (a := ⟨w.heap.size + 1 + 1, 2, none⟩) (h _ (by show w.heap.size + 1 + 1 < w.heap.size + 3; omega))).trans hS0.1, (World.cell?_of_block (a := ⟨w.heap.size, 2, none⟩) (h _ (by show w.heap.size < w.heap.size + 3; omega))).trans hS0.2.1, (World.cell?_of_block (a := ⟨g, o + j * 3, none⟩) (h _ (by show g < w.heap.size + 3; omega))).trans hS0.2.2.1, (World.cell?_of_block (a := ⟨g, o + j * 3 + 1, none⟩) (h _ (by show g < w.heap.size + 3; omega))).trans hS0.2.2.2.1, (World.cell?_of_block (a := ⟨g, o + j * 3 + 2, none⟩) (h _ (by show g < w.heap.size + 3; omega))).trans hS0.2.2.2.2⟩ :
        V.cell? ⟨w.heap.size + 1 + 1, 2, none⟩ = some (.slice Av j cv) ∧ V.cell? ⟨w.heap.size, 2, none⟩ = some (.slice (some ⟨g, o, none⟩) a.items.length c) ∧ V.cell? ⟨g, o + j * 3, none⟩ = some (.int .i64 x.1) ∧ V.cell? ⟨g, o + j * 3 + 1, none⟩ = some (.string x.2.1) ∧ V.cell? ⟨g, o + j * 3 + 2, none⟩ = some (.slice A' x.2.2.items.length m')))
      clear kid hx hdx hrow hb hbx hown hS0 hd
      go_wp2_with fail
      obtain ⟨k2, k3, k4, k5, k6⟩ := HKP.out wr.drew (fun q _ => rfl)
      go_region_law (first
          | (refine step_append_own_at rfl (.tmp 35) (.tmp 43) 24 rfl (w.heap.size + 3) 26 r0 (.agg #[.int .i64 0, .string ⟨#[]⟩, .slice none 0 0]) 3 48 Try.underlying24 hr0 hrz hrs hrb rfl (by decide) _ _ _ rfl (HOWN.out.alloc _) ⟨w1.heap.size, 0, none⟩ 1 1 _ rfl rfl (new_three w1 _ _ _ _) (by simp [Value.oneCell']) (by unfold maxLen; omega) (by omega) (by simp; omega) ?_; intro v' w3 hown' hgrow hat; obtain ⟨g', cap', rfl⟩ := ownsRow_succ hown'; have hH3 := (fun q (hq : q < w.heap.size + 3) => (hgrow.block q (by simp; omega) (fun e => by have := (HOWN.out.lt q e.symm).1; omega)).trans ((Below.heap_alloc _ _ _ (by omega)).trans (HH1.out q hq))); have z3 := (HKP.out w3 hH3).1; have hbx3 := (hH3 (w.heap.size + 1 + 1) (by omega)).trans HBX.out; have fz3 := frozen_of_row w3 (w.heap.size + 1 + 1) 2 _ _ hbx3; have HG3 := Lib.hid (And.intro hown' (And.intro hgrow (And.intro hat hbx3))); clear hown' hgrow hat hbx3 hH3)
          | (refine step_call rfl _ _ _ rfl enters_l4Derive #[.agg #[.int .i64 x.1, .string x.2.1, .slice A' x.2.2.items.length m'], .string cl] (by simp [Act.eval]) HK.out ?_; rintro e w1 ⟨u1, rfl, hs1, hb1⟩; obtain ⟨A1, m1, rfl⟩ := hs1.shape; have HBB := Lib.hid hb1; have HS1 := Lib.hid hs1; have HH1 := Lib.hid (fun q (hq : q < w.heap.size + 3) => hb1.block q (by show q < wr.heap.size; omega)); have z2 := (HKP.out w1 HH1.out).1; have z4 := (HKP.out (w1.alloc (.cells #[.int .i64 d.1, .string d.2.1, .slice A1 d.2.2.items.length m1] 26)) (fun q hq => (Below.heap_alloc _ _ _ (by have : wr.heap.size ≤ w1.heap.size := hb1.size; omega)).trans (HH1.out q hq))).1; have hz1 : wr.heap.size ≤ w1.heap.size := hb1.size; have HR2 := Lib.hid (HR1.out.below hb1); have hown := HR2.out.own; rw [hLl] at hown; have HOWN := Lib.hid hown; clear hs1 hb1 hown; refine ⟨_, rfl, ?_⟩))
      all_goals
        have HN := Lib.hid ((HR1.out.step (x := d) (by show w.heap.size + 3 ≤ wr.heap.size; omega) HBB.out HS1.out hld (by rw [hLl]; exact HG3.out.1) HG3.out.2.1 (HG3.out.2.2.1.imp (fun h => h) (fun h => by rw [World.size_alloc] at h; exact h))).set_low (p := ⟨w.heap.size + 1 + 1, 2, none⟩) (u := .slice (some ⟨g', 0, none⟩) (j + 1) cap') (by show w.heap.size + 1 + 1 < w.heap.size + 3; omega))
        rw [show (ders cl a).take j ++ [d] = (ders cl a).take (j + 1) by rw [List.take_add_one, HX.out]; rfl] at HN
        have HX3 := Lib.hid (heap_setCell_same w3 (w.heap.size + 1 + 1) 2 _ _ (.slice (some ⟨g', 0, none⟩) (j + 1) cap') HG3.out.2.2.2)
        have HB3 := Lib.hid ((((HB.out.drew.trans (HBB.out.mono (by show w.heap.size + 1 + 1 ≤ wr.heap.size; omega))).alloc (by omega) _).grown HG3.out.2.1 (by simp; omega) (fun g hg => by have := (HOWN.out.lt g hg).1; omega)).setCell (p := ⟨w.heap.size + 1 + 1, 2, none⟩) (Nat.le_refl _) (.slice (some ⟨g', 0, none⟩) (j + 1) cap'))
        clear z2 z4 z3 fz3 k2 k3 k4 k5 k6 x0 x1 x2 y0 y1 y2 b0 b1 b2 c0 c1 c2
        go_wp2_with fail
        go_roundw
        case rel => exact ⟨j + 1, _, _, _, by go_num, by omega, HX3.out, HN.out, HB3.out⟩
        case measure => simp [intOf]; omega
    · obtain rfl : j = a.items.length := by omega
      rw [← hdl, List.take_length] at HR
      obtain ⟨d0, d1, d2, f0, f1, f2⟩ := three_at HB.out (by omega) HW.out.2.2.1
      have HP := Lib.hid (put3 (k := .int .i64 9) (l := .string ⟨#[]⟩) (u := .slice Av a.items.length cv) d0 d1 d2)
      clear hrow hb hbx hown
      go_wp2_with fail
      obtain ⟨⟨e0, e1, e2⟩, hsz4, hot, hBp⟩ := HP.out
      have hT : SlT wr (2 * n + 1 + 1) (OwnB W3 wr) (.slice Av a.items.length cv) (rowOf (ders cl a)) := (hdl ▸ HR.out).tree (fun g hg => by have := HR.out.lt (hdl ▸ hg); exact ⟨by omega, this.2⟩) (by omega)
      refine bodyPost_ret (v := .agg #[.int .i64 9, .string ⟨#[]⟩, .slice Av a.items.length cv]) (by simp [results, Try.results31, go_sem, e0, e1, e2]) rfl ⟨_, rfl, (slt_le hT (by omega)).mono (fun g hg => hot g (by have := hg.1; omega)) (fun g hg => ⟨by have := hg.1; omega, by rw [hsz4]; exact hg.2⟩), hBp _ _ (HW.out.1.trans (HB.out.mono (by omega))) (by omega)⟩

end Go.Proofs.Ytichpiklgkahbaa

namespace Go.Proofs.Ytichpiklgkahbaa
open Go.RowKit

set_option maxRecDepth 100000 in
set_option maxHeartbeats 3200000 in
theorem sder_8 (n : Nat) (l cl : ByteArray) (A : Option Addr) (c : Nat) (a : Fr) (w : World) (hll : l.size ≤ 9223372036854775807) (x d : Nx) (g o : Nat) (A' : Option Addr) (c' : Nat) (hk : Kid Try.prog 31 56 (2 * n + 1) n cl w A 0 x d g o A' c')
    (hcop : ∀ W, Below w.heap.size w W → Calls Try.prog 56 #[.agg #[.int .i64 8, .string l, .slice A 1 c]] W (NdT (n + 1) (8, l, a) W)) :
    Calls Try.prog 31 #[.agg #[.int .i64 8, .string l, .slice A 1 c], .string cl] w (NdT (2 * n + 3) (twoX 5 d (8, l, a)) w) := by
  obtain rfl := hk.at_
  obtain ⟨W2, hW2⟩ : ∃ W2, W2 = (w.alloc (.cells #[.int .i64 8, .string l, .slice (some ⟨g, o, none⟩) 1 c] 26)).alloc (.cells #[.int .i64 0, .string ⟨#[]⟩, .slice none 0 0] 26) := ⟨_, rfl⟩
  obtain ⟨t1, t2⟩ := two_new w (.cells #[.int .i64 8, .string l, .slice (some ⟨g, o, none⟩) 1 c] 26) (.cells #[.int .i64 0, .string ⟨#[]⟩, .slice none 0 0] 26)
  have hz2 : W2.heap.size = w.heap.size + 2 := by rw [hW2]; simp
  have hbW : Below w.heap.size w W2 := by rw [hW2]; exact ((Below.refl _ _).alloc (Nat.le_refl _) _).alloc (by simp) _
  rw [← hW2] at t1 t2
  have HB0 := Lib.hid hbW
  have HR := Lib.hid t2
  have he : ElAt w g o x.1 x.2.1 (.slice A' x.2.2.items.length c') := by simpa using hk.el
  have hg := hk.lt
  have hld : d.2.1.size ≤ 9223372036854775807 := by rw [hk.ld]; decide
  have HD := Lib.hid hk.der
  have HC := Lib.hid hcop
  have HK := Lib.hid (fun (V : World) (h : ChgR (w.heap.size + 1) W2 V) => (⟨(h.cell (p := ⟨w.heap.size, 0, none⟩) (by show w.heap.size < W2.heap.size; omega) (by show w.heap.size ≠ w.heap.size + 1; omega)).trans ((cell_of_row W2 _ 0 _ _ (0, 0) t1).trans rfl), (h.cell (p := ⟨w.heap.size, 1, none⟩) (by show w.heap.size < W2.heap.size; omega) (by show w.heap.size ≠ w.heap.size + 1; omega)).trans ((cell_of_row W2 _ 1 _ _ (0, 0) t1).trans rfl), (h.cell (p := ⟨w.heap.size, 2, none⟩) (by show w.heap.size < W2.heap.size; omega) (by show w.heap.size ≠ w.heap.size + 1; omega)).trans ((cell_of_row W2 _ 2 _ _ (0, 0) t1).trans rfl),
      (h.cell (p := ⟨g, o, none⟩) (by show g < W2.heap.size; omega) (by show g ≠ w.heap.size + 1; omega)).trans (he.below hbW hg).1, (h.cell (p := ⟨g, o + 1, none⟩) (by show g < W2.heap.size; omega) (by show g ≠ w.heap.size + 1; omega)).trans (he.below hbW hg).2.1, (h.cell (p := ⟨g, o + 2, none⟩) (by show g < W2.heap.size; omega) (by show g ≠ w.heap.size + 1; omega)).trans (he.below hbW hg).2.2⟩ :
    V.cell? ⟨w.heap.size, 0, none⟩ = some (.int .i64 8) ∧ V.cell? ⟨w.heap.size, 1, none⟩ = some (.string l) ∧ V.cell? ⟨w.heap.size, 2, none⟩ = some (.slice (some ⟨g, o, none⟩) 1 c) ∧ V.cell? ⟨g, o, none⟩ = some (.int .i64 x.1) ∧ V.cell? ⟨g, o + 1, none⟩ = some (.string x.2.1) ∧ V.cell? ⟨g, o + 2, none⟩ = some (.slice A' x.2.2.items.length c')))
  have hbw : Below W2.heap.size W2 W2 := Below.refl _ _
  clear hk hcop he t1 t2 hbW
  go_enter Try.func31, Try.ntmps31
  go_wp2_with fail
  rw [← hW2]
  clear hW2
  go_region_held3 (fun V => V.cell? ⟨w.heap.size, 0, none⟩ = some (.int .i64 8) ∧ V.cell? ⟨w.heap.size, 1, none⟩ = some (.string l) ∧ V.cell? ⟨w.heap.size, 2, none⟩ = some (.slice (some ⟨g, o, none⟩) 1 c) ∧ V.cell? ⟨g, o, none⟩ = some (.int .i64 x.1) ∧ V.cell? ⟨g, o + 1, none⟩ = some (.string x.2.1) ∧ V.cell? ⟨g, o + 2, none⟩ = some (.slice A' x.2.2.items.length c'))
    (first | exact HK.out _ (chg_of hbw.drew) | exact HK.out _ (chg_of hbw) | exact HK.out _ ((chg_of hbw).alloc _) | exact HK.out _ (chg_set3 ((chg_of hbw).alloc _) _ _ _) | go_keep)
    (first | (go_at_call 31; (with_reducible refine (HD.out _ ?_).mono ?_); (first | exact HB0.out.trans (hbw.drew.mono HB0.out.size) | exact HB0.out.trans (hbw.mono HB0.out.size)); rintro e wa ⟨ua, rfl, hsa, hba⟩; obtain ⟨Aa, ma, rfl⟩ := hsa.shape; (first | have hbw := hbw.drew.trans (hba.mono hbw.drew.size) | have hbw := hbw.trans (hba.mono hbw.size)); obtain ⟨z0, z1, z2, z3, z4, z5⟩ := three_past hbw HR.out) | (go_at_call 56; (with_reducible refine (HC.out _ ?_).mono ?_); (first | exact HB0.out.trans (hbw.drew.mono HB0.out.size) | exact HB0.out.trans (hbw.mono HB0.out.size)); rintro e wb ⟨ub, rfl, hsb, hbb⟩; obtain ⟨Ab, mb, rfl⟩ := hsb.shape; (first | have hbw := hbw.drew.trans (hbb.mono hbw.drew.size) | have hbw := hbw.trans (hbb.mono hbw.size)); obtain ⟨z0, z1, z2, z3, z4, z5⟩ := three_past hbw HR.out))
  all_goals
    first
    | (have HF := Lib.hid (two_fin (k := 5) (x := d) (y := (8, l, a)) (T := 26) (m := 2 * n + 1) (S1 := OwnB W2.drew wa) (S2 := OwnB wa wb) 2 HB0.out (show w.heap.size ≤ w.heap.size + 1 by omega) HR.out hbw (slt_le (hsa.mono (fun g hg => hbb.block g hg.2) (fun _ h => h)) (by omega)) (slt_le hsb (by omega)) (fun g hg => ⟨hg.1, by have := hg.2; have := hbb.size; omega⟩) (fun g hg => ⟨by have := hg.1; have : W2.heap.size ≤ wa.heap.size := hba.size; omega, hg.2⟩) (fun g h1 h2 => by have := h1.2; have := h2.1; omega) hld hll)
       clear z0 z1 z2 z3 z4 z5
       go_wp2_with fail
       obtain ⟨⟨e0, e1, e2⟩, hT, hB⟩ := HF.out
       exact bodyPost_ret (v := .agg #[.int .i64 5, .string ⟨#[]⟩, .slice (some ⟨wb.heap.size, 0, none⟩) 2 2]) (by simp [results, Try.results31, go_sem, e0, e1, e2]) rfl ⟨_, rfl, slt_le hT (by omega), hB⟩)
    | (have HF := Lib.hid (two_fin (k := 5) (x := d) (y := (8, l, a)) (T := 26) (m := 2 * n + 1) (S1 := OwnB wb wa) (S2 := OwnB W2.drew wb) 2 HB0.out (show w.heap.size ≤ w.heap.size + 1 by omega) HR.out hbw (slt_le hsa (by omega)) (slt_le (hsb.mono (fun g hg => hba.block g hg.2) (fun _ h => h)) (by omega)) (fun g hg => ⟨by have := hg.1; have : W2.heap.size ≤ wb.heap.size := hbb.size; omega, hg.2⟩) (fun g hg => ⟨hg.1, by have := hg.2; have := hba.size; omega⟩) (fun g h1 h2 => by have := h2.2; have := h1.1; omega) hld hll)
       clear z0 z1 z2 z3 z4 z5
       go_wp2_with fail
       obtain ⟨⟨e0, e1, e2⟩, hT, hB⟩ := HF.out
       exact bodyPost_ret (v := .agg #[.int .i64 5, .string ⟨#[]⟩, .slice (some ⟨wa.heap.size, 0, none⟩) 2 2]) (by simp [results, Try.results31, go_sem, e0, e1, e2]) rfl ⟨_, rfl, slt_le hT (by omega), hB⟩)

end Go.Proofs.Ytichpiklgkahbaa

namespace Go.Proofs.Ytichpiklgkahbaa
open Go.RowKit

set_option maxRecDepth 100000 in
set_option maxHeartbeats 3200000 in
theorem sder_5_yes (n : Nat) (l cl : ByteArray) (A : Option Addr) (c : Nat) (w : World) (x0 d0 x1 d1 : Nx) (g o : Nat) (A0 A1 : Option Addr) (c0 c1 : Nat) (hk0 : Kid Try.prog 31 56 (2 * n + 1) n cl w A 0 x0 d0 g o A0 c0) (hk1 : Kid Try.prog 31 56 (2 * n + 1) n cl w A 1 x1 d1 g o A1 c1)
    (hnul : ∀ W, Below w.heap.size w W → Calls Try.prog 38 #[.agg #[.int .i64 x0.1, .string x0.2.1, .slice A0 x0.2.2.items.length c0], .string ⟨#[]⟩] W (fun e w' => e = .returned (.bool true) ∧ Below W.heap.size W w')) :
    Calls Try.prog 31 #[.agg #[.int .i64 5, .string l, .slice A 2 c], .string cl] w (NdT (2 * n + 3) (twoX 6 (twoX 5 d0 x1) d1) w) := by
  obtain rfl := hk0.at_
  obtain ⟨W2, hW2⟩ : ∃ W2, W2 = (w.alloc (.cells #[.int .i64 5, .string l, .slice (some ⟨g, o, none⟩) 2 c] 26)).alloc (.cells #[.int .i64 0, .string ⟨#[]⟩, .slice none 0 0] 26) := ⟨_, rfl⟩
  obtain ⟨t1, t2⟩ := two_new w (.cells #[.int .i64 5, .string l, .slice (some ⟨g, o, none⟩) 2 c] 26) (.cells #[.int .i64 0, .string ⟨#[]⟩, .slice none 0 0] 26)
  have hz2 : W2.heap.size = w.heap.size + 2 := by rw [hW2]; simp
  have hbW : Below w.heap.size w W2 := by rw [hW2]; exact ((Below.refl _ _).alloc (Nat.le_refl _) _).alloc (by simp) _
  rw [← hW2] at t1 t2
  have HB0 := Lib.hid hbW
  have HR := Lib.hid t2
  have he : ElAt w g o x0.1 x0.2.1 (.slice A0 x0.2.2.items.length c0) := by simpa using hk0.el
  have he1 : ElAt w g (o + 3) x1.1 x1.2.1 (.slice A1 x1.2.2.items.length c1) := by simpa using hk1.el
  have hg := hk0.lt
  have hl0 : d0.2.1.size ≤ 9223372036854775807 := by rw [hk0.ld]; decide
  have hl1 : d1.2.1.size ≤ 9223372036854775807 := by rw [hk1.ld]; decide
  have hx1 := hk1.lx
  have HD := Lib.hid hk0.der
  have HD1 := Lib.hid hk1.der
  have HC := Lib.hid hk1.cop
  have HN := Lib.hid hnul
  have HK := Lib.hid (fun (V : World) (h : ChgR (w.heap.size + 1) W2 V) => (⟨(h.cell (p := ⟨w.heap.size, 2, none⟩) (by show w.heap.size < W2.heap.size; omega) (by show w.heap.size ≠ w.heap.size + 1; omega)).trans ((cell_of_row W2 _ 2 _ _ (0, 0) t1).trans rfl),
      (h.cell (p := ⟨g, o, none⟩) (by show g < W2.heap.size; omega) (by show g ≠ w.heap.size + 1; omega)).trans (he.below hbW hg).1, (h.cell (p := ⟨g, o + 1, none⟩) (by show g < W2.heap.size; omega) (by show g ≠ w.heap.size + 1; omega)).trans (he.below hbW hg).2.1, (h.cell (p := ⟨g, o + 2, none⟩) (by show g < W2.heap.size; omega) (by show g ≠ w.heap.size + 1; omega)).trans (he.below hbW hg).2.2, (h.cell (p := ⟨g, o + 3, none⟩) (by show g < W2.heap.size; omega) (by show g ≠ w.heap.size + 1; omega)).trans (he1.below hbW hg).1, (h.cell (p := ⟨g, o + 3 + 1, none⟩) (by show g < W2.heap.size; omega) (by show g ≠ w.heap.size + 1; omega)).trans (he1.below hbW hg).2.1, (h.cell (p := ⟨g, o + 3 + 2, none⟩) (by show g < W2.heap.size; omega) (by show g ≠ w.heap.size + 1; omega)).trans (he1.below hbW hg).2.2⟩ :
    V.cell? ⟨w.heap.size, 2, none⟩ = some (.slice (some ⟨g, o, none⟩) 2 c) ∧ V.cell? ⟨g, o, none⟩ = some (.int .i64 x0.1) ∧ V.cell? ⟨g, o + 1, none⟩ = some (.string x0.2.1) ∧ V.cell? ⟨g, o + 2, none⟩ = some (.slice A0 x0.2.2.items.length c0) ∧ V.cell? ⟨g, o + 3, none⟩ = some (.int .i64 x1.1) ∧ V.cell? ⟨g, o + 3 + 1, none⟩ = some (.string x1.2.1) ∧ V.cell? ⟨g, o + 3 + 2, none⟩ = some (.slice A1 x1.2.2.items.length c1)))
  have HKB := Lib.hid (fun (V : World) (h : Below W2.heap.size W2 V) => HK.out V (chg_of h))
  have hst := Mid.start W2 (2 * n + 1) d0.2.2 x1.2.2
  obtain ⟨k2, -⟩ := HK.out W2 (Chg.refl _ _)
  obtain ⟨kk0, -, -, -, -, -⟩ := three_at (Below.refl (w.heap.size + 2) W2) (by omega) t1
  clear hk0 hk1 hnul he he1 t1 t2 hbW
  rw [hW2] at kk0 k2
  go_enter Try.func31, Try.ntmps31
  go_upto_region 19 with fail
  rw [← hW2]
  clear hW2 kk0 k2
  go_cut [7] from 61 (fun v7 wc => ∃ (b A2 : Nat), v7 = .pointer (some ⟨b, 0, none⟩) ∧ MidEnd W2 (2 * n + 1) 5 d0 x1 b A2 2 wc)
  case first =>
    clear hz2
    go_region_held3 (fun V => V.cell? ⟨w.heap.size, 2, none⟩ = some (.slice (some ⟨g, o, none⟩) 2 c) ∧ V.cell? ⟨g, o, none⟩ = some (.int .i64 x0.1) ∧ V.cell? ⟨g, o + 1, none⟩ = some (.string x0.2.1) ∧ V.cell? ⟨g, o + 2, none⟩ = some (.slice A0 x0.2.2.items.length c0) ∧ V.cell? ⟨g, o + 3, none⟩ = some (.int .i64 x1.1) ∧ V.cell? ⟨g, o + 3 + 1, none⟩ = some (.string x1.2.1) ∧ V.cell? ⟨g, o + 3 + 2, none⟩ = some (.slice A1 x1.2.2.items.length c1))
      (first | exact HKB.out _ hst.below | exact HKB.out _ hst.alloc.below | exact HKB.out _ (hst.below.alloc hst.below.size _) | exact HKB.out _ (hst.alloc.below.alloc hst.alloc.below.size _) | exact HKB.out _ (bel_set3 (hst.below.alloc hst.below.size _) hst.ge _ _ _) | exact HKB.out _ (bel_set3 (hst.alloc.below.alloc hst.alloc.below.size _) hst.alloc.ge _ _ _) | exact HKB.out _ ((hst.below.alloc hst.below.size _).alloc (hst.below.alloc hst.below.size _).size _) | exact HKB.out _ (bel_set3 ((hst.below.alloc hst.below.size _).alloc (hst.below.alloc hst.below.size _).size _) (Nat.le_succ_of_le hst.below.size) _ _ _) | go_keep)
      (first | (go_at_call 31; (with_reducible refine (HD.out _ ?_).mono ?_); (first | exact HB0.out.trans (hst.below.mono HB0.out.size) | exact HB0.out.trans (hst.alloc.below.mono HB0.out.size)); rintro e wa ⟨ua, rfl, hsa, hba⟩; obtain ⟨Aa, ma, rfl⟩ := hsa.shape; (first | have hst := hst.call1 (slt_le hsa (by omega)) hba | have hst := hst.allocD.call1 (slt_le hsa (by omega)) hba | have hst := hst.alloc.call1 (slt_le hsa (by omega)) hba); (first | obtain ⟨z0, z1, z2, z3, z4, z5⟩ := hst.past | obtain ⟨z0, z1, z2, z3, z4, z5⟩ := hst.alloc.past); obtain ⟨y0, y1, y2, y3, y4, y5⟩ := new_past wa) | (go_at_call 56; (with_reducible refine (HC.out _ ?_).mono ?_); (first | exact HB0.out.trans (hst.below.mono HB0.out.size) | exact HB0.out.trans (hst.alloc.below.mono HB0.out.size)); rintro e wb ⟨ub, rfl, hsb, hbb⟩; obtain ⟨Ab, mb, rfl⟩ := hsb.shape; (first | have hst := hst.call2 (slt_le hsb (by omega)) hbb | have hst := hst.allocD.call2 (slt_le hsb (by omega)) hbb | have hst := hst.alloc.call2 (slt_le hsb (by omega)) hbb); (first | obtain ⟨z0, z1, z2, z3, z4, z5⟩ := hst.past | obtain ⟨z0, z1, z2, z3, z4, z5⟩ := hst.alloc.past); obtain ⟨y0, y1, y2, y3, y4, y5⟩ := new_past wb))
    all_goals
      clear z0 z1 z2 z3 z4 z5 y0 y1 y2 y3 y4 y5
      go_wp2_with fail
      go_meet
    · exact ⟨_, _, rfl, hst.new 2 hl0 hx1⟩
    · exact ⟨_, _, rfl, hst.pre 2 hl0 hx1⟩
    · exact ⟨_, _, rfl, hst.set 2 hl0 hx1⟩
    · exact ⟨_, _, rfl, hst.set 2 hl0 hx1⟩
  case rest =>
    obtain ⟨b, A2, rfl, hbx, hbl, hT, hb7⟩ := hcut
    clear hst
    obtain ⟨k0, k1, k2, k3, -, -, -⟩ := HK.out wc (chg_of hb7)
    have HB7 := Lib.hid hb7
    have HT7 := Lib.hid (And.intro hbx (And.intro hbl hT))
    clear hbx hbl hT hb7
    go_wp2_with fail
    refine (HN.out _ (HB0.out.trans (HB7.out.mono HB0.out.size))).mono ?_
    rintro e w3 ⟨rfl, hb3⟩
    have hbb : b < wc.heap.size := lt_of_blk HT7.out.1
    have hbl := HT7.out.2.1
    have hz3 := hb3.size
    have HB3 := Lib.hid (HB7.out.trans (hb3.mono HB7.out.size))
    have hbx3 := (hb3.block b hbb).trans HT7.out.1
    have HT3 := Lib.hid (HT7.out.2.2.mono (w' := w3) (fun g hg => hb3.block g hg.2.1) (fun _ h => h))
    have hR3 := (HB3.out.block _ (lt_of_blk HR.out)).trans HR.out
    have HR3 := Lib.hid hR3
    obtain ⟨p0, p1, p2, -, -, -⟩ := three_at (Below.refl w3.heap.size w3) (by omega) hbx3
    have HK3 := Lib.hid (fun (V : World) (h : ChgR (w.heap.size + 1) w3 V) => (⟨(h.cell (p := ⟨b, 0, none⟩) (by show b < w3.heap.size; omega) (by show b ≠ w.heap.size + 1; omega)).trans p0, (h.cell (p := ⟨b, 1, none⟩) (by show b < w3.heap.size; omega) (by show b ≠ w.heap.size + 1; omega)).trans p1, (h.cell (p := ⟨b, 2, none⟩) (by show b < w3.heap.size; omega) (by show b ≠ w.heap.size + 1; omega)).trans p2, by
      have h' := HK.out V ((chg_of HB3.out).trans h)
      exact ⟨h'.1, h'.2.2.2.2.1, h'.2.2.2.2.2.1, h'.2.2.2.2.2.2⟩⟩ :
      V.cell? ⟨b, 0, none⟩ = some (.int .i64 5) ∧ V.cell? ⟨b, 1, none⟩ = some (.string ⟨#[]⟩) ∧ V.cell? ⟨b, 2, none⟩ = some (.slice (some ⟨A2, 0, none⟩) 2 2) ∧ V.cell? ⟨w.heap.size, 2, none⟩ = some (.slice (some ⟨g, o, none⟩) 2 c) ∧ V.cell? ⟨g, o + 3, none⟩ = some (.int .i64 x1.1) ∧ V.cell? ⟨g, o + 3 + 1, none⟩ = some (.string x1.2.1) ∧ V.cell? ⟨g, o + 3 + 2, none⟩ = some (.slice A1 x1.2.2.items.length c1)))
    have hbw : Below w3.heap.size w3 w3 := Below.refl _ _
    clear hb3 hbx3 hR3 k0 k1 k2 k3
    go_upto_region 21 with fail
    clear p0 p1 p2
    go_region_held3 (fun V => V.cell? ⟨b, 0, none⟩ = some (.int .i64 5) ∧ V.cell? ⟨b, 1, none⟩ = some (.string ⟨#[]⟩) ∧ V.cell? ⟨b, 2, none⟩ = some (.slice (some ⟨A2, 0, none⟩) 2 2) ∧ V.cell? ⟨w.heap.size, 2, none⟩ = some (.slice (some ⟨g, o, none⟩) 2 c) ∧ V.cell? ⟨g, o + 3, none⟩ = some (.int .i64 x1.1) ∧ V.cell? ⟨g, o + 3 + 1, none⟩ = some (.string x1.2.1) ∧ V.cell? ⟨g, o + 3 + 2, none⟩ = some (.slice A1 x1.2.2.items.length c1))
      (first | exact HK3.out _ (chg_of hbw.drew) | exact HK3.out _ (chg_of hbw) | exact HK3.out _ ((chg_of hbw).alloc _) | exact HK3.out _ (chg_set3 ((chg_of hbw).alloc _) _ _ _) | go_keep)
      (first | (go_at_call 31; (with_reducible refine (HD1.out _ ?_).mono ?_); (first | exact HB0.out.trans ((HB3.out.trans (hbw.drew.mono HB3.out.size)).mono HB0.out.size) | exact HB0.out.trans ((HB3.out.trans (hbw.mono HB3.out.size)).mono HB0.out.size)); rintro e wa ⟨ua, rfl, hsa, hba⟩; obtain ⟨Aa, ma, rfl⟩ := hsa.shape; (first | have hbw := hbw.drew.trans (hba.mono hbw.drew.size) | have hbw := hbw.trans (hba.mono hbw.size)); obtain ⟨z0, z1, z2, z3, z4, z5⟩ := three_past hbw HR3.out))
    all_goals
      have HF := Lib.hid (two_fin (k := 6) (x := ((5 : Int), (⟨#[]⟩ : ByteArray), (twoX 5 d0 x1).2.2)) (y := d1) (T := 26) (m := 2 * n + 1 + 1) (S1 := fun g => W2.heap.size ≤ g ∧ g < wc.heap.size ∧ g ≠ b) (S2 := OwnB w3.drew wa) 2 HB0.out (show w.heap.size ≤ w.heap.size + 1 by omega) HR.out (HB3.out.trans (hbw.mono HB3.out.size)) (HT3.out.mono (fun g hg => hbw.block g (by have := hg.2.1; omega)) (fun _ h => h)) (slt_le hsa (by omega)) (fun g hg => ⟨hg.1, by have := hg.2.1; have := hbw.size; omega⟩) (fun g hg => ⟨by have : w3.heap.size ≤ g := hg.1; omega, hg.2⟩) (fun g h1 h2 => by have := h1.2.1; have : w3.heap.size ≤ g := h2.1; omega) (show (⟨#[]⟩ : ByteArray).size ≤ 9223372036854775807 by decide) hl1)
      clear z0 z1 z2 z3 z4 z5
      go_wp2_with fail
      obtain ⟨⟨e0, e1, e2⟩, hT, hB⟩ := HF.out
      exact bodyPost_ret (v := .agg #[.int .i64 6, .string ⟨#[]⟩, .slice (some ⟨wa.heap.size, 0, none⟩) 2 2]) (by simp [results, Try.results31, go_sem, e0, e1, e2]) rfl ⟨_, rfl, slt_le hT (by omega), hB⟩

end Go.Proofs.Ytichpiklgkahbaa

namespace Go.Proofs.Ytichpiklgkahbaa
open Go.RowKit

set_option maxRecDepth 100000 in
set_option maxHeartbeats 3200000 in
theorem sder_5_no (n : Nat) (l cl : ByteArray) (A : Option Addr) (c : Nat) (w : World) (x0 d0 x1 d1 : Nx) (g o : Nat) (A0 A1 : Option Addr) (c0 c1 : Nat) (hk0 : Kid Try.prog 31 56 (2 * n + 1) n cl w A 0 x0 d0 g o A0 c0) (hk1 : Kid Try.prog 31 56 (2 * n + 1) n cl w A 1 x1 d1 g o A1 c1)
    (hnul : ∀ W, Below w.heap.size w W → Calls Try.prog 38 #[.agg #[.int .i64 x0.1, .string x0.2.1, .slice A0 x0.2.2.items.length c0], .string ⟨#[]⟩] W (fun e w' => e = .returned (.bool false) ∧ Below W.heap.size W w')) :
    Calls Try.prog 31 #[.agg #[.int .i64 5, .string l, .slice A 2 c], .string cl] w (NdT (2 * n + 3) (twoX 5 d0 x1) w) := by
  obtain rfl := hk0.at_
  obtain ⟨W2, hW2⟩ : ∃ W2, W2 = (w.alloc (.cells #[.int .i64 5, .string l, .slice (some ⟨g, o, none⟩) 2 c] 26)).alloc (.cells #[.int .i64 0, .string ⟨#[]⟩, .slice none 0 0] 26) := ⟨_, rfl⟩
  obtain ⟨t1, t2⟩ := two_new w (.cells #[.int .i64 5, .string l, .slice (some ⟨g, o, none⟩) 2 c] 26) (.cells #[.int .i64 0, .string ⟨#[]⟩, .slice none 0 0] 26)
  have hz2 : W2.heap.size = w.heap.size + 2 := by rw [hW2]; simp
  have hbW : Below w.heap.size w W2 := by rw [hW2]; exact ((Below.refl _ _).alloc (Nat.le_refl _) _).alloc (by simp) _
  rw [← hW2] at t1 t2
  have HB0 := Lib.hid hbW
  have HR := Lib.hid t2
  have he : ElAt w g o x0.1 x0.2.1 (.slice A0 x0.2.2.items.length c0) := by simpa using hk0.el
  have he1 : ElAt w g (o + 3) x1.1 x1.2.1 (.slice A1 x1.2.2.items.length c1) := by simpa using hk1.el
  have hg := hk0.lt
  have hl0 : d0.2.1.size ≤ 9223372036854775807 := by rw [hk0.ld]; decide
  have hl1 : d1.2.1.size ≤ 9223372036854775807 := by rw [hk1.ld]; decide
  have hx1 := hk1.lx
  have HD := Lib.hid hk0.der
  have HD1 := Lib.hid hk1.der
  have HC := Lib.hid hk1.cop
  have HN := Lib.hid hnul
  have HK := Lib.hid (fun (V : World) (h : ChgR (w.heap.size + 1) W2 V) => (⟨(h.cell (p := ⟨w.heap.size, 2, none⟩) (by show w.heap.size < W2.heap.size; omega) (by show w.heap.size ≠ w.heap.size + 1; omega)).trans ((cell_of_row W2 _ 2 _ _ (0, 0) t1).trans rfl),
      (h.cell (p := ⟨g, o, none⟩) (by show g < W2.heap.size; omega) (by show g ≠ w.heap.size + 1; omega)).trans (he.below hbW hg).1, (h.cell (p := ⟨g, o + 1, none⟩) (by show g < W2.heap.size; omega) (by show g ≠ w.heap.size + 1; omega)).trans (he.below hbW hg).2.1, (h.cell (p := ⟨g, o + 2, none⟩) (by show g < W2.heap.size; omega) (by show g ≠ w.heap.size + 1; omega)).trans (he.below hbW hg).2.2, (h.cell (p := ⟨g, o + 3, none⟩) (by show g < W2.heap.size; omega) (by show g ≠ w.heap.size + 1; omega)).trans (he1.below hbW hg).1, (h.cell (p := ⟨g, o + 3 + 1, none⟩) (by show g < W2.heap.size; omega) (by show g ≠ w.heap.size + 1; omega)).trans (he1.below hbW hg).2.1, (h.cell (p := ⟨g, o + 3 + 2, none⟩) (by show g < W2.heap.size; omega) (by show g ≠ w.heap.size + 1; omega)).trans (he1.below hbW hg).2.2⟩ :
    V.cell? ⟨w.heap.size, 2, none⟩ = some (.slice (some ⟨g, o, none⟩) 2 c) ∧ V.cell? ⟨g, o, none⟩ = some (.int .i64 x0.1) ∧ V.cell? ⟨g, o + 1, none⟩ = some (.string x0.2.1) ∧ V.cell? ⟨g, o + 2, none⟩ = some (.slice A0 x0.2.2.items.length c0) ∧ V.cell? ⟨g, o + 3, none⟩ = some (.int .i64 x1.1) ∧ V.cell? ⟨g, o + 3 + 1, none⟩ = some (.string x1.2.1) ∧ V.cell? ⟨g, o + 3 + 2, none⟩ = some (.slice A1 x1.2.2.items.length c1)))
  have HKB := Lib.hid (fun (V : World) (h : Below W2.heap.size W2 V) => HK.out V (chg_of h))
  have hst := Mid.start W2 (2 * n + 1) d0.2.2 x1.2.2
  obtain ⟨k2, -⟩ := HK.out W2 (Chg.refl _ _)
  obtain ⟨kk0, -, -, -, -, -⟩ := three_at (Below.refl (w.heap.size + 2) W2) (by omega) t1
  clear hk0 hk1 hnul he he1 t1 t2 hbW
  rw [hW2] at kk0 k2
  go_enter Try.func31, Try.ntmps31
  go_upto_region 19 with fail
  rw [← hW2]
  clear hW2 kk0 k2
  go_cut [7] from 61 (fun v7 wc => ∃ (b A2 : Nat), v7 = .pointer (some ⟨b, 0, none⟩) ∧ MidEnd W2 (2 * n + 1) 5 d0 x1 b A2 2 wc)
  case first =>
    clear hz2
    go_region_held3 (fun V => V.cell? ⟨w.heap.size, 2, none⟩ = some (.slice (some ⟨g, o, none⟩) 2 c) ∧ V.cell? ⟨g, o, none⟩ = some (.int .i64 x0.1) ∧ V.cell? ⟨g, o + 1, none⟩ = some (.string x0.2.1) ∧ V.cell? ⟨g, o + 2, none⟩ = some (.slice A0 x0.2.2.items.length c0) ∧ V.cell? ⟨g, o + 3, none⟩ = some (.int .i64 x1.1) ∧ V.cell? ⟨g, o + 3 + 1, none⟩ = some (.string x1.2.1) ∧ V.cell? ⟨g, o + 3 + 2, none⟩ = some (.slice A1 x1.2.2.items.length c1))
      (first | exact HKB.out _ hst.below | exact HKB.out _ hst.alloc.below | exact HKB.out _ (hst.below.alloc hst.below.size _) | exact HKB.out _ (hst.alloc.below.alloc hst.alloc.below.size _) | exact HKB.out _ (bel_set3 (hst.below.alloc hst.below.size _) hst.ge _ _ _) | exact HKB.out _ (bel_set3 (hst.alloc.below.alloc hst.alloc.below.size _) hst.alloc.ge _ _ _) | exact HKB.out _ ((hst.below.alloc hst.below.size _).alloc (hst.below.alloc hst.below.size _).size _) | exact HKB.out _ (bel_set3 ((hst.below.alloc hst.below.size _).alloc (hst.below.alloc hst.below.size _).size _) (Nat.le_succ_of_le hst.below.size) _ _ _) | go_keep)
      (first | (go_at_call 31; (with_reducible refine (HD.out _ ?_).mono ?_); (first | exact HB0.out.trans (hst.below.mono HB0.out.size) | exact HB0.out.trans (hst.alloc.below.mono HB0.out.size)); rintro e wa ⟨ua, rfl, hsa, hba⟩; obtain ⟨Aa, ma, rfl⟩ := hsa.shape; (first | have hst := hst.call1 (slt_le hsa (by omega)) hba | have hst := hst.allocD.call1 (slt_le hsa (by omega)) hba | have hst := hst.alloc.call1 (slt_le hsa (by omega)) hba); (first | obtain ⟨z0, z1, z2, z3, z4, z5⟩ := hst.past | obtain ⟨z0, z1, z2, z3, z4, z5⟩ := hst.alloc.past); obtain ⟨y0, y1, y2, y3, y4, y5⟩ := new_past wa) | (go_at_call 56; (with_reducible refine (HC.out _ ?_).mono ?_); (first | exact HB0.out.trans (hst.below.mono HB0.out.size) | exact HB0.out.trans (hst.alloc.below.mono HB0.out.size)); rintro e wb ⟨ub, rfl, hsb, hbb⟩; obtain ⟨Ab, mb, rfl⟩ := hsb.shape; (first | have hst := hst.call2 (slt_le hsb (by omega)) hbb | have hst := hst.allocD.call2 (slt_le hsb (by omega)) hbb | have hst := hst.alloc.call2 (slt_le hsb (by omega)) hbb); (first | obtain ⟨z0, z1, z2, z3, z4, z5⟩ := hst.past | obtain ⟨z0, z1, z2, z3, z4, z5⟩ := hst.alloc.past); obtain ⟨y0, y1, y2, y3, y4, y5⟩ := new_past wb))
    all_goals
      clear z0 z1 z2 z3 z4 z5 y0 y1 y2 y3 y4 y5
      go_wp2_with fail
      go_meet
    · exact ⟨_, _, rfl, hst.new 2 hl0 hx1⟩
    · exact ⟨_, _, rfl, hst.pre 2 hl0 hx1⟩
    · exact ⟨_, _, rfl, hst.set 2 hl0 hx1⟩
    · exact ⟨_, _, rfl, hst.set 2 hl0 hx1⟩
  case rest =>
    obtain ⟨b, A2, rfl, hbx, hbl, hT, hb7⟩ := hcut
    clear hst
    obtain ⟨k0, k1, k2, k3, -, -, -⟩ := HK.out wc (chg_of hb7)
    have HB7 := Lib.hid hb7
    have HT7 := Lib.hid (And.intro hbx (And.intro hbl hT))
    clear hbx hbl hT hb7
    go_wp2_with fail
    refine (HN.out _ (HB0.out.trans (HB7.out.mono HB0.out.size))).mono ?_
    rintro e w3 ⟨rfl, hb3⟩
    have hbb : b < wc.heap.size := lt_of_blk HT7.out.1
    have hbl := HT7.out.2.1
    have hz3 := hb3.size
    have HB3 := Lib.hid (HB7.out.trans (hb3.mono HB7.out.size))
    have hbx3 := (hb3.block b hbb).trans HT7.out.1
    have HT3 := Lib.hid (HT7.out.2.2.mono (w' := w3) (fun g hg => hb3.block g hg.2.1) (fun _ h => h))
    have hR3 := (HB3.out.block _ (lt_of_blk HR.out)).trans HR.out
    have HR3 := Lib.hid hR3
    obtain ⟨p0, p1, p2, -, -, -⟩ := three_at (Below.refl w3.heap.size w3) (by omega) hbx3
    obtain ⟨q0, q1, q2, f0, f1, f2⟩ := three_at (Below.refl w3.heap.size w3) (by omega) hR3
    have HP := Lib.hid (put3 (k := .int .i64 5) (l := .string ⟨#[]⟩) (u := .slice (some ⟨A2, 0, none⟩) 2 2) q0 q1 q2)
    clear hb3 hbx3 hR3 k0 k1 k2 k3
    go_wp2_with fail
    obtain ⟨⟨e0, e1, e2⟩, hsz4, hot, hBp⟩ := HP.out
    exact bodyPost_ret (v := .agg #[.int .i64 5, .string ⟨#[]⟩, .slice (some ⟨A2, 0, none⟩) 2 2]) (by simp [results, Try.results31, go_sem, e0, e1, e2]) rfl ⟨_, rfl, (slt_le HT3.out (by omega)).mono (fun g hg => hot g (by have := hg.1; omega)) (fun g hg => ⟨by have := hg.1; omega, by have := hg.2.1; rw [hsz4]; omega⟩), hBp _ _ (HB0.out.trans (HB3.out.mono HB0.out.size)) (by omega)⟩

end Go.Proofs.Ytichpiklgkahbaa
