/-
  What impl.copyRegex answers: the same expression, in new memory.
  What spec.l3Copy answers: the same expression, in new memory.
-/
import Derived.Test.YtichpiklgkahbaaRowT
import Derived.OwnWalk
import Derived.Deep.RegionLaw
import Derived.Shelf.Abstract
import Derived.RangeFuncBox
namespace Go.Proofs.Ytichpiklgkahbaa
open Go.RowKit

set_option maxRecDepth 100000 in
set_option maxHeartbeats 1600000 in
theorem implCopy_any (n : Nat) : ∀ (B : Nat) (k : Int) (l : ByteArray) (u : Value) (a : Fr) (w : World), Sl w B n u a → B ≤ w.heap.size → a.size ≤ 2097152 →
    Calls Try.prog 53 #[.agg #[.int .i64 k, .string l, u]] w (NdT n (k, l, a) w) := by
  induction n with
  | zero => intro B k l u a w h; exact h.zero.elim
  | succ n ih =>
    intro B k l u a w hS hB hsz
    obtain ⟨r0, hr0, hrz, hrs, hrb⟩ : ∃ i : TypeInfo, Try.prog.info? 26 = some i ∧ i.zero = some (.agg #[.int .i64 0, .string ⟨#[]⟩, .slice none 0 0]) ∧ i.size = 3 ∧ i.bytes = 48 := ⟨(Try.prog.info? 26).get!, by kernel_rfl, by kernel_rfl, by kernel_rfl, by kernel_rfl⟩
    obtain ⟨hl, A, c, rfl, hE⟩ := hS.open
    have hlen := a.len_size
    have HE := Lib.hid hE
    obtain ⟨W2, hW2⟩ : ∃ W2, W2 = (w.alloc (.cells #[.int .i64 k, .string l, .slice A a.items.length c] 26)).alloc (.cells #[.int .i64 0, .string ⟨#[]⟩, .slice none 0 0] 26) := ⟨_, rfl⟩
    obtain ⟨t1, t2⟩ := two_new w (.cells #[.int .i64 k, .string l, .slice A a.items.length c] 26) (.cells #[.int .i64 0, .string ⟨#[]⟩, .slice none 0 0] 26)
    have hz2 : W2.heap.size = w.heap.size + 2 := by rw [hW2]; simp
    have hbW : Below w.heap.size w W2 := by rw [hW2]; exact ((Below.refl _ _).alloc (Nat.le_refl _) _).alloc (by simp) _
    rw [← hW2] at t1 t2
    have a0 := three_at (Below.refl (w.heap.size + 2) W2) (by omega) t1
    have HW := Lib.hid (And.intro hbW (And.intro t1 t2))
    rw [hW2] at a0
    obtain ⟨a0, a1, a2, -, -, -⟩ := a0
    clear hE hS t1 t2 hbW
    go_enter Try.func53, Try.ntmps53
    go_wp2_with fail
    rw [← hW2]
    clear hW2 a0 a1 a2
    go_loopw [3, 9] (fun pv iv wr => ∃ (j : Nat) (xs : List Value) (K : Nat → Nat → Prop), iv = .int .i64 j ∧ j ≤ a.items.length ∧ RowT (w.heap.size + 2) wr n pv (a.items.take j) xs K ∧ Below (w.heap.size + 2) W2 wr) (fun _ iv _ => a.items.length - (intOf iv).toNat)
    case atStart => exact ⟨0, [], _, rfl, Nat.zero_le _, RowT.start _ _ _, Below.refl _ _⟩
    case round =>
      obtain ⟨j, xs, K, rfl, hj, hrow, hb⟩ := hrel
      have HB := Lib.hid hb
      have HR := Lib.hid hrow
      have hwz : w.heap.size + 2 ≤ wr.heap.size := by have := hb.size; omega
      by_cases hlt : j < a.items.length
      · obtain ⟨g, o, rfl, hg, k', l', a', u', hx, hls, he, h4⟩ := HE.out j hlt
        obtain ⟨c0, c1, c2⟩ := (he.below (HW.out.1.mono hB) hg).below (hb.mono (show B ≤ w.heap.size + 2 by omega)) hg
        have hsa := Fr.size_item hx
        obtain ⟨A', m', rfl⟩ := SlP.shape h4
        obtain ⟨o', ho'⟩ : ∃ o', o' = Obj.cells #[.int .i64 k', .string l', .slice A' a'.items.length m'] 26 := ⟨_, rfl⟩
        have hsl : Sl (wr.alloc o') B n (.slice A' a'.items.length m') a' := h4.mono (((HW.out.1.mono hB).trans (hb.mono (by omega))).alloc (by omega) o') (Nat.le_refl _)
        have HK := Lib.hid (ih B k' l' _ a' (wr.alloc o') hsl (by simp; omega) (by omega))
        have HR1 := Lib.hid (hrow.below ((Below.refl wr.heap.size wr).alloc (Nat.le_refl _) o'))
        have HB1 := Lib.hid (hb.alloc (by omega) o')
        rw [ho'] at HK HR1 HB1
        have HX := Lib.hid hx
        clear he h4 hsl hx hrow hb ho'
        go_wp2_with fail
        refine HK.out.mono ?_
        rintro e w1 ⟨u1, rfl, hs1, hb1⟩
        obtain ⟨A1, m1, rfl⟩ := hs1.shape
        have hz1 := hb1.size
        rw [World.size_alloc] at hz1
        have HR2 := Lib.hid (HR1.out.below hb1)
        have hLl : (a.items.take j).length = j := by simp; omega
        have hown := HR2.out.own
        rw [hLl] at hown
        have HOWN := Lib.hid hown
        have HS1 := Lib.hid hs1
        have HB2 := Lib.hid (HB1.out.trans (hb1.mono (by simp; omega)))
        have HBB := Lib.hid hb1
        clear hs1 hb1 hown c0 c1 c2
        obtain ⟨Av, cv, hv⟩ := row_shape HOWN.out
        subst hv
        go_wp2_with (at_builtin; refine wpList_append_own_at _ rfl (.tmp 13) (.tmp 16) 24 rfl (w.heap.size + 2) 26 r0 (.agg #[.int .i64 0, .string ⟨#[]⟩, .slice none 0 0]) 3 48 Try.underlying24 hr0 hrz hrs hrb rfl (by decide) _ _ _ rfl (HOWN.out.alloc _) ⟨w1.heap.size, 0, none⟩ 1 1 _ rfl rfl (new_three w1 _ _ _ _) (by simp [Value.oneCell']) (by unfold maxLen; omega) (by omega) (by simp; omega) ?_)
        intro v' w3 hown' hgrow hnil hat
        have HN := Lib.hid (HR1.out.step (x := (k', l', a')) (by simp; omega) HBB.out HS1.out hls (by rw [hLl]; exact hown') hgrow hat)
        rw [show a.items.take j ++ [(k', l', a')] = a.items.take (j + 1) by rw [List.take_add_one, HX.out]; rfl] at HN
        have HB3 := Lib.hid ((HB2.out.alloc (by omega) _).grown hgrow (by simp; omega) (fun g hg => (HOWN.out.lt g hg).1))
        clear hown' hgrow hat
        go_wp2_with fail
        go_roundw
        case rel => exact ⟨j + 1, _, _, by go_num, by omega, HN.out, HB3.out⟩
        case measure => simp [intOf]; omega
      · obtain rfl : j = a.items.length := by omega
        rw [List.take_length] at HR
        obtain ⟨Av, cv, hv⟩ := row_shape HR.out.own
        subst hv
        obtain ⟨b0, b1, b2, -, -, -⟩ := three_at HB.out (by omega) HW.out.2.1
        obtain ⟨d0, d1, d2, f0, f1, f2⟩ := three_at HB.out (by omega) HW.out.2.2
        have HP := Lib.hid (put3 (k := .int .i64 k) (l := .string l) (u := .slice Av a.items.length cv) d0 d1 d2)
        clear hrow hb
        go_wp2_with fail
        obtain ⟨⟨e0, e1, e2⟩, hsz4, hot, hBp⟩ := HP.out
        have hT : SlT wr (n + 1) (OwnB (W2) wr) (.slice Av a.items.length cv) (rowOf a.items) := HR.out.tree (fun g hg => by have := HR.out.lt hg; exact ⟨by omega, this.2⟩) hl
        rw [rowOf_of] at hT
        refine bodyPost_ret (v := .agg #[.int .i64 k, .string l, .slice Av a.items.length cv]) (by simp [results, Try.results53, go_sem, e0, e1, e2]) rfl ⟨_, rfl, hT.mono (fun g hg => hot g (by have := hg.1; omega)) (fun g hg => ⟨by have := hg.1; omega, by rw [hsz4]; exact hg.2⟩), hBp _ _ (HW.out.1.trans (HB.out.mono (by omega))) (by omega)⟩
end Go.Proofs.Ytichpiklgkahbaa

namespace Go.Proofs.Ytichpiklgkahbaa
open Go.RowKit

theorem three_new (w : World) (o1 o2 o3 : Obj) : (((w.alloc o1).alloc o2).alloc o3).heap[w.heap.size]? = some o1 ∧ (((w.alloc o1).alloc o2).alloc o3).heap[w.heap.size + 1]? = some o2 ∧ (((w.alloc o1).alloc o2).alloc o3).heap[w.heap.size + 1 + 1]? = some o3 := by
  obtain ⟨h1, h2⟩ := two_new w o1 o2
  refine ⟨(Below.heap_alloc _ o3 _ (by simp; omega)).trans h1, (Below.heap_alloc _ o3 _ (by simp)).trans h2, ?_⟩
  have := heap_alloc_new ((w.alloc o1).alloc o2) o3
  rwa [World.size_alloc, World.size_alloc] at this

theorem enters_l3Copy : ∀ args w, (callFunc 56 args).run Try.prog w = .ok (.enter 56 args) w := enters_of Try.func56 (by kernel_rfl) rfl

set_option maxRecDepth 100000 in
set_option maxHeartbeats 1600000 in
theorem specCopy_any (n : Nat) : ∀ (B : Nat) (k : Int) (l : ByteArray) (u : Value) (a : Fr) (w : World), Sl w B n u a → B ≤ w.heap.size → a.size ≤ 2097152 →
    Calls Try.prog 56 #[.agg #[.int .i64 k, .string l, u]] w (NdT n (k, l, a) w) := by
  induction n with
  | zero => intro B k l u a w h; exact h.zero.elim
  | succ n ih =>
    intro B k l u a w hS hB hsz
    obtain ⟨r0, hr0, hrz, hrs, hrb⟩ : ∃ i : TypeInfo, Try.prog.info? 26 = some i ∧ i.zero = some (.agg #[.int .i64 0, .string ⟨#[]⟩, .slice none 0 0]) ∧ i.size = 3 ∧ i.bytes = 48 := ⟨(Try.prog.info? 26).get!, by kernel_rfl, by kernel_rfl, by kernel_rfl, by kernel_rfl⟩
    obtain ⟨hl, A, c, rfl, hE⟩ := hS.open
    have hlen := a.len_size
    have HE := Lib.hid hE
    obtain ⟨W3, hW3⟩ : ∃ W3, W3 = ((w.alloc (.cells #[.int .i64 k, .string l, .slice A a.items.length c] 26)).alloc (.cells #[.int .i64 0, .string ⟨#[]⟩, .slice none 0 0] 26)).alloc (.cells #[.int .i64 k, .string l, .slice none 0 0] 26) := ⟨_, rfl⟩
    obtain ⟨t1, t2, t3⟩ := three_new w (.cells #[.int .i64 k, .string l, .slice A a.items.length c] 26) (.cells #[.int .i64 0, .string ⟨#[]⟩, .slice none 0 0] 26) (.cells #[.int .i64 k, .string l, .slice none 0 0] 26)
    have hz3 : W3.heap.size = w.heap.size + 3 := by rw [hW3]; simp
    have hbW : Below w.heap.size w W3 := by rw [hW3]; exact (((Below.refl _ _).alloc (Nat.le_refl _) _).alloc (by simp) _).alloc (by simp; omega) _
    rw [← hW3] at t1 t2 t3
    have HW := Lib.hid (And.intro hbW (And.intro t1 (And.intro t2 t3)))
    clear hE hS t1 t2 t3 hbW
    go_enter Try.func56, Try.ntmps56
    go_wp2_with fail
    rw [← hW3]
    clear hW3
    go_loopw [4] (fun iv wr => ∃ (j : Nat) (pv : Value) (xs : List Value) (K : Nat → Nat → Prop), iv = .int .i64 j ∧ j ≤ a.items.length ∧ wr.heap[w.heap.size + 1 + 1]? = some (.cells #[.int .i64 k, .string l, pv] 26 (0, 0)) ∧ RowT (w.heap.size + 3) wr n pv (a.items.take j) xs K ∧ Below (w.heap.size + 1 + 1) W3 wr) (fun iv _ => a.items.length - (intOf iv).toNat)
    case atStart => exact ⟨0, .slice none 0 0, [], _, rfl, Nat.zero_le _, HW.out.2.2.2, RowT.start _ _ _, Below.refl _ _⟩
    case round =>
      obtain ⟨j, pv, xs, K, rfl, hj, hbx, hrow, hb⟩ := hrel
      have HB := Lib.hid hb
      have HR := Lib.hid hrow
      have HBX := Lib.hid hbx
      have hwz : w.heap.size + 3 ≤ wr.heap.size := by have := hb.size; omega
      obtain ⟨b0, b1, b2, -, -, -⟩ := three_at HB.out (by omega) HW.out.2.1
      have hLl : (a.items.take j).length = j := by simp; omega
      have hown := hrow.own
      rw [hLl] at hown
      obtain ⟨Av, cv, hv⟩ := row_shape hown
      subst hv
      obtain ⟨x0, x1, x2, y0, y1, y2⟩ := three_at (Below.refl (w.heap.size + 3) wr) (by omega) hbx
      by_cases hlt : j < a.items.length
      · obtain ⟨g, o, rfl, hg, k', l', a', u', hx, hls, he, h4⟩ := HE.out j hlt
        have he2 := (he.below (HW.out.1.mono hB) hg).below (hb.mono (show B ≤ w.heap.size + 1 + 1 by omega)) hg
        obtain ⟨c0, c1, c2⟩ := he2
        have hsa := Fr.size_item hx
        obtain ⟨A', m', rfl⟩ := SlP.shape h4
        have hsl : Sl wr.drew B n (.slice A' a'.items.length m') a' := h4.mono (((HW.out.1.mono hB).trans (hb.mono (by omega))).drew) (Nat.le_refl _)
        have HK := Lib.hid (ih B k' l' _ a' wr.drew hsl (by show B ≤ wr.heap.size; omega) (by omega))
        have HR1 := Lib.hid (hrow.below (Below.refl wr.heap.size wr).drew)
        have HX := Lib.hid hx
        have hS0 : wr.cell? ⟨w.heap.size + 1 + 1, 2, none⟩ = some (.slice Av j cv) ∧ wr.cell? ⟨w.heap.size, 2, none⟩ = some (.slice (some ⟨g, o, none⟩) a.items.length c) ∧ wr.cell? ⟨g, o + j * 3, none⟩ = some (.int .i64 k') ∧ wr.cell? ⟨g, o + j * 3 + 1, none⟩ = some (.string l') ∧ wr.cell? ⟨g, o + j * 3 + 2, none⟩ = some (.slice A' a'.items.length m') := ⟨x2, b2, c0, c1, c2⟩
        have HS0 := Lib.hid hS0
        have HKP := Lib.hid (fun (V : World) (h : ∀ q, q < w.heap.size + 3 → V.heap[q]? = wr.heap[q]?) => (⟨(World.cell?_of_block (a := ⟨w.heap.size + 1 + 1, 2, none⟩) (h _ (by show w.heap.size + 1 + 1 < w.heap.size + 3; omega))).trans hS0.1, (World.cell?_of_block (a := ⟨w.heap.size, 2, none⟩) (h _ (by show w.heap.size < w.heap.size + 3; omega))).trans hS0.2.1, (World.cell?_of_block (a := ⟨g, o + j * 3, none⟩) (h _ (by show g < w.heap.size + 3; omega))).trans hS0.2.2.1, (World.cell?_of_block (a := ⟨g, o + j * 3 + 1, none⟩) (h _ (by show g < w.heap.size + 3; omega))).trans hS0.2.2.2.1, (World.cell?_of_block (a := ⟨g, o + j * 3 + 2, none⟩) (h _ (by show g < w.heap.size + 3; omega))).trans hS0.2.2.2.2⟩ :
          V.cell? ⟨w.heap.size + 1 + 1, 2, none⟩ = some (.slice Av j cv) ∧ V.cell? ⟨w.heap.size, 2, none⟩ = some (.slice (some ⟨g, o, none⟩) a.items.length c) ∧ V.cell? ⟨g, o + j * 3, none⟩ = some (.int .i64 k') ∧ V.cell? ⟨g, o + j * 3 + 1, none⟩ = some (.string l') ∧ V.cell? ⟨g, o + j * 3 + 2, none⟩ = some (.slice A' a'.items.length m')))
        have HOW := Lib.hid hown
        clear he h4 hsl hx hrow hb hbx hown hS0
        go_wp2_with fail
        obtain ⟨k2, k3, k4, k5, k6⟩ := HKP.out wr.drew (fun q _ => rfl)
        go_region_law (first
            | (refine step_append_own_at rfl (.tmp 18) (.tmp 25) 24 rfl (w.heap.size + 3) 26 r0 (.agg #[.int .i64 0, .string ⟨#[]⟩, .slice none 0 0]) 3 48 Try.underlying24 hr0 hrz hrs hrb rfl (by decide) _ _ _ rfl (HOWN.out.alloc _) ⟨w1.heap.size, 0, none⟩ 1 1 _ rfl rfl (new_three w1 _ _ _ _) (by simp [Value.oneCell']) (by unfold maxLen; omega) (by omega) (by simp; omega) ?_; intro v' w3 hown' hgrow hat; obtain ⟨g', cap', rfl⟩ := ownsRow_succ hown'; have hH3 := (fun q (hq : q < w.heap.size + 3) => (hgrow.block q (by simp; omega) (fun e => by have := (HOWN.out.lt q e.symm).1; omega)).trans ((Below.heap_alloc _ _ _ (by omega)).trans (HH1.out q hq))); have z3 := (HKP.out w3 hH3).1; have hbx3 := (hH3 (w.heap.size + 1 + 1) (by omega)).trans HBX.out; have fz3 := frozen_of_row w3 (w.heap.size + 1 + 1) 2 _ _ hbx3; have HG3 := Lib.hid (And.intro hown' (And.intro hgrow (And.intro hat hbx3))); clear hown' hgrow hat hbx3 hH3)
            | (refine step_call rfl _ _ _ rfl enters_l3Copy #[.agg #[.int .i64 k', .string l', .slice A' a'.items.length m']] (by simp [Act.eval]) HK.out ?_; rintro e w1 ⟨u1, rfl, hs1, hb1⟩; obtain ⟨A1, m1, rfl⟩ := hs1.shape; have HBB := Lib.hid hb1; have HS1 := Lib.hid hs1; have HH1 := Lib.hid (fun q (hq : q < w.heap.size + 3) => hb1.block q (by show q < wr.heap.size; omega)); have z2 := (HKP.out w1 HH1.out).1; have z4 := (HKP.out (w1.alloc (.cells #[.int .i64 k', .string l', .slice A1 a'.items.length m1] 26)) (fun q hq => (Below.heap_alloc _ _ _ (by have : wr.heap.size ≤ w1.heap.size := hb1.size; omega)).trans (HH1.out q hq))).1; have hz1 : wr.heap.size ≤ w1.heap.size := hb1.size; have HR2 := Lib.hid (HR1.out.below hb1); have hown := HR2.out.own; rw [hLl] at hown; have HOWN := Lib.hid hown; clear hs1 hb1 hown; refine ⟨_, rfl, ?_⟩))
        all_goals
          have HN := Lib.hid ((HR1.out.step (x := (k', l', a')) (by show w.heap.size + 3 ≤ wr.heap.size; omega) HBB.out HS1.out hls (by rw [hLl]; exact HG3.out.1) HG3.out.2.1 (HG3.out.2.2.1.imp (fun h => h) (fun h => by rw [World.size_alloc] at h; exact h))).set_low (p := ⟨w.heap.size + 1 + 1, 2, none⟩) (u := .slice (some ⟨g', 0, none⟩) (j + 1) cap') (by show w.heap.size + 1 + 1 < w.heap.size + 3; omega))
          rw [show a.items.take j ++ [(k', l', a')] = a.items.take (j + 1) by rw [List.take_add_one, HX.out]; rfl] at HN
          have HX3 := Lib.hid (heap_setCell_same w3 (w.heap.size + 1 + 1) 2 _ _ (.slice (some ⟨g', 0, none⟩) (j + 1) cap') HG3.out.2.2.2)
          have HB3 := Lib.hid ((((HB.out.drew.trans (HBB.out.mono (by show w.heap.size + 1 + 1 ≤ wr.heap.size; omega))).alloc (by omega) _).grown HG3.out.2.1 (by simp; omega) (fun g hg => by have := (HOWN.out.lt g hg).1; omega)).setCell (p := ⟨w.heap.size + 1 + 1, 2, none⟩) (Nat.le_refl _) (.slice (some ⟨g', 0, none⟩) (j + 1) cap'))
          clear z2 z4 z3 fz3 k2 k3 k4 k5 k6 x0 x1 x2 y0 y1 y2 b0 b1 b2 c0 c1 c2
          go_wp2_with fail
          go_roundw
          case rel => exact ⟨j + 1, _, _, _, by go_num, by omega, HX3.out, HN.out, HB3.out⟩
          case measure => simp [intOf]; omega
      · obtain rfl : j = a.items.length := by omega
        rw [List.take_length] at HR
        obtain ⟨d0, d1, d2, f0, f1, f2⟩ := three_at HB.out (by omega) HW.out.2.2.1
        have HP := Lib.hid (put3 (k := .int .i64 k) (l := .string l) (u := .slice Av a.items.length cv) d0 d1 d2)
        clear hrow hb hbx hown
        go_wp2_with fail
        obtain ⟨⟨e0, e1, e2⟩, hsz4, hot, hBp⟩ := HP.out
        have hT : SlT wr (n + 1) (OwnB W3 wr) (.slice Av a.items.length cv) (rowOf a.items) := HR.out.tree (fun g hg => by have := HR.out.lt hg; exact ⟨by omega, this.2⟩) hl
        rw [rowOf_of] at hT
        refine bodyPost_ret (v := .agg #[.int .i64 k, .string l, .slice Av a.items.length cv]) (by simp [results, Try.results56, go_sem, e0, e1, e2]) rfl ⟨_, rfl, hT.mono (fun g hg => hot g (by have := hg.1; omega)) (fun g hg => ⟨by have := hg.1; omega, by rw [hsz4]; exact hg.2⟩), hBp _ _ (HW.out.1.trans (HB.out.mono (by omega))) (by omega)⟩
end Go.Proofs.Ytichpiklgkahbaa
