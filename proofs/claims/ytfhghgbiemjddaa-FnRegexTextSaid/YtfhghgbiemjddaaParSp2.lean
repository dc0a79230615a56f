/-
  What spec.ParseRegex answers: the same as impl.ParseRegex.
-/
import Derived.Test.YtfhghgbiemjddaaParSpec
import Derived.Test.YtfhghgbiemjddaaParImpl
namespace Go.Proofs.Ytfhghgbiemjddaa
open Go.RowKit

theorem box_grownN {w w1 : World} {a b c : Value} {t : TypeId} {g : Nat} (hg : (w.alloc (.cells #[a, b, c] t)).grownBy w1 (some g)) (hne : g ≠ w.heap.size) :
    w1.heap[w.heap.size]? = some (.cells #[a, b, c] t (0, 0)) ∧ w1.cell? ⟨w.heap.size, 0, none⟩ = some a ∧ w1.cell? ⟨w.heap.size, 1, none⟩ = some b ∧ w1.cell? ⟨w.heap.size, 2, none⟩ = some c ∧
      w1.frozen? ⟨w.heap.size, 0, none⟩ = false ∧ w1.frozen? ⟨w.heap.size, 1, none⟩ = false ∧ w1.frozen? ⟨w.heap.size, 2, none⟩ = false := by
  have h := (hg.block w.heap.size (by simp) (by simpa using fun e : w.heap.size = g => hne e.symm)).trans (heap_alloc_new w _)
  exact ⟨h, (cell_of_row w1 _ 0 _ _ (0, 0) h).trans rfl, (cell_of_row w1 _ 1 _ _ (0, 0) h).trans rfl, (cell_of_row w1 _ 2 _ _ (0, 0) h).trans rfl, frozen_of_row w1 _ 0 _ _ h, frozen_of_row w1 _ 1 _ _ h, frozen_of_row w1 _ 2 _ _ h⟩
theorem below_of_grown {w w1 : World} {g : Nat} (h : w.grownBy w1 (some g)) (hg : w.heap.size ≤ g) : Below w.heap.size w w1 := ⟨h.os, h.tape, h.output, h.size, fun k hk => h.block k hk (fun e => by cases e; omega)⟩
theorem grown_of_belowN {w w1 : World} (h : Below w.heap.size w w1) (row : Option Nat) : w.grownBy w1 row := ⟨h.os, h.tape, h.output, h.size, fun k hk _ => h.block k hk⟩
/-- The end: the result's cells are written. -/
theorem pa_end {w W2 : World} {d g : Nat} {k : Int} {l : ByteArray} {u : Value} {f : Fr} {S : Nat → Prop} (hg : (w.alloc (.cells #[.int .i64 0, .string ⟨#[]⟩, .slice none 0 0] 26)).grownBy W2 (some g)) (hgw : w.heap.size < g) (hs : SlT W2 d S u f) (hS : ∀ h, S h → w.heap.size + 1 ≤ h ∧ h < W2.heap.size) :
    let W4 := ((W2.setCell ⟨w.heap.size, 0, none⟩ (.int .i64 k)).setCell ⟨w.heap.size, 1, none⟩ (.string l)).setCell ⟨w.heap.size, 2, none⟩ u
    (W4.cell? ⟨w.heap.size, 0, none⟩ = some (.int .i64 k) ∧ W4.cell? ⟨w.heap.size, 1, none⟩ = some (.string l) ∧ W4.cell? ⟨w.heap.size, 2, none⟩ = some u) ∧ SlT W4 d (OwnB w W4) u f ∧ Below w.heap.size w W4 := by
  intro W4
  obtain ⟨-, b0, b1, b2, -⟩ := box_grownN hg (by omega)
  obtain ⟨hc, hsz, hot, hB⟩ := put3 (k := .int .i64 k) (l := .string l) (u := u) b0 b1 b2
  refine ⟨hc, hs.mono (fun h hh => hot h (by have := (hS h hh).1; omega)) (fun h hh => ⟨by have := (hS h hh).1; omega, by rw [hsz]; exact (hS h hh).2⟩), hB _ _ ?_ (Nat.le_refl _)⟩
  exact below_of_grown (grown_tr (World.grownBy_alloc w (.cells #[.int .i64 0, .string ⟨#[]⟩, .slice none 0 0] 26) (some g)) hg) (Nat.le_of_lt hgw)
theorem pa_zero {w W2 : World} {g : Nat} (hg : (w.alloc (.cells #[.int .i64 0, .string ⟨#[]⟩, .slice none 0 0] 26)).grownBy W2 (some g)) (hgw : w.heap.size < g) :
    let W4 := ((W2.setCell ⟨w.heap.size, 0, none⟩ (.int .i64 0)).setCell ⟨w.heap.size, 1, none⟩ (.string ⟨#[]⟩)).setCell ⟨w.heap.size, 2, none⟩ (.slice none 0 0)
    (W4.cell? ⟨w.heap.size, 0, none⟩ = some (.int .i64 0) ∧ W4.cell? ⟨w.heap.size, 1, none⟩ = some (.string ⟨#[]⟩) ∧ W4.cell? ⟨w.heap.size, 2, none⟩ = some (.slice none 0 0)) ∧ Below w.heap.size w W4 := by
  have h := pa_end (d := 1) (k := 0) (l := ⟨#[]⟩) (u := .slice none 0 0) (f := .nil) (S := fun _ => False) hg hgw (SlT.none _ 0 _ none 0) (fun _ h => h.elim)
  exact ⟨h.1, h.2.2⟩

set_option maxRecDepth 100000 in
set_option maxHeartbeats 1600000 in
theorem specParse_none (s : ByteArray)  (w : World) (hs : s.size ≤ 1048576) (hp : parse 6 s.data.toList = none)  : Calls Try.prog 17 #[.string s] w (PaNo w) := by
  have HI := Lib.hid (fun wr hst => (ndAt_all 6 (Nat.le_refl _)).no (D := 1) (by omega) hp wr (g := w.heap.size + 1) hst hs rfl (Nat.zero_le _))
  have hst0 : St ((w.alloc (.cells #[.int .i64 0, .string ⟨#[]⟩, .slice none 0 0] 26)).alloc (.cells #[.string s, .int .i64 0, .bool false] 62)) (w.heap.size + 1) s 0 false := by
    have := heap_alloc_new (w.alloc (.cells #[.int .i64 0, .string ⟨#[]⟩, .slice none 0 0] 26)) (.cells #[.string s, .int .i64 0, .bool false] 62)
    rwa [World.size_alloc] at this
  have HST0 := Lib.hid hst0
  have HG0 := Lib.hid (World.grownBy_alloc (w.alloc (.cells #[.int .i64 0, .string ⟨#[]⟩, .slice none 0 0] 26)) (.cells #[.string s, .int .i64 0, .bool false] 62) (some (w.heap.size + 1)))
  clear hp hst0
  go_enter Try.func17, Try.ntmps17
  go_wp2_with fail
  (with_reducible refine (HI.out _ HST0.out).mono ?_)
  rintro e w1 ⟨k1, l1, A, m, c, p1, rfl, hst1, hp1, hg1⟩
  have hst : St (w1.alloc (.cells #[.int .i64 k1, .string l1, .slice A m c] 26)) (w.heap.size + 1) s p1 true := hst1.same (Below.heap_alloc _ _ _ hst1.lt)
  obtain ⟨-, q1, q2, -, -⟩ := hst.cells
  have hg2 := grown_tr (grown_tr HG0.out hg1) (World.grownBy_alloc w1 (.cells #[.int .i64 k1, .string l1, .slice A m c] 26) _)
  obtain ⟨W2, hW2⟩ : ∃ W2, W2 = w1.alloc (.cells #[.int .i64 k1, .string l1, .slice A m c] 26) := ⟨_, rfl⟩
  rw [← hW2] at hg2
  obtain ⟨-, b0, b1, b2, f0, f1, f2⟩ := box_grownN hg2 (by omega)
  have HF := Lib.hid (pa_zero hg2 (by omega))
  rw [hW2] at b0 b1 b2 f0 f1 f2
  have HW2 := Lib.hid hW2
  clear hst1 hst hp1 hg1 hg2 hW2
  go_wp2_with fail
  rw [← HW2.out]
  obtain ⟨⟨c0, c1, c2⟩, hB⟩ := HF.out
  exact bodyPost_ret (v := .tuple #[.agg #[.int .i64 0, .string ⟨#[]⟩, .slice none 0 0], .bool false]) (by simp [results, Try.results17, go_sem, c0, c1, c2]) rfl ⟨rfl, hB⟩

set_option maxRecDepth 100000 in
set_option maxHeartbeats 1600000 in
theorem specParse_rest (s : ByteArray) (x : Nd) (b : UInt8) (t : List UInt8) (w : World) (hs : s.size ≤ 1048576) (hp : parse 6 s.data.toList = some (x, b :: t))  : Calls Try.prog 17 #[.string s] w (PaNo w) := by
  have HI := Lib.hid (fun wr hst => (ndAt_all 6 (Nat.le_refl _)).yes (D := 1) (by omega) hp wr (g := w.heap.size + 1) hst hs rfl (Nat.zero_le _))
  have hst0 : St ((w.alloc (.cells #[.int .i64 0, .string ⟨#[]⟩, .slice none 0 0] 26)).alloc (.cells #[.string s, .int .i64 0, .bool false] 62)) (w.heap.size + 1) s 0 false := by
    have := heap_alloc_new (w.alloc (.cells #[.int .i64 0, .string ⟨#[]⟩, .slice none 0 0] 26)) (.cells #[.string s, .int .i64 0, .bool false] 62)
    rwa [World.size_alloc] at this
  have HST0 := Lib.hid hst0
  have HG0 := Lib.hid (World.grownBy_alloc (w.alloc (.cells #[.int .i64 0, .string ⟨#[]⟩, .slice none 0 0] 26)) (.cells #[.string s, .int .i64 0, .bool false] 62) (some (w.heap.size + 1)))
  clear hp hst0
  go_enter Try.func17, Try.ntmps17
  go_wp2_with fail
  (with_reducible refine (HI.out _ HST0.out).mono ?_)
  rintro e w1 ⟨u, p1, rfl, hst1, hr1, hp1, hsl, hg1⟩
  obtain ⟨A, c, rfl⟩ := hsl.shape
  have hst : St (w1.alloc (.cells #[.int .i64 x.1, .string x.2.1, .slice A x.2.2.items.length c] 26)) (w.heap.size + 1) s p1 false := hst1.same (Below.heap_alloc _ _ _ hst1.lt)
  obtain ⟨-, q1, q2, -, -⟩ := hst.cells
  have hg2 := grown_tr (grown_tr HG0.out hg1) (World.grownBy_alloc w1 (.cells #[.int .i64 x.1, .string x.2.1, .slice A x.2.2.items.length c] 26) _)
  have hz1 := hg1.size
  rw [World.size_alloc, World.size_alloc] at hz1
  have hne : p1 ≠ s.size := by
    intro e
    subst e
    have := congrArg List.length hr1
    simp at this
  have e1 : ((p1 : Int) == (s.size : Int)) = false := beq_eq_false_iff_ne.2 (by omega)
  have e2 : ((p1 : Int) != (s.size : Int)) = true := bne_iff_ne.2 (by omega)
  obtain ⟨W2, hW2⟩ : ∃ W2, W2 = w1.alloc (.cells #[.int .i64 x.1, .string x.2.1, .slice A x.2.2.items.length c] 26) := ⟨_, rfl⟩
  rw [← hW2] at hg2
  clear hne
  obtain ⟨-, b0, b1, b2, f0, f1, f2⟩ := box_grownN hg2 (by omega)
  have HF := Lib.hid (pa_zero hg2 (by omega))
  rw [hW2] at b0 b1 b2 f0 f1 f2
  have HW2 := Lib.hid hW2
  clear hst1 hst hp1 hg1 hg2 hW2 hr1 hsl hz1
  go_wp2_with fail
  rw [← HW2.out]
  obtain ⟨⟨c0, c1, c2⟩, hB⟩ := HF.out
  exact bodyPost_ret (v := .tuple #[.agg #[.int .i64 0, .string ⟨#[]⟩, .slice none 0 0], .bool false]) (by simp [results, Try.results17, go_sem, c0, c1, c2]) rfl ⟨rfl, hB⟩

set_option maxRecDepth 100000 in
set_option maxHeartbeats 1600000 in
theorem specParse_bad (s : ByteArray) (x : Nd) (w : World) (hs : s.size ≤ 1048576) (hp : parse 6 s.data.toList = some (x, [])) (hv : validRx x.1 x.2.1 x.2.2 = false) : Calls Try.prog 17 #[.string s] w (PaNo w) := by
  have HI := Lib.hid (fun wr hst => (ndAt_all 6 (Nat.le_refl _)).yes (D := 1) (by omega) hp wr (g := w.heap.size + 1) hst hs rfl (Nat.zero_le _))
  obtain ⟨htx, hx1, hx2⟩ := parse_spec 6 _ x [] hp
  rw [show 2 ^ 6 = 64 from rfl] at hx1
  rw [List.append_nil] at htx
  have hne : ¬ s.toList = [] := by
    intro e
    rw [ByteArray.toList_eq] at e
    rw [e] at hp
    cases hp
  have hfm : formatRx x.1 x.2.1 x.2.2 = [] := by unfold formatRx; rw [if_neg (by rw [hv]; decide)]
  have hst0 : St ((w.alloc (.cells #[.int .i64 0, .string ⟨#[]⟩, .slice none 0 0] 26)).alloc (.cells #[.string s, .int .i64 0, .bool false] 62)) (w.heap.size + 1) s 0 false := by
    have := heap_alloc_new (w.alloc (.cells #[.int .i64 0, .string ⟨#[]⟩, .slice none 0 0] 26)) (.cells #[.string s, .int .i64 0, .bool false] 62)
    rwa [World.size_alloc] at this
  have HST0 := Lib.hid hst0
  have HG0 := Lib.hid (World.grownBy_alloc (w.alloc (.cells #[.int .i64 0, .string ⟨#[]⟩, .slice none 0 0] 26)) (.cells #[.string s, .int .i64 0, .bool false] 62) (some (w.heap.size + 1)))
  clear hp hst0
  go_enter Try.func17, Try.ntmps17
  go_wp2_with fail
  (with_reducible refine (HI.out _ HST0.out).mono ?_)
  rintro e w1 ⟨u, p1, rfl, hst1, hr1, hp1, hsl, hg1⟩
  obtain ⟨A, c, rfl⟩ := hsl.shape
  have hst : St (w1.alloc (.cells #[.int .i64 x.1, .string x.2.1, .slice A x.2.2.items.length c] 26)) (w.heap.size + 1) s p1 false := hst1.same (Below.heap_alloc _ _ _ hst1.lt)
  obtain ⟨-, q1, q2, -, -⟩ := hst.cells
  have hg2 := grown_tr (grown_tr HG0.out hg1) (World.grownBy_alloc w1 (.cells #[.int .i64 x.1, .string x.2.1, .slice A x.2.2.items.length c] 26) _)
  have hz1 := hg1.size
  rw [World.size_alloc, World.size_alloc] at hz1
  have hpe : p1 = s.size := by
    have := List.drop_eq_nil_iff.1 hr1
    simp at this
    have e : s.data.size = s.size := rfl
    omega
  have e1 : ((p1 : Int) == (s.size : Int)) = true := by simp [hpe]
  have e2 : ((p1 : Int) != (s.size : Int)) = false := by simp [hpe]
  have HFM := Lib.hid (fun (W : World) (hW : Below w1.heap.size w1 W) => specFormat_any 6 W.heap.size x.1 x.2.1 (.slice A x.2.2.items.length c) x.2.2 W (SlP.mono (fun g hg => hW.block g hg.2) (fun g hg => Nat.lt_of_lt_of_le hg.2 hW.size) hsl.sl) (Nat.le_refl _) (by omega) (by omega))
  rw [hfm] at HFM
  clear hpe hfm htx hx1 hx2
  have t1 : s.toList.isEmpty = false := by simpa using hne
  have HG2 := Lib.hid hg2
  have HST1 := Lib.hid hst1.lt
  clear hst1 hst hp1 hg1 hg2 hr1 hsl hv hne
  go_wp2_with fail
  refine (HFM.out _ ((Below.refl _ _).alloc (Nat.le_refl _) _)).mono ?_
  rintro e w2 ⟨rfl, hb2⟩
  have hb2' : Below (w1.heap.size + 1) (w1.alloc (.cells #[.int .i64 x.1, .string x.2.1, .slice A x.2.2.items.length c] 26)) w2 := by simpa using hb2
  obtain ⟨-, d0, d1, d2, -⟩ := box_kept hb2'
  have hg3 := grown_tr HG2.out (grown_of_belowN hb2 (some (w.heap.size + 1)))
  have hz2 := hb2'.size
  rw [World.size_alloc] at hz2
  obtain ⟨-, b0, b1, b2, f0, f1, f2⟩ := box_grownN hg3 (by omega)
  have HF := Lib.hid (pa_zero hg3 (by omega))
  clear hb2 hb2' hg3
  go_wp2_with fail
  obtain ⟨⟨c0, c1, c2⟩, hB⟩ := HF.out
  exact bodyPost_ret (v := .tuple #[.agg #[.int .i64 0, .string ⟨#[]⟩, .slice none 0 0], .bool false]) (by simp [results, Try.results17, go_sem, c0, c1, c2]) rfl ⟨rfl, hB⟩

set_option maxRecDepth 100000 in
set_option maxHeartbeats 1600000 in
theorem specParse_yes (s : ByteArray) (x : Nd) (w : World) (hs : s.size ≤ 1048576) (hp : parse 6 s.data.toList = some (x, [])) (hv : validRx x.1 x.2.1 x.2.2 = true) : Calls Try.prog 17 #[.string s] w (PaYes x w) := by
  have HI := Lib.hid (fun wr hst => (ndAt_all 6 (Nat.le_refl _)).yes (D := 1) (by omega) hp wr (g := w.heap.size + 1) hst hs rfl (Nat.zero_le _))
  obtain ⟨htx, hx1, hx2⟩ := parse_spec 6 _ x [] hp
  rw [show 2 ^ 6 = 64 from rfl] at hx1
  rw [List.append_nil] at htx
  have hfm : (⟨(formatRx x.1 x.2.1 x.2.2).toArray⟩ : ByteArray) = s := by
    unfold formatRx
    rw [if_pos hv]
    exact ByteArray.ext (by rw [← Array.toList_inj]; exact htx.symm)
  have hst0 : St ((w.alloc (.cells #[.int .i64 0, .string ⟨#[]⟩, .slice none 0 0] 26)).alloc (.cells #[.string s, .int .i64 0, .bool false] 62)) (w.heap.size + 1) s 0 false := by
    have := heap_alloc_new (w.alloc (.cells #[.int .i64 0, .string ⟨#[]⟩, .slice none 0 0] 26)) (.cells #[.string s, .int .i64 0, .bool false] 62)
    rwa [World.size_alloc] at this
  have HST0 := Lib.hid hst0
  have HG0 := Lib.hid (World.grownBy_alloc (w.alloc (.cells #[.int .i64 0, .string ⟨#[]⟩, .slice none 0 0] 26)) (.cells #[.string s, .int .i64 0, .bool false] 62) (some (w.heap.size + 1)))
  clear hp hst0
  go_enter Try.func17, Try.ntmps17
  go_wp2_with fail
  (with_reducible refine (HI.out _ HST0.out).mono ?_)
  rintro e w1 ⟨u, p1, rfl, hst1, hr1, hp1, hsl, hg1⟩
  obtain ⟨A, c, rfl⟩ := hsl.shape
  have hst : St (w1.alloc (.cells #[.int .i64 x.1, .string x.2.1, .slice A x.2.2.items.length c] 26)) (w.heap.size + 1) s p1 false := hst1.same (Below.heap_alloc _ _ _ hst1.lt)
  obtain ⟨-, q1, q2, -, -⟩ := hst.cells
  have hg2 := grown_tr (grown_tr HG0.out hg1) (World.grownBy_alloc w1 (.cells #[.int .i64 x.1, .string x.2.1, .slice A x.2.2.items.length c] 26) _)
  have hz1 := hg1.size
  rw [World.size_alloc, World.size_alloc] at hz1
  have hpe : p1 = s.size := by
    have := List.drop_eq_nil_iff.1 hr1
    simp at this
    have e : s.data.size = s.size := rfl
    omega
  have e1 : ((p1 : Int) == (s.size : Int)) = true := by simp [hpe]
  have e2 : ((p1 : Int) != (s.size : Int)) = false := by simp [hpe]
  have HFM := Lib.hid (fun (W : World) (hW : Below w1.heap.size w1 W) => specFormat_any 6 W.heap.size x.1 x.2.1 (.slice A x.2.2.items.length c) x.2.2 W (SlP.mono (fun g hg => hW.block g hg.2) (fun g hg => Nat.lt_of_lt_of_le hg.2 hW.size) hsl.sl) (Nat.le_refl _) (by omega) (by omega))
  rw [hfm] at HFM
  clear hpe hfm htx hx1 hx2
  have HSL := Lib.hid hsl
  have HG2 := Lib.hid hg2
  have HST1 := Lib.hid hst1.lt
  clear hst1 hst hp1 hg1 hg2 hr1 hsl hv
  go_wp2_with fail
  refine (HFM.out _ ((Below.refl _ _).alloc (Nat.le_refl _) _)).mono ?_
  rintro e w2 ⟨rfl, hb2⟩
  have hb2' : Below (w1.heap.size + 1) (w1.alloc (.cells #[.int .i64 x.1, .string x.2.1, .slice A x.2.2.items.length c] 26)) w2 := by simpa using hb2
  obtain ⟨-, d0, d1, d2, -⟩ := box_kept hb2'
  have hg3 := grown_tr HG2.out (grown_of_belowN hb2 (some (w.heap.size + 1)))
  have hz2 := hb2'.size
  rw [World.size_alloc] at hz2
  obtain ⟨-, b0, b1, b2, f0, f1, f2⟩ := box_grownN hg3 (by omega)
  have HF := Lib.hid (pa_end (k := x.1) (l := x.2.1) hg3 (by omega) (HSL.out.mono (w' := w2) (fun g hg => (hb2.block g (by have := hg.2; simp; omega)).trans (Below.heap_alloc _ _ g hg.2)) (fun _ h => h)) (fun h hh => ⟨by have := hh.1; simp at this; omega, by have := hh.2; omega⟩))
  clear hb2 hb2' hg3
  go_wp2_with fail
  obtain ⟨⟨c0, c1, c2⟩, hS, hB⟩ := HF.out
  exact bodyPost_ret (v := .tuple #[.agg #[.int .i64 x.1, .string x.2.1, .slice A x.2.2.items.length c], .bool true]) (by simp [results, Try.results17, go_sem, c0, c1, c2]) rfl ⟨_, rfl, hS, hB⟩

theorem specParse_any (s : ByteArray) (w : World) (hs : s.size ≤ 1048576) : Calls Try.prog 17 #[.string s] w (PaPost s.data.toList w) := by
  cases hp : parse 6 s.data.toList with
  | none => exact (specParse_none s w hs hp).mono fun _ _ h => pa_none (by unfold parseAll; rw [hp]) h
  | some p =>
    obtain ⟨x, t⟩ := p
    cases t with
    | cons b t => exact (specParse_rest s x b t w hs hp).mono fun _ _ h => pa_none (by unfold parseAll; rw [hp]) h
    | nil =>
      cases hv : validRx x.1 x.2.1 x.2.2 with
      | true => exact (specParse_yes s x w hs hp hv).mono fun _ _ h => pa_some (by unfold parseAll; rw [hp]; exact if_pos hv) h
      | false => exact (specParse_bad s x w hs hp hv).mono fun _ _ h => pa_none (by unfold parseAll; rw [hp]; exact if_neg (by rw [hv]; decide)) h
end Go.Proofs.Ytfhghgbiemjddaa
