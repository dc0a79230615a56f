/-
  Texts of one proof, one behind the other.
-/
import Derived.Deep.RegionHeld3
import Derived.Maps.AppendAt
import Derived.OneCell
import Derived.StillTailTactics
import Derived.Test.YtjjjdieljljcoaaGreatDoorxPPPack2

/-
  What impl.ParseRegex answers.
-/
namespace Go.Proofs.YtjjjdieljljcoaaGreatDoor
open Go.RowKit
def PaYes (x : Nd) (w : World) (e : Ending) (w' : World) : Prop := ∃ u, e = .returned (.tuple #[.agg #[.int .i64 x.1, .string x.2.1, u], .bool true]) ∧ SlT w' 6 (OwnB w w') u x.2.2 ∧ Below w.heap.size w w'
def PaNo (w : World) (e : Ending) (w' : World) : Prop := e = .returned (.tuple #[.agg #[.int .i64 0, .string ⟨#[]⟩, .slice none 0 0], .bool false]) ∧ Below w.heap.size w w'
def PaPost (s : List UInt8) (w : World) (e : Ending) (w' : World) : Prop :=
  match parseAll s with
  | some x => PaYes x w e w'
  | none => PaNo w e w'

set_option maxRecDepth 100000 in
theorem implParse_none (s : ByteArray) (w : World) (hs : s.size ≤ 1048576) (hp : parse 6 s.data.toList = none) : Calls Tryz.prog 130 #[.string s] w (PaNo w) := by
  have HI := Lib.hid (fun w => (rdAt_all 6 (Nat.le_refl _)).no hp w hs)
  rw [show (((6 : Nat) : Int)) = 6 from rfl] at HI
  clear hp hs
  go_enter Tryz.func130, Tryz.ntmps130
  go_wp2_with fail
  (with_reducible refine (HI.out _).mono ?_)
  rintro e w1 ⟨rfl, hb⟩
  have hb1 : Below (w.heap.size + 1) (w.alloc (.cells #[.int .i64 0, .string ⟨#[]⟩, .slice none 0 0] 26)) w1 := by simpa using hb
  have hz := hb1.size
  rw [World.size_alloc] at hz
  obtain ⟨W2, hW2⟩ : ∃ W2, W2 = w1.alloc (.cells #[.int .i64 0, .string ⟨#[]⟩, .slice none 0 0] 26) := ⟨_, rfl⟩
  have hb2 : Below (w.heap.size + 1) (w.alloc (.cells #[.int .i64 0, .string ⟨#[]⟩, .slice none 0 0] 26)) W2 := by rw [hW2]; exact hb1.alloc hz _
  obtain ⟨-, b0, b1, b2, f0, f1, f2⟩ := box_kept hb2
  have HF := Lib.hid (put3 (k := .int .i64 0) (l := .string ⟨#[]⟩) (u := .slice none 0 0) b0 b1 b2)
  have HB := Lib.hid (((Below.refl w.heap.size w).alloc (Nat.le_refl _) (.cells #[.int .i64 0, .string ⟨#[]⟩, .slice none 0 0] 26)).trans (hb2.mono (Nat.le_succ _)))
  rw [hW2] at b0 b1 b2 f0 f1 f2
  have HW2 := Lib.hid hW2
  clear hb2 hW2
  clear hb hb1
  go_wp2_with fail
  rw [← HW2.out]
  obtain ⟨⟨c0, c1, c2⟩, _, _, hB⟩ := HF.out
  exact bodyPost_ret (v := .tuple #[.agg #[.int .i64 0, .string ⟨#[]⟩, .slice none 0 0], .bool false]) (by simp [results, Tryz.results130, go_sem, c0, c1, c2]) rfl ⟨rfl, hB _ _ HB.out (Nat.le_refl _)⟩
set_option maxRecDepth 100000 in
theorem implParse_rest (s : ByteArray) (x : Nd) (b : UInt8) (t : List UInt8) (w : World) (hs : s.size ≤ 1048576) (hp : parse 6 s.data.toList = some (x, b :: t)) : Calls Tryz.prog 130 #[.string s] w (PaNo w) := by
  have HI := Lib.hid (fun w => (rdAt_all 6 (Nat.le_refl _)).yes hp w hs)
  rw [show (((6 : Nat) : Int)) = 6 from rfl] at HI
  clear hp hs
  go_enter Tryz.func130, Tryz.ntmps130
  go_wp2_with fail
  (with_reducible refine (HI.out _).mono ?_)
  rintro e w1 ⟨u, rs, rfl, hrs, hsl, hb⟩
  have hb1 : Below (w.heap.size + 1) (w.alloc (.cells #[.int .i64 0, .string ⟨#[]⟩, .slice none 0 0] 26)) w1 := by simpa using hb
  obtain ⟨A, c, rfl⟩ := hsl.shape
  have hz := hb1.size
  rw [World.size_alloc] at hz
  have hr0 : ¬ rs.toList = [] := some_bytes hrs
  have hr1 : (!rs.toList.isEmpty) = true := by simpa using hr0
  obtain ⟨W2, hW2⟩ : ∃ W2, W2 = w1.alloc (.cells #[.int .i64 x.1, .string x.2.1, .slice A x.2.2.items.length c] 26) := ⟨_, rfl⟩
  have hb2 : Below (w.heap.size + 1) (w.alloc (.cells #[.int .i64 0, .string ⟨#[]⟩, .slice none 0 0] 26)) W2 := by rw [hW2]; exact hb1.alloc hz _
  obtain ⟨-, b0, b1, b2, f0, f1, f2⟩ := box_kept hb2
  have HF := Lib.hid (put3 (k := .int .i64 0) (l := .string ⟨#[]⟩) (u := .slice none 0 0) b0 b1 b2)
  have HB := Lib.hid (((Below.refl w.heap.size w).alloc (Nat.le_refl _) (.cells #[.int .i64 0, .string ⟨#[]⟩, .slice none 0 0] 26)).trans (hb2.mono (Nat.le_succ _)))
  rw [hW2] at b0 b1 b2 f0 f1 f2
  have HW2 := Lib.hid hW2
  clear hb2 hW2
  clear hb hb1 hsl hrs
  go_wp2_with fail
  rw [← HW2.out]
  obtain ⟨⟨c0, c1, c2⟩, _, _, hB⟩ := HF.out
  exact bodyPost_ret (v := .tuple #[.agg #[.int .i64 0, .string ⟨#[]⟩, .slice none 0 0], .bool false]) (by simp [results, Tryz.results130, go_sem, c0, c1, c2]) rfl ⟨rfl, hB _ _ HB.out (Nat.le_refl _)⟩
set_option maxRecDepth 100000 in
set_option maxHeartbeats 800000 in
theorem implParse_bad (s : ByteArray) (x : Nd) (w : World) (hs : s.size ≤ 1048576) (hp : parse 6 s.data.toList = some (x, [])) (hv : validRx x.1 x.2.1 x.2.2 = false) : Calls Tryz.prog 130 #[.string s] w (PaNo w) := by
  have HI := Lib.hid (fun w => (rdAt_all 6 (Nat.le_refl _)).yes hp w hs)
  rw [show (((6 : Nat) : Int)) = 6 from rfl] at HI
  obtain ⟨-, hx1, hx2⟩ := parse_spec 6 _ x [] hp
  rw [show 2 ^ 6 = 64 from rfl] at hx1
  clear hp hs
  go_enter Tryz.func130, Tryz.ntmps130
  go_wp2_with fail
  (with_reducible refine (HI.out _).mono ?_)
  rintro e w1 ⟨u, rs, rfl, hrs, hsl, hb⟩
  have hb1 : Below (w.heap.size + 1) (w.alloc (.cells #[.int .i64 0, .string ⟨#[]⟩, .slice none 0 0] 26)) w1 := by simpa using hb
  obtain ⟨A, c, rfl⟩ := hsl.shape
  have hz := hb1.size
  rw [World.size_alloc] at hz
  have HV := Lib.hid (fun (W : World) (hW : Below w1.heap.size w1 W) => implValid_any 6 W.heap.size x.1 x.2.1 (.slice A x.2.2.items.length c) x.2.2 W (SlP.mono (fun g hg => hW.block g hg.2) (fun g hg => Nat.lt_of_lt_of_le hg.2 hW.size) hsl.sl) (Nat.le_refl _) (by omega) (by omega))
  rw [hv] at HV
  have hr0 : rs.toList = [] := no_bytes hrs
  have hr1 : (!rs.toList.isEmpty) = false := by rw [hr0]; rfl
  have c0 := (cell_of_row (w1.alloc (.cells #[.int .i64 x.1, .string x.2.1, .slice A x.2.2.items.length c] 26)) _ 0 _ _ (0, 0) (heap_alloc_new w1 (.cells #[.int .i64 x.1, .string x.2.1, .slice A x.2.2.items.length c] 26))).trans (rfl : _ = some (Value.int .i64 x.1))
  clear hb hsl hrs hx1 hx2 hv c0
  have HB1 := Lib.hid hb1
  clear hb1
  go_wp2_with fail
  refine (HV.out _ ((Below.refl _ _).alloc (Nat.le_refl _) _)).mono ?_
  rintro e w2 ⟨rfl, hb3⟩
  have hb12 : Below w1.heap.size w1 w2 := ((Below.refl _ _).alloc (Nat.le_refl _) _).trans (hb3.mono (by simp))
  obtain ⟨W2, hW2⟩ : ∃ W2, W2 = w2 := ⟨_, rfl⟩
  have hb2 : Below (w.heap.size + 1) (w.alloc (.cells #[.int .i64 0, .string ⟨#[]⟩, .slice none 0 0] 26)) W2 := by rw [hW2]; exact HB1.out.trans (hb12.mono hz)
  obtain ⟨-, b0, b1, b2, f0, f1, f2⟩ := box_kept hb2
  have HF := Lib.hid (put3 (k := .int .i64 0) (l := .string ⟨#[]⟩) (u := .slice none 0 0) b0 b1 b2)
  have HB := Lib.hid (((Below.refl w.heap.size w).alloc (Nat.le_refl _) (.cells #[.int .i64 0, .string ⟨#[]⟩, .slice none 0 0] 26)).trans (hb2.mono (Nat.le_succ _)))
  rw [hW2] at b0 b1 b2 f0 f1 f2
  have HW2 := Lib.hid hW2
  clear hb2 hW2
  clear hb3 hb12
  go_wp2_with fail
  rw [← HW2.out]
  obtain ⟨⟨c0, c1, c2⟩, _, _, hB⟩ := HF.out
  exact bodyPost_ret (v := .tuple #[.agg #[.int .i64 0, .string ⟨#[]⟩, .slice none 0 0], .bool false]) (by simp [results, Tryz.results130, go_sem, c0, c1, c2]) rfl ⟨rfl, hB _ _ HB.out (Nat.le_refl _)⟩
set_option maxRecDepth 100000 in
set_option maxHeartbeats 800000 in
theorem implParse_yes (s : ByteArray) (x : Nd) (w : World) (hs : s.size ≤ 1048576) (hp : parse 6 s.data.toList = some (x, [])) (hv : validRx x.1 x.2.1 x.2.2 = true) : Calls Tryz.prog 130 #[.string s] w (PaYes x w) := by
  have HI := Lib.hid (fun w => (rdAt_all 6 (Nat.le_refl _)).yes hp w hs)
  rw [show (((6 : Nat) : Int)) = 6 from rfl] at HI
  obtain ⟨-, hx1, hx2⟩ := parse_spec 6 _ x [] hp
  rw [show 2 ^ 6 = 64 from rfl] at hx1
  clear hp hs
  go_enter Tryz.func130, Tryz.ntmps130
  go_wp2_with fail
  (with_reducible refine (HI.out _).mono ?_)
  rintro e w1 ⟨u, rs, rfl, hrs, hsl, hb⟩
  have hb1 : Below (w.heap.size + 1) (w.alloc (.cells #[.int .i64 0, .string ⟨#[]⟩, .slice none 0 0] 26)) w1 := by simpa using hb
  obtain ⟨A, c, rfl⟩ := hsl.shape
  have hz := hb1.size
  rw [World.size_alloc] at hz
  have HV := Lib.hid (fun (W : World) (hW : Below w1.heap.size w1 W) => implValid_any 6 W.heap.size x.1 x.2.1 (.slice A x.2.2.items.length c) x.2.2 W (SlP.mono (fun g hg => hW.block g hg.2) (fun g hg => Nat.lt_of_lt_of_le hg.2 hW.size) hsl.sl) (Nat.le_refl _) (by omega) (by omega))
  rw [hv] at HV
  have hr0 : rs.toList = [] := no_bytes hrs
  have hr1 : (!rs.toList.isEmpty) = false := by rw [hr0]; rfl
  have HSL := Lib.hid hsl
  clear hb hsl hrs hx1 hx2 hv
  have HB1 := Lib.hid hb1
  clear hb1
  go_wp2_with fail
  refine (HV.out _ ((Below.refl _ _).alloc (Nat.le_refl _) _)).mono ?_
  rintro e w2 ⟨rfl, hb3⟩
  have hb3' : Below (w1.heap.size + 1) (w1.alloc (.cells #[.int .i64 x.1, .string x.2.1, .slice A x.2.2.items.length c] 26)) w2 := by simpa using hb3
  obtain ⟨-, d0, d1, d2, -⟩ := box_kept hb3'
  have hb12 : Below w1.heap.size w1 w2 := ((Below.refl _ _).alloc (Nat.le_refl _) _).trans (hb3.mono (by simp))
  have hb02 : Below (w.heap.size + 1) (w.alloc (.cells #[.int .i64 0, .string ⟨#[]⟩, .slice none 0 0] 26)) w2 := HB1.out.trans (hb12.mono hz)
  obtain ⟨-, b0, b1, b2, f0, f1, f2⟩ := box_kept hb02
  have HF := Lib.hid (rd_end (k := x.1) (l := x.2.1) hb02 (HSL.out.mono (w' := w2) (S' := OwnB (w.alloc (.cells #[.int .i64 0, .string ⟨#[]⟩, .slice none 0 0] 26)) w2) (fun g hg => hb12.block g hg.2) (fun g hg => ⟨hg.1, Nat.lt_of_lt_of_le hg.2 hb12.size⟩)) b0 b1 b2)
  clear hb3 hb3' hb12 hb02
  go_wp2_with fail
  obtain ⟨⟨c0, c1, c2⟩, hS, hB⟩ := HF.out
  exact bodyPost_ret (v := .tuple #[.agg #[.int .i64 x.1, .string x.2.1, .slice A x.2.2.items.length c], .bool true]) (by simp [results, Tryz.results130, go_sem, c0, c1, c2]) rfl ⟨_, rfl, hS, hB⟩

theorem pa_some {l : List UInt8} {x : Nd} {w w' : World} {e : Ending} (hp : parseAll l = some x) (h : PaYes x w e w') : PaPost l w e w' := by unfold PaPost; rw [hp]; exact h
theorem pa_none {l : List UInt8} {w w' : World} {e : Ending} (hp : parseAll l = none) (h : PaNo w e w') : PaPost l w e w' := by unfold PaPost; rw [hp]; exact h
theorem implParse_any (s : ByteArray) (w : World) (hs : s.size ≤ 1048576) : Calls Tryz.prog 130 #[.string s] w (PaPost s.data.toList w) := by
  cases hp : parse 6 s.data.toList with
  | none => exact (implParse_none s w hs hp).mono fun _ _ h => pa_none (by unfold parseAll; rw [hp]) h
  | some p =>
    obtain ⟨x, t⟩ := p
    cases t with
    | cons b t => exact (implParse_rest s x b t w hs hp).mono fun _ _ h => pa_none (by unfold parseAll; rw [hp]) h
    | nil =>
      cases hv : validRx x.1 x.2.1 x.2.2 with
      | true => exact (implParse_yes s x w hs hp hv).mono fun _ _ h => pa_some (by unfold parseAll; rw [hp]; exact if_pos hv) h
      | false => exact (implParse_bad s x w hs hp hv).mono fun _ _ h => pa_none (by unfold parseAll; rw [hp]; exact if_neg (by rw [hv]; decide)) h
end Go.Proofs.YtjjjdieljljcoaaGreatDoor

/-
  What spec.ParseRegex answers: the same as impl.ParseRegex.
-/
namespace Go.Proofs.YtjjjdieljljcoaaGreatDoor
open Go.RowKit
theorem box_grownN {w w1 : World} {a b c : Value} {t : TypeId} {g : Nat} (hg : (w.alloc (.cells #[a, b, c] t)).grownBy w1 (some g)) (hne : g ≠ w.heap.size) :
    w1.heap[w.heap.size]? = some (.cells #[a, b, c] t (0, 0)) ∧ w1.cell? ⟨w.heap.size, 0, none⟩ = some a ∧ w1.cell? ⟨w.heap.size, 1, none⟩ = some b ∧ w1.cell? ⟨w.heap.size, 2, none⟩ = some c ∧
      w1.frozen? ⟨w.heap.size, 0, none⟩ = false ∧ w1.frozen? ⟨w.heap.size, 1, none⟩ = false ∧ w1.frozen? ⟨w.heap.size, 2, none⟩ = false := by
  have h := (hg.block w.heap.size (by simp) (by simpa using fun e : w.heap.size = g => hne e.symm)).trans (heap_alloc_new w _)
  exact ⟨h, (cell_of_row w1 _ 0 _ _ (0, 0) h).trans rfl, (cell_of_row w1 _ 1 _ _ (0, 0) h).trans rfl, (cell_of_row w1 _ 2 _ _ (0, 0) h).trans rfl, frozen_of_row w1 _ 0 _ _ h, frozen_of_row w1 _ 1 _ _ h, frozen_of_row w1 _ 2 _ _ h⟩
theorem grown_below {w w1 : World} {g : Nat} (h : w.grownBy w1 (some g)) (hg : w.heap.size ≤ g) : Below w.heap.size w w1 := ⟨h.os, h.tape, h.output, h.size, fun k hk => h.block k hk (fun e => by cases e; omega)⟩
theorem grown_of_belowN {w w1 : World} (h : Below w.heap.size w w1) (row : Option Nat) : w.grownBy w1 row := ⟨h.os, h.tape, h.output, h.size, fun k hk _ => h.block k hk⟩
/-- The end: the result's cells are written. -/
theorem pa_end {w W2 : World} {d g : Nat} {k : Int} {l : ByteArray} {u : Value} {f : Fr} {S : Nat → Prop} (hg : (w.alloc (.cells #[.int .i64 0, .string ⟨#[]⟩, .slice none 0 0] 26)).grownBy W2 (some g)) (hgw : w.heap.size < g) (hs : SlT W2 d S u f) (hS : ∀ h, S h → w.heap.size + 1 ≤ h ∧ h < W2.heap.size) :
    let W4 := ((W2.setCell ⟨w.heap.size, 0, none⟩ (.int .i64 k)).setCell ⟨w.heap.size, 1, none⟩ (.string l)).setCell ⟨w.heap.size, 2, none⟩ u
    (W4.cell? ⟨w.heap.size, 0, none⟩ = some (.int .i64 k) ∧ W4.cell? ⟨w.heap.size, 1, none⟩ = some (.string l) ∧ W4.cell? ⟨w.heap.size, 2, none⟩ = some u) ∧ SlT W4 d (OwnB w W4) u f ∧ Below w.heap.size w W4 := by
  intro W4
  obtain ⟨-, b0, b1, b2, -⟩ := box_grownN hg (by omega)
  obtain ⟨hc, hsz, hot, hB⟩ := put3 (k := .int .i64 k) (l := .string l) (u := u) b0 b1 b2
  refine ⟨hc, hs.mono (fun h hh => hot h (by have := (hS h hh).1; omega)) (fun h hh => ⟨by have := (hS h hh).1; omega, by rw [hsz]; exact (hS h hh).2⟩), hB _ _ ?_ (Nat.le_refl _)⟩
  exact grown_below (grown_tr (World.grownBy_alloc w (.cells #[.int .i64 0, .string ⟨#[]⟩, .slice none 0 0] 26) (some g)) hg) (Nat.le_of_lt hgw)
theorem pa_zero {w W2 : World} {g : Nat} (hg : (w.alloc (.cells #[.int .i64 0, .string ⟨#[]⟩, .slice none 0 0] 26)).grownBy W2 (some g)) (hgw : w.heap.size < g) :
    let W4 := ((W2.setCell ⟨w.heap.size, 0, none⟩ (.int .i64 0)).setCell ⟨w.heap.size, 1, none⟩ (.string ⟨#[]⟩)).setCell ⟨w.heap.size, 2, none⟩ (.slice none 0 0)
    (W4.cell? ⟨w.heap.size, 0, none⟩ = some (.int .i64 0) ∧ W4.cell? ⟨w.heap.size, 1, none⟩ = some (.string ⟨#[]⟩) ∧ W4.cell? ⟨w.heap.size, 2, none⟩ = some (.slice none 0 0)) ∧ Below w.heap.size w W4 := by
  have h := pa_end (d := 1) (k := 0) (l := ⟨#[]⟩) (u := .slice none 0 0) (f := .nil) (S := fun _ => False) hg hgw (SlT.none _ 0 _ none 0) (fun _ h => h.elim)
  exact ⟨h.1, h.2.2⟩

set_option maxRecDepth 100000 in
set_option maxHeartbeats 1600000 in
theorem specParse_none (s : ByteArray)  (w : World) (hs : s.size ≤ 1048576) (hp : parse 6 s.data.toList = none)  : Calls Tryz.prog 97 #[.string s] w (PaNo w) := by
  have HI := Lib.hid (fun wr hst => (ndAt_all 6 (Nat.le_refl _)).no (D := 1) (by omega) hp wr (g := w.heap.size + 1) hst hs rfl (Nat.zero_le _))
  have hst0 : St ((w.alloc (.cells #[.int .i64 0, .string ⟨#[]⟩, .slice none 0 0] 26)).alloc (.cells #[.string s, .int .i64 0, .bool false] 144)) (w.heap.size + 1) s 0 false := by
    have := heap_alloc_new (w.alloc (.cells #[.int .i64 0, .string ⟨#[]⟩, .slice none 0 0] 26)) (.cells #[.string s, .int .i64 0, .bool false] 144)
    rwa [World.size_alloc] at this
  have HST0 := Lib.hid hst0
  have HG0 := Lib.hid (World.grownBy_alloc (w.alloc (.cells #[.int .i64 0, .string ⟨#[]⟩, .slice none 0 0] 26)) (.cells #[.string s, .int .i64 0, .bool false] 144) (some (w.heap.size + 1)))
  clear hp hst0
  go_enter Tryz.func97, Tryz.ntmps97
  go_wp2_with fail
  (with_reducible refine (HI.out _ HST0.out).mono ?_)
  rintro e w1 ⟨k1, l1, A, m, c, p1, rfl, hst1, hp1, hg1⟩
  have hst : St (w1.alloc (.cells #[.int .i64 k1, .string l1, .slice A m c] 26)) (w.heap.size + 1) s p1 true := hst1.same (Below.heap_alloc _ _ _ hst1.lt)
  obtain ⟨-, q1, q2, -, -⟩ := hst.cells
  have hg2 := grown_tr (grown_tr HG0.out hg1) (World.grownBy_alloc w1 (.cells #[.int .i64 k1, .string l1, .slice A m c] 26) _)
  obtain ⟨W2, hW2⟩ : ∃ W2, W2 = w1.alloc (.cells #[.int .i64 k1, .string l1, .slice A m c] 26) := ⟨_, rfl⟩
  rw [← hW2] at hg2
  obtain ⟨-, b0, b1, b2, f0, f1, f2⟩ := box_grownN hg2 (by omega)
  have HF := Lib.hid (pa_zero hg2 (by omega))
  rw [hW2] at b0 b1 b2 f0 f1 f2
  have HW2 := Lib.hid hW2
  clear hst1 hst hp1 hg1 hg2 hW2
  go_wp2_with fail
  rw [← HW2.out]
  obtain ⟨⟨c0, c1, c2⟩, hB⟩ := HF.out
  exact bodyPost_ret (v := .tuple #[.agg #[.int .i64 0, .string ⟨#[]⟩, .slice none 0 0], .bool false]) (by simp [results, Tryz.results97, go_sem, c0, c1, c2]) rfl ⟨rfl, hB⟩

set_option maxRecDepth 100000 in
set_option maxHeartbeats 1600000 in
theorem specParse_rest (s : ByteArray) (x : Nd) (b : UInt8) (t : List UInt8) (w : World) (hs : s.size ≤ 1048576) (hp : parse 6 s.data.toList = some (x, b :: t))  : Calls Tryz.prog 97 #[.string s] w (PaNo w) := by
  have HI := Lib.hid (fun wr hst => (ndAt_all 6 (Nat.le_refl _)).yes (D := 1) (by omega) hp wr (g := w.heap.size + 1) hst hs rfl (Nat.zero_le _))
  have hst0 : St ((w.alloc (.cells #[.int .i64 0, .string ⟨#[]⟩, .slice none 0 0] 26)).alloc (.cells #[.string s, .int .i64 0, .bool false] 144)) (w.heap.size + 1) s 0 false := by
    have := heap_alloc_new (w.alloc (.cells #[.int .i64 0, .string ⟨#[]⟩, .slice none 0 0] 26)) (.cells #[.string s, .int .i64 0, .bool false] 144)
    rwa [World.size_alloc] at this
  have HST0 := Lib.hid hst0
  have HG0 := Lib.hid (World.grownBy_alloc (w.alloc (.cells #[.int .i64 0, .string ⟨#[]⟩, .slice none 0 0] 26)) (.cells #[.string s, .int .i64 0, .bool false] 144) (some (w.heap.size + 1)))
  clear hp hst0
  go_enter Tryz.func97, Tryz.ntmps97
  go_wp2_with fail
  (with_reducible refine (HI.out _ HST0.out).mono ?_)
  rintro e w1 ⟨u, p1, rfl, hst1, hr1, hp1, hsl, hg1⟩
  obtain ⟨A, c, rfl⟩ := hsl.shape
  have hst : St (w1.alloc (.cells #[.int .i64 x.1, .string x.2.1, .slice A x.2.2.items.length c] 26)) (w.heap.size + 1) s p1 false := hst1.same (Below.heap_alloc _ _ _ hst1.lt)
  obtain ⟨-, q1, q2, -, -⟩ := hst.cells
  have hg2 := grown_tr (grown_tr HG0.out hg1) (World.grownBy_alloc w1 (.cells #[.int .i64 x.1, .string x.2.1, .slice A x.2.2.items.length c] 26) _)
  have hz1 := hg1.size
  rw [World.size_alloc, World.size_alloc] at hz1
  have hne : p1 ≠ s.size := by
    intro e
    subst e
    have := congrArg List.length hr1
    simp at this
  have e1 : ((p1 : Int) == (s.size : Int)) = false := beq_eq_false_iff_ne.2 (by omega)
  have e2 : ((p1 : Int) != (s.size : Int)) = true := bne_iff_ne.2 (by omega)
  obtain ⟨W2, hW2⟩ : ∃ W2, W2 = w1.alloc (.cells #[.int .i64 x.1, .string x.2.1, .slice A x.2.2.items.length c] 26) := ⟨_, rfl⟩
  rw [← hW2] at hg2
  clear hne
  obtain ⟨-, b0, b1, b2, f0, f1, f2⟩ := box_grownN hg2 (by omega)
  have HF := Lib.hid (pa_zero hg2 (by omega))
  rw [hW2] at b0 b1 b2 f0 f1 f2
  have HW2 := Lib.hid hW2
  clear hst1 hst hp1 hg1 hg2 hW2 hr1 hsl hz1
  go_wp2_with fail
  rw [← HW2.out]
  obtain ⟨⟨c0, c1, c2⟩, hB⟩ := HF.out
  exact bodyPost_ret (v := .tuple #[.agg #[.int .i64 0, .string ⟨#[]⟩, .slice none 0 0], .bool false]) (by simp [results, Tryz.results97, go_sem, c0, c1, c2]) rfl ⟨rfl, hB⟩

set_option maxRecDepth 100000 in
set_option maxHeartbeats 1600000 in
theorem specParse_bad (s : ByteArray) (x : Nd) (w : World) (hs : s.size ≤ 1048576) (hp : parse 6 s.data.toList = some (x, [])) (hv : validRx x.1 x.2.1 x.2.2 = false) : Calls Tryz.prog 97 #[.string s] w (PaNo w) := by
  have HI := Lib.hid (fun wr hst => (ndAt_all 6 (Nat.le_refl _)).yes (D := 1) (by omega) hp wr (g := w.heap.size + 1) hst hs rfl (Nat.zero_le _))
  obtain ⟨htx, hx1, hx2⟩ := parse_spec 6 _ x [] hp
  rw [show 2 ^ 6 = 64 from rfl] at hx1
  rw [List.append_nil] at htx
  have hne : ¬ s.toList = [] := by
    intro e
    rw [ByteArray.toList_eq] at e
    rw [e] at hp
    cases hp
  have hfm : formatRx x.1 x.2.1 x.2.2 = [] := by unfold formatRx; rw [if_neg (by rw [hv]; decide)]
  have hst0 : St ((w.alloc (.cells #[.int .i64 0, .string ⟨#[]⟩, .slice none 0 0] 26)).alloc (.cells #[.string s, .int .i64 0, .bool false] 144)) (w.heap.size + 1) s 0 false := by
    have := heap_alloc_new (w.alloc (.cells #[.int .i64 0, .string ⟨#[]⟩, .slice none 0 0] 26)) (.cells #[.string s, .int .i64 0, .bool false] 144)
    rwa [World.size_alloc] at this
  have HST0 := Lib.hid hst0
  have HG0 := Lib.hid (World.grownBy_alloc (w.alloc (.cells #[.int .i64 0, .string ⟨#[]⟩, .slice none 0 0] 26)) (.cells #[.string s, .int .i64 0, .bool false] 144) (some (w.heap.size + 1)))
  clear hp hst0
  go_enter Tryz.func97, Tryz.ntmps97
  go_wp2_with fail
  (with_reducible refine (HI.out _ HST0.out).mono ?_)
  rintro e w1 ⟨u, p1, rfl, hst1, hr1, hp1, hsl, hg1⟩
  obtain ⟨A, c, rfl⟩ := hsl.shape
  have hst : St (w1.alloc (.cells #[.int .i64 x.1, .string x.2.1, .slice A x.2.2.items.length c] 26)) (w.heap.size + 1) s p1 false := hst1.same (Below.heap_alloc _ _ _ hst1.lt)
  obtain ⟨-, q1, q2, -, -⟩ := hst.cells
  have hg2 := grown_tr (grown_tr HG0.out hg1) (World.grownBy_alloc w1 (.cells #[.int .i64 x.1, .string x.2.1, .slice A x.2.2.items.length c] 26) _)
  have hz1 := hg1.size
  rw [World.size_alloc, World.size_alloc] at hz1
  have hpe : p1 = s.size := by
    have := List.drop_eq_nil_iff.1 hr1
    simp at this
    have e : s.data.size = s.size := rfl
    omega
  have e1 : ((p1 : Int) == (s.size : Int)) = true := by simp [hpe]
  have e2 : ((p1 : Int) != (s.size : Int)) = false := by simp [hpe]
  have HFM := Lib.hid (fun (W : World) (hW : Below w1.heap.size w1 W) => specFormat_any 6 W.heap.size x.1 x.2.1 (.slice A x.2.2.items.length c) x.2.2 W (SlP.mono (fun g hg => hW.block g hg.2) (fun g hg => Nat.lt_of_lt_of_le hg.2 hW.size) hsl.sl) (Nat.le_refl _) (by omega) (by omega))
  rw [hfm] at HFM
  clear hpe hfm htx hx1 hx2
  have t1 : s.toList.isEmpty = false := by simpa using hne
  have HG2 := Lib.hid hg2
  have HST1 := Lib.hid hst1.lt
  clear hst1 hst hp1 hg1 hg2 hr1 hsl hv hne
  go_wp2_with fail
  refine (HFM.out _ ((Below.refl _ _).alloc (Nat.le_refl _) _)).mono ?_
  rintro e w2 ⟨rfl, hb2⟩
  have hb2' : Below (w1.heap.size + 1) (w1.alloc (.cells #[.int .i64 x.1, .string x.2.1, .slice A x.2.2.items.length c] 26)) w2 := by simpa using hb2
  obtain ⟨-, d0, d1, d2, -⟩ := box_kept hb2'
  have hg3 := grown_tr HG2.out (grown_of_belowN hb2 (some (w.heap.size + 1)))
  have hz2 := hb2'.size
  rw [World.size_alloc] at hz2
  obtain ⟨-, b0, b1, b2, f0, f1, f2⟩ := box_grownN hg3 (by omega)
  have HF := Lib.hid (pa_zero hg3 (by omega))
  clear hb2 hb2' hg3
  go_wp2_with fail
  obtain ⟨⟨c0, c1, c2⟩, hB⟩ := HF.out
  exact bodyPost_ret (v := .tuple #[.agg #[.int .i64 0, .string ⟨#[]⟩, .slice none 0 0], .bool false]) (by simp [results, Tryz.results97, go_sem, c0, c1, c2]) rfl ⟨rfl, hB⟩

set_option maxRecDepth 100000 in
set_option maxHeartbeats 1600000 in
theorem specParse_yes (s : ByteArray) (x : Nd) (w : World) (hs : s.size ≤ 1048576) (hp : parse 6 s.data.toList = some (x, [])) (hv : validRx x.1 x.2.1 x.2.2 = true) : Calls Tryz.prog 97 #[.string s] w (PaYes x w) := by
  have HI := Lib.hid (fun wr hst => (ndAt_all 6 (Nat.le_refl _)).yes (D := 1) (by omega) hp wr (g := w.heap.size + 1) hst hs rfl (Nat.zero_le _))
  obtain ⟨htx, hx1, hx2⟩ := parse_spec 6 _ x [] hp
  rw [show 2 ^ 6 = 64 from rfl] at hx1
  rw [List.append_nil] at htx
  have hfm : (⟨(formatRx x.1 x.2.1 x.2.2).toArray⟩ : ByteArray) = s := by
    unfold formatRx
    rw [if_pos hv]
    exact ByteArray.ext (by rw [← Array.toList_inj]; exact htx.symm)
  have hst0 : St ((w.alloc (.cells #[.int .i64 0, .string ⟨#[]⟩, .slice none 0 0] 26)).alloc (.cells #[.string s, .int .i64 0, .bool false] 144)) (w.heap.size + 1) s 0 false := by
    have := heap_alloc_new (w.alloc (.cells #[.int .i64 0, .string ⟨#[]⟩, .slice none 0 0] 26)) (.cells #[.string s, .int .i64 0, .bool false] 144)
    rwa [World.size_alloc] at this
  have HST0 := Lib.hid hst0
  have HG0 := Lib.hid (World.grownBy_alloc (w.alloc (.cells #[.int .i64 0, .string ⟨#[]⟩, .slice none 0 0] 26)) (.cells #[.string s, .int .i64 0, .bool false] 144) (some (w.heap.size + 1)))
  clear hp hst0
  go_enter Tryz.func97, Tryz.ntmps97
  go_wp2_with fail
  (with_reducible refine (HI.out _ HST0.out).mono ?_)
  rintro e w1 ⟨u, p1, rfl, hst1, hr1, hp1, hsl, hg1⟩
  obtain ⟨A, c, rfl⟩ := hsl.shape
  have hst : St (w1.alloc (.cells #[.int .i64 x.1, .string x.2.1, .slice A x.2.2.items.length c] 26)) (w.heap.size + 1) s p1 false := hst1.same (Below.heap_alloc _ _ _ hst1.lt)
  obtain ⟨-, q1, q2, -, -⟩ := hst.cells
  have hg2 := grown_tr (grown_tr HG0.out hg1) (World.grownBy_alloc w1 (.cells #[.int .i64 x.1, .string x.2.1, .slice A x.2.2.items.length c] 26) _)
  have hz1 := hg1.size
  rw [World.size_alloc, World.size_alloc] at hz1
  have hpe : p1 = s.size := by
    have := List.drop_eq_nil_iff.1 hr1
    simp at this
    have e : s.data.size = s.size := rfl
    omega
  have e1 : ((p1 : Int) == (s.size : Int)) = true := by simp [hpe]
  have e2 : ((p1 : Int) != (s.size : Int)) = false := by simp [hpe]
  have HFM := Lib.hid (fun (W : World) (hW : Below w1.heap.size w1 W) => specFormat_any 6 W.heap.size x.1 x.2.1 (.slice A x.2.2.items.length c) x.2.2 W (SlP.mono (fun g hg => hW.block g hg.2) (fun g hg => Nat.lt_of_lt_of_le hg.2 hW.size) hsl.sl) (Nat.le_refl _) (by omega) (by omega))
  rw [hfm] at HFM
  clear hpe hfm htx hx1 hx2
  have HSL := Lib.hid hsl
  have HG2 := Lib.hid hg2
  have HST1 := Lib.hid hst1.lt
  clear hst1 hst hp1 hg1 hg2 hr1 hsl hv
  go_wp2_with fail
  refine (HFM.out _ ((Below.refl _ _).alloc (Nat.le_refl _) _)).mono ?_
  rintro e w2 ⟨rfl, hb2⟩
  have hb2' : Below (w1.heap.size + 1) (w1.alloc (.cells #[.int .i64 x.1, .string x.2.1, .slice A x.2.2.items.length c] 26)) w2 := by simpa using hb2
  obtain ⟨-, d0, d1, d2, -⟩ := box_kept hb2'
  have hg3 := grown_tr HG2.out (grown_of_belowN hb2 (some (w.heap.size + 1)))
  have hz2 := hb2'.size
  rw [World.size_alloc] at hz2
  obtain ⟨-, b0, b1, b2, f0, f1, f2⟩ := box_grownN hg3 (by omega)
  have HF := Lib.hid (pa_end (k := x.1) (l := x.2.1) hg3 (by omega) (HSL.out.mono (w' := w2) (fun g hg => (hb2.block g (by have := hg.2; simp; omega)).trans (Below.heap_alloc _ _ g hg.2)) (fun _ h => h)) (fun h hh => ⟨by have := hh.1; simp at this; omega, by have := hh.2; omega⟩))
  clear hb2 hb2' hg3
  go_wp2_with fail
  obtain ⟨⟨c0, c1, c2⟩, hS, hB⟩ := HF.out
  exact bodyPost_ret (v := .tuple #[.agg #[.int .i64 x.1, .string x.2.1, .slice A x.2.2.items.length c], .bool true]) (by simp [results, Tryz.results97, go_sem, c0, c1, c2]) rfl ⟨_, rfl, hS, hB⟩

theorem specParse_any (s : ByteArray) (w : World) (hs : s.size ≤ 1048576) : Calls Tryz.prog 97 #[.string s] w (PaPost s.data.toList w) := by
  cases hp : parse 6 s.data.toList with
  | none => exact (specParse_none s w hs hp).mono fun _ _ h => pa_none (by unfold parseAll; rw [hp]) h
  | some p =>
    obtain ⟨x, t⟩ := p
    cases t with
    | cons b t => exact (specParse_rest s x b t w hs hp).mono fun _ _ h => pa_none (by unfold parseAll; rw [hp]) h
    | nil =>
      cases hv : validRx x.1 x.2.1 x.2.2 with
      | true => exact (specParse_yes s x w hs hp hv).mono fun _ _ h => pa_some (by unfold parseAll; rw [hp]; exact if_pos hv) h
      | false => exact (specParse_bad s x w hs hp hv).mono fun _ _ h => pa_none (by unfold parseAll; rw [hp]; exact if_neg (by rw [hv]; decide)) h
end Go.Proofs.YtjjjdieljljcoaaGreatDoor

/-
  What spec's l9Read, l9Parse answer.
-/
namespace Go.Proofs.YtjjjdieljljcoaaGreatDoor
open Go.RowKit

set_option maxRecDepth 100000 in
set_option maxHeartbeats 800000 in
theorem specRead_any (p : List UInt8) (s : ByteArray) (w : World) (hs : s.data.toList = p) :
    Calls Tryz.prog 96 #[.string s] w fun e w' => e = .returned (.string (strL (readT p))) ∧ w = w' := by
  have hl : s.toList = p := by rw [ByteArray.toList_eq, hs]
  by_cases h : p = [45]
  · have HR := Lib.hid (show strL (readT p) = ⟨#[]⟩ by unfold readT; rw [if_pos h]; rfl)
    have h' : (s.toList == [45]) = true := by rw [hl, h]; rfl
    have h2 : s.toList = [45] := by rw [hl, h]
    clear h hl hs
    go_enter Tryz.func96, Tryz.ntmps96
    go_wp2
    go_ret
    exact ⟨congrArg (fun z => Ending.returned (.string z)) HR.out.symm, rfl⟩
  · have HR := Lib.hid (show strL (readT p) = s by unfold readT; rw [if_neg h, ← hs]; exact strL_self s)
    have h' : (s.toList == [45]) = false := by rw [hl]; exact beq_eq_false_iff_ne.2 h
    have h2 : ¬ s.toList = [45] := by rw [hl]; exact h
    clear h hl hs
    go_enter Tryz.func96, Tryz.ntmps96
    go_wp2
    go_ret
    exact ⟨congrArg (fun z => Ending.returned (.string z)) HR.out.symm, rfl⟩

/-- The expression that a text is, or the zero value, and some bool. -/
def RxPost (p : List UInt8) (w : World) (e : Ending) (w' : World) : Prop :=
  ∃ A c ok, e = .returned (.tuple #[.agg #[.int .i64 (readX p).1, .string (readX p).2.1, .slice A (readX p).2.2.items.length c], .bool ok]) ∧ SlT w' 6 (OwnB w w') (.slice A (readX p).2.2.items.length c) (readX p).2.2 ∧ Below w.heap.size w w'
theorem rx_of_pa {p : List UInt8} {w w' : World} {e : Ending} (h : PaPost p w e w') : RxPost p w e w' := by
  unfold PaPost at h
  unfold RxPost readX
  split at h
  · rename_i x hx
    obtain ⟨u, rfl, hs, hb⟩ := h
    rw [hx]
    obtain ⟨A, c, rfl⟩ := hs.shape
    exact ⟨A, c, true, rfl, hs, hb⟩
  · rename_i hx
    obtain ⟨rfl, hb⟩ := h
    rw [hx]
    exact ⟨none, 0, false, rfl, SlT.none w' 5 _ none 0, hb⟩
theorem specRx_any (s : ByteArray) (w : World) (hs : s.size ≤ 1048576) : Calls Tryz.prog 97 #[.string s] w (RxPost s.data.toList w) :=
  (specParse_any s w hs).mono fun _ _ h => rx_of_pa h
theorem readX_size (p : List UInt8) (_hp : p.length ≤ 1048576) : (readX p).2.1.size ≤ maxI ∧ (readX p).2.2.size ≤ 64 := by
  unfold readX
  cases hx : parseAll p with
  | none => exact ⟨Nat.zero_le _, Nat.zero_le _⟩
  | some x =>
    unfold parseAll at hx
    split at hx
    · rename_i y hy
      split at hx
      · cases hx
        have h := parse_spec 6 p x [] hy
        exact ⟨Nat.le_trans h.2.2 (by decide), by have := h.2.1; show x.2.2.size ≤ 64; omega⟩
      · cases hx
    · cases hx

theorem readT_le (p : List UInt8) : (readT p).length ≤ p.length := by
  unfold readT
  split
  · simp
  · exact Nat.le_refl _
/-- A constraint whose tree is its own, without numbers. -/
theorem CnT.tree {w : World} {S ST : Nat → Prop} {xu : Value} {n : Nat} {c : Cx} {A : Option Addr} {m : Nat} (hl : c.l.size ≤ maxI) (hr : c.r.size ≤ maxI) (hx : c.xl.size ≤ maxI) (ht : SlT w n ST xu c.xa) (hS : ∀ g, ST g → S g) (hc : c.cs = []) : CnT w S xu (.slice A 0 m) c := by
  refine ⟨⟨hl, hr, hx⟩, n, ST, fun _ => False, ht, ?_, fun g hg => ⟨hS g hg, fun h => h⟩, fun _ h => h.elim⟩
  rw [hc]
  exact RowO.nil w _ A m
/-- What l9Parse reads, form by form. -/
noncomputable def parseCx (ps : List (List UInt8)) : Cx :=
  if ps.headD [] = [108, 101, 110] then lenCx ps
  else if ps.length ≠ 3 then zeroX
  else if ps.getD 1 [] = [61] then ⟨1, strL (readT (ps.getD 0 [])), strL (readT (ps.getD 2 [])), 0, ⟨#[]⟩, .nil, [], 0⟩
  else if ps.getD 1 [] = [33, 61] then ⟨2, strL (readT (ps.getD 0 [])), strL (readT (ps.getD 2 [])), 0, ⟨#[]⟩, .nil, [], 0⟩
  else if ps.getD 1 [] = [105, 110] then ⟨3, strL (readT (ps.getD 0 [])), ⟨#[]⟩, (readX (ps.getD 2 [])).1, (readX (ps.getD 2 [])).2.1, (readX (ps.getD 2 [])).2.2, [], 0⟩
  else if ps.getD 1 [] = [111, 117, 116] then ⟨4, strL (readT (ps.getD 0 [])), ⟨#[]⟩, (readX (ps.getD 2 [])).1, (readX (ps.getD 2 [])).2.1, (readX (ps.getD 2 [])).2.2, [], 0⟩
  else ⟨0, strL (readT (ps.getD 0 [])), ⟨#[]⟩, 0, ⟨#[]⟩, .nil, [], 0⟩
theorem parseCx_cn (ps : List (List UInt8)) : (parseCx ps).cn = parseC ps := by
  unfold parseCx parseC
  repeat' split
  all_goals first | rfl | (simp only [Cx.cn, strL_list]; rfl)
theorem zero_end (w : World) (t : TypeId) : CopyC zeroX w (.returned (.agg #[.int .i64 0, .string ⟨#[]⟩, .string ⟨#[]⟩, .int .i64 0, .string ⟨#[]⟩, .slice none 0 0, .slice none 0 0, .int .i64 0])) (w.alloc (.cells #[.int .i64 0, .string ⟨#[]⟩, .string ⟨#[]⟩, .int .i64 0, .string ⟨#[]⟩, .slice none 0 0, .slice none 0 0, .int .i64 0] t)) :=
  ⟨_, _, rfl, CnT.leaf _ _ none none 0 0 zeroX (Nat.zero_le _) (Nat.zero_le _) (Nat.zero_le _) rfl rfl, (Below.refl _ _).alloc (Nat.le_refl _) _⟩

set_option maxRecDepth 100000 in
set_option maxHeartbeats 6400000 in
theorem specParse9_any (ps : List (List UInt8)) (v : Value) (B : Nat) (w : World) (hown : w.ownsRow B 9 1 v ps.length (strs ps)) (hn : 1 ≤ ps.length) (hn2 : ps.length ≤ 1048577) (hz : ∀ p ∈ ps, p.length ≤ 1048576) :
    Calls Tryz.prog 49 #[v] w (CopyC (parseCx ps) w) := by
  obtain ⟨g, c, rfl, hg, hc⟩ := strRow_at hown hn
  obtain ⟨p0, hp0⟩ : ∃ p0 : ByteArray, p0 = ⟨(ps[0]'(by omega)).toArray⟩ := ⟨_, rfl⟩
  have c00 := hc 0 (by omega)
  rw [← hp0] at c00
  have hp0l : p0.toList = ps[0]'(by omega) := by rw [ByteArray.toList_eq, hp0]
  have hhd : ps.headD [] = ps[0]'(by omega) := by rw [List.headD_eq_head?_getD, List.head?_eq_getElem?, List.getElem?_eq_getElem (by omega)]; rfl
  by_cases h0 : ps.headD [] = [108, 101, 110]
  · have HR := Lib.hid (show parseCx ps = lenCx ps from if_pos h0)
    have e1 : (p0.toList == [108, 101, 110]) = true := by rw [hp0l, ← hhd, h0]; rfl
    have e2 : p0.toList = [108, 101, 110] := by rw [hp0l, ← hhd, h0]
    have HL := Lib.hid (specLen_any ps (.slice (some ⟨g, 0, none⟩) ps.length c) B (w.alloc (.cells #[.int .i64 0, .string ⟨#[]⟩, .string ⟨#[]⟩, .int .i64 0, .string ⟨#[]⟩, .slice none 0 0, .slice none 0 0, .int .i64 0] 29)) (hown.alloc _) hn hn2 hz)
    have hn' : (0 : Int) < ps.length := by omega
    clear hown hc hz hp0 hp0l hhd h0
    go_enter Tryz.func49, Tryz.ntmps49
    go_wp2_with fail
    refine HL.out.mono ?_
    rintro e w1 hp
    obtain ⟨A, m, B', r, rfl, ht, hb⟩ := hp.shape
    have HT := Lib.hid ht
    have hb' : Below (w.heap.size + 1) (w.alloc (.cells #[.int .i64 0, .string ⟨#[]⟩, .string ⟨#[]⟩, .int .i64 0, .string ⟨#[]⟩, .slice none 0 0, .slice none 0 0, .int .i64 0] 29)) w1 := by simpa using hb
    have hbw := Lib.hid (((Below.refl w.heap.size w).alloc (Nat.le_refl _) (.cells #[.int .i64 0, .string ⟨#[]⟩, .string ⟨#[]⟩, .int .i64 0, .string ⟨#[]⟩, .slice none 0 0, .slice none 0 0, .int .i64 0] 29)).trans (hb'.mono (Nat.le_succ _)))
    have hrb : w1.heap[w.heap.size]? = some (.cells (cxA zeroX (.slice none 0 0) (.slice none 0 0)) 29 (0, 0)) := (hb'.block w.heap.size (Nat.lt_succ_self _)).trans (heap_alloc_new w _)
    obtain ⟨r0, r1, r2, r3, r4, r5, r6, r7⟩ := BoxC.cells (c := zeroX) ⟨_, hrb⟩
    have fr := BoxC.frozen (c := zeroX) ⟨_, hrb⟩
    have f00 := fr 0
    have f01 := fr 1
    have f02 := fr 2
    have f03 := fr 3
    have f04 := fr 4
    have f05 := fr 5
    have f06 := fr 6
    have f07 := fr 7
    have HRB := Lib.hid hrb
    obtain ⟨lc, hlc⟩ : ∃ lc, lc = lenCx ps := ⟨_, rfl⟩
    rw [← hlc] at HR HT ⊢
    clear hp ht hb hb' hrb fr hlc
    go_wp2_with fail
    obtain ⟨⟨k0, k1, k2, k3, k4, k5, k6, k7⟩, hcp⟩ := copyC_end (w := w) (c := lc) HRB.out rfl (HT.out.mono (fun _ _ => rfl) (fun g hg => ⟨by have := hg.1; simp at this; omega, hg.2⟩)) hbw.out
    unfold put8 at k0 k1 k2 k3 k4 k5 k6 k7 hcp
    refine bodyPost_ret (v := .agg #[.int .i64 lc.k, .string lc.l, .string lc.r, .int .i64 lc.xk, .string lc.xl, .slice A lc.xa.items.length m, .slice B' lc.cs.length r, .int .i64 lc.b]) (by simp [results, Tryz.results49, go_sem, k0, k1, k2, k3, k4, k5, k6, k7]) rfl ?_
    rw [HR.out]
    exact hcp
  · have e1 : (p0.toList == [108, 101, 110]) = false := by rw [hp0l, ← hhd]; exact beq_eq_false_iff_ne.2 h0
    have e2 : ¬ p0.toList = [108, 101, 110] := by rw [hp0l, ← hhd]; exact h0
    by_cases h3 : ps.length = 3
    · obtain ⟨a, b, d, rfl⟩ : ∃ a b d, ps = [a, b, d] := by
        match ps, h3 with
        | [a, b, d], _ => exact ⟨a, b, d, rfl⟩
      have HN0 := Lib.hid h0
      obtain ⟨pb, hpb⟩ : ∃ pb : ByteArray, pb = ⟨b.toArray⟩ := ⟨_, rfl⟩
      obtain ⟨pd, hpd⟩ : ∃ pd : ByteArray, pd = ⟨d.toArray⟩ := ⟨_, rfl⟩
      have c01 := hc 1 (by simp)
      have c02 := hc 2 (by simp)
      simp only [List.getElem_cons_succ, List.getElem_cons_zero] at c01 c02 hp0
      rw [← hpb] at c01
      rw [← hpd] at c02
      have HRa := Lib.hid (fun V => specRead_any a p0 V (by rw [hp0]))
      have HRd := Lib.hid (fun V => specRead_any d pd V (by rw [hpd]))
      have hpbl : pb.toList = b := by rw [ByteArray.toList_eq, hpb]
      have hza : a.length ≤ maxI := Nat.le_trans (hz a (by simp)) (by decide)
      have hzd2 := hz d (by simp)
      have hzd' : d.length ≤ maxI := Nat.le_trans (hz d (by simp)) (by decide)
      have hzd : pd.size ≤ 1048576 := by rw [hpd]; have := hz d (by simp); show d.toArray.size ≤ _; rw [List.size_toArray]; exact this
      have HX := Lib.hid (fun V => specRx_any pd V hzd)
      obtain ⟨la, hla⟩ : ∃ la, la = strL (readT a) := ⟨_, rfl⟩
      obtain ⟨ld, hld⟩ : ∃ ld, ld = strL (readT d) := ⟨_, rfl⟩
      rw [← hla] at HRa
      rw [← hld] at HRd
      have HLA := Lib.hid hla
      have HLD := Lib.hid hld
      have HPD := Lib.hid hpd
      have hlt0 : (0 : Int) < 3 := by omega
      have hlt1 : (1 : Int) < 3 := by omega
      have hlt2 : (2 : Int) < 3 := by omega
      clear hown hc hz hp0 hp0l hhd h0 h3 hpb hpd hla hld hn hn2
      by_cases q1 : b = [61]
      · have HR := Lib.hid (show parseCx [a, b, d] = ⟨1, la, ld, 0, ⟨#[]⟩, .nil, [], 0⟩ by unfold parseCx; rw [if_neg HN0.out, if_neg (by simp), if_pos (show [a, b, d].getD 1 [] = [61] from q1)]; rw [HLA.out, HLD.out]; rfl)
        have t1 : (pb.toList == [61]) = true := by rw [hpbl, q1]; rfl
        have t1' : pb.toList = [61] := by rw [hpbl, q1]
        clear hpbl q1
        go_enter Tryz.func49, Tryz.ntmps49
        go_wp2_with fail
        refine (HRa.out _).mono ?_
        rintro e' w' ⟨rfl, rfl⟩
        go_wp2_with fail
        refine (HRd.out _).mono ?_
        rintro e' w' ⟨rfl, rfl⟩
        go_wp2_with fail
        refine bodyPost_ret (v := .agg #[.int .i64 1, .string la, .string ld, .int .i64 0, .string ⟨#[]⟩, .slice none 0 0, .slice none 0 0, .int .i64 0]) (by simp [results, Tryz.results49, go_sem]) rfl ?_
        rw [HR.out]
        exact ⟨_, _, rfl, CnT.leaf _ _ none none 0 0 _ (by show la.size ≤ maxI; rw [HLA.out, strL_size]; exact Nat.le_trans (readT_le a) hza) (by rw [HLD.out, strL_size]; exact Nat.le_trans (readT_le d) hzd') (Nat.zero_le _) rfl rfl, ((Below.refl _ _).alloc (Nat.le_refl _) _).alloc (by simp) _⟩
      · by_cases q2 : b = [33, 61]
        · have HR := Lib.hid (show parseCx [a, b, d] = ⟨2, la, ld, 0, ⟨#[]⟩, .nil, [], 0⟩ by unfold parseCx; rw [if_neg HN0.out, if_neg (by simp), if_neg (show ¬ [a, b, d].getD 1 [] = [61] from q1), if_pos (show [a, b, d].getD 1 [] = [33, 61] from q2)]; rw [HLA.out, HLD.out]; rfl)
          have t1 : (pb.toList == [61]) = false := by rw [hpbl]; exact beq_eq_false_iff_ne.2 q1
          have t1' : ¬ pb.toList = [61] := by rw [hpbl]; exact q1
          have t2 : (pb.toList == [33, 61]) = true := by rw [hpbl, q2]; rfl
          have t2' : pb.toList = [33, 61] := by rw [hpbl, q2]
          clear hpbl q1 q2
          go_enter Tryz.func49, Tryz.ntmps49
          go_wp2_with fail
          refine (HRa.out _).mono ?_
          rintro e' w' ⟨rfl, rfl⟩
          go_wp2_with fail
          refine (HRd.out _).mono ?_
          rintro e' w' ⟨rfl, rfl⟩
          go_wp2_with fail
          refine bodyPost_ret (v := .agg #[.int .i64 2, .string la, .string ld, .int .i64 0, .string ⟨#[]⟩, .slice none 0 0, .slice none 0 0, .int .i64 0]) (by simp [results, Tryz.results49, go_sem]) rfl ?_
          rw [HR.out]
          exact ⟨_, _, rfl, CnT.leaf _ _ none none 0 0 _ (by show la.size ≤ maxI; rw [HLA.out, strL_size]; exact Nat.le_trans (readT_le a) hza) (by rw [HLD.out, strL_size]; exact Nat.le_trans (readT_le d) hzd') (Nat.zero_le _) rfl rfl, ((Below.refl _ _).alloc (Nat.le_refl _) _).alloc (by simp) _⟩
        · by_cases q3 : b = [105, 110]
          · have HR := Lib.hid (show parseCx [a, b, d] = ⟨3, la, ⟨#[]⟩, (readX d).1, (readX d).2.1, (readX d).2.2, [], 0⟩ by unfold parseCx; rw [if_neg HN0.out, if_neg (by simp), if_neg (show ¬ [a, b, d].getD 1 [] = [61] from q1), if_neg (show ¬ [a, b, d].getD 1 [] = [33, 61] from q2), if_pos (show [a, b, d].getD 1 [] = [105, 110] from q3)]; rw [HLA.out]; rfl)
            have t1 : (pb.toList == [61]) = false := by rw [hpbl]; exact beq_eq_false_iff_ne.2 q1
            have t1' : ¬ pb.toList = [61] := by rw [hpbl]; exact q1
            have t2 : (pb.toList == [33, 61]) = false := by rw [hpbl]; exact beq_eq_false_iff_ne.2 q2
            have t2' : ¬ pb.toList = [33, 61] := by rw [hpbl]; exact q2
            have t3 : (pb.toList == [105, 110]) = true := by rw [hpbl, q3]; rfl
            have t3' : pb.toList = [105, 110] := by rw [hpbl, q3]
            have HXd := Lib.hid (fun V => (HX.out V))
            rw [show pd.data.toList = d by rw [HPD.out]] at HXd
            unfold RxPost at HXd
            have hxs := (readX_size d hzd2).1
            obtain ⟨x, hx⟩ : ∃ x, x = readX d := ⟨_, rfl⟩
            rw [← hx] at HR HXd hxs
            obtain ⟨xk, xl, xa⟩ := x
            simp only at HR HXd hxs
            clear hx hpbl q1 q2 q3
            have hb0 : Below w.heap.size w ((w.alloc (.cells #[.int .i64 0, .string ⟨#[]⟩, .string ⟨#[]⟩, .int .i64 0, .string ⟨#[]⟩, .slice none 0 0, .slice none 0 0, .int .i64 0] 29)).alloc (.cells #[.int .i64 3, .string la, .string ⟨#[]⟩, .int .i64 0, .string ⟨#[]⟩, .slice none 0 0, .slice none 0 0, .int .i64 0] 29)) := ((Below.refl _ _).alloc (Nat.le_refl _) _).alloc (by simp) _
            have hrb0 : ((w.alloc (.cells #[.int .i64 0, .string ⟨#[]⟩, .string ⟨#[]⟩, .int .i64 0, .string ⟨#[]⟩, .slice none 0 0, .slice none 0 0, .int .i64 0] 29)).alloc (.cells #[.int .i64 3, .string la, .string ⟨#[]⟩, .int .i64 0, .string ⟨#[]⟩, .slice none 0 0, .slice none 0 0, .int .i64 0] 29)).heap[w.heap.size]? = some (.cells (cxA zeroX (.slice none 0 0) (.slice none 0 0)) 29 (0, 0)) := (Below.heap_alloc _ _ _ (by simp)).trans (heap_alloc_new w _)
            have hob0 : ((w.alloc (.cells #[.int .i64 0, .string ⟨#[]⟩, .string ⟨#[]⟩, .int .i64 0, .string ⟨#[]⟩, .slice none 0 0, .slice none 0 0, .int .i64 0] 29)).alloc (.cells #[.int .i64 3, .string la, .string ⟨#[]⟩, .int .i64 0, .string ⟨#[]⟩, .slice none 0 0, .slice none 0 0, .int .i64 0] 29)).heap[w.heap.size + 1]? = some (.cells (cxA ⟨3, la, ⟨#[]⟩, 0, ⟨#[]⟩, .nil, [], 0⟩ (.slice none 0 0) (.slice none 0 0)) 29 (0, 0)) := by
              have := heap_alloc_new (w.alloc (.cells #[.int .i64 0, .string ⟨#[]⟩, .string ⟨#[]⟩, .int .i64 0, .string ⟨#[]⟩, .slice none 0 0, .slice none 0 0, .int .i64 0] 29)) (.cells #[.int .i64 3, .string la, .string ⟨#[]⟩, .int .i64 0, .string ⟨#[]⟩, .slice none 0 0, .slice none 0 0, .int .i64 0] 29)
              rw [World.size_alloc] at this
              exact this
            have hz0 : ((w.alloc (.cells #[.int .i64 0, .string ⟨#[]⟩, .string ⟨#[]⟩, .int .i64 0, .string ⟨#[]⟩, .slice none 0 0, .slice none 0 0, .int .i64 0] 29)).alloc (.cells #[.int .i64 3, .string la, .string ⟨#[]⟩, .int .i64 0, .string ⟨#[]⟩, .slice none 0 0, .slice none 0 0, .int .i64 0] 29)).heap.size = w.heap.size + 1 + 1 := by simp
            have HB0 := Lib.hid hb0
            have HRB0 := Lib.hid hrb0
            have HOB0 := Lib.hid hob0
            have HZ0 := Lib.hid hz0
            clear hb0 hrb0 hob0 hz0
            go_enter Tryz.func49, Tryz.ntmps49
            go_wp2_with fail
            refine (HRa.out _).mono ?_
            rintro e' w' ⟨rfl, rfl⟩
            go_wp2_with fail
            obtain ⟨W, hW⟩ : ∃ W, W = (w.alloc (.cells #[.int .i64 0, .string ⟨#[]⟩, .string ⟨#[]⟩, .int .i64 0, .string ⟨#[]⟩, .slice none 0 0, .slice none 0 0, .int .i64 0] 29)).alloc (.cells #[.int .i64 3, .string la, .string ⟨#[]⟩, .int .i64 0, .string ⟨#[]⟩, .slice none 0 0, .slice none 0 0, .int .i64 0] 29) := ⟨_, rfl⟩
            rw [← hW] at HB0 HRB0 HOB0 HZ0 ⊢
            refine (HXd.out W).mono ?_
            rintro e' w1 ⟨A, m, ok, rfl, hs, hb⟩
            have HS := Lib.hid hs
            have HB := Lib.hid hb
            have hrb := (hb.block w.heap.size (by have := HZ0.out; omega)).trans HRB0.out
            have hob := (hb.block (w.heap.size + 1) (by have := HZ0.out; omega)).trans HOB0.out
            have HRB := Lib.hid hrb
            obtain ⟨r0, r1, r2, r3, r4, r5, r6, r7⟩ := BoxC.cells (c := zeroX) ⟨_, hrb⟩
            obtain ⟨b0, b1, b2, b3, b4, b5, b6, b7⟩ := BoxC.cells (c := ⟨3, la, ⟨#[]⟩, 0, ⟨#[]⟩, .nil, [], 0⟩) ⟨_, hob⟩
            have fr := BoxC.frozen (c := zeroX) ⟨_, hrb⟩
            have fo := BoxC.frozen (c := ⟨3, la, ⟨#[]⟩, 0, ⟨#[]⟩, .nil, [], 0⟩) ⟨_, hob⟩
            have f00 := fr 0
            have f01 := fr 1
            have f02 := fr 2
            have f03 := fr 3
            have f04 := fr 4
            have f05 := fr 5
            have f06 := fr 6
            have f07 := fr 7
            have g03 := fo 3
            have g04 := fo 4
            have g05 := fo 5
            clear hs hb hrb hob fr fo hW
            go_wp2_with fail
            obtain ⟨X, hXe⟩ : ∃ X, X = ((w1.setCell ⟨w.heap.size + 1, 3, none⟩ (.int .i64 xk)).setCell ⟨w.heap.size + 1, 4, none⟩ (.string xl)).setCell ⟨w.heap.size + 1, 5, none⟩ (.slice A xa.items.length m) := ⟨_, rfl⟩
            have hXo : ∀ q, q ≠ w.heap.size + 1 → X.heap[q]? = w1.heap[q]? := fun q hq => by rw [hXe, Below.heap_setCell _ _ _ _ hq, Below.heap_setCell _ _ _ _ hq, Below.heap_setCell _ _ _ _ hq]
            have hXz : X.heap.size = w1.heap.size := by rw [hXe]; simp [World.setCell]
            have hXw : Below w.heap.size w X := by
              rw [hXe]
              exact (((HB0.out.trans (HB.out.mono HB0.out.size)).setCell (p := ⟨w.heap.size + 1, 3, none⟩) (by simp) _).setCell (p := ⟨w.heap.size + 1, 4, none⟩) (by simp) _).setCell (p := ⟨w.heap.size + 1, 5, none⟩) (by simp) _
            rw [← hXe]
            obtain ⟨⟨k0, k1, k2, k3, k4, k5, k6, k7⟩, hcp⟩ := copyC_end (w := w) (c := ⟨3, la, ⟨#[]⟩, xk, xl, xa, [], 0⟩) (xu := .slice A xa.items.length m) (vc := .slice none 0 0) ((hXo _ (by omega)).trans HRB.out) rfl (CnT.tree (by show la.size ≤ maxI; rw [HLA.out, strL_size]; exact Nat.le_trans (readT_le a) hza) (Nat.zero_le _) hxs (HS.out.mono (fun q hq => hXo q (by have := hq.1; have := HZ0.out; omega)) (fun _ h => h)) (fun q hq => ⟨by have := hq.1; have := HZ0.out; omega, by rw [hXz]; exact hq.2⟩) rfl) hXw
            unfold put8 at k0 k1 k2 k3 k4 k5 k6 k7 hcp
            refine bodyPost_ret (v := .agg #[.int .i64 3, .string la, .string ⟨#[]⟩, .int .i64 xk, .string xl, .slice A xa.items.length m, .slice none 0 0, .int .i64 0]) (by simp [results, Tryz.results49, go_sem, k0, k1, k2, k3, k4, k5, k6, k7]) rfl ?_
            rw [HR.out]
            exact hcp
          · by_cases q4 : b = [111, 117, 116]
            · have HR := Lib.hid (show parseCx [a, b, d] = ⟨4, la, ⟨#[]⟩, (readX d).1, (readX d).2.1, (readX d).2.2, [], 0⟩ by unfold parseCx; rw [if_neg HN0.out, if_neg (by simp), if_neg (show ¬ [a, b, d].getD 1 [] = [61] from q1), if_neg (show ¬ [a, b, d].getD 1 [] = [33, 61] from q2), if_neg (show ¬ [a, b, d].getD 1 [] = [105, 110] from q3), if_pos (show [a, b, d].getD 1 [] = [111, 117, 116] from q4)]; rw [HLA.out]; rfl)
              have t1 : (pb.toList == [61]) = false := by rw [hpbl]; exact beq_eq_false_iff_ne.2 q1
              have t1' : ¬ pb.toList = [61] := by rw [hpbl]; exact q1
              have t2 : (pb.toList == [33, 61]) = false := by rw [hpbl]; exact beq_eq_false_iff_ne.2 q2
              have t2' : ¬ pb.toList = [33, 61] := by rw [hpbl]; exact q2
              have t3 : (pb.toList == [105, 110]) = false := by rw [hpbl]; exact beq_eq_false_iff_ne.2 q3
              have t3' : ¬ pb.toList = [105, 110] := by rw [hpbl]; exact q3
              have t4 : (pb.toList == [111, 117, 116]) = true := by rw [hpbl, q4]; rfl
              have t4' : pb.toList = [111, 117, 116] := by rw [hpbl, q4]
              have HXd := Lib.hid (fun V => (HX.out V))
              rw [show pd.data.toList = d by rw [HPD.out]] at HXd
              unfold RxPost at HXd
              have hxs := (readX_size d hzd2).1
              obtain ⟨x, hx⟩ : ∃ x, x = readX d := ⟨_, rfl⟩
              rw [← hx] at HR HXd hxs
              obtain ⟨xk, xl, xa⟩ := x
              simp only at HR HXd hxs
              clear hx hpbl q1 q2 q3 q4
              have hb0 : Below w.heap.size w ((w.alloc (.cells #[.int .i64 0, .string ⟨#[]⟩, .string ⟨#[]⟩, .int .i64 0, .string ⟨#[]⟩, .slice none 0 0, .slice none 0 0, .int .i64 0] 29)).alloc (.cells #[.int .i64 4, .string la, .string ⟨#[]⟩, .int .i64 0, .string ⟨#[]⟩, .slice none 0 0, .slice none 0 0, .int .i64 0] 29)) := ((Below.refl _ _).alloc (Nat.le_refl _) _).alloc (by simp) _
              have hrb0 : ((w.alloc (.cells #[.int .i64 0, .string ⟨#[]⟩, .string ⟨#[]⟩, .int .i64 0, .string ⟨#[]⟩, .slice none 0 0, .slice none 0 0, .int .i64 0] 29)).alloc (.cells #[.int .i64 4, .string la, .string ⟨#[]⟩, .int .i64 0, .string ⟨#[]⟩, .slice none 0 0, .slice none 0 0, .int .i64 0] 29)).heap[w.heap.size]? = some (.cells (cxA zeroX (.slice none 0 0) (.slice none 0 0)) 29 (0, 0)) := (Below.heap_alloc _ _ _ (by simp)).trans (heap_alloc_new w _)
              have hob0 : ((w.alloc (.cells #[.int .i64 0, .string ⟨#[]⟩, .string ⟨#[]⟩, .int .i64 0, .string ⟨#[]⟩, .slice none 0 0, .slice none 0 0, .int .i64 0] 29)).alloc (.cells #[.int .i64 4, .string la, .string ⟨#[]⟩, .int .i64 0, .string ⟨#[]⟩, .slice none 0 0, .slice none 0 0, .int .i64 0] 29)).heap[w.heap.size + 1]? = some (.cells (cxA ⟨4, la, ⟨#[]⟩, 0, ⟨#[]⟩, .nil, [], 0⟩ (.slice none 0 0) (.slice none 0 0)) 29 (0, 0)) := by
                have := heap_alloc_new (w.alloc (.cells #[.int .i64 0, .string ⟨#[]⟩, .string ⟨#[]⟩, .int .i64 0, .string ⟨#[]⟩, .slice none 0 0, .slice none 0 0, .int .i64 0] 29)) (.cells #[.int .i64 4, .string la, .string ⟨#[]⟩, .int .i64 0, .string ⟨#[]⟩, .slice none 0 0, .slice none 0 0, .int .i64 0] 29)
                rw [World.size_alloc] at this
                exact this
              have hz0 : ((w.alloc (.cells #[.int .i64 0, .string ⟨#[]⟩, .string ⟨#[]⟩, .int .i64 0, .string ⟨#[]⟩, .slice none 0 0, .slice none 0 0, .int .i64 0] 29)).alloc (.cells #[.int .i64 4, .string la, .string ⟨#[]⟩, .int .i64 0, .string ⟨#[]⟩, .slice none 0 0, .slice none 0 0, .int .i64 0] 29)).heap.size = w.heap.size + 1 + 1 := by simp
              have HB0 := Lib.hid hb0
              have HRB0 := Lib.hid hrb0
              have HOB0 := Lib.hid hob0
              have HZ0 := Lib.hid hz0
              clear hb0 hrb0 hob0 hz0
              go_enter Tryz.func49, Tryz.ntmps49
              go_wp2_with fail
              refine (HRa.out _).mono ?_
              rintro e' w' ⟨rfl, rfl⟩
              go_wp2_with fail
              obtain ⟨W, hW⟩ : ∃ W, W = (w.alloc (.cells #[.int .i64 0, .string ⟨#[]⟩, .string ⟨#[]⟩, .int .i64 0, .string ⟨#[]⟩, .slice none 0 0, .slice none 0 0, .int .i64 0] 29)).alloc (.cells #[.int .i64 4, .string la, .string ⟨#[]⟩, .int .i64 0, .string ⟨#[]⟩, .slice none 0 0, .slice none 0 0, .int .i64 0] 29) := ⟨_, rfl⟩
              rw [← hW] at HB0 HRB0 HOB0 HZ0 ⊢
              refine (HXd.out W).mono ?_
              rintro e' w1 ⟨A, m, ok, rfl, hs, hb⟩
              have HS := Lib.hid hs
              have HB := Lib.hid hb
              have hrb := (hb.block w.heap.size (by have := HZ0.out; omega)).trans HRB0.out
              have hob := (hb.block (w.heap.size + 1) (by have := HZ0.out; omega)).trans HOB0.out
              have HRB := Lib.hid hrb
              obtain ⟨r0, r1, r2, r3, r4, r5, r6, r7⟩ := BoxC.cells (c := zeroX) ⟨_, hrb⟩
              obtain ⟨b0, b1, b2, b3, b4, b5, b6, b7⟩ := BoxC.cells (c := ⟨4, la, ⟨#[]⟩, 0, ⟨#[]⟩, .nil, [], 0⟩) ⟨_, hob⟩
              have fr := BoxC.frozen (c := zeroX) ⟨_, hrb⟩
              have fo := BoxC.frozen (c := ⟨4, la, ⟨#[]⟩, 0, ⟨#[]⟩, .nil, [], 0⟩) ⟨_, hob⟩
              have f00 := fr 0
              have f01 := fr 1
              have f02 := fr 2
              have f03 := fr 3
              have f04 := fr 4
              have f05 := fr 5
              have f06 := fr 6
              have f07 := fr 7
              have g03 := fo 3
              have g04 := fo 4
              have g05 := fo 5
              clear hs hb hrb hob fr fo hW
              go_wp2_with fail
              obtain ⟨X, hXe⟩ : ∃ X, X = ((w1.setCell ⟨w.heap.size + 1, 3, none⟩ (.int .i64 xk)).setCell ⟨w.heap.size + 1, 4, none⟩ (.string xl)).setCell ⟨w.heap.size + 1, 5, none⟩ (.slice A xa.items.length m) := ⟨_, rfl⟩
              have hXo : ∀ q, q ≠ w.heap.size + 1 → X.heap[q]? = w1.heap[q]? := fun q hq => by rw [hXe, Below.heap_setCell _ _ _ _ hq, Below.heap_setCell _ _ _ _ hq, Below.heap_setCell _ _ _ _ hq]
              have hXz : X.heap.size = w1.heap.size := by rw [hXe]; simp [World.setCell]
              have hXw : Below w.heap.size w X := by
                rw [hXe]
                exact (((HB0.out.trans (HB.out.mono HB0.out.size)).setCell (p := ⟨w.heap.size + 1, 3, none⟩) (by simp) _).setCell (p := ⟨w.heap.size + 1, 4, none⟩) (by simp) _).setCell (p := ⟨w.heap.size + 1, 5, none⟩) (by simp) _
              rw [← hXe]
              obtain ⟨⟨k0, k1, k2, k3, k4, k5, k6, k7⟩, hcp⟩ := copyC_end (w := w) (c := ⟨4, la, ⟨#[]⟩, xk, xl, xa, [], 0⟩) (xu := .slice A xa.items.length m) (vc := .slice none 0 0) ((hXo _ (by omega)).trans HRB.out) rfl (CnT.tree (by show la.size ≤ maxI; rw [HLA.out, strL_size]; exact Nat.le_trans (readT_le a) hza) (Nat.zero_le _) hxs (HS.out.mono (fun q hq => hXo q (by have := hq.1; have := HZ0.out; omega)) (fun _ h => h)) (fun q hq => ⟨by have := hq.1; have := HZ0.out; omega, by rw [hXz]; exact hq.2⟩) rfl) hXw
              unfold put8 at k0 k1 k2 k3 k4 k5 k6 k7 hcp
              refine bodyPost_ret (v := .agg #[.int .i64 4, .string la, .string ⟨#[]⟩, .int .i64 xk, .string xl, .slice A xa.items.length m, .slice none 0 0, .int .i64 0]) (by simp [results, Tryz.results49, go_sem, k0, k1, k2, k3, k4, k5, k6, k7]) rfl ?_
              rw [HR.out]
              exact hcp
            · have HR := Lib.hid (show parseCx [a, b, d] = ⟨0, la, ⟨#[]⟩, 0, ⟨#[]⟩, .nil, [], 0⟩ by unfold parseCx; rw [if_neg HN0.out, if_neg (by simp), if_neg (show ¬ [a, b, d].getD 1 [] = [61] from q1), if_neg (show ¬ [a, b, d].getD 1 [] = [33, 61] from q2), if_neg (show ¬ [a, b, d].getD 1 [] = [105, 110] from q3), if_neg (show ¬ [a, b, d].getD 1 [] = [111, 117, 116] from q4)]; rw [HLA.out]; rfl)
              have t1 : (pb.toList == [61]) = false := by rw [hpbl]; exact beq_eq_false_iff_ne.2 q1
              have t1' : ¬ pb.toList = [61] := by rw [hpbl]; exact q1
              have t2 : (pb.toList == [33, 61]) = false := by rw [hpbl]; exact beq_eq_false_iff_ne.2 q2
              have t2' : ¬ pb.toList = [33, 61] := by rw [hpbl]; exact q2
              have t3 : (pb.toList == [105, 110]) = false := by rw [hpbl]; exact beq_eq_false_iff_ne.2 q3
              have t3' : ¬ pb.toList = [105, 110] := by rw [hpbl]; exact q3
              have t4 : (pb.toList == [111, 117, 116]) = false := by rw [hpbl]; exact beq_eq_false_iff_ne.2 q4
              have t4' : ¬ pb.toList = [111, 117, 116] := by rw [hpbl]; exact q4
              clear hpbl q1 q2 q3 q4
              go_enter Tryz.func49, Tryz.ntmps49
              go_wp2_with fail
              refine (HRa.out _).mono ?_
              rintro e' w' ⟨rfl, rfl⟩
              go_wp2_with fail
              refine bodyPost_ret (v := .agg #[.int .i64 0, .string la, .string ⟨#[]⟩, .int .i64 0, .string ⟨#[]⟩, .slice none 0 0, .slice none 0 0, .int .i64 0]) (by simp [results, Tryz.results49, go_sem]) rfl ?_
              rw [HR.out]
              exact ⟨_, _, rfl, CnT.leaf _ _ none none 0 0 _ (by show la.size ≤ maxI; rw [HLA.out, strL_size]; exact Nat.le_trans (readT_le a) hza) (Nat.zero_le _) (Nat.zero_le _) rfl rfl, ((Below.refl _ _).alloc (Nat.le_refl _) _).alloc (by simp) _⟩
    · have HR := Lib.hid (show parseCx ps = zeroX by unfold parseCx; rw [if_neg h0, if_pos h3])
      have hn' : (0 : Int) < ps.length := by omega
      have hn3 : ((ps.length : Int) != 3) = true := by simp; omega
      have hn4 : ((ps.length : Int) == 3) = false := by simp; omega
      clear hown hc hz hp0 hp0l hhd h0 h3
      go_enter Tryz.func49, Tryz.ntmps49
      go_wp2_with fail
      refine bodyPost_ret (v := .agg #[.int .i64 0, .string ⟨#[]⟩, .string ⟨#[]⟩, .int .i64 0, .string ⟨#[]⟩, .slice none 0 0, .slice none 0 0, .int .i64 0]) (by simp [results, Tryz.results49, go_sem]) rfl ?_
      rw [HR.out]
      exact zero_end w _
end Go.Proofs.YtjjjdieljljcoaaGreatDoor

/-
  What spec.ParseConstraint answers.
-/
namespace Go.Proofs.YtjjjdieljljcoaaGreatDoor
open Go.RowKit

/-- The only valid constraint with the text, in blocks of the call's own, and true; the zero value and false if there is none. -/
def PcPost (s : List UInt8) (w : World) (e : Ending) (w' : World) : Prop := ∃ ok c, CopyCB c ok w e w' ∧ ParsedX s ok c
theorem fmtX_valid {c : Cx} (h : fmtX c ≠ []) : validX c = true := by
  cases hv : validX c with
  | true => rfl
  | false => exact absurd (show fmtX c = [] from if_neg (by rw [show validC c.cn = validX c from rfl, hv]; simp)) h
theorem parsed_yes {s : List UInt8} {c : Cx} (hs : s ≠ []) (h : fmtX c = s) : ParsedX s true c := .inl ⟨rfl, fmtX_valid (by rw [h]; exact hs), h⟩
theorem parsed_empty : ParsedX [] false zeroX := .inr ⟨rfl, rfl, fun _ hd => fmtC_ne hd⟩
theorem parsed_no {s : List UInt8} (h : fmtX (parseCx (spl 32 s)) ≠ s) : ParsedX s false zeroX := .inr ⟨rfl, rfl, fun d hd e => by
  have h1 := parse_fmt hd
  rw [show fmtC d.cn = s from e, ← parseCx_cn] at h1
  rw [Cx.cn_inj h1] at h
  exact h e⟩
theorem parseCx_size (ps : List (List UInt8)) (hz : ∀ p ∈ ps, p.length ≤ 1048576) : (parseCx ps).xa.size ≤ 64 := by
  have k : (readX (ps.getD 2 [])).2.2.size ≤ 64 := (readX_size _ (by
    rw [List.getD_eq_getElem?_getD]
    cases hp : ps[2]? with
    | none => simp
    | some x => exact hz x (List.mem_of_getElem? hp))).2
  unfold parseCx
  repeat' split
  all_goals first | exact k | exact Nat.zero_le _
theorem spl_part (c : UInt8) : ∀ (l : List UInt8), ∀ p ∈ spl c l, p.length ≤ l.length
  | [], p, hp => by
    simp [spl] at hp
    simp [hp]
  | b :: r, p, hp => by
    have ih := spl_part c r
    unfold spl at hp
    split at hp
    · rcases List.mem_cons.1 hp with rfl | h
      · simp
      · have := ih p h
        simp
        omega
    · split at hp
      · simp at hp
        subst hp
        simp
      · rename_i q qs hq
        rcases List.mem_cons.1 hp with rfl | h
        · have := ih q (by rw [hq]; simp)
          simp
          omega
        · have := ih p (by rw [hq]; simp [h])
          simp
          omega

/-- The result's cells are written, and a bool comes with them. -/
theorem copyCB_end {w X : World} {y : Array Value} {t : TypeId} {c : Cx} {b : Bool} {xu vc : Value} (hb : X.heap[w.heap.size]? = some (.cells y t (0, 0))) (hy : y.size = 8) (ht : CnT X (fun h => w.heap.size < h ∧ h < X.heap.size) xu vc c) (hbx : Below w.heap.size w X) :
    CellC (put8 X w.heap.size (.int .i64 c.k) (.string c.l) (.string c.r) (.int .i64 c.xk) (.string c.xl) xu vc (.int .i64 c.b)) w.heap.size c xu vc ∧
    CopyCB c b w (.returned (.tuple #[.agg #[.int .i64 c.k, .string c.l, .string c.r, .int .i64 c.xk, .string c.xl, xu, vc, .int .i64 c.b], .bool b])) (put8 X w.heap.size (.int .i64 c.k) (.string c.l) (.string c.r) (.int .i64 c.xk) (.string c.xl) xu vc (.int .i64 c.b)) := by
  obtain ⟨h1, _, _, _, h2, h3⟩ := copyC_end hb hy ht hbx
  rename_i e
  injection e with e
  injection e with e
  simp at e
  obtain ⟨rfl, rfl⟩ := e
  exact ⟨h1, _, _, rfl, h2, h3⟩
theorem CopyCB.alloc {c : Cx} {b : Bool} {w w' : World} {e : Ending} (h : CopyCB c b w e w') (o : Obj) : CopyCB c b w e (w'.alloc o) := by
  obtain ⟨xu, vc, rfl, ht, hb⟩ := h
  exact ⟨xu, vc, rfl, ht.mono (fun g hg => Below.heap_alloc _ _ _ hg.2) (fun g hg => ⟨hg.1, by have := hg.2; simp; omega⟩), hb.alloc hb.size _⟩

set_option maxRecDepth 100000 in
set_option maxHeartbeats 6400000 in
theorem specParseC_any (s : ByteArray) (w : World) (hs : s.size ≤ 1048576) : Calls Tryz.prog 18 #[.string s] w (PcPost s.data.toList w) := by
  obtain ⟨W, hW⟩ : ∃ W, W = w.alloc (.cells #[.int .i64 0, .string ⟨#[]⟩, .string ⟨#[]⟩, .int .i64 0, .string ⟨#[]⟩, .slice none 0 0, .slice none 0 0, .int .i64 0] 29) := ⟨_, rfl⟩
  have hbW : Below w.heap.size w W := by rw [hW]; exact (Below.refl _ _).alloc (Nat.le_refl _) _
  have hzW : W.heap.size = w.heap.size + 1 := by rw [hW]; simp
  have hrW : W.heap[w.heap.size]? = some (.cells (cxA zeroX (.slice none 0 0) (.slice none 0 0)) 29 (0, 0)) := by rw [hW]; exact heap_alloc_new w _
  have HSP := Lib.hid (specSplit_any s 32 W hs)
  obtain ⟨ps, hps⟩ : ∃ ps, ps = spl 32 s.data.toList := ⟨_, rfl⟩
  have hz : ∀ p ∈ ps, p.length ≤ 1048576 := fun p hp => by
    rw [hps] at hp
    have := spl_part 32 _ p hp
    rw [show s.data.toList.length = s.size by simp] at this
    omega
  have hn : 1 ≤ ps.length := by
    rw [hps]
    have := spl_ne 32 s.data.toList
    cases hq : spl 32 s.data.toList with
    | nil => exact absurd hq this
    | cons _ _ => simp
  have hn2 : ps.length ≤ 1048577 := by
    rw [hps]
    have := spl_length 32 s.data.toList
    rw [show s.data.toList.length = s.size by simp] at this
    omega
  have hsz := parseCx_size ps hz
  have HPA := Lib.hid (fun v B V h => specParse9_any ps v B V h hn hn2 hz)
  have HNO := Lib.hid (fun (h : fmtX (parseCx ps) ≠ s.data.toList) => parsed_no (s := s.data.toList) (by rw [← hps]; exact h))
  obtain ⟨c, hc⟩ : ∃ c, c = parseCx ps := ⟨_, rfl⟩
  rw [← hc] at hsz HPA HNO
  rw [← hps] at HSP
  have HF := Lib.hid (fun (xu vc : Value) (V : World) (h : CnO V xu vc c) => specFmtC_any c xu vc V h (by omega))
  have HWE := Lib.hid hW
  have HBW := Lib.hid hbW
  have HZW := Lib.hid hzW
  have HRW := Lib.hid hrW
  clear hW hbW hzW hrW hps hc hz hn hn2 hsz
  by_cases he : s.size = 0
  · have hel := bytes_nil he
    have hem : s.toList.isEmpty = true := by rw [hel]; rfl
    have HS := Lib.hid (show s.data.toList = [] by rw [← ByteArray.toList_eq]; exact hel)
    clear he
    go_enter Tryz.func18, Tryz.ntmps18
    go_wp2_with fail
    rw [← HWE.out]
    refine HSP.out.mono ?_
    rintro e w1 ⟨v, rfl, hown, hb1⟩
    have HB1 := Lib.hid hb1
    have HOW := Lib.hid hown
    clear hb1 hown
    go_wp2_with fail
    refine (HPA.out v _ w1 HOW.out).mono ?_
    rintro e w2 hp
    obtain ⟨A, m, B, r, rfl, ht, hb2⟩ := hp.shape
    have HB2 := Lib.hid (HB1.out.trans (hb2.mono HB1.out.size))
    have hrb := (hb2.block w.heap.size (by have := HZW.out; have := HB1.out.size; omega)).trans ((HB1.out.block w.heap.size (by have := HZW.out; omega)).trans HRW.out)
    obtain ⟨r0, r1, r2, r3, r4, r5, r6, r7⟩ := BoxC.cells (c := zeroX) ⟨_, hrb⟩
    have fr := BoxC.frozen (c := zeroX) ⟨_, hrb⟩
    have hlt : w.heap.size < w2.heap.size := by have := HZW.out; have := HB2.out.size; omega
    have HRB := Lib.hid hrb
    have f00 := fr 0
    have f01 := fr 1
    have f02 := fr 2
    have f03 := fr 3
    have f04 := fr 4
    have f05 := fr 5
    have f06 := fr 6
    have f07 := fr 7
    clear hp ht hb2 hrb fr
    go_wp2_with fail
    obtain ⟨⟨k0, k1, k2, k3, k4, k5, k6, k7⟩, hcp⟩ := copyCB_end (w := w) (c := zeroX) (b := false) HRB.out rfl (CnT.leaf w2 _ none none 0 0 zeroX (Nat.zero_le _) (Nat.zero_le _) (Nat.zero_le _) rfl rfl) (HBW.out.trans (HB2.out.mono HBW.out.size))
    unfold put8 at k0 k1 k2 k3 k4 k5 k6 k7 hcp
    simp only [zeroX] at k0 k1 k2 k3 k4 k5 k6 k7
    refine bodyPost_ret (v := .tuple #[.agg #[.int .i64 0, .string ⟨#[]⟩, .string ⟨#[]⟩, .int .i64 0, .string ⟨#[]⟩, .slice none 0 0, .slice none 0 0, .int .i64 0], .bool false]) (by simp [results, Tryz.results18, go_sem, hlt, k0, k1, k2, k3, k4, k5, k6, k7]) rfl ⟨false, zeroX, CopyCB.alloc hcp _, ?_⟩
    rw [HS.out]
    exact parsed_empty
  · have hel := bytes_some he
    have hem : s.toList.isEmpty = false := by simpa using hel
    have HNE := Lib.hid (show s.data.toList ≠ [] by rw [← ByteArray.toList_eq]; exact hel)
    obtain ⟨ft, hft⟩ : ∃ ft, ft = strL (fmtX c) := ⟨_, rfl⟩
    have hfl : ft.toList = fmtX c := by rw [ByteArray.toList_eq, hft, strL_list]
    have HFL := Lib.hid hfl
    rw [← hft] at HF
    clear he hft hfl
    by_cases hq : ft.toList = s.toList
    · have hq1 : (ft.toList == s.toList) = true := by rw [hq]; exact beq_self_eq_true _
      have hq2 : (ft.toList != s.toList) = false := by rw [hq]; exact bne_self_eq_false _
      have HEQ := Lib.hid (show fmtX c = s.data.toList by rw [← HFL.out, hq, ByteArray.toList_eq])
      clear hq
      go_enter Tryz.func18, Tryz.ntmps18
      go_wp2_with fail
      rw [← HWE.out]
      refine HSP.out.mono ?_
      rintro e w1 ⟨v, rfl, hown, hb1⟩
      have HB1 := Lib.hid hb1
      have HOW := Lib.hid hown
      clear hb1 hown
      go_wp2_with fail
      refine (HPA.out v _ w1 HOW.out).mono ?_
      rintro e w2 hp
      obtain ⟨A, m, B, r, rfl, ht, hb2⟩ := hp.shape
      have HB2 := Lib.hid (HB1.out.trans (hb2.mono HB1.out.size))
      have HT := Lib.hid ht
      have HCO := Lib.hid (ht.con.kept (w' := w2.alloc (.cells #[.int .i64 c.k, .string c.l, .string c.r, .int .i64 c.xk, .string c.xl, .slice A c.xa.items.length m, .slice B c.cs.length r, .int .i64 c.b] 29)) ((Below.refl _ _).alloc (Nat.le_refl _) _))
      have hz2 : w.heap.size + 1 ≤ w2.heap.size := by have := HZW.out; have := HB2.out.size; omega
      clear hp ht hb2
      go_wp2_with fail
      obtain ⟨W3, hW3⟩ : ∃ W3, W3 = w2.alloc (.cells #[.int .i64 c.k, .string c.l, .string c.r, .int .i64 c.xk, .string c.xl, .slice A c.xa.items.length m, .slice B c.cs.length r, .int .i64 c.b] 29) := ⟨_, rfl⟩
      have hbx3 : BoxC W3 w2.heap.size c (.slice A c.xa.items.length m) (.slice B c.cs.length r) := by rw [hW3]; exact boxC_new w2 c _ _ _
      have hb23 : Below w2.heap.size w2 W3 := by rw [hW3]; exact (Below.refl _ _).alloc (Nat.le_refl _) _
      rw [← hW3] at HCO ⊢
      refine (HF.out _ _ W3 HCO.out).mono ?_
      rintro e w4 ⟨rfl, hb4⟩
      have hb24 : Below w2.heap.size w2 w4 := hb23.trans (hb4.mono hb23.size)
      have HB4 := Lib.hid (HB2.out.trans (hb24.mono HB2.out.size))
      have HT4 := Lib.hid (HT.out.kept (w' := w4) (fun g hg => hg.2) hb24)
      have hz24 : w2.heap.size ≤ w4.heap.size := hb24.size
      obtain ⟨b0, b1, b2, b3, b4, b5, b6, b7⟩ := (hbx3.kept hb4).cells
      have hrb := (HB4.out.block w.heap.size (by have := HZW.out; omega)).trans HRW.out
      obtain ⟨r0, r1, r2, r3, r4, r5, r6, r7⟩ := BoxC.cells (c := zeroX) ⟨_, hrb⟩
      have fr := BoxC.frozen (c := zeroX) ⟨_, hrb⟩
      have hlt : w.heap.size < w4.heap.size := by omega
      have hne : w2.heap.size ≠ w.heap.size := by omega
      have HRB := Lib.hid hrb
      have f00 := fr 0
      have f01 := fr 1
      have f02 := fr 2
      have f03 := fr 3
      have f04 := fr 4
      have f05 := fr 5
      have f06 := fr 6
      have f07 := fr 7
      clear hrb fr hb24 hb4 hb23 hbx3 hW3
      go_wp2_with fail
      obtain ⟨⟨k0, k1, k2, k3, k4, k5, k6, k7⟩, hcp⟩ := copyCB_end (w := w) (c := c) (b := true) HRB.out rfl (HT4.out.mono (fun _ _ => rfl) (fun g hg => ⟨by have := hg.1; have := HZW.out; have := HB1.out.size; omega, Nat.lt_of_lt_of_le hg.2 hz24⟩)) (HBW.out.trans (HB4.out.mono HBW.out.size))
      unfold put8 at k0 k1 k2 k3 k4 k5 k6 k7 hcp
      exact bodyPost_ret (v := .tuple #[.agg #[.int .i64 c.k, .string c.l, .string c.r, .int .i64 c.xk, .string c.xl, .slice A c.xa.items.length m, .slice B c.cs.length r, .int .i64 c.b], .bool true]) (by simp [results, Tryz.results18, go_sem, k0, k1, k2, k3, k4, k5, k6, k7]) rfl ⟨true, c, hcp, parsed_yes HNE.out HEQ.out⟩
    · have hq1 : (ft.toList == s.toList) = false := beq_eq_false_iff_ne.2 hq
      have hq2 : (ft.toList != s.toList) = true := bne_iff_ne.2 hq
      have HEQ := Lib.hid (show fmtX c ≠ s.data.toList by rw [← HFL.out, ← ByteArray.toList_eq]; exact hq)
      go_enter Tryz.func18, Tryz.ntmps18
      go_wp2_with fail
      rw [← HWE.out]
      refine HSP.out.mono ?_
      rintro e w1 ⟨v, rfl, hown, hb1⟩
      have HB1 := Lib.hid hb1
      have HOW := Lib.hid hown
      clear hb1 hown
      go_wp2_with fail
      refine (HPA.out v _ w1 HOW.out).mono ?_
      rintro e w2 hp
      obtain ⟨A, m, B, r, rfl, ht, hb2⟩ := hp.shape
      have HB2 := Lib.hid (HB1.out.trans (hb2.mono HB1.out.size))
      have HT := Lib.hid ht
      have HCO := Lib.hid (ht.con.kept (w' := w2.alloc (.cells #[.int .i64 c.k, .string c.l, .string c.r, .int .i64 c.xk, .string c.xl, .slice A c.xa.items.length m, .slice B c.cs.length r, .int .i64 c.b] 29)) ((Below.refl _ _).alloc (Nat.le_refl _) _))
      have hz2 : w.heap.size + 1 ≤ w2.heap.size := by have := HZW.out; have := HB2.out.size; omega
      clear hp ht hb2
      go_wp2_with fail
      obtain ⟨W3, hW3⟩ : ∃ W3, W3 = w2.alloc (.cells #[.int .i64 c.k, .string c.l, .string c.r, .int .i64 c.xk, .string c.xl, .slice A c.xa.items.length m, .slice B c.cs.length r, .int .i64 c.b] 29) := ⟨_, rfl⟩
      have hbx3 : BoxC W3 w2.heap.size c (.slice A c.xa.items.length m) (.slice B c.cs.length r) := by rw [hW3]; exact boxC_new w2 c _ _ _
      have hb23 : Below w2.heap.size w2 W3 := by rw [hW3]; exact (Below.refl _ _).alloc (Nat.le_refl _) _
      rw [← hW3] at HCO ⊢
      refine (HF.out _ _ W3 HCO.out).mono ?_
      rintro e w4 ⟨rfl, hb4⟩
      have hb24 : Below w2.heap.size w2 w4 := hb23.trans (hb4.mono hb23.size)
      have HB4 := Lib.hid (HB2.out.trans (hb24.mono HB2.out.size))
      have HT4 := Lib.hid (HT.out.kept (w' := w4) (fun g hg => hg.2) hb24)
      have hz24 : w2.heap.size ≤ w4.heap.size := hb24.size
      obtain ⟨b0, b1, b2, b3, b4, b5, b6, b7⟩ := (hbx3.kept hb4).cells
      have hrb := (HB4.out.block w.heap.size (by have := HZW.out; omega)).trans HRW.out
      obtain ⟨r0, r1, r2, r3, r4, r5, r6, r7⟩ := BoxC.cells (c := zeroX) ⟨_, hrb⟩
      have fr := BoxC.frozen (c := zeroX) ⟨_, hrb⟩
      have hlt : w.heap.size < w4.heap.size := by omega
      have hne : w2.heap.size ≠ w.heap.size := by omega
      have HRB := Lib.hid hrb
      have f00 := fr 0
      have f01 := fr 1
      have f02 := fr 2
      have f03 := fr 3
      have f04 := fr 4
      have f05 := fr 5
      have f06 := fr 6
      have f07 := fr 7
      clear hrb fr hb24 hb4 hb23 hbx3 hW3
      go_wp2_with fail
      obtain ⟨⟨k0, k1, k2, k3, k4, k5, k6, k7⟩, hcp⟩ := copyCB_end (w := w) (c := zeroX) (b := false) HRB.out rfl (CnT.leaf w4 _ none none 0 0 zeroX (Nat.zero_le _) (Nat.zero_le _) (Nat.zero_le _) rfl rfl) (HBW.out.trans (HB4.out.mono HBW.out.size))
      unfold put8 at k0 k1 k2 k3 k4 k5 k6 k7 hcp
      simp only [zeroX] at k0 k1 k2 k3 k4 k5 k6 k7
      exact bodyPost_ret (v := .tuple #[.agg #[.int .i64 0, .string ⟨#[]⟩, .string ⟨#[]⟩, .int .i64 0, .string ⟨#[]⟩, .slice none 0 0, .slice none 0 0, .int .i64 0], .bool false]) (by simp [results, Tryz.results18, go_sem, k0, k1, k2, k3, k4, k5, k6, k7]) rfl ⟨false, zeroX, hcp, HNO.out HEQ.out⟩
end Go.Proofs.YtjjjdieljljcoaaGreatDoor

/-
  laws.FnExactParseConstraint answers true at every text, where both sides read alike, in memory of their own.
-/
namespace Go.Proofs.YtjjjdieljljcoaaGreatDoor
open Go.RowKit

theorem parsed_any (s : List UInt8) : ∃ ok c, ParsedX s ok c := by
  by_cases h : ∃ d, validX d = true ∧ fmtX d = s
  · obtain ⟨d, hd, he⟩ := h
    exact ⟨true, d, .inl ⟨rfl, hd, he⟩⟩
  · exact ⟨false, zeroX, .inr ⟨rfl, rfl, fun d hd he => h ⟨d, hd, he⟩⟩⟩
theorem parsed_size {s : List UInt8} {ok : Bool} {c : Cx} (h : ParsedX s ok c) : c.xa.size ≤ 64 ∧ c.cs.length ≤ 3 := by
  rcases h with ⟨_, hv, hf⟩ | ⟨_, rfl, _⟩
  · refine ⟨?_, ?_⟩
    · have hz : c.cn.x = zeroNd → c.xa.size ≤ 64 := fun e => by
        have e2 : c.xa = .nil := congrArg (fun x : Nd => x.2.2) e
        rw [e2]
        exact Nat.zero_le _
      rcases valid_kinds (c := c.cn) hv with hk | hk | hk | hk | hk
      · exact hz (valid_terms hv (.inl hk)).2.2.1
      · exact hz (valid_terms hv (.inr hk)).2.2.1
      · exact Nat.le_trans (valid_size9 (valid_lang hv (.inl hk)).2.2.1) (by decide)
      · exact Nat.le_trans (valid_size9 (valid_lang hv (.inr hk)).2.2.1) (by decide)
      · exact hz (valid_len hv hk).2.2.1
    · rcases valid_cs hv with h | ⟨a, d, e, h, _⟩ <;> rw [h] <;> simp
  · exact ⟨Nat.zero_le _, Nat.zero_le _⟩
theorem pc_copy {s : List UInt8} {ok : Bool} {c : Cx} (h : ParsedX s ok c) {w w' : World} {e : Ending} (hp : PcPost s w e w') : CopyCB c ok w e w' := by
  obtain ⟨ok', c', hc, hp⟩ := hp
  obtain ⟨rfl, rfl⟩ := h.unique hp
  exact hc

set_option maxRecDepth 100000 in
set_option maxHeartbeats 6400000 in
theorem cxLP_law (s : ByteArray) (w : World) (_hs : s.size ≤ maxLen) (HS0 : s.size ≤ 1048576 → ∀ V : World, Calls Tryz.prog 18 #[.string s] V (PcPost s.data.toList V)) (HI0 : s.size ≤ 1048576 → ∀ V : World, Below w.heap.size w V → Calls Tryz.prog 12 #[.string s] V (PcPost s.data.toList V)) :
    Calls Tryz.prog 8 #[.string s] w fun e w' => e = .returned (.bool true) ∧ Below w.heap.size w w' := by
  by_cases hfit : s.size ≤ 1048576
  · obtain ⟨ok, c, hpx⟩ := parsed_any s.data.toList
    obtain ⟨hsz, hcl⟩ := parsed_size hpx
    have HS := Lib.hid (fun V => (HS0 hfit V).mono fun _ _ h => pc_copy hpx h)
    have HI := Lib.hid (fun V hb => (HI0 hfit V hb).mono fun _ _ h => pc_copy hpx h)
    have HSZ := Lib.hid (And.intro hsz hcl)
    have hnl : ¬ ((1048576 : Int) < (s.size : Int)) := by omega
    have hno : (ok != ok) = false := bne_self_eq_false _
    obtain ⟨n, hn⟩ : ∃ n, n = mkN c := ⟨_, rfl⟩
    have HMK := Lib.hid (fun xu vc S V h hS => markC_any c xu vc S V h hS hsz hcl)
    have HHD := Lib.hid (fun xu vc V h => heldC_any c xu vc V h hsz hcl)
    rw [← hn] at HMK HHD
    have hnn : ¬ ((n : Int) < 0) := by omega
    clear hpx HS0 HI0 _hs hfit hsz hcl hn
    go_enter Tryz.func8, Tryz.ntmps8
    go_wp2_with fail
    refine (HS.out w).mono ?_
    rintro e w1 hp
    obtain ⟨A1, m1, B1, r1, rfl, ht1, hb1⟩ := hp.shape
    have HT1 := Lib.hid ht1
    have HB1 := Lib.hid hb1
    clear hp ht1 hb1
    go_wp2_with fail
    obtain ⟨W1, hW1⟩ : ∃ W1, W1 = w1.alloc (.cells #[.int .i64 c.k, .string c.l, .string c.r, .int .i64 c.xk, .string c.xl, .slice A1 c.xa.items.length m1, .slice B1 c.cs.length r1, .int .i64 c.b] 29) := ⟨_, rfl⟩
    rw [← hW1]
    have hb11 : Below w1.heap.size w1 W1 := by rw [hW1]; exact (Below.refl _ _).alloc (Nat.le_refl _) _
    have hbx1 : BoxC W1 w1.heap.size c (.slice A1 c.xa.items.length m1) (.slice B1 c.cs.length r1) := by rw [hW1]; exact boxC_new w1 c _ _ _
    have HBX1 := Lib.hid hbx1
    have HBW1 := Lib.hid (HB1.out.trans (hb11.mono HB1.out.size))
    have HC1 := Lib.hid (fun (V : World) (hb : Below W1.heap.size W1 V) => HT1.out.con.kept (hb11.trans (hb.mono hb11.size)))
    have HX1 := Lib.hid (fun (V : World) (hb : Below W1.heap.size W1 V) => (hbx1.kept hb).cells)
    clear hW1 hb11 hbx1
    refine (HI.out W1 HBW1.out).mono ?_
    rintro e w2 hp
    obtain ⟨A2, m2, B2, r2, rfl, ht2, hb2⟩ := hp.shape
    have HT2 := Lib.hid ht2
    have HB2 := Lib.hid hb2
    clear hp ht2 hb2
    obtain ⟨x0, x1, x2, x3, x4, x5, x6, x7⟩ := HX1.out (w2.alloc (.cells #[.int .i64 c.k, .string c.l, .string c.r, .int .i64 c.xk, .string c.xl, .slice A2 c.xa.items.length m2, .slice B2 c.cs.length r2, .int .i64 c.b] 29)) (HB2.out.alloc HB2.out.size _)
    go_wp2_with fail
    obtain ⟨W2, hW2⟩ : ∃ W2, W2 = w2.alloc (.cells #[.int .i64 c.k, .string c.l, .string c.r, .int .i64 c.xk, .string c.xl, .slice A2 c.xa.items.length m2, .slice B2 c.cs.length r2, .int .i64 c.b] 29) := ⟨_, rfl⟩
    rw [← hW2]
    have hb22 : Below w2.heap.size w2 W2 := by rw [hW2]; exact (Below.refl _ _).alloc (Nat.le_refl _) _
    have hbx2 : BoxC W2 w2.heap.size c (.slice A2 c.xa.items.length m2) (.slice B2 c.cs.length r2) := by rw [hW2]; exact boxC_new w2 c _ _ _
    have HW2Z := Lib.hid (show W2.heap.size = w2.heap.size + 1 by rw [hW2]; simp)
    have HBX2 := Lib.hid hbx2
    have HB22 := Lib.hid hb22
    have HBW2 := Lib.hid (HB2.out.trans (hb22.mono HB2.out.size))
    have HX2 := Lib.hid (fun (V : World) (hb : Below W2.heap.size W2 V) => (hbx2.kept hb).cells)
    clear hW2 hb22 hbx2 x0 x1 x2 x3 x4 x5 x6 x7
    refine (eqC_any c _ _ _ _ W2 (HT2.out.con.kept HB22.out) (HC1.out W2 HBW2.out)).mono ?_
    rintro e w3 ⟨rfl, hb3⟩
    have HB3 := Lib.hid hb3
    obtain ⟨y0, y1, y2, y3, y4, y5, y6, y7⟩ := HX2.out w3 hb3
    clear hb3
    go_wp2_with fail
    refine (HMK.out _ _ (OwnB W1 w2) w3 (HT2.out.kept (fun g hg => hg.2) (HB22.out.trans (HB3.out.mono HB22.out.size))) (fun g hg => by have := hg.2; have := HB22.out.size; have := HB3.out.size; omega)).mono ?_
    rintro e w4 ⟨rfl, ht4, hc4⟩
    have HT4 := Lib.hid ht4
    have HC4 := Lib.hid hc4
    have hbx4 : BoxC w4 w2.heap.size c (.slice A2 c.xa.items.length m2) (.slice B2 c.cs.length r2) := (HBX2.out.kept HB3.out).chg hc4 (fun h => Nat.lt_irrefl _ h.2)
    have HX4 := Lib.hid (fun (V : World) (hb : Below w4.heap.size w4 V) => (hbx4.kept hb).cells)
    have HL4 := Lib.hid ((HBW2.out.trans (HB3.out.mono HBW2.out.size)).trans (hc4.old (B := W1.heap.size) (fun g hg => hg.1) (by have := HBW2.out.size; have := HB3.out.size; omega)))
    clear ht4 hc4 hbx4 y0 y1 y2 y3 y4 y5 y6 y7
    obtain ⟨y0, y1, y2, y3, y4, y5, y6, y7⟩ := HX4.out w4 (Below.refl _ _)
    go_wp2_with fail
    refine (HHD.out _ _ w4 HT4.out.con).mono ?_
    rintro e w5 ⟨rfl, hb5⟩
    have HB5 := Lib.hid hb5
    have HL5 := Lib.hid (HL4.out.trans (hb5.mono HL4.out.size))
    clear hb5 y0 y1 y2 y3 y4 y5 y6 y7
    go_wp2_with fail
    refine (HI.out w5 (HBW1.out.trans (HL5.out.mono HBW1.out.size))).mono ?_
    rintro e w6 hp
    obtain ⟨A6, m6, B6, r6, rfl, ht6, hb6⟩ := hp.shape
    have HT6 := Lib.hid ht6
    have HB6 := Lib.hid hb6
    have HL6 := Lib.hid (HL5.out.trans (hb6.mono HL5.out.size))
    clear hp ht6 hb6
    obtain ⟨x0, x1, x2, x3, x4, x5, x6, x7⟩ := HX1.out (w6.alloc (.cells #[.int .i64 c.k, .string c.l, .string c.r, .int .i64 c.xk, .string c.xl, .slice A6 c.xa.items.length m6, .slice B6 c.cs.length r6, .int .i64 c.b] 29)) (HL6.out.alloc HL6.out.size _)
    go_wp2_with fail
    obtain ⟨W6, hW6⟩ : ∃ W6, W6 = w6.alloc (.cells #[.int .i64 c.k, .string c.l, .string c.r, .int .i64 c.xk, .string c.xl, .slice A6 c.xa.items.length m6, .slice B6 c.cs.length r6, .int .i64 c.b] 29) := ⟨_, rfl⟩
    rw [← hW6]
    have hb66 : Below w6.heap.size w6 W6 := by rw [hW6]; exact (Below.refl _ _).alloc (Nat.le_refl _) _
    have HB66 := Lib.hid hb66
    have HLW6 := Lib.hid (HL6.out.trans (hb66.mono HL6.out.size))
    clear hW6 hb66 x0 x1 x2 x3 x4 x5 x6 x7
    refine (eqC_any c _ _ _ _ W6 (HT6.out.con.kept HB66.out) (HC1.out W6 HLW6.out)).mono ?_
    rintro e w7 ⟨rfl, hb7⟩
    have HB47 := Lib.hid ((HB5.out.trans (HB6.out.mono HB5.out.size)).trans ((HB66.out.trans (hb7.mono HB66.out.size)).mono (Nat.le_trans HB5.out.size HB6.out.size)))
    obtain ⟨y0, y1, y2, y3, y4, y5, y6, y7⟩ := HX4.out w7 HB47.out
    clear hb7
    go_wp2_with fail
    refine (HHD.out _ _ w7 (HT4.out.con.kept HB47.out)).mono ?_
    rintro e w8 ⟨rfl, hb8⟩
    have HL8 := Lib.hid (HL4.out.trans ((HB47.out.trans (hb8.mono HB47.out.size)).mono HL4.out.size))
    clear hb8 y0 y1 y2 y3 y4 y5 y6 y7
    go_wp2_with fail
    go_ret
    exact ⟨rfl, HBW1.out.trans (HL8.out.mono HBW1.out.size)⟩
  · have hnl : (1048576 : Int) < (s.size : Int) := by omega
    unfold maxLen at _hs
    clear HS0 HI0 hfit
    go_enter Tryz.func8, Tryz.ntmps8
    go_wp2_with fail
    go_ret
    exact ⟨rfl, Below.refl _ _⟩
end Go.Proofs.YtjjjdieljljcoaaGreatDoor

/-
  What impl.termOfText, readTerms, readWithRegex and readLengths answer.
-/
namespace Go.Proofs.YtjjjdieljljcoaaGreatDoor
open Go.RowKit

theorem CopyC.drew {c : Cx} {w w' : World} {e : Ending} (h : CopyC c w e w') : CopyC c w e w'.drew := by
  obtain ⟨xu, vc, rfl, ht, hb⟩ := h
  exact ⟨xu, vc, rfl, ht.mono (fun _ _ => rfl) (fun _ hg => hg), hb.drew⟩

/-- What the reading of one form makes of a text's parts. -/
noncomputable def rdX (k : Int) (ps : List (List UInt8)) : Cx :=
  if k = 1 ∨ k = 2 then (if ps.length ≠ 3 then zeroX else ⟨k, strL (readT (ps.getD 0 [])), strL (readT (ps.getD 2 [])), 0, ⟨#[]⟩, .nil, [], 0⟩)
  else if k = 3 ∨ k = 4 then (if ps.length ≠ 3 then zeroX else ⟨k, strL (readT (ps.getD 0 [])), ⟨#[]⟩, (readX (ps.getD 2 [])).1, (readX (ps.getD 2 [])).2.1, (readX (ps.getD 2 [])).2.2, [], 0⟩)
  else (if ps.length ≠ 5 then zeroX else ⟨k, ⟨#[]⟩, ⟨#[]⟩, 0, ⟨#[]⟩, .nil, [readN (ps.getD 1 []), readN (ps.getD 2 []), readN (ps.getD 3 [])], readN (ps.getD 4 [])⟩)
theorem rdX_cn (k : Int) (ps : List (List UInt8)) : (rdX k ps).cn = readC k ps := by
  unfold rdX readC
  repeat' split
  all_goals first | rfl | (simp only [Cx.cn, strL_list]; rfl)

set_option maxRecDepth 100000 in
theorem implRead_any (p : List UInt8) (s : ByteArray) (w : World) (hs : s.data.toList = p) :
    Calls Tryz.prog 125 #[.string s] w fun e w' => e = .returned (.string (strL (readT p))) ∧ w' = w := by
  subst hs
  by_cases h : s.data.toList = [45]
  · have HR : Hid (strL (readT s.data.toList) = ⟨#[]⟩) := Lib.hid (by unfold readT; rw [if_pos h]; rfl)
    have e1 : (s.toList == [45]) = true := by rw [ByteArray.toList_eq, h]; rfl
    clear h
    go_enter Tryz.func125, Tryz.ntmps125
    go_wp2
    go_ret
    exact ⟨congrArg (fun z => Ending.returned (.string z)) HR.out.symm, rfl⟩
  · have HR : Hid (strL (readT s.data.toList) = s) := Lib.hid (by unfold readT; rw [if_neg h, strL_self])
    have e1 : (s.toList == [45]) = false := by rw [ByteArray.toList_eq]; exact beq_eq_false_iff_ne.2 h
    clear h
    go_enter Tryz.func125, Tryz.ntmps125
    go_wp2
    go_ret
    exact ⟨congrArg (fun z => Ending.returned (.string z)) HR.out.symm, rfl⟩

set_option maxRecDepth 100000 in
set_option maxHeartbeats 3200000 in
theorem readTerms_any (k : Int) (hk : k = 1 ∨ k = 2) (ps : List (List UInt8)) (v : Value) (B : Nat) (w : World) (hown : w.ownsRow B 9 1 v ps.length (strs ps)) (hn : 1 ≤ ps.length) (hn2 : ps.length ≤ 1048577) (hz : ∀ p ∈ ps, p.length ≤ 1048576) :
    Calls Tryz.prog 77 #[.int .i64 k, v] w (CopyC (rdX k ps) w) := by
  obtain ⟨g, c, rfl, hg, hc⟩ := strRow_at hown hn
  by_cases h3 : ps.length = 3
  · obtain ⟨a, b, d, rfl⟩ : ∃ a b d, ps = [a, b, d] := by
      match ps, h3 with
      | [a, b, d], _ => exact ⟨a, b, d, rfl⟩
    obtain ⟨pa, hpa⟩ : ∃ pa : ByteArray, pa = ⟨a.toArray⟩ := ⟨_, rfl⟩
    obtain ⟨pd, hpd⟩ : ∃ pd : ByteArray, pd = ⟨d.toArray⟩ := ⟨_, rfl⟩
    have c00 := hc 0 (by simp)
    have c02 := hc 2 (by simp)
    simp only [List.getElem_cons_succ, List.getElem_cons_zero] at c00 c02
    rw [← hpa] at c00
    rw [← hpd] at c02
    have HRa := Lib.hid (fun V => implRead_any a pa V (by rw [hpa]))
    have HRd := Lib.hid (fun V => implRead_any d pd V (by rw [hpd]))
    have hza : a.length ≤ maxI := Nat.le_trans (hz a (by simp)) (by decide)
    have hzd : d.length ≤ maxI := Nat.le_trans (hz d (by simp)) (by decide)
    obtain ⟨la, hla⟩ : ∃ la, la = strL (readT a) := ⟨_, rfl⟩
    obtain ⟨ld, hld⟩ : ∃ ld, ld = strL (readT d) := ⟨_, rfl⟩
    rw [← hla] at HRa
    rw [← hld] at HRd
    have hsa : la.size ≤ maxI := by rw [hla, strL_size]; exact Nat.le_trans (readT_le a) hza
    have hsd : ld.size ≤ maxI := by rw [hld, strL_size]; exact Nat.le_trans (readT_le d) hzd
    have HR := Lib.hid (show rdX k [a, b, d] = ⟨k, la, ld, 0, ⟨#[]⟩, .nil, [], 0⟩ by unfold rdX; rw [if_pos hk, if_neg (by simp), hla, hld]; rfl)
    have hlt0 : (0 : Int) < 3 := by omega
    have hlt2 : (2 : Int) < 3 := by omega
    obtain ⟨W, hW⟩ : ∃ W, W = w.alloc (.cells #[.int .i64 0, .string ⟨#[]⟩, .string ⟨#[]⟩, .int .i64 0, .string ⟨#[]⟩, .slice none 0 0, .slice none 0 0, .int .i64 0] 29) := ⟨_, rfl⟩
    have hbW : Below w.heap.size w W := by rw [hW]; exact (Below.refl _ _).alloc (Nat.le_refl _) _
    have hrb : W.heap[w.heap.size]? = some (.cells (cxA zeroX (.slice none 0 0) (.slice none 0 0)) 29 (0, 0)) := by rw [hW]; exact heap_alloc_new w _
    replace c00 := (hbW.cell hg).trans c00
    replace c02 := (hbW.cell hg).trans c02
    obtain ⟨r0, r1, r2, r3, r4, r5, r6, r7⟩ := BoxC.cells (c := zeroX) ⟨_, hrb⟩
    have fr := BoxC.frozen (c := zeroX) ⟨_, hrb⟩
    have f00 := fr 0
    have f01 := fr 1
    have f02 := fr 2
    have f03 := fr 3
    have f04 := fr 4
    have f05 := fr 5
    have f06 := fr 6
    have f07 := fr 7
    have HWE := Lib.hid hW
    have HBW := Lib.hid hbW
    have HRB := Lib.hid hrb
    clear hown hc hz h3 hpa hpd hla hld hn hn2 hza hzd hk hg hW hbW hrb fr
    go_enter Tryz.func77, Tryz.ntmps77
    go_wp2_with fail
    rw [← HWE.out]
    refine wp_region_still_tail 10 (by kernel_rfl) (by kernel_rfl) ?_
    simp only [List.take_succ_cons, List.take_zero, List.drop_succ_cons, List.drop_zero]
    iterate 4 still_step
    still_call HRa.out _
    iterate 3 still_step
    still_call HRd.out _
    still_step
    refine wpStill_nil ?_
    go_wp2_with fail
    obtain ⟨⟨k0, k1, k2, k3, k4, k5, k6, k7⟩, hcp⟩ := copyC_end (w := w) (c := ⟨k, la, ld, 0, ⟨#[]⟩, .nil, [], 0⟩) HRB.out rfl (CnT.leaf W _ none none 0 0 _ hsa hsd (Nat.zero_le _) rfl rfl) HBW.out
    unfold put8 at k0 k1 k2 k3 k4 k5 k6 k7 hcp
    refine bodyPost_ret (v := .agg #[.int .i64 k, .string la, .string ld, .int .i64 0, .string ⟨#[]⟩, .slice none 0 0, .slice none 0 0, .int .i64 0]) (by simp [results, Tryz.results77, go_sem, k0, k1, k2, k3, k4, k5, k6, k7]) rfl ?_
    rw [HR.out]
    exact hcp.drew
  · have HR := Lib.hid (show rdX k ps = zeroX by unfold rdX; rw [if_pos hk, if_pos h3])
    have hni : ¬ ((ps.length : Int) = 3) := by omega
    clear hown hc hz h3 hn hn2 hk
    go_enter Tryz.func77, Tryz.ntmps77
    go_wp2_with fail
    refine bodyPost_ret (v := .agg #[.int .i64 0, .string ⟨#[]⟩, .string ⟨#[]⟩, .int .i64 0, .string ⟨#[]⟩, .slice none 0 0, .slice none 0 0, .int .i64 0]) (by simp [results, Tryz.results77, go_sem]) rfl ?_
    rw [HR.out]
    exact zero_end w _
set_option maxRecDepth 100000 in
set_option maxHeartbeats 3200000 in
theorem readRegex_any (k : Int) (hk : k = 3 ∨ k = 4) (ps : List (List UInt8)) (v : Value) (B : Nat) (w : World) (hown : w.ownsRow B 9 1 v ps.length (strs ps)) (hn : 1 ≤ ps.length) (hn2 : ps.length ≤ 1048577) (hz : ∀ p ∈ ps, p.length ≤ 1048576) :
    Calls Tryz.prog 82 #[.int .i64 k, v] w (CopyC (rdX k ps) w) := by
  obtain ⟨g, c, rfl, hg, hc⟩ := strRow_at hown hn
  by_cases h3 : ps.length = 3
  · obtain ⟨a, b, d, rfl⟩ : ∃ a b d, ps = [a, b, d] := by
      match ps, h3 with
      | [a, b, d], _ => exact ⟨a, b, d, rfl⟩
    obtain ⟨pa, hpa⟩ : ∃ pa : ByteArray, pa = ⟨a.toArray⟩ := ⟨_, rfl⟩
    obtain ⟨pd, hpd⟩ : ∃ pd : ByteArray, pd = ⟨d.toArray⟩ := ⟨_, rfl⟩
    have c00 := hc 0 (by simp)
    have c02 := hc 2 (by simp)
    simp only [List.getElem_cons_succ, List.getElem_cons_zero] at c00 c02
    rw [← hpa] at c00
    rw [← hpd] at c02
    have HRa := Lib.hid (fun V => implRead_any a pa V (by rw [hpa]))
    have hza : a.length ≤ maxI := Nat.le_trans (hz a (by simp)) (by decide)
    have hzd2 := hz d (by simp)
    have hzd : pd.size ≤ 1048576 := by rw [hpd]; show d.toArray.size ≤ _; rw [List.size_toArray]; exact hzd2
    have HX : Hid (∀ V, Calls Tryz.prog 130 #[.string pd] V (RxPost d V)) := Lib.hid (fun V => (implParse_any pd V hzd).mono fun _ _ h => by have := rx_of_pa h; rw [hpd] at this; exact this)
    obtain ⟨la, hla⟩ : ∃ la, la = strL (readT a) := ⟨_, rfl⟩
    rw [← hla] at HRa
    have hsa : la.size ≤ maxI := by rw [hla, strL_size]; exact Nat.le_trans (readT_le a) hza
    obtain ⟨x, hx⟩ : ∃ x, x = readX d := ⟨_, rfl⟩
    have hsx := readX_size d hzd2
    have HR := Lib.hid (show rdX k [a, b, d] = ⟨k, la, ⟨#[]⟩, x.1, x.2.1, x.2.2, [], 0⟩ by unfold rdX; rw [if_neg (by omega), if_pos hk, if_neg (by simp), hla, hx]; rfl)
    rw [← hx] at hsx
    have HXE := Lib.hid hx
    have hlt0 : (0 : Int) < 3 := by omega
    have hlt2 : (2 : Int) < 3 := by omega
    obtain ⟨W, hW⟩ : ∃ W, W = w.alloc (.cells #[.int .i64 0, .string ⟨#[]⟩, .string ⟨#[]⟩, .int .i64 0, .string ⟨#[]⟩, .slice none 0 0, .slice none 0 0, .int .i64 0] 29) := ⟨_, rfl⟩
    have hbW : Below w.heap.size w W := by rw [hW]; exact (Below.refl _ _).alloc (Nat.le_refl _) _
    have hrb : W.heap[w.heap.size]? = some (.cells (cxA zeroX (.slice none 0 0) (.slice none 0 0)) 29 (0, 0)) := by rw [hW]; exact heap_alloc_new w _
    replace c00 := (hbW.cell hg).trans c00
    replace c02 := (hbW.cell hg).trans c02
    have e02 := c02
    rw [hW] at e02
    have HWE := Lib.hid hW
    have HCW := Lib.hid (fun (V : World) (hb : Below W.heap.size W V) => (hb.cell (Nat.lt_of_lt_of_le hg hbW.size)).trans c00)
    have HRW := Lib.hid (fun (V : World) (hb : Below W.heap.size W V) => (hb.block w.heap.size (by rw [hW]; simp)).trans hrb)
    have HBW := Lib.hid hbW
    have HRB := Lib.hid hrb
    clear hown hc hz h3 hpa hpd hla hn hn2 hza hzd hzd2 hk hg hW hbW hrb hx
    go_enter Tryz.func82, Tryz.ntmps82
    go_wp2_with fail
    rw [← HWE.out]
    refine (HX.out _).mono ?_
    rintro e w1 ⟨A, m, ok, rfl, ht, hb1⟩
    rw [← HXE.out] at ht ⊢
    have HB1 := Lib.hid hb1
    have HT1 := Lib.hid ht
    clear hb1 ht e02
    go_wp2_with fail
    obtain ⟨W2, hW2⟩ : ∃ W2, W2 = w1.alloc (.cells #[.int .i64 x.1, .string x.2.1, .slice A x.2.2.items.length m] 26) := ⟨_, rfl⟩
    rw [← hW2]
    have hb12 : Below w1.heap.size w1 W2 := by rw [hW2]; exact (Below.refl _ _).alloc (Nat.le_refl _) _
    have hbW2 := HB1.out.trans (hb12.mono HB1.out.size)
    have hx2 : W2.heap[w1.heap.size]? = some (.cells #[.int .i64 x.1, .string x.2.1, .slice A x.2.2.items.length m] 26) := by rw [hW2]; exact heap_alloc_new w1 _
    have x0 := cell_of_row W2 w1.heap.size 0 _ _ (0, 0) hx2
    have x1 := cell_of_row W2 w1.heap.size 1 _ _ (0, 0) hx2
    have x2 := cell_of_row W2 w1.heap.size 2 _ _ (0, 0) hx2
    have c00 := HCW.out W2 hbW2
    have hrb1 := HRW.out W2 hbW2
    obtain ⟨r0, r1, r2, r3, r4, r5, r6, r7⟩ := BoxC.cells (c := zeroX) ⟨_, hrb1⟩
    have fr := BoxC.frozen (c := zeroX) ⟨_, hrb1⟩
    have f00 := fr 0
    have f01 := fr 1
    have f02 := fr 2
    have f03 := fr 3
    have f04 := fr 4
    have f05 := fr 5
    have f06 := fr 6
    have f07 := fr 7
    have HRB := Lib.hid hrb1
    have HBX := Lib.hid (HBW.out.trans (hbW2.mono HBW.out.size))
    have hcn : CnT W2 (fun h => w.heap.size < h ∧ h < W2.heap.size) (.slice A x.2.2.items.length m) (.slice none 0 0) ⟨k, la, ⟨#[]⟩, x.1, x.2.1, x.2.2, [], 0⟩ :=
      CnT.tree hsa (Nat.zero_le _) hsx.1 (HT1.out.mono (fun g' hg' => hb12.block g' hg'.2) (fun g' hg' => hg')) (fun g' hg' => ⟨by have h1 := hg'.1; rw [HWE.out] at h1; simp at h1; omega, by have h1 := hg'.2; have h2 := hb12.size; omega⟩) rfl
    have HCN := Lib.hid hcn
    clear hW2 hb12 hbW2 hx2 hrb1 fr hcn
    refine wp_region_still_tail 7 (by kernel_rfl) (by kernel_rfl) ?_
    simp only [List.take_succ_cons, List.take_zero, List.drop_succ_cons, List.drop_zero]
    iterate 4 still_step
    still_call HRa.out _
    iterate 2 still_step
    refine wpStill_nil ?_
    go_wp2_with fail
    obtain ⟨⟨k0, k1, k2, k3, k4, k5, k6, k7⟩, hcp⟩ := copyC_end (w := w) (c := ⟨k, la, ⟨#[]⟩, x.1, x.2.1, x.2.2, [], 0⟩) HRB.out rfl HCN.out HBX.out
    unfold put8 at k0 k1 k2 k3 k4 k5 k6 k7 hcp
    refine bodyPost_ret (v := .agg #[.int .i64 k, .string la, .string ⟨#[]⟩, .int .i64 x.1, .string x.2.1, .slice A x.2.2.items.length m, .slice none 0 0, .int .i64 0]) (by simp [results, Tryz.results82, go_sem, k0, k1, k2, k3, k4, k5, k6, k7]) rfl ?_
    rw [HR.out]
    exact hcp.drew
  · have HR := Lib.hid (show rdX k ps = zeroX by unfold rdX; rw [if_neg (by omega), if_pos hk, if_pos h3])
    have hni : ¬ ((ps.length : Int) = 3) := by omega
    clear hown hc hz h3 hn hn2 hk
    go_enter Tryz.func82, Tryz.ntmps82
    go_wp2_with fail
    refine bodyPost_ret (v := .agg #[.int .i64 0, .string ⟨#[]⟩, .string ⟨#[]⟩, .int .i64 0, .string ⟨#[]⟩, .slice none 0 0, .slice none 0 0, .int .i64 0]) (by simp [results, Tryz.results82, go_sem]) rfl ?_
    rw [HR.out]
    exact zero_end w _

theorem implNum_any (s : ByteArray) (w : World) (hl : Laid5 w) (hs : s.size ≤ 281474976710656) : Calls Tryz.prog 135 #[.string s] w (NumPost s.data.toList w) := by
  by_cases h : ∃ n : Int, -999999999999 ≤ n ∧ n ≤ 999999999999 ∧ s.data.toList = Lib.itoa n
  · obtain ⟨n, h0, h1, hn⟩ := h
    exact (parseInt_yes s n w hs hl hn h0 h1).mono fun _ _ ⟨he, hb⟩ => ⟨true, by rw [he, hn, readN_itoa h0 h1], hb⟩
  · refine (parseInt_no s w hs hl (fun n h0 h1 e => h ⟨n, h0, h1, e⟩)).mono fun _ _ ⟨he, hb⟩ => ⟨false, ?_, hb⟩
    rw [he]
    unfold readN
    rw [dif_neg h]

set_option maxRecDepth 100000 in
set_option maxHeartbeats 6400000 in
theorem readLen_any (ps : List (List UInt8)) (v : Value) (B : Nat) (w : World) (hlaid : Laid5 w) (hown : w.ownsRow B 9 1 v ps.length (strs ps)) (hn : 1 ≤ ps.length) (hz : ∀ p ∈ ps, p.length ≤ 1048576) :
    Calls Tryz.prog 86 #[.int .i64 5, v] w (CopyC (rdX 5 ps) w) := by
  obtain ⟨g, c, rfl, hg, hc⟩ := strRow_at hown hn
  by_cases h5 : ps.length = 5
  · have HC := Lib.hid (fun (V : World) (hb : Below w.heap.size w V) j (hj : j < ps.length) => (hb.cell (p := ⟨g, j, none⟩) hg).trans (hc j hj))
    have hcap : 5 ≤ c := by
      obtain ⟨_, h2⟩ := id hown
      rcases h2 with ⟨h2, _⟩ | ⟨g', cap, cur, he, h3, h4, h6⟩
      · cases h2
      · cases he
        omega
    have HP := Lib.hid (fun (j : Nat) (hj : j < ps.length) (V : World) (hb : Below w.heap.size w V) => implNum_any ⟨ps[j].toArray⟩ V (hlaid.below hb) (by have := hz _ (List.getElem_mem hj); show ps[j].toArray.size ≤ 281474976710656; rw [List.size_toArray]; omega))
    clear hown hc hz hlaid hn
    have ncap : ¬ ((c : Int) < 4) := by omega
    have pcap : (4 : Int) ≤ (c : Int) := by omega
    rw [h5]
    go_enter Tryz.func86, Tryz.ntmps86
    go_wp2_with fail
    obtain ⟨W1, hW1⟩ : ∃ W1, W1 = (w.alloc (.cells #[.int .i64 0, .string ⟨#[]⟩, .string ⟨#[]⟩, .int .i64 0, .string ⟨#[]⟩, .slice none 0 0, .slice none 0 0, .int .i64 0] 29)).alloc (.cells #[.int .i64 5, .string ⟨#[]⟩, .string ⟨#[]⟩, .int .i64 0, .string ⟨#[]⟩, .slice none 0 0, .slice none 0 0, .int .i64 0] 29) := ⟨_, rfl⟩
    rw [← hW1]
    have hz1 : W1.heap.size = w.heap.size + 1 + 1 := by rw [hW1]; simp
    have hbw1 : Below w.heap.size w W1 := by rw [hW1]; exact ((Below.refl _ _).alloc (Nat.le_refl _) _).alloc (by simp) _
    have ho1 : OutC (w.heap.size + 1) W1 (w.heap.size + 1) ⟨5, ⟨#[]⟩, ⟨#[]⟩, 0, ⟨#[]⟩, .nil, [], 0⟩ (.slice none 0 0) (.slice none 0 0) [] := by
      refine ⟨?_, Nat.le_refl _, World.ownsRow_nil _ _ _ _⟩
      rw [hW1]
      have := heap_alloc_new (w.alloc (.cells #[.int .i64 0, .string ⟨#[]⟩, .string ⟨#[]⟩, .int .i64 0, .string ⟨#[]⟩, .slice none 0 0, .slice none 0 0, .int .i64 0] 29)) (.cells #[.int .i64 5, .string ⟨#[]⟩, .string ⟨#[]⟩, .int .i64 0, .string ⟨#[]⟩, .slice none 0 0, .slice none 0 0, .int .i64 0] 29)
      rw [World.size_alloc] at this
      exact this
    have hr1 : W1.heap[w.heap.size]? = some (.cells #[.int .i64 0, .string ⟨#[]⟩, .string ⟨#[]⟩, .int .i64 0, .string ⟨#[]⟩, .slice none 0 0, .slice none 0 0, .int .i64 0] 29) := by
      rw [hW1]
      exact (Below.heap_alloc _ _ _ (by simp)).trans (heap_alloc_new w _)
    have HO1 := Lib.hid ho1
    have HR1 := Lib.hid hr1
    have HBW1 := Lib.hid hbw1
    have HZ1 := Lib.hid hz1
    obtain ⟨i0, hi, hi0, hi1, hi2⟩ := info_parts intInfo
    clear hW1 ho1 hr1 hbw1 hz1
    go_loopw [23] (fun i wr => ∃ (k : Nat) (vr : Value), i = .int .i64 k ∧ k ≤ 3 ∧ OutC (w.heap.size + 1) wr (w.heap.size + 1) ⟨5, ⟨#[]⟩, ⟨#[]⟩, 0, ⟨#[]⟩, .nil, [], 0⟩ (.slice none 0 0) vr (((ps.drop 1).take k).map readN) ∧ Below (w.heap.size + 1) W1 wr) (fun i _ => 4 - (intOf i).toNat)
    case atStart => exact ⟨0, _, rfl, Nat.zero_le _, by simpa using HO1.out, Below.refl _ _⟩
    case round =>
      obtain ⟨k, vr, rfl, hk3, ho, hb⟩ := hrel
      have HO := Lib.hid ho
      have HB := Lib.hid hb
      have hbo := HBW1.out.trans (hb.mono (by omega))
      have HBO := Lib.hid hbo
      obtain ⟨Av, cv, rfl⟩ := nr_any ho.row
      obtain ⟨l, hl⟩ : ∃ l, l = ((ps.drop 1).take k).map readN := ⟨_, rfl⟩
      rw [← hl] at HO
      have hll : l.length ≤ 1048577 := by rw [hl, List.length_map, List.length_take]; omega
      have HLL := Lib.hid hl
      clear ho hb hl
      obtain ⟨b0, b1, b2, b3, b4, b5, b6, b7⟩ := HO.out.boxC.cells
      by_cases hlt : k < 3
      · have hk : k + 1 < ps.length := by omega
        have hcell := HC.out _ hbo (k + 1) hk
        have HPk := Lib.hid (HP.out (k + 1) hk _ hbo)
        obtain ⟨px, hpx⟩ : ∃ px : ByteArray, px = ⟨ps[k + 1].toArray⟩ := ⟨_, rfl⟩
        rw [← hpx] at hcell HPk
        rw [Nat.add_comm k 1] at hcell
        have hkl : ((k : Int) < 3) := by omega
        clear hpx hbo
        go_wp2_with fail
        refine HPk.out.mono ?_
        rintro e' w2 ⟨ok, rfl, hb2⟩
        have HO2 := Lib.hid (HO.out.below hb2)
        have HB2 := Lib.hid (HB.out.trans (hb2.mono (by have := HB.out.size; have := HZ1.out; omega)))
        obtain ⟨x, hx⟩ : ∃ x, x = readN ps[k + 1] := ⟨_, rfl⟩
        have HLN := Lib.hid (show l ++ [x] = ((ps.drop 1).take (k + 1)).map readN by
          rw [HLL.out, hx, ← List.map_singleton, ← List.map_append]
          congr 1
          rw [List.take_succ_eq_append_getElem (by simp; omega)]
          simp)
        rw [← hx]
        clear hb2 hcell b0 b1 b2 b3 b4 b5 b6 b7 hx
        obtain ⟨b0, b1, b2, b3, b4, b5, b6, b7⟩ := HO2.out.boxC.cells
        have hz2 : w.heap.size + 1 ≤ w2.heap.size := by have := HB2.out.size; have := HZ1.out; omega
        go_wp2_with (at_builtin; refine wpList_append_own _ rfl (.tmp 33) (.tmp 35) 27 rfl (w.heap.size + 1) 3 i0 (.int .i64 0) 1 8 Tryz.underlying27 hi hi0 hi1 hi2 rfl (by decide) _ _ _ rfl (HO2.out.row.alloc _) ⟨w2.heap.size, 0, none⟩ 1 1 [.int .i64 x] rfl rfl (cell_one_new _ _ _) (by simp [Value.oneCell']) (by unfold maxLen; omega) (by omega) (by simp; omega) ?_)
        intro v' w7 hown' hgrow _
        obtain ⟨gv, cv, rfl⟩ := nr_shape hown'
        obtain ⟨hp1, hp2, hp3, hp4⟩ := HO2.out.push hown' hgrow
        have HP1 := Lib.hid hp1
        have HP2 := Lib.hid (HB2.out.trans (((Below.refl _ _).alloc (Nat.le_refl w2.heap.size) _).mono (by have := HB2.out.size; have := HZ1.out; omega) |>.trans (hp2 _ (Nat.le_refl _))))
        obtain ⟨b0', b1', b2', b3', b4', b5', b6', b7'⟩ := hp3
        clear hown' hgrow hp1 hp2 b0 b1 b2 b3 b4 b5 b6 b7
        go_wp2_with fail
        go_roundw
        case rel => exact ⟨k + 1, _, by go_num, by omega, by rw [← HLN.out]; exact HP1.out, HP2.out⟩
        case measure => simp [intOf]; omega
      · obtain rfl : k = 3 := by omega
        have hcell := HC.out _ hbo 4 (by omega)
        have HPk := Lib.hid (HP.out 4 (by omega))
        obtain ⟨px, hpx⟩ : ∃ px : ByteArray, px = ⟨ps[4].toArray⟩ := ⟨_, rfl⟩
        rw [← hpx] at hcell HPk
        obtain ⟨x, hx⟩ : ∃ x, x = readN ps[4] := ⟨_, rfl⟩
        have HX : Hid (rdX 5 ps = ⟨5, ⟨#[]⟩, ⟨#[]⟩, 0, ⟨#[]⟩, .nil, l, x⟩) := Lib.hid (by
          unfold rdX
          rw [if_neg (by omega), if_neg (by omega), if_neg (by omega), HLL.out, hx]
          match ps, h5 with
          | [p0, p1, p2, p3, p4], _ => rfl)
        have HNX := Lib.hid hx
        clear hpx hx hlt hbo
        go_wp2_with fail
        refine (HPk.out wr HBO.out).mono ?_
        rintro e' w2 ⟨ok, rfl, hb2⟩
        have HO2 := Lib.hid (HO.out.below hb2)
        have HB2 := Lib.hid (HB.out.trans (hb2.mono (by have := HB.out.size; have := HZ1.out; omega)))
        rw [← HNX.out]
        clear hb2 hcell b0 b1 b2 b3 b4 b5 b6 b7
        obtain ⟨b0, b1, b2, b3, b4, b5, b6, b7⟩ := HO2.out.boxC.cells
        have hrb : w2.heap[w.heap.size]? = some (.cells (cxA zeroX (.slice none 0 0) (.slice none 0 0)) 29 (0, 0)) := (HB2.out.block w.heap.size (Nat.lt_succ_self _)).trans HR1.out
        obtain ⟨r0, r1, r2, r3, r4, r5, r6, r7⟩ := BoxC.cells (c := zeroX) ⟨_, hrb⟩
        have HRB := Lib.hid hrb
        have f7 := HO2.out.boxC.frozen 7
        have fr := BoxC.frozen (c := zeroX) ⟨_, hrb⟩
        have f00 := fr 0
        have f01 := fr 1
        have f02 := fr 2
        have f03 := fr 3
        have f04 := fr 4
        have f05 := fr 5
        have f06 := fr 6
        have f07 := fr 7
        clear hrb fr
        go_wp2_with fail
        have hX := HO2.out.row
        obtain ⟨X, hXe⟩ : ∃ X, X = w2.setCell ⟨w.heap.size + 1, 7, none⟩ (.int .i64 x) := ⟨_, rfl⟩
        have hXb : X.heap[w.heap.size]? = some (.cells (cxA zeroX (.slice none 0 0) (.slice none 0 0)) 29 (0, 0)) := by
          rw [hXe, Below.heap_setCell _ _ _ _ (by simp)]
          exact HRB.out
        have hXz : X.heap.size = w2.heap.size := by rw [hXe]; simp [World.setCell]
        have hXo : ∀ g, g ≠ w.heap.size + 1 → X.heap[g]? = w2.heap[g]? := fun g hg => by rw [hXe, Below.heap_setCell _ _ _ _ hg]
        have hXw : Below w.heap.size w X := by
          rw [hXe]
          exact (HBW1.out.trans (HB2.out.mono (by omega))).setCell (p := ⟨w.heap.size + 1, 7, none⟩) (by simp) _
        rw [← hXe]
        have hle : l.length ≤ 9223372036854775807 := by omega
        have hrow : RowO X (fun g => w.heap.size < g ∧ g < X.heap.size) (.slice Av l.length cv) (ints l) := by
          refine (RowO.of_owns hX hle).mono (fun g hg => hXo g (outC_ne HO2.out HO2.out.row hg)) (fun g hg => ?_)
          have := HO2.out.row.lt g hg
          omega
        obtain ⟨⟨k0, k1, k2, k3, k4, k5, k6, k7⟩, hcp⟩ := copyC_end (w := w) (c := ⟨5, ⟨#[]⟩, ⟨#[]⟩, 0, ⟨#[]⟩, .nil, l, x⟩) (xu := .slice none 0 0) (vc := .slice Av l.length cv) hXb rfl (CnT.num (Nat.zero_le _) (Nat.zero_le _) (Nat.zero_le _) rfl hrow (fun _ h => h)) hXw
        unfold put8 at k0 k1 k2 k3 k4 k5 k6 k7 hcp
        refine bodyPost_ret (v := .agg #[.int .i64 5, .string ⟨#[]⟩, .string ⟨#[]⟩, .int .i64 0, .string ⟨#[]⟩, .slice none 0 0, .slice Av l.length cv, .int .i64 x]) (by simp [results, Tryz.results86, go_sem, k0, k1, k2, k3, k4, k5, k6, k7]) rfl ?_
        rw [HX.out]
        exact hcp
  · have HR := Lib.hid (show rdX 5 ps = zeroX by unfold rdX; rw [if_neg (by omega), if_neg (by omega), if_pos h5])
    have hni : ¬ ((ps.length : Int) = 5) := by omega
    clear hown hc hz h5 hn hlaid
    go_enter Tryz.func86, Tryz.ntmps86
    go_wp2_with fail
    refine bodyPost_ret (v := .agg #[.int .i64 0, .string ⟨#[]⟩, .string ⟨#[]⟩, .int .i64 0, .string ⟨#[]⟩, .slice none 0 0, .slice none 0 0, .int .i64 0]) (by simp [results, Tryz.results86, go_sem]) rfl ?_
    rw [HR.out]
    exact zero_end w _
end Go.Proofs.YtjjjdieljljcoaaGreatDoor
