/- Texts of one proof. -/
import Derived.Test.YtppliiingoonlaaGreatDoorxPPZPack8
set_option maxRecDepth 100000
set_option maxHeartbeats 20000000
namespace Go.Proofs.YtppliiingoonlaaGreatDoor
open Go.RowKit
def PaYes (x : Nd) (w : World) (e : Ending) (w' : World) : Prop := ∃ u, e = .returned (.tuple #[.agg #[.int .i64 x.1, .string x.2.1, u], .bool true]) /\ SlT w' 6 (OwnB w w') u x.2.2 /\ Below w.heap.size w w'
def PaNo (w : World) (e : Ending) (w' : World) : Prop := e = .returned (.tuple #[.agg #[.int .i64 0, .string ⟨#[]⟩, .slice none 0 0], .bool false]) /\ Below w.heap.size w w'
def PaPost (s : List UInt8) (w : World) (e : Ending) (w' : World) : Prop :=
  match parseAll s with
  | some x => PaYes x w e w'
  | none => PaNo w e w'
theorem implParse_none (s : ByteArray) (w : World) (hs : s.size <= 1048576) (hp : parse 6 s.data.toList = none) : Calls Tryz.prog 168 #[.string s] w (PaNo w) := by
  have HI := Lib.hid (λ w => (rdAt_all 6 (Nat.le_refl _)).no hp w hs)
  rw [show (((6 : Nat) : Int)) = 6 from rfl] at HI
  clear hp hs
  go_enter Tryz.func168, Tryz.ntmps168
  go_wp2_with fail
  (with_reducible refine (HI.out _).mono ?_)
  rintro e w1 ⟨rfl, hb⟩
  have hb1 : Below (w.heap.size + 1) (w.alloc (.cells #[.int .i64 0, .string ⟨#[]⟩, .slice none 0 0] 26)) w1 := by simpa using hb
  have hz := hb1.size
  rw [World.size_alloc] at hz
  obtain ⟨W2, hW2⟩ : ∃ W2, W2 = w1.alloc (.cells #[.int .i64 0, .string ⟨#[]⟩, .slice none 0 0] 26) := ⟨_, rfl⟩
  have hb2 : Below (w.heap.size + 1) (w.alloc (.cells #[.int .i64 0, .string ⟨#[]⟩, .slice none 0 0] 26)) W2 := by rw [hW2]; exact hb1.alloc hz _
  obtain ⟨-, b0, b1, b2, f0, f1, f2⟩ := box_kept hb2
  have HF := Lib.hid (put3 (k := .int .i64 0) (l := .string ⟨#[]⟩) (u := .slice none 0 0) b0 b1 b2)
  have HB := Lib.hid (((Below.refl w.heap.size w).alloc (Nat.le_refl _) (.cells #[.int .i64 0, .string ⟨#[]⟩, .slice none 0 0] 26)).trans (hb2.mono (Nat.le_succ _)))
  rw [hW2] at b0 b1 b2 f0 f1 f2
  have HW2 := Lib.hid hW2
  clear hb2 hW2
  clear hb hb1
  go_wp2_with fail
  rw [<- HW2.out]
  obtain ⟨⟨c0, c1, c2⟩, _, _, hB⟩ := HF.out
  exact bodyPost_ret (v := .tuple #[.agg #[.int .i64 0, .string ⟨#[]⟩, .slice none 0 0], .bool false]) (by simp [results, Tryz.results168, go_sem, c0, c1, c2]) rfl ⟨rfl, hB _ _ HB.out (Nat.le_refl _)⟩
theorem implParse_rest (s : ByteArray) (x : Nd) (b : UInt8) (t : List UInt8) (w : World) (hs : s.size <= 1048576) (hp : parse 6 s.data.toList = some (x, b :: t)) : Calls Tryz.prog 168 #[.string s] w (PaNo w) := by
  have HI := Lib.hid (λ w => (rdAt_all 6 (Nat.le_refl _)).yes hp w hs)
  rw [show (((6 : Nat) : Int)) = 6 from rfl] at HI
  clear hp hs
  go_enter Tryz.func168, Tryz.ntmps168
  go_wp2_with fail
  (with_reducible refine (HI.out _).mono ?_)
  rintro e w1 ⟨u, rs, rfl, hrs, hsl, hb⟩
  have hb1 : Below (w.heap.size + 1) (w.alloc (.cells #[.int .i64 0, .string ⟨#[]⟩, .slice none 0 0] 26)) w1 := by simpa using hb
  obtain ⟨A, c, rfl⟩ := hsl.shape
  have hz := hb1.size
  rw [World.size_alloc] at hz
  have hr0 : ¬ rs.toList = [] := some_bytes hrs
  have hr1 : (!rs.toList.isEmpty) = true := by simpa using hr0
  obtain ⟨W2, hW2⟩ : ∃ W2, W2 = w1.alloc (.cells #[.int .i64 x.1, .string x.2.1, .slice A x.2.2.items.length c] 26) := ⟨_, rfl⟩
  have hb2 : Below (w.heap.size + 1) (w.alloc (.cells #[.int .i64 0, .string ⟨#[]⟩, .slice none 0 0] 26)) W2 := by rw [hW2]; exact hb1.alloc hz _
  obtain ⟨-, b0, b1, b2, f0, f1, f2⟩ := box_kept hb2
  have HF := Lib.hid (put3 (k := .int .i64 0) (l := .string ⟨#[]⟩) (u := .slice none 0 0) b0 b1 b2)
  have HB := Lib.hid (((Below.refl w.heap.size w).alloc (Nat.le_refl _) (.cells #[.int .i64 0, .string ⟨#[]⟩, .slice none 0 0] 26)).trans (hb2.mono (Nat.le_succ _)))
  rw [hW2] at b0 b1 b2 f0 f1 f2
  have HW2 := Lib.hid hW2
  clear hb2 hW2
  clear hb hb1 hsl hrs
  go_wp2_with fail
  rw [<- HW2.out]
  obtain ⟨⟨c0, c1, c2⟩, _, _, hB⟩ := HF.out
  exact bodyPost_ret (v := .tuple #[.agg #[.int .i64 0, .string ⟨#[]⟩, .slice none 0 0], .bool false]) (by simp [results, Tryz.results168, go_sem, c0, c1, c2]) rfl ⟨rfl, hB _ _ HB.out (Nat.le_refl _)⟩
theorem implParse_bad (s : ByteArray) (x : Nd) (w : World) (hs : s.size <= 1048576) (hp : parse 6 s.data.toList = some (x, [])) (hv : validRx x.1 x.2.1 x.2.2 = false) : Calls Tryz.prog 168 #[.string s] w (PaNo w) := by
  have HI := Lib.hid (λ w => (rdAt_all 6 (Nat.le_refl _)).yes hp w hs)
  rw [show (((6 : Nat) : Int)) = 6 from rfl] at HI
  obtain ⟨-, hx1, hx2⟩ := parse_spec 6 _ x [] hp
  rw [show 2 ^ 6 = 64 from rfl] at hx1
  clear hp hs
  go_enter Tryz.func168, Tryz.ntmps168
  go_wp2_with fail
  (with_reducible refine (HI.out _).mono ?_)
  rintro e w1 ⟨u, rs, rfl, hrs, hsl, hb⟩
  have hb1 : Below (w.heap.size + 1) (w.alloc (.cells #[.int .i64 0, .string ⟨#[]⟩, .slice none 0 0] 26)) w1 := by simpa using hb
  obtain ⟨A, c, rfl⟩ := hsl.shape
  have hz := hb1.size
  rw [World.size_alloc] at hz
  have HV := Lib.hid (λ (W : World) (hW : Below w1.heap.size w1 W) => implValid_any 6 W.heap.size x.1 x.2.1 (.slice A x.2.2.items.length c) x.2.2 W (SlP.mono (λ g hg => hW.block g hg.2) (λ g hg => Nat.lt_of_lt_of_le hg.2 hW.size) hsl.sl) (Nat.le_refl _) (by omega) (by omega))
  rw [hv] at HV
  have hr0 : rs.toList = [] := no_bytes hrs
  have hr1 : (!rs.toList.isEmpty) = false := by rw [hr0]; rfl
  have c0 := (cell_of_row (w1.alloc (.cells #[.int .i64 x.1, .string x.2.1, .slice A x.2.2.items.length c] 26)) _ 0 _ _ (0, 0) (heap_alloc_new w1 (.cells #[.int .i64 x.1, .string x.2.1, .slice A x.2.2.items.length c] 26))).trans (rfl : _ = some (Value.int .i64 x.1))
  clear hb hsl hrs hx1 hx2 hv c0
  have HB1 := Lib.hid hb1
  clear hb1
  go_wp2_with fail
  refine (HV.out _ ((Below.refl _ _).alloc (Nat.le_refl _) _)).mono ?_
  rintro e w2 ⟨rfl, hb3⟩
  have hb12 : Below w1.heap.size w1 w2 := ((Below.refl _ _).alloc (Nat.le_refl _) _).trans (hb3.mono (by simp))
  obtain ⟨W2, hW2⟩ : ∃ W2, W2 = w2 := ⟨_, rfl⟩
  have hb2 : Below (w.heap.size + 1) (w.alloc (.cells #[.int .i64 0, .string ⟨#[]⟩, .slice none 0 0] 26)) W2 := by rw [hW2]; exact HB1.out.trans (hb12.mono hz)
  obtain ⟨-, b0, b1, b2, f0, f1, f2⟩ := box_kept hb2
  have HF := Lib.hid (put3 (k := .int .i64 0) (l := .string ⟨#[]⟩) (u := .slice none 0 0) b0 b1 b2)
  have HB := Lib.hid (((Below.refl w.heap.size w).alloc (Nat.le_refl _) (.cells #[.int .i64 0, .string ⟨#[]⟩, .slice none 0 0] 26)).trans (hb2.mono (Nat.le_succ _)))
  rw [hW2] at b0 b1 b2 f0 f1 f2
  have HW2 := Lib.hid hW2
  clear hb2 hW2
  clear hb3 hb12
  go_wp2_with fail
  rw [<- HW2.out]
  obtain ⟨⟨c0, c1, c2⟩, _, _, hB⟩ := HF.out
  exact bodyPost_ret (v := .tuple #[.agg #[.int .i64 0, .string ⟨#[]⟩, .slice none 0 0], .bool false]) (by simp [results, Tryz.results168, go_sem, c0, c1, c2]) rfl ⟨rfl, hB _ _ HB.out (Nat.le_refl _)⟩
theorem implParse_yes (s : ByteArray) (x : Nd) (w : World) (hs : s.size <= 1048576) (hp : parse 6 s.data.toList = some (x, [])) (hv : validRx x.1 x.2.1 x.2.2 = true) : Calls Tryz.prog 168 #[.string s] w (PaYes x w) := by
  have HI := Lib.hid (λ w => (rdAt_all 6 (Nat.le_refl _)).yes hp w hs)
  rw [show (((6 : Nat) : Int)) = 6 from rfl] at HI
  obtain ⟨-, hx1, hx2⟩ := parse_spec 6 _ x [] hp
  rw [show 2 ^ 6 = 64 from rfl] at hx1
  clear hp hs
  go_enter Tryz.func168, Tryz.ntmps168
  go_wp2_with fail
  (with_reducible refine (HI.out _).mono ?_)
  rintro e w1 ⟨u, rs, rfl, hrs, hsl, hb⟩
  have hb1 : Below (w.heap.size + 1) (w.alloc (.cells #[.int .i64 0, .string ⟨#[]⟩, .slice none 0 0] 26)) w1 := by simpa using hb
  obtain ⟨A, c, rfl⟩ := hsl.shape
  have hz := hb1.size
  rw [World.size_alloc] at hz
  have HV := Lib.hid (λ (W : World) (hW : Below w1.heap.size w1 W) => implValid_any 6 W.heap.size x.1 x.2.1 (.slice A x.2.2.items.length c) x.2.2 W (SlP.mono (λ g hg => hW.block g hg.2) (λ g hg => Nat.lt_of_lt_of_le hg.2 hW.size) hsl.sl) (Nat.le_refl _) (by omega) (by omega))
  rw [hv] at HV
  have hr0 : rs.toList = [] := no_bytes hrs
  have hr1 : (!rs.toList.isEmpty) = false := by rw [hr0]; rfl
  have HSL := Lib.hid hsl
  clear hb hsl hrs hx1 hx2 hv
  have HB1 := Lib.hid hb1
  clear hb1
  go_wp2_with fail
  refine (HV.out _ ((Below.refl _ _).alloc (Nat.le_refl _) _)).mono ?_
  rintro e w2 ⟨rfl, hb3⟩
  have hb3' : Below (w1.heap.size + 1) (w1.alloc (.cells #[.int .i64 x.1, .string x.2.1, .slice A x.2.2.items.length c] 26)) w2 := by simpa using hb3
  obtain ⟨-, d0, d1, d2, -⟩ := box_kept hb3'
  have hb12 : Below w1.heap.size w1 w2 := ((Below.refl _ _).alloc (Nat.le_refl _) _).trans (hb3.mono (by simp))
  have hb02 : Below (w.heap.size + 1) (w.alloc (.cells #[.int .i64 0, .string ⟨#[]⟩, .slice none 0 0] 26)) w2 := HB1.out.trans (hb12.mono hz)
  obtain ⟨-, b0, b1, b2, f0, f1, f2⟩ := box_kept hb02
  have HF := Lib.hid (rd_end (k := x.1) (l := x.2.1) hb02 (HSL.out.mono (w' := w2) (S' := OwnB (w.alloc (.cells #[.int .i64 0, .string ⟨#[]⟩, .slice none 0 0] 26)) w2) (λ g hg => hb12.block g hg.2) (λ g hg => ⟨hg.1, Nat.lt_of_lt_of_le hg.2 hb12.size⟩)) b0 b1 b2)
  clear hb3 hb3' hb12 hb02
  go_wp2_with fail
  obtain ⟨⟨c0, c1, c2⟩, hS, hB⟩ := HF.out
  exact bodyPost_ret (v := .tuple #[.agg #[.int .i64 x.1, .string x.2.1, .slice A x.2.2.items.length c], .bool true]) (by simp [results, Tryz.results168, go_sem, c0, c1, c2]) rfl ⟨_, rfl, hS, hB⟩
theorem pa_some {l : List UInt8} {x : Nd} {w w' : World} {e : Ending} (hp : parseAll l = some x) (h : PaYes x w e w') : PaPost l w e w' := by unfold PaPost; rw [hp]; exact h
theorem pa_none {l : List UInt8} {w w' : World} {e : Ending} (hp : parseAll l = none) (h : PaNo w e w') : PaPost l w e w' := by unfold PaPost; rw [hp]; exact h
theorem implParse_any (s : ByteArray) (w : World) (hs : s.size <= 1048576) : Calls Tryz.prog 168 #[.string s] w (PaPost s.data.toList w) := by
  cases hp : parse 6 s.data.toList with
  | none => exact (implParse_none s w hs hp).mono λ _ _ h => pa_none (by unfold parseAll; rw [hp]) h
  | some p =>
    obtain ⟨x, t⟩ := p
    cases t with
    | cons b t => exact (implParse_rest s x b t w hs hp).mono λ _ _ h => pa_none (by unfold parseAll; rw [hp]) h
    | nil =>
      cases hv : validRx x.1 x.2.1 x.2.2 with
      | true => exact (implParse_yes s x w hs hp hv).mono λ _ _ h => pa_some (by unfold parseAll; rw [hp]; exact if_pos hv) h
      | false => exact (implParse_bad s x w hs hp hv).mono λ _ _ h => pa_none (by unfold parseAll; rw [hp]; exact if_neg (by rw [hv]; decide)) h
theorem box_grownN {w w1 : World} {a b c : Value} {t : TypeId} {g : Nat} (hg : (w.alloc (.cells #[a, b, c] t)).grownBy w1 (some g)) (hne : g ≠ w.heap.size) :
    w1.heap[w.heap.size]? = some (.cells #[a, b, c] t (0, 0)) /\ w1.cell? ⟨w.heap.size, 0, none⟩ = some a /\ w1.cell? ⟨w.heap.size, 1, none⟩ = some b /\ w1.cell? ⟨w.heap.size, 2, none⟩ = some c /\
      w1.frozen? ⟨w.heap.size, 0, none⟩ = false /\ w1.frozen? ⟨w.heap.size, 1, none⟩ = false /\ w1.frozen? ⟨w.heap.size, 2, none⟩ = false := by
  have h := (hg.block w.heap.size (by simp) (by simpa using λ e : w.heap.size = g => hne e.symm)).trans (heap_alloc_new w _)
  exact ⟨h, (cell_of_row w1 _ 0 _ _ (0, 0) h).trans rfl, (cell_of_row w1 _ 1 _ _ (0, 0) h).trans rfl, (cell_of_row w1 _ 2 _ _ (0, 0) h).trans rfl, frozen_of_row w1 _ 0 _ _ h, frozen_of_row w1 _ 1 _ _ h, frozen_of_row w1 _ 2 _ _ h⟩
theorem grown_below {w w1 : World} {g : Nat} (h : w.grownBy w1 (some g)) (hg : w.heap.size <= g) : Below w.heap.size w w1 := ⟨h.os, h.tape, h.output, h.size, λ k hk => h.block k hk (λ e => by cases e; omega)⟩
theorem grown_of_belowN {w w1 : World} (h : Below w.heap.size w w1) (row : Option Nat) : w.grownBy w1 row := ⟨h.os, h.tape, h.output, h.size, λ k hk _ => h.block k hk⟩
theorem pa_end {w W2 : World} {d g : Nat} {k : Int} {l : ByteArray} {u : Value} {f : Fr} {S : Nat -> Prop} (hg : (w.alloc (.cells #[.int .i64 0, .string ⟨#[]⟩, .slice none 0 0] 26)).grownBy W2 (some g)) (hgw : w.heap.size < g) (hs : SlT W2 d S u f) (hS : ∀ h, S h -> w.heap.size + 1 <= h /\ h < W2.heap.size) :
    let W4 := ((W2.setCell ⟨w.heap.size, 0, none⟩ (.int .i64 k)).setCell ⟨w.heap.size, 1, none⟩ (.string l)).setCell ⟨w.heap.size, 2, none⟩ u
    (W4.cell? ⟨w.heap.size, 0, none⟩ = some (.int .i64 k) /\ W4.cell? ⟨w.heap.size, 1, none⟩ = some (.string l) /\ W4.cell? ⟨w.heap.size, 2, none⟩ = some u) /\ SlT W4 d (OwnB w W4) u f /\ Below w.heap.size w W4 := by
  intro W4
  obtain ⟨-, b0, b1, b2, -⟩ := box_grownN hg (by omega)
  obtain ⟨hc, hsz, hot, hB⟩ := put3 (k := .int .i64 k) (l := .string l) (u := u) b0 b1 b2
  refine ⟨hc, hs.mono (λ h hh => hot h (by have := (hS h hh).1; omega)) (λ h hh => ⟨by have := (hS h hh).1; omega, by rw [hsz]; exact (hS h hh).2⟩), hB _ _ ?_ (Nat.le_refl _)⟩
  exact grown_below (grown_tr (World.grownBy_alloc w (.cells #[.int .i64 0, .string ⟨#[]⟩, .slice none 0 0] 26) (some g)) hg) (Nat.le_of_lt hgw)
theorem pa_zero {w W2 : World} {g : Nat} (hg : (w.alloc (.cells #[.int .i64 0, .string ⟨#[]⟩, .slice none 0 0] 26)).grownBy W2 (some g)) (hgw : w.heap.size < g) :
    let W4 := ((W2.setCell ⟨w.heap.size, 0, none⟩ (.int .i64 0)).setCell ⟨w.heap.size, 1, none⟩ (.string ⟨#[]⟩)).setCell ⟨w.heap.size, 2, none⟩ (.slice none 0 0)
    (W4.cell? ⟨w.heap.size, 0, none⟩ = some (.int .i64 0) /\ W4.cell? ⟨w.heap.size, 1, none⟩ = some (.string ⟨#[]⟩) /\ W4.cell? ⟨w.heap.size, 2, none⟩ = some (.slice none 0 0)) /\ Below w.heap.size w W4 := by
  have h := pa_end (d := 1) (k := 0) (l := ⟨#[]⟩) (u := .slice none 0 0) (f := .nil) (S := λ _ => False) hg hgw (SlT.none _ 0 _ none 0) (λ _ h => h.elim)
  exact ⟨h.1, h.2.2⟩
theorem specParse_none (s : ByteArray)  (w : World) (hs : s.size <= 1048576) (hp : parse 6 s.data.toList = none)  : Calls Tryz.prog 124 #[.string s] w (PaNo w) := by
  have HI := Lib.hid (λ wr hst => (ndAt_all 6 (Nat.le_refl _)).no (D := 1) (by omega) hp wr (g := w.heap.size + 1) hst hs rfl (Nat.zero_le _))
  have hst0 : St ((w.alloc (.cells #[.int .i64 0, .string ⟨#[]⟩, .slice none 0 0] 26)).alloc (.cells #[.string s, .int .i64 0, .bool false] 190)) (w.heap.size + 1) s 0 false := by
    have := heap_alloc_new (w.alloc (.cells #[.int .i64 0, .string ⟨#[]⟩, .slice none 0 0] 26)) (.cells #[.string s, .int .i64 0, .bool false] 190)
    rwa [World.size_alloc] at this
  have HST0 := Lib.hid hst0
  have HG0 := Lib.hid (World.grownBy_alloc (w.alloc (.cells #[.int .i64 0, .string ⟨#[]⟩, .slice none 0 0] 26)) (.cells #[.string s, .int .i64 0, .bool false] 190) (some (w.heap.size + 1)))
  clear hp hst0
  go_enter Tryz.func124, Tryz.ntmps124
  go_wp2_with fail
  (with_reducible refine (HI.out _ HST0.out).mono ?_)
  rintro e w1 ⟨k1, l1, A, m, c, p1, rfl, hst1, hp1, hg1⟩
  have hst : St (w1.alloc (.cells #[.int .i64 k1, .string l1, .slice A m c] 26)) (w.heap.size + 1) s p1 true := hst1.same (Below.heap_alloc _ _ _ hst1.lt)
  obtain ⟨-, q1, q2, -, -⟩ := hst.cells
  have hg2 := grown_tr (grown_tr HG0.out hg1) (World.grownBy_alloc w1 (.cells #[.int .i64 k1, .string l1, .slice A m c] 26) _)
  obtain ⟨W2, hW2⟩ : ∃ W2, W2 = w1.alloc (.cells #[.int .i64 k1, .string l1, .slice A m c] 26) := ⟨_, rfl⟩
  rw [<- hW2] at hg2
  obtain ⟨-, b0, b1, b2, f0, f1, f2⟩ := box_grownN hg2 (by omega)
  have HF := Lib.hid (pa_zero hg2 (by omega))
  rw [hW2] at b0 b1 b2 f0 f1 f2
  have HW2 := Lib.hid hW2
  clear hst1 hst hp1 hg1 hg2 hW2
  go_wp2_with fail
  rw [<- HW2.out]
  obtain ⟨⟨c0, c1, c2⟩, hB⟩ := HF.out
  exact bodyPost_ret (v := .tuple #[.agg #[.int .i64 0, .string ⟨#[]⟩, .slice none 0 0], .bool false]) (by simp [results, Tryz.results124, go_sem, c0, c1, c2]) rfl ⟨rfl, hB⟩
theorem specParse_rest (s : ByteArray) (x : Nd) (b : UInt8) (t : List UInt8) (w : World) (hs : s.size <= 1048576) (hp : parse 6 s.data.toList = some (x, b :: t))  : Calls Tryz.prog 124 #[.string s] w (PaNo w) := by
  have HI := Lib.hid (λ wr hst => (ndAt_all 6 (Nat.le_refl _)).yes (D := 1) (by omega) hp wr (g := w.heap.size + 1) hst hs rfl (Nat.zero_le _))
  have hst0 : St ((w.alloc (.cells #[.int .i64 0, .string ⟨#[]⟩, .slice none 0 0] 26)).alloc (.cells #[.string s, .int .i64 0, .bool false] 190)) (w.heap.size + 1) s 0 false := by
    have := heap_alloc_new (w.alloc (.cells #[.int .i64 0, .string ⟨#[]⟩, .slice none 0 0] 26)) (.cells #[.string s, .int .i64 0, .bool false] 190)
    rwa [World.size_alloc] at this
  have HST0 := Lib.hid hst0
  have HG0 := Lib.hid (World.grownBy_alloc (w.alloc (.cells #[.int .i64 0, .string ⟨#[]⟩, .slice none 0 0] 26)) (.cells #[.string s, .int .i64 0, .bool false] 190) (some (w.heap.size + 1)))
  clear hp hst0
  go_enter Tryz.func124, Tryz.ntmps124
  go_wp2_with fail
  (with_reducible refine (HI.out _ HST0.out).mono ?_)
  rintro e w1 ⟨u, p1, rfl, hst1, hr1, hp1, hsl, hg1⟩
  obtain ⟨A, c, rfl⟩ := hsl.shape
  have hst : St (w1.alloc (.cells #[.int .i64 x.1, .string x.2.1, .slice A x.2.2.items.length c] 26)) (w.heap.size + 1) s p1 false := hst1.same (Below.heap_alloc _ _ _ hst1.lt)
  obtain ⟨-, q1, q2, -, -⟩ := hst.cells
  have hg2 := grown_tr (grown_tr HG0.out hg1) (World.grownBy_alloc w1 (.cells #[.int .i64 x.1, .string x.2.1, .slice A x.2.2.items.length c] 26) _)
  have hz1 := hg1.size
  rw [World.size_alloc, World.size_alloc] at hz1
  have hne : p1 ≠ s.size := by
    intro e
    subst e
    have := congrArg List.length hr1
    simp at this
  have e1 : ((p1 : Int) == (s.size : Int)) = false := beq_eq_false_iff_ne.2 (by omega)
  have e2 : ((p1 : Int) != (s.size : Int)) = true := bne_iff_ne.2 (by omega)
  obtain ⟨W2, hW2⟩ : ∃ W2, W2 = w1.alloc (.cells #[.int .i64 x.1, .string x.2.1, .slice A x.2.2.items.length c] 26) := ⟨_, rfl⟩
  rw [<- hW2] at hg2
  clear hne
  obtain ⟨-, b0, b1, b2, f0, f1, f2⟩ := box_grownN hg2 (by omega)
  have HF := Lib.hid (pa_zero hg2 (by omega))
  rw [hW2] at b0 b1 b2 f0 f1 f2
  have HW2 := Lib.hid hW2
  clear hst1 hst hp1 hg1 hg2 hW2 hr1 hsl hz1
  go_wp2_with fail
  rw [<- HW2.out]
  obtain ⟨⟨c0, c1, c2⟩, hB⟩ := HF.out
  exact bodyPost_ret (v := .tuple #[.agg #[.int .i64 0, .string ⟨#[]⟩, .slice none 0 0], .bool false]) (by simp [results, Tryz.results124, go_sem, c0, c1, c2]) rfl ⟨rfl, hB⟩
theorem specParse_bad (s : ByteArray) (x : Nd) (w : World) (hs : s.size <= 1048576) (hp : parse 6 s.data.toList = some (x, [])) (hv : validRx x.1 x.2.1 x.2.2 = false) : Calls Tryz.prog 124 #[.string s] w (PaNo w) := by
  have HI := Lib.hid (λ wr hst => (ndAt_all 6 (Nat.le_refl _)).yes (D := 1) (by omega) hp wr (g := w.heap.size + 1) hst hs rfl (Nat.zero_le _))
  obtain ⟨htx, hx1, hx2⟩ := parse_spec 6 _ x [] hp
  rw [show 2 ^ 6 = 64 from rfl] at hx1
  rw [List.append_nil] at htx
  have hne : ¬ s.toList = [] := by
    intro e
    rw [ByteArray.toList_eq] at e
    rw [e] at hp
    cases hp
  have hfm : formatRx x.1 x.2.1 x.2.2 = [] := by unfold formatRx; rw [if_neg (by rw [hv]; decide)]
  have hst0 : St ((w.alloc (.cells #[.int .i64 0, .string ⟨#[]⟩, .slice none 0 0] 26)).alloc (.cells #[.string s, .int .i64 0, .bool false] 190)) (w.heap.size + 1) s 0 false := by
    have := heap_alloc_new (w.alloc (.cells #[.int .i64 0, .string ⟨#[]⟩, .slice none 0 0] 26)) (.cells #[.string s, .int .i64 0, .bool false] 190)
    rwa [World.size_alloc] at this
  have HST0 := Lib.hid hst0
  have HG0 := Lib.hid (World.grownBy_alloc (w.alloc (.cells #[.int .i64 0, .string ⟨#[]⟩, .slice none 0 0] 26)) (.cells #[.string s, .int .i64 0, .bool false] 190) (some (w.heap.size + 1)))
  clear hp hst0
  go_enter Tryz.func124, Tryz.ntmps124
  go_wp2_with fail
  (with_reducible refine (HI.out _ HST0.out).mono ?_)
  rintro e w1 ⟨u, p1, rfl, hst1, hr1, hp1, hsl, hg1⟩
  obtain ⟨A, c, rfl⟩ := hsl.shape
  have hst : St (w1.alloc (.cells #[.int .i64 x.1, .string x.2.1, .slice A x.2.2.items.length c] 26)) (w.heap.size + 1) s p1 false := hst1.same (Below.heap_alloc _ _ _ hst1.lt)
  obtain ⟨-, q1, q2, -, -⟩ := hst.cells
  have hg2 := grown_tr (grown_tr HG0.out hg1) (World.grownBy_alloc w1 (.cells #[.int .i64 x.1, .string x.2.1, .slice A x.2.2.items.length c] 26) _)
  have hz1 := hg1.size
  rw [World.size_alloc, World.size_alloc] at hz1
  have hpe : p1 = s.size := by
    have := List.drop_eq_nil_iff.1 hr1
    simp at this
    have e : s.data.size = s.size := rfl
    omega
  have e1 : ((p1 : Int) == (s.size : Int)) = true := by simp [hpe]
  have e2 : ((p1 : Int) != (s.size : Int)) = false := by simp [hpe]
  have HFM := Lib.hid (λ (W : World) (hW : Below w1.heap.size w1 W) => specFormat_any 6 W.heap.size x.1 x.2.1 (.slice A x.2.2.items.length c) x.2.2 W (SlP.mono (λ g hg => hW.block g hg.2) (λ g hg => Nat.lt_of_lt_of_le hg.2 hW.size) hsl.sl) (Nat.le_refl _) (by omega) (by omega))
  rw [hfm] at HFM
  clear hpe hfm htx hx1 hx2
  have t1 : s.toList.isEmpty = false := by simpa using hne
  have HG2 := Lib.hid hg2
  have HST1 := Lib.hid hst1.lt
  clear hst1 hst hp1 hg1 hg2 hr1 hsl hv hne
  go_wp2_with fail
  refine (HFM.out _ ((Below.refl _ _).alloc (Nat.le_refl _) _)).mono ?_
  rintro e w2 ⟨rfl, hb2⟩
  have hb2' : Below (w1.heap.size + 1) (w1.alloc (.cells #[.int .i64 x.1, .string x.2.1, .slice A x.2.2.items.length c] 26)) w2 := by simpa using hb2
  obtain ⟨-, d0, d1, d2, -⟩ := box_kept hb2'
  have hg3 := grown_tr HG2.out (grown_of_belowN hb2 (some (w.heap.size + 1)))
  have hz2 := hb2'.size
  rw [World.size_alloc] at hz2
  obtain ⟨-, b0, b1, b2, f0, f1, f2⟩ := box_grownN hg3 (by omega)
  have HF := Lib.hid (pa_zero hg3 (by omega))
  clear hb2 hb2' hg3
  go_wp2_with fail
  obtain ⟨⟨c0, c1, c2⟩, hB⟩ := HF.out
  exact bodyPost_ret (v := .tuple #[.agg #[.int .i64 0, .string ⟨#[]⟩, .slice none 0 0], .bool false]) (by simp [results, Tryz.results124, go_sem, c0, c1, c2]) rfl ⟨rfl, hB⟩
theorem specParse_yes (s : ByteArray) (x : Nd) (w : World) (hs : s.size <= 1048576) (hp : parse 6 s.data.toList = some (x, [])) (hv : validRx x.1 x.2.1 x.2.2 = true) : Calls Tryz.prog 124 #[.string s] w (PaYes x w) := by
  have HI := Lib.hid (λ wr hst => (ndAt_all 6 (Nat.le_refl _)).yes (D := 1) (by omega) hp wr (g := w.heap.size + 1) hst hs rfl (Nat.zero_le _))
  obtain ⟨htx, hx1, hx2⟩ := parse_spec 6 _ x [] hp
  rw [show 2 ^ 6 = 64 from rfl] at hx1
  rw [List.append_nil] at htx
  have hfm : (⟨(formatRx x.1 x.2.1 x.2.2).toArray⟩ : ByteArray) = s := by
    unfold formatRx
    rw [if_pos hv]
    exact ByteArray.ext (by rw [<- Array.toList_inj]; exact htx.symm)
  have hst0 : St ((w.alloc (.cells #[.int .i64 0, .string ⟨#[]⟩, .slice none 0 0] 26)).alloc (.cells #[.string s, .int .i64 0, .bool false] 190)) (w.heap.size + 1) s 0 false := by
    have := heap_alloc_new (w.alloc (.cells #[.int .i64 0, .string ⟨#[]⟩, .slice none 0 0] 26)) (.cells #[.string s, .int .i64 0, .bool false] 190)
    rwa [World.size_alloc] at this
  have HST0 := Lib.hid hst0
  have HG0 := Lib.hid (World.grownBy_alloc (w.alloc (.cells #[.int .i64 0, .string ⟨#[]⟩, .slice none 0 0] 26)) (.cells #[.string s, .int .i64 0, .bool false] 190) (some (w.heap.size + 1)))
  clear hp hst0
  go_enter Tryz.func124, Tryz.ntmps124
  go_wp2_with fail
  (with_reducible refine (HI.out _ HST0.out).mono ?_)
  rintro e w1 ⟨u, p1, rfl, hst1, hr1, hp1, hsl, hg1⟩
  obtain ⟨A, c, rfl⟩ := hsl.shape
  have hst : St (w1.alloc (.cells #[.int .i64 x.1, .string x.2.1, .slice A x.2.2.items.length c] 26)) (w.heap.size + 1) s p1 false := hst1.same (Below.heap_alloc _ _ _ hst1.lt)
  obtain ⟨-, q1, q2, -, -⟩ := hst.cells
  have hg2 := grown_tr (grown_tr HG0.out hg1) (World.grownBy_alloc w1 (.cells #[.int .i64 x.1, .string x.2.1, .slice A x.2.2.items.length c] 26) _)
  have hz1 := hg1.size
  rw [World.size_alloc, World.size_alloc] at hz1
  have hpe : p1 = s.size := by
    have := List.drop_eq_nil_iff.1 hr1
    simp at this
    have e : s.data.size = s.size := rfl
    omega
  have e1 : ((p1 : Int) == (s.size : Int)) = true := by simp [hpe]
  have e2 : ((p1 : Int) != (s.size : Int)) = false := by simp [hpe]
  have HFM := Lib.hid (λ (W : World) (hW : Below w1.heap.size w1 W) => specFormat_any 6 W.heap.size x.1 x.2.1 (.slice A x.2.2.items.length c) x.2.2 W (SlP.mono (λ g hg => hW.block g hg.2) (λ g hg => Nat.lt_of_lt_of_le hg.2 hW.size) hsl.sl) (Nat.le_refl _) (by omega) (by omega))
  rw [hfm] at HFM
  clear hpe hfm htx hx1 hx2
  have HSL := Lib.hid hsl
  have HG2 := Lib.hid hg2
  have HST1 := Lib.hid hst1.lt
  clear hst1 hst hp1 hg1 hg2 hr1 hsl hv
  go_wp2_with fail
  refine (HFM.out _ ((Below.refl _ _).alloc (Nat.le_refl _) _)).mono ?_
  rintro e w2 ⟨rfl, hb2⟩
  have hb2' : Below (w1.heap.size + 1) (w1.alloc (.cells #[.int .i64 x.1, .string x.2.1, .slice A x.2.2.items.length c] 26)) w2 := by simpa using hb2
  obtain ⟨-, d0, d1, d2, -⟩ := box_kept hb2'
  have hg3 := grown_tr HG2.out (grown_of_belowN hb2 (some (w.heap.size + 1)))
  have hz2 := hb2'.size
  rw [World.size_alloc] at hz2
  obtain ⟨-, b0, b1, b2, f0, f1, f2⟩ := box_grownN hg3 (by omega)
  have HF := Lib.hid (pa_end (k := x.1) (l := x.2.1) hg3 (by omega) (HSL.out.mono (w' := w2) (λ g hg => (hb2.block g (by have := hg.2; simp; omega)).trans (Below.heap_alloc _ _ g hg.2)) (λ _ h => h)) (λ h hh => ⟨by have := hh.1; simp at this; omega, by have := hh.2; omega⟩))
  clear hb2 hb2' hg3
  go_wp2_with fail
  obtain ⟨⟨c0, c1, c2⟩, hS, hB⟩ := HF.out
  exact bodyPost_ret (v := .tuple #[.agg #[.int .i64 x.1, .string x.2.1, .slice A x.2.2.items.length c], .bool true]) (by simp [results, Tryz.results124, go_sem, c0, c1, c2]) rfl ⟨_, rfl, hS, hB⟩
theorem specParse_any (s : ByteArray) (w : World) (hs : s.size <= 1048576) : Calls Tryz.prog 124 #[.string s] w (PaPost s.data.toList w) := by
  cases hp : parse 6 s.data.toList with
  | none => exact (specParse_none s w hs hp).mono λ _ _ h => pa_none (by unfold parseAll; rw [hp]) h
  | some p =>
    obtain ⟨x, t⟩ := p
    cases t with
    | cons b t => exact (specParse_rest s x b t w hs hp).mono λ _ _ h => pa_none (by unfold parseAll; rw [hp]) h
    | nil =>
      cases hv : validRx x.1 x.2.1 x.2.2 with
      | true => exact (specParse_yes s x w hs hp hv).mono λ _ _ h => pa_some (by unfold parseAll; rw [hp]; exact if_pos hv) h
      | false => exact (specParse_bad s x w hs hp hv).mono λ _ _ h => pa_none (by unfold parseAll; rw [hp]; exact if_neg (by rw [hv]; decide)) h
theorem specRead_any (p : List UInt8) (s : ByteArray) (w : World) (hs : s.data.toList = p) :
    Calls Tryz.prog 123 #[.string s] w λ e w' => e = .returned (.string (strL (readT p))) /\ w = w' := by
  have hl : s.toList = p := by rw [ByteArray.toList_eq, hs]
  by_cases h : p = [45]
  . have HR := Lib.hid (show strL (readT p) = ⟨#[]⟩ by unfold readT; rw [if_pos h]; rfl)
    have h' : (s.toList == [45]) = true := by rw [hl, h]; rfl
    have h2 : s.toList = [45] := by rw [hl, h]
    clear h hl hs
    go_enter Tryz.func123, Tryz.ntmps123
    go_wp2
    go_ret
    exact ⟨congrArg (λ z => Ending.returned (.string z)) HR.out.symm, rfl⟩
  . have HR := Lib.hid (show strL (readT p) = s by unfold readT; rw [if_neg h, <- hs]; exact strL_self s)
    have h' : (s.toList == [45]) = false := by rw [hl]; exact beq_eq_false_iff_ne.2 h
    have h2 : ¬ s.toList = [45] := by rw [hl]; exact h
    clear h hl hs
    go_enter Tryz.func123, Tryz.ntmps123
    go_wp2
    go_ret
    exact ⟨congrArg (λ z => Ending.returned (.string z)) HR.out.symm, rfl⟩
def RxRead (p : List UInt8) (w : World) (e : Ending) (w' : World) : Prop :=
  ∃ A c ok, e = .returned (.tuple #[.agg #[.int .i64 (readX p).1, .string (readX p).2.1, .slice A (readX p).2.2.items.length c], .bool ok]) /\ SlT w' 6 (OwnB w w') (.slice A (readX p).2.2.items.length c) (readX p).2.2 /\ Below w.heap.size w w'
theorem rx_of_pa {p : List UInt8} {w w' : World} {e : Ending} (h : PaPost p w e w') : RxRead p w e w' := by
  unfold PaPost at h
  unfold RxRead readX
  split at h
  . rename_i x hx
    obtain ⟨u, rfl, hs, hb⟩ := h
    rw [hx]
    obtain ⟨A, c, rfl⟩ := hs.shape
    exact ⟨A, c, true, rfl, hs, hb⟩
  . rename_i hx
    obtain ⟨rfl, hb⟩ := h
    rw [hx]
    exact ⟨none, 0, false, rfl, SlT.none w' 5 _ none 0, hb⟩
theorem specRx_any (s : ByteArray) (w : World) (hs : s.size <= 1048576) : Calls Tryz.prog 124 #[.string s] w (RxRead s.data.toList w) :=
  (specParse_any s w hs).mono λ _ _ h => rx_of_pa h
theorem readX_size (p : List UInt8) (_hp : p.length <= 1048576) : (readX p).2.1.size <= maxI /\ (readX p).2.2.size <= 64 := by
  unfold readX
  cases hx : parseAll p with
  | none => exact ⟨Nat.zero_le _, Nat.zero_le _⟩
  | some x =>
    unfold parseAll at hx
    split at hx
    . rename_i y hy
      split at hx
      . cases hx
        have h := parse_spec 6 p x [] hy
        exact ⟨Nat.le_trans h.2.2 (by decide), by have := h.2.1; show x.2.2.size <= 64; omega⟩
      . cases hx
    . cases hx
theorem readT_le (p : List UInt8) : (readT p).length <= p.length := by
  unfold readT
  split
  . simp
  . exact Nat.le_refl _
theorem CnT.tree {w : World} {S ST : Nat -> Prop} {xu : Value} {n : Nat} {c : Cx} {A : Option Addr} {m : Nat} (hl : c.l.size <= maxI) (hr : c.r.size <= maxI) (hx : c.xl.size <= maxI) (ht : SlT w n ST xu c.xa) (hS : ∀ g, ST g -> S g) (hc : c.cs = []) : CnT w S xu (.slice A 0 m) c := by
  refine ⟨⟨hl, hr, hx⟩, n, ST, λ _ => False, ht, ?_, λ g hg => ⟨hS g hg, λ h => h⟩, λ _ h => h.elim⟩
  rw [hc]
  exact RowO.nil w _ A m
noncomputable def parseCx (ps : List (List UInt8)) : Cx :=
  if ps.headD [] = [108, 101, 110] then lenCx ps
  else if ps.length ≠ 3 then zeroX
  else if ps.getD 1 [] = [61] then ⟨1, strL (readT (ps.getD 0 [])), strL (readT (ps.getD 2 [])), 0, ⟨#[]⟩, .nil, [], 0⟩
  else if ps.getD 1 [] = [33, 61] then ⟨2, strL (readT (ps.getD 0 [])), strL (readT (ps.getD 2 [])), 0, ⟨#[]⟩, .nil, [], 0⟩
  else if ps.getD 1 [] = [105, 110] then ⟨3, strL (readT (ps.getD 0 [])), ⟨#[]⟩, (readX (ps.getD 2 [])).1, (readX (ps.getD 2 [])).2.1, (readX (ps.getD 2 [])).2.2, [], 0⟩
  else if ps.getD 1 [] = [111, 117, 116] then ⟨4, strL (readT (ps.getD 0 [])), ⟨#[]⟩, (readX (ps.getD 2 [])).1, (readX (ps.getD 2 [])).2.1, (readX (ps.getD 2 [])).2.2, [], 0⟩
  else ⟨0, strL (readT (ps.getD 0 [])), ⟨#[]⟩, 0, ⟨#[]⟩, .nil, [], 0⟩
theorem parseCx_cn (ps : List (List UInt8)) : (parseCx ps).cn = parseC ps := by
  unfold parseCx parseC
  repeat' split
  all_goals first | rfl | (simp only [Cx.cn, strL_list]; rfl)
theorem zero_end (w : World) (t : TypeId) : CopyC zeroX w (.returned (.agg #[.int .i64 0, .string ⟨#[]⟩, .string ⟨#[]⟩, .int .i64 0, .string ⟨#[]⟩, .slice none 0 0, .slice none 0 0, .int .i64 0])) (w.alloc (.cells #[.int .i64 0, .string ⟨#[]⟩, .string ⟨#[]⟩, .int .i64 0, .string ⟨#[]⟩, .slice none 0 0, .slice none 0 0, .int .i64 0] t)) :=
  ⟨_, _, rfl, CnT.leaf _ _ none none 0 0 zeroX (Nat.zero_le _) (Nat.zero_le _) (Nat.zero_le _) rfl rfl, (Below.refl _ _).alloc (Nat.le_refl _) _⟩
theorem specParse9_any (ps : List (List UInt8)) (v : Value) (B : Nat) (w : World) (hown : w.ownsRow B 9 1 v ps.length (strs ps)) (hn : 1 <= ps.length) (hn2 : ps.length <= 1048577) (hz : ∀ p ∈ ps, p.length <= 1048576) :
    Calls Tryz.prog 67 #[v] w (CopyC (parseCx ps) w) := by
  obtain ⟨g, c, rfl, hg, hc⟩ := strRow_at hown hn
  obtain ⟨p0, hp0⟩ : ∃ p0 : ByteArray, p0 = ⟨(ps[0]'(by omega)).toArray⟩ := ⟨_, rfl⟩
  have c00 := hc 0 (by omega)
  rw [<- hp0] at c00
  have hp0l : p0.toList = ps[0]'(by omega) := by rw [ByteArray.toList_eq, hp0]
  have hhd : ps.headD [] = ps[0]'(by omega) := by rw [List.headD_eq_head?_getD, List.head?_eq_getElem?, List.getElem?_eq_getElem (by omega)]; rfl
  by_cases h0 : ps.headD [] = [108, 101, 110]
  . have HR := Lib.hid (show parseCx ps = lenCx ps from if_pos h0)
    have e1 : (p0.toList == [108, 101, 110]) = true := by rw [hp0l, <- hhd, h0]; rfl
    have e2 : p0.toList = [108, 101, 110] := by rw [hp0l, <- hhd, h0]
    have HL := Lib.hid (specLen_any ps (.slice (some ⟨g, 0, none⟩) ps.length c) B (w.alloc (.cells #[.int .i64 0, .string ⟨#[]⟩, .string ⟨#[]⟩, .int .i64 0, .string ⟨#[]⟩, .slice none 0 0, .slice none 0 0, .int .i64 0] 29)) (hown.alloc _) hn hn2 hz)
    have hn' : (0 : Int) < ps.length := by omega
    clear hown hc hz hp0 hp0l hhd h0
    go_enter Tryz.func67, Tryz.ntmps67
    go_wp2_with fail
    refine HL.out.mono ?_
    rintro e w1 hp
    obtain ⟨A, m, B', r, rfl, ht, hb⟩ := hp.shape
    have HT := Lib.hid ht
    have hb' : Below (w.heap.size + 1) (w.alloc (.cells #[.int .i64 0, .string ⟨#[]⟩, .string ⟨#[]⟩, .int .i64 0, .string ⟨#[]⟩, .slice none 0 0, .slice none 0 0, .int .i64 0] 29)) w1 := by simpa using hb
    have hbw := Lib.hid (((Below.refl w.heap.size w).alloc (Nat.le_refl _) (.cells #[.int .i64 0, .string ⟨#[]⟩, .string ⟨#[]⟩, .int .i64 0, .string ⟨#[]⟩, .slice none 0 0, .slice none 0 0, .int .i64 0] 29)).trans (hb'.mono (Nat.le_succ _)))
    have hrb : w1.heap[w.heap.size]? = some (.cells (cxA zeroX (.slice none 0 0) (.slice none 0 0)) 29 (0, 0)) := (hb'.block w.heap.size (Nat.lt_succ_self _)).trans (heap_alloc_new w _)
    obtain ⟨r0, r1, r2, r3, r4, r5, r6, r7⟩ := BoxC.cells (c := zeroX) ⟨_, hrb⟩
    have fr := BoxC.frozen (c := zeroX) ⟨_, hrb⟩
    have f00 := fr 0
    have f01 := fr 1
    have f02 := fr 2
    have f03 := fr 3
    have f04 := fr 4
    have f05 := fr 5
    have f06 := fr 6
    have f07 := fr 7
    have HRB := Lib.hid hrb
    obtain ⟨lc, hlc⟩ : ∃ lc, lc = lenCx ps := ⟨_, rfl⟩
    rw [<- hlc] at HR HT ⊢
    clear hp ht hb hb' hrb fr hlc
    go_wp2_with fail
    obtain ⟨⟨k0, k1, k2, k3, k4, k5, k6, k7⟩, hcp⟩ := copyC_end (w := w) (c := lc) HRB.out rfl (HT.out.mono (λ _ _ => rfl) (λ g hg => ⟨by have := hg.1; simp at this; omega, hg.2⟩)) hbw.out
    unfold put8 at k0 k1 k2 k3 k4 k5 k6 k7 hcp
    refine bodyPost_ret (v := .agg #[.int .i64 lc.k, .string lc.l, .string lc.r, .int .i64 lc.xk, .string lc.xl, .slice A lc.xa.items.length m, .slice B' lc.cs.length r, .int .i64 lc.b]) (by simp [results, Tryz.results67, go_sem, k0, k1, k2, k3, k4, k5, k6, k7]) rfl ?_
    rw [HR.out]
    exact hcp
  . have e1 : (p0.toList == [108, 101, 110]) = false := by rw [hp0l, <- hhd]; exact beq_eq_false_iff_ne.2 h0
    have e2 : ¬ p0.toList = [108, 101, 110] := by rw [hp0l, <- hhd]; exact h0
    by_cases h3 : ps.length = 3
    . obtain ⟨a, b, d, rfl⟩ : ∃ a b d, ps = [a, b, d] := by
        match ps, h3 with
        | [a, b, d], _ => exact ⟨a, b, d, rfl⟩
      have HN0 := Lib.hid h0
      obtain ⟨pb, hpb⟩ : ∃ pb : ByteArray, pb = ⟨b.toArray⟩ := ⟨_, rfl⟩
      obtain ⟨pd, hpd⟩ : ∃ pd : ByteArray, pd = ⟨d.toArray⟩ := ⟨_, rfl⟩
      have c01 := hc 1 (by simp)
      have c02 := hc 2 (by simp)
      simp only [List.getElem_cons_succ, List.getElem_cons_zero] at c01 c02 hp0
      rw [<- hpb] at c01
      rw [<- hpd] at c02
      have HRa := Lib.hid (λ V => specRead_any a p0 V (by rw [hp0]))
      have HRd := Lib.hid (λ V => specRead_any d pd V (by rw [hpd]))
      have hpbl : pb.toList = b := by rw [ByteArray.toList_eq, hpb]
      have hza : a.length <= maxI := Nat.le_trans (hz a (by simp)) (by decide)
      have hzd2 := hz d (by simp)
      have hzd' : d.length <= maxI := Nat.le_trans (hz d (by simp)) (by decide)
      have hzd : pd.size <= 1048576 := by rw [hpd]; have := hz d (by simp); show d.toArray.size <= _; rw [List.size_toArray]; exact this
      have HX := Lib.hid (λ V => specRx_any pd V hzd)
      obtain ⟨la, hla⟩ : ∃ la, la = strL (readT a) := ⟨_, rfl⟩
      obtain ⟨ld, hld⟩ : ∃ ld, ld = strL (readT d) := ⟨_, rfl⟩
      rw [<- hla] at HRa
      rw [<- hld] at HRd
      have HLA := Lib.hid hla
      have HLD := Lib.hid hld
      have HPD := Lib.hid hpd
      have hlt0 : (0 : Int) < 3 := by omega
      have hlt1 : (1 : Int) < 3 := by omega
      have hlt2 : (2 : Int) < 3 := by omega
      clear hown hc hz hp0 hp0l hhd h0 h3 hpb hpd hla hld hn hn2
      by_cases q1 : b = [61]
      . have HR := Lib.hid (show parseCx [a, b, d] = ⟨1, la, ld, 0, ⟨#[]⟩, .nil, [], 0⟩ by unfold parseCx; rw [if_neg HN0.out, if_neg (by simp), if_pos (show [a, b, d].getD 1 [] = [61] from q1)]; rw [HLA.out, HLD.out]; rfl)
        have t1 : (pb.toList == [61]) = true := by rw [hpbl, q1]; rfl
        have t1' : pb.toList = [61] := by rw [hpbl, q1]
        clear hpbl q1
        go_enter Tryz.func67, Tryz.ntmps67
        go_wp2_with fail
        refine (HRa.out _).mono ?_
        rintro e' w' ⟨rfl, rfl⟩
        go_wp2_with fail
        refine (HRd.out _).mono ?_
        rintro e' w' ⟨rfl, rfl⟩
        go_wp2_with fail
        refine bodyPost_ret (v := .agg #[.int .i64 1, .string la, .string ld, .int .i64 0, .string ⟨#[]⟩, .slice none 0 0, .slice none 0 0, .int .i64 0]) (by simp [results, Tryz.results67, go_sem]) rfl ?_
        rw [HR.out]
        exact ⟨_, _, rfl, CnT.leaf _ _ none none 0 0 _ (by show la.size <= maxI; rw [HLA.out, strL_size]; exact Nat.le_trans (readT_le a) hza) (by rw [HLD.out, strL_size]; exact Nat.le_trans (readT_le d) hzd') (Nat.zero_le _) rfl rfl, ((Below.refl _ _).alloc (Nat.le_refl _) _).alloc (by simp) _⟩
      . by_cases q2 : b = [33, 61]
        . have HR := Lib.hid (show parseCx [a, b, d] = ⟨2, la, ld, 0, ⟨#[]⟩, .nil, [], 0⟩ by unfold parseCx; rw [if_neg HN0.out, if_neg (by simp), if_neg (show ¬ [a, b, d].getD 1 [] = [61] from q1), if_pos (show [a, b, d].getD 1 [] = [33, 61] from q2)]; rw [HLA.out, HLD.out]; rfl)
          have t1 : (pb.toList == [61]) = false := by rw [hpbl]; exact beq_eq_false_iff_ne.2 q1
          have t1' : ¬ pb.toList = [61] := by rw [hpbl]; exact q1
          have t2 : (pb.toList == [33, 61]) = true := by rw [hpbl, q2]; rfl
          have t2' : pb.toList = [33, 61] := by rw [hpbl, q2]
          clear hpbl q1 q2
          go_enter Tryz.func67, Tryz.ntmps67
          go_wp2_with fail
          refine (HRa.out _).mono ?_
          rintro e' w' ⟨rfl, rfl⟩
          go_wp2_with fail
          refine (HRd.out _).mono ?_
          rintro e' w' ⟨rfl, rfl⟩
          go_wp2_with fail
          refine bodyPost_ret (v := .agg #[.int .i64 2, .string la, .string ld, .int .i64 0, .string ⟨#[]⟩, .slice none 0 0, .slice none 0 0, .int .i64 0]) (by simp [results, Tryz.results67, go_sem]) rfl ?_
          rw [HR.out]
          exact ⟨_, _, rfl, CnT.leaf _ _ none none 0 0 _ (by show la.size <= maxI; rw [HLA.out, strL_size]; exact Nat.le_trans (readT_le a) hza) (by rw [HLD.out, strL_size]; exact Nat.le_trans (readT_le d) hzd') (Nat.zero_le _) rfl rfl, ((Below.refl _ _).alloc (Nat.le_refl _) _).alloc (by simp) _⟩
        . by_cases q3 : b = [105, 110]
          . have HR := Lib.hid (show parseCx [a, b, d] = ⟨3, la, ⟨#[]⟩, (readX d).1, (readX d).2.1, (readX d).2.2, [], 0⟩ by unfold parseCx; rw [if_neg HN0.out, if_neg (by simp), if_neg (show ¬ [a, b, d].getD 1 [] = [61] from q1), if_neg (show ¬ [a, b, d].getD 1 [] = [33, 61] from q2), if_pos (show [a, b, d].getD 1 [] = [105, 110] from q3)]; rw [HLA.out]; rfl)
            have t1 : (pb.toList == [61]) = false := by rw [hpbl]; exact beq_eq_false_iff_ne.2 q1
            have t1' : ¬ pb.toList = [61] := by rw [hpbl]; exact q1
            have t2 : (pb.toList == [33, 61]) = false := by rw [hpbl]; exact beq_eq_false_iff_ne.2 q2
            have t2' : ¬ pb.toList = [33, 61] := by rw [hpbl]; exact q2
            have t3 : (pb.toList == [105, 110]) = true := by rw [hpbl, q3]; rfl
            have t3' : pb.toList = [105, 110] := by rw [hpbl, q3]
            have HXd := Lib.hid (λ V => (HX.out V))
            rw [show pd.data.toList = d by rw [HPD.out]] at HXd
            unfold RxRead at HXd
            have hxs := (readX_size d hzd2).1
            obtain ⟨x, hx⟩ : ∃ x, x = readX d := ⟨_, rfl⟩
            rw [<- hx] at HR HXd hxs
            obtain ⟨xk, xl, xa⟩ := x
            simp only at HR HXd hxs
            clear hx hpbl q1 q2 q3
            have hb0 : Below w.heap.size w ((w.alloc (.cells #[.int .i64 0, .string ⟨#[]⟩, .string ⟨#[]⟩, .int .i64 0, .string ⟨#[]⟩, .slice none 0 0, .slice none 0 0, .int .i64 0] 29)).alloc (.cells #[.int .i64 3, .string la, .string ⟨#[]⟩, .int .i64 0, .string ⟨#[]⟩, .slice none 0 0, .slice none 0 0, .int .i64 0] 29)) := ((Below.refl _ _).alloc (Nat.le_refl _) _).alloc (by simp) _
            have hrb0 : ((w.alloc (.cells #[.int .i64 0, .string ⟨#[]⟩, .string ⟨#[]⟩, .int .i64 0, .string ⟨#[]⟩, .slice none 0 0, .slice none 0 0, .int .i64 0] 29)).alloc (.cells #[.int .i64 3, .string la, .string ⟨#[]⟩, .int .i64 0, .string ⟨#[]⟩, .slice none 0 0, .slice none 0 0, .int .i64 0] 29)).heap[w.heap.size]? = some (.cells (cxA zeroX (.slice none 0 0) (.slice none 0 0)) 29 (0, 0)) := (Below.heap_alloc _ _ _ (by simp)).trans (heap_alloc_new w _)
            have hob0 : ((w.alloc (.cells #[.int .i64 0, .string ⟨#[]⟩, .string ⟨#[]⟩, .int .i64 0, .string ⟨#[]⟩, .slice none 0 0, .slice none 0 0, .int .i64 0] 29)).alloc (.cells #[.int .i64 3, .string la, .string ⟨#[]⟩, .int .i64 0, .string ⟨#[]⟩, .slice none 0 0, .slice none 0 0, .int .i64 0] 29)).heap[w.heap.size + 1]? = some (.cells (cxA ⟨3, la, ⟨#[]⟩, 0, ⟨#[]⟩, .nil, [], 0⟩ (.slice none 0 0) (.slice none 0 0)) 29 (0, 0)) := by
              have := heap_alloc_new (w.alloc (.cells #[.int .i64 0, .string ⟨#[]⟩, .string ⟨#[]⟩, .int .i64 0, .string ⟨#[]⟩, .slice none 0 0, .slice none 0 0, .int .i64 0] 29)) (.cells #[.int .i64 3, .string la, .string ⟨#[]⟩, .int .i64 0, .string ⟨#[]⟩, .slice none 0 0, .slice none 0 0, .int .i64 0] 29)
              rw [World.size_alloc] at this
              exact this
            have hz0 : ((w.alloc (.cells #[.int .i64 0, .string ⟨#[]⟩, .string ⟨#[]⟩, .int .i64 0, .string ⟨#[]⟩, .slice none 0 0, .slice none 0 0, .int .i64 0] 29)).alloc (.cells #[.int .i64 3, .string la, .string ⟨#[]⟩, .int .i64 0, .string ⟨#[]⟩, .slice none 0 0, .slice none 0 0, .int .i64 0] 29)).heap.size = w.heap.size + 1 + 1 := by simp
            have HB0 := Lib.hid hb0
            have HRB0 := Lib.hid hrb0
            have HOB0 := Lib.hid hob0
            have HZ0 := Lib.hid hz0
            clear hb0 hrb0 hob0 hz0
            go_enter Tryz.func67, Tryz.ntmps67
            go_wp2_with fail
            refine (HRa.out _).mono ?_
            rintro e' w' ⟨rfl, rfl⟩
            go_wp2_with fail
            obtain ⟨W, hW⟩ : ∃ W, W = (w.alloc (.cells #[.int .i64 0, .string ⟨#[]⟩, .string ⟨#[]⟩, .int .i64 0, .string ⟨#[]⟩, .slice none 0 0, .slice none 0 0, .int .i64 0] 29)).alloc (.cells #[.int .i64 3, .string la, .string ⟨#[]⟩, .int .i64 0, .string ⟨#[]⟩, .slice none 0 0, .slice none 0 0, .int .i64 0] 29) := ⟨_, rfl⟩
            rw [<- hW] at HB0 HRB0 HOB0 HZ0 ⊢
            refine (HXd.out W).mono ?_
            rintro e' w1 ⟨A, m, ok, rfl, hs, hb⟩
            have HS := Lib.hid hs
            have HB := Lib.hid hb
            have hrb := (hb.block w.heap.size (by have := HZ0.out; omega)).trans HRB0.out
            have hob := (hb.block (w.heap.size + 1) (by have := HZ0.out; omega)).trans HOB0.out
            have HRB := Lib.hid hrb
            obtain ⟨r0, r1, r2, r3, r4, r5, r6, r7⟩ := BoxC.cells (c := zeroX) ⟨_, hrb⟩
            obtain ⟨b0, b1, b2, b3, b4, b5, b6, b7⟩ := BoxC.cells (c := ⟨3, la, ⟨#[]⟩, 0, ⟨#[]⟩, .nil, [], 0⟩) ⟨_, hob⟩
            have fr := BoxC.frozen (c := zeroX) ⟨_, hrb⟩
            have fo := BoxC.frozen (c := ⟨3, la, ⟨#[]⟩, 0, ⟨#[]⟩, .nil, [], 0⟩) ⟨_, hob⟩
            have f00 := fr 0
            have f01 := fr 1
            have f02 := fr 2
            have f03 := fr 3
            have f04 := fr 4
            have f05 := fr 5
            have f06 := fr 6
            have f07 := fr 7
            have g03 := fo 3
            have g04 := fo 4
            have g05 := fo 5
            clear hs hb hrb hob fr fo hW
            go_wp2_with fail
            obtain ⟨X, hXe⟩ : ∃ X, X = ((w1.setCell ⟨w.heap.size + 1, 3, none⟩ (.int .i64 xk)).setCell ⟨w.heap.size + 1, 4, none⟩ (.string xl)).setCell ⟨w.heap.size + 1, 5, none⟩ (.slice A xa.items.length m) := ⟨_, rfl⟩
            have hXo : ∀ q, q ≠ w.heap.size + 1 -> X.heap[q]? = w1.heap[q]? := λ q hq => by rw [hXe, Below.heap_setCell _ _ _ _ hq, Below.heap_setCell _ _ _ _ hq, Below.heap_setCell _ _ _ _ hq]
            have hXz : X.heap.size = w1.heap.size := by rw [hXe]; simp [World.setCell]
            have hXw : Below w.heap.size w X := by
              rw [hXe]
              exact (((HB0.out.trans (HB.out.mono HB0.out.size)).setCell (p := ⟨w.heap.size + 1, 3, none⟩) (by simp) _).setCell (p := ⟨w.heap.size + 1, 4, none⟩) (by simp) _).setCell (p := ⟨w.heap.size + 1, 5, none⟩) (by simp) _
            rw [<- hXe]
            obtain ⟨⟨k0, k1, k2, k3, k4, k5, k6, k7⟩, hcp⟩ := copyC_end (w := w) (c := ⟨3, la, ⟨#[]⟩, xk, xl, xa, [], 0⟩) (xu := .slice A xa.items.length m) (vc := .slice none 0 0) ((hXo _ (by omega)).trans HRB.out) rfl (CnT.tree (by show la.size <= maxI; rw [HLA.out, strL_size]; exact Nat.le_trans (readT_le a) hza) (Nat.zero_le _) hxs (HS.out.mono (λ q hq => hXo q (by have := hq.1; have := HZ0.out; omega)) (λ _ h => h)) (λ q hq => ⟨by have := hq.1; have := HZ0.out; omega, by rw [hXz]; exact hq.2⟩) rfl) hXw
            unfold put8 at k0 k1 k2 k3 k4 k5 k6 k7 hcp
            refine bodyPost_ret (v := .agg #[.int .i64 3, .string la, .string ⟨#[]⟩, .int .i64 xk, .string xl, .slice A xa.items.length m, .slice none 0 0, .int .i64 0]) (by simp [results, Tryz.results67, go_sem, k0, k1, k2, k3, k4, k5, k6, k7]) rfl ?_
            rw [HR.out]
            exact hcp
          . by_cases q4 : b = [111, 117, 116]
            . have HR := Lib.hid (show parseCx [a, b, d] = ⟨4, la, ⟨#[]⟩, (readX d).1, (readX d).2.1, (readX d).2.2, [], 0⟩ by unfold parseCx; rw [if_neg HN0.out, if_neg (by simp), if_neg (show ¬ [a, b, d].getD 1 [] = [61] from q1), if_neg (show ¬ [a, b, d].getD 1 [] = [33, 61] from q2), if_neg (show ¬ [a, b, d].getD 1 [] = [105, 110] from q3), if_pos (show [a, b, d].getD 1 [] = [111, 117, 116] from q4)]; rw [HLA.out]; rfl)
              have t1 : (pb.toList == [61]) = false := by rw [hpbl]; exact beq_eq_false_iff_ne.2 q1
              have t1' : ¬ pb.toList = [61] := by rw [hpbl]; exact q1
              have t2 : (pb.toList == [33, 61]) = false := by rw [hpbl]; exact beq_eq_false_iff_ne.2 q2
              have t2' : ¬ pb.toList = [33, 61] := by rw [hpbl]; exact q2
              have t3 : (pb.toList == [105, 110]) = false := by rw [hpbl]; exact beq_eq_false_iff_ne.2 q3
              have t3' : ¬ pb.toList = [105, 110] := by rw [hpbl]; exact q3
              have t4 : (pb.toList == [111, 117, 116]) = true := by rw [hpbl, q4]; rfl
              have t4' : pb.toList = [111, 117, 116] := by rw [hpbl, q4]
              have HXd := Lib.hid (λ V => (HX.out V))
              rw [show pd.data.toList = d by rw [HPD.out]] at HXd
              unfold RxRead at HXd
              have hxs := (readX_size d hzd2).1
              obtain ⟨x, hx⟩ : ∃ x, x = readX d := ⟨_, rfl⟩
              rw [<- hx] at HR HXd hxs
              obtain ⟨xk, xl, xa⟩ := x
              simp only at HR HXd hxs
              clear hx hpbl q1 q2 q3 q4
              have hb0 : Below w.heap.size w ((w.alloc (.cells #[.int .i64 0, .string ⟨#[]⟩, .string ⟨#[]⟩, .int .i64 0, .string ⟨#[]⟩, .slice none 0 0, .slice none 0 0, .int .i64 0] 29)).alloc (.cells #[.int .i64 4, .string la, .string ⟨#[]⟩, .int .i64 0, .string ⟨#[]⟩, .slice none 0 0, .slice none 0 0, .int .i64 0] 29)) := ((Below.refl _ _).alloc (Nat.le_refl _) _).alloc (by simp) _
              have hrb0 : ((w.alloc (.cells #[.int .i64 0, .string ⟨#[]⟩, .string ⟨#[]⟩, .int .i64 0, .string ⟨#[]⟩, .slice none 0 0, .slice none 0 0, .int .i64 0] 29)).alloc (.cells #[.int .i64 4, .string la, .string ⟨#[]⟩, .int .i64 0, .string ⟨#[]⟩, .slice none 0 0, .slice none 0 0, .int .i64 0] 29)).heap[w.heap.size]? = some (.cells (cxA zeroX (.slice none 0 0) (.slice none 0 0)) 29 (0, 0)) := (Below.heap_alloc _ _ _ (by simp)).trans (heap_alloc_new w _)
              have hob0 : ((w.alloc (.cells #[.int .i64 0, .string ⟨#[]⟩, .string ⟨#[]⟩, .int .i64 0, .string ⟨#[]⟩, .slice none 0 0, .slice none 0 0, .int .i64 0] 29)).alloc (.cells #[.int .i64 4, .string la, .string ⟨#[]⟩, .int .i64 0, .string ⟨#[]⟩, .slice none 0 0, .slice none 0 0, .int .i64 0] 29)).heap[w.heap.size + 1]? = some (.cells (cxA ⟨4, la, ⟨#[]⟩, 0, ⟨#[]⟩, .nil, [], 0⟩ (.slice none 0 0) (.slice none 0 0)) 29 (0, 0)) := by
                have := heap_alloc_new (w.alloc (.cells #[.int .i64 0, .string ⟨#[]⟩, .string ⟨#[]⟩, .int .i64 0, .string ⟨#[]⟩, .slice none 0 0, .slice none 0 0, .int .i64 0] 29)) (.cells #[.int .i64 4, .string la, .string ⟨#[]⟩, .int .i64 0, .string ⟨#[]⟩, .slice none 0 0, .slice none 0 0, .int .i64 0] 29)
                rw [World.size_alloc] at this
                exact this
              have hz0 : ((w.alloc (.cells #[.int .i64 0, .string ⟨#[]⟩, .string ⟨#[]⟩, .int .i64 0, .string ⟨#[]⟩, .slice none 0 0, .slice none 0 0, .int .i64 0] 29)).alloc (.cells #[.int .i64 4, .string la, .string ⟨#[]⟩, .int .i64 0, .string ⟨#[]⟩, .slice none 0 0, .slice none 0 0, .int .i64 0] 29)).heap.size = w.heap.size + 1 + 1 := by simp
              have HB0 := Lib.hid hb0
              have HRB0 := Lib.hid hrb0
              have HOB0 := Lib.hid hob0
              have HZ0 := Lib.hid hz0
              clear hb0 hrb0 hob0 hz0
              go_enter Tryz.func67, Tryz.ntmps67
              go_wp2_with fail
              refine (HRa.out _).mono ?_
              rintro e' w' ⟨rfl, rfl⟩
              go_wp2_with fail
              obtain ⟨W, hW⟩ : ∃ W, W = (w.alloc (.cells #[.int .i64 0, .string ⟨#[]⟩, .string ⟨#[]⟩, .int .i64 0, .string ⟨#[]⟩, .slice none 0 0, .slice none 0 0, .int .i64 0] 29)).alloc (.cells #[.int .i64 4, .string la, .string ⟨#[]⟩, .int .i64 0, .string ⟨#[]⟩, .slice none 0 0, .slice none 0 0, .int .i64 0] 29) := ⟨_, rfl⟩
              rw [<- hW] at HB0 HRB0 HOB0 HZ0 ⊢
              refine (HXd.out W).mono ?_
              rintro e' w1 ⟨A, m, ok, rfl, hs, hb⟩
              have HS := Lib.hid hs
              have HB := Lib.hid hb
              have hrb := (hb.block w.heap.size (by have := HZ0.out; omega)).trans HRB0.out
              have hob := (hb.block (w.heap.size + 1) (by have := HZ0.out; omega)).trans HOB0.out
              have HRB := Lib.hid hrb
              obtain ⟨r0, r1, r2, r3, r4, r5, r6, r7⟩ := BoxC.cells (c := zeroX) ⟨_, hrb⟩
              obtain ⟨b0, b1, b2, b3, b4, b5, b6, b7⟩ := BoxC.cells (c := ⟨4, la, ⟨#[]⟩, 0, ⟨#[]⟩, .nil, [], 0⟩) ⟨_, hob⟩
              have fr := BoxC.frozen (c := zeroX) ⟨_, hrb⟩
              have fo := BoxC.frozen (c := ⟨4, la, ⟨#[]⟩, 0, ⟨#[]⟩, .nil, [], 0⟩) ⟨_, hob⟩
              have f00 := fr 0
              have f01 := fr 1
              have f02 := fr 2
              have f03 := fr 3
              have f04 := fr 4
              have f05 := fr 5
              have f06 := fr 6
              have f07 := fr 7
              have g03 := fo 3
              have g04 := fo 4
              have g05 := fo 5
              clear hs hb hrb hob fr fo hW
              go_wp2_with fail
              obtain ⟨X, hXe⟩ : ∃ X, X = ((w1.setCell ⟨w.heap.size + 1, 3, none⟩ (.int .i64 xk)).setCell ⟨w.heap.size + 1, 4, none⟩ (.string xl)).setCell ⟨w.heap.size + 1, 5, none⟩ (.slice A xa.items.length m) := ⟨_, rfl⟩
              have hXo : ∀ q, q ≠ w.heap.size + 1 -> X.heap[q]? = w1.heap[q]? := λ q hq => by rw [hXe, Below.heap_setCell _ _ _ _ hq, Below.heap_setCell _ _ _ _ hq, Below.heap_setCell _ _ _ _ hq]
              have hXz : X.heap.size = w1.heap.size := by rw [hXe]; simp [World.setCell]
              have hXw : Below w.heap.size w X := by
                rw [hXe]
                exact (((HB0.out.trans (HB.out.mono HB0.out.size)).setCell (p := ⟨w.heap.size + 1, 3, none⟩) (by simp) _).setCell (p := ⟨w.heap.size + 1, 4, none⟩) (by simp) _).setCell (p := ⟨w.heap.size + 1, 5, none⟩) (by simp) _
              rw [<- hXe]
              obtain ⟨⟨k0, k1, k2, k3, k4, k5, k6, k7⟩, hcp⟩ := copyC_end (w := w) (c := ⟨4, la, ⟨#[]⟩, xk, xl, xa, [], 0⟩) (xu := .slice A xa.items.length m) (vc := .slice none 0 0) ((hXo _ (by omega)).trans HRB.out) rfl (CnT.tree (by show la.size <= maxI; rw [HLA.out, strL_size]; exact Nat.le_trans (readT_le a) hza) (Nat.zero_le _) hxs (HS.out.mono (λ q hq => hXo q (by have := hq.1; have := HZ0.out; omega)) (λ _ h => h)) (λ q hq => ⟨by have := hq.1; have := HZ0.out; omega, by rw [hXz]; exact hq.2⟩) rfl) hXw
              unfold put8 at k0 k1 k2 k3 k4 k5 k6 k7 hcp
              refine bodyPost_ret (v := .agg #[.int .i64 4, .string la, .string ⟨#[]⟩, .int .i64 xk, .string xl, .slice A xa.items.length m, .slice none 0 0, .int .i64 0]) (by simp [results, Tryz.results67, go_sem, k0, k1, k2, k3, k4, k5, k6, k7]) rfl ?_
              rw [HR.out]
              exact hcp
            . have HR := Lib.hid (show parseCx [a, b, d] = ⟨0, la, ⟨#[]⟩, 0, ⟨#[]⟩, .nil, [], 0⟩ by unfold parseCx; rw [if_neg HN0.out, if_neg (by simp), if_neg (show ¬ [a, b, d].getD 1 [] = [61] from q1), if_neg (show ¬ [a, b, d].getD 1 [] = [33, 61] from q2), if_neg (show ¬ [a, b, d].getD 1 [] = [105, 110] from q3), if_neg (show ¬ [a, b, d].getD 1 [] = [111, 117, 116] from q4)]; rw [HLA.out]; rfl)
              have t1 : (pb.toList == [61]) = false := by rw [hpbl]; exact beq_eq_false_iff_ne.2 q1
              have t1' : ¬ pb.toList = [61] := by rw [hpbl]; exact q1
              have t2 : (pb.toList == [33, 61]) = false := by rw [hpbl]; exact beq_eq_false_iff_ne.2 q2
              have t2' : ¬ pb.toList = [33, 61] := by rw [hpbl]; exact q2
              have t3 : (pb.toList == [105, 110]) = false := by rw [hpbl]; exact beq_eq_false_iff_ne.2 q3
              have t3' : ¬ pb.toList = [105, 110] := by rw [hpbl]; exact q3
              have t4 : (pb.toList == [111, 117, 116]) = false := by rw [hpbl]; exact beq_eq_false_iff_ne.2 q4
              have t4' : ¬ pb.toList = [111, 117, 116] := by rw [hpbl]; exact q4
              clear hpbl q1 q2 q3 q4
              go_enter Tryz.func67, Tryz.ntmps67
              go_wp2_with fail
              refine (HRa.out _).mono ?_
              rintro e' w' ⟨rfl, rfl⟩
              go_wp2_with fail
              refine bodyPost_ret (v := .agg #[.int .i64 0, .string la, .string ⟨#[]⟩, .int .i64 0, .string ⟨#[]⟩, .slice none 0 0, .slice none 0 0, .int .i64 0]) (by simp [results, Tryz.results67, go_sem]) rfl ?_
              rw [HR.out]
              exact ⟨_, _, rfl, CnT.leaf _ _ none none 0 0 _ (by show la.size <= maxI; rw [HLA.out, strL_size]; exact Nat.le_trans (readT_le a) hza) (Nat.zero_le _) (Nat.zero_le _) rfl rfl, ((Below.refl _ _).alloc (Nat.le_refl _) _).alloc (by simp) _⟩
    . have HR := Lib.hid (show parseCx ps = zeroX by unfold parseCx; rw [if_neg h0, if_pos h3])
      have hn' : (0 : Int) < ps.length := by omega
      have hn3 : ((ps.length : Int) != 3) = true := by simp; omega
      have hn4 : ((ps.length : Int) == 3) = false := by simp; omega
      clear hown hc hz hp0 hp0l hhd h0 h3
      go_enter Tryz.func67, Tryz.ntmps67
      go_wp2_with fail
      refine bodyPost_ret (v := .agg #[.int .i64 0, .string ⟨#[]⟩, .string ⟨#[]⟩, .int .i64 0, .string ⟨#[]⟩, .slice none 0 0, .slice none 0 0, .int .i64 0]) (by simp [results, Tryz.results67, go_sem]) rfl ?_
      rw [HR.out]
      exact zero_end w _
theorem specVar_any (b : UInt8) (w : World) : Calls Tryz.prog 116 #[.int .u8 b.toNat] w λ e w' => e = .returned (.bool (isVarB b)) /\ w = w' := by
  by_cases h1 : 88 <= b.toNat
  . by_cases h2 : b.toNat <= 90
    . go_enter Tryz.func116, Tryz.ntmps116
      go_wp2
      go_ret
      exact ⟨by simp [isVarB, h1, h2]; try omega, rfl⟩
    . go_enter Tryz.func116, Tryz.ntmps116
      go_wp2
      go_ret
      exact ⟨by simp [isVarB, h1, h2]; try omega, rfl⟩
  . go_enter Tryz.func116, Tryz.ntmps116
    go_wp2
    go_ret
    exact ⟨by simp [isVarB, h1], rfl⟩
theorem specIsT_any (s : ByteArray) (w : World) (hs : s.size <= maxLen) :
    Calls Tryz.prog 59 #[.string s] w λ e w' => e = .returned (.bool (isT s.data.toList)) /\ w = w' := by
  unfold maxLen at hs
  go_enter Tryz.func59, Tryz.ntmps59
  go_wp2
  go_loop [3] (λ i => ∃ k : Nat, i = .int .i64 k /\ k <= s.size /\ (s.data.toList.take k).all tLet = true) (λ i => s.size - (intOf i).toNat)
  case atStart => exact ⟨0, rfl, Nat.zero_le _, rfl⟩
  case round =>
    obtain ⟨k, rfl, hk, hall⟩ := hrel
    have HA := Lib.hid hall
    clear hall
    by_cases hlt : k < s.size
    . cases hb : isLetter s[k] with
      | true =>
        have HN := Lib.hid (show (s.data.toList.take (k + 1)).all tLet = true by rw [tAll_succ s k hlt, HA.out]; simp [tLet, hb])
        obtain ⟨hl, h97, h99⟩ := letIdx_yes hb
        have hl0 : 0 <= letIdx s[k] := by omega
        clear hl hb
        go_wp2_with (go_at_call 115; refine (specLet_any _ _).mono ?_; rintro e w' ⟨rfl, rfl⟩)
        go_round
        case rel => exact ⟨k + 1, by go_num, by omega, HN.out⟩
        case measure => simp [intOf]; omega
      | false =>
        cases hv : isVarB s[k] with
        | true =>
          have HN := Lib.hid (show (s.data.toList.take (k + 1)).all tLet = true by rw [tAll_succ s k hlt, HA.out]; simp [tLet, hv])
          have hl := letIdx_no hb
          have hl0 : letIdx s[k] < 0 := by omega
          clear hl hb
          go_wp2_with (first | (go_at_call 115; refine (specLet_any _ _).mono ?_; rintro e w' ⟨rfl, rfl⟩) | (go_at_call 116; refine (specVar_any _ _).mono ?_; rintro e w' ⟨rfl, rfl⟩))
          go_round
          case rel => exact ⟨k + 1, by go_num, by omega, HN.out⟩
          case measure => simp [intOf]; omega
        | false =>
          have HN := Lib.hid (isT_bad hlt (by simp [tLet, hb, hv]))
          have hl := letIdx_no hb
          have hl0 : letIdx s[k] < 0 := by omega
          clear hl hb
          go_wp2_with (first | (go_at_call 115; refine (specLet_any _ _).mono ?_; rintro e w' ⟨rfl, rfl⟩) | (go_at_call 116; refine (specVar_any _ _).mono ?_; rintro e w' ⟨rfl, rfl⟩))
          go_ret
          exact ⟨congrArg (λ z => Ending.returned (.bool z)) HN.out.symm, rfl⟩
    . obtain rfl : k = s.size := by omega
      have HN := Lib.hid (isT_all HA.out)
      go_wp2
      go_ret
      exact ⟨congrArg (λ z => Ending.returned (.bool z)) HN.out.symm, rfl⟩
def zB (k : Int) (l : ByteArray) (n : Nat) : Bool := decide (k = 0) && decide (l.size = 0) && decide (n = 0)
theorem specZero_any (k : Int) (l : ByteArray) (A : Option Addr) (n c : Nat) (w : World) (hn : n <= 9223372036854775807) :
    Calls Tryz.prog 60 #[.agg #[.int .i64 k, .string l, .slice A n c]] w λ e w' => e = .returned (.bool (zB k l n)) /\ Below w.heap.size w w' := by
  have HB0 := Lib.hid ((Below.refl w.heap.size w).alloc (Nat.le_refl _) (.cells #[.int .i64 k, .string l, .slice A n c] 26))
  by_cases hk : k = 0
  . subst hk
    by_cases hl : l.size = 0
    . have hl' := bytes_nil hl
      have HR : Hid (zB 0 l n = decide (n = 0)) := Lib.hid (by simp [zB, hl])
      clear hl
      by_cases hn0 : n = 0
      . subst hn0
        go_enter Tryz.func60, Tryz.ntmps60
        go_wp2
        go_ret
        exact ⟨congrArg (λ b => Ending.returned (.bool b)) (by rw [HR.out]; simp), HB0.out⟩
      . have hn1 : ((n : Int) == 0) = false := by simp; omega
        go_enter Tryz.func60, Tryz.ntmps60
        go_wp2
        go_ret
        exact ⟨congrArg (λ b => Ending.returned (.bool b)) (by rw [HR.out]; simp [hn0]), HB0.out⟩
    . have hl' := bytes_some hl
      have HR : Hid (zB 0 l n = false) := Lib.hid (by simp [zB, hl])
      clear hl
      go_enter Tryz.func60, Tryz.ntmps60
      go_wp2
      go_ret
      exact ⟨congrArg (λ b => Ending.returned (.bool b)) (by rw [HR.out]), HB0.out⟩
  . have hk' : (k == 0) = false := by simpa using hk
    have HR : Hid (zB k l n = false) := Lib.hid (by simp [zB, hk])
    clear hk
    go_enter Tryz.func60, Tryz.ntmps60
    go_wp2
    go_ret
    exact ⟨congrArg (λ b => Ending.returned (.bool b)) (by rw [HR.out]), HB0.out⟩
def coB (cs : List Int) : Bool := cs.all (inR (-9) 9) && decide (cs.length = 3)
theorem specCoeffs_any (v : Value) (cs : List Int) (S : Nat -> Prop) (w : World) (h : RowV w S v (ints cs)) :
    Calls Tryz.prog 62 #[v] w λ e w' => e = .returned (.bool (coB cs)) /\ w = w' := by
  obtain ⟨hl, A, c, rfl⟩ := h.ints_shape
  have HR := Lib.hid h
  clear h
  go_enter Tryz.func62, Tryz.ntmps62
  go_wp2
  go_loop [3] (λ i => ∃ k : Nat, i = .int .i64 k /\ k <= cs.length /\ (cs.take k).all (inR (-9) 9) = true) (λ i => cs.length - (intOf i).toNat)
  case atStart => exact ⟨0, rfl, Nat.zero_le _, rfl⟩
  case round =>
    obtain ⟨k, rfl, hk, hall⟩ := hrel
    have HA := Lib.hid hall
    clear hall
    by_cases hlt : k < cs.length
    . obtain ⟨ad, rfl, _, hc⟩ := HR.out.at (j := k) (by rw [ints_length]; exact hlt)
      rw [ints_at hlt] at hc
      obtain ⟨x, hx⟩ : ∃ x, x = cs[k] := ⟨_, rfl⟩
      rw [<- hx] at hc
      cases hb : inR (-9) 9 x with
      | true =>
        have HN := Lib.hid (show (cs.take (k + 1)).all (inR (-9) 9) = true by
          rw [List.take_succ_eq_append_getElem hlt, List.all_append, HA.out]
          rw [hx] at hb
          simpa using hb)
        have HI := Lib.hid (λ w => l1In_all x (-9) 9 true w hb)
        clear hb hx
        go_wp2_with (go_at_call 63; (with_reducible refine (HI.out _).mono ?_); rintro e w' ⟨rfl, rfl⟩)
        go_round
        case rel => exact ⟨k + 1, by go_num, by omega, HN.out⟩
        case measure => simp [intOf]; omega
      | false =>
        have HN := Lib.hid (show coB cs = false by
          have : cs.all (inR (-9) 9) = false := by
            rw [List.all_eq_false]
            exact ⟨cs[k], List.getElem_mem hlt, by rw [hx] at hb; simp [hb]⟩
          simp [coB, this])
        have HI := Lib.hid (λ w => l1In_all x (-9) 9 false w hb)
        clear hb hx
        go_wp2_with (go_at_call 63; (with_reducible refine (HI.out _).mono ?_); rintro e w' ⟨rfl, rfl⟩)
        go_ret
        exact ⟨congrArg (λ z => Ending.returned (.bool z)) HN.out.symm, rfl⟩
    . obtain rfl : k = cs.length := by omega
      have HN := Lib.hid (show coB cs = decide (cs.length = 3) by
        have := HA.out
        rw [List.take_length] at this
        simp [coB, this])
      by_cases h3 : cs.length = 3
      . have HN3 := Lib.hid (show coB cs = true by rw [HN.out]; simp [h3])
        have h3' : ((cs.length : Int) == 3) = true := by simp [h3]
        clear h3
        go_wp2
        go_ret
        exact ⟨congrArg (λ z => Ending.returned (.bool z)) HN3.out.symm, rfl⟩
      . have HN3 := Lib.hid (show coB cs = false by rw [HN.out]; simp [h3])
        have h3' : ((cs.length : Int) == 3) = false := by simp; omega
        clear h3
        go_wp2
        go_ret
        exact ⟨congrArg (λ z => Ending.returned (.bool z)) HN3.out.symm, rfl⟩
end Go.Proofs.YtppliiingoonlaaGreatDoor
