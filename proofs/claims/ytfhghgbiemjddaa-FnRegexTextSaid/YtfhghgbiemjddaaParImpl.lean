/-
  What impl.ParseRegex answers.
-/
import Derived.Test.YtfhghgbiemjddaaParRd
import Derived.Test.YtfhghgbiemjddaaCntI
namespace Go.Proofs.Ytfhghgbiemjddaa
open Go.RowKit

def PaYes (x : Nd) (w : World) (e : Ending) (w' : World) : Prop := ∃ u, e = .returned (.tuple #[.agg #[.int .i64 x.1, .string x.2.1, u], .bool true]) ∧ SlT w' 6 (OwnB w w') u x.2.2 ∧ Below w.heap.size w w'
def PaNo (w : World) (e : Ending) (w' : World) : Prop := e = .returned (.tuple #[.agg #[.int .i64 0, .string ⟨#[]⟩, .slice none 0 0], .bool false]) ∧ Below w.heap.size w w'
def PaPost (s : List UInt8) (w : World) (e : Ending) (w' : World) : Prop :=
  match parseAll s with
  | some x => PaYes x w e w'
  | none => PaNo w e w'

set_option maxRecDepth 100000 in
theorem implParse_none (s : ByteArray) (w : World) (hs : s.size ≤ 1048576) (hp : parse 6 s.data.toList = none) : Calls Try.prog 11 #[.string s] w (PaNo w) := by
  have HI := Lib.hid (fun w => (rdAt_all 6 (Nat.le_refl _)).no hp w hs)
  rw [show (((6 : Nat) : Int)) = 6 from rfl] at HI
  clear hp hs
  go_enter Try.func11, Try.ntmps11
  go_wp2_with fail
  (with_reducible refine (HI.out _).mono ?_)
  rintro e w1 ⟨rfl, hb⟩
  have hb1 : Below (w.heap.size + 1) (w.alloc (.cells #[.int .i64 0, .string ⟨#[]⟩, .slice none 0 0] 26)) w1 := by simpa using hb
  have hz := hb1.size
  rw [World.size_alloc] at hz
  obtain ⟨W2, hW2⟩ : ∃ W2, W2 = w1.alloc (.cells #[.int .i64 0, .string ⟨#[]⟩, .slice none 0 0] 26) := ⟨_, rfl⟩
  have hb2 : Below (w.heap.size + 1) (w.alloc (.cells #[.int .i64 0, .string ⟨#[]⟩, .slice none 0 0] 26)) W2 := by rw [hW2]; exact hb1.alloc hz _
  obtain ⟨-, b0, b1, b2, f0, f1, f2⟩ := box_kept hb2
  have HF := Lib.hid (put3 (k := .int .i64 0) (l := .string ⟨#[]⟩) (u := .slice none 0 0) b0 b1 b2)
  have HB := Lib.hid (((Below.refl w.heap.size w).alloc (Nat.le_refl _) (.cells #[.int .i64 0, .string ⟨#[]⟩, .slice none 0 0] 26)).trans (hb2.mono (Nat.le_succ _)))
  rw [hW2] at b0 b1 b2 f0 f1 f2
  have HW2 := Lib.hid hW2
  clear hb2 hW2
  clear hb hb1
  go_wp2_with fail
  rw [← HW2.out]
  obtain ⟨⟨c0, c1, c2⟩, _, _, hB⟩ := HF.out
  exact bodyPost_ret (v := .tuple #[.agg #[.int .i64 0, .string ⟨#[]⟩, .slice none 0 0], .bool false]) (by simp [results, Try.results11, go_sem, c0, c1, c2]) rfl ⟨rfl, hB _ _ HB.out (Nat.le_refl _)⟩
set_option maxRecDepth 100000 in
theorem implParse_rest (s : ByteArray) (x : Nd) (b : UInt8) (t : List UInt8) (w : World) (hs : s.size ≤ 1048576) (hp : parse 6 s.data.toList = some (x, b :: t)) : Calls Try.prog 11 #[.string s] w (PaNo w) := by
  have HI := Lib.hid (fun w => (rdAt_all 6 (Nat.le_refl _)).yes hp w hs)
  rw [show (((6 : Nat) : Int)) = 6 from rfl] at HI
  clear hp hs
  go_enter Try.func11, Try.ntmps11
  go_wp2_with fail
  (with_reducible refine (HI.out _).mono ?_)
  rintro e w1 ⟨u, rs, rfl, hrs, hsl, hb⟩
  have hb1 : Below (w.heap.size + 1) (w.alloc (.cells #[.int .i64 0, .string ⟨#[]⟩, .slice none 0 0] 26)) w1 := by simpa using hb
  obtain ⟨A, c, rfl⟩ := hsl.shape
  have hz := hb1.size
  rw [World.size_alloc] at hz
  have hr0 : ¬ rs.toList = [] := some_bytes hrs
  have hr1 : (!rs.toList.isEmpty) = true := by simpa using hr0
  obtain ⟨W2, hW2⟩ : ∃ W2, W2 = w1.alloc (.cells #[.int .i64 x.1, .string x.2.1, .slice A x.2.2.items.length c] 26) := ⟨_, rfl⟩
  have hb2 : Below (w.heap.size + 1) (w.alloc (.cells #[.int .i64 0, .string ⟨#[]⟩, .slice none 0 0] 26)) W2 := by rw [hW2]; exact hb1.alloc hz _
  obtain ⟨-, b0, b1, b2, f0, f1, f2⟩ := box_kept hb2
  have HF := Lib.hid (put3 (k := .int .i64 0) (l := .string ⟨#[]⟩) (u := .slice none 0 0) b0 b1 b2)
  have HB := Lib.hid (((Below.refl w.heap.size w).alloc (Nat.le_refl _) (.cells #[.int .i64 0, .string ⟨#[]⟩, .slice none 0 0] 26)).trans (hb2.mono (Nat.le_succ _)))
  rw [hW2] at b0 b1 b2 f0 f1 f2
  have HW2 := Lib.hid hW2
  clear hb2 hW2
  clear hb hb1 hsl hrs
  go_wp2_with fail
  rw [← HW2.out]
  obtain ⟨⟨c0, c1, c2⟩, _, _, hB⟩ := HF.out
  exact bodyPost_ret (v := .tuple #[.agg #[.int .i64 0, .string ⟨#[]⟩, .slice none 0 0], .bool false]) (by simp [results, Try.results11, go_sem, c0, c1, c2]) rfl ⟨rfl, hB _ _ HB.out (Nat.le_refl _)⟩
set_option maxRecDepth 100000 in
set_option maxHeartbeats 800000 in
theorem implParse_bad (s : ByteArray) (x : Nd) (w : World) (hs : s.size ≤ 1048576) (hp : parse 6 s.data.toList = some (x, [])) (hv : validRx x.1 x.2.1 x.2.2 = false) : Calls Try.prog 11 #[.string s] w (PaNo w) := by
  have HI := Lib.hid (fun w => (rdAt_all 6 (Nat.le_refl _)).yes hp w hs)
  rw [show (((6 : Nat) : Int)) = 6 from rfl] at HI
  obtain ⟨-, hx1, hx2⟩ := parse_spec 6 _ x [] hp
  rw [show 2 ^ 6 = 64 from rfl] at hx1
  clear hp hs
  go_enter Try.func11, Try.ntmps11
  go_wp2_with fail
  (with_reducible refine (HI.out _).mono ?_)
  rintro e w1 ⟨u, rs, rfl, hrs, hsl, hb⟩
  have hb1 : Below (w.heap.size + 1) (w.alloc (.cells #[.int .i64 0, .string ⟨#[]⟩, .slice none 0 0] 26)) w1 := by simpa using hb
  obtain ⟨A, c, rfl⟩ := hsl.shape
  have hz := hb1.size
  rw [World.size_alloc] at hz
  have HV := Lib.hid (fun (W : World) (hW : Below w1.heap.size w1 W) => implValid_any 6 W.heap.size x.1 x.2.1 (.slice A x.2.2.items.length c) x.2.2 W (SlP.mono (fun g hg => hW.block g hg.2) (fun g hg => Nat.lt_of_lt_of_le hg.2 hW.size) hsl.sl) (Nat.le_refl _) (by omega) (by omega))
  rw [hv] at HV
  have hr0 : rs.toList = [] := no_bytes hrs
  have hr1 : (!rs.toList.isEmpty) = false := by rw [hr0]; rfl
  have c0 := (cell_of_row (w1.alloc (.cells #[.int .i64 x.1, .string x.2.1, .slice A x.2.2.items.length c] 26)) _ 0 _ _ (0, 0) (heap_alloc_new w1 (.cells #[.int .i64 x.1, .string x.2.1, .slice A x.2.2.items.length c] 26))).trans (rfl : _ = some (Value.int .i64 x.1))
  clear hb hsl hrs hx1 hx2 hv c0
  have HB1 := Lib.hid hb1
  clear hb1
  go_wp2_with fail
  refine (HV.out _ ((Below.refl _ _).alloc (Nat.le_refl _) _)).mono ?_
  rintro e w2 ⟨rfl, hb3⟩
  have hb12 : Below w1.heap.size w1 w2 := ((Below.refl _ _).alloc (Nat.le_refl _) _).trans (hb3.mono (by simp))
  obtain ⟨W2, hW2⟩ : ∃ W2, W2 = w2 := ⟨_, rfl⟩
  have hb2 : Below (w.heap.size + 1) (w.alloc (.cells #[.int .i64 0, .string ⟨#[]⟩, .slice none 0 0] 26)) W2 := by rw [hW2]; exact HB1.out.trans (hb12.mono hz)
  obtain ⟨-, b0, b1, b2, f0, f1, f2⟩ := box_kept hb2
  have HF := Lib.hid (put3 (k := .int .i64 0) (l := .string ⟨#[]⟩) (u := .slice none 0 0) b0 b1 b2)
  have HB := Lib.hid (((Below.refl w.heap.size w).alloc (Nat.le_refl _) (.cells #[.int .i64 0, .string ⟨#[]⟩, .slice none 0 0] 26)).trans (hb2.mono (Nat.le_succ _)))
  rw [hW2] at b0 b1 b2 f0 f1 f2
  have HW2 := Lib.hid hW2
  clear hb2 hW2
  clear hb3 hb12
  go_wp2_with fail
  rw [← HW2.out]
  obtain ⟨⟨c0, c1, c2⟩, _, _, hB⟩ := HF.out
  exact bodyPost_ret (v := .tuple #[.agg #[.int .i64 0, .string ⟨#[]⟩, .slice none 0 0], .bool false]) (by simp [results, Try.results11, go_sem, c0, c1, c2]) rfl ⟨rfl, hB _ _ HB.out (Nat.le_refl _)⟩
set_option maxRecDepth 100000 in
set_option maxHeartbeats 800000 in
theorem implParse_yes (s : ByteArray) (x : Nd) (w : World) (hs : s.size ≤ 1048576) (hp : parse 6 s.data.toList = some (x, [])) (hv : validRx x.1 x.2.1 x.2.2 = true) : Calls Try.prog 11 #[.string s] w (PaYes x w) := by
  have HI := Lib.hid (fun w => (rdAt_all 6 (Nat.le_refl _)).yes hp w hs)
  rw [show (((6 : Nat) : Int)) = 6 from rfl] at HI
  obtain ⟨-, hx1, hx2⟩ := parse_spec 6 _ x [] hp
  rw [show 2 ^ 6 = 64 from rfl] at hx1
  clear hp hs
  go_enter Try.func11, Try.ntmps11
  go_wp2_with fail
  (with_reducible refine (HI.out _).mono ?_)
  rintro e w1 ⟨u, rs, rfl, hrs, hsl, hb⟩
  have hb1 : Below (w.heap.size + 1) (w.alloc (.cells #[.int .i64 0, .string ⟨#[]⟩, .slice none 0 0] 26)) w1 := by simpa using hb
  obtain ⟨A, c, rfl⟩ := hsl.shape
  have hz := hb1.size
  rw [World.size_alloc] at hz
  have HV := Lib.hid (fun (W : World) (hW : Below w1.heap.size w1 W) => implValid_any 6 W.heap.size x.1 x.2.1 (.slice A x.2.2.items.length c) x.2.2 W (SlP.mono (fun g hg => hW.block g hg.2) (fun g hg => Nat.lt_of_lt_of_le hg.2 hW.size) hsl.sl) (Nat.le_refl _) (by omega) (by omega))
  rw [hv] at HV
  have hr0 : rs.toList = [] := no_bytes hrs
  have hr1 : (!rs.toList.isEmpty) = false := by rw [hr0]; rfl
  have HSL := Lib.hid hsl
  clear hb hsl hrs hx1 hx2 hv
  have HB1 := Lib.hid hb1
  clear hb1
  go_wp2_with fail
  refine (HV.out _ ((Below.refl _ _).alloc (Nat.le_refl _) _)).mono ?_
  rintro e w2 ⟨rfl, hb3⟩
  have hb3' : Below (w1.heap.size + 1) (w1.alloc (.cells #[.int .i64 x.1, .string x.2.1, .slice A x.2.2.items.length c] 26)) w2 := by simpa using hb3
  obtain ⟨-, d0, d1, d2, -⟩ := box_kept hb3'
  have hb12 : Below w1.heap.size w1 w2 := ((Below.refl _ _).alloc (Nat.le_refl _) _).trans (hb3.mono (by simp))
  have hb02 : Below (w.heap.size + 1) (w.alloc (.cells #[.int .i64 0, .string ⟨#[]⟩, .slice none 0 0] 26)) w2 := HB1.out.trans (hb12.mono hz)
  obtain ⟨-, b0, b1, b2, f0, f1, f2⟩ := box_kept hb02
  have HF := Lib.hid (rd_end (k := x.1) (l := x.2.1) hb02 (HSL.out.mono (w' := w2) (S' := OwnB (w.alloc (.cells #[.int .i64 0, .string ⟨#[]⟩, .slice none 0 0] 26)) w2) (fun g hg => hb12.block g hg.2) (fun g hg => ⟨hg.1, Nat.lt_of_lt_of_le hg.2 hb12.size⟩)) b0 b1 b2)
  clear hb3 hb3' hb12 hb02
  go_wp2_with fail
  obtain ⟨⟨c0, c1, c2⟩, hS, hB⟩ := HF.out
  exact bodyPost_ret (v := .tuple #[.agg #[.int .i64 x.1, .string x.2.1, .slice A x.2.2.items.length c], .bool true]) (by simp [results, Try.results11, go_sem, c0, c1, c2]) rfl ⟨_, rfl, hS, hB⟩

theorem pa_some {l : List UInt8} {x : Nd} {w w' : World} {e : Ending} (hp : parseAll l = some x) (h : PaYes x w e w') : PaPost l w e w' := by unfold PaPost; rw [hp]; exact h
theorem pa_none {l : List UInt8} {w w' : World} {e : Ending} (hp : parseAll l = none) (h : PaNo w e w') : PaPost l w e w' := by unfold PaPost; rw [hp]; exact h
theorem implParse_any (s : ByteArray) (w : World) (hs : s.size ≤ 1048576) : Calls Try.prog 11 #[.string s] w (PaPost s.data.toList w) := by
  cases hp : parse 6 s.data.toList with
  | none => exact (implParse_none s w hs hp).mono fun _ _ h => pa_none (by unfold parseAll; rw [hp]) h
  | some p =>
    obtain ⟨x, t⟩ := p
    cases t with
    | cons b t => exact (implParse_rest s x b t w hs hp).mono fun _ _ h => pa_none (by unfold parseAll; rw [hp]) h
    | nil =>
      cases hv : validRx x.1 x.2.1 x.2.2 with
      | true => exact (implParse_yes s x w hs hp hv).mono fun _ _ h => pa_some (by unfold parseAll; rw [hp]; exact if_pos hv) h
      | false => exact (implParse_bad s x w hs hp hv).mono fun _ _ h => pa_none (by unfold parseAll; rw [hp]; exact if_neg (by rw [hv]; decide)) h
end Go.Proofs.Ytfhghgbiemjddaa
