/-
  What impl.DerivativeOf answers.
  What spec.DerivativeOf answers.
-/
import Derived.Test.YtichpiklgkahbaaDerMX
import Derived.Test.YtichpiklgkahbaaDerI
import Derived.Test.YtichpiklgkahbaaDerS
namespace Go.Proofs.Ytichpiklgkahbaa
open Go.RowKit

set_option maxRecDepth 100000 in
set_option maxHeartbeats 3200000 in
theorem implDerNo_valid (D : Nat) (k : Int) (l : ByteArray) (u : Value) (cl : ByteArray) (w : World) (hV : ∀ W, Below w.heap.size w W → Calls Try.prog 27 #[.agg #[.int .i64 k, .string l, u]] W fun e w' => e = .returned (.bool false) ∧ Below W.heap.size W w') :
    Calls Try.prog 9 #[.agg #[.int .i64 k, .string l, u], .string cl] w (NdT (D + 1) noX w) := by
  have HV := Lib.hid hV
  obtain ⟨W2, hW2⟩ : ∃ W2, W2 = (w.alloc (.cells #[.int .i64 k, .string l, u] 26)).alloc (.cells #[.int .i64 0, .string ⟨#[]⟩, .slice none 0 0] 26) := ⟨_, rfl⟩
  obtain ⟨t1, t2⟩ := two_new w (.cells #[.int .i64 k, .string l, u] 26) (.cells #[.int .i64 0, .string ⟨#[]⟩, .slice none 0 0] 26)
  have hz2 : W2.heap.size = w.heap.size + 2 := by rw [hW2]; simp
  have hbW : Below w.heap.size w W2 := by rw [hW2]; exact ((Below.refl _ _).alloc (Nat.le_refl _) _).alloc (by simp) _
  rw [← hW2] at t1 t2
  have HB0 := Lib.hid hbW
  have HT1 := Lib.hid t1
  have HT2 := Lib.hid t2
  obtain ⟨a0, a1, a2, -, -, -⟩ := three_at (Below.refl (w.heap.size + 2) W2) (by omega) t1
  rw [hW2] at a0 a1 a2
  clear t1 t2 hbW
  clear hV
  go_enter Try.func9, Try.ntmps9
  go_wp2_with fail
  rw [← hW2]
  clear hW2 a0 a1 a2
  refine (HV.out _ HB0.out).mono ?_
  rintro e w1 ⟨rfl, hb1⟩
  have HB1 := Lib.hid (HB0.out.trans (hb1.mono HB0.out.size))
  have hz1 := hb1.size
  obtain ⟨a0, a1, a2, -, -, -⟩ := three_at (hb1.mono (show w.heap.size + 2 ≤ W2.heap.size by omega)) (by omega) HT1.out
  obtain ⟨r0, r1, r2, f0, f1, f2⟩ := three_at (hb1.mono (show w.heap.size + 2 ≤ W2.heap.size by omega)) (by omega) HT2.out
  have HP := Lib.hid (put3 (k := .int .i64 0) (l := .string ⟨#[]⟩) (u := .slice none 0 0) r0 r1 r2)
  clear hb1
  go_wp2_with fail
  obtain ⟨⟨e0, e1, e2⟩, -, -, hBp⟩ := HP.out
  exact bodyPost_ret (v := .agg #[.int .i64 0, .string ⟨#[]⟩, .slice none 0 0]) (by simp [results, Try.results9, go_sem, e0, e1, e2]) rfl ⟨_, rfl, SlT.none _ _ _ _ _, hBp _ _ HB1.out (by omega)⟩

set_option maxRecDepth 100000 in
set_option maxHeartbeats 3200000 in
theorem implDerNo_size (D : Nat) (k : Int) (l : ByteArray) (u : Value) (cl : ByteArray) (w : World) (hV : ∀ W, Below w.heap.size w W → Calls Try.prog 27 #[.agg #[.int .i64 k, .string l, u]] W fun e w' => e = .returned (.bool true) ∧ Below W.heap.size W w') (hs : ¬ ((cl.size : Int) = 1)) :
    Calls Try.prog 9 #[.agg #[.int .i64 k, .string l, u], .string cl] w (NdT (D + 1) noX w) := by
  have HV := Lib.hid hV
  obtain ⟨W2, hW2⟩ : ∃ W2, W2 = (w.alloc (.cells #[.int .i64 k, .string l, u] 26)).alloc (.cells #[.int .i64 0, .string ⟨#[]⟩, .slice none 0 0] 26) := ⟨_, rfl⟩
  obtain ⟨t1, t2⟩ := two_new w (.cells #[.int .i64 k, .string l, u] 26) (.cells #[.int .i64 0, .string ⟨#[]⟩, .slice none 0 0] 26)
  have hz2 : W2.heap.size = w.heap.size + 2 := by rw [hW2]; simp
  have hbW : Below w.heap.size w W2 := by rw [hW2]; exact ((Below.refl _ _).alloc (Nat.le_refl _) _).alloc (by simp) _
  rw [← hW2] at t1 t2
  have HB0 := Lib.hid hbW
  have HT1 := Lib.hid t1
  have HT2 := Lib.hid t2
  obtain ⟨a0, a1, a2, -, -, -⟩ := three_at (Below.refl (w.heap.size + 2) W2) (by omega) t1
  rw [hW2] at a0 a1 a2
  clear t1 t2 hbW
  clear hV
  go_enter Try.func9, Try.ntmps9
  go_wp2_with fail
  rw [← hW2]
  clear hW2 a0 a1 a2
  refine (HV.out _ HB0.out).mono ?_
  rintro e w1 ⟨rfl, hb1⟩
  have HB1 := Lib.hid (HB0.out.trans (hb1.mono HB0.out.size))
  have hz1 := hb1.size
  obtain ⟨a0, a1, a2, -, -, -⟩ := three_at (hb1.mono (show w.heap.size + 2 ≤ W2.heap.size by omega)) (by omega) HT1.out
  obtain ⟨r0, r1, r2, f0, f1, f2⟩ := three_at (hb1.mono (show w.heap.size + 2 ≤ W2.heap.size by omega)) (by omega) HT2.out
  have HP := Lib.hid (put3 (k := .int .i64 0) (l := .string ⟨#[]⟩) (u := .slice none 0 0) r0 r1 r2)
  clear hb1
  go_wp2_with fail
  obtain ⟨⟨e0, e1, e2⟩, -, -, hBp⟩ := HP.out
  exact bodyPost_ret (v := .agg #[.int .i64 0, .string ⟨#[]⟩, .slice none 0 0]) (by simp [results, Try.results9, go_sem, e0, e1, e2]) rfl ⟨_, rfl, SlT.none _ _ _ _ _, hBp _ _ HB1.out (by omega)⟩

set_option maxRecDepth 100000 in
set_option maxHeartbeats 3200000 in
theorem implDerNo_word (D : Nat) (k : Int) (l : ByteArray) (u : Value) (cl : ByteArray) (w : World) (hV : ∀ W, Below w.heap.size w W → Calls Try.prog 27 #[.agg #[.int .i64 k, .string l, u]] W fun e w' => e = .returned (.bool true) ∧ Below W.heap.size W w') (hs : cl.size = 1) (hI : ∀ W, Calls Try.prog 28 #[.string cl] W fun e w' => e = .returned (.bool false) ∧ W = w') :
    Calls Try.prog 9 #[.agg #[.int .i64 k, .string l, u], .string cl] w (NdT (D + 1) noX w) := by
  have HV := Lib.hid hV
  have HI := Lib.hid hI
  obtain ⟨W2, hW2⟩ : ∃ W2, W2 = (w.alloc (.cells #[.int .i64 k, .string l, u] 26)).alloc (.cells #[.int .i64 0, .string ⟨#[]⟩, .slice none 0 0] 26) := ⟨_, rfl⟩
  obtain ⟨t1, t2⟩ := two_new w (.cells #[.int .i64 k, .string l, u] 26) (.cells #[.int .i64 0, .string ⟨#[]⟩, .slice none 0 0] 26)
  have hz2 : W2.heap.size = w.heap.size + 2 := by rw [hW2]; simp
  have hbW : Below w.heap.size w W2 := by rw [hW2]; exact ((Below.refl _ _).alloc (Nat.le_refl _) _).alloc (by simp) _
  rw [← hW2] at t1 t2
  have HB0 := Lib.hid hbW
  have HT1 := Lib.hid t1
  have HT2 := Lib.hid t2
  obtain ⟨a0, a1, a2, -, -, -⟩ := three_at (Below.refl (w.heap.size + 2) W2) (by omega) t1
  rw [hW2] at a0 a1 a2
  clear t1 t2 hbW
  clear hV hI
  go_enter Try.func9, Try.ntmps9
  go_wp2_with fail
  rw [← hW2]
  clear hW2 a0 a1 a2
  refine (HV.out _ HB0.out).mono ?_
  rintro e w1 ⟨rfl, hb1⟩
  have HB1 := Lib.hid (HB0.out.trans (hb1.mono HB0.out.size))
  have hz1 := hb1.size
  obtain ⟨a0, a1, a2, -, -, -⟩ := three_at (hb1.mono (show w.heap.size + 2 ≤ W2.heap.size by omega)) (by omega) HT1.out
  obtain ⟨r0, r1, r2, f0, f1, f2⟩ := three_at (hb1.mono (show w.heap.size + 2 ≤ W2.heap.size by omega)) (by omega) HT2.out
  have HP := Lib.hid (put3 (k := .int .i64 0) (l := .string ⟨#[]⟩) (u := .slice none 0 0) r0 r1 r2)
  clear hb1
  go_wp2_with (go_at_call 28; refine (HI.out _).mono ?_; rintro e w' ⟨rfl, rfl⟩)
  obtain ⟨⟨e0, e1, e2⟩, -, -, hBp⟩ := HP.out
  exact bodyPost_ret (v := .agg #[.int .i64 0, .string ⟨#[]⟩, .slice none 0 0]) (by simp [results, Try.results9, go_sem, e0, e1, e2]) rfl ⟨_, rfl, SlT.none _ _ _ _ _, hBp _ _ HB1.out (by omega)⟩

set_option maxRecDepth 100000 in
set_option maxHeartbeats 3200000 in
theorem implDerYes (D : Nat) (k : Int) (l : ByteArray) (u : Value) (cl : ByteArray) (w : World) (y : Nx) (hV : ∀ W, Below w.heap.size w W → Calls Try.prog 27 #[.agg #[.int .i64 k, .string l, u]] W fun e w' => e = .returned (.bool true) ∧ Below W.heap.size W w') (hs : cl.size = 1) (hI : ∀ W, Calls Try.prog 28 #[.string cl] W fun e w' => e = .returned (.bool true) ∧ W = w')
    (hD : ∀ W, Below w.heap.size w W → Calls Try.prog 29 #[.agg #[.int .i64 k, .string l, u], .string cl] W (NdT D y W)) :
    Calls Try.prog 9 #[.agg #[.int .i64 k, .string l, u], .string cl] w (NdT D y w) := by
  have HV := Lib.hid hV
  have HI := Lib.hid hI
  have HD := Lib.hid hD
  obtain ⟨W2, hW2⟩ : ∃ W2, W2 = (w.alloc (.cells #[.int .i64 k, .string l, u] 26)).alloc (.cells #[.int .i64 0, .string ⟨#[]⟩, .slice none 0 0] 26) := ⟨_, rfl⟩
  obtain ⟨t1, t2⟩ := two_new w (.cells #[.int .i64 k, .string l, u] 26) (.cells #[.int .i64 0, .string ⟨#[]⟩, .slice none 0 0] 26)
  have hz2 : W2.heap.size = w.heap.size + 2 := by rw [hW2]; simp
  have hbW : Below w.heap.size w W2 := by rw [hW2]; exact ((Below.refl _ _).alloc (Nat.le_refl _) _).alloc (by simp) _
  rw [← hW2] at t1 t2
  have HB0 := Lib.hid hbW
  have HT1 := Lib.hid t1
  have HT2 := Lib.hid t2
  obtain ⟨a0, a1, a2, -, -, -⟩ := three_at (Below.refl (w.heap.size + 2) W2) (by omega) t1
  rw [hW2] at a0 a1 a2
  clear t1 t2 hbW
  clear hV hI hD
  go_enter Try.func9, Try.ntmps9
  go_wp2_with fail
  rw [← hW2]
  clear hW2 a0 a1 a2
  refine (HV.out _ HB0.out).mono ?_
  rintro e w1 ⟨rfl, hb1⟩
  have HB1 := Lib.hid (HB0.out.trans (hb1.mono HB0.out.size))
  have hz1 := hb1.size
  obtain ⟨a0, a1, a2, -, -, -⟩ := three_at (hb1.mono (show w.heap.size + 2 ≤ W2.heap.size by omega)) (by omega) HT1.out
  obtain ⟨r0, r1, r2, f0, f1, f2⟩ := three_at (hb1.mono (show w.heap.size + 2 ≤ W2.heap.size by omega)) (by omega) HT2.out
  have HR1 := Lib.hid ((hb1.block _ (lt_of_blk HT2.out)).trans HT2.out)
  clear hb1 r0 r1 r2 f0 f1 f2
  go_wp2_with (go_at_call 28; refine (HI.out _).mono ?_; rintro e w' ⟨rfl, rfl⟩)
  refine (HD.out _ HB1.out).mono ?_
  rintro e w3 ⟨u3, rfl, hs3, hb3⟩
  obtain ⟨A3, m3, rfl⟩ := hs3.shape
  have hz3 := hb3.size
  have HB3 := Lib.hid (HB1.out.trans (hb3.mono HB1.out.size))
  obtain ⟨q0, q1, q2, q3, q4, q5⟩ := three_at hb3 (lt_of_blk HR1.out) HR1.out
  have HP := Lib.hid (put3 (k := .int .i64 y.1) (l := .string y.2.1) (u := .slice A3 y.2.2.items.length m3) q0 q1 q2)
  have HS3 := Lib.hid hs3
  have hw1 : w.heap.size + 2 ≤ w1.heap.size := by omega
  clear hs3 hb3 a0 a1 a2
  go_wp2_with fail
  obtain ⟨⟨e0, e1, e2⟩, hsz4, hot, hBp⟩ := HP.out
  exact bodyPost_ret (v := .agg #[.int .i64 y.1, .string y.2.1, .slice A3 y.2.2.items.length m3]) (by simp [results, Try.results9, go_sem, e0, e1, e2]) rfl ⟨_, rfl, HS3.out.mono (fun g hg => hot g (by have := hg.1; omega)) (fun g hg => ⟨by have := hg.1; omega, by have := hg.2; rw [hsz4]; omega⟩), hBp _ _ HB3.out (by omega)⟩

theorem implDerOf_any (n B : Nat) (k : Int) (l : ByteArray) (u : Value) (a : Fr) (cl : ByteArray) (w : World) (hS : Sl w B n u a) (hB : B ≤ w.heap.size) (hsz : a.size ≤ 2097152) (hls : l.size ≤ 9223372036854775807) (hcs : cl.size ≤ 9223372036854775807) :
    Calls Try.prog 9 #[.agg #[.int .i64 k, .string l, u], .string cl] w (NdT (2 * n + 1) (derX k l a cl) w) := by
  have HV := fun W (hb : Below w.heap.size w W) => implValid_any n B k l u a W (hS.mono (hb.mono hB) (Nat.le_refl _)) (Nat.le_trans hB hb.size) hsz hls
  have HI := fun W => implIsWord_any cl W (by unfold maxLen; omega)
  unfold derX
  cases hv : validRx k l a with
  | false =>
    rw [hv] at HV
    exact implDerNo_valid (2 * n) k l u cl w HV
  | true =>
    rw [hv] at HV
    by_cases h1 : cl.size = 1
    · cases hw : isW cl.data.toList with
      | false =>
        rw [hw] at HI
        rw [if_neg (by simp)]
        exact implDerNo_word (2 * n) k l u cl w HV h1 HI
      | true =>
        rw [hw] at HI
        rw [if_pos (by simp [h1])]
        exact implDerYes (2 * n + 1) k l u cl w _ HV h1 HI (fun W hb => implDerive_any cl n B k l u a W (hS.mono (hb.mono hB) (Nat.le_refl _)) (Nat.le_trans hB hb.size) (valid_all hv).1 (valid_all hv).2.1 (valid_all hv).2.2)
    · rw [if_neg (by simp [h1])]
      exact implDerNo_size (2 * n) k l u cl w HV (by omega)
end Go.Proofs.Ytichpiklgkahbaa

namespace Go.Proofs.Ytichpiklgkahbaa
open Go.RowKit

set_option maxRecDepth 100000 in
set_option maxHeartbeats 3200000 in
theorem specDerNo_valid (D : Nat) (k : Int) (l : ByteArray) (u : Value) (cl : ByteArray) (w : World) (hV : ∀ W, Below w.heap.size w W → Calls Try.prog 17 #[.agg #[.int .i64 k, .string l, u]] W fun e w' => e = .returned (.bool false) ∧ Below W.heap.size W w') :
    Calls Try.prog 11 #[.agg #[.int .i64 k, .string l, u], .string cl] w (NdT (D + 1) noX w) := by
  have HV := Lib.hid hV
  obtain ⟨W2, hW2⟩ : ∃ W2, W2 = (w.alloc (.cells #[.int .i64 k, .string l, u] 26)).alloc (.cells #[.int .i64 0, .string ⟨#[]⟩, .slice none 0 0] 26) := ⟨_, rfl⟩
  obtain ⟨t1, t2⟩ := two_new w (.cells #[.int .i64 k, .string l, u] 26) (.cells #[.int .i64 0, .string ⟨#[]⟩, .slice none 0 0] 26)
  have hz2 : W2.heap.size = w.heap.size + 2 := by rw [hW2]; simp
  have hbW : Below w.heap.size w W2 := by rw [hW2]; exact ((Below.refl _ _).alloc (Nat.le_refl _) _).alloc (by simp) _
  rw [← hW2] at t1 t2
  have HB0 := Lib.hid hbW
  have HT1 := Lib.hid t1
  have HT2 := Lib.hid t2
  obtain ⟨a0, a1, a2, -, -, -⟩ := three_at (Below.refl (w.heap.size + 2) W2) (by omega) t1
  rw [hW2] at a0 a1 a2
  clear t1 t2 hbW
  clear hV
  go_enter Try.func11, Try.ntmps11
  go_wp2_with fail
  rw [← hW2]
  clear hW2 a0 a1 a2
  refine (HV.out _ HB0.out).mono ?_
  rintro e w1 ⟨rfl, hb1⟩
  have HB1 := Lib.hid (HB0.out.trans (hb1.mono HB0.out.size))
  have hz1 := hb1.size
  obtain ⟨a0, a1, a2, -, -, -⟩ := three_at (hb1.mono (show w.heap.size + 2 ≤ W2.heap.size by omega)) (by omega) HT1.out
  obtain ⟨r0, r1, r2, f0, f1, f2⟩ := three_at (hb1.mono (show w.heap.size + 2 ≤ W2.heap.size by omega)) (by omega) HT2.out
  have HP := Lib.hid (put3 (k := .int .i64 0) (l := .string ⟨#[]⟩) (u := .slice none 0 0) r0 r1 r2)
  clear hb1
  go_wp2_with fail
  obtain ⟨⟨e0, e1, e2⟩, -, -, hBp⟩ := HP.out
  exact bodyPost_ret (v := .agg #[.int .i64 0, .string ⟨#[]⟩, .slice none 0 0]) (by simp [results, Try.results11, go_sem, e0, e1, e2]) rfl ⟨_, rfl, SlT.none _ _ _ _ _, hBp _ _ HB1.out (by omega)⟩

set_option maxRecDepth 100000 in
set_option maxHeartbeats 3200000 in
theorem specDerNo_size (D : Nat) (k : Int) (l : ByteArray) (u : Value) (cl : ByteArray) (w : World) (hV : ∀ W, Below w.heap.size w W → Calls Try.prog 17 #[.agg #[.int .i64 k, .string l, u]] W fun e w' => e = .returned (.bool true) ∧ Below W.heap.size W w') (hs : ¬ ((cl.size : Int) = 1)) :
    Calls Try.prog 11 #[.agg #[.int .i64 k, .string l, u], .string cl] w (NdT (D + 1) noX w) := by
  have HV := Lib.hid hV
  obtain ⟨W2, hW2⟩ : ∃ W2, W2 = (w.alloc (.cells #[.int .i64 k, .string l, u] 26)).alloc (.cells #[.int .i64 0, .string ⟨#[]⟩, .slice none 0 0] 26) := ⟨_, rfl⟩
  obtain ⟨t1, t2⟩ := two_new w (.cells #[.int .i64 k, .string l, u] 26) (.cells #[.int .i64 0, .string ⟨#[]⟩, .slice none 0 0] 26)
  have hz2 : W2.heap.size = w.heap.size + 2 := by rw [hW2]; simp
  have hbW : Below w.heap.size w W2 := by rw [hW2]; exact ((Below.refl _ _).alloc (Nat.le_refl _) _).alloc (by simp) _
  rw [← hW2] at t1 t2
  have HB0 := Lib.hid hbW
  have HT1 := Lib.hid t1
  have HT2 := Lib.hid t2
  obtain ⟨a0, a1, a2, -, -, -⟩ := three_at (Below.refl (w.heap.size + 2) W2) (by omega) t1
  rw [hW2] at a0 a1 a2
  clear t1 t2 hbW
  clear hV
  go_enter Try.func11, Try.ntmps11
  go_wp2_with fail
  rw [← hW2]
  clear hW2 a0 a1 a2
  refine (HV.out _ HB0.out).mono ?_
  rintro e w1 ⟨rfl, hb1⟩
  have HB1 := Lib.hid (HB0.out.trans (hb1.mono HB0.out.size))
  have hz1 := hb1.size
  obtain ⟨a0, a1, a2, -, -, -⟩ := three_at (hb1.mono (show w.heap.size + 2 ≤ W2.heap.size by omega)) (by omega) HT1.out
  obtain ⟨r0, r1, r2, f0, f1, f2⟩ := three_at (hb1.mono (show w.heap.size + 2 ≤ W2.heap.size by omega)) (by omega) HT2.out
  have HP := Lib.hid (put3 (k := .int .i64 0) (l := .string ⟨#[]⟩) (u := .slice none 0 0) r0 r1 r2)
  clear hb1
  go_wp2_with fail
  obtain ⟨⟨e0, e1, e2⟩, -, -, hBp⟩ := HP.out
  exact bodyPost_ret (v := .agg #[.int .i64 0, .string ⟨#[]⟩, .slice none 0 0]) (by simp [results, Try.results11, go_sem, e0, e1, e2]) rfl ⟨_, rfl, SlT.none _ _ _ _ _, hBp _ _ HB1.out (by omega)⟩

set_option maxRecDepth 100000 in
set_option maxHeartbeats 3200000 in
theorem specDerNo_word (D : Nat) (k : Int) (l : ByteArray) (u : Value) (cl : ByteArray) (w : World) (hV : ∀ W, Below w.heap.size w W → Calls Try.prog 17 #[.agg #[.int .i64 k, .string l, u]] W fun e w' => e = .returned (.bool true) ∧ Below W.heap.size W w') (hs : cl.size = 1) (hI : ∀ W, Calls Try.prog 30 #[.string cl] W fun e w' => e = .returned (.bool false) ∧ W = w') :
    Calls Try.prog 11 #[.agg #[.int .i64 k, .string l, u], .string cl] w (NdT (D + 1) noX w) := by
  have HV := Lib.hid hV
  have HI := Lib.hid hI
  obtain ⟨W2, hW2⟩ : ∃ W2, W2 = (w.alloc (.cells #[.int .i64 k, .string l, u] 26)).alloc (.cells #[.int .i64 0, .string ⟨#[]⟩, .slice none 0 0] 26) := ⟨_, rfl⟩
  obtain ⟨t1, t2⟩ := two_new w (.cells #[.int .i64 k, .string l, u] 26) (.cells #[.int .i64 0, .string ⟨#[]⟩, .slice none 0 0] 26)
  have hz2 : W2.heap.size = w.heap.size + 2 := by rw [hW2]; simp
  have hbW : Below w.heap.size w W2 := by rw [hW2]; exact ((Below.refl _ _).alloc (Nat.le_refl _) _).alloc (by simp) _
  rw [← hW2] at t1 t2
  have HB0 := Lib.hid hbW
  have HT1 := Lib.hid t1
  have HT2 := Lib.hid t2
  obtain ⟨a0, a1, a2, -, -, -⟩ := three_at (Below.refl (w.heap.size + 2) W2) (by omega) t1
  rw [hW2] at a0 a1 a2
  clear t1 t2 hbW
  clear hV hI
  go_enter Try.func11, Try.ntmps11
  go_wp2_with fail
  rw [← hW2]
  clear hW2 a0 a1 a2
  refine (HV.out _ HB0.out).mono ?_
  rintro e w1 ⟨rfl, hb1⟩
  have HB1 := Lib.hid (HB0.out.trans (hb1.mono HB0.out.size))
  have hz1 := hb1.size
  obtain ⟨a0, a1, a2, -, -, -⟩ := three_at (hb1.mono (show w.heap.size + 2 ≤ W2.heap.size by omega)) (by omega) HT1.out
  obtain ⟨r0, r1, r2, f0, f1, f2⟩ := three_at (hb1.mono (show w.heap.size + 2 ≤ W2.heap.size by omega)) (by omega) HT2.out
  have HP := Lib.hid (put3 (k := .int .i64 0) (l := .string ⟨#[]⟩) (u := .slice none 0 0) r0 r1 r2)
  clear hb1
  go_wp2_with (go_at_call 30; refine (HI.out _).mono ?_; rintro e w' ⟨rfl, rfl⟩)
  obtain ⟨⟨e0, e1, e2⟩, -, -, hBp⟩ := HP.out
  exact bodyPost_ret (v := .agg #[.int .i64 0, .string ⟨#[]⟩, .slice none 0 0]) (by simp [results, Try.results11, go_sem, e0, e1, e2]) rfl ⟨_, rfl, SlT.none _ _ _ _ _, hBp _ _ HB1.out (by omega)⟩

set_option maxRecDepth 100000 in
set_option maxHeartbeats 3200000 in
theorem specDerYes (D : Nat) (k : Int) (l : ByteArray) (u : Value) (cl : ByteArray) (w : World) (y : Nx) (hV : ∀ W, Below w.heap.size w W → Calls Try.prog 17 #[.agg #[.int .i64 k, .string l, u]] W fun e w' => e = .returned (.bool true) ∧ Below W.heap.size W w') (hs : cl.size = 1) (hI : ∀ W, Calls Try.prog 30 #[.string cl] W fun e w' => e = .returned (.bool true) ∧ W = w')
    (hD : ∀ W, Below w.heap.size w W → Calls Try.prog 31 #[.agg #[.int .i64 k, .string l, u], .string cl] W (NdT D y W)) :
    Calls Try.prog 11 #[.agg #[.int .i64 k, .string l, u], .string cl] w (NdT D y w) := by
  have HV := Lib.hid hV
  have HI := Lib.hid hI
  have HD := Lib.hid hD
  obtain ⟨W2, hW2⟩ : ∃ W2, W2 = (w.alloc (.cells #[.int .i64 k, .string l, u] 26)).alloc (.cells #[.int .i64 0, .string ⟨#[]⟩, .slice none 0 0] 26) := ⟨_, rfl⟩
  obtain ⟨t1, t2⟩ := two_new w (.cells #[.int .i64 k, .string l, u] 26) (.cells #[.int .i64 0, .string ⟨#[]⟩, .slice none 0 0] 26)
  have hz2 : W2.heap.size = w.heap.size + 2 := by rw [hW2]; simp
  have hbW : Below w.heap.size w W2 := by rw [hW2]; exact ((Below.refl _ _).alloc (Nat.le_refl _) _).alloc (by simp) _
  rw [← hW2] at t1 t2
  have HB0 := Lib.hid hbW
  have HT1 := Lib.hid t1
  have HT2 := Lib.hid t2
  obtain ⟨a0, a1, a2, -, -, -⟩ := three_at (Below.refl (w.heap.size + 2) W2) (by omega) t1
  rw [hW2] at a0 a1 a2
  clear t1 t2 hbW
  clear hV hI hD
  go_enter Try.func11, Try.ntmps11
  go_wp2_with fail
  rw [← hW2]
  clear hW2 a0 a1 a2
  refine (HV.out _ HB0.out).mono ?_
  rintro e w1 ⟨rfl, hb1⟩
  have HB1 := Lib.hid (HB0.out.trans (hb1.mono HB0.out.size))
  have hz1 := hb1.size
  obtain ⟨a0, a1, a2, -, -, -⟩ := three_at (hb1.mono (show w.heap.size + 2 ≤ W2.heap.size by omega)) (by omega) HT1.out
  obtain ⟨r0, r1, r2, f0, f1, f2⟩ := three_at (hb1.mono (show w.heap.size + 2 ≤ W2.heap.size by omega)) (by omega) HT2.out
  have HR1 := Lib.hid ((hb1.block _ (lt_of_blk HT2.out)).trans HT2.out)
  clear hb1 r0 r1 r2 f0 f1 f2
  go_wp2_with (go_at_call 30; refine (HI.out _).mono ?_; rintro e w' ⟨rfl, rfl⟩)
  refine (HD.out _ HB1.out).mono ?_
  rintro e w3 ⟨u3, rfl, hs3, hb3⟩
  obtain ⟨A3, m3, rfl⟩ := hs3.shape
  have hz3 := hb3.size
  have HB3 := Lib.hid (HB1.out.trans (hb3.mono HB1.out.size))
  obtain ⟨q0, q1, q2, q3, q4, q5⟩ := three_at hb3 (lt_of_blk HR1.out) HR1.out
  have HP := Lib.hid (put3 (k := .int .i64 y.1) (l := .string y.2.1) (u := .slice A3 y.2.2.items.length m3) q0 q1 q2)
  have HS3 := Lib.hid hs3
  have hw1 : w.heap.size + 2 ≤ w1.heap.size := by omega
  clear hs3 hb3 a0 a1 a2
  go_wp2_with fail
  obtain ⟨⟨e0, e1, e2⟩, hsz4, hot, hBp⟩ := HP.out
  exact bodyPost_ret (v := .agg #[.int .i64 y.1, .string y.2.1, .slice A3 y.2.2.items.length m3]) (by simp [results, Try.results11, go_sem, e0, e1, e2]) rfl ⟨_, rfl, HS3.out.mono (fun g hg => hot g (by have := hg.1; omega)) (fun g hg => ⟨by have := hg.1; omega, by have := hg.2; rw [hsz4]; omega⟩), hBp _ _ HB3.out (by omega)⟩

theorem specDerOf_any (n B : Nat) (k : Int) (l : ByteArray) (u : Value) (a : Fr) (cl : ByteArray) (w : World) (hS : Sl w B n u a) (hB : B ≤ w.heap.size) (hsz : a.size ≤ 2097152) (hls : l.size ≤ 9223372036854775807) (hcs : cl.size ≤ 9223372036854775807) :
    Calls Try.prog 11 #[.agg #[.int .i64 k, .string l, u], .string cl] w (NdT (2 * n + 1) (derX k l a cl) w) := by
  have HV := fun W (hb : Below w.heap.size w W) => specValid_any n B k l u a W (hS.mono (hb.mono hB) (Nat.le_refl _)) (Nat.le_trans hB hb.size) hsz hls
  have HI := fun W => specIsWord_any cl W (by unfold maxLen; omega)
  unfold derX
  cases hv : validRx k l a with
  | false =>
    rw [hv] at HV
    exact specDerNo_valid (2 * n) k l u cl w HV
  | true =>
    rw [hv] at HV
    by_cases h1 : cl.size = 1
    · cases hw : isW cl.data.toList with
      | false =>
        rw [hw] at HI
        rw [if_neg (by simp)]
        exact specDerNo_word (2 * n) k l u cl w HV h1 HI
      | true =>
        rw [hw] at HI
        rw [if_pos (by simp [h1])]
        exact specDerYes (2 * n + 1) k l u cl w _ HV h1 HI (fun W hb => specDerive_any cl n B k l u a W (hS.mono (hb.mono hB) (Nat.le_refl _)) (Nat.le_trans hB hb.size) (valid_ok hv) (by have := valid_size hv; omega) hls)
    · rw [if_neg (by simp [h1])]
      exact specDerNo_size (2 * n) k l u cl w HV (by omega)
end Go.Proofs.Ytichpiklgkahbaa
