/-
  What impl.matcherOf, impl.MatchRegex and impl.IsNullable answer.
-/
import Derived.Test.YtichpiklgkahbaaMatOr
import Derived.Test.YtichpiklgkahbaaMatAnd
import Derived.Test.YtichpiklgkahbaaBoxRx
namespace Go.Proofs.Ytichpiklgkahbaa
open Go.RowKit

theorem matcherOf_any (s : ByteArray) (hz : s.size ≤ 30) (n : Nat) : ∀ (B : Nat) (k : Int) (l : ByteArray) (u : Value) (a : Fr) (w : World), Sl w B n u a → B ≤ w.heap.size → (allRow a && nodeOk k l a.items.length) = true →
    Calls Try.prog 32 #[.agg #[.int .i64 k, .string l, u], .string s] w (MatNew s.size (nodeM s.data.toList k l.data.toList (mts s.data.toList a)) w) := by
  induction n with
  | zero => intro B k l u a w h; exact h.zero.elim
  | succ n ih =>
    intro B k l u a w hS hB hok
    rw [Bool.and_eq_true] at hok
    obtain ⟨hall, hnode⟩ := hok
    obtain ⟨hl, A, c, rfl, hE⟩ := hS.open
    have hkid : ∀ j, j < a.items.length → ∃ g o k' l' A' m' c', A = some ⟨g, o, none⟩ ∧ g < w.heap.size ∧ ElAt w g (o + j * 3) k' l' (.slice A' m' c') ∧
        ∀ W, Below w.heap.size w W → Calls Try.prog 32 #[.agg #[.int .i64 k', .string l', .slice A' m' c'], .string s] W (MatNew s.size ((mts s.data.toList a).getD j botM) W) := fun j hj => by
      obtain ⟨g, o, hA, hg, k', l', a', u', hx, hls, he, h4⟩ := hE j hj
      obtain ⟨A', c', rfl⟩ := SlP.shape h4
      refine ⟨g, o, k', l', A', _, c', hA, Nat.lt_of_lt_of_le hg hB, he, fun W hW => ?_⟩
      rw [mts_at hx]
      exact ih B k' l' _ a' W (h4.mono (hW.mono hB) (Nat.le_refl _)) (Nat.le_trans hB hW.size) (item_ok hall hx)
    generalize hm : a.items.length = m at *
    clear hE hS
    rcases nodeOk_cases hnode with ⟨rfl, rfl⟩ | ⟨rfl, rfl⟩ | ⟨rfl, hl1, rfl⟩ | ⟨rfl, rfl⟩ | ⟨rfl, rfl⟩ | ⟨rfl, rfl⟩ | ⟨rfl, rfl⟩ | ⟨rfl, rfl⟩ | ⟨rfl, rfl⟩
    · exact mat_case_1 s l A c a w hnode hz
    · exact mat_case_2 s l A c a w hnode hz
    · exact mat_case_3 s l A c a w hnode hz
    · exact mat_case_4 s l A c a w hnode hz
    · exact mat_case_5 s l A c a w hnode hz hkid
    · exact mat_case_6 s l A c a w hnode hz hkid
    · exact mat_case_7 s l A c a w hnode hz hkid
    · exact mat_case_8 s l A c a w hnode hz hkid
    · exact mat_case_9 s l A c a w hnode hz hkid

/-- Whether a word belongs to the language of a valid expression. -/
def matchRx (k : Int) (l : ByteArray) (a : Fr) (s : List UInt8) : Bool := validRx k l a && isW s && nodeM s k l.data.toList (mts s a) 0 s.length
theorem isW_len {s : List UInt8} (h : isW s = true) : s.length ≤ 30 := by
  unfold isW at h
  simp only [Bool.and_eq_true, decide_eq_true_eq] at h
  exact h.2

set_option maxHeartbeats 1600000 in
theorem implMatch_any (n B : Nat) (k : Int) (l : ByteArray) (u : Value) (a : Fr) (s : ByteArray) (w : World) (hS : Sl w B n u a) (hB : B ≤ w.heap.size) (hsz : a.size ≤ 2097152) (hls : l.size ≤ 9223372036854775807) (hss : s.size ≤ 9223372036854775807) :
    Calls Try.prog 13 #[.agg #[.int .i64 k, .string l, u], .string s] w fun e w' => e = .returned (.bool (matchRx k l a s.data.toList)) ∧ Below w.heap.size w w' := by
  have HV := Lib.hid (fun wr (hb : Below w.heap.size w wr) (hz : B ≤ wr.heap.size) => implValid_any n B k l u a wr (hS.mono (hb.mono hB) (Nat.le_refl _)) hz hsz hls)
  have HB0 := Lib.hid ((Below.refl w.heap.size w).alloc (Nat.le_refl _) (.cells #[.int .i64 k, .string l, u] 26))
  have HI := Lib.hid (fun w => implIsWord_any s w (by unfold maxLen; omega))
  cases hv : validRx k l a with
  | true =>
    rw [hv] at HV
    cases hw : isW s.data.toList with
    | true =>
      rw [hw] at HI
      have hz : s.size ≤ 30 := by have := isW_len hw; simpa using this
      have HT := Lib.hid (fun wr (hb : Below w.heap.size w wr) (hz' : B ≤ wr.heap.size) => matcherOf_any s hz n B k l u a wr (hS.mono (hb.mono hB) (Nat.le_refl _)) hz' (valid_ok hv))
      have HR : Hid (matchRx k l a s.data.toList = nodeM s.data.toList k l.data.toList (mts s.data.toList a) 0 s.size) := Lib.hid (by unfold matchRx; rw [hv, hw]; simp)
      clear hS hv hw
      go_enter Try.func13, Try.ntmps13
      go_wp2_with fail
      refine (HV.out _ HB0.out (by simp; omega)).mono ?_
      rintro e w1 ⟨rfl, hb1⟩
      have hb1' : Below (w.heap.size + 1) (w.alloc (.cells #[.int .i64 k, .string l, u] 26)) w1 := by simpa using hb1
      obtain ⟨c0, c1, c2⟩ := box_cells hb1'
      have hz1 := hb1'.size
      rw [World.size_alloc] at hz1
      have HW1 := Lib.hid (HB0.out.trans (hb1'.mono (Nat.le_succ _)))
      clear hb1 hb1'
      go_wp2_with (go_at_call 28; refine (HI.out _).mono ?_; rintro e w' ⟨rfl, rfl⟩)
      refine (HT.out _ HW1.out (by omega)).mono ?_
      rintro e w2 ⟨k2, cap2, J2, S2, rfl, m2, h2, hS2, hb2⟩
      have HW2 := Lib.hid (HW1.out.trans (hb2.mono (by omega)))
      have en := m2.enter
      have HC := Lib.hid (m2.call 0 s.size (Nat.zero_le _) (Nat.le_refl _) w2 h2)
      have HS2 := Lib.hid hS2
      clear m2 h2 hS2 hb2
      go_wp2_with (go_at_fn k2; refine HC.out.mono ?_; rintro e w3 ⟨rfl, hJ3, hc3⟩)
      have HW3 := Lib.hid (HW2.out.trans (hc3.old (B := w.heap.size) (fun g hg => Nat.le_trans HW1.out.size ((HS2.out g hg).resolve_left id)) HW2.out.size))
      clear hJ3 hc3
      go_ret
      exact ⟨congrArg (fun b => Ending.returned (.bool b)) HR.out.symm, HW3.out⟩
    | false =>
      rw [hw] at HI
      have HR : Hid (matchRx k l a s.data.toList = false) := Lib.hid (by unfold matchRx; rw [hw]; simp)
      clear hS hv hw
      go_enter Try.func13, Try.ntmps13
      go_wp2_with fail
      refine (HV.out _ HB0.out (by simp; omega)).mono ?_
      rintro e w1 ⟨rfl, hb1⟩
      have HW1 := Lib.hid (HB0.out.trans (hb1.mono (by simp)))
      clear hb1
      go_wp2_with (go_at_call 28; refine (HI.out _).mono ?_; rintro e w' ⟨rfl, rfl⟩)
      go_ret
      exact ⟨congrArg (fun b => Ending.returned (.bool b)) HR.out.symm, HW1.out⟩
  | false =>
    rw [hv] at HV
    have HR : Hid (matchRx k l a s.data.toList = false) := Lib.hid (by unfold matchRx; rw [hv]; simp)
    clear hS hv
    go_enter Try.func13, Try.ntmps13
    go_wp2_with fail
    refine (HV.out _ HB0.out (by simp; omega)).mono ?_
    rintro e w1 ⟨rfl, hb1⟩
    have HW1 := Lib.hid (HB0.out.trans (hb1.mono (by simp)))
    clear hb1
    go_wp2_with fail
    go_ret
    exact ⟨congrArg (fun b => Ending.returned (.bool b)) HR.out.symm, HW1.out⟩

theorem implNullable_any (n B : Nat) (k : Int) (l : ByteArray) (u : Value) (a : Fr) (w : World) (hS : Sl w B n u a) (hB : B ≤ w.heap.size) (hsz : a.size ≤ 2097152) (hls : l.size ≤ 9223372036854775807) :
    Calls Try.prog 12 #[.agg #[.int .i64 k, .string l, u]] w fun e w' => e = .returned (.bool (matchRx k l a [])) ∧ Below w.heap.size w w' := by
  have HV := Lib.hid (fun wr (hb : Below w.heap.size w wr) (hz : B ≤ wr.heap.size) => implMatch_any n B k l u a ⟨#[]⟩ wr (hS.mono (hb.mono hB) (Nat.le_refl _)) hz hsz hls (by decide))
  have HB0 := Lib.hid ((Below.refl w.heap.size w).alloc (Nat.le_refl _) (.cells #[.int .i64 k, .string l, u] 26))
  clear hS
  go_enter Try.func12, Try.ntmps12
  go_wp2_with fail
  refine (HV.out _ HB0.out (by simp; omega)).mono ?_
  rintro e w1 ⟨rfl, hb1⟩
  have HW1 := Lib.hid (HB0.out.trans (hb1.mono (by simp)))
  clear hb1
  go_wp2_with fail
  go_ret
  exact ⟨rfl, HW1.out⟩
end Go.Proofs.Ytichpiklgkahbaa
