/-
  What spec.CompareWords and impl.CompareWords answer at every two strings: shorter first, then byte by byte; the world is as it was.
-/
import Derived.Test.YtfbhggohnepadaaStrBase
import Derived.Test.YtfbhggohnepadaaShelf
import Derived.Test.YtfbhggohnepadaaWords
namespace Go.Proofs.Ytfbhggohnepadaa
open Go.RowKit

theorem compare_lessB : ∀ a b : List UInt8, Lib.compareBytes a b = if lessB a b then -1 else if lessB b a then 1 else 0
  | [], [] => rfl
  | [], _ :: _ => rfl
  | _ :: _, [] => rfl
  | a :: r, b :: s => by
    unfold Lib.compareBytes lessB
    rw [compare_lessB r s]
    by_cases h1 : a.toNat < b.toNat
    · simp [UInt8.lt_iff_toNat_lt, h1]
    · by_cases h2 : b.toNat < a.toNat
      · simp [UInt8.lt_iff_toNat_lt, h1, h2]
      · simp [UInt8.lt_iff_toNat_lt, h1, h2]
theorem cmpW_lt {a b : List UInt8} (h : a.length < b.length) : cmpW a b = -1 := by unfold cmpW; rw [if_pos h]
theorem cmpW_gt {a b : List UInt8} (h : b.length < a.length) : cmpW a b = 1 := by unfold cmpW; rw [if_neg (by omega), if_pos h]
theorem cmpW_same {a b : List UInt8} (h : a.length = b.length) : cmpW a b = if lessB a b then -1 else if lessB b a then 1 else 0 := by unfold cmpW; rw [if_neg (by omega), if_neg (by omega)]

theorem int_ret {a b : Int} (h : b = a) : Ending.returned (.int .i64 a) = Ending.returned (.int .i64 b) := by rw [h]

set_option maxHeartbeats 400000 in
theorem implCmp_any (a b : ByteArray) (w : World) :
    Calls Try.prog 15 #[.string a, .string b] w fun e w' => e = .returned (.int .i64 (cmpW a.data.toList b.data.toList)) ∧ w = w' := by
  have la : a.data.toList.length = a.size := by simp
  have lb : b.data.toList.length = b.size := by simp
  have LA := Lib.hid la
  have LB := Lib.hid lb
  clear la lb
  by_cases hs : a.size = b.size
  · have HC := Lib.hid ((cmpW_same (LA.out.trans (hs.trans LB.out.symm))).trans (compare_lessB _ _).symm)
    have e1 : ((a.size : Int) == (b.size : Int)) = true := by simp [hs]
    have e2 : ((a.size : Int) != (b.size : Int)) = false := by simp [hs]
    clear hs
    go_enter Try.func15, Try.ntmps15
    go_wp2_with (go_at_call 35; refine (Try.strings_Compare _ _ _).mono ?_; rintro e w' ⟨rfl, rfl⟩)
    go_ret
    exact ⟨int_ret HC.out, rfl⟩
  · have HC : Hid (cmpW a.data.toList b.data.toList = Lib.compareInt a.size b.size) := by
      refine Lib.hid ?_
      unfold Lib.compareInt
      by_cases hlt : a.size < b.size
      · rw [cmpW_lt (by rw [LA.out, LB.out]; exact hlt), if_pos (by omega)]
      · rw [cmpW_gt (by rw [LA.out, LB.out]; omega), if_neg (by omega), if_pos (by omega)]
    have e1 : ((a.size : Int) == (b.size : Int)) = false := by simp; omega
    have e2 : ((a.size : Int) != (b.size : Int)) = true := by simp; omega
    clear hs
    go_enter Try.func15, Try.ntmps15
    go_wp2_with (go_at_call 34; refine (Try.cmp_Compare_int _ _ _).mono ?_; rintro e w' ⟨rfl, rfl⟩)
    go_ret
    exact ⟨int_ret HC.out, rfl⟩

set_option maxHeartbeats 400000 in
theorem specCmp_any (a b : ByteArray) (w : World) :
    Calls Try.prog 20 #[.string a, .string b] w fun e w' => e = .returned (.int .i64 (cmpW a.data.toList b.data.toList)) ∧ w = w' := by
  have la : a.data.toList.length = a.size := by simp
  have lb : b.data.toList.length = b.size := by simp
  have LA := Lib.hid la
  have LB := Lib.hid lb
  clear la lb
  by_cases hs : a.size = b.size
  · have HC := Lib.hid (cmpW_same (LA.out.trans (hs.trans LB.out.symm)))
    have e1 : decide ((a.size : Int) < (b.size : Int)) = false := by simp; omega
    have e2 : decide ((b.size : Int) < (a.size : Int)) = false := by simp; omega
    have e3 : decide (a.size < b.size) = false := by simp; omega
    have e4 : decide (b.size < a.size) = false := by simp; omega
    have L1 : Op.bytesLess a.toList b.toList = lessB a.data.toList b.data.toList := by rw [ByteArray.toList_eq, ByteArray.toList_eq]; exact less_eq _ _
    have L2 : Op.bytesLess b.toList a.toList = lessB b.data.toList a.data.toList := by rw [ByteArray.toList_eq, ByteArray.toList_eq]; exact less_eq _ _
    cases h1 : lessB a.data.toList b.data.toList with
    | true =>
      rw [h1] at L1
      have HR := Lib.hid (HC.out.trans (by rw [h1]; rfl) : cmpW a.data.toList b.data.toList = -1)
      clear hs L2 h1 HC
      go_enter Try.func20, Try.ntmps20
      go_wp2
      go_ret
      exact ⟨int_ret HR.out, rfl⟩
    | false =>
      rw [h1] at L1
      cases h2 : lessB b.data.toList a.data.toList with
      | true =>
        rw [h2] at L2
        have HR := Lib.hid (HC.out.trans (by rw [h1, h2]; rfl) : cmpW a.data.toList b.data.toList = 1)
        have hne : (a.toList == b.toList) = false := by
          rw [ByteArray.toList_eq, ByteArray.toList_eq, beq_eq_false_iff_ne]
          intro e
          rw [e] at h1 h2
          rw [h1] at h2
          cases h2
        clear hs h1 h2 HC
        go_enter Try.func20, Try.ntmps20
        go_wp2
        go_ret
        exact ⟨int_ret HR.out, rfl⟩
      | false =>
        rw [h2] at L2
        have HR := Lib.hid (HC.out.trans (by rw [h1, h2]; rfl) : cmpW a.data.toList b.data.toList = 0)
        have he : (a.toList == b.toList) = true := by
          rw [ByteArray.toList_eq, ByteArray.toList_eq, beq_iff_eq]
          exact lessB_total _ _ h1 h2
        clear hs h1 h2 HC
        go_enter Try.func20, Try.ntmps20
        go_wp2
        go_ret
        exact ⟨int_ret HR.out, rfl⟩
  · by_cases hlt : a.size < b.size
    · have HR := Lib.hid (cmpW_lt (a := a.data.toList) (b := b.data.toList) (by rw [LA.out, LB.out]; exact hlt))
      clear hs
      go_enter Try.func20, Try.ntmps20
      go_wp2
      go_ret
      exact ⟨int_ret HR.out, rfl⟩
    · have hgt : b.size < a.size := by omega
      have HR := Lib.hid (cmpW_gt (a := a.data.toList) (b := b.data.toList) (by rw [LA.out, LB.out]; exact hgt))
      clear hs
      go_enter Try.func20, Try.ntmps20
      go_wp2
      go_ret
      exact ⟨int_ret HR.out, rfl⟩
end Go.Proofs.Ytfbhggohnepadaa
