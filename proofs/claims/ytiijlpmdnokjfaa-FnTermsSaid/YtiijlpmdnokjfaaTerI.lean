/-
  What impl.CountByte, impl.VarsOf, impl.IsTerm answer.
-/
import Derived.Test.YtiijlpmdnokjfaaTerM
import Derived.Test.YtiijlpmdnokjfaaShelf
import Derived.Laws.RangeAny
import Derived.Laws.Runes
import Derived.Lib.OthersKept
import Derived.WalkLawsBesides
namespace Go.Proofs.Ytiijlpmdnokjfaa
open Go.RowKit

theorem conv_byte (w : World) (z : Int) (b : UInt8) (hz : z = (b.toNat : Int)) :
    (convert 22 9 (.slice (some ⟨w.heap.size, 0, none⟩) 1 1)).run Try.prog (w.alloc (.cells #[.int .u8 z] 5)) = .ok (.string ⟨#[b]⟩) (w.alloc (.cells #[.int .u8 z] 5)) := by
  subst hz
  exact run_convert_bytes_back (P := Try.prog) (w.alloc (.cells #[.int .u8 (b.toNat : Int)] 5)) 22 9 5 ⟨w.heap.size, 0, none⟩ 1 [b] Try.underlying22 Try.underlying5 Try.underlying9 (by
    intro j hj
    have : j = 0 := by simp at hj; omega
    subst this
    simp [Addr.add])

set_option maxHeartbeats 800000 in
theorem implCnt_any (s : ByteArray) (b : UInt8) (w : World) :
    Calls Try.prog 24 #[.string s, .int .u8 b.toNat] w fun e w' => e = .returned (.int .i64 (cntL s.data.toList b)) ∧ Below w.heap.size w w' := by
  have hcv := conv_byte w b.toNat b rfl
  have HB := Lib.hid ((Below.refl w.heap.size w).alloc (Nat.le_refl _) (.cells #[.int .u8 b.toNat] 5))
  have HC := Lib.hid (fun w => Try.strings_Count_one s b w)
  go_enter Try.func24, Try.ntmps24
  go_wp2_with (first | rw [hcv] | (go_at_call 54; refine (HC.out _).mono ?_; rintro e w' ⟨rfl, rfl⟩))
  go_ret
  exact ⟨rfl, HB.out⟩

/-- The iterator over the variables' names, at place k. -/
def xyz : ByteArray := ⟨#[88, 89, 90]⟩

set_option maxRecDepth 100000 in
set_option maxHeartbeats 1600000 in
theorem implVars_any (s : ByteArray) (w : World) :
    Calls Try.prog 18 #[.string s] w fun e w' => e = .returned (.string (strL (varsL s.data.toList))) ∧ Below w.heap.size w w' := by
  obtain ⟨L, hL⟩ : ∃ L, L = s.data.toList := ⟨_, rfl⟩
  have HC : Hid (∀ (b : UInt8) (V : World), b.toNat < 128 → Calls Try.prog 51 #[.string s, .int .i32 b.toNat] V fun e w' => e = .returned (.bool (decide (0 < cntL L b))) ∧ w' = V) :=
    Lib.hid (fun b V hb => (Try.strings_ContainsRune_ascii s b.toNat V (by omega) (by omega)).mono fun e w' ⟨he, hw⟩ => ⟨by rw [he, hL, index_cnt]; simp, hw⟩)
  have HBW : ∀ p, Below w.heap.size w (w.iter xyz p) := fun p => (Below.refl _ _).alloc (Nat.le_refl _) _
  have HB := Lib.hid HBW
  have N0 : Hid (∀ ty, (Instr.next (.pointer (some ⟨w.heap.size, 0, none⟩)) true ty).run Try.prog (w.iter xyz 0) = .ok (.tuple #[.bool true, .int .i64 0, .int .i32 88]) (w.iter xyz 1)) := Lib.hid (fun ty => run_next_ascii (P := Try.prog) w xyz 0 ty (by decide) (by decide))
  have E0 : Utf8.encode 88 = strL [88] := by kernel_rfl
  have C0 : Hid (∀ V : World, Calls Try.prog 51 #[.string s, .int .i32 88] V fun e w' => e = .returned (.bool (decide (0 < cntL L 88))) ∧ w' = V) := Lib.hid (fun V => HC.out 88 V (by decide))
  have N1 : Hid (∀ ty, (Instr.next (.pointer (some ⟨w.heap.size, 0, none⟩)) true ty).run Try.prog (w.iter xyz 1) = .ok (.tuple #[.bool true, .int .i64 1, .int .i32 89]) (w.iter xyz 2)) := Lib.hid (fun ty => run_next_ascii (P := Try.prog) w xyz 1 ty (by decide) (by decide))
  have E1 : Utf8.encode 89 = strL [89] := by kernel_rfl
  have C1 : Hid (∀ V : World, Calls Try.prog 51 #[.string s, .int .i32 89] V fun e w' => e = .returned (.bool (decide (0 < cntL L 89))) ∧ w' = V) := Lib.hid (fun V => HC.out 89 V (by decide))
  have N2 : Hid (∀ ty, (Instr.next (.pointer (some ⟨w.heap.size, 0, none⟩)) true ty).run Try.prog (w.iter xyz 2) = .ok (.tuple #[.bool true, .int .i64 2, .int .i32 90]) (w.iter xyz 3)) := Lib.hid (fun ty => run_next_ascii (P := Try.prog) w xyz 2 ty (by decide) (by decide))
  have E2 : Utf8.encode 90 = strL [90] := by kernel_rfl
  have C2 : Hid (∀ V : World, Calls Try.prog 51 #[.string s, .int .i32 90] V fun e w' => e = .returned (.bool (decide (0 < cntL L 90))) ∧ w' = V) := Lib.hid (fun V => HC.out 90 V (by decide))
  have N3 := Lib.hid (fun ty => run_next_end (P := Try.prog) w xyz 3 ty (by decide))
  rw [← hL]
  clear hL HBW HC
  have ez := fun b : UInt8 => strL_size [b]
  go_enter Try.func18, Try.ntmps18
  go_wp2
  rw [strL_nil]
  rw [show (ByteArray.mk #[88, 89, 90]) = xyz from rfl]
  go_loopw [3] (fun o wr => ∃ k : Nat, k ≤ 3 ∧ (wr = w.iter xyz 0 ∧ k = 0 ∨ wr = w.iter xyz 1 ∧ k = 1 ∨ wr = w.iter xyz 2 ∧ k = 2 ∨ wr = w.iter xyz 3 ∧ k = 3) ∧ o = .string (strL (varsK L k))) (fun _ wr => 3 - wr.iterPos w.heap.size)
  case atStart => exact ⟨0, Nat.zero_le _, Or.inl ⟨rfl, rfl⟩, rfl⟩
  case round =>
    obtain ⟨k, hk, hik, rfl⟩ := hrel
    have hz := strL_size (varsK L k)
    have hz2 := varsK_len L k
    rcases hik with ⟨rfl, rfl⟩ | ⟨rfl, rfl⟩ | ⟨rfl, rfl⟩ | ⟨rfl, rfl⟩
    · by_cases hc : 0 < cntL L 88
      · have HN := Lib.hid (varsK_succ L (k := 0) (b := 88) rfl)
        rw [if_pos hc] at HN
        have hnx := N0.out
        have HCC := C0
        rw [show decide (0 < cntL L 88) = true by simpa using hc] at HCC
        go_wp2_with (first | rw [E0] | rw [E1] | rw [E2] | go_at_call 51; refine (HCC.out _).mono ?_; rintro e w' ⟨rfl, rfl⟩)
        go_roundw
        case rel => exact ⟨1, by omega, by simp, by rw [HN.out]; exact congrArg Value.string (strL_app _ _ (strL_list [88]))⟩
        case measure => simp
      · have HN := Lib.hid (varsK_succ L (k := 0) (b := 88) rfl)
        rw [if_neg hc] at HN
        have hnx := N0.out
        have HCC := C0
        rw [show decide (0 < cntL L 88) = false by simpa using hc] at HCC
        go_wp2_with (first | rw [E0] | rw [E1] | rw [E2] | go_at_call 51; refine (HCC.out _).mono ?_; rintro e w' ⟨rfl, rfl⟩)
        go_roundw
        case rel => exact ⟨1, by omega, by simp, by rw [HN.out]; exact congrArg Value.string (by rw [List.append_nil])⟩
        case measure => simp
    · by_cases hc : 0 < cntL L 89
      · have HN := Lib.hid (varsK_succ L (k := 1) (b := 89) rfl)
        rw [if_pos hc] at HN
        have hnx := N1.out
        have HCC := C1
        rw [show decide (0 < cntL L 89) = true by simpa using hc] at HCC
        go_wp2_with (first | rw [E0] | rw [E1] | rw [E2] | go_at_call 51; refine (HCC.out _).mono ?_; rintro e w' ⟨rfl, rfl⟩)
        go_roundw
        case rel => exact ⟨2, by omega, by simp, by rw [HN.out]; exact congrArg Value.string (strL_app _ _ (strL_list [89]))⟩
        case measure => simp
      · have HN := Lib.hid (varsK_succ L (k := 1) (b := 89) rfl)
        rw [if_neg hc] at HN
        have hnx := N1.out
        have HCC := C1
        rw [show decide (0 < cntL L 89) = false by simpa using hc] at HCC
        go_wp2_with (first | rw [E0] | rw [E1] | rw [E2] | go_at_call 51; refine (HCC.out _).mono ?_; rintro e w' ⟨rfl, rfl⟩)
        go_roundw
        case rel => exact ⟨2, by omega, by simp, by rw [HN.out]; exact congrArg Value.string (by rw [List.append_nil])⟩
        case measure => simp
    · by_cases hc : 0 < cntL L 90
      · have HN := Lib.hid (varsK_succ L (k := 2) (b := 90) rfl)
        rw [if_pos hc] at HN
        have hnx := N2.out
        have HCC := C2
        rw [show decide (0 < cntL L 90) = true by simpa using hc] at HCC
        go_wp2_with (first | rw [E0] | rw [E1] | rw [E2] | go_at_call 51; refine (HCC.out _).mono ?_; rintro e w' ⟨rfl, rfl⟩)
        go_roundw
        case rel => exact ⟨3, by omega, by simp, by rw [HN.out]; exact congrArg Value.string (strL_app _ _ (strL_list [90]))⟩
        case measure => simp
      · have HN := Lib.hid (varsK_succ L (k := 2) (b := 90) rfl)
        rw [if_neg hc] at HN
        have hnx := N2.out
        have HCC := C2
        rw [show decide (0 < cntL L 90) = false by simpa using hc] at HCC
        go_wp2_with (first | rw [E0] | rw [E1] | rw [E2] | go_at_call 51; refine (HCC.out _).mono ?_; rintro e w' ⟨rfl, rfl⟩)
        go_roundw
        case rel => exact ⟨3, by omega, by simp, by rw [HN.out]; exact congrArg Value.string (by rw [List.append_nil])⟩
        case measure => simp
    · have HN := Lib.hid (varsK_end L)
      have hnx := N3.out
      go_wp2
      go_ret
      exact ⟨by rw [HN.out]; rfl, HB.out 3⟩
end Go.Proofs.Ytiijlpmdnokjfaa
