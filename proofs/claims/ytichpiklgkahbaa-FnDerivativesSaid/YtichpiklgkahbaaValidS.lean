/-
  What spec.IsValidRegex answers: whether an expression is valid.
-/
import Derived.Test.YtichpiklgkahbaaDepLeft
import Derived.Test.YtichpiklgkahbaaAllRx
namespace Go.Proofs.Ytichpiklgkahbaa
open Go.RowKit

/-- Whether the node with this kind, letter and parts is a valid expression. -/
def validRx (k : Int) (l : ByteArray) (a : Fr) : Bool := decide (0 ≤ leftRow a 15) && decide (a.depth + 1 ≤ 6) && (allRow a && nodeOk k l a.items.length)

theorem box_cells {w wr : World} {k : Int} {l : ByteArray} {u : Value} {t : TypeId} (hb : Below (w.heap.size + 1) (w.alloc (.cells #[.int .i64 k, .string l, u] t)) wr) :
    wr.cell? ⟨w.heap.size, 0, none⟩ = some (.int .i64 k) ∧ wr.cell? ⟨w.heap.size, 1, none⟩ = some (.string l) ∧ wr.cell? ⟨w.heap.size, 2, none⟩ = some u :=
  ⟨(hb.cell (p := ⟨w.heap.size, 0, none⟩) (Nat.lt_succ_self _)).trans (by simp), (hb.cell (p := ⟨w.heap.size, 1, none⟩) (Nat.lt_succ_self _)).trans (by simp), (hb.cell (p := ⟨w.heap.size, 2, none⟩) (Nat.lt_succ_self _)).trans (by simp)⟩

set_option maxHeartbeats 800000 in
theorem specValid_any (n B : Nat) (k : Int) (l : ByteArray) (u : Value) (a : Fr) (w : World) (hS : Sl w B n u a) (hB : B ≤ w.heap.size) (hsz : a.size ≤ 2097152) (hls : l.size ≤ 9223372036854775807) :
    Calls Try.prog 17 #[.agg #[.int .i64 k, .string l, u]] w fun e w' => e = .returned (.bool (validRx k l a)) ∧ Below w.heap.size w w' := by
  have hL : ∀ wr, Below w.heap.size w wr → B ≤ wr.heap.size → Calls Try.prog 40 #[.agg #[.int .i64 k, .string l, u], .int .i64 16] wr fun e w' => e = .returned (.int .i64 (leftRow a 15)) ∧ Below wr.heap.size wr w' :=
    fun wr hb hz => specLeft_any n B k l u a 16 wr (hS.mono (hb.mono hB) (Nat.le_refl _)) hz (by omega) (by omega)
  have HL := Lib.hid hL
  clear hL
  have HD := Lib.hid (fun wr (hb : Below w.heap.size w wr) (hz : B ≤ wr.heap.size) => specDepth_any n B k l u a wr (hS.mono (hb.mono hB) (Nat.le_refl _)) hz hsz)
  have HA := Lib.hid (fun wr (hb : Below w.heap.size w wr) (hz : B ≤ wr.heap.size) => specAll_any n B k l u a wr (hS.mono (hb.mono hB) (Nat.le_refl _)) hz hls)
  have hdl := depth_le a
  clear hS
  have HB0 := Lib.hid ((Below.refl w.heap.size w).alloc (Nat.le_refl _) (.cells #[.int .i64 k, .string l, u] 26))
  have HV : ∀ b, validRx k l a = b → Hid (validRx k l a = b) := fun b h => Lib.hid h
  by_cases hq : 0 ≤ leftRow a 15
  · by_cases hd : a.depth + 1 ≤ 6
    · have hd2 : (a.depth : Int) + 1 ≤ 6 := by omega
      have HR := HV (allRow a && nodeOk k l a.items.length) (by simp [validRx, hq, hd])
      clear HV hd
      go_enter Try.func17, Try.ntmps17
      go_wp2_with fail
      refine (HL.out _ HB0.out (by simp; omega)).mono ?_
      rintro e w1 ⟨rfl, hb1⟩
      have hb1' : Below (w.heap.size + 1) (w.alloc (.cells #[.int .i64 k, .string l, u] 26)) w1 := by simpa using hb1
      obtain ⟨c0, c1, c2⟩ := box_cells hb1'
      have hz1 := hb1'.size
      rw [World.size_alloc] at hz1
      have HB1 := Lib.hid hb1'
      have HW1 := Lib.hid (HB0.out.trans (hb1'.mono (Nat.le_succ _)))
      clear hb1 hb1'
      go_wp2_with fail
      refine (HD.out _ HW1.out (by omega)).mono ?_
      rintro e w2 ⟨rfl, hb2⟩
      have HB2 := Lib.hid (HB1.out.trans (hb2.mono hz1))
      obtain ⟨d0, d1, d2⟩ := box_cells HB2.out
      have HW2 := Lib.hid (HW1.out.trans (hb2.mono (by omega)))
      have hz2 := hb2.size
      clear hb2 c0 c1 c2
      go_wp2_with fail
      refine (HA.out _ HW2.out (by omega)).mono ?_
      rintro e w3 ⟨rfl, hb3⟩
      have HW3 := Lib.hid (HW2.out.trans (hb3.mono (by omega)))
      clear hb3
      rw [← HR.out]
      go_wp2_with fail
      go_ret
      exact ⟨rfl, HW3.out⟩
    · have hd2 : ¬ ((a.depth : Int) + 1 ≤ 6) := by omega
      have hd3 : decide ((a.depth : Int) + 1 ≤ 6) = false := by simpa using hd2
      have HR := HV false (by simp [validRx, hd])
      clear HV hd hd2
      go_enter Try.func17, Try.ntmps17
      go_wp2_with fail
      refine (HL.out _ HB0.out (by simp; omega)).mono ?_
      rintro e w1 ⟨rfl, hb1⟩
      have hb1' : Below (w.heap.size + 1) (w.alloc (.cells #[.int .i64 k, .string l, u] 26)) w1 := by simpa using hb1
      obtain ⟨c0, c1, c2⟩ := box_cells hb1'
      have hz1 := hb1'.size
      rw [World.size_alloc] at hz1
      have HW1 := Lib.hid (HB0.out.trans (hb1'.mono (Nat.le_succ _)))
      clear hb1 hb1'
      go_wp2_with fail
      refine (HD.out _ HW1.out (by omega)).mono ?_
      rintro e w2 ⟨rfl, hb2⟩
      have HW2 := Lib.hid (HW1.out.trans (hb2.mono (by omega)))
      clear hb2
      go_wp2_with fail
      go_ret
      exact ⟨congrArg (fun z : Bool => Ending.returned (.bool z)) HR.out.symm, HW2.out⟩
  · have hd3 : decide (0 ≤ leftRow a 15) = false := by simpa using hq
    have HR := HV false (by simp [validRx, hq])
    clear HV hq
    go_enter Try.func17, Try.ntmps17
    go_wp2_with fail
    refine (HL.out _ HB0.out (by simp; omega)).mono ?_
    rintro e w1 ⟨rfl, hb1⟩
    have HW1 := Lib.hid (HB0.out.trans (hb1.mono (by simp)))
    clear hb1
    go_wp2_with fail
    go_ret
    exact ⟨congrArg (fun z : Bool => Ending.returned (.bool z)) HR.out.symm, HW1.out⟩
end Go.Proofs.Ytichpiklgkahbaa
