/-
  What spec.FormatRegex answers: the representation of a valid expression, the empty string for others.
-/
import Derived.Test.YtfhghgbiemjddaaTextS
namespace Go.Proofs.Ytfhghgbiemjddaa
open Go.RowKit

def formatRx (k : Int) (l : ByteArray) (a : Fr) : List UInt8 := if validRx k l a then nodeTxt k l (texts a) else []
theorem valid_ok {k : Int} {l : ByteArray} {a : Fr} (h : validRx k l a = true) : (allRow a && nodeOk k l a.items.length) = true := by
  unfold validRx at h
  rw [Bool.and_eq_true] at h
  exact h.2

set_option maxHeartbeats 800000 in
theorem specFormat_any (n B : Nat) (k : Int) (l : ByteArray) (u : Value) (a : Fr) (w : World) (hS : Sl w B n u a) (hB : B ≤ w.heap.size) (hsz : a.size ≤ 2097152) (hls : l.size ≤ 9223372036854775807) :
    Calls Try.prog 12 #[.agg #[.int .i64 k, .string l, u]] w fun e w' => e = .returned (.string ⟨(formatRx k l a).toArray⟩) ∧ Below w.heap.size w w' := by
  have HV := Lib.hid (fun wr (hb : Below w.heap.size w wr) (hz : B ≤ wr.heap.size) => specValid_any n B k l u a wr (hS.mono (hb.mono hB) (Nat.le_refl _)) hz hsz hls)
  have HB0 := Lib.hid ((Below.refl w.heap.size w).alloc (Nat.le_refl _) (.cells #[.int .i64 k, .string l, u] 26))
  cases hv : validRx k l a with
  | true =>
    have HT := Lib.hid (fun wr (hb : Below w.heap.size w wr) (hz : B ≤ wr.heap.size) => specText_any n B k l u a wr (hS.mono (hb.mono hB) (Nat.le_refl _)) hz hsz (valid_ok hv))
    rw [hv] at HV
    have HR : Hid (formatRx k l a = nodeTxt k l (texts a)) := Lib.hid (by unfold formatRx; rw [if_pos hv])
    clear hS hv
    go_enter Try.func12, Try.ntmps12
    go_wp2_with fail
    refine (HV.out _ HB0.out (by simp; omega)).mono ?_
    rintro e w1 ⟨rfl, hb1⟩
    have hb1' : Below (w.heap.size + 1) (w.alloc (.cells #[.int .i64 k, .string l, u] 26)) w1 := by simpa using hb1
    obtain ⟨c0, c1, c2⟩ := box_cells hb1'
    have hz1 := hb1'.size
    rw [World.size_alloc] at hz1
    have HW1 := Lib.hid (HB0.out.trans (hb1'.mono (Nat.le_succ _)))
    clear hb1 hb1'
    go_wp2_with fail
    refine (HT.out _ HW1.out (by omega)).mono ?_
    rintro e w2 ⟨rfl, hb2⟩
    have HW2 := Lib.hid (HW1.out.trans (hb2.mono (by omega)))
    clear hb2
    go_wp2_with fail
    go_ret
    exact ⟨congrArg (fun s : List UInt8 => Ending.returned (.string ⟨s.toArray⟩)) HR.out.symm, HW2.out⟩
  | false =>
    rw [hv] at HV
    have HR : Hid (formatRx k l a = []) := Lib.hid (by unfold formatRx; rw [if_neg (by rw [hv]; decide)])
    clear hS hv
    go_enter Try.func12, Try.ntmps12
    go_wp2_with fail
    refine (HV.out _ HB0.out (by simp; omega)).mono ?_
    rintro e w1 ⟨rfl, hb1⟩
    have HW1 := Lib.hid (HB0.out.trans (hb1.mono (by simp)))
    clear hb1
    go_wp2_with fail
    go_ret
    exact ⟨congrArg (fun s : List UInt8 => Ending.returned (.string ⟨s.toArray⟩)) HR.out.symm, HW1.out⟩
end Go.Proofs.Ytfhghgbiemjddaa
