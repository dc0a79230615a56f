/-
  laws.FnExactNextWord answers true at every string; behind the call nothing that was there has turned.
-/
import Derived.Test.YtfbhggohnepadaaNextImpl
namespace Go.Proofs.Ytfbhggohnepadaa
open Go.RowKit

theorem strPost_below {l : List UInt8} {w w' : World} {e : Ending} (h : StrPost l w e w') : e = .returned (.string ⟨l.toArray⟩) ∧ Below w.heap.size w w' := by
  obtain ⟨he, m, rfl⟩ := h
  exact ⟨he, ⟨rfl, rfl, rfl, Nat.le_refl _, fun _ _ => rfl⟩⟩

theorem lawNext_any (s : ByteArray) (w : World) (hs : s.size ≤ maxLen) :
    Calls Try.prog 9 #[.string s] w fun e w' => e = .returned (.bool true) ∧ Below w.heap.size w w' := by
  have HS := Lib.hid (fun w => specNext_any s w hs)
  have HI := Lib.hid (fun w => implNext_any s w hs)
  clear hs
  by_cases hz : 1048576 < s.size
  · go_enter Try.func9, Try.ntmps9
    go_wp2
    go_ret
    exact ⟨rfl, Below.refl _ _⟩
  · obtain ⟨x, hx⟩ : ∃ x : ByteArray, x = ⟨(nextW s.data.toList).toArray⟩ := ⟨_, rfl⟩
    have HX := Lib.hid hx
    clear hx
    go_enter Try.func9, Try.ntmps9
    go_wp2_with fail
    refine (HS.out _).mono ?_
    intro e w1 hp
    obtain ⟨rfl, hb1⟩ := strPost_below hp
    have B1 := Lib.hid hb1
    clear hp hb1
    rw [← HX.out]
    go_wp2_with fail
    refine (HI.out _).mono ?_
    rintro e w2 ⟨rfl, hb2⟩
    have B2 := Lib.hid (B1.out.trans (hb2.mono B1.out.size))
    clear hb2
    rw [← HX.out]
    go_wp2_with fail
    go_ret
    exact ⟨rfl, B2.out⟩
end Go.Proofs.Ytfbhggohnepadaa
