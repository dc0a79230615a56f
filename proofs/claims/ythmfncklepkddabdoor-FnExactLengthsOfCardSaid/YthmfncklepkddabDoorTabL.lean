/-
  From the row's condition on the listed variable to what the walks ask of the world.
-/
import Derived.Test.YthmfncklepkddabDoorSetI
import Derived.Test.YthmfncklepkddabDoorRows
import Derived.Lib.LaidTab
import Derived.LaidSub
namespace Go.Proofs.YthmfncklepkddabDoor
open Go.RowKit

theorem gTab : Tryd.prog.globalNamed "math/bits.deBruijn64tab" = some 0 := by kernel_rfl
theorem tab_of_laid {l : List (String × DataW Unit)} {W : World} (hp : (l.all fun x => x.2.handleName?.isNone) = true)
    (hf : (l.filter fun x => x.1 == "math/bits.deBruijn64tab") = [("math/bits.deBruijn64tab", Rows.laid_math_bits_deBruijn64tab)])
    (h : laidMetH Tryd.prog l W) : Tab W := by
  rw [MakeChecks.laidMetH_plain _ _ _ hp] at h
  have h1 := h.filter fun x => x.1 == "math/bits.deBruijn64tab"
  rw [hf] at h1
  have h2 : Lib.TabIs Tryd.prog W "math/bits.deBruijn64tab" .u8 (Lib.deBruijn64tab.map fun x : Nat => (x : Int)) :=
    Lib.tabIs_of_head (t := 61) (e := 5) (n := 64) gTab (by kernel_rfl) Tryd.underlying61 Tryd.underlying5 (by kernel_rfl) (by kernel_rfl) h1
  intro j hj
  have h3 := Lib.TabIs.cell h2 gTab j (by rw [List.length_map]; exact hj)
  rw [h3]
  simp [List.getD_eq_getElem?_getD, hj]
theorem catR_wt {a b y : Dx} {ok : Bool} (h : catR a b y ok) : wtD y ≤ 1048576 := by
  unfold catR at h
  split at h
  · exact srchR_wt h
  · rw [h.1]; decide
theorem starR_wt {d y : Dx} {ok : Bool} (h : starR d y ok) : wtD y ≤ 1048576 := by
  unfold starR at h
  split at h
  · exact srchR_wt h
  · rw [h.1]; decide
end Go.Proofs.YthmfncklepkddabDoor
