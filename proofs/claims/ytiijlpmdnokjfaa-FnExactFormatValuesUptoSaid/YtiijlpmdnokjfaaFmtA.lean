/-
  What spec.FormatValues and impl.FormatValues answer where values and names are of at most 2^20 values and letters: the same text.
-/
import Derived.Test.YtiijlpmdnokjfaaFmtS
import Derived.Test.YtiijlpmdnokjfaaFmtI
import Derived.Test.YtiijlpmdnokjfaaTrmM
namespace Go.Proofs.Ytiijlpmdnokjfaa
open Go.RowKit

theorem fmt_fits (x y z s : ByteArray) (h : x.size + y.size + z.size + s.size + 5 ≤ 1048576) : (Lib.join (partsV x y z (varsL s.data.toList)) [32]).length ≤ 1048576 ∧ Lib.lens (partsV x y z (varsL s.data.toList)) ≤ 1048576 := by
  obtain ⟨h1, h2, h3, h4⟩ := fmt_len x y z s.data.toList
  have e : s.data.toList.length = s.size := by simp
  omega
theorem fmtS_at (x y z s : ByteArray) (V : World) (h : x.size + y.size + z.size + s.size + 5 ≤ 1048576) :
    Calls Try.prog 31 #[.agg #[.string x, .string y, .string z], .string s] V (JoinPost (Lib.join (partsV x y z (varsL s.data.toList)) [32]) V) := by
  obtain ⟨h1, h2⟩ := fmt_fits x y z s h
  have k := specFmt_any x y z s V (by unfold maxLen; omega) (by omega) (by omega) (by omega) h2
  rw [joined_yes h1] at k
  exact k
theorem fmtI_at (x y z s : ByteArray) (V : World) (h : x.size + y.size + z.size + s.size + 5 ≤ 1048576) :
    Calls Try.prog 30 #[.agg #[.string x, .string y, .string z], .string s] V (JoinPost (Lib.join (partsV x y z (varsL s.data.toList)) [32]) V) :=
  implFmt_any x y z s V (by omega) (by omega) (by omega) (fmt_fits x y z s h).1
end Go.Proofs.Ytiijlpmdnokjfaa
