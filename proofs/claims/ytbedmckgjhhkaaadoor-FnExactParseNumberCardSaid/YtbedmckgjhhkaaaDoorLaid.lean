/-
  From the row's condition on the listed variables to what the walks ask of the world.
-/
import Derived.Test.YtbedmckgjhhkaaaDoorImplParse
import Derived.Test.YtbedmckgjhhkaaaDoorRow
import Derived.LaidSub
namespace Go.Proofs.YtbedmckgjhhkaaaDoor
open Go.RowKit

theorem pow10_of_listed {l : List (String × DataW Unit)} {W : World} 
    (hf : (l.filter fun x => x.1 == "internal/strconv.uint64pow10") = [("internal/strconv.uint64pow10", Rows.laid_internal_strconv_uint64pow10)])
    (h : laidMet Tryd.prog l W) : Pow10 W := by
  have h1 := h.filter fun x => x.1 == "internal/strconv.uint64pow10"
  rw [hf] at h1
  exact Lib.tabIs_of_head (t := 65) (e := 52) (n := 20) gPow10 (by kernel_rfl) Tryd.underlying65 Tryd.underlying52 (by kernel_rfl) (by kernel_rfl) h1

theorem errStar : "*" ++ "errors.errorString" = "*errors.errorString" := by decide
theorem errRow (u : TypeId) (h : Tryd.prog.typeName? 3 u = some "*errors.errorString") : u = 78 :=
  typeName_ptr_named (nm := "errors.errorString") (by rw [errStar]; kernel_rfl) (by kernel_rfl) (by decide) u (by rw [errStar]; exact h)

theorem laid5_of_laid {l : List (String × DataW Unit)} {W : World} (hp : (l.all fun x => x.2.handleName?.isNone) = true)
    (hf : (l.filter fun x => x.1 == "internal/strconv.uint64pow10") = [("internal/strconv.uint64pow10", Rows.laid_internal_strconv_uint64pow10)])
    (hs : (l.filter fun x => x.1 == "strconv.ErrSyntax") = [("strconv.ErrSyntax", Rows.laid_strconv_ErrSyntax)])
    (hr : (l.filter fun x => x.1 == "strconv.ErrRange") = [("strconv.ErrRange", Rows.laid_strconv_ErrRange)])
    (h : laidMetH Tryd.prog l W) : Laid5 W := by
  rw [MakeChecks.laidMetH_plain _ _ _ hp] at h
  have h1 := h.filter fun x => x.1 == "strconv.ErrSyntax"
  have h2 := h.filter fun x => x.1 == "strconv.ErrRange"
  rw [hs] at h1
  rw [hr] at h2
  obtain ⟨a1, s1, v1, _⟩ := laid_sentinel h1 gSyn (by kernel_rfl) Tryd.underlying45 errRow Tryd.underlying78 Tryd.underlying80 rfl rfl Tryd.underlying9 (by kernel_rfl) (by kernel_rfl)
  obtain ⟨a2, s2, v2, _⟩ := laid_sentinel h2 gRng (by kernel_rfl) Tryd.underlying45 errRow Tryd.underlying78 Tryd.underlying80 rfl rfl Tryd.underlying9 (by kernel_rfl) (by kernel_rfl)
  exact ⟨pow10_of_listed hf h, ⟨_, _, v1⟩, _, _, v2⟩
end Go.Proofs.YtbedmckgjhhkaaaDoor
