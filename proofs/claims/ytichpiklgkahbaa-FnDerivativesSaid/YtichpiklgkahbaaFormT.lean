/-
  What an assertion finds at each of the nine forms.
-/
import Derived.Test.YtichpiklgkahbaaFormI
namespace Go.Proofs.Ytichpiklgkahbaa
open Go.RowKit

theorem no_noneForm (t : TypeId) (v : Value) (w : World) (h : t ≠ 114) : (Instr.typeAssert (.iface t v) 67 114 true).run Try.prog w = .ok (.tuple #[.agg #[], .bool false]) w := by
  simp [Instr.typeAssert, run_underlying Try.underlying114, h, go_sem, Result.andThen, Try.zeroValue114]
theorem yes_noneForm (v : Value) (w : World) : (Instr.typeAssert (.iface 114 v) 67 114 true).run Try.prog w = .ok (.tuple #[v, .bool true]) w := by
  simp [Instr.typeAssert, run_underlying Try.underlying114, go_sem, Result.andThen]
theorem no_emptyForm (t : TypeId) (v : Value) (w : World) (h : t ≠ 90) : (Instr.typeAssert (.iface t v) 67 90 true).run Try.prog w = .ok (.tuple #[.agg #[], .bool false]) w := by
  simp [Instr.typeAssert, run_underlying Try.underlying90, h, go_sem, Result.andThen, Try.zeroValue90]
theorem yes_emptyForm (v : Value) (w : World) : (Instr.typeAssert (.iface 90 v) 67 90 true).run Try.prog w = .ok (.tuple #[v, .bool true]) w := by
  simp [Instr.typeAssert, run_underlying Try.underlying90, go_sem, Result.andThen]
theorem no_letterForm (t : TypeId) (v : Value) (w : World) (h : t ≠ 72) : (Instr.typeAssert (.iface t v) 67 72 true).run Try.prog w = .ok (.tuple #[.agg #[.string ⟨#[]⟩], .bool false]) w := by
  simp [Instr.typeAssert, run_underlying Try.underlying72, h, go_sem, Result.andThen, Try.zeroValue72]
theorem yes_letterForm (v : Value) (w : World) : (Instr.typeAssert (.iface 72 v) 67 72 true).run Try.prog w = .ok (.tuple #[v, .bool true]) w := by
  simp [Instr.typeAssert, run_underlying Try.underlying72, go_sem, Result.andThen]
theorem no_anyForm (t : TypeId) (v : Value) (w : World) (h : t ≠ 74) : (Instr.typeAssert (.iface t v) 67 74 true).run Try.prog w = .ok (.tuple #[.agg #[], .bool false]) w := by
  simp [Instr.typeAssert, run_underlying Try.underlying74, h, go_sem, Result.andThen, Try.zeroValue74]
theorem yes_anyForm (v : Value) (w : World) : (Instr.typeAssert (.iface 74 v) 67 74 true).run Try.prog w = .ok (.tuple #[v, .bool true]) w := by
  simp [Instr.typeAssert, run_underlying Try.underlying74, go_sem, Result.andThen]
theorem no_catForm (t : TypeId) (v : Value) (w : World) (h : t ≠ 88) : (Instr.typeAssert (.iface t v) 67 88 true).run Try.prog w = .ok (.tuple #[.agg #[.int .i64 0, .string ⟨#[]⟩, .slice none 0 0, .int .i64 0, .string ⟨#[]⟩, .slice none 0 0], .bool false]) w := by
  simp [Instr.typeAssert, run_underlying Try.underlying88, h, go_sem, Result.andThen, Try.zeroValue88]
theorem yes_catForm (v : Value) (w : World) : (Instr.typeAssert (.iface 88 v) 67 88 true).run Try.prog w = .ok (.tuple #[v, .bool true]) w := by
  simp [Instr.typeAssert, run_underlying Try.underlying88, go_sem, Result.andThen]
theorem no_orForm (t : TypeId) (v : Value) (w : World) (h : t ≠ 78) : (Instr.typeAssert (.iface t v) 67 78 true).run Try.prog w = .ok (.tuple #[.agg #[.int .i64 0, .string ⟨#[]⟩, .slice none 0 0, .int .i64 0, .string ⟨#[]⟩, .slice none 0 0], .bool false]) w := by
  simp [Instr.typeAssert, run_underlying Try.underlying78, h, go_sem, Result.andThen, Try.zeroValue78]
theorem yes_orForm (v : Value) (w : World) : (Instr.typeAssert (.iface 78 v) 67 78 true).run Try.prog w = .ok (.tuple #[v, .bool true]) w := by
  simp [Instr.typeAssert, run_underlying Try.underlying78, go_sem, Result.andThen]
theorem no_andForm (t : TypeId) (v : Value) (w : World) (h : t ≠ 79) : (Instr.typeAssert (.iface t v) 67 79 true).run Try.prog w = .ok (.tuple #[.agg #[.int .i64 0, .string ⟨#[]⟩, .slice none 0 0, .int .i64 0, .string ⟨#[]⟩, .slice none 0 0], .bool false]) w := by
  simp [Instr.typeAssert, run_underlying Try.underlying79, h, go_sem, Result.andThen, Try.zeroValue79]
theorem yes_andForm (v : Value) (w : World) : (Instr.typeAssert (.iface 79 v) 67 79 true).run Try.prog w = .ok (.tuple #[v, .bool true]) w := by
  simp [Instr.typeAssert, run_underlying Try.underlying79, go_sem, Result.andThen]
theorem no_starForm (t : TypeId) (v : Value) (w : World) (h : t ≠ 86) : (Instr.typeAssert (.iface t v) 67 86 true).run Try.prog w = .ok (.tuple #[.agg #[.int .i64 0, .string ⟨#[]⟩, .slice none 0 0], .bool false]) w := by
  simp [Instr.typeAssert, run_underlying Try.underlying86, h, go_sem, Result.andThen, Try.zeroValue86]
theorem yes_starForm (v : Value) (w : World) : (Instr.typeAssert (.iface 86 v) 67 86 true).run Try.prog w = .ok (.tuple #[v, .bool true]) w := by
  simp [Instr.typeAssert, run_underlying Try.underlying86, go_sem, Result.andThen]
theorem no_notForm (t : TypeId) (v : Value) (w : World) (h : t ≠ 83) : (Instr.typeAssert (.iface t v) 67 83 true).run Try.prog w = .ok (.tuple #[.agg #[.int .i64 0, .string ⟨#[]⟩, .slice none 0 0], .bool false]) w := by
  simp [Instr.typeAssert, run_underlying Try.underlying83, h, go_sem, Result.andThen, Try.zeroValue83]
theorem yes_notForm (v : Value) (w : World) : (Instr.typeAssert (.iface 83 v) 67 83 true).run Try.prog w = .ok (.tuple #[v, .bool true]) w := by
  simp [Instr.typeAssert, run_underlying Try.underlying83, go_sem, Result.andThen]
end Go.Proofs.Ytichpiklgkahbaa
