/-
  What the laws' own helpers answer over values: szValues, toValues, eqValues; values that come in as an argument.
-/
import Derived.Test.YtiijlpmdnokjfaaValS
import Derived.Test.YtiijlpmdnokjfaaRows
import Derived.WalkKit
import Derived.ChangeSame
import Derived.Lib.SmallJoins
namespace Go.Proofs.Ytiijlpmdnokjfaa
open Go.ChangeShapes Go.WideShapes Go.RowKit

set_option maxRecDepth 100000 in
theorem szVal_no (x y z : ByteArray) (w : World) (hx : x.size ≤ maxLen) (hy : y.size ≤ maxLen) (hz : z.size ≤ maxLen) (h : ¬ x.size + y.size + z.size ≤ 1048576) :
    Calls Try.prog 34 #[.agg #[.string x, .string y, .string z], .int .i64 1048576] w fun e w' => e = .returned (.int .i64 (-1)) ∧ Below w.heap.size w w' := by
  unfold maxLen at hx hy hz
  have hb := Lib.hid ((Below.refl w.heap.size w).alloc (Nat.le_refl _) (.cells #[.string x, .string y, .string z] 43))
  by_cases h0 : x.size ≤ 1048576
  · by_cases h1 : x.size + y.size ≤ 1048576
    · go_enter Try.func34, Try.ntmps34
      go_wp2
      go_ret
      exact ⟨rfl, hb.out⟩
    · go_enter Try.func34, Try.ntmps34
      go_wp2
      go_ret
      exact ⟨rfl, hb.out⟩
  · go_enter Try.func34, Try.ntmps34
    go_wp2
    go_ret
    exact ⟨rfl, hb.out⟩
set_option maxRecDepth 100000 in
theorem szVal_yes (x y z : ByteArray) (w : World) (h : x.size + y.size + z.size ≤ 1048576) :
    Calls Try.prog 34 #[.agg #[.string x, .string y, .string z], .int .i64 1048576] w fun e w' => (∃ n : Int, e = .returned (.int .i64 n) ∧ 0 ≤ n) ∧ Below w.heap.size w w' := by
  have hb := Lib.hid ((Below.refl w.heap.size w).alloc (Nat.le_refl _) (.cells #[.string x, .string y, .string z] 43))
  go_enter Try.func34, Try.ntmps34
  go_wp2
  go_ret
  exact ⟨⟨_, rfl, by omega⟩, hb.out⟩
theorem thirdAt (w : World) (o1 o2 o3 : Obj) : (((w.alloc o1).alloc o2).alloc o3).heap[w.heap.size + 1]? = some o2 := (Below.heap_alloc _ _ _ (by simp)).trans (newAt w o1 o2)
set_option maxRecDepth 100000 in
theorem toVal_any (x y z : ByteArray) (w : World) :
    Calls Try.prog 35 #[.agg #[.string x, .string y, .string z]] w fun e w' => e = .returned (.agg #[.string x, .string y, .string z]) ∧ Below w.heap.size w w' := by
  have hb : ∀ o1 o2 o3, Below w.heap.size w (((w.alloc o1).alloc o2).alloc o3) := fun o1 o2 o3 => (((Below.refl w.heap.size w).alloc (Nat.le_refl _) o1).alloc (by simp) o2).alloc (by simp; omega) o3
  have hb := Lib.hid hb
  have c0 := fun (o o3 : Obj) (a b c : ByteArray) => cell_of_row _ (w.heap.size + 1) 0 _ _ (0, 0) (thirdAt w o (.cells #[.string a, .string b, .string c] 25) o3)
  have c1 := fun (o o3 : Obj) (a b c : ByteArray) => cell_of_row _ (w.heap.size + 1) 1 _ _ (0, 0) (thirdAt w o (.cells #[.string a, .string b, .string c] 25) o3)
  have c2 := fun (o o3 : Obj) (a b c : ByteArray) => cell_of_row _ (w.heap.size + 1) 2 _ _ (0, 0) (thirdAt w o (.cells #[.string a, .string b, .string c] 25) o3)
  have CC := Lib.hid (And.intro c0 (And.intro c1 c2))
  clear c0 c1 c2
  go_enter Try.func35, Try.ntmps35
  go_wp2
  refine bodyPost_ret (v := .agg #[.string x, .string y, .string z]) (by simp [results, Try.results35, go_sem, CC.out]) rfl ⟨rfl, hb.out _ _ _⟩
set_option maxRecDepth 100000 in
theorem eqVal_same (x y z : ByteArray) (w : World) :
    Calls Try.prog 38 #[.agg #[.string x, .string y, .string z], .agg #[.string x, .string y, .string z]] w fun e w' => e = .returned (.bool true) ∧ Below w.heap.size w w' := by
  have hb : ∀ o o', Below w.heap.size w ((w.alloc o).alloc o') := fun o o' => ((Below.refl w.heap.size w).alloc (Nat.le_refl _) o).alloc (by simp) o'
  have hb := Lib.hid hb
  go_enter Try.func38, Try.ntmps38
  go_wp2
  go_ret
  exact ⟨rfl, hb.out _ _⟩
section
variable {H : Type} {enc : TypeId × Value → H} {w : World}
set_option maxRecDepth 100000 in
/-- Values handed in. -/
theorem open_vals {r : Reach} {b0 : Nat} {v : Value} {d : DataW H} {p : List MemPlace} (hv : Value.okWide Try.prog w r b0 43 v) (h : DataW.Trod enc Try.prog w 0 (fun _ => true) true 43 v d p) :
    ∃ x y z : ByteArray, v = .agg #[.string x, .string y, .string z] ∧ d = .agg [.lit (.string x.data.toList), .lit (.string y.data.toList), .lit (.string z.data.toList)] ∧ x.size ≤ maxLen ∧ y.size ≤ maxLen ∧ z.size ≤ maxLen := by
  obtain ⟨v0, v1, v2, y0, y1, y2, n, rfl, rfl, rfl, h0, h1, h2⟩ := Go.Joins.open_agg3 Try.underlying43 (by kernel_rfl) (by kernel_rfl) hv h
  obtain ⟨x, e0, f0, hx⟩ := DataW.trod_string Try.underlying9 h0
  obtain ⟨y, e1, f1, hy⟩ := DataW.trod_string Try.underlying9 h1
  obtain ⟨z, e2, f2, hz⟩ := DataW.trod_string Try.underlying9 h2
  simp at e0 e1 e2
  subst e0 e1 e2 f0 f1 f2
  exact ⟨x, y, z, rfl, rfl, hx, hy, hz⟩
end
end Go.Proofs.Ytiijlpmdnokjfaa
