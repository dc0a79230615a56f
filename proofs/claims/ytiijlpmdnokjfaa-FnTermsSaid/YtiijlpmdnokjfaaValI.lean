/-
  What impl.ValueOf, impl.WithValue and impl.IsValues answer.
-/
import Derived.Test.YtiijlpmdnokjfaaValS
import Derived.Test.YtiijlpmdnokjfaaIsWordI
namespace Go.Proofs.Ytiijlpmdnokjfaa
open Go.RowKit

set_option maxRecDepth 100000 in
theorem implVal_any (x y z : ByteArray) (b : UInt8) (w : World) :
    Calls Try.prog 23 #[.agg #[.string x, .string y, .string z], .int .u8 b.toNat] w fun e w' => e = .returned (.string (valB x y z b)) ∧ Below w.heap.size w w' := by
  have hb := Lib.hid ((Below.refl w.heap.size w).alloc (Nat.le_refl _) (.cells #[.string x, .string y, .string z] 25))
  by_cases h0 : b = 88
  · subst h0
    go_enter Try.func23, Try.ntmps23
    go_wp2
    go_ret
    exact ⟨rfl, hb.out⟩
  by_cases h1 : b = 89
  · subst h1
    go_enter Try.func23, Try.ntmps23
    go_wp2
    go_ret
    exact ⟨rfl, hb.out⟩
  by_cases h2 : b = 90
  · subst h2
    go_enter Try.func23, Try.ntmps23
    go_wp2
    go_ret
    exact ⟨rfl, hb.out⟩
  have HE := Lib.hid (show valB x y z b = ⟨#[]⟩ by unfold valB; rw [if_neg h0, if_neg h1, if_neg h2])
  have n0 : ¬ ((b.toNat : Int) = 88) := fun e => h0 (UInt8.toNat_inj.1 (show b.toNat = 88 by omega))
  have n1 : ¬ ((b.toNat : Int) = 89) := fun e => h1 (UInt8.toNat_inj.1 (show b.toNat = 89 by omega))
  have n2 : ¬ ((b.toNat : Int) = 90) := fun e => h2 (UInt8.toNat_inj.1 (show b.toNat = 90 by omega))
  clear h0 h1 h2
  go_enter Try.func23, Try.ntmps23
  go_wp2
  go_ret
  exact ⟨by rw [HE.out]; rfl, hb.out⟩

set_option maxRecDepth 100000 in
theorem implWith_any (x y z s : ByteArray) (b : UInt8) (w : World) :
    Calls Try.prog 27 #[.agg #[.string x, .string y, .string z], .int .u8 b.toNat, .string s] w fun e w' => e = .returned (withV x y z b s) ∧ Below w.heap.size w w' := by
  have hb : ∀ o o', Below w.heap.size w ((w.alloc o).alloc o') := fun o o' => ((Below.refl w.heap.size w).alloc (Nat.le_refl _) o).alloc (by simp) o'
  have hb := Lib.hid hb
  have c0 := fun (o : Obj) (a b c : ByteArray) => cell_of_row _ (w.heap.size + 1) 0 _ _ (0, 0) (newAt w o (.cells #[.string a, .string b, .string c] 25))
  have c1 := fun (o : Obj) (a b c : ByteArray) => cell_of_row _ (w.heap.size + 1) 1 _ _ (0, 0) (newAt w o (.cells #[.string a, .string b, .string c] 25))
  have c2 := fun (o : Obj) (a b c : ByteArray) => cell_of_row _ (w.heap.size + 1) 2 _ _ (0, 0) (newAt w o (.cells #[.string a, .string b, .string c] 25))
  have CC := Lib.hid (And.intro c0 (And.intro c1 c2))
  clear c0 c1 c2
  by_cases h0 : b = 88
  · subst h0
    go_enter Try.func27, Try.ntmps27
    go_wp2
    refine bodyPost_ret (v := .agg #[.string s, .string y, .string z]) (by simp [results, Try.results27, go_sem, CC.out]) rfl ⟨rfl, hb.out _ _⟩
  by_cases h1 : b = 89
  · subst h1
    go_enter Try.func27, Try.ntmps27
    go_wp2
    refine bodyPost_ret (v := .agg #[.string x, .string s, .string z]) (by simp [results, Try.results27, go_sem, CC.out]) rfl ⟨rfl, hb.out _ _⟩
  by_cases h2 : b = 90
  · subst h2
    go_enter Try.func27, Try.ntmps27
    go_wp2
    refine bodyPost_ret (v := .agg #[.string x, .string y, .string s]) (by simp [results, Try.results27, go_sem, CC.out]) rfl ⟨rfl, hb.out _ _⟩
  have HE := Lib.hid (show withV x y z b s = .agg #[.string x, .string y, .string z] by unfold withV; rw [if_neg h0, if_neg h1, if_neg h2])
  have n0 : ¬ ((b.toNat : Int) = 88) := fun e => h0 (UInt8.toNat_inj.1 (show b.toNat = 88 by omega))
  have n1 : ¬ ((b.toNat : Int) = 89) := fun e => h1 (UInt8.toNat_inj.1 (show b.toNat = 89 by omega))
  have n2 : ¬ ((b.toNat : Int) = 90) := fun e => h2 (UInt8.toNat_inj.1 (show b.toNat = 90 by omega))
  clear h0 h1 h2
  go_enter Try.func27, Try.ntmps27
  go_wp2
  refine bodyPost_ret (v := .agg #[.string x, .string y, .string z]) (by simp [results, Try.results27, go_sem, CC.out]) rfl ⟨by rw [HE.out], hb.out _ _⟩

set_option maxRecDepth 100000 in
theorem implIsV_any (x y z : ByteArray) (w : World) (hx : x.size ≤ maxLen) (hy : y.size ≤ maxLen) (hz : z.size ≤ maxLen) :
    Calls Try.prog 36 #[.agg #[.string x, .string y, .string z]] w fun e w' => e = .returned (.bool (isV x y z)) ∧ Below w.heap.size w w' := by
  have hb := Lib.hid ((Below.refl w.heap.size w).alloc (Nat.le_refl _) (.cells #[.string x, .string y, .string z] 25))
  have HX := Lib.hid (fun w => implIsWord_any x w hx)
  have HY := Lib.hid (fun w => implIsWord_any y w hy)
  have HZ := Lib.hid (fun w => implIsWord_any z w hz)
  clear hx hy hz
  unfold isV
  generalize isW x.data.toList = p at *
  generalize isW y.data.toList = q at *
  generalize isW z.data.toList = r at *
  cases p with
  | false =>
    go_enter Try.func36, Try.ntmps36
    go_wp2_with (go_at_call 60; refine (HX.out _).mono ?_; rintro e w' ⟨rfl, rfl⟩)
    go_ret
    exact ⟨rfl, hb.out⟩
  | true =>
    cases q with
    | false =>
      go_enter Try.func36, Try.ntmps36
      go_wp2_with (go_at_call 60; first | (with_reducible refine (HX.out _).mono ?_; rintro e w' ⟨rfl, rfl⟩) | (with_reducible refine (HY.out _).mono ?_; rintro e w' ⟨rfl, rfl⟩))
      go_ret
      exact ⟨rfl, hb.out⟩
    | true =>
      go_enter Try.func36, Try.ntmps36
      go_wp2_with (go_at_call 60; first | (with_reducible refine (HX.out _).mono ?_; rintro e w' ⟨rfl, rfl⟩) | (with_reducible refine (HY.out _).mono ?_; rintro e w' ⟨rfl, rfl⟩) | (refine (HZ.out _).mono ?_; rintro e w' ⟨rfl, rfl⟩))
      go_ret
      exact ⟨rfl, hb.out⟩
end Go.Proofs.Ytiijlpmdnokjfaa
