/-
  What the model's turn of a text answers: some short text; the cursor's block alone has turned.
-/
import Derived.Test.YtfhghgbiemjddaaBentRx
import Derived.Deep.RegionWith
namespace Go.Proofs.Ytfhghgbiemjddaa
open Go.RowKit

/-- Some text of at most m bytes. -/
def TextPost (m : Nat) (g B : Nat) (A : Option Addr) (n c : Nat) (w : World) (e : Ending) (w' : World) : Prop :=
  ∃ t : ByteArray, e = .returned (.string t) ∧ t.size ≤ m ∧ Cur w' g B A n c ∧ w.grownBy w' (some g)
def turnList : List (List UInt8) := [[40], [41], [42], [124], [97], [49], [33], [32]]
theorem turn_size (p : List UInt8) (h : p ∈ turnList) : (⟨p.toArray⟩ : ByteArray).size ≤ 1 := by
  have : (turnList.all fun p => decide (p.length ≤ 1)) = true := by decide
  have := List.all_eq_true.1 this p h
  simpa [ByteArray.size] using this

set_option maxRecDepth 100000 in
set_option maxHeartbeats 1600000 in
theorem l1Turned_any (s : ByteArray) (g B gl : Nat) (A : Option Addr) (n c : Nat) (w : World) (hc : Cur w g B A n c) (hn : n ≤ 1048576) (hs : s.size ≤ 200) (hne : gl ≠ g)
    (hl : w.heap[gl]? = some (.cells (turnList.map fun p => .string ⟨p.toArray⟩).toArray 9 (0, 0))) :
    Calls Try.prog 34 #[.pointer (some ⟨g, 0, none⟩), .string s, .slice (some ⟨gl, 0, none⟩) 8 8] w (TextPost 300 g B A n c w) := by
  have H1 := Lib.hid (show Calls Try.prog 42 #[.pointer (some ⟨g, 0, none⟩), .int .i64 ((s.size : Int) + 1)] w (BelowPost (s.size + 1) g B A n c w) from l1Below_small g B A n c (s.size + 1) w hc hn (by omega) (by omega))
  have H6 := Lib.hid (fun w (h : Cur w g B A n c) => l1Below_small g B A n c 6 w h hn (by omega) (by omega))
  have HP := Lib.hid (fun w' (h : Cur w' g B A n c) (hg : w.grownBy w' (some g)) => l1Pick_any g B gl A n c 8 turnList w' h hn (by omega) (by omega) rfl hne ((hg.block gl (Array.getElem?_eq_some_iff.1 hl).1 (by simpa using hne)).trans hl))
  clear hc hl
  go_enter Try.func34, Try.ntmps34
  go_wp2_with fail
  go_at_call 42
  refine H1.out.mono ?_
  rintro e w1 ⟨x, rfl, hx, hc1, hg1⟩
  have HC1 := Lib.hid hc1
  have HG1 := Lib.hid hg1
  clear hc1 hg1
  go_wp2_with fail
  go_at_call 42
  refine (H6.out _ HC1.out).mono ?_
  rintro e w2 ⟨y, rfl, hy, hc2, hg2⟩
  have HC2 := Lib.hid hc2
  have HG2 := Lib.hid (grown_tr HG1.out hg2)
  clear hc2 hg2
  by_cases h0 : y = 0
  · subst h0
    have HC2d := Lib.hid HC2.out.drew
    have HG2d := Lib.hid (grown_drew HG2.out)
    have hxs : x ≤ s.size := by omega
    have hL : ∀ ps : ByteArray, ps.size ≤ 1 → (((9223372036854775807 < min x s.size + ps.size) = False ∧ (9223372036854775807 < x + ps.size) = False) ∧ ((9223372036854775807 < min x s.size + ps.size + (s.size - x)) = False ∧ (9223372036854775807 < x + ps.size + (s.size - x)) = False) ∧ (s.extract 0 x ++ ps ++ s.extract x s.size).size ≤ 300) := fun ps hps => by
      simp only [ByteArray.size_append, ByteArray.size_extract, eq_iff_iff, iff_false]
      omega
    have HL := Lib.hid hL
    clear hL
    go_wp2_with fail
    go_region_with (go_at_call 43; (with_reducible refine (HP.out _ HC2d.out HG2d.out).mono ?_); rintro e w3 ⟨p, hp, rfl, hc3, hg3⟩; have hps := turn_size p hp; obtain ⟨ps, hpe⟩ : ∃ ps, ps = (⟨p.toArray⟩ : ByteArray) := ⟨_, rfl⟩; rw [← hpe] at hps ⊢; obtain ⟨⟨l1, l1'⟩, ⟨l2, l2'⟩, l3⟩ := HL.out ps hps; have HC3 := Lib.hid hc3; have HG3 := Lib.hid (grown_tr HG2d.out hg3); have HS3 := Lib.hid l3; clear hp hpe hc3 hg3 hps l3)
    all_goals
      go_wp2_with fail
      go_ret
      exact ⟨_, rfl, HS3.out, HC3.out, HG3.out⟩
  by_cases h1 : y = 1
  · subst h1
    go_wp2_with fail
    go_ret
    exact ⟨_, rfl, by simp [ByteArray.size_extract]; omega, HC2.out, HG2.out⟩
  have d0 : ((y : Int) == 0) = false := by simp; omega
  have d1 : ((y : Int) == 1) = false := by simp; omega
  go_wp2_with fail
  go_ret
  exact ⟨s, rfl, by omega, HC2.out, HG2.out⟩
end Go.Proofs.Ytfhghgbiemjddaa
