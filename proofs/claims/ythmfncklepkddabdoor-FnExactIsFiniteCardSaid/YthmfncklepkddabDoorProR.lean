/-
  The product of two automata, as an answer. Of no function of the program.
  What spec.ProductDfa begins with.
-/
import Derived.Test.YthmfncklepkddabDoorMinW
import Derived.Test.YthmfncklepkddabDoorM5
import Derived.Test.YthmfncklepkddabDoorGrow
namespace Go.Proofs.YthmfncklepkddabDoor
open Go.RowKit

def fK (kind : Int) : Bool → Bool → Bool := if kind = 6 then (· || ·) else (· && ·)
theorem fK_or : fK 6 = (· || ·) := rfl
theorem fK_and : fK 7 = (· && ·) := rfl
/-- The product's minimal automaton, where it has not too many states. -/
def proR (a b : Dx) (kind : Int) (y : Dx) (ok : Bool) : Prop :=
  if validD a = true ∧ validD b = true ∧ (kind = 6 ∨ kind = 7) then ∃ m, Canon m ∧ Eqv m 0 (prd (auD a) (auD b) (fK kind)) 0 ∧ y = fitD m ∧ ok = decide (m.n ≤ 40) else y = ⟨[], []⟩ ∧ ok = false
theorem proR_some (a b : Dx) (kind : Int) : ∃ y ok, proR a b kind y ok := by
  unfold proR
  by_cases h : validD a = true ∧ validD b = true ∧ (kind = 6 ∨ kind = 7)
  · obtain ⟨m, h1, h2, _⟩ := exists_min (prd_wf (fK kind) (fieldsOf_au h.1).1 (fieldsOf_au h.2.1).1)
    exact ⟨fitD m, decide (m.n ≤ 40), by rw [if_pos h]; exact ⟨m, h1, h2, rfl, rfl⟩⟩
  · exact ⟨⟨[], []⟩, false, by rw [if_neg h]; exact ⟨rfl, rfl⟩⟩
theorem fit_one {m m' : Au} (h : Canon m) (h' : Canon m') (he : Eqv m 0 m' 0) : fitD m = fitD m' ∧ decide (m.n ≤ 40) = decide (m'.n ≤ 40) := by
  have h1 := (canon_unique h h' he).1
  have h2 := fields_one h h' he
  unfold fitD
  rw [h1, h2]
  exact ⟨rfl, rfl⟩
theorem fitD_wt (m : Au) : wtD (fitD m) ≤ 1048576 := by
  unfold fitD
  by_cases h : m.n ≤ 40
  · rw [if_pos h]
    exact fieldsOf_wt h
  · rw [if_neg h]
    decide
theorem proR_wt {a b : Dx} {kind : Int} {y : Dx} {ok : Bool} (h : proR a b kind y ok) : wtD y ≤ 1048576 := by
  unfold proR at h
  by_cases hc : validD a = true ∧ validD b = true ∧ (kind = 6 ∨ kind = 7)
  · rw [if_pos hc] at h
    obtain ⟨m, _, _, rfl, _⟩ := h
    exact fitD_wt m
  · rw [if_neg hc] at h
    rw [h.1]
    decide
theorem proR_yes {a b : Dx} {kind : Int} {y : Dx} {ok : Bool} (h : proR a b kind y ok) (ha : validD a = true) (hb : validD b = true) (hk : kind = 6 ∨ kind = 7) {m : Au} (h1 : Canon m) (h2 : Eqv m 0 (prd (auD a) (auD b) (fK kind)) 0) : fitD m = y ∧ decide (m.n ≤ 40) = ok := by
  unfold proR at h
  rw [if_pos ⟨ha, hb, hk⟩] at h
  obtain ⟨m', n1, n2, rfl, rfl⟩ := h
  exact fit_one h1 n1 (h2.swap n2)
theorem proR_no {a b : Dx} {kind : Int} {y : Dx} {ok : Bool} (h : proR a b kind y ok) (hn : ¬ (validD a = true ∧ validD b = true ∧ (kind = 6 ∨ kind = 7))) : y = ⟨[], []⟩ ∧ ok = false := by
  unfold proR at h
  rwa [if_neg hn] at h
end Go.Proofs.YthmfncklepkddabDoor

namespace Go.Proofs.YthmfncklepkddabDoor
open Go.RowKit

theorem One.start2 (w1 : World) (x : Int) :
    let W3 := (w1.alloc (.cells #[.slice none 0 0, .slice none 0 0] 28)).alloc (.cells #[.int .i64 x] 3)
    One w1.heap.size W3 w1.heap.size (.slice none 0 0) (.slice none 0 0) [] [] [] (fun _ _ => False) (.slice (some ⟨w1.heap.size + 1, 0, none⟩) 1 1) [x] ∧ Below w1.heap.size w1 W3 := by
  intro W3
  have h0 := Out.start w1 (Nat.le_refl _)
  have h1 := IR.one (w1.alloc (.cells #[.slice none 0 0, .slice none 0 0] 28)) x (B := w1.heap.size) (by simp)
  rw [World.size_alloc] at h1
  exact ⟨⟨h0.below ((Below.refl _ _).alloc (Nat.le_refl _) _), h1, fun _ _ _ h => h⟩, ((Below.refl _ _).alloc (Nat.le_refl _) _).alloc (by simp) _⟩
theorem three_box' (w : World) (a b c : Obj) : let W := ((w.alloc a).alloc b).alloc c
    W.heap[w.heap.size]? = some a ∧ W.heap[w.heap.size + 1]? = some b ∧ W.heap[w.heap.size + 1 + 1]? = some c ∧ Below w.heap.size w W := by
  intro W
  have h1 := heap_alloc_new (w.alloc a) b
  have h2 := heap_alloc_new ((w.alloc a).alloc b) c
  rw [World.size_alloc] at h1 h2
  rw [World.size_alloc] at h2
  exact ⟨(Below.heap_alloc _ _ _ (by simp; omega)).trans ((Below.heap_alloc _ _ _ (by simp)).trans (heap_alloc_new w a)), (Below.heap_alloc _ _ _ (by simp)).trans h1, h2, (((Below.refl _ _).alloc (Nat.le_refl _) _).alloc (by simp) _).alloc (by simp; omega) _⟩
/-- What the product's code answers where both are valid. -/
def PrdPostS (a b : Au) (f : Bool → Bool → Bool) (w : World) (e : Ending) (w' : World) : Prop := ∃ m, Canon m ∧ Eqv m 0 (prd a b f) 0 ∧ CopyDB (fitD m) (decide (m.n ≤ 40)) w e w'

end Go.Proofs.YthmfncklepkddabDoor
