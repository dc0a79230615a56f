/-
  What a closure that matches parts of a word is: in every world in which its own blocks hold what they should, it answers, and they hold what they should behind it.
-/
import Derived.Test.YtichpiklgkahbaaMatMath
import Derived.Test.YtichpiklgkahbaaCellRow
import Derived.Test.YtichpiklgkahbaaMarkRx
import Derived.Shelf.Abstract
import Derived.Deep.RegionWith
import Derived.Deep.RegionHeld3
import Derived.Laws.EntriesVeiled
namespace Go.Proofs.Ytichpiklgkahbaa
open Go.RowKit

theorem Chg.drew {S : Nat → Prop} {w w' : World} (h : Chg S w w') : Chg S w w'.drew := ⟨h.os, h.tape, h.output, h.size, h.block⟩
/-- Function k, called at two places, answers M; J holds behind it; only S has turned. -/
def Ans (k : Nat) (cap : Array Value) (b : Bool) (J : World → Prop) (S : Nat → Prop) (i j : Nat) : Prop :=
  ∀ w, J w → Calls Try.prog k (#[.int .i64 (i : Int), .int .i64 (j : Int)] ++ cap) w fun e w' => e = .returned (.bool b) ∧ J w' ∧ Chg S w w'
/-- J hangs on the blocks S alone. -/
def Keeps (J : World → Prop) (S : Nat → Prop) : Prop := ∀ w w', J w → (∀ g, S g → w'.heap[g]? = w.heap[g]?) → J w'
/-- .. which are there. -/
def Has (J : World → Prop) (S : Nat → Prop) : Prop := ∀ w, J w → ∀ g, S g → g < w.heap.size
structure Mat (N : Nat) (M : Mt) (k : Nat) (cap : Array Value) (J : World → Prop) (S : Nat → Prop) : Prop where
  enter : ∀ args w, (callFunc k args).run Try.prog w = .ok (.enter k args) w
  keeps : Keeps J S
  has : Has J S
  call : ∀ i j, i ≤ j → j ≤ N → Ans k cap (M i j) J S i j

/-- The blocks of a remembering closure: the places' number (bp), the two tables' variables (bk, bt), the tables (K, T), the matcher's variable (bm). -/
structure RemB where
  bp : Nat
  bk : Nat
  bm : Nat
  bt : Nat
  K : Nat
  T : Nat
def RemB.All (B : RemB) (g : Nat) : Prop := g = B.bp ∨ g = B.bk ∨ g = B.bm ∨ g = B.bt ∨ g = B.K ∨ g = B.T
/-- What they hold. -/
def Rem (N : Nat) (M : Mt) (fm : Value) (B : RemB) (w : World) : Prop :=
  w.heap[B.bp]? = some (.cells #[.int .i64 ((N + 1 : Nat) : Int)] 3 (0, 0)) ∧ w.heap[B.bk]? = some (.cells #[.slice (some ⟨B.K, 0, none⟩) ((N + 1) * (N + 1)) ((N + 1) * (N + 1))] 115 (0, 0)) ∧
  w.heap[B.bm]? = some (.cells #[fm] 49 (0, 0)) ∧ w.heap[B.bt]? = some (.cells #[.slice (some ⟨B.T, 0, none⟩) ((N + 1) * (N + 1)) ((N + 1) * (N + 1))] 115 (0, 0)) ∧
  ∃ kn mt : Nat → Bool, Rw w B.K 4 ((N + 1) * (N + 1)) (fun x => .bool (kn x)) ∧ Rw w B.T 4 ((N + 1) * (N + 1)) (fun x => .bool (mt x)) ∧
    ∀ i j, i ≤ N → j ≤ N → kn (i * (N + 1) + j) = true → mt (i * (N + 1) + j) = M i j
theorem Rem.same {N : Nat} {M : Mt} {fm : Value} {B : RemB} {w w' : World} (h : Rem N M fm B w) (hs : ∀ g, B.All g → w'.heap[g]? = w.heap[g]?) : Rem N M fm B w' := by
  obtain ⟨h1, h2, h3, h4, kn, mt, h5, h6, h7⟩ := h
  exact ⟨(hs _ (.inl rfl)).trans h1, (hs _ (.inr (.inl rfl))).trans h2, (hs _ (.inr (.inr (.inl rfl)))).trans h3, (hs _ (.inr (.inr (.inr (.inl rfl))))).trans h4, kn, mt, h5.same (hs _ (.inr (.inr (.inr (.inr (.inl rfl)))))), h6.same (hs _ (.inr (.inr (.inr (.inr (.inr rfl)))))), h7⟩
theorem Rem.lt {N : Nat} {M : Mt} {fm : Value} {B : RemB} {w : World} (h : Rem N M fm B w) {g : Nat} (hg : B.All g) : g < w.heap.size := by
  obtain ⟨h1, h2, h3, h4, kn, mt, h5, h6, h7⟩ := h
  rcases hg with rfl | rfl | rfl | rfl | rfl | rfl
  · exact lt_of_block h1
  · exact lt_of_block h2
  · exact lt_of_block h3
  · exact lt_of_block h4
  · exact h5.lt
  · exact h6.lt
/-- The tables lie apart, and apart from what is never written. -/
structure RemB.Apart (B : RemB) : Prop where
  kt : B.K ≠ B.T
  kb : B.K ≠ B.bp ∧ B.K ≠ B.bk ∧ B.K ≠ B.bm ∧ B.K ≠ B.bt
  tb : B.T ≠ B.bp ∧ B.T ≠ B.bk ∧ B.T ≠ B.bm ∧ B.T ≠ B.bt

theorem place_inj {N i j i' j' : Nat} (hj : j ≤ N) (hj' : j' ≤ N) (h : i * (N + 1) + j = i' * (N + 1) + j') : i = i' ∧ j = j' := by
  have h1 : (i * (N + 1) + j) / (N + 1) = i := by
    rw [Nat.mul_comm, Nat.mul_add_div (by omega), Nat.div_eq_of_lt (by omega)]; omega
  have h2 : (i' * (N + 1) + j') / (N + 1) = i' := by
    rw [Nat.mul_comm, Nat.mul_add_div (by omega), Nat.div_eq_of_lt (by omega)]; omega
  have e : i = i' := by rw [← h1, ← h2, h]
  subst e
  exact ⟨rfl, by omega⟩
theorem place_lt {N i j : Nat} (hi : i ≤ N) (hj : j ≤ N) : i * (N + 1) + j < (N + 1) * (N + 1) := by
  have : i * (N + 1) ≤ N * (N + 1) := Nat.mul_le_mul_right _ hi
  rw [Nat.add_mul N 1 (N + 1)]
  omega
theorem place_le {N : Nat} (h : N ≤ 30) : (N + 1) * (N + 1) ≤ 961 := Nat.mul_le_mul (by omega : N + 1 ≤ 31) (by omega : N + 1 ≤ 31)

/-- What the tables hold behind the two stores. -/
theorem Rem.put {N : Nat} {M : Mt} {fm : Value} {B : RemB} {w : World} (h : Rem N M fm B w) (ha : B.Apart) {i j : Nat} (hi : i ≤ N) (hj : j ≤ N) :
    Rem N M fm B ((w.setCell ⟨B.T, i * (N + 1) + j, none⟩ (.bool (M i j))).setCell ⟨B.K, i * (N + 1) + j, none⟩ (.bool true)) := by
  obtain ⟨h1, h2, h3, h4, kn, mt, h5, h6, h7⟩ := h
  have hk : ∀ g, g ≠ B.K → g ≠ B.T → ((w.setCell ⟨B.T, i * (N + 1) + j, none⟩ (.bool (M i j))).setCell ⟨B.K, i * (N + 1) + j, none⟩ (.bool true)).heap[g]? = w.heap[g]? := fun g h1 h2 =>
    (Below.heap_setCell _ _ _ g h1).trans (Below.heap_setCell _ _ _ g h2)
  obtain ⟨k1, k2, k3, k4⟩ := ha.kb
  obtain ⟨t1, t2, t3, t4⟩ := ha.tb
  refine ⟨(hk _ (Ne.symm k1) (Ne.symm t1)).trans h1, (hk _ (Ne.symm k2) (Ne.symm t2)).trans h2, (hk _ (Ne.symm k3) (Ne.symm t3)).trans h3, (hk _ (Ne.symm k4) (Ne.symm t4)).trans h4,
    fun x => if x = i * (N + 1) + j then true else kn x, fun x => if x = i * (N + 1) + j then M i j else mt x, ?_, ?_, ?_⟩
  · refine (((h5.same (Below.heap_setCell _ _ _ _ ha.kt)).set (i * (N + 1) + j) (.bool true))).congr fun x _ => ?_
    by_cases hx : x = i * (N + 1) + j
    · simp [hx]
    · simp [hx]
  · refine ((h6.set (i * (N + 1) + j) (.bool (M i j))).same (Below.heap_setCell _ _ _ _ (Ne.symm ha.kt))).congr fun x _ => ?_
    by_cases hx : x = i * (N + 1) + j
    · simp [hx]
    · simp [hx]
  · intro i' j' hi' hj' hkn
    by_cases hx : i' * (N + 1) + j' = i * (N + 1) + j
    · obtain ⟨rfl, rfl⟩ := place_inj hj' hj hx
      simp
    · simp only [if_neg hx] at hkn ⊢
      exact h7 i' j' hi' hj' hkn
end Go.Proofs.Ytichpiklgkahbaa
