/-
  A loop over an iterator whose rounds are known one by one: rounds 0 to m - 1 go on, round m leaves by a break. Of no program.
-/
import Derived.RangeFuncNested
import Derived.RangeFuncBox
import Derived.RangeFuncBound
import Derived.RangeFuncCalls
import Derived.RangeFuncLeaves
import Derived.RangeFuncFrom
import Derived.Maps.AppendAt
import Derived.WalkKit
namespace Go.Proofs.Ythmfncklepkddab
open Go.RowKit

/-- WHAT THE ITERATOR IS TO DO: it hands the values of rounds 0, 1, .. to the loop, one after the other, as long as the rounds go on; round m says 'no more', and it ends. -/
def Rounds (n : Nat) (P : Program) (gf : Nat) (lb : Array Value) (args : Nat → Array Value) (m n₀ : Nat) (w : World) : Prop :=
  ∀ (l : Nat) (J : Nat → World → Prop) (Jx : World → Prop) (W : World), Below w.heap.size w W → AbidesFrom W.heap.size J →
    (∀ k W1, k < m → J k W1 → YieldAt Fence.wide (n - 1) P l (args k) W1 fun e W' => e = .returned (.bool true) ∧ J (k + 1) W' ∧ Below n₀ W1 W') →
    (∀ W1, J m W1 → YieldAt Fence.wide (n - 1) P l (args m) W1 fun e W' => e = .returned (.bool false) ∧ Jx W') →
    J 0 W → CallsIn Fence.wide n P gf (#[.func (.yield l) #[] #[]] ++ lb) W fun e W' => (∃ v, e = .returned v) ∧ Jx W'

section law
variable {P : Program} {n : Nat}

/-- The loop's record, in one of its states. -/
def recOf (fn B : Nat) (tmps : Array Value) (ps : Array Tmp) (assign body : Code) (st : LoopState) (pe : Option Code) : Loop :=
  { state := st, pending := pe, fn := fn, tmps := tmps, params := ps, assign := assign, body := body, defers := B }
/-- The record lies in block B + 1, the rounds' deferred calls (none) in block B. -/
def Rec (B : Nat) (r : Loop) (W : World) : Prop := W.heap[B + 1]? = some (.loop r) ∧ W.heap[B]? = some (.deferred (some []))
theorem Rec.turn {B : Nat} {r : Loop} {W : World} (h : Rec B r W) (r' : Loop) : Rec B r' (W.putObj (B + 1) (.loop r')) :=
  ⟨World.putObj_heap_same (Array.getElem?_eq_some_iff.1 h.1).1, (World.putObj_heap_other (by omega)).trans h.2⟩
theorem Rec.keep {B : Nat} {r : Loop} {W W' : World} (h : Rec B r W) (hk : KeepsOthers W W') : Rec B r W' := ⟨hk.same _ _ h.1 rfl, hk.same _ _ h.2 rfl⟩
theorem Rec.below {B n₀ : Nat} {r : Loop} {W : World} (h : Rec B r W) (hB : n₀ ≤ B) (r' : Loop) : Below n₀ W (W.putObj (B + 1) (.loop r')) := by
  have hlt := (Array.getElem?_eq_some_iff.1 h.1).1
  exact (Below.refl n₀ W).grown (grownBy_putObj' W (B + 1) _) (by omega) (fun k e => by cases e; omega)

theorem wp_rounds {g : Operand} {ps : Array Tmp} {assign body : Code} {Q : Exit → Act → World → Prop} {a : Act} {w : World} (h1 : 1 ≤ n) {gf : Nat} {lb : Array Value}
    (hg : a.eval g = .func (.func gf) #[] lb) (eg : ∀ args w, (callFunc gf args).run P w = .ok (.enter gf args) w) {args : Nat → Array Value} {m n₀ : Nat} (hn₀ : n₀ ≤ w.heap.size)
    (hseq : Rounds (n - 1) P gf lb args m n₀ w) (hps : ∀ k, (args k).size = ps.size) (id : Nat)
    (I : Nat → World → Prop) (Ix : World → Prop) (hI : OwnFrom w.heap.size I) (hIx : OwnFrom w.heap.size (fun (_ : Unit) => Ix)) (h0 : I 0 w) (a₁ : Nat → Act)
    (hassign : ∀ (l k : Nat) (W : World) (K : Act → World → Prop), K (a₁ k) W → assign.wpIn (Fence.wide.inRound l) (n - 1 - 1) P (Exit.then K (fun _ _ _ => False)) { tmps := (ps.zip (args k)).foldl (fun t (p, v) => t.setIfInBounds p v) a.tmps, defers := [] } W)
    (hbody : ∀ (l k : Nat) (W : World), k < m → I k W → body.wpIn (Fence.wide.inRound l) (n - 1 - 1) P (fun e _ W' => e = .normal ∧ KeepsOthers W W' ∧ Below n₀ W W' ∧ I (k + 1) W') (a₁ k) W)
    (hlast : ∀ (l : Nat) (W : World), I m W → body.wpIn (Fence.wide.inRound l) (n - 1 - 1) P (fun e _ W' => e = .exit id ∧ KeepsOthers W W' ∧ Ix W') (a₁ m) W)
    (hstop : ∀ (D : Nat) (W : World), w.heap.size ≤ D → Ix W → W.heap[D]? = some (.deferred (some [])) → (Code.exit id).wpIn Fence.wide n P Q { a with defers := { target := .collected D, args := #[] } :: a.defers } W) :
    (Code.rangeFunc g ps assign body).wpIn Fence.wide n P Q a w := by
  refine wpIn_rangeFunc fun fn hfn => ?_
  have hsz : (w.alloc (.deferred (some []))).heap.size = w.heap.size + 1 := by simp
  obtain ⟨W1, hW1⟩ : ∃ W1, (w.alloc (.deferred (some []))).alloc (.loop (recOf fn w.heap.size a.tmps ps assign body .ready none)) = W1 := ⟨_, rfl⟩
  have hsz1 : W1.heap.size = w.heap.size + 2 := by rw [← hW1]; simp
  have hrec : Rec w.heap.size (recOf fn w.heap.size a.tmps ps assign body .ready none) W1 := by
    refine ⟨?_, ?_⟩
    · have h := World.alloc_heap_new (w.alloc (.deferred (some []))) (.loop (recOf fn w.heap.size a.tmps ps assign body .ready none))
      rw [hsz, hW1] at h
      exact h
    · rw [← hW1]
      exact (Below.heap_alloc _ _ _ (by simp)).trans (World.alloc_heap_new w _)
  have hbel : Below w.heap.size w W1 := by rw [← hW1]; exact ((Below.refl _ w).alloc (Nat.le_refl _) _).alloc (by simp) _
  have hI1 : I 0 W1 := by rw [← hW1]; exact hI.alloc _ (hI.alloc _ h0)
  refine ⟨w.heap.size + 1, [{ target := .collected w.heap.size, args := #[] }], W1, { target := .fn (.func gf) lb, args := #[.func (.yield (w.heap.size + 1)) #[] #[]] }, W1, gf, #[.func (.yield (w.heap.size + 1)) #[] #[]] ++ lb, W1,
    ?_, ?_, fun _ _ => trivial, ?_, fun _ => h1, ?_⟩
  · rw [← hW1]
    exact run_enterLoop_outer _ _ _ _ _
  · simp only [resolve, hg]
    simp [go_sem]
  · simp [invoke, go_sem, eg]
  · -- the invariant of the iterator's: the caller's own, and the record lies ready
    refine (hseq (w.heap.size + 1) (fun k W => I k W ∧ Rec w.heap.size (recOf fn w.heap.size a.tmps ps assign body .ready none) W)
      (fun W => Ix W ∧ Rec w.heap.size (recOf fn w.heap.size a.tmps ps assign body .done (some (.exit id))) W) W1 hbel ?_ ?_ ?_ ⟨hI1, hrec⟩).mono ?_
    · intro k A B row hs hgr hrow
      have hrow' : ∀ r, row = some r → w.heap.size ≤ r ∧ ∃ o : Obj, A.heap[r]? = some o ∧ o.isCells = false := fun r e => by
        obtain ⟨hB, o, ho, hw⟩ := hrow r e
        exact ⟨by omega, o, ho, Obj.not_cells_of_walk hw⟩
      exact ⟨hI k A B row hs.1 hgr hrow', (grownBy_keeps hgr (fun r e => (hrow r e).2) hs.2.1 rfl).trans hs.2.1, (grownBy_keeps hgr (fun r e => (hrow r e).2) hs.2.2 rfl).trans hs.2.2⟩
    · -- a round that goes on
      intro k W hk hs
      have hy := run_yield (P := P) (args := args k) hs.2.1 (hps k)
      refine ⟨fn, _, assign, body, hy, roundIn_of_wpIn hfn (hassign _ k W _ ⟨_, run_beginRound hs.2.1 rfl, ?_⟩)⟩
      have hr2 := hs.2.turn { recOf fn w.heap.size a.tmps ps assign body .ready none with state := .busy }
      have hb2 := hs.2.below hn₀ { recOf fn w.heap.size a.tmps ps assign body .ready none with state := .busy }
      have hi2 := hI.putObj (.loop { recOf fn w.heap.size a.tmps ps assign body .ready none with state := .busy }) hs.1 (Nat.le_succ _) hs.2.1 rfl
      refine wpIn_mono (hbody _ k _ hk hi2) ?_
      rintro e a3 W3 ⟨rfl, hk3, hb3, hi3⟩
      have hr3 := hr2.keep hk3
      refine ⟨_, _, run_endRound none hr3.1, rfl, ⟨hI.putObj _ hi3 (Nat.le_succ _) hr3.1 rfl, hr3.turn _⟩, (hb2.trans hb3).trans (hr3.below hn₀ _)⟩
    · -- the last round
      intro W hs
      have hy := run_yield (P := P) (args := args m) hs.2.1 (hps m)
      refine ⟨fn, _, assign, body, hy, roundIn_of_wpIn hfn (hassign _ m W _ ⟨_, run_beginRound hs.2.1 rfl, ?_⟩)⟩
      have hr2 := hs.2.turn { recOf fn w.heap.size a.tmps ps assign body .ready none with state := .busy }
      have hi2 := hI.putObj (.loop { recOf fn w.heap.size a.tmps ps assign body .ready none with state := .busy }) hs.1 (Nat.le_succ _) hs.2.1 rfl
      refine wpIn_mono (hlast _ _ hi2) ?_
      rintro e a3 W3 ⟨rfl, hk3, hx3⟩
      have hr3 := hr2.keep hk3
      exact ⟨_, _, run_endRound (some (.exit id)) hr3.1, rfl, hIx.putObj (s := ()) _ hx3 (Nat.le_succ _) hr3.1 rfl, hr3.turn _⟩
    · rintro e W2 ⟨⟨v, rfl⟩, hx, hr⟩
      refine ⟨some (.exit id), _, run_endLoop hr.1 (by simp [recOf]), ?_⟩
      exact hstop _ _ (Nat.le_refl _) (hIx.putObj (s := ()) _ hx (Nat.le_succ _) hr.1 rfl) ((World.putObj_heap_other (by omega)).trans hr.2)
end law
end Go.Proofs.Ythmfncklepkddab
