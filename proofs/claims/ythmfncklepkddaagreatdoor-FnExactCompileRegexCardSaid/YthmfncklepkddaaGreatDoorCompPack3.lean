/-
  Texts of one proof, one behind the other.
-/
import Derived.OwnWalk
import Derived.Test.YthmfncklepkddaaGreatDoorRows
import Derived.WalkKit
import Derived.WalkSpells
import Derived.WalkLawsBesides
import Derived.Laws.IdiomStrings
import Derived.Lib.ItoaNum
import Derived.Lib.ItoaLen
import Derived.Lib.ItoaMem
import Derived.Lib.Hide
import Derived.Deep.QuietTactic
import Derived.BigQuiet
import Derived.RegionTactic
import Derived.Deep.RegionHeld3
import Derived.Outline
import Derived.Deep.CutRange
import Derived.Test.YthmfncklepkddaaGreatDoorCompPack2

/-
  What laws.toRegex and laws.toRegexS answer: the same expression, in new memory.
-/
namespace Go.Proofs.YthmfncklepkddaaGreatDoor
open Go.RowKit

theorem rxInfo : (Tryz.prog.info? 26).map (fun i => (i.zero, i.size, i.bytes)) = some (some (.agg #[.int .i64 0, .string ⟨#[]⟩, .slice none 0 0]), 3, 48) := by kernel_rfl

/-- A slice that holds the row f, in blocks of the call's own. -/
def ToPostT (n : Nat) (f : Fr) (w : World) (e : Ending) (w' : World) : Prop :=
  ∃ v, e = .returned v ∧ SlT w' n (fun g => w.heap.size ≤ g ∧ g < w'.heap.size) v f ∧ Below w.heap.size w w'
/-- A node whose parts lie in blocks of the call's own. -/
def ToNodeT (n : Nat) (k : Int) (l : ByteArray) (a : Fr) (w : World) (e : Ending) (w' : World) : Prop :=
  ∃ u, e = .returned (.agg #[.int .i64 k, .string l, u]) ∧ SlT w' n (fun g => w.heap.size ≤ g ∧ g < w'.heap.size) u a ∧ Below w.heap.size w w'
def ToPost (n : Nat) (f : Fr) (w : World) (e : Ending) (w' : World) : Prop :=
  ∃ v, e = .returned v ∧ SlP w' (fun g => w.heap.size ≤ g ∧ g < w'.heap.size) n v f ∧ Below w.heap.size w w'
def ToNode (n : Nat) (k : Int) (l : ByteArray) (a : Fr) (w : World) (e : Ending) (w' : World) : Prop :=
  ∃ u, e = .returned (.agg #[.int .i64 k, .string l, u]) ∧ SlP w' (fun g => w.heap.size ≤ g ∧ g < w'.heap.size) n u a ∧ Below w.heap.size w w'

/-- A world with three blocks more. -/
def three (w : World) (o1 o2 o3 : Obj) : World := ((w.alloc o1).alloc o2).alloc o3
theorem three_size (w : World) (o1 o2 o3 : Obj) : (three w o1 o2 o3).heap.size = w.heap.size + 1 + 1 + 1 := by simp [three]
theorem three_two (w : World) (o1 o2 o3 : Obj) : (three w o1 o2 o3).heap[w.heap.size + 1]? = some o2 := by
  have h := heap_alloc_new (w.alloc o1) o2
  rw [World.size_alloc] at h
  exact (Below.heap_alloc _ o3 _ (by simp)).trans h
theorem three_three (w : World) (o1 o2 o3 : Obj) : (three w o1 o2 o3).heap[w.heap.size + 1 + 1]? = some o3 := by
  have h := heap_alloc_new ((w.alloc o1).alloc o2) o3
  rw [World.size_alloc, World.size_alloc] at h
  exact h

/-- The result's cells are written: what is beneath lies as it lay. -/
theorem node_end {w W3 w1 : World} {n : Nat} {k : Int} {l : ByteArray} {u : Value} {a : Fr} {x0 x1 x2 : Value} (hs : SlT w1 n (fun g => W3.heap.size ≤ g ∧ g < w1.heap.size) u a) (hb1 : Below W3.heap.size W3 w1) (hb : Below w.heap.size w W3) (hz : W3.heap.size = w.heap.size + 1 + 1 + 1)
    (b0 : w1.cell? ⟨w.heap.size + 1, 0, none⟩ = some x0) (b1 : w1.cell? ⟨w.heap.size + 1, 1, none⟩ = some x1) (b2 : w1.cell? ⟨w.heap.size + 1, 2, none⟩ = some x2) :
    let W4 := (((w1.setCell ⟨w.heap.size + 1 + 1, 2, none⟩ u).setCell ⟨w.heap.size + 1, 0, none⟩ (.int .i64 k)).setCell ⟨w.heap.size + 1, 1, none⟩ (.string l)).setCell ⟨w.heap.size + 1, 2, none⟩ u
    W4.cell? ⟨w.heap.size + 1, 0, none⟩ = some (.int .i64 k) ∧ W4.cell? ⟨w.heap.size + 1, 1, none⟩ = some (.string l) ∧ W4.cell? ⟨w.heap.size + 1, 2, none⟩ = some u ∧
      SlT W4 n (fun g => w.heap.size ≤ g ∧ g < W4.heap.size) u a ∧ Below w.heap.size w W4 := by
  intro W4
  have ne : ∀ {g o g' o' : Nat}, g ≠ g' ∨ o ≠ o' → (⟨g, o, none⟩ : Addr) ≠ ⟨g', o', none⟩ := fun h e => by
    injection e with e1 e2
    rcases h with h | h
    · exact h e1
    · exact h e2
  have d0 : (w1.setCell ⟨w.heap.size + 1 + 1, 2, none⟩ u).cell? ⟨w.heap.size + 1, 0, none⟩ = some x0 := (World.cell?_setCell_other _ _ _ _ (ne (.inl (by omega)))).trans b0
  have d1 : ((w1.setCell ⟨w.heap.size + 1 + 1, 2, none⟩ u).setCell ⟨w.heap.size + 1, 0, none⟩ (.int .i64 k)).cell? ⟨w.heap.size + 1, 1, none⟩ = some x1 :=
    (World.cell?_setCell_other _ _ _ _ (ne (.inr (by omega)))).trans ((World.cell?_setCell_other _ _ _ _ (ne (.inl (by omega)))).trans b1)
  have d2 : (((w1.setCell ⟨w.heap.size + 1 + 1, 2, none⟩ u).setCell ⟨w.heap.size + 1, 0, none⟩ (.int .i64 k)).setCell ⟨w.heap.size + 1, 1, none⟩ (.string l)).cell? ⟨w.heap.size + 1, 2, none⟩ = some x2 :=
    (World.cell?_setCell_other _ _ _ _ (ne (.inr (by omega)))).trans ((World.cell?_setCell_other _ _ _ _ (ne (.inr (by omega)))).trans ((World.cell?_setCell_other _ _ _ _ (ne (.inl (by omega)))).trans b2))
  have hsz : W4.heap.size = w1.heap.size := by simp [W4, World.setCell]
  refine ⟨?_, ?_, World.cell?_setCell_same _ _ _ d2, ?_, ?_⟩
  · exact (World.cell?_setCell_other _ _ _ _ (ne (.inr (by omega)))).trans ((World.cell?_setCell_other _ _ _ _ (ne (.inr (by omega)))).trans (World.cell?_setCell_same _ _ _ d0))
  · exact (World.cell?_setCell_other _ _ _ _ (ne (.inr (by omega)))).trans (World.cell?_setCell_same _ _ _ d1)
  · refine hs.mono (fun g hg => ?_) (fun g hg => ⟨by omega, by rw [hsz]; exact hg.2⟩)
    have h1 := hg.1
    rw [hz] at h1
    exact ((Below.heap_setCell _ _ _ g (by simp; omega)).trans ((Below.heap_setCell _ _ _ g (by simp; omega)).trans ((Below.heap_setCell _ _ _ g (by simp; omega)).trans (Below.heap_setCell _ _ _ g (by simp; omega)))))
  · have hb' := hb.trans (hb1.mono (by rw [hz]; omega))
    exact (((hb'.setCell (p := ⟨w.heap.size + 1 + 1, 2, none⟩) (by simp; omega) _).setCell (p := ⟨w.heap.size + 1, 0, none⟩) (by simp) _).setCell (p := ⟨w.heap.size + 1, 1, none⟩) (by simp) _).setCell (p := ⟨w.heap.size + 1, 2, none⟩) (by simp) _

set_option maxHeartbeats 800000 in
theorem toNodeT_of {n : Nat} (ih : ∀ (B : Nat) (u : Value) (f : Fr) (w : World), Sl w B n u f → B ≤ w.heap.size → f.size ≤ 2097152 → Calls Tryz.prog 46 #[u] w (ToPostT n f w))
    (B : Nat) (k : Int) (l : ByteArray) (u : Value) (a : Fr) (w : World) (hS : Sl w B n u a) (hB : B ≤ w.heap.size) (hsz : a.size ≤ 2097152) :
    Calls Tryz.prog 18 #[.agg #[.int .i64 k, .string l, u]] w (ToNodeT n k l a w) := by
  have HB3 := Lib.hid ((((Below.refl w.heap.size w).alloc (Nat.le_refl _) (.cells #[.int .i64 k, .string l, u] 46)).alloc (by simp) (.cells #[.int .i64 0, .string ⟨#[]⟩, .slice none 0 0] 26)).alloc (by simp; omega) (.cells #[.int .i64 k, .string l, .slice none 0 0] 26))
  have HI := Lib.hid (fun wr (hb : Below w.heap.size w wr) => ih B u a wr (hS.mono (hb.mono hB) (Nat.le_refl _)) (Nat.le_trans hB hb.size) hsz)
  clear hS
  go_enter Tryz.func18, Tryz.ntmps18
  go_wp2_with fail
  refine (HI.out _ HB3.out).mono ?_
  rintro e w1 ⟨v, rfl, hsl, hb1⟩
  obtain ⟨A, c, rfl⟩ := hsl.shape
  have hz := three_size w (.cells #[.int .i64 k, .string l, u] 46) (.cells #[.int .i64 0, .string ⟨#[]⟩, .slice none 0 0] 26) (.cells #[.int .i64 k, .string l, .slice none 0 0] 26)
  have h2 := three_two w (.cells #[.int .i64 k, .string l, u] 46) (.cells #[.int .i64 0, .string ⟨#[]⟩, .slice none 0 0] 26) (.cells #[.int .i64 k, .string l, .slice none 0 0] 26)
  have h3 := three_three w (.cells #[.int .i64 k, .string l, u] 46) (.cells #[.int .i64 0, .string ⟨#[]⟩, .slice none 0 0] 26) (.cells #[.int .i64 k, .string l, .slice none 0 0] 26)
  unfold three at hz h2 h3
  have hz1 := hb1.size
  rw [hz] at hz1
  have g2 := (hb1.block _ (by rw [hz]; omega)).trans h2
  have g3 := (hb1.block _ (by rw [hz]; omega)).trans h3
  have a0 := (cell_of_row w1 _ 0 _ _ (0, 0) g3).trans (rfl : _ = some (Value.int .i64 k))
  have a1 := (cell_of_row w1 _ 1 _ _ (0, 0) g3).trans (rfl : _ = some (Value.string l))
  have a2 := (cell_of_row w1 _ 2 _ _ (0, 0) g3).trans (rfl : _ = some (Value.slice none 0 0))
  have b0 := (cell_of_row w1 _ 0 _ _ (0, 0) g2).trans (rfl : _ = some (Value.int .i64 0))
  have b1 := (cell_of_row w1 _ 1 _ _ (0, 0) g2).trans (rfl : _ = some (Value.string ⟨#[]⟩))
  have b2 := (cell_of_row w1 _ 2 _ _ (0, 0) g2).trans (rfl : _ = some (Value.slice none 0 0))
  have fa := frozen_of_row w1 _ 2 _ _ g3
  have f0 := frozen_of_row w1 _ 0 _ _ g2
  have f1 := frozen_of_row w1 _ 1 _ _ g2
  have f2 := frozen_of_row w1 _ 2 _ _ g2
  clear g2 g3 h2 h3
  have HSL := Lib.hid hsl
  have HB1 := Lib.hid hb1
  have HZ := Lib.hid hz
  clear hsl hb1 hz
  go_wp2_with fail
  have R := node_end (w := w) (k := k) (l := l) HSL.out HB1.out HB3.out HZ.out b0 b1 b2
  obtain ⟨c0, c1, c2, hR⟩ := R
  refine bodyPost_ret (v := .agg #[.int .i64 k, .string l, .slice A a.items.length c]) (by simp [results, Tryz.results18, go_sem, c0, c1, c2]) rfl ⟨_, rfl, hR.1, hR.2⟩

/-- Block g holds a row of expressions; the first j are filled in, what is beneath them lies in later blocks, part by part. -/
def Filled (wr : World) (g n : Nat) (f : Fr) (j m : Nat) : Prop :=
  (∃ cur : Array Value, wr.heap[g]? = some (.cells cur 26 (0, 0)) ∧ cur.size = f.items.length * 3) ∧
    ∃ s : Nat → Nat, g < s 0 ∧ (∀ i, s i ≤ s (i + 1)) ∧ s j ≤ m ∧ m ≤ wr.heap.size ∧ ∀ i k l a, i < j → f.items[i]? = some (k, l, a) → ∃ u, ElAt wr g (i * 3) k l u ∧ SlT wr n (fun h => s i ≤ h ∧ h < s (i + 1)) u a
def cutAt (s : Nat → Nat) (j z i : Nat) : Nat := if i ≤ j then s i else z
theorem cutAt_le {s : Nat → Nat} {j z i : Nat} (h : i ≤ j) : cutAt s j z i = s i := if_pos h
theorem cutAt_gt {s : Nat → Nat} {j z i : Nat} (h : j < i) : cutAt s j z i = z := if_neg (by omega)
theorem rising {s : Nat → Nat} (h : ∀ i, s i ≤ s (i + 1)) {i j : Nat} (hij : i ≤ j) : s i ≤ s j := by
  induction j with
  | zero => rw [Nat.le_zero.1 hij]; exact Nat.le_refl _
  | succ j ih =>
    by_cases e : i = j + 1
    · rw [e]; exact Nat.le_refl _
    · exact Nat.le_trans (ih (by omega)) (h j)
theorem Filled.cells {wr : World} {g n : Nat} {f : Fr} {j m : Nat} (h : Filled wr g n f j m) (hj : j < f.items.length) :
    (∃ x, wr.cell? ⟨g, j * 3, none⟩ = some x) ∧ (∃ x, wr.cell? ⟨g, j * 3 + 1, none⟩ = some x) ∧ (∃ x, wr.cell? ⟨g, j * 3 + 2, none⟩ = some x) ∧ ∀ o, wr.frozen? ⟨g, o, none⟩ = false := by
  obtain ⟨⟨cur, hh, hs⟩, _⟩ := h
  have at_ : ∀ o, o < cur.size → ∃ x, wr.cell? ⟨g, o, none⟩ = some x := fun o ho => ⟨_, (cell_of_row wr g o _ _ (0, 0) hh).trans (Array.getElem?_eq_getElem ho)⟩
  exact ⟨at_ _ (by omega), at_ _ (by omega), at_ _ (by omega), fun o => frozen_of_row wr g o _ _ hh⟩
theorem Filled.lt {wr : World} {g n : Nat} {f : Fr} {j m : Nat} (h : Filled wr g n f j m) : g < wr.heap.size := by
  obtain ⟨⟨cur, hh, _⟩, _⟩ := h
  exact (Array.getElem?_eq_some_iff.1 hh).1
/-- Over a call that turns nothing old. -/
theorem Filled.below {wr w1 : World} {g n : Nat} {f : Fr} {j m : Nat} (h : Filled wr g n f j m) (hb : Below wr.heap.size wr w1) : Filled w1 g n f j m := by
  have hg := h.lt
  obtain ⟨⟨cur, hh, hs⟩, s, h0, hr, hj, hm, hE⟩ := h
  refine ⟨⟨cur, (hb.block g hg).trans hh, hs⟩, s, h0, hr, hj, Nat.le_trans hm hb.size, fun i k l a hi hx => ?_⟩
  obtain ⟨u, he, hsl⟩ := hE i k l a hi hx
  exact ⟨u, he.below hb hg, hsl.mono (fun g' hg' => hb.block g' (Nat.lt_of_lt_of_le hg'.2 (Nat.le_trans (rising hr hi) (Nat.le_trans hj hm)))) (fun _ hg' => hg')⟩
/-- The next one is stored. -/
theorem Filled.step {w1 : World} {g n m : Nat} {f : Fr} {j : Nat} {k : Int} {l : ByteArray} {u : Value} {a : Fr} (h : Filled w1 g n f j m) (hx : f.items[j]? = some (k, l, a)) (hs : SlT w1 n (fun h => m ≤ h ∧ h < w1.heap.size) u a) :
    let W2 := ((w1.setCell ⟨g, j * 3, none⟩ (.int .i64 k)).setCell ⟨g, j * 3 + 1, none⟩ (.string l)).setCell ⟨g, j * 3 + 2, none⟩ u
    Filled W2 g n f (j + 1) W2.heap.size := by
  intro W2
  have hlt := (List.getElem?_eq_some_iff.1 hx).1
  obtain ⟨⟨x0, b0⟩, ⟨x1, b1⟩, ⟨x2, b2⟩, _⟩ := h.cells hlt
  have hsz : W2.heap.size = w1.heap.size := by simp [W2, World.setCell]
  have ne : ∀ {o o' : Nat}, o ≠ o' → (⟨g, o, none⟩ : Addr) ≠ ⟨g, o', none⟩ := fun h e => by
    injection e with _ e2
    exact h e2
  have far : ∀ o, o < j * 3 ∨ j * 3 + 2 < o → W2.cell? ⟨g, o, none⟩ = w1.cell? ⟨g, o, none⟩ := fun o ho =>
    (World.cell?_setCell_other _ _ _ _ (ne (by omega))).trans ((World.cell?_setCell_other _ _ _ _ (ne (by omega))).trans (World.cell?_setCell_other _ _ _ _ (ne (by omega))))
  have hother : ∀ h, g ≠ h → W2.heap[h]? = w1.heap[h]? := fun h hne =>
    (Below.heap_setCell _ _ _ h (fun e => hne e.symm)).trans ((Below.heap_setCell _ _ _ h (fun e => hne e.symm)).trans (Below.heap_setCell _ _ _ h (fun e => hne e.symm)))
  have d1 : (w1.setCell ⟨g, j * 3, none⟩ (.int .i64 k)).cell? ⟨g, j * 3 + 1, none⟩ = some x1 := (World.cell?_setCell_other _ _ _ _ (ne (by omega))).trans b1
  have d2 : ((w1.setCell ⟨g, j * 3, none⟩ (.int .i64 k)).setCell ⟨g, j * 3 + 1, none⟩ (.string l)).cell? ⟨g, j * 3 + 2, none⟩ = some x2 :=
    (World.cell?_setCell_other _ _ _ _ (ne (by omega))).trans ((World.cell?_setCell_other _ _ _ _ (ne (by omega))).trans b2)
  obtain ⟨⟨cur, hh, hcs⟩, s, h0, hr, hsj, hm, hE⟩ := h
  have hgs : ∀ i, g < s i := fun i => Nat.lt_of_lt_of_le h0 (rising hr (Nat.zero_le i))
  refine ⟨⟨_, heap_setCell_same _ g (j * 3 + 2) _ _ u (heap_setCell_same _ g (j * 3 + 1) _ _ (.string l) (heap_setCell_same w1 g (j * 3) _ _ (.int .i64 k) hh)), by simpa using hcs⟩,
    cutAt s j w1.heap.size, by rw [cutAt_le (Nat.zero_le _)]; exact h0, fun i => ?_, by rw [cutAt_gt (Nat.lt_succ_self _), hsz]; exact Nat.le_refl _, Nat.le_refl _, fun i k' l' a' hi hx' => ?_⟩
  · have := hr i
    by_cases e1 : i + 1 ≤ j
    · rw [cutAt_le (by omega), cutAt_le e1]; exact this
    · rw [cutAt_gt (by omega : j < i + 1)]
      by_cases e2 : i ≤ j
      · rw [cutAt_le e2]
        have := rising hr e2
        omega
      · rw [cutAt_gt (by omega)]; exact Nat.le_refl _
  by_cases e : i = j
  · subst e
    rw [hx] at hx'
    cases hx'
    refine ⟨u, ⟨?_, ?_, World.cell?_setCell_same _ _ _ d2⟩, hs.mono (fun h hh => hother h (by have := hgs i; omega)) (fun h hh => ⟨by rw [cutAt_le (Nat.le_refl _)]; omega, by rw [cutAt_gt (Nat.lt_succ_self _)]; exact hh.2⟩)⟩
    · exact (World.cell?_setCell_other _ _ _ _ (ne (by omega))).trans ((World.cell?_setCell_other _ _ _ _ (ne (by omega))).trans (World.cell?_setCell_same _ _ _ b0))
    · exact (World.cell?_setCell_other _ _ _ _ (ne (by omega))).trans (World.cell?_setCell_same _ _ _ d1)
  · obtain ⟨u', he, hsl⟩ := hE i k' l' a' (by omega) hx'
    refine ⟨u', ⟨(far _ (by omega)).trans he.1, (far _ (by omega)).trans he.2.1, (far _ (by omega)).trans he.2.2⟩, hsl.mono (fun h hh => hother h (by have := hgs i; omega)) (fun h hh => ⟨by rw [cutAt_le (by omega)]; exact hh.1, by rw [cutAt_le (by omega)]; exact hh.2⟩)⟩

theorem to_end {w wr : World} {n : Nat} {f : Fr} (hl : f.items.length ≤ 9223372036854775807) (hls : ∀ (j : Nat) (k : Int) (l : ByteArray) (a : Fr), f.items[j]? = some (k, l, a) → l.size ≤ 9223372036854775807)
    (hF : Filled wr w.heap.size n f f.items.length wr.heap.size) (hb : Below w.heap.size w wr) : ToPostT (n + 1) f w (.returned (.slice (some ⟨w.heap.size, 0, none⟩) f.items.length f.items.length)) wr := by
  have hg := hF.lt
  obtain ⟨⟨cur, hh, hcs⟩, s, h0, hr, hsj, hm, hE⟩ := hF
  have hgs : ∀ i, w.heap.size < s i := fun i => Nat.lt_of_lt_of_le h0 (rising hr (Nat.zero_le i))
  refine ⟨_, rfl, ⟨hl, .inr ⟨w.heap.size, 0, _, fun j h => j < f.items.length ∧ s j ≤ h ∧ h < s (j + 1), rfl, ⟨Nat.le_refl _, hg⟩, ⟨cur, _, hh⟩, fun j h hj => ?_, fun i j h hi hj => ?_, fun j k l a hx => ⟨hls j k l a hx, ?_⟩⟩⟩, hb⟩
  · have h1 := hgs j
    have h2 := rising hr (show j + 1 ≤ f.items.length from hj.1)
    exact ⟨⟨by omega, by omega⟩, by omega⟩
  · by_cases e : i = j
    · exact e
    · by_cases e2 : i < j
      · have := rising hr (show i + 1 ≤ j from e2)
        omega
      · have := rising hr (show j + 1 ≤ i by omega)
        omega
  · obtain ⟨u, he, hsl⟩ := hE j k l a (List.getElem?_eq_some_iff.1 hx).1 hx
    refine ⟨u, by rw [Nat.zero_add]; exact he, hsl.mono (fun _ _ => rfl) (fun h hh => ⟨(List.getElem?_eq_some_iff.1 hx).1, hh.1, hh.2⟩)⟩

set_option maxHeartbeats 1600000 in
theorem toST_any (n : Nat) : ∀ (B : Nat) (v : Value) (f : Fr) (w : World), Sl w B n v f → B ≤ w.heap.size → f.size ≤ 2097152 → Calls Tryz.prog 46 #[v] w (ToPostT n f w) := by
  induction n with
  | zero => intro B v f w h; exact h.zero.elim
  | succ n ih =>
    intro B v f w hS hB hsz
    obtain ⟨i0, hi, hz0, hz1, hz2⟩ := info_parts rxInfo
    obtain ⟨hl, A, c, rfl, hE⟩ := hS.open
    have hlen := f.len_size
    have HE := Lib.hid hE
    have hls : ∀ (j : Nat) (k : Int) (l : ByteArray) (a : Fr), f.items[j]? = some (k, l, a) → l.size ≤ 9223372036854775807 := fun j k l a hx => by
      obtain ⟨g, o, _, _, k', l', a', u, hx', hls, _⟩ := hE j (List.getElem?_eq_some_iff.1 hx).1
      rw [hx] at hx'
      cases hx'
      exact hls
    have HLS := Lib.hid hls
    clear hE hS hls
    go_enter Tryz.func46, Tryz.ntmps46
    go_wp2_with (at_make; refine wpList_make_full _ rfl _ _ 24 rfl w.heap.size 26 i0 _ 3 Tryz.underlying24 hi hz0 hz1 _ _ _ _ f.items.length rfl rfl rfl rfl (by rw [hz2]; omega) (by unfold maxLen; omega) (Nat.le_refl _) ?_; intro w1 hown hgr)
    have hF0 : Filled w1 w.heap.size n f 0 w1.heap.size ∧ Below w.heap.size w w1 := by
      have hsz : w.heap.size < w1.heap.size := by
        rcases hown.2 with ⟨e, _⟩ | ⟨g, cap, cur, e, _, hh, _, _, hcs, _⟩
        · cases e
        · cases e
          exact (Array.getElem?_eq_some_iff.1 hh).1
      refine ⟨⟨?_, fun _ => w.heap.size + 1, Nat.lt_succ_self _, fun _ => Nat.le_refl _, hsz, Nat.le_refl _, fun i k l a hi => absurd hi (Nat.not_lt_zero _)⟩, ⟨hgr.os, hgr.tape, hgr.output, hgr.size, fun k hk => hgr.block k hk (fun e => by cases e)⟩⟩
      rcases hown.2 with ⟨e, _⟩ | ⟨g, cap, cur, e, _, hh, _, _, hcs, _⟩
      · cases e
      · cases e
        exact ⟨cur, hh, hcs⟩
    obtain ⟨hf0, hb0⟩ := hF0
    clear hown hgr
    go_loopw [4] (fun i wr => ∃ j : Nat, i = .int .i64 j ∧ j ≤ f.items.length ∧ Filled wr w.heap.size n f j wr.heap.size ∧ Below w.heap.size w wr) (fun i _ => f.items.length - (intOf i).toNat)
    case atStart => exact ⟨0, rfl, Nat.zero_le _, hf0, hb0⟩
    case round =>
      obtain ⟨j, rfl, hj, hfil, hb⟩ := hrel
      have HF := Lib.hid hfil
      have HB := Lib.hid hb
      have hwz := hb.size
      clear hfil hb
      by_cases hlt : j < f.items.length
      · obtain ⟨g, o, rfl, hg, k, l, a, u, hx, hls, he, h4⟩ := HE.out j hlt
        obtain ⟨hc0, hc1, hc2⟩ := he.below HB.out (Nat.lt_of_lt_of_le hg hB)
        have hsa := Fr.size_item hx
        have HI := Lib.hid (toNodeT_of ih B k l u a wr (h4.mono (HB.out.mono hB) (Nat.le_refl _)) (by omega) (by omega))
        have HX := Lib.hid hx
        clear he h4 hx
        go_wp2_with fail
        refine HI.out.mono ?_
        rintro e w2 ⟨u', rfl, hsl, hb2⟩
        obtain ⟨A', c', rfl⟩ := hsl.shape
        have HF2 := Lib.hid (HF.out.below hb2)
        obtain ⟨⟨x0, b0⟩, ⟨x1, b1⟩, ⟨x2, b2⟩, hfr⟩ := HF2.out.cells hlt
        have f0 := hfr (j * 3)
        have f1 := hfr (j * 3 + 1)
        have f2 := hfr (j * 3 + 2)
        have HS := Lib.hid (HF2.out.step HX.out hsl)
        have HB2 := Lib.hid ((((HB.out.trans (hb2.mono hwz)).setCell (p := ⟨w.heap.size, j * 3, none⟩) (Nat.le_refl _) (.int .i64 k)).setCell (p := ⟨w.heap.size, j * 3 + 1, none⟩) (Nat.le_refl _) (.string l)).setCell (p := ⟨w.heap.size, j * 3 + 2, none⟩) (Nat.le_refl _) (.slice A' a.items.length c'))
        clear hfr hsl hb2
        go_wp2_with fail
        go_roundw
        case rel => exact ⟨j + 1, by go_num, by omega, HS.out, HB2.out⟩
        case measure => simp [intOf]; omega
      · obtain rfl : j = f.items.length := by omega
        go_wp2_with fail
        go_ret
        exact to_end hl HLS.out HF.out HB.out
theorem toNode_of {n : Nat} (ih : ∀ (B : Nat) (u : Value) (f : Fr) (w : World), Sl w B n u f → B ≤ w.heap.size → f.size ≤ 2097152 → Calls Tryz.prog 46 #[u] w (ToPostT n f w))
    (B : Nat) (k : Int) (l : ByteArray) (u : Value) (a : Fr) (w : World) (hS : Sl w B n u a) (hB : B ≤ w.heap.size) (hsz : a.size ≤ 2097152) :
    Calls Tryz.prog 18 #[.agg #[.int .i64 k, .string l, u]] w (ToNode n k l a w) :=
  (toNodeT_of ih B k l u a w hS hB hsz).mono fun _ _ ⟨v, he, hs, hb⟩ => ⟨v, he, hs.sl, hb⟩
theorem toS_any (n : Nat) : ∀ (B : Nat) (v : Value) (f : Fr) (w : World), Sl w B n v f → B ≤ w.heap.size → f.size ≤ 2097152 → Calls Tryz.prog 46 #[v] w (ToPostT n f w) := toST_any n
theorem own_sl {w w' : World} {n : Nat} {v : Value} {f : Fr} (h : SlP w' (fun g => w.heap.size ≤ g ∧ g < w'.heap.size) n v f) : Sl w' w'.heap.size n v f := SlP.mono (fun _ _ => rfl) (fun _ hg => hg.2) h
end Go.Proofs.YthmfncklepkddaaGreatDoor

/-
  The decimal digits of a number, one by one, from the last; a string of one byte made by way of a slice.
-/
namespace Go.Proofs.YthmfncklepkddaaGreatDoor
open Go.RowKit

/-- The last decimal digit of k, as a byte. -/
def dgt (k : Nat) : UInt8 := UInt8.ofNat (48 + k % 10)
theorem dec_step (k : Nat) (L D : List UInt8) (hk : 0 < k) (h : Lib.decDigits k ++ L = D) :
    (k / 10 = 0 → dgt k :: L = D) ∧ (k / 10 ≠ 0 → Lib.decDigits (k / 10) ++ dgt k :: L = D) := by
  rw [Lib.decDigits] at h
  constructor
  · intro h0
    rw [dif_pos (by omega)] at h
    unfold dgt
    rw [show k % 10 = k by omega]
    simpa using h
  · intro h0
    rw [dif_neg (by omega)] at h
    unfold dgt
    simpa using h

def FmtRel (k0 : Nat) (k : Nat) (L : List UInt8) : Prop := (k = 0 → L = Lib.decDigits k0) ∧ (k ≠ 0 → Lib.decDigits k ++ L = Lib.decDigits k0)
theorem FmtRel.start {k : Nat} (h : 0 < k) : FmtRel k k [] := ⟨fun e => by omega, fun _ => by simp⟩
theorem FmtRel.step {k0 k : Nat} {L : List UInt8} (h : FmtRel k0 k L) (hk : 0 < k) : FmtRel k0 (k / 10) (dgt k :: L) :=
  dec_step k L _ hk (h.2 (by omega))

theorem FmtRel.len {n k : Nat} {L : List UInt8} (h : FmtRel n k L) (h1 : n ≤ 9223372036854775807) : L.length ≤ 21 := by
  have hn := Lib.itoa_length_le (n : Int) (by omega) (by omega)
  rw [Lib.itoa_nonneg] at hn
  by_cases hk : k = 0
  · rw [h.1 hk]; exact hn
  · have := congrArg List.length (h.2 hk)
    simp at this
    omega
theorem str_cons (b : UInt8) (L : List UInt8) : (⟨#[b]⟩ : ByteArray) ++ ⟨L.toArray⟩ = ⟨(b :: L).toArray⟩ := by
  rw [ByteArray.mk_append_mk]; simp

/-- string([]byte{b}) -/
theorem conv_one (w : World) (z : Int) (b : UInt8) (hz : z = (b.toNat : Int)) :
    (convert 22 9 (.slice (some ⟨w.heap.size, 0, none⟩) 1 1)).run Tryz.prog (w.alloc (.cells #[.int .u8 z] 5)) = .ok (.string ⟨#[b]⟩) (w.alloc (.cells #[.int .u8 z] 5)) := by
  subst hz
  exact run_convert_bytes_back (P := Tryz.prog) (w.alloc (.cells #[.int .u8 (b.toNat : Int)] 5)) 22 9 5 ⟨w.heap.size, 0, none⟩ 1 [b] Tryz.underlying22 Tryz.underlying5 Tryz.underlying9 (by
    intro j hj
    have : j = 0 := by simp at hj; omega
    subst this
    simp [Addr.add])

theorem digit_cell (k : Nat) : (48 + (k : Int) % 10) = ((dgt k).toNat : Int) := by
  unfold dgt
  rw [UInt8.toNat_ofNat']
  omega

end Go.Proofs.YthmfncklepkddaaGreatDoor

/-
  What the laws' own markText answers.
-/
namespace Go.Proofs.YthmfncklepkddaaGreatDoor
open Go.RowKit

theorem below_drewN {B : Nat} {a w : World} (h : Below B a w) (n : Nat) : Below B a (w.drewN n) := ⟨h.os, h.tape, h.output, h.size, h.block⟩

/-- What markText makes of a number. -/
def markB (k : Nat) : List UInt8 := 109 :: Lib.decDigits k

set_option maxHeartbeats 400000 in
theorem markText_any (n : Nat) (w : World) (h0 : 0 < n) (h1 : n ≤ 9223372036854775807) :
    Calls Tryz.prog 92 #[.int .i64 n] w fun e w' => e = .returned (.string ⟨(markB n).toArray⟩) ∧ Below w.heap.size w w' := by
  have e2 : decide ((n : Int) ≤ 0) = false := by simp; omega
  go_enter Tryz.func92, Tryz.ntmps92
  go_wp2
  go_loopw [0, 3] (fun m o wr => ∃ (k : Nat) (L : List UInt8), m = .int .i64 k ∧ o = .string ⟨L.toArray⟩ ∧ k ≤ n ∧ FmtRel n k L ∧ Below w.heap.size w wr) (fun m _ _ => (intOf m).toNat)
  case atStart => exact ⟨n, [], rfl, rfl, Nat.le_refl _, FmtRel.start h0, Below.refl _ _⟩
  case round =>
    obtain ⟨k, L, rfl, rfl, hkn, hrel, hb⟩ := hrel
    have hlen := hrel.len h1
    by_cases hk : 0 < k
    · have hcv := conv_one wr (48 + (k : Int) % 10) (dgt k) (digit_cell k)
      go_wp2
      all_goals
        go_roundw
        case rel => exact ⟨k / 10, dgt k :: L, by go_num, congrArg Value.string (str_cons _ _), by omega, hrel.step hk, hb.alloc hb.size _⟩
        case measure => simp [intOf]; omega
    · obtain rfl : k = 0 := by omega
      go_wp2
      go_ret
      exact ⟨by unfold markB; rw [← hrel.1 rfl]; exact congrArg (fun s => Ending.returned (Value.string s)) (str_cons _ _), hb⟩

/-- markText, and a cell of an old block. -/
theorem markText_cell (n : Nat) (w0 w : World) (a : Addr) (v : Value) (h0 : 0 < n) (h1 : n ≤ 9223372036854775807) (hb : Below w0.heap.size w0 w) (ha : a.block < w0.heap.size) (hc : w.cell? a = some v) :
    Calls Tryz.prog 92 #[.int .i64 n] w fun e w' => e = .returned (.string ⟨(markB n).toArray⟩) ∧ w'.cell? a = some v ∧ Below w0.heap.size w0 w' :=
  (markText_any n w h0 h1).mono fun _ _ ⟨he, h⟩ => ⟨he, (h.cell (Nat.lt_of_lt_of_le ha hb.size)).trans hc, hb.trans (h.mono hb.size)⟩

end Go.Proofs.YthmfncklepkddaaGreatDoor

/-
  What the laws' own helpers markRegex and heldRegex do to an expression that is a tree of its own: its parts are marked, one by one; the marks are found again.
-/
namespace Go.Proofs.YthmfncklepkddaaGreatDoor
open Go.RowKit

/-- A row whose nodes bear the marks from k on. -/
def mkF : Nat → Fr → Fr
  | _, .nil => .nil
  | k, .cons _ _ a r => .cons (k : Int) ⟨(markB (k + 1)).toArray⟩ (mkF (k + 2) a) (mkF (k + 2 * (a.size + 1)) r)
def szs (L : List (Int × ByteArray × Fr)) : Nat := (L.map fun x => x.2.2.size + 1).sum
theorem szs_items : ∀ f : Fr, f.size = szs f.items
  | .nil => rfl
  | .cons k l a r => by
    have := szs_items r
    simp only [Fr.size, Fr.items, szs, List.map_cons, List.sum_cons] at this ⊢
    omega
theorem szs_step {f : Fr} {j : Nat} {k : Int} {l : ByteArray} {a : Fr} (h : f.items[j]? = some (k, l, a)) : szs (f.items.take (j + 1)) = szs (f.items.take j) + (a.size + 1) := by
  have hlt := (List.getElem?_eq_some_iff.1 h).1
  rw [List.take_succ_eq_append_getElem hlt, (List.getElem?_eq_some_iff.1 h).2]
  simp [szs]
theorem szs_take : ∀ (L : List (Int × ByteArray × Fr)) (j : Nat), szs (L.take j) ≤ szs L
  | _, 0 => by simp [szs]
  | [], _ + 1 => Nat.le_refl _
  | x :: r, j + 1 => by
    have := szs_take r j
    simp only [szs, List.take_succ_cons, List.map_cons, List.sum_cons] at this ⊢
    omega
theorem mk_len : ∀ (f : Fr) (k : Nat), (mkF k f).items.length = f.items.length
  | .nil, _ => rfl
  | .cons _ _ a r, k => by simp [mkF, Fr.items, mk_len r]
theorem mk_items : ∀ (f : Fr) (k j : Nat) (x : Int × ByteArray × Fr), f.items[j]? = some x → (mkF k f).items[j]? = some (((k + 2 * szs (f.items.take j) : Nat) : Int), ⟨(markB (k + 2 * szs (f.items.take j) + 1)).toArray⟩, mkF (k + 2 * szs (f.items.take j) + 2) x.2.2)
  | .nil, _, j, x, h => by simp [Fr.items] at h
  | .cons k0 l a r, k, 0, x, h => by
    simp [Fr.items] at h
    subst h
    simp [mkF, Fr.items, szs]
  | .cons k0 l a r, k, j + 1, x, h => by
    simp only [Fr.items, List.getElem?_cons_succ] at h
    have ih := mk_items r (k + 2 * (a.size + 1)) j x h
    have e : k + 2 * szs ((Fr.cons k0 l a r).items.take (j + 1)) = k + 2 * (a.size + 1) + 2 * szs (r.items.take j) := by
      simp only [Fr.items, List.take_succ_cons, szs, List.map_cons, List.sum_cons]
      omega
    rw [e]
    simpa [mkF, Fr.items] using ih
theorem mk_get {f : Fr} {k j : Nat} {k1 : Int} {l1 : ByteArray} {a1 : Fr} (h : (mkF k f).items[j]? = some (k1, l1, a1)) : ∃ x, f.items[j]? = some x ∧ k1 = ((k + 2 * szs (f.items.take j) : Nat) : Int) ∧ l1 = ⟨(markB (k + 2 * szs (f.items.take j) + 1)).toArray⟩ ∧ a1 = mkF (k + 2 * szs (f.items.take j) + 2) x.2.2 := by
  have hj : j < f.items.length := by have := (List.getElem?_eq_some_iff.1 h).1; rwa [mk_len] at this
  obtain ⟨x, hx⟩ : ∃ x, f.items[j]? = some x := ⟨_, List.getElem?_eq_getElem hj⟩
  rw [mk_items f k j x hx] at h
  cases h
  exact ⟨x, hx, rfl, rfl, rfl⟩
theorem markB_len (n : Nat) (h : n ≤ 9223372036854775807) : (markB n).length ≤ 22 := by
  have := Lib.itoa_length_le (n : Int) (by omega) (by omega)
  rw [Lib.itoa_nonneg] at this
  simp only [markB, List.length_cons]
  omega


/-- The row in block g, its first j nodes marked. -/
structure MkRel (wr : World) (n k g o : Nat) (K : Nat → Nat → Prop) (f : Fr) (j : Nat) : Prop where
  plain : Plain wr g
  done : ∀ i x, i < j → f.items[i]? = some x → ∃ u, ElAt wr g (o + i * 3) ((k + 2 * szs (f.items.take i) : Nat) : Int) ⟨(markB (k + 2 * szs (f.items.take i) + 1)).toArray⟩ u ∧ SlT wr n (K i) u (mkF (k + 2 * szs (f.items.take i) + 2) x.2.2)
  left : ∀ i x, j ≤ i → f.items[i]? = some x → ∃ u, ElAt wr g (o + i * 3) x.1 x.2.1 u ∧ SlT wr n (K i) u x.2.2
theorem plain_set {w : World} {g : Nat} (h : Plain w g) (o : Nat) (v : Value) : Plain (w.setCell ⟨g, o, none⟩ v) g := by
  obtain ⟨cur, t, h⟩ := h
  exact ⟨_, _, heap_setCell_same w g o _ _ v h⟩
theorem ElAt.set_other {w : World} {g o : Nat} {k : Int} {l : ByteArray} {u v : Value} {p : Nat} (h : ElAt w g o k l u) (hp : p < o ∨ o + 2 < p) : ElAt (w.setCell ⟨g, p, none⟩ v) g o k l u := by
  have ne : ∀ {q : Nat}, q ≠ p → (⟨g, p, none⟩ : Addr) ≠ ⟨g, q, none⟩ := fun h e => by
    injection e with _ e2
    exact h e2.symm
  exact ⟨(World.cell?_setCell_other _ _ _ _ (ne (by omega))).trans h.1, (World.cell?_setCell_other _ _ _ _ (ne (by omega))).trans h.2.1, (World.cell?_setCell_other _ _ _ _ (ne (by omega))).trans h.2.2⟩

/-- One node more is marked. -/
theorem mk_step {wr w2 : World} {n k g o j : Nat} {K : Nat → Nat → Prop} {f : Fr} {x : Int × ByteArray × Fr} {A : Option Addr} {c m : Nat} {s : ByteArray} (h : MkRel wr n k g o K f j) (hx : f.items[j]? = some x) (hKg : ∀ i h, K i h → h ≠ g) (hKd : ∀ i j h, K i h → K j h → i = j) (hKl : ∀ i h, K i h → h < wr.heap.size) (hgl : g < wr.heap.size)
    (hu : ElAt wr g (o + j * 3) x.1 x.2.1 (.slice A m c)) (hsu : SlT wr n (K j) (.slice A m c) x.2.2) (hb : Below (wr.setCell ⟨g, o + j * 3, none⟩ (.int .i64 ((k + 2 * szs (f.items.take j) : Nat) : Int))).heap.size (wr.setCell ⟨g, o + j * 3, none⟩ (.int .i64 ((k + 2 * szs (f.items.take j) : Nat) : Int))) w2)
    (hs : s = ⟨(markB (k + 2 * szs (f.items.take j) + 1)).toArray⟩) :
    let W3 := w2.setCell ⟨g, o + j * 3 + 1, none⟩ (.string s)
    SlT W3 n (K j) (.slice A m c) x.2.2 ∧ (∀ h, K j h → h < W3.heap.size) ∧ W3.cell? ⟨g, o + j * 3 + 2, none⟩ = some (.slice A m c) ∧
      ∀ w4 : World, Chg (K j) W3 w4 → SlT w4 n (K j) (.slice A m c) (mkF (k + 2 * szs (f.items.take j) + 2) x.2.2) → MkRel w4 n k g o K f (j + 1) ∧ Chg (fun h => h = g ∨ ∃ i, K i h) wr w4 := by
  intro W3
  have ne : ∀ {p q : Nat}, p ≠ q → (⟨g, p, none⟩ : Addr) ≠ ⟨g, q, none⟩ := fun h e => by
    injection e with _ e2
    exact h e2
  have hz1 : (wr.setCell ⟨g, o + j * 3, none⟩ (.int .i64 ((k + 2 * szs (f.items.take j) : Nat) : Int))).heap.size = wr.heap.size := by simp [World.setCell]
  have hz3 : W3.heap.size = w2.heap.size := by simp [W3, World.setCell]
  have hz : wr.heap.size ≤ W3.heap.size := by rw [hz3, ← hz1]; exact hb.size
  have B1 : ∀ h, h < wr.heap.size → h ≠ g → W3.heap[h]? = wr.heap[h]? := fun h hl hg =>
    ((Below.heap_setCell _ _ _ h hg).trans (hb.block h (by rw [hz1]; exact hl))).trans (Below.heap_setCell _ _ _ h hg)
  have C1 : ∀ p, p ≠ o + j * 3 → p ≠ o + j * 3 + 1 → W3.cell? ⟨g, p, none⟩ = wr.cell? ⟨g, p, none⟩ := fun p h1 h2 =>
    ((World.cell?_setCell_other _ _ _ _ (ne (Ne.symm h2))).trans (hb.cell (p := ⟨g, p, none⟩) (by rw [hz1]; exact hgl))).trans (World.cell?_setCell_other _ _ _ _ (ne (Ne.symm h1)))
  have C2 : W3.cell? ⟨g, o + j * 3, none⟩ = some (.int .i64 ((k + 2 * szs (f.items.take j) : Nat) : Int)) :=
    ((World.cell?_setCell_other _ _ _ _ (ne (by omega))).trans (hb.cell (p := ⟨g, o + j * 3, none⟩) (by rw [hz1]; exact hgl))).trans (World.cell?_setCell_same _ _ _ hu.1)
  have C3 : W3.cell? ⟨g, o + j * 3 + 1, none⟩ = some (.string s) :=
    World.cell?_setCell_same _ _ _ ((hb.cell (p := ⟨g, o + j * 3 + 1, none⟩) (by rw [hz1]; exact hgl)).trans ((World.cell?_setCell_other _ _ _ _ (ne (by omega))).trans hu.2.1))
  refine ⟨hsu.mono (fun h hh => B1 h (hKl j h hh) (hKg j h hh)) (fun _ h => h), fun h hh => Nat.lt_of_lt_of_le (hKl j h hh) hz, (C1 _ (by omega) (by omega)).trans hu.2.2, fun w4 hc h4 => ?_⟩
  have hg4 : w4.heap[g]? = W3.heap[g]? := hc.block g (Nat.lt_of_lt_of_le hgl hz) (fun h => hKg j g h rfl)
  have el : ∀ {i : Nat} {k1 : Int} {l1 : ByteArray} {u : Value}, i ≠ j → ElAt wr g (o + i * 3) k1 l1 u → ElAt w4 g (o + i * 3) k1 l1 u := fun {i k1 l1 u} hij he => by
    have h' : ElAt W3 g (o + i * 3) k1 l1 u := ⟨(C1 _ (by omega) (by omega)).trans he.1, (C1 _ (by omega) (by omega)).trans he.2.1, (C1 _ (by omega) (by omega)).trans he.2.2⟩
    exact h'.same hg4
  have sl : ∀ {i : Nat} {u : Value} {a : Fr}, i ≠ j → SlT wr n (K i) u a → SlT w4 n (K i) u a := fun {i u a} hij hs =>
    hs.mono (fun h hh => (hc.block h (Nat.lt_of_lt_of_le (hKl i h hh) hz) (fun hj => hij (hKd i j h hh hj))).trans (B1 h (hKl i h hh) (hKg i h hh))) (fun _ h => h)
  refine ⟨⟨?_, ?_, ?_⟩, ?_⟩
  · have p1 : Plain W3 g := plain_set ((plain_set h.plain _ _).same (hb.block g (by rw [hz1]; exact hgl))) _ _
    exact p1.same hg4
  · intro i y hi hy
    by_cases hij : i = j
    · subst hij
      rw [hx] at hy
      cases hy
      refine ⟨_, ElAt.same (w := W3) ⟨C2, ?_, (C1 _ (by omega) (by omega)).trans hu.2.2⟩ hg4, h4⟩
      rw [C3, hs]
    · obtain ⟨u, he, hs4⟩ := h.done i y (by omega) hy
      exact ⟨u, el hij he, sl hij hs4⟩
  · intro i y hi hy
    obtain ⟨u, he, hs4⟩ := h.left i y (by omega) hy
    exact ⟨u, el (by omega) he, sl (by omega) hs4⟩
  · refine ⟨hc.os.trans hb.os, hc.tape.trans hb.tape, hc.output.trans hb.output, Nat.le_trans hz hc.size, fun h hl hn => ?_⟩
    exact (hc.block h (Nat.lt_of_lt_of_le hl hz) (fun hj => hn (.inr ⟨j, hj⟩))).trans (B1 h hl (fun e => hn (.inl e)))

theorem mk_two {wr w2 : World} {n k g o j : Nat} {K : Nat → Nat → Prop} {f : Fr} {x : Int × ByteArray × Fr} {u v : Value} (h : MkRel wr n k g o K f j) (hgl : g < wr.heap.size)
    (hu : ElAt wr g (o + j * 3) x.1 x.2.1 u) (hb : Below (wr.setCell ⟨g, o + j * 3, none⟩ v).heap.size (wr.setCell ⟨g, o + j * 3, none⟩ v) w2) :
    (∃ z, w2.cell? ⟨g, o + j * 3 + 1, none⟩ = some z) ∧ w2.frozen? ⟨g, o + j * 3 + 1, none⟩ = false := by
  have hz1 : (wr.setCell ⟨g, o + j * 3, none⟩ v).heap.size = wr.heap.size := by simp [World.setCell]
  have ne : (⟨g, o + j * 3, none⟩ : Addr) ≠ ⟨g, o + j * 3 + 1, none⟩ := fun e => by
    injection e with _ e2
    omega
  refine ⟨⟨_, (hb.cell (p := ⟨g, o + j * 3 + 1, none⟩) (by rw [hz1]; exact hgl)).trans ((World.cell?_setCell_other _ _ _ _ ne).trans hu.2.1)⟩, ?_⟩
  obtain ⟨cur, T, hp⟩ := (plain_set h.plain (o + j * 3) v).same (hb.block g (by rw [hz1]; exact hgl))
  exact frozen_of_row w2 g _ _ _ hp

set_option maxRecDepth 100000 in
set_option maxHeartbeats 1600000 in
theorem markS_any (n : Nat) : ∀ (k : Nat) (S : Nat → Prop) (v : Value) (f : Fr) (w : World), SlT w n S v f → (∀ g, S g → g < w.heap.size) → 0 < k → k + 2 * f.size ≤ 9223372036854775800 →
    Calls Tryz.prog 50 #[v, .int .i64 k] w fun e w' => e = .returned (.int .i64 ((k + 2 * f.size : Nat) : Int)) ∧ SlT w' n S v (mkF k f) ∧ Chg S w w' := by
  induction n with
  | zero => intro k S v f w h; exact h.elim
  | succ n ih =>
    intro k S v f w ⟨hl, h⟩ hSl hk0 hkm
    rcases h with ⟨h0, A, c, rfl⟩ | ⟨g, o, c, K, rfl, hg, hp, hK, hd, hc⟩
    · obtain rfl : f = .nil := by
        cases f with
        | nil => rfl
        | cons _ _ _ _ => simp [Fr.items] at h0
      go_enter Tryz.func50, Tryz.ntmps50
      go_wp2_with fail
      go_loopw [1, 5] (fun kv i wr => kv = .int .i64 k ∧ i = .int .i64 0 ∧ Chg S w wr) (fun _ _ _ => 0)
      case atStart => exact ⟨rfl, rfl, Chg.refl _ _⟩
      case round =>
        obtain ⟨rfl, rfl, hch⟩ := hrel
        have HCH := Lib.hid hch
        clear hch
        go_wp2_with fail
        go_ret
        exact ⟨rfl, SlT.none _ _ _ _ _, HCH.out⟩
    · have hgl := hSl g hg
      have hsz : k + 2 * szs f.items ≤ 9223372036854775800 := by rw [← szs_items]; exact hkm
      have HKL := Lib.hid (fun i h (hh : K i h) => hSl h (hK i h hh).1)
      have HKG := Lib.hid (fun i h (hh : K i h) => (hK i h hh).2)
      have HKS := Lib.hid (fun i h (hh : K i h) => (hK i h hh).1)
      have HD := Lib.hid hd
      have H0 := Lib.hid (show MkRel w n k g o K f 0 from ⟨hp, fun i x hi => absurd hi (Nat.not_lt_zero _), fun i x _ hx => (hc i x.1 x.2.1 x.2.2 hx).2⟩)
      have HLS := Lib.hid (fun j k' l a hj => (hc j k' l a hj).1)
      have HG := Lib.hid hg
      have HSZ := Lib.hid (szs_items f)
      clear hp hK hd hc hSl hg
      go_enter Tryz.func50, Tryz.ntmps50
      go_wp2_with fail
      go_loopw [1, 5] (fun kv i wr => ∃ j q : Nat, i = .int .i64 j ∧ kv = .int .i64 (q : Int) ∧ q = k + 2 * szs (f.items.take j) ∧ j ≤ f.items.length ∧ MkRel wr n k g o K f j ∧ Chg S w wr) (fun _ i _ => f.items.length - (intOf i).toNat)
      case atStart => exact ⟨0, k, rfl, rfl, by simp [szs], Nat.zero_le _, H0.out, Chg.refl _ _⟩
      case round =>
        obtain ⟨j, q, rfl, rfl, hq, hj, hrel, hch⟩ := hrel
        have hglr : g < wr.heap.size := Nat.lt_of_lt_of_le hgl hch.size
        have HCH := Lib.hid hch
        have HR := Lib.hid hrel
        have hwz := hch.size
        clear hch hrel
        by_cases hlt : j < f.items.length
        · obtain ⟨⟨k1, l1, a1⟩, hx⟩ : ∃ x, f.items[j]? = some x := ⟨_, List.getElem?_eq_getElem hlt⟩
          obtain ⟨u, hu, hsu⟩ := HR.out.left j _ (Nat.le_refl _) hx
          obtain ⟨A, m, rfl⟩ := hsu.shape
          have hst := szs_step hx
          have hle := szs_take f.items (j + 1)
          have hq2 : k + 2 * szs (f.items.take (j + 1)) = q + 2 + 2 * a1.size := by omega
          have hq0 : 0 < q := by omega
          have hqm : q + 2 + 2 * a1.size ≤ 9223372036854775800 := by omega
          have HS := Lib.hid (fun w2 hb => mk_step (w2 := w2) (s := ⟨(markB (q + 1)).toArray⟩) HR.out hx (fun i h hh => HKG.out i h hh) (fun i j h hi hj => HD.out i j h hi hj) (fun i h hh => Nat.lt_of_lt_of_le (HKL.out i h hh) hwz) hglr hu hsu hb (by rw [hq]))
          have HT := Lib.hid (fun w2 hb => mk_two (w2 := w2) (v := .int .i64 ((q : Nat) : Int)) HR.out hglr hu hb)
          have hc0 := hu.1
          have hf0 : wr.frozen? ⟨g, o + j * 3, none⟩ = false := by
            obtain ⟨cur, T, hp⟩ := HR.out.plain
            exact frozen_of_row wr g _ _ _ hp
          rw [← hq] at HS
          have HQ2 := Lib.hid hq2
          clear hq hq2
          clear hu hsu hst hle hx
          go_wp2_with fail
          go_at_call 92
          refine (markText_any (q + 1) _ (by omega) (by omega)).mono ?_
          rintro e w1 ⟨rfl, hb1⟩
          obtain ⟨⟨z, hcz⟩, hfz⟩ := HT.out w1 hb1
          obtain ⟨s3, sl3, sc3, s4⟩ := HS.out w1 hb1
          have H4 := Lib.hid s4
          have HI := Lib.hid (ih (q + 2) (K j) _ a1 _ s3 sl3 (by omega) (by omega))
          clear s4 s3 sl3
          go_wp2_with fail
          go_at_call 50
          refine HI.out.mono ?_
          rintro e w4 ⟨rfl, h4, hch4⟩
          obtain ⟨r4, c4⟩ := H4.out w4 hch4 h4
          go_wp2_with fail
          go_roundw
          case rel => exact ⟨j + 1, q + 2 + 2 * a1.size, by go_num, by go_num, HQ2.out.symm, by omega, r4, HCH.out.trans (c4.more (fun h hh => by
            rcases hh with rfl | ⟨i, hh⟩
            · exact HG.out
            · exact HKS.out i h hh))⟩
          case measure => simp [intOf]; omega
        · have hje : j = f.items.length := by omega
          have hqe : q = k + 2 * f.size := by rw [hq, hje, List.take_length, HSZ.out]
          have HQ := Lib.hid hqe
          have HJ := Lib.hid hje
          have hd : decide ((j : Int) < (f.items.length : Int)) = false := by simp; omega
          clear hq hqe hje
          go_wp2_with fail
          go_ret
          obtain rfl := HJ.out
          refine ⟨by rw [HQ.out]; rfl, ⟨by rw [mk_len]; exact hl, .inr ⟨g, o, c, K, by rw [mk_len], HG.out, HR.out.plain, fun j h hh => ⟨HKS.out j h hh, HKG.out j h hh⟩, HD.out, fun j k1 l1 a1 hj1 => ?_⟩⟩, HCH.out⟩
          obtain ⟨x, hx, rfl, rfl, rfl⟩ := mk_get hj1
          obtain ⟨u, hu, hsu⟩ := HR.out.done j x (by have := (List.getElem?_eq_some_iff.1 hx).1; exact this) hx
          have hst := szs_step hx
          have hle := szs_take f.items (j + 1)
          refine ⟨?_, u, hu, hsu⟩
          have := markB_len (k + 2 * szs (f.items.take j) + 1) (by omega)
          show (markB (k + 2 * szs (f.items.take j) + 1)).toArray.size ≤ _
          simp only [List.size_toArray]
          omega
end Go.Proofs.YthmfncklepkddaaGreatDoor

/-
  What the laws' own helpers heldRegex and markRegex answer.
-/
namespace Go.Proofs.YthmfncklepkddaaGreatDoor
open Go.RowKit

/-- markText, and two cells of an old block. -/
theorem markText_two (n : Nat) (w0 w : World) (a b : Addr) (v u : Value) (h0 : 0 < n) (h1 : n ≤ 9223372036854775807) (hb : Below w0.heap.size w0 w) (ha : a.block < w0.heap.size) (hb0 : b.block < w0.heap.size) (hc : w.cell? a = some v) (hd : w.cell? b = some u) :
    Calls Tryz.prog 92 #[.int .i64 n] w fun e w' => e = .returned (.string ⟨(markB n).toArray⟩) ∧ (w'.cell? a = some v ∧ w'.cell? b = some u) ∧ Below w0.heap.size w0 w' :=
  (markText_any n w h0 h1).mono fun _ _ ⟨he, h⟩ => ⟨he, ⟨(h.cell (Nat.lt_of_lt_of_le ha hb.size)).trans hc, (h.cell (Nat.lt_of_lt_of_le hb0 hb.size)).trans hd⟩, hb.trans (h.mono hb.size)⟩

set_option maxRecDepth 100000 in
theorem mark_any (n k : Nat) (S : Nat → Prop) (k1 : Int) (l : ByteArray) (v : Value) (f : Fr) (w : World) (h : SlT w n S v f) (hS : ∀ g, S g → g < w.heap.size) (h0 : 0 < k) (hm : k + 2 * f.size ≤ 9223372036854775800) :
    Calls Tryz.prog 21 #[.agg #[.int .i64 k1, .string l, v], .int .i64 k] w fun e w' => e = .returned (.int .i64 ((k + 2 * f.size : Nat) : Int)) ∧ SlT w' n S v (mkF k f) ∧ Chg S w w' := by
  obtain ⟨A, c, rfl⟩ := h.shape
  have hb0 := (Below.refl w.heap.size w).alloc (Nat.le_refl _) (.cells #[.int .i64 k1, .string l, .slice A f.items.length c] 26)
  have HI := Lib.hid (markS_any n k S _ f _ (h.mono (fun g hg => hb0.block g (hS g hg)) (fun _ h => h)) (fun g hg => Nat.lt_of_lt_of_le (hS g hg) hb0.size) h0 hm)
  have HB0 := Lib.hid hb0
  obtain ⟨r, hr⟩ : ∃ r, r = k + 2 * f.size := ⟨_, rfl⟩
  rw [← hr] at HI ⊢
  clear hb0 h hr
  go_enter Tryz.func21, Tryz.ntmps21
  go_wp2_with fail
  go_at_call 50
  refine HI.out.mono ?_
  rintro e w4 ⟨rfl, h4, hc⟩
  have H4 := Lib.hid h4
  have HC := Lib.hid (show Chg S w w4 from ⟨hc.os.trans HB0.out.os, hc.tape.trans HB0.out.tape, hc.output.trans HB0.out.output, Nat.le_trans HB0.out.size hc.size, fun g hg hn => (hc.block g (Nat.lt_of_lt_of_le hg HB0.out.size) hn).trans (HB0.out.block g hg)⟩)
  clear h4 hc
  go_wp2_with fail
  go_ret
  exact ⟨rfl, H4.out, HC.out⟩

end Go.Proofs.YthmfncklepkddaaGreatDoor

/-
  What spec.l3Depth answers: the depth.
  What spec.l3Left answers: what is left when a tree's nodes are taken from a number.
-/
namespace Go.Proofs.YthmfncklepkddaaGreatDoor
open Go.RowKit

/-- The deepest of the first j, and of all. -/
def deepest (L : List (Int × ByteArray × Fr)) : Nat := L.foldr (fun x n => max (x.2.2.depth + 1) n) 0
theorem depth_items : ∀ f : Fr, f.depth = deepest f.items
  | .nil => rfl
  | .cons _ _ a r => by
    simp only [Fr.depth, Fr.items, deepest, List.foldr_cons]
    rw [depth_items r]
    rfl
theorem deepest_snoc : ∀ (L : List (Int × ByteArray × Fr)) (x : Int × ByteArray × Fr), deepest (L ++ [x]) = max (deepest L) (x.2.2.depth + 1)
  | [], x => by simp [deepest]
  | y :: r, x => by
    have := deepest_snoc r x
    simp only [deepest, List.cons_append, List.foldr_cons] at this ⊢
    rw [this]
    omega

theorem l1Max_any (x y : Nat) (w : World) : Calls Tryz.prog 116 #[.int .i64 x, .int .i64 y] w fun e w' => e = .returned (.int .i64 ((max x y : Nat) : Int)) ∧ w = w' := by
  by_cases h : y < x
  · have e : max x y = x := by omega
    have HE := Lib.hid e
    clear e
    go_enter Tryz.func116, Tryz.ntmps116
    go_wp2
    go_ret
    exact ⟨congrArg (fun z : Nat => Ending.returned (.int .i64 (z : Int))) HE.out.symm, rfl⟩
  · have e : max x y = y := by omega
    have HE := Lib.hid e
    clear e
    go_enter Tryz.func116, Tryz.ntmps116
    go_wp2
    go_ret
    exact ⟨congrArg (fun z : Nat => Ending.returned (.int .i64 (z : Int))) HE.out.symm, rfl⟩

theorem depth_le : ∀ f : Fr, f.depth ≤ f.size
  | .nil => Nat.le_refl _
  | .cons _ _ a r => by
    have := depth_le a
    have := depth_le r
    simp only [Fr.depth, Fr.size]
    omega
theorem deepest_take : ∀ (L : List (Int × ByteArray × Fr)) (j : Nat), deepest (L.take j) ≤ deepest L
  | _, 0 => Nat.zero_le _
  | [], _ + 1 => Nat.le_refl _
  | x :: r, j + 1 => by
    have := deepest_take r j
    simp only [deepest, List.take_succ_cons, List.foldr_cons] at this ⊢
    omega
theorem deepest_le (f : Fr) (j : Nat) : deepest (f.items.take j) ≤ f.size := by
  have h1 := deepest_take f.items j
  rw [← depth_items] at h1
  exact Nat.le_trans h1 (depth_le f)
theorem deepest_step {f : Fr} {j : Nat} {k : Int} {l : ByteArray} {a : Fr} (h : f.items[j]? = some (k, l, a)) : deepest (f.items.take (j + 1)) = max (deepest (f.items.take j)) (a.depth + 1) := by
  have hlt := (List.getElem?_eq_some_iff.1 h).1
  rw [List.take_succ_eq_append_getElem hlt, deepest_snoc]
  rw [(List.getElem?_eq_some_iff.1 h).2]

set_option maxHeartbeats 800000 in
theorem specDepth_any (n : Nat) : ∀ (B : Nat) (k : Int) (l : ByteArray) (u : Value) (a : Fr) (w : World), Sl w B n u a → B ≤ w.heap.size → a.size ≤ 2097152 →
    Calls Tryz.prog 66 #[.agg #[.int .i64 k, .string l, u]] w fun e w' => e = .returned (.int .i64 ((a.depth + 1 : Nat) : Int)) ∧ Below w.heap.size w w' := by
  induction n with
  | zero => intro B k l u a w h; exact h.zero.elim
  | succ n ih =>
    intro B k l u a w hS hB hsz
    obtain ⟨hl, A, c, rfl, hE⟩ := hS.open
    have HE := Lib.hid hE
    clear hE hS
    go_enter Tryz.func66, Tryz.ntmps66
    go_wp2_with fail
    go_loopw [3, 4] (fun m i wr => ∃ j : Nat, i = .int .i64 j ∧ m = .int .i64 (deepest (a.items.take j) : Nat) ∧ j ≤ a.items.length ∧ Below (w.heap.size + 1) (w.alloc (.cells #[.int .i64 k, .string l, .slice A a.items.length c] 26)) wr) (fun _ i _ => a.items.length - (intOf i).toNat)
    case atStart => exact ⟨0, rfl, rfl, Nat.zero_le _, Below.refl _ _⟩
    case round =>
      obtain ⟨j, rfl, rfl, hj, hb⟩ := hrel
      have hbox := (hb.cell (p := ⟨w.heap.size, 2, none⟩) (Nat.lt_succ_self _)).trans (show _ = some (.slice A a.items.length c) by simp)
      have hwz : w.heap.size + 1 ≤ wr.heap.size := by have := hb.size; simpa using this
      have HB := Lib.hid hb
      clear hb
      by_cases hlt : j < a.items.length
      · obtain ⟨g, o, rfl, hg, k', l', a', u, hx, hls, he, h4⟩ := HE.out j hlt
        have hw : Below w.heap.size w wr := ((Below.refl _ w).alloc (Nat.le_refl _) _).trans (HB.out.mono (Nat.le_succ _))
        obtain ⟨hc0, hc1, hc2⟩ := he.below hw (Nat.lt_of_lt_of_le hg hB)
        have hsa := Fr.size_item hx
        have HX := Lib.hid hx
        have HI := Lib.hid (fun w1 (hw1 : w.heap.size ≤ w1.heap.size) (hb1 : Below w.heap.size w w1) => ih B k' l' u a' w1 (h4.mono (hb1.mono hB) (Nat.le_refl _)) (by omega) (by omega))
        have HW := Lib.hid hw
        clear he h4 hx hw
        have hd1 := deepest_le a j
        have hd2 := deepest_le a (j + 1)
        have hd3 := depth_le a'
        go_wp2_with fail
        refine (HI.out wr (by omega) HW.out).mono ?_
        rintro e w1 ⟨rfl, hb1⟩
        have HB1 := Lib.hid (HB.out.trans (hb1.mono hwz))
        clear hb1
        go_wp2_with fail
        refine (l1Max_any _ _ _).mono ?_
        rintro e w' ⟨rfl, rfl⟩
        have HT := Lib.hid (deepest_step HX.out)
        go_wp2_with fail
        go_roundw
        case rel => exact ⟨j + 1, by go_num, congrArg (fun z : Nat => Value.int .i64 (z : Int)) HT.out.symm, by omega, HB1.out⟩
        case measure => simp [intOf]; omega
      · obtain rfl : j = a.items.length := by omega
        have hd : deepest a.items ≤ a.size := by rw [← depth_items]; exact depth_le a
        have HW := Lib.hid (((Below.refl _ w).alloc (Nat.le_refl _) _).trans (HB.out.mono (Nat.le_succ _)))
        go_wp2_with fail
        go_ret
        exact ⟨by rw [depth_items]; rfl, HW.out⟩
end Go.Proofs.YthmfncklepkddaaGreatDoor

namespace Go.Proofs.YthmfncklepkddaaGreatDoor
open Go.RowKit

/-- What is left of z behind the nodes of a row; it stops where it is below 0. -/
def leftRow : Fr → Int → Int
  | .nil, z => z
  | .cons _ _ a r, z => if z < 0 then z else leftRow r (leftRow a (z - 1))
def leftL : List (Int × ByteArray × Fr) → Int → Int
  | [], z => z
  | x :: r, z => if z < 0 then z else leftL r (leftRow x.2.2 (z - 1))
theorem left_items : ∀ (f : Fr) (z : Int), leftRow f z = leftL f.items z
  | .nil, _ => rfl
  | .cons _ _ a r, z => by
    simp only [leftRow, Fr.items, leftL]
    rw [left_items r]
theorem leftRow_le : ∀ (f : Fr) (z : Int), -1 ≤ z → -1 ≤ leftRow f z ∧ leftRow f z ≤ z
  | .nil, z, h => ⟨h, Int.le_refl _⟩
  | .cons _ _ a r, z, h => by
    simp only [leftRow]
    by_cases hz : z < 0
    · rw [if_pos hz]; exact ⟨h, Int.le_refl _⟩
    · rw [if_neg hz]
      have h1 := leftRow_le a (z - 1) (by omega)
      have h2 := leftRow_le r (leftRow a (z - 1)) h1.1
      omega
theorem leftL_neg (L : List (Int × ByteArray × Fr)) (z : Int) (h : z < 0) : leftL L z = z := by
  cases L with
  | nil => rfl
  | cons x r => simp only [leftL]; rw [if_pos h]
theorem leftL_step {f : Fr} {j : Nat} {k : Int} {l : ByteArray} {a : Fr} (h : f.items[j]? = some (k, l, a)) (z : Int) (hz : ¬ z < 0) : leftL (f.items.drop j) z = leftL (f.items.drop (j + 1)) (leftRow a (z - 1)) := by
  have hlt := (List.getElem?_eq_some_iff.1 h).1
  rw [List.drop_eq_getElem_cons hlt, leftL, if_neg hz, (List.getElem?_eq_some_iff.1 h).2]

set_option maxHeartbeats 800000 in
theorem specLeft_any (n : Nat) : ∀ (B : Nat) (k : Int) (l : ByteArray) (u : Value) (a : Fr) (z : Int) (w : World), Sl w B n u a → B ≤ w.heap.size → 0 ≤ z → z ≤ 1000000 →
    Calls Tryz.prog 65 #[.agg #[.int .i64 k, .string l, u], .int .i64 z] w fun e w' => e = .returned (.int .i64 (leftRow a (z - 1))) ∧ Below w.heap.size w w' := by
  induction n with
  | zero => intro B k l u a z w h; exact h.zero.elim
  | succ n ih =>
    intro B k l u a z w hS hB hz0 hz1
    obtain ⟨hl, A, c, rfl, hE⟩ := hS.open
    have HE := Lib.hid hE
    clear hE hS
    go_enter Tryz.func65, Tryz.ntmps65
    go_wp2_with fail
    go_loopw [1, 5] (fun m i wr => ∃ (j : Nat) (y : Int), i = .int .i64 j ∧ m = .int .i64 y ∧ -1 ≤ y ∧ y ≤ 1000000 ∧ leftL (a.items.drop j) y = leftRow a (z - 1) ∧ j ≤ a.items.length ∧ Below (w.heap.size + 1) (w.alloc (.cells #[.int .i64 k, .string l, .slice A a.items.length c] 26)) wr) (fun _ i _ => a.items.length - (intOf i).toNat)
    case atStart => exact ⟨0, z - 1, rfl, rfl, by omega, by omega, by rw [left_items]; rfl, Nat.zero_le _, Below.refl _ _⟩
    case round =>
      obtain ⟨j, y, rfl, rfl, hy0, hy1, hy, hj, hb⟩ := hrel
      have HY := Lib.hid hy
      have hbox := (hb.cell (p := ⟨w.heap.size, 2, none⟩) (Nat.lt_succ_self _)).trans (show _ = some (.slice A a.items.length c) by simp)
      have hwz : w.heap.size + 1 ≤ wr.heap.size := by have := hb.size; simpa using this
      have HB := Lib.hid hb
      have HW := Lib.hid (((Below.refl _ w).alloc (Nat.le_refl _) _).trans (hb.mono (Nat.le_succ _)))
      clear hb hy
      by_cases hlt : j < a.items.length
      · by_cases hneg : y < 0
        · have HN : Hid (y = leftRow a (z - 1)) := Lib.hid (by rw [← HY.out, leftL_neg _ _ hneg])
          have hd : decide (0 ≤ y) = false := by simpa using hneg
          go_wp2_with fail
          go_ret
          exact ⟨congrArg (fun z : Int => Ending.returned (.int .i64 z)) HN.out, HW.out⟩
        · obtain ⟨g, o, rfl, hg, k', l', a', u, hx, hls, he, h4⟩ := HE.out j hlt
          obtain ⟨hc0, hc1, hc2⟩ := he.below HW.out (Nat.lt_of_lt_of_le hg hB)
          have HI := Lib.hid (fun w1 (hw1 : w.heap.size ≤ w1.heap.size) (hb1 : Below w.heap.size w w1) => ih B k' l' u a' y w1 (h4.mono (hb1.mono hB) (Nat.le_refl _)) (by omega) (by omega) hy1)
          have HS := Lib.hid (leftL_step hx y hneg)
          obtain ⟨q0, q1⟩ := leftRow_le a' (y - 1) (by omega)
          have hy2 : 0 ≤ y := by omega
          clear he h4 hx hneg
          go_wp2_with fail
          refine (HI.out wr (by omega) HW.out).mono ?_
          rintro e w1 ⟨rfl, hb1⟩
          have HB1 := Lib.hid (HB.out.trans (hb1.mono hwz))
          clear hb1
          go_wp2_with fail
          go_roundw
          case rel => exact ⟨j + 1, _, by go_num, rfl, q0, by omega, by rw [← HS.out]; exact HY.out, by omega, HB1.out⟩
          case measure => simp [intOf]; omega
      · have HN : Hid (y = leftRow a (z - 1)) := Lib.hid (by rw [← HY.out, List.drop_eq_nil_of_le (by omega)]; rfl)
        have hd : decide ((j : Int) < (a.items.length : Int)) = false := by simp; omega
        go_wp2_with fail
        go_ret
        exact ⟨congrArg (fun z : Int => Ending.returned (.int .i64 z)) HN.out, HW.out⟩
end Go.Proofs.YthmfncklepkddaaGreatDoor

/-
  What spec.LetterIndex answers at every byte: the letter's place, or -1; the world is as it was.
-/
namespace Go.Proofs.YthmfncklepkddaaGreatDoor
open Go.RowKit

set_option maxHeartbeats 400000 in
theorem specLet_any (b : UInt8) (w : World) :
    Calls Tryz.prog 44 #[.int .u8 b.toNat] w fun e w' => e = .returned (.int .i64 (letIdx b)) ∧ w = w' := by
  by_cases h0 : b = 97
  · subst h0
    go_enter Tryz.func44, Tryz.ntmps44
    go_wp2
    refine wp_loop_rounds 1 ?_
    rw [rounds_succ]
    go_wp2
    go_ret
    exact ⟨rfl, rfl⟩
  · by_cases h1 : b = 98
    · subst h1
      go_enter Tryz.func44, Tryz.ntmps44
      go_wp2
      refine wp_loop_rounds 2 ?_
      rw [rounds_succ]
      go_wp2
      rw [rounds_succ]
      go_wp2
      go_ret
      exact ⟨rfl, rfl⟩
    · by_cases h2 : b = 99
      · subst h2
        go_enter Tryz.func44, Tryz.ntmps44
        go_wp2
        refine wp_loop_rounds 3 ?_
        rw [rounds_succ]
        go_wp2
        rw [rounds_succ]
        go_wp2
        rw [rounds_succ]
        go_wp2
        go_ret
        exact ⟨rfl, rfl⟩
      · have e : letIdx b = -1 := by unfold letIdx; rw [if_neg h0, if_neg h1, if_neg h2]
        have HE := Lib.hid e
        have f0 : ((((ByteArray.mk #[97, 98, 99])[0]'(by decide)).toNat : Int) == (b.toNat : Int)) = false := by
          show ((97 : Int) == (b.toNat : Int)) = false
          simp only [beq_eq_false_iff_ne, ne_eq]; intro e; exact h0 (UInt8.toNat_inj.1 (by simp; omega))
        have f1 : ((((ByteArray.mk #[97, 98, 99])[1]'(by decide)).toNat : Int) == (b.toNat : Int)) = false := by
          show ((98 : Int) == (b.toNat : Int)) = false
          simp only [beq_eq_false_iff_ne, ne_eq]; intro e; exact h1 (UInt8.toNat_inj.1 (by simp; omega))
        have f2 : ((((ByteArray.mk #[97, 98, 99])[2]'(by decide)).toNat : Int) == (b.toNat : Int)) = false := by
          show ((99 : Int) == (b.toNat : Int)) = false
          simp only [beq_eq_false_iff_ne, ne_eq]; intro e; exact h2 (UInt8.toNat_inj.1 (by simp; omega))
        clear e h0 h1 h2
        go_enter Tryz.func44, Tryz.ntmps44
        go_wp2
        refine wp_loop_rounds 4 ?_
        rw [rounds_succ]
        go_wp2
        rw [rounds_succ]
        go_wp2
        rw [rounds_succ]
        go_wp2
        rw [rounds_succ]
        go_wp2
        go_ret
        exact ⟨congrArg (fun z => Ending.returned (.int .i64 z)) HE.out.symm, rfl⟩
end Go.Proofs.YthmfncklepkddaaGreatDoor

/-
  What spec.IsWord answers at every string: whether it is a word of at most 30 letters; the world is as it was.
-/
namespace Go.Proofs.YthmfncklepkddaaGreatDoor
open Go.RowKit

set_option maxHeartbeats 400000 in
theorem specIsWord_any (s : ByteArray) (w : World) (hs : s.size ≤ maxLen) :
    Calls Tryz.prog 16 #[.string s] w fun e w' => e = .returned (.bool (isW s.data.toList)) ∧ w = w' := by
  unfold maxLen at hs
  go_enter Tryz.func16, Tryz.ntmps16
  go_wp2
  go_loop [3] (fun i => ∃ k : Nat, i = .int .i64 k ∧ k ≤ s.size ∧ (s.data.toList.take k).all isLetter = true) (fun i => s.size - (intOf i).toNat)
  case atStart => exact ⟨0, rfl, Nat.zero_le _, rfl⟩
  case round =>
    obtain ⟨k, rfl, hk, hall⟩ := hrel
    have HA := Lib.hid hall
    clear hall
    by_cases hlt : k < s.size
    · cases hb : isLetter s[k] with
      | true =>
        have HN := Lib.hid (show (s.data.toList.take (k + 1)).all isLetter = true by rw [all_take_succ s k hlt, HA.out, hb]; rfl)
        obtain ⟨hl, h97, h99⟩ := letIdx_yes hb
        have hl0 : 0 ≤ letIdx s[k] := by omega
        clear hl hb
        go_wp2_with (go_at_call 44; refine (specLet_any _ _).mono ?_; rintro e w' ⟨rfl, rfl⟩)
        go_round
        case rel => exact ⟨k + 1, by go_num, by omega, HN.out⟩
        case measure => simp [intOf]; omega
      | false =>
        have HN := Lib.hid (isW_bad hlt hb)
        have hl := letIdx_no hb
        have hl0 : letIdx s[k] < 0 := by omega
        clear hl hb
        go_wp2_with (go_at_call 44; refine (specLet_any _ _).mono ?_; rintro e w' ⟨rfl, rfl⟩)
        go_ret
        exact ⟨congrArg (fun z => Ending.returned (.bool z)) HN.out.symm, rfl⟩
    · obtain rfl : k = s.size := by omega
      have HN := Lib.hid (isW_all HA.out)
      go_wp2
      go_ret
      exact ⟨congrArg (fun z => Ending.returned (.bool z)) HN.out.symm, rfl⟩

end Go.Proofs.YthmfncklepkddaaGreatDoor

/-
  What spec.l3All answers: whether every node of an expression has one of the nine forms.
-/
namespace Go.Proofs.YthmfncklepkddaaGreatDoor
open Go.RowKit

/-- How many parts a kind has. -/
def argsOf (k : Int) : Int := if k = 5 ∨ k = 6 ∨ k = 7 then 2 else if k = 8 ∨ k = 9 then 1 else 0
theorem l3Args_any (k : Int) (w : World) : Calls Tryz.prog 117 #[.int .i64 k] w fun e w' => e = .returned (.int .i64 (argsOf k)) ∧ w = w' := by
  by_cases h5 : k = 5
  · subst h5
    go_enter Tryz.func117, Tryz.ntmps117
    go_wp2
    go_ret
    exact ⟨rfl, rfl⟩
  by_cases h6 : k = 6
  · subst h6
    go_enter Tryz.func117, Tryz.ntmps117
    go_wp2
    go_ret
    exact ⟨rfl, rfl⟩
  by_cases h7 : k = 7
  · subst h7
    go_enter Tryz.func117, Tryz.ntmps117
    go_wp2
    go_ret
    exact ⟨rfl, rfl⟩
  by_cases h8 : k = 8
  · subst h8
    go_enter Tryz.func117, Tryz.ntmps117
    go_wp2
    go_ret
    exact ⟨rfl, rfl⟩
  by_cases h9 : k = 9
  · subst h9
    go_enter Tryz.func117, Tryz.ntmps117
    go_wp2
    go_ret
    exact ⟨rfl, rfl⟩
  have HA : Hid (argsOf k = 0) := Lib.hid (by unfold argsOf; rw [if_neg (by omega), if_neg (by omega)])
  have e5 : (k == 5) = false := by simpa using h5
  have e6 : (k == 6) = false := by simpa using h6
  have e7 : (k == 7) = false := by simpa using h7
  have e8 : (k == 8) = false := by simpa using h8
  have e9 : (k == 9) = false := by simpa using h9
  clear h5 h6 h7 h8 h9
  go_enter Tryz.func117, Tryz.ntmps117
  go_wp2
  go_ret
  exact ⟨congrArg (fun z : Int => Ending.returned (.int .i64 z)) HA.out.symm, rfl⟩
theorem l1In_all (x lo hi : Int) (b : Bool) (w : World) (h : (decide (lo ≤ x) && decide (x ≤ hi)) = b) : Calls Tryz.prog 73 #[.int .i64 x, .int .i64 lo, .int .i64 hi] w fun e w' => e = .returned (.bool b) ∧ w = w' := by
  by_cases h1 : lo ≤ x
  · by_cases h2 : x ≤ hi
    · have HB := Lib.hid h
      clear h
      go_enter Tryz.func73, Tryz.ntmps73
      go_wp2
      go_ret
      exact ⟨by rw [← HB.out]; simp [h1, h2], rfl⟩
    · have HB := Lib.hid h
      clear h
      go_enter Tryz.func73, Tryz.ntmps73
      go_wp2
      go_ret
      exact ⟨by rw [← HB.out]; simp [h2], rfl⟩
  · have h1' : decide (lo ≤ x) = false := by simpa using h1
    have HN := Lib.hid h1
    have HB := Lib.hid h
    clear h
    go_enter Tryz.func73, Tryz.ntmps73
    go_wp2
    go_ret
    exact ⟨by rw [← HB.out]; simp; intro h; have := HN.out; omega, rfl⟩

/-- Whether a node has one of the nine forms; m: how many parts it has. -/
def nodeOk (k : Int) (l : ByteArray) (m : Nat) : Bool :=
  if k = 3 then decide (l.size = 1) && isW l.data.toList && decide (m = 0) else decide (1 ≤ k ∧ k ≤ 9) && decide (l.size = 0) && decide ((m : Int) = argsOf k)
def allRow : Fr → Bool
  | .nil => true
  | .cons k l a r => allRow a && nodeOk k l a.items.length && allRow r
def okItem (x : Int × ByteArray × Fr) : Bool := allRow x.2.2 && nodeOk x.1 x.2.1 x.2.2.items.length
theorem all_items : ∀ f : Fr, allRow f = f.items.all okItem
  | .nil => rfl
  | .cons k l a r => by
    simp only [allRow, Fr.items, List.all_cons, okItem]
    rw [all_items r]
theorem all_step {f : Fr} {j : Nat} {k : Int} {l : ByteArray} {a : Fr} (h : f.items[j]? = some (k, l, a)) (hall : (f.items.take j).all okItem = true) (ho : (allRow a && nodeOk k l a.items.length) = true) : (f.items.take (j + 1)).all okItem = true := by
  have hlt := (List.getElem?_eq_some_iff.1 h).1
  rw [List.take_succ_eq_append_getElem hlt, List.all_append, hall, (List.getElem?_eq_some_iff.1 h).2]
  simpa [okItem] using ho
theorem all_bad {f : Fr} {j : Nat} {k : Int} {l : ByteArray} {a : Fr} (h : f.items[j]? = some (k, l, a)) (ho : (allRow a && nodeOk k l a.items.length) = false) : allRow f = false := by
  rw [all_items, List.all_eq_false]
  exact ⟨_, List.mem_of_getElem? h, by simp [okItem, ho]⟩
theorem bytes_nil {l : ByteArray} (h : l.size = 0) : l.toList = [] := by
  rw [ByteArray.toList_eq]
  exact List.eq_nil_of_length_eq_zero (by simpa using h)
theorem bytes_some {l : ByteArray} (h : l.size ≠ 0) : ¬ l.toList = [] := by
  rw [ByteArray.toList_eq]
  intro e
  have := congrArg List.length e
  exact h (by simpa using this)

set_option maxHeartbeats 1600000 in
theorem specAll_any (n : Nat) : ∀ (B : Nat) (k : Int) (l : ByteArray) (u : Value) (a : Fr) (w : World), Sl w B n u a → B ≤ w.heap.size → l.size ≤ 9223372036854775807 →
    Calls Tryz.prog 67 #[.agg #[.int .i64 k, .string l, u]] w fun e w' => e = .returned (.bool (allRow a && nodeOk k l a.items.length)) ∧ Below w.heap.size w w' := by
  induction n with
  | zero => intro B k l u a w h; exact h.zero.elim
  | succ n ih =>
    intro B k l u a w hS hB hls
    obtain ⟨hl, A, c, rfl, hE⟩ := hS.open
    have HE := Lib.hid hE
    clear hE hS
    go_enter Tryz.func67, Tryz.ntmps67
    go_wp2_with fail
    go_loopw [3] (fun i wr => ∃ j : Nat, i = .int .i64 j ∧ (a.items.take j).all okItem = true ∧ j ≤ a.items.length ∧ Below (w.heap.size + 1) (w.alloc (.cells #[.int .i64 k, .string l, .slice A a.items.length c] 26)) wr) (fun i _ => a.items.length - (intOf i).toNat)
    case atStart => exact ⟨0, rfl, rfl, Nat.zero_le _, Below.refl _ _⟩
    case round =>
      obtain ⟨j, rfl, hall, hj, hb⟩ := hrel
      have HALL := Lib.hid hall
      have hbox := (hb.cell (p := ⟨w.heap.size, 2, none⟩) (Nat.lt_succ_self _)).trans (show _ = some (.slice A a.items.length c) by simp)
      have hbox0 := (hb.cell (p := ⟨w.heap.size, 0, none⟩) (Nat.lt_succ_self _)).trans (show _ = some (.int .i64 k) by simp)
      have hbox1 := (hb.cell (p := ⟨w.heap.size, 1, none⟩) (Nat.lt_succ_self _)).trans (show _ = some (.string l) by simp)
      have hwz : w.heap.size + 1 ≤ wr.heap.size := by have := hb.size; simpa using this
      have HB := Lib.hid hb
      have HW := Lib.hid (((Below.refl _ w).alloc (Nat.le_refl _) _).trans (hb.mono (Nat.le_succ _)))
      clear hb hall
      by_cases hlt : j < a.items.length
      · obtain ⟨g, o, rfl, hg, k', l', a', u, hx, hls', he, h4⟩ := HE.out j hlt
        obtain ⟨hc0, hc1, hc2⟩ := he.below HW.out (Nat.lt_of_lt_of_le hg hB)
        have HI := Lib.hid (fun w1 (hw1 : w.heap.size ≤ w1.heap.size) (hb1 : Below w.heap.size w w1) => ih B k' l' u a' w1 (h4.mono (hb1.mono hB) (Nat.le_refl _)) (by omega) hls')
        cases hok : (allRow a' && nodeOk k' l' a'.items.length) with
        | true =>
          rw [hok] at HI
          have HS := Lib.hid (all_step hx HALL.out hok)
          clear he h4 hx hok
          go_wp2_with fail
          refine (HI.out wr (by omega) HW.out).mono ?_
          rintro e w1 ⟨rfl, hb1⟩
          have HB1 := Lib.hid (HB.out.trans (hb1.mono hwz))
          clear hb1
          go_wp2_with fail
          go_roundw
          case rel => exact ⟨j + 1, by go_num, HS.out, by omega, HB1.out⟩
          case measure => simp [intOf]; omega
        | false =>
          rw [hok] at HI
          have HS := Lib.hid (all_bad hx hok)
          clear he h4 hx hok
          go_wp2_with fail
          refine (HI.out wr (by omega) HW.out).mono ?_
          rintro e w1 ⟨rfl, hb1⟩
          have HB1 := Lib.hid (HW.out.trans (hb1.mono (Nat.le_of_succ_le hwz)))
          clear hb1
          go_wp2_with fail
          go_ret
          exact ⟨by rw [HS.out]; rfl, HB1.out⟩
      · have HA : Hid (allRow a = true) := Lib.hid (by rw [all_items, ← HALL.out, List.take_of_length_le (by omega)])
        have hd : decide ((j : Int) < (a.items.length : Int)) = false := by simp; omega
        by_cases h3 : k = 3
        · subst h3
          have HN : ∀ b, nodeOk 3 l a.items.length = b → Hid ((allRow a && nodeOk 3 l a.items.length) = b) := fun b h => Lib.hid (by rw [HA.out, h]; rfl)
          by_cases hs : l.size = 1
          · have e1 : ((l.size : Int) == 1) = true := by simp [hs]
            have HI := Lib.hid (fun w => specIsWord_any l w (by unfold maxLen; omega))
            cases hw : isW l.data.toList with
            | true =>
              rw [hw] at HI
              by_cases hm : a.items.length = 0
              · have e2 : ((a.items.length : Int) == 0) = true := by simp [hm]
                have HR := HN true (by simp [nodeOk, hs, hw, hm])
                clear hs hw hm HN
                go_wp2_with (go_at_call 16; refine (HI.out _).mono ?_; rintro e w' ⟨rfl, rfl⟩)
                go_ret
                exact ⟨congrArg (fun z : Bool => Ending.returned (.bool z)) HR.out.symm, HW.out⟩
              · have e2 : ((a.items.length : Int) == 0) = false := by simpa using hm
                have HR := HN false (by simp [nodeOk, hm])
                clear hs hw hm HN
                go_wp2_with (go_at_call 16; refine (HI.out _).mono ?_; rintro e w' ⟨rfl, rfl⟩)
                go_ret
                exact ⟨congrArg (fun z : Bool => Ending.returned (.bool z)) HR.out.symm, HW.out⟩
            | false =>
              rw [hw] at HI
              have HR := HN false (by simp [nodeOk, hw])
              clear hs hw HN
              go_wp2_with (go_at_call 16; refine (HI.out _).mono ?_; rintro e w' ⟨rfl, rfl⟩)
              go_ret
              exact ⟨congrArg (fun z : Bool => Ending.returned (.bool z)) HR.out.symm, HW.out⟩
          · have e1 : ((l.size : Int) == 1) = false := by simp; omega
            have HR := HN false (by simp [nodeOk, hs])
            clear hs HN
            go_wp2_with fail
            go_ret
            exact ⟨congrArg (fun z : Bool => Ending.returned (.bool z)) HR.out.symm, HW.out⟩
        · have e3 : (k == 3) = false := by simpa using h3
          have HN : ∀ b, nodeOk k l a.items.length = b → Hid ((allRow a && nodeOk k l a.items.length) = b) := fun b h => Lib.hid (by rw [HA.out, h]; rfl)
          have HK := Lib.hid h3
          clear h3
          by_cases hr : 1 ≤ k ∧ k ≤ 9
          · have HI := Lib.hid (fun w => l1In_all k 1 9 true w (by simp [hr.1, hr.2]))
            by_cases hs : l.size = 0
            · have e1 := bytes_nil hs
              by_cases hm : (a.items.length : Int) = argsOf k
              · have e2 : ((a.items.length : Int) == argsOf k) = true := by simp [hm]
                have HR := HN true (by simp [nodeOk, HK.out, hr, hs, hm])
                clear hs hm HN hr
                go_wp2_with fail
                go_quiet ((first | (go_at_call 73; exact Calls.quiet_of_same ((HI.out _).mono fun _ _ ⟨he, hw⟩ => ⟨he, hw.symm⟩)) | (go_at_call 117; exact Calls.quiet_of_same ((l3Args_any k _).mono fun _ _ ⟨he, hw⟩ => ⟨he, hw.symm⟩))))
                go_wp2
                go_ret
                exact ⟨congrArg (fun z : Bool => Ending.returned (.bool z)) HR.out.symm, below_draws HW.out _⟩
              · have e2 : ((a.items.length : Int) == argsOf k) = false := by simpa using hm
                have HR := HN false (by simp [nodeOk, HK.out, hm])
                clear hs hm HN hr
                go_wp2_with fail
                go_quiet ((first | (go_at_call 73; exact Calls.quiet_of_same ((HI.out _).mono fun _ _ ⟨he, hw⟩ => ⟨he, hw.symm⟩)) | (go_at_call 117; exact Calls.quiet_of_same ((l3Args_any k _).mono fun _ _ ⟨he, hw⟩ => ⟨he, hw.symm⟩))))
                go_wp2
                go_ret
                exact ⟨congrArg (fun z : Bool => Ending.returned (.bool z)) HR.out.symm, below_draws HW.out _⟩
            · have e1 := bytes_some hs
              have HR := HN false (by simp [nodeOk, HK.out, hs])
              clear hs HN hr
              go_wp2_with fail
              go_quiet ((first | (go_at_call 73; exact Calls.quiet_of_same ((HI.out _).mono fun _ _ ⟨he, hw⟩ => ⟨he, hw.symm⟩)) | (go_at_call 117; exact Calls.quiet_of_same ((l3Args_any k _).mono fun _ _ ⟨he, hw⟩ => ⟨he, hw.symm⟩))))
              go_wp2
              go_ret
              exact ⟨congrArg (fun z : Bool => Ending.returned (.bool z)) HR.out.symm, below_draws HW.out _⟩
          · have HI := Lib.hid (fun w => l1In_all k 1 9 false w (by simpa using hr))
            have HR := HN false (by simp [nodeOk, HK.out, hr])
            clear HN hr
            go_wp2_with fail
            go_quiet ((first | (go_at_call 73; exact Calls.quiet_of_same ((HI.out _).mono fun _ _ ⟨he, hw⟩ => ⟨he, hw.symm⟩)) | (go_at_call 117; exact Calls.quiet_of_same ((l3Args_any k _).mono fun _ _ ⟨he, hw⟩ => ⟨he, hw.symm⟩))))
            go_wp2
            go_ret
            exact ⟨congrArg (fun z : Bool => Ending.returned (.bool z)) HR.out.symm, below_draws HW.out _⟩
end Go.Proofs.YthmfncklepkddaaGreatDoor

/-
  What spec.IsValidRegex answers: whether an expression is valid.
-/
namespace Go.Proofs.YthmfncklepkddaaGreatDoor
open Go.RowKit

/-- Whether the node with this kind, letter and parts is a valid expression. -/
def validRx (k : Int) (l : ByteArray) (a : Fr) : Bool := decide (0 ≤ leftRow a 15) && decide (a.depth + 1 ≤ 6) && (allRow a && nodeOk k l a.items.length)

theorem box_cells {w wr : World} {k : Int} {l : ByteArray} {u : Value} {t : TypeId} (hb : Below (w.heap.size + 1) (w.alloc (.cells #[.int .i64 k, .string l, u] t)) wr) :
    wr.cell? ⟨w.heap.size, 0, none⟩ = some (.int .i64 k) ∧ wr.cell? ⟨w.heap.size, 1, none⟩ = some (.string l) ∧ wr.cell? ⟨w.heap.size, 2, none⟩ = some u :=
  ⟨(hb.cell (p := ⟨w.heap.size, 0, none⟩) (Nat.lt_succ_self _)).trans (by simp), (hb.cell (p := ⟨w.heap.size, 1, none⟩) (Nat.lt_succ_self _)).trans (by simp), (hb.cell (p := ⟨w.heap.size, 2, none⟩) (Nat.lt_succ_self _)).trans (by simp)⟩

set_option maxHeartbeats 800000 in
theorem specValid_any (n B : Nat) (k : Int) (l : ByteArray) (u : Value) (a : Fr) (w : World) (hS : Sl w B n u a) (hB : B ≤ w.heap.size) (hsz : a.size ≤ 2097152) (hls : l.size ≤ 9223372036854775807) :
    Calls Tryz.prog 28 #[.agg #[.int .i64 k, .string l, u]] w fun e w' => e = .returned (.bool (validRx k l a)) ∧ Below w.heap.size w w' := by
  have hL : ∀ wr, Below w.heap.size w wr → B ≤ wr.heap.size → Calls Tryz.prog 65 #[.agg #[.int .i64 k, .string l, u], .int .i64 16] wr fun e w' => e = .returned (.int .i64 (leftRow a 15)) ∧ Below wr.heap.size wr w' :=
    fun wr hb hz => specLeft_any n B k l u a 16 wr (hS.mono (hb.mono hB) (Nat.le_refl _)) hz (by omega) (by omega)
  have HL := Lib.hid hL
  clear hL
  have HD := Lib.hid (fun wr (hb : Below w.heap.size w wr) (hz : B ≤ wr.heap.size) => specDepth_any n B k l u a wr (hS.mono (hb.mono hB) (Nat.le_refl _)) hz hsz)
  have HA := Lib.hid (fun wr (hb : Below w.heap.size w wr) (hz : B ≤ wr.heap.size) => specAll_any n B k l u a wr (hS.mono (hb.mono hB) (Nat.le_refl _)) hz hls)
  have hdl := depth_le a
  clear hS
  have HB0 := Lib.hid ((Below.refl w.heap.size w).alloc (Nat.le_refl _) (.cells #[.int .i64 k, .string l, u] 26))
  have HV : ∀ b, validRx k l a = b → Hid (validRx k l a = b) := fun b h => Lib.hid h
  by_cases hq : 0 ≤ leftRow a 15
  · by_cases hd : a.depth + 1 ≤ 6
    · have hd2 : (a.depth : Int) + 1 ≤ 6 := by omega
      have HR := HV (allRow a && nodeOk k l a.items.length) (by simp [validRx, hq, hd])
      clear HV hd
      go_enter Tryz.func28, Tryz.ntmps28
      go_wp2_with fail
      refine (HL.out _ HB0.out (by simp; omega)).mono ?_
      rintro e w1 ⟨rfl, hb1⟩
      have hb1' : Below (w.heap.size + 1) (w.alloc (.cells #[.int .i64 k, .string l, u] 26)) w1 := by simpa using hb1
      obtain ⟨c0, c1, c2⟩ := box_cells hb1'
      have hz1 := hb1'.size
      rw [World.size_alloc] at hz1
      have HB1 := Lib.hid hb1'
      have HW1 := Lib.hid (HB0.out.trans (hb1'.mono (Nat.le_succ _)))
      clear hb1 hb1'
      go_wp2_with fail
      refine (HD.out _ HW1.out (by omega)).mono ?_
      rintro e w2 ⟨rfl, hb2⟩
      have HB2 := Lib.hid (HB1.out.trans (hb2.mono hz1))
      obtain ⟨d0, d1, d2⟩ := box_cells HB2.out
      have HW2 := Lib.hid (HW1.out.trans (hb2.mono (by omega)))
      have hz2 := hb2.size
      clear hb2 c0 c1 c2
      go_wp2_with fail
      refine (HA.out _ HW2.out (by omega)).mono ?_
      rintro e w3 ⟨rfl, hb3⟩
      have HW3 := Lib.hid (HW2.out.trans (hb3.mono (by omega)))
      clear hb3
      rw [← HR.out]
      go_wp2_with fail
      go_ret
      exact ⟨rfl, HW3.out⟩
    · have hd2 : ¬ ((a.depth : Int) + 1 ≤ 6) := by omega
      have hd3 : decide ((a.depth : Int) + 1 ≤ 6) = false := by simpa using hd2
      have HR := HV false (by simp [validRx, hd])
      clear HV hd hd2
      go_enter Tryz.func28, Tryz.ntmps28
      go_wp2_with fail
      refine (HL.out _ HB0.out (by simp; omega)).mono ?_
      rintro e w1 ⟨rfl, hb1⟩
      have hb1' : Below (w.heap.size + 1) (w.alloc (.cells #[.int .i64 k, .string l, u] 26)) w1 := by simpa using hb1
      obtain ⟨c0, c1, c2⟩ := box_cells hb1'
      have hz1 := hb1'.size
      rw [World.size_alloc] at hz1
      have HW1 := Lib.hid (HB0.out.trans (hb1'.mono (Nat.le_succ _)))
      clear hb1 hb1'
      go_wp2_with fail
      refine (HD.out _ HW1.out (by omega)).mono ?_
      rintro e w2 ⟨rfl, hb2⟩
      have HW2 := Lib.hid (HW1.out.trans (hb2.mono (by omega)))
      clear hb2
      go_wp2_with fail
      go_ret
      exact ⟨congrArg (fun z : Bool => Ending.returned (.bool z)) HR.out.symm, HW2.out⟩
  · have hd3 : decide (0 ≤ leftRow a 15) = false := by simpa using hq
    have HR := HV false (by simp [validRx, hq])
    clear HV hq
    go_enter Tryz.func28, Tryz.ntmps28
    go_wp2_with fail
    refine (HL.out _ HB0.out (by simp; omega)).mono ?_
    rintro e w1 ⟨rfl, hb1⟩
    have HW1 := Lib.hid (HB0.out.trans (hb1.mono (by simp)))
    clear hb1
    go_wp2_with fail
    go_ret
    exact ⟨congrArg (fun z : Bool => Ending.returned (.bool z)) HR.out.symm, HW1.out⟩
end Go.Proofs.YthmfncklepkddaaGreatDoor

/-
  Boxes of expressions; what stays where only some blocks turn. Of no function of the program.
-/
namespace Go.Proofs.YthmfncklepkddaaGreatDoor
open Go.RowKit

/-- Block g is a box of an expression. -/
def Bx (w : World) (g : Nat) (k : Int) (b : ByteArray) (v : Value) : Prop := w.cell? ⟨g, 0, none⟩ = some (.int .i64 k) ∧ w.cell? ⟨g, 1, none⟩ = some (.string b) ∧ w.cell? ⟨g, 2, none⟩ = some v
theorem Bx.below {w w' : World} {g B : Nat} {k : Int} {b : ByteArray} {v : Value} (h : Bx w g k b v) (hb : Below B w w') (hg : g < B) : Bx w' g k b v :=
  ⟨(hb.cell (p := ⟨g, 0, none⟩) hg).trans h.1, (hb.cell (p := ⟨g, 1, none⟩) hg).trans h.2.1, (hb.cell (p := ⟨g, 2, none⟩) hg).trans h.2.2⟩
theorem Bx.chg {w w' : World} {S : Nat → Prop} {g : Nat} {k : Int} {b : ByteArray} {v : Value} (h : Bx w g k b v) (hc : Chg S w w') (hg : g < w.heap.size) (hn : ¬ S g) : Bx w' g k b v :=
  ⟨(hc.cell (p := ⟨g, 0, none⟩) hg hn).trans h.1, (hc.cell (p := ⟨g, 1, none⟩) hg hn).trans h.2.1, (hc.cell (p := ⟨g, 2, none⟩) hg hn).trans h.2.2⟩
/-- A box for an answer is new; what was there stays. -/
theorem box_new (w0 w1 : World) (B : Nat) (k : Int) (b : ByteArray) (v : Value) (t : TypeId) (h : Below B w0 w1) (hB : B ≤ w0.heap.size) :
    Below B w0 (w1.alloc (.cells #[.int .i64 k, .string b, v] t)) ∧ Bx (w1.alloc (.cells #[.int .i64 k, .string b, v] t)) w1.heap.size k b v ∧ Below w1.heap.size w1 (w1.alloc (.cells #[.int .i64 k, .string b, v] t)) ∧ (w1.alloc (.cells #[.int .i64 k, .string b, v] t)).heap.size = w1.heap.size + 1 :=
  ⟨h.alloc (Nat.le_trans hB h.size) _, box_cells (Below.refl _ _), (Below.refl _ _).alloc (Nat.le_refl _) _, by simp⟩
theorem own_slt {w w' wr : World} {n : Nat} {v : Value} {f : Fr} (h : SlT w' n (OwnB w w') v f) (hb : Below w'.heap.size w' wr) (B : Nat) (hB : w'.heap.size ≤ B) : Sl wr B n v f :=
  h.sl.mono (fun g hg => hb.block g hg.2) (fun _ hg => Nat.lt_of_lt_of_le hg.2 hB)
theorem tree_sl {w : World} {S : Nat → Prop} {n B : Nat} {v : Value} {f : Fr} (h : SlT w n S v f) (hS : ∀ g, S g → g < B) : Sl w B n v f := h.sl.mono (fun _ _ => rfl) hS

theorem put3 {w1 : World} {g : Nat} {x0 x1 x2 k l u : Value} (b0 : w1.cell? ⟨g, 0, none⟩ = some x0) (b1 : w1.cell? ⟨g, 1, none⟩ = some x1) (b2 : w1.cell? ⟨g, 2, none⟩ = some x2) :
    let W4 := ((w1.setCell ⟨g, 0, none⟩ k).setCell ⟨g, 1, none⟩ l).setCell ⟨g, 2, none⟩ u
    (W4.cell? ⟨g, 0, none⟩ = some k ∧ W4.cell? ⟨g, 1, none⟩ = some l ∧ W4.cell? ⟨g, 2, none⟩ = some u) ∧ W4.heap.size = w1.heap.size ∧ (∀ h, h ≠ g → W4.heap[h]? = w1.heap[h]?) ∧ ∀ B w, Below B w w1 → B ≤ g → Below B w W4 := by
  intro W4
  have ne : ∀ {o o' : Nat}, o ≠ o' → (⟨g, o, none⟩ : Addr) ≠ ⟨g, o', none⟩ := fun h e => by
    injection e with _ e2
    exact h e2
  have d1 : (w1.setCell ⟨g, 0, none⟩ k).cell? ⟨g, 1, none⟩ = some x1 := (World.cell?_setCell_other _ _ _ _ (ne (by omega))).trans b1
  have d2 : ((w1.setCell ⟨g, 0, none⟩ k).setCell ⟨g, 1, none⟩ l).cell? ⟨g, 2, none⟩ = some x2 := (World.cell?_setCell_other _ _ _ _ (ne (by omega))).trans ((World.cell?_setCell_other _ _ _ _ (ne (by omega))).trans b2)
  refine ⟨⟨?_, ?_, World.cell?_setCell_same _ _ _ d2⟩, by simp [W4, World.setCell], fun h hh => ?_, fun B w hb hB => ?_⟩
  · exact (World.cell?_setCell_other _ _ _ _ (ne (by omega))).trans ((World.cell?_setCell_other _ _ _ _ (ne (by omega))).trans (World.cell?_setCell_same _ _ _ b0))
  · exact (World.cell?_setCell_other _ _ _ _ (ne (by omega))).trans (World.cell?_setCell_same _ _ _ d1)
  · exact (Below.heap_setCell _ _ _ h hh).trans ((Below.heap_setCell _ _ _ h hh).trans (Below.heap_setCell _ _ _ h hh))
  · exact ((hb.setCell (p := ⟨g, 0, none⟩) hB _).setCell (p := ⟨g, 1, none⟩) hB _).setCell (p := ⟨g, 2, none⟩) hB _
theorem slt_one {w : World} {n g c : Nat} {S S' : Nat → Prop} {k : Int} {l : ByteArray} {u : Value} {a : Fr} (hg : S g) (hp : Plain w g) (he : ElAt w g 0 k l u) (hl : l.size ≤ 9223372036854775807) (h : SlT w n S' u a) (hs : ∀ h, S' h → S h ∧ h ≠ g) :
    SlT w (n + 1) S (.slice (some ⟨g, 0, none⟩) 1 c) (.cons k l a .nil) := by
  refine ⟨by simp [Fr.items], .inr ⟨g, 0, c, fun j h => j = 0 ∧ S' h, rfl, hg, hp, fun j h hj => hs h hj.2, fun i j h hi hj => hi.1.trans hj.1.symm, fun j k' l' a' hj => ?_⟩⟩
  match j, hj with
  | 0, hj =>
    simp [Fr.items] at hj
    obtain ⟨rfl, rfl, rfl⟩ := hj
    exact ⟨hl, u, by simpa using he, h.mono (fun _ _ => rfl) (fun _ hh => ⟨rfl, hh⟩)⟩
  | j + 1, hj => simp [Fr.items] at hj
theorem slt_two {w : World} {n g c : Nat} {S S1 S2 : Nat → Prop} {k1 k2 : Int} {l1 l2 : ByteArray} {u1 u2 : Value} {a1 a2 : Fr} (hg : S g) (hp : Plain w g) (he1 : ElAt w g 0 k1 l1 u1) (he2 : ElAt w g 3 k2 l2 u2) (hl1 : l1.size ≤ 9223372036854775807) (hl2 : l2.size ≤ 9223372036854775807)
    (h1 : SlT w n S1 u1 a1) (h2 : SlT w n S2 u2 a2) (hs1 : ∀ h, S1 h → S h ∧ h ≠ g) (hs2 : ∀ h, S2 h → S h ∧ h ≠ g) (hd : ∀ h, S1 h → ¬ S2 h) :
    SlT w (n + 1) S (.slice (some ⟨g, 0, none⟩) 2 c) (.cons k1 l1 a1 (.cons k2 l2 a2 .nil)) := by
  refine ⟨by simp [Fr.items], .inr ⟨g, 0, c, fun j h => (j = 0 ∧ S1 h) ∨ (j = 1 ∧ S2 h), rfl, hg, hp, fun j h hj => hj.elim (fun q => hs1 h q.2) (fun q => hs2 h q.2), fun i j h hi hj => ?_, fun j k' l' a' hj => ?_⟩⟩
  · rcases hi with hi | hi <;> rcases hj with hj | hj
    · exact hi.1.trans hj.1.symm
    · exact absurd hj.2 (hd h hi.2)
    · exact absurd hi.2 (hd h hj.2)
    · exact hi.1.trans hj.1.symm
  · match j, hj with
    | 0, hj =>
      simp [Fr.items] at hj
      obtain ⟨rfl, rfl, rfl⟩ := hj
      exact ⟨hl1, u1, by simpa using he1, h1.mono (fun _ _ => rfl) (fun _ hh => .inl ⟨rfl, hh⟩)⟩
    | 1, hj =>
      simp [Fr.items] at hj
      obtain ⟨rfl, rfl, rfl⟩ := hj
      exact ⟨hl2, u2, by simpa using he2, h2.mono (fun _ _ => rfl) (fun _ hh => .inr ⟨rfl, hh⟩)⟩
    | j + 2, hj => simp [Fr.items] at hj

theorem two_new (w : World) (o1 o2 : Obj) : ((w.alloc o1).alloc o2).heap[w.heap.size]? = some o1 ∧ ((w.alloc o1).alloc o2).heap[w.heap.size + 1]? = some o2 := by
  refine ⟨(Below.heap_alloc _ o2 _ (by simp)).trans (heap_alloc_new w o1), ?_⟩
  have := heap_alloc_new (w.alloc o1) o2
  rwa [World.size_alloc] at this
end Go.Proofs.YthmfncklepkddaaGreatDoor

/-
  laws.FnExactCompileRegex answers true at every argument, if CompileRegex and its model answer the same.
-/
namespace Go.Proofs.YthmfncklepkddaaGreatDoor
open Go.RowKit

theorem slt_sl {w wr : World} {n : Nat} {S : Nat → Prop} {v : Value} {f : Fr} (h : SlT w n S v f) (hs : ∀ g, S g → wr.heap[g]? = w.heap[g]?) (hS : ∀ g, S g → g < wr.heap.size) : Sl wr wr.heap.size n v f := h.sl.mono hs hS

set_option maxRecDepth 100000 in
set_option maxHeartbeats 6400000 in
theorem lawComp_walk (n : Nat) (k : Int) (l : ByteArray) (u : Value) (a : Fr) (y0 : Dx) (y1 : Bool) (w : World) (hS : Sl w w.heap.size n u a) (hls : l.size ≤ 9223372036854775807) (HS0 : a.size ≤ 2097152 → ∀ (v : Value) (V : World), Sl V V.heap.size n v a → Calls Tryz.prog 8 #[.agg #[.int .i64 k, .string l, v]] V (CopyDB y0 y1 V)) (HI0 : a.size ≤ 2097152 → ∀ (v : Value) (V : World), Sl V V.heap.size n v a → Tab V → Calls Tryz.prog 7 #[.agg #[.int .i64 k, .string l, v]] V (CopyDB y0 y1 V)) (hyw : wtD y0 ≤ 1048576) (hTab : Tab w) (hfit : ((l.size + wt a : Nat) : Int) ≤ 1048576) :
    Calls Tryz.prog 4 #[.agg #[.int .i64 k, .string l, u]] w fun e w' => e = .returned (.bool true) ∧ Below w.heap.size w w' := by
  obtain ⟨WB, hWB⟩ : ∃ WB, WB = w.alloc (.cells #[.int .i64 k, .string l, u] 46) := ⟨_, rfl⟩
  have hWBz : WB.heap.size = w.heap.size + 1 := by rw [hWB]; simp
  have HWB : Hid (Below w.heap.size w WB) := Lib.hid (by rw [hWB]; exact (Below.refl w.heap.size w).alloc (Nat.le_refl _) _)
  have HTb := Lib.hid (fun (V : World) (hV : Below WB.heap.size WB V) => (hTab.kept HWB.out).kept hV)
  have hXW : Bx WB w.heap.size k l u := by rw [hWB]; exact ⟨by simp, by simp, by simp⟩
  have HX := Lib.hid (fun (V : World) (hV : Below WB.heap.size WB V) => hXW.below hV (by omega))
  have HL := Lib.hid (fun (V : World) (hV : Below WB.heap.size WB V) => HWB.out.trans (hV.mono HWB.out.size))
  have HZ := Lib.hid (fun wr (hb : Below w.heap.size w wr) => szNode_of (szS_any n) w.heap.size k l u a 1048576 wr (hS.mono hb (Nat.le_refl _)) hb.size hls (by omega) (by omega))
  have hsz : a.size ≤ 2097152 := by have := size_wt a; omega
  have HT := Lib.hid (fun wr (hb : Below w.heap.size w wr) => toNodeT_of (toST_any n) w.heap.size k l u a wr (hS.mono hb (Nat.le_refl _)) hb.size hsz)
  have HS := Lib.hid (HS0 hsz)
  have HI := Lib.hid (HI0 hsz)
  have HEX := Lib.hid (fun (u u' : Value) (wr : World) (h : Sl wr wr.heap.size n u a) (h' : Sl wr wr.heap.size n u' a) => eqNode_of (n := n) (m := n) (fun B u u' f w => eqS_any n n B u u' f w) wr.heap.size k l u u' a wr h h' (Nat.le_refl _))
  obtain ⟨r1, hr1⟩ : ∃ r1, r1 = 1 + 2 * a.size := ⟨_, rfl⟩
  have HMX := Lib.hid (fun (S : Nat → Prop) (u : Value) (wr : World) (h : SlT wr n S u a) (hS : ∀ g, S g → g < wr.heap.size) => mark_any n 1 S k l u a wr h hS (by omega) (by omega))
  rw [← hr1] at HMX
  obtain ⟨ry, hry⟩ : ∃ ry, ry = 1 + lenD y0 := ⟨_, rfl⟩
  have HMry := Lib.hid (fun S u u' V (h : DfaO V S u u' y0) hS => markDfa_any 1 u u' y0 S V h hS (by omega) (by omega))
  have HH := Lib.hid (fun S u u' V (h : DfaV V S u u' (markD 1 y0)) => heldDfa_any 1 u u' y0 S V h (by omega) (by omega))
  rw [← hry] at HMry HH
  have hneg1 : decide ((r1 : Int) < 0) = false := by simp
  have hnegy : decide ((ry : Int) < 0) = false := by simp
  have hn1 : (y1 != y1) = false := by simp
  have hpos : 0 ≤ (1048576 : Int) - ((l.size + wt a : Nat) : Int) := by omega
  obtain ⟨q, hq⟩ : ∃ q : Int, q = 1048576 - ((l.size + wt a : Nat) : Int) := ⟨_, rfl⟩
  rw [← hq] at hpos
  have HQ := Lib.hid ((leftOf_yes hfit).trans hq.symm)
  have HWBe := Lib.hid hWB
  clear hS hq hfit hsz hr1 hry HS0 HI0 hWB hXW
  go_enter Tryz.func4, Tryz.ntmps4
  have HB0 := Lib.hid (Below.refl WB.heap.size WB)
  go_wp2_with fail
  rw [← HWBe.out]
  refine (HZ.out _ (HL.out _ HB0.out)).mono ?_
  rintro e w0 ⟨he, hb0⟩
  rw [HQ.out] at he
  subst he
  have hz1 := (hb0).size
  have HB1 := Lib.hid (HB0.out.trans ((hb0).mono HB0.out.size))
  clear hb0
  obtain ⟨cx0, cx1, cx2⟩ := HX.out w0 HB1.out
  go_wp2_with fail
  go_at_call 18
  refine (HT.out w0 (HL.out _ HB1.out)).mono ?_
  rintro e w2 ⟨v2, rfl, ho2, hb2⟩
  obtain ⟨A2, m2, rfl⟩ := ho2.shape
  have OT2 := Lib.hid ho2
  have hz3 := (hb2).size
  have HB3 := Lib.hid (HB1.out.trans ((hb2).mono HB1.out.size))
  clear ho2 hb2
  clear cx0 cx1 cx2
  go_wp2_with fail
  go_at_call 8
  refine (HS.out _ w2 (slt_sl OT2.out (fun _ _ => rfl) (fun g hg => by have := hg.2; omega))).mono ?_
  rintro e w4 hp
  obtain ⟨A4, m4, B4, r4, rfl, ho4, hb4⟩ := hp.shape
  clear hp
  have OT4 := Lib.hid ho4
  have hz5 := (hb4).size
  have HB5 := Lib.hid (HB3.out.trans ((hb4).mono HB3.out.size))
  have O6 := Lib.hid (OT2.out.mono (fun g hg => (hb4).block g (by have := hg.2; omega)) (fun _ h => h))
  clear OT2
  clear ho4 hb4
  obtain ⟨cx0, cx1, cx2⟩ := HX.out (w4.alloc (.cells #[.slice A4 y0.acc.length m4, .slice B4 y0.nxt.length r4] 31)) (HB5.out.alloc HB5.out.size _)
  go_wp2_with fail
  obtain ⟨W7, hW7⟩ : ∃ W7, W7 = w4.alloc (.cells #[.slice A4 y0.acc.length m4, .slice B4 y0.nxt.length r4] 31) := ⟨_, rfl⟩
  have BN7 := box2_new w4 w4 w4.heap.size (.slice A4 y0.acc.length m4) (.slice B4 y0.nxt.length r4) 31 (Below.refl _ _) (Nat.le_refl _)
  rw [← hW7] at BN7 ⊢
  have hzb7 := BN7.2.2.2
  have hb7 : Below w4.heap.size w4 W7 := BN7.2.2.1
  have OB7 := Lib.hid BN7.2.1
  clear hW7 BN7
  have hz8 := (hb7).size
  have HB8 := Lib.hid (HB5.out.trans ((hb7).mono HB5.out.size))
  have O9 := Lib.hid (O6.out.mono (fun g hg => (hb7).block g (by have := hg.2; omega)) (fun _ h => h))
  have O10 := Lib.hid (OT4.out.kept (fun g hg => by have := hg.1; have := hg.2; omega) hb7)
  clear O6 OT4
  clear hb7
  go_at_call 18
  refine (HT.out W7 (HL.out _ HB8.out)).mono ?_
  rintro e w11 ⟨v11, rfl, ho11, hb11⟩
  obtain ⟨A11, m11, rfl⟩ := ho11.shape
  have OT11 := Lib.hid ho11
  have hz12 := (hb11).size
  have HB12 := Lib.hid (HB8.out.trans ((hb11).mono HB8.out.size))
  have O13 := Lib.hid (O9.out.mono (fun g hg => (hb11).block g (by have := hg.2; omega)) (fun _ h => h))
  have O14 := Lib.hid (O10.out.kept (fun g hg => by have := hg.1; have := hg.2; omega) hb11)
  have O15 := Lib.hid (OB7.out.kept hb11)
  clear O9 O10 OB7
  clear ho11 hb11
  clear cx0 cx1 cx2
  go_wp2_with fail
  obtain ⟨W16, hW16⟩ : ∃ W16, W16 = w11.alloc (.cells #[.int .i64 k, .string l, .slice A11 a.items.length m11] 26) := ⟨_, rfl⟩
  have BN16 := box_new w11 w11 w11.heap.size k l (.slice A11 a.items.length m11) 26 (Below.refl _ _) (Nat.le_refl _)
  rw [← hW16] at BN16 ⊢
  have hzb16 := BN16.2.2.2
  have hb16 : Below w11.heap.size w11 W16 := BN16.2.2.1
  have OB16 := Lib.hid BN16.2.1
  clear hW16 BN16
  have hz17 := (hb16).size
  have HB17 := Lib.hid (HB12.out.trans ((hb16).mono HB12.out.size))
  have O18 := Lib.hid (O13.out.mono (fun g hg => (hb16).block g (by have := hg.2; omega)) (fun _ h => h))
  have O19 := Lib.hid (O14.out.kept (fun g hg => by have := hg.1; have := hg.2; omega) hb16)
  have O20 := Lib.hid (O15.out.kept hb16)
  have O21 := Lib.hid (OT11.out.mono (fun g hg => (hb16).block g (by have := hg.2; omega)) (fun _ h => h))
  clear O13 O14 O15 OT11
  clear hb16
  go_at_call 7
  refine (HI.out _ W16 (slt_sl O21.out (fun _ _ => rfl) (fun g hg => by have := hg.2; omega)) (HTb.out W16 HB17.out)).mono ?_
  rintro e w22 hp
  obtain ⟨A22, m22, B22, r22, rfl, ho22, hb22⟩ := hp.shape
  clear hp
  have OT22 := Lib.hid ho22
  have hz23 := (hb22).size
  have HB23 := Lib.hid (HB17.out.trans ((hb22).mono HB17.out.size))
  have O24 := Lib.hid (O18.out.mono (fun g hg => (hb22).block g (by have := hg.2; omega)) (fun _ h => h))
  have O25 := Lib.hid (O19.out.kept (fun g hg => by have := hg.1; have := hg.2; omega) hb22)
  have O26 := Lib.hid (O20.out.kept hb22)
  have O27 := Lib.hid (O21.out.mono (fun g hg => (hb22).block g (by have := hg.2; omega)) (fun _ h => h))
  have O28 := Lib.hid (OB16.out.below hb22 (by omega))
  clear O18 O19 O20 O21 OB16
  clear ho22 hb22
  obtain ⟨c29, e29⟩ := O26.out.kept ((Below.refl w22.heap.size w22).alloc (Nat.le_refl _) (.cells #[.slice A22 y0.acc.length m22, .slice B22 y0.nxt.length r22] 31))
  go_wp2_with fail
  obtain ⟨W30, hW30⟩ : ∃ W30, W30 = w22.alloc (.cells #[.slice A22 y0.acc.length m22, .slice B22 y0.nxt.length r22] 31) := ⟨_, rfl⟩
  have BN30 := box2_new w22 w22 w22.heap.size (.slice A22 y0.acc.length m22) (.slice B22 y0.nxt.length r22) 31 (Below.refl _ _) (Nat.le_refl _)
  rw [← hW30] at BN30 ⊢
  have hzb30 := BN30.2.2.2
  have hb30 : Below w22.heap.size w22 W30 := BN30.2.2.1
  have OB30 := Lib.hid BN30.2.1
  clear hW30 BN30
  have hz31 := (hb30).size
  have HB31 := Lib.hid (HB23.out.trans ((hb30).mono HB23.out.size))
  have O32 := Lib.hid (O24.out.mono (fun g hg => (hb30).block g (by have := hg.2; omega)) (fun _ h => h))
  have O33 := Lib.hid (O25.out.kept (fun g hg => by have := hg.1; have := hg.2; omega) hb30)
  have O34 := Lib.hid (O26.out.kept hb30)
  have O35 := Lib.hid (O27.out.mono (fun g hg => (hb30).block g (by have := hg.2; omega)) (fun _ h => h))
  have O36 := Lib.hid (O28.out.below hb30 (by omega))
  have O37 := Lib.hid (OT22.out.kept (fun g hg => by have := hg.1; have := hg.2; omega) hb30)
  clear O24 O25 O26 O27 O28 OT22
  clear hb30
  clear c29 e29
  go_at_call 19
  refine (eqDfa_any _ _ _ _ y0 _ _ W30 O37.out.dfa O33.out.dfa).mono ?_
  rintro e w38 ⟨rfl, hb38⟩
  have hz39 := (hb38).size
  have HB39 := Lib.hid (HB31.out.trans ((hb38).mono HB31.out.size))
  have O40 := Lib.hid (O32.out.mono (fun g hg => (hb38).block g (by have := hg.2; omega)) (fun _ h => h))
  have O41 := Lib.hid (O33.out.kept (fun g hg => by have := hg.1; have := hg.2; omega) hb38)
  have O42 := Lib.hid (O34.out.kept hb38)
  have O43 := Lib.hid (O35.out.mono (fun g hg => (hb38).block g (by have := hg.2; omega)) (fun _ h => h))
  have O44 := Lib.hid (O36.out.below hb38 (by omega))
  have O45 := Lib.hid (O37.out.kept (fun g hg => by have := hg.1; have := hg.2; omega) hb38)
  have O46 := Lib.hid (OB30.out.kept hb38)
  clear O32 O33 O34 O35 O36 O37 OB30
  clear hb38
  have HL47 := Lib.hid (fun (V : World) (h : Below w38.heap.size w38 V) => HB39.out.trans (h.mono HB39.out.size))
  have HK47 := Lib.hid (fun (V : World) (h : Below w38.heap.size w38 V) => (⟨(O44.out.below h (by omega)).1, (O44.out.below h (by omega)).2.1, (O44.out.below h (by omega)).2.2, (HX.out V (HL47.out V h)).1, (HX.out V (HL47.out V h)).2.1, (HX.out V (HL47.out V h)).2.2⟩ : V.cell? ⟨w11.heap.size, 0, none⟩ = some (.int .i64 k) ∧ V.cell? ⟨w11.heap.size, 1, none⟩ = some (.string l) ∧ V.cell? ⟨w11.heap.size, 2, none⟩ = some (.slice A11 a.items.length m11) ∧ V.cell? ⟨w.heap.size, 0, none⟩ = some (.int .i64 k) ∧ V.cell? ⟨w.heap.size, 1, none⟩ = some (.string l) ∧ V.cell? ⟨w.heap.size, 2, none⟩ = some u))
  have hbw : Below w38.heap.size w38 w38 := Below.refl _ _
  go_wp2_with fail
  go_region_held3 (fun V => V.cell? ⟨w11.heap.size, 0, none⟩ = some (.int .i64 k) ∧ V.cell? ⟨w11.heap.size, 1, none⟩ = some (.string l) ∧ V.cell? ⟨w11.heap.size, 2, none⟩ = some (.slice A11 a.items.length m11) ∧ V.cell? ⟨w.heap.size, 0, none⟩ = some (.int .i64 k) ∧ V.cell? ⟨w.heap.size, 1, none⟩ = some (.string l) ∧ V.cell? ⟨w.heap.size, 2, none⟩ = some u) (first | exact HK47.out _ hbw.drew | exact HK47.out _ hbw) (first | (go_at_call 18; (with_reducible refine (HT.out _ (HL.out _ (HL47.out _ hbw.drew))).mono ?_); rintro e wa ⟨va7, rfl, hs7, hba⟩; obtain ⟨Aa, ma, rfl⟩ := hs7.shape; have hbw := hbw.drew.trans (hba.mono hbw.drew.size)) | (go_at_call 20; (with_reducible refine (HEX.out _ _ wa ?_ ?_).mono ?_); exact slt_sl O43.out (fun g hg => hbw.block g (by have := hg.2; omega)) (fun g hg => by have := hg.2; have := hbw.size; omega); exact own_sl hs7.sl; rintro e wb47 ⟨rfl, hbb⟩; have hbw := hbw.trans (hbb.mono hbw.size)))
  all_goals
    have hz48 := (hbw).size
    have HB48 := Lib.hid (HB39.out.trans ((hbw).mono HB39.out.size))
    have O49 := Lib.hid (O40.out.mono (fun g hg => (hbw).block g (by have := hg.2; omega)) (fun _ h => h))
    have O50 := Lib.hid (O41.out.kept (fun g hg => by have := hg.1; have := hg.2; omega) hbw)
    have O51 := Lib.hid (O42.out.kept hbw)
    have O52 := Lib.hid (O43.out.mono (fun g hg => (hbw).block g (by have := hg.2; omega)) (fun _ h => h))
    have O53 := Lib.hid (O44.out.below hbw (by omega))
    have O54 := Lib.hid (O45.out.kept (fun g hg => by have := hg.1; have := hg.2; omega) hbw)
    have O55 := Lib.hid (O46.out.kept hbw)
    clear O40 O41 O42 O43 O44 O45 O46
    clear hbw hs7 hba hbb HK47 HL47
    obtain ⟨cx0, cx1, cx2⟩ := O53.out
    go_wp2_with fail
    go_at_call 21
    refine (HMX.out (OwnB W7 w11) _ wb47 O52.out (fun g hg => by have := hg.2; omega)).mono ?_
    rintro e w56 ⟨rfl, hs56, hc56⟩
    have hz56 := hc56.size
    have HB56 := Lib.hid (HB48.out.trans (hc56.old (B := WB.heap.size) (fun g hg => by have := hg.1; omega) HB48.out.size))
    have O57 := Lib.hid (O49.out.mono (fun g hg => (hc56).block g (by have := hg.2; omega) (fun h => by have := h.1; have := h.2; have := hg.1; have := hg.2; omega)) (fun _ h => h))
    have O58 := Lib.hid (O50.out.chg (fun g hg => by have := hg.1; have := hg.2; omega) hc56 (fun g hg h => by have := hg.1; have := hg.2; have := h.1; have := h.2; omega))
    have O59 := Lib.hid (O51.out.chg hc56 (fun h => by have := h.1; have := h.2; omega))
    have O60 := Lib.hid (O53.out.chg hc56 (by omega) (fun h => by have := h.1; have := h.2; omega))
    have O61 := Lib.hid (O54.out.chg (fun g hg => by have := hg.1; have := hg.2; omega) hc56 (fun g hg h => by have := hg.1; have := hg.2; have := h.1; have := h.2; omega))
    have O62 := Lib.hid (O55.out.chg hc56 (fun h => by have := h.1; have := h.2; omega))
    clear O49 O50 O51 O53 O54 O55 hs56 hc56
    clear cx0 cx1 cx2
    obtain ⟨c63, e63⟩ := O62.out
    obtain ⟨c64, e64⟩ := O59.out
    go_wp2_with fail
    go_at_call 19
    refine (eqDfa_any _ _ _ _ y0 _ _ w56 O61.out.dfa O58.out.dfa).mono ?_
    rintro e w65 ⟨rfl, hb65⟩
    have hz66 := (hb65).size
    have HB66 := Lib.hid (HB56.out.trans ((hb65).mono HB56.out.size))
    have O67 := Lib.hid (O57.out.mono (fun g hg => (hb65).block g (by have := hg.2; omega)) (fun _ h => h))
    have O68 := Lib.hid (O58.out.kept (fun g hg => by have := hg.1; have := hg.2; omega) hb65)
    have O69 := Lib.hid (O59.out.kept hb65)
    have O70 := Lib.hid (O60.out.below hb65 (by omega))
    have O71 := Lib.hid (O61.out.kept (fun g hg => by have := hg.1; have := hg.2; omega) hb65)
    have O72 := Lib.hid (O62.out.kept hb65)
    clear O57 O58 O59 O60 O61 O62
    clear hb65
    clear c63 e63 c64 e64
    obtain ⟨c73, e73⟩ := O72.out
    go_wp2_with fail
    go_at_call 22
    refine ((HMry.out (OwnB W16 w22) _ _ w65 O71.out (fun g hg => by have := hg.2; omega))).mono ?_
    rintro e w74 ⟨rfl, hs74, hc74⟩
    have hz74 := hc74.size
    have HB74 := Lib.hid (HB66.out.trans (hc74.old (B := WB.heap.size) (fun g hg => by have := hg.1; omega) HB66.out.size))
    have O75 := Lib.hid (O67.out.mono (fun g hg => (hc74).block g (by have := hg.2; omega) (fun h => by have := h.1; have := h.2; have := hg.1; have := hg.2; omega)) (fun _ h => h))
    have O76 := Lib.hid (O68.out.chg (fun g hg => by have := hg.1; have := hg.2; omega) hc74 (fun g hg h => by have := hg.1; have := hg.2; have := h.1; have := h.2; omega))
    have O77 := Lib.hid (O69.out.chg hc74 (fun h => by have := h.1; have := h.2; omega))
    have O78 := Lib.hid (O70.out.chg hc74 (by omega) (fun h => by have := h.1; have := h.2; omega))
    have O80 := Lib.hid (O72.out.chg hc74 (fun h => by have := h.1; have := h.2; omega))
    have OM74 := Lib.hid hs74
    clear O67 O68 O69 O70 O71 O72 hs74 hc74
    clear c73 e73
    obtain ⟨c81, e81⟩ := O80.out
    go_wp2_with fail
    go_at_call 23
    refine (HH.out _ _ _ w74 OM74.out.dfa).mono ?_
    rintro e w82 ⟨rfl, hb82⟩
    have hz83 := (hb82).size
    have HB83 := Lib.hid (HB74.out.trans ((hb82).mono HB74.out.size))
    have O84 := Lib.hid (O75.out.mono (fun g hg => (hb82).block g (by have := hg.2; omega)) (fun _ h => h))
    have O85 := Lib.hid (O76.out.kept (fun g hg => by have := hg.1; have := hg.2; omega) hb82)
    have O86 := Lib.hid (O77.out.kept hb82)
    have O87 := Lib.hid (O78.out.below hb82 (by omega))
    have O88 := Lib.hid (OM74.out.kept (fun g hg => by have := hg.1; have := hg.2; omega) hb82)
    have O89 := Lib.hid (O80.out.kept hb82)
    clear O75 O76 O77 O78 OM74 O80
    clear hb82
    clear c81 e81
    obtain ⟨cx0, cx1, cx2⟩ := HX.out w82 HB83.out
    go_wp2_with fail
    go_at_call 18
    refine (HT.out w82 (HL.out _ HB83.out)).mono ?_
    rintro e w90 ⟨v90, rfl, ho90, hb90⟩
    obtain ⟨A90, m90, rfl⟩ := ho90.shape
    have OT90 := Lib.hid ho90
    have hz91 := (hb90).size
    have HB91 := Lib.hid (HB83.out.trans ((hb90).mono HB83.out.size))
    have O92 := Lib.hid (O84.out.mono (fun g hg => (hb90).block g (by have := hg.2; omega)) (fun _ h => h))
    have O93 := Lib.hid (O85.out.kept (fun g hg => by have := hg.1; have := hg.2; omega) hb90)
    have O94 := Lib.hid (O86.out.kept hb90)
    have O95 := Lib.hid (O87.out.below hb90 (by omega))
    have O96 := Lib.hid (O88.out.kept (fun g hg => by have := hg.1; have := hg.2; omega) hb90)
    have O97 := Lib.hid (O89.out.kept hb90)
    clear O84 O85 O86 O87 O88 O89
    clear ho90 hb90
    clear cx0 cx1 cx2
    go_wp2_with fail
    go_at_call 7
    refine (HI.out _ w90 (slt_sl OT90.out (fun _ _ => rfl) (fun g hg => by have := hg.2; omega)) (HTb.out w90 HB91.out)).mono ?_
    rintro e w98 hp
    obtain ⟨A98, m98, B98, r98, rfl, ho98, hb98⟩ := hp.shape
    clear hp
    have OT98 := Lib.hid ho98
    have hz99 := (hb98).size
    have HB99 := Lib.hid (HB91.out.trans ((hb98).mono HB91.out.size))
    have O100 := Lib.hid (O92.out.mono (fun g hg => (hb98).block g (by have := hg.2; omega)) (fun _ h => h))
    have O101 := Lib.hid (O93.out.kept (fun g hg => by have := hg.1; have := hg.2; omega) hb98)
    have O102 := Lib.hid (O94.out.kept hb98)
    have O103 := Lib.hid (O95.out.below hb98 (by omega))
    have O104 := Lib.hid (O96.out.kept (fun g hg => by have := hg.1; have := hg.2; omega) hb98)
    have O105 := Lib.hid (O97.out.kept hb98)
    have O106 := Lib.hid (OT90.out.mono (fun g hg => (hb98).block g (by have := hg.2; omega)) (fun _ h => h))
    clear O92 O93 O94 O95 O96 O97 OT90
    clear ho98 hb98
    obtain ⟨c107, e107⟩ := O102.out.kept ((Below.refl w98.heap.size w98).alloc (Nat.le_refl _) (.cells #[.slice A98 y0.acc.length m98, .slice B98 y0.nxt.length r98] 31))
    go_wp2_with fail
    obtain ⟨W108, hW108⟩ : ∃ W108, W108 = w98.alloc (.cells #[.slice A98 y0.acc.length m98, .slice B98 y0.nxt.length r98] 31) := ⟨_, rfl⟩
    have BN108 := box2_new w98 w98 w98.heap.size (.slice A98 y0.acc.length m98) (.slice B98 y0.nxt.length r98) 31 (Below.refl _ _) (Nat.le_refl _)
    rw [← hW108] at BN108 ⊢
    have hzb108 := BN108.2.2.2
    have hb108 : Below w98.heap.size w98 W108 := BN108.2.2.1
    have OB108 := Lib.hid BN108.2.1
    clear hW108 BN108
    have hz109 := (hb108).size
    have HB109 := Lib.hid (HB99.out.trans ((hb108).mono HB99.out.size))
    have O110 := Lib.hid (O100.out.mono (fun g hg => (hb108).block g (by have := hg.2; omega)) (fun _ h => h))
    have O111 := Lib.hid (O101.out.kept (fun g hg => by have := hg.1; have := hg.2; omega) hb108)
    have O112 := Lib.hid (O102.out.kept hb108)
    have O113 := Lib.hid (O103.out.below hb108 (by omega))
    have O114 := Lib.hid (O104.out.kept (fun g hg => by have := hg.1; have := hg.2; omega) hb108)
    have O115 := Lib.hid (O105.out.kept hb108)
    have O116 := Lib.hid (O106.out.mono (fun g hg => (hb108).block g (by have := hg.2; omega)) (fun _ h => h))
    have O117 := Lib.hid (OT98.out.kept (fun g hg => by have := hg.1; have := hg.2; omega) hb108)
    clear O100 O101 O102 O103 O104 O105 O106 OT98
    clear hb108
    clear c107 e107
    go_at_call 19
    refine (eqDfa_any _ _ _ _ y0 _ _ W108 O117.out.dfa O111.out.dfa).mono ?_
    rintro e w118 ⟨rfl, hb118⟩
    have hz119 := (hb118).size
    have HB119 := Lib.hid (HB109.out.trans ((hb118).mono HB109.out.size))
    have O120 := Lib.hid (O110.out.mono (fun g hg => (hb118).block g (by have := hg.2; omega)) (fun _ h => h))
    have O121 := Lib.hid (O111.out.kept (fun g hg => by have := hg.1; have := hg.2; omega) hb118)
    have O122 := Lib.hid (O112.out.kept hb118)
    have O123 := Lib.hid (O113.out.below hb118 (by omega))
    have O124 := Lib.hid (O114.out.kept (fun g hg => by have := hg.1; have := hg.2; omega) hb118)
    have O125 := Lib.hid (O115.out.kept hb118)
    have O126 := Lib.hid (O116.out.mono (fun g hg => (hb118).block g (by have := hg.2; omega)) (fun _ h => h))
    have O127 := Lib.hid (O117.out.kept (fun g hg => by have := hg.1; have := hg.2; omega) hb118)
    have O128 := Lib.hid (OB108.out.kept hb118)
    clear O110 O111 O112 O113 O114 O115 O116 O117 OB108
    clear hb118
    obtain ⟨c129, e129⟩ := O125.out
    go_wp2_with fail
    go_at_call 23
    refine (HH.out _ _ _ w118 O124.out.dfa).mono ?_
    rintro e w130 ⟨rfl, hb130⟩
    have hz131 := (hb130).size
    have HB131 := Lib.hid (HB119.out.trans ((hb130).mono HB119.out.size))
    have O132 := Lib.hid (O120.out.mono (fun g hg => (hb130).block g (by have := hg.2; omega)) (fun _ h => h))
    have O133 := Lib.hid (O121.out.kept (fun g hg => by have := hg.1; have := hg.2; omega) hb130)
    have O134 := Lib.hid (O122.out.kept hb130)
    have O135 := Lib.hid (O123.out.below hb130 (by omega))
    have O136 := Lib.hid (O124.out.kept (fun g hg => by have := hg.1; have := hg.2; omega) hb130)
    have O137 := Lib.hid (O125.out.kept hb130)
    have O138 := Lib.hid (O126.out.mono (fun g hg => (hb130).block g (by have := hg.2; omega)) (fun _ h => h))
    have O139 := Lib.hid (O127.out.kept (fun g hg => by have := hg.1; have := hg.2; omega) hb130)
    have O140 := Lib.hid (O128.out.kept hb130)
    clear O120 O121 O122 O123 O124 O125 O126 O127 O128
    clear hb130
    clear c129 e129
    go_wp2_with fail
    go_ret
    exact ⟨rfl, HWB.out.trans (HB131.out.mono HWB.out.size)⟩

set_option maxRecDepth 100000 in
set_option maxHeartbeats 1600000 in
theorem lawComp_any (n : Nat) (k : Int) (l : ByteArray) (u : Value) (a : Fr) (y0 : Dx) (y1 : Bool) (w : World) (hS : Sl w w.heap.size n u a) (hls : l.size ≤ 9223372036854775807) (HS0 : a.size ≤ 2097152 → ∀ (v : Value) (V : World), Sl V V.heap.size n v a → Calls Tryz.prog 8 #[.agg #[.int .i64 k, .string l, v]] V (CopyDB y0 y1 V)) (HI0 : a.size ≤ 2097152 → ∀ (v : Value) (V : World), Sl V V.heap.size n v a → Tab V → Calls Tryz.prog 7 #[.agg #[.int .i64 k, .string l, v]] V (CopyDB y0 y1 V)) (hyw : wtD y0 ≤ 1048576) (hTab : Tab w) :
    Calls Tryz.prog 4 #[.agg #[.int .i64 k, .string l, u]] w fun e w' => e = .returned (.bool true) ∧ Below w.heap.size w w' := by
  have HB0 := Lib.hid ((Below.refl w.heap.size w).alloc (Nat.le_refl _) (.cells #[.int .i64 k, .string l, u] 46))
  by_cases hfit : ((l.size + wt a : Nat) : Int) ≤ 1048576
  · exact lawComp_walk n k l u a y0 y1 w hS hls HS0 HI0 hyw hTab hfit
  · have HZ := Lib.hid (fun wr (hb : Below w.heap.size w wr) => szNode_of (szS_any n) w.heap.size k l u a 1048576 wr (hS.mono hb (Nat.le_refl _)) hb.size hls (by omega) (by omega))
    have HQ := Lib.hid (leftOf_no (m := l.size + wt a) (z := 1048576) hfit)
    clear hS hfit HS0 HI0
    go_enter Tryz.func4, Tryz.ntmps4
    go_wp2_with fail
    refine (HZ.out _ HB0.out).mono ?_
    rintro e w1 ⟨he, hb1⟩
    rw [HQ.out] at he
    subst he
    have HW1 := Lib.hid (HB0.out.trans (hb1.mono (by simp)))
    clear hb1
    go_wp2_with fail
    go_ret
    exact ⟨rfl, HW1.out⟩
end Go.Proofs.YthmfncklepkddaaGreatDoor

/-
  The automaton of one word; its minimal automaton as an answer. Of no function of the program.
-/
namespace Go.Proofs.YthmfncklepkddaaGreatDoor
open Go.RowKit

/-- Where letter k leads: along the word, or away. -/
def wdT (s : List UInt8) (i k : Nat) : Nat := if i < s.length ∧ letIdx (s.getD i 0) = (k : Int) then i + 1 else s.length + 1
def wdA (s : List UInt8) : Au := ⟨s.length + 2, fun i => decide (i = s.length), wdT s⟩
theorem wdT_lt (s : List UInt8) (i k : Nat) : wdT s i k < s.length + 2 := by
  unfold wdT
  split <;> omega
theorem wdA_wf (s : List UInt8) : (wdA s).wf := ⟨by show 0 < s.length + 2; omega, fun i k _ _ => wdT_lt s i k⟩
theorem wdT_yes {s : List UInt8} {i k : Nat} (hi : i < s.length) (h : letIdx (s.getD i 0) = (k : Int)) : wdT s i k = i + 1 := by
  unfold wdT
  rw [if_pos ⟨hi, h⟩]
theorem wdT_no {s : List UInt8} {i k : Nat} (h : ¬ (i < s.length ∧ letIdx (s.getD i 0) = (k : Int))) : wdT s i k = s.length + 1 := by
  unfold wdT
  rw [if_neg h]
/-- What WordDfa answers. -/
def wordR (s : List UInt8) (y : Dx) (ok : Bool) : Prop := if isW s = true then (∃ m, Canon m ∧ Eqv m 0 (wdA s) 0 ∧ y = fieldsOf m) ∧ ok = true else y = ⟨[], []⟩ ∧ ok = false
theorem wordR_some (s : List UInt8) : ∃ y ok, wordR s y ok := by
  unfold wordR
  by_cases h : isW s = true
  · obtain ⟨m, h1, h2, _⟩ := exists_min (wdA_wf s)
    exact ⟨_, _, by rw [if_pos h]; exact ⟨⟨m, h1, h2, rfl⟩, rfl⟩⟩
  · exact ⟨_, _, by rw [if_neg h]; exact ⟨rfl, rfl⟩⟩
theorem isW_len {s : List UInt8} (h : isW s = true) : s.length ≤ 30 := by
  unfold isW at h
  simp only [Bool.and_eq_true, decide_eq_true_eq] at h
  exact h.2
theorem wd_small {s : List UInt8} (hs : isW s = true) {m : Au} (h1 : Canon m) (h2 : Eqv m 0 (wdA s) 0) : m.n ≤ 40 := by
  obtain ⟨m', n1, n2, n3⟩ := exists_min (wdA_wf s)
  have h3 := (canon_unique h1 n1 (h2.swap n2)).1
  have h4 : m'.n ≤ s.length + 2 := n3
  have := isW_len hs
  omega
theorem wordR_wt {s : List UInt8} {y : Dx} {ok : Bool} (h : wordR s y ok) : wtD y ≤ 1048576 := by
  unfold wordR at h
  by_cases hs : isW s = true
  · rw [if_pos hs] at h
    obtain ⟨⟨m, h1, h2, rfl⟩, _⟩ := h
    exact fieldsOf_wt (wd_small hs h1 h2)
  · rw [if_neg hs] at h
    rw [h.1]
    decide
theorem wordR_yes {s : List UInt8} {y : Dx} {ok : Bool} (h : wordR s y ok) (hs : isW s = true) {m : Au} (h1 : Canon m) (h2 : Eqv m 0 (wdA s) 0) : y = fieldsOf m ∧ ok = true := by
  unfold wordR at h
  rw [if_pos hs] at h
  obtain ⟨⟨m', n1, n2, rfl⟩, rfl⟩ := h
  exact ⟨fields_one n1 h1 (n2.swap h2), rfl⟩
theorem wordR_no {s : List UInt8} {y : Dx} {ok : Bool} (h : wordR s y ok) (hs : isW s = false) : y = ⟨[], []⟩ ∧ ok = false := by
  unfold wordR at h
  rwa [if_neg (by rw [hs]; decide)] at h
end Go.Proofs.YthmfncklepkddaaGreatDoor

/-
  The representation of an expression; the nine forms. Of no function of the program.
-/
namespace Go.Proofs.YthmfncklepkddaaGreatDoor
open Go.RowKit

def signOf (k : Int) : List UInt8 := if k = 6 then [124] else if k = 7 then [38] else []
/-- A node's text, its parts' texts at hand. -/
def nodeTxt (k : Int) (l : ByteArray) (ts : List (List UInt8)) : List UInt8 :=
  if k = 1 then [48] else if k = 2 then [49] else if k = 3 then l.data.toList else if k = 4 then [46] else if k = 8 then 42 :: ts.getD 0 [] else if k = 9 then 33 :: ts.getD 0 []
  else 40 :: ts.getD 0 [] ++ signOf k ++ ts.getD 1 [] ++ [41]
def texts : Fr → List (List UInt8)
  | .nil => []
  | .cons k l a r => nodeTxt k l (texts a) :: texts r
theorem texts_at : ∀ {f : Fr} {j : Nat} {k : Int} {l : ByteArray} {a : Fr}, f.items[j]? = some (k, l, a) → (texts f).getD j [] = nodeTxt k l (texts a)
  | .nil, j, _, _, _, h => by simp [Fr.items] at h
  | .cons k' l' a' r, 0, k, l, a, h => by
    simp [Fr.items] at h
    obtain ⟨rfl, rfl, rfl⟩ := h
    simp [texts]
  | .cons k' l' a' r, j + 1, k, l, a, h => by
    simp [Fr.items] at h
    simpa [texts] using texts_at h
theorem texts_length : ∀ f : Fr, (texts f).length = f.items.length
  | .nil => rfl
  | .cons _ _ _ r => by simp [texts, Fr.items, texts_length r]

theorem nodeOk_cases {k : Int} {l : ByteArray} {m : Nat} (h : nodeOk k l m = true) :
    (k = 1 ∧ m = 0) ∨ (k = 2 ∧ m = 0) ∨ (k = 3 ∧ l.size = 1 ∧ m = 0) ∨ (k = 4 ∧ m = 0) ∨ (k = 5 ∧ m = 2) ∨ (k = 6 ∧ m = 2) ∨ (k = 7 ∧ m = 2) ∨ (k = 8 ∧ m = 1) ∨ (k = 9 ∧ m = 1) := by
  unfold nodeOk at h
  by_cases h3 : k = 3
  · rw [if_pos h3] at h
    simp only [Bool.and_eq_true, decide_eq_true_eq] at h
    omega
  · rw [if_neg h3] at h
    simp only [Bool.and_eq_true, decide_eq_true_eq] at h
    obtain ⟨⟨hk, _⟩, hm⟩ := h
    unfold argsOf at hm
    split at hm
    · omega
    · split at hm <;> omega

theorem nodeTxt_le {k : Int} {l : ByteArray} {a : Fr} (h : nodeOk k l a.items.length = true) : (nodeTxt k l (texts a)).length ≤ 3 + (texts a).flatten.length := by
  have two : ∀ ts : List (List UInt8), (ts.getD 0 []).length + (ts.getD 1 []).length ≤ ts.flatten.length := fun ts => by
    match ts with
    | [] => simp
    | [x] => simp
    | x :: y :: r => first | (simp; done) | (simp; omega)
  have h2 := two (texts a)
  rcases nodeOk_cases h with ⟨rfl, _⟩ | ⟨rfl, _⟩ | ⟨rfl, hl, _⟩ | ⟨rfl, _⟩ | ⟨rfl, _⟩ | ⟨rfl, _⟩ | ⟨rfl, _⟩ | ⟨rfl, _⟩ | ⟨rfl, _⟩
  · first | (simp [nodeTxt]; done) | (simp [nodeTxt]; omega)
  · first | (simp [nodeTxt]; done) | (simp [nodeTxt]; omega)
  · have : l.data.toList.length = 1 := by simpa using hl
    simp only [nodeTxt, if_neg (show ¬ (3 : Int) = 1 by decide), if_neg (show ¬ (3 : Int) = 2 by decide), if_true]
    omega
  · first | (simp [nodeTxt]; done) | (simp [nodeTxt]; omega)
  all_goals
    simp [nodeTxt, signOf]
    simp at h2
    omega
theorem texts_le : ∀ f : Fr, allRow f = true → (texts f).flatten.length ≤ 3 * f.size
  | .nil, _ => by simp [texts, Fr.size]
  | .cons k l a r, h => by
    simp only [allRow, Bool.and_eq_true] at h
    have h1 := texts_le a h.1.1
    have h2 := texts_le r h.2
    have h3 := nodeTxt_le h.1.2
    simp only [texts, List.flatten_cons, List.length_append, Fr.size]
    omega
theorem item_ok {f : Fr} {j : Nat} {k : Int} {l : ByteArray} {a : Fr} (hf : allRow f = true) (h : f.items[j]? = some (k, l, a)) : (allRow a && nodeOk k l a.items.length) = true := by
  rw [all_items, List.all_eq_true] at hf
  exact hf _ (List.mem_of_getElem? h)

theorem str_cat (a b : ByteArray) (x y : List UInt8) (ha : a = ⟨x.toArray⟩) (hb : b = ⟨y.toArray⟩) : a ++ b = ⟨(x ++ y).toArray⟩ := by rw [ha, hb, ByteArray.mk_append_mk]

theorem valid_ok {k : Int} {l : ByteArray} {a : Fr} (h : validRx k l a = true) : (allRow a && nodeOk k l a.items.length) = true := by
  unfold validRx at h
  rw [Bool.and_eq_true] at h
  exact h.2
end Go.Proofs.YthmfncklepkddaaGreatDoor

/-
  The automaton of an expression, as an answer: node by node. Of no function of the program but the answers' names.
-/
namespace Go.Proofs.YthmfncklepkddaaGreatDoor
open Go.RowKit

def rxNone : Dx := ⟨[false], [[0, 0, 0]]⟩
def rxAny : Dx := ⟨[false, true, false], [[1, 1, 1], [2, 2, 2], [2, 2, 2]]⟩
/-- An expression without parts. -/
def leafR (k : Int) (l : ByteArray) (y : Dx) (ok : Bool) : Prop :=
  if k = 2 then wordR [] y ok else if k = 3 then wordR l.data.toList y ok else if k = 4 then y = rxAny ∧ ok = true else y = rxNone ∧ ok = true
def nodeR1 (k : Int) (y1 : Dx) (ok1 : Bool) (y : Dx) (ok : Bool) : Prop :=
  if ok1 = true then (if k = 8 then starR y1 y ok else ∃ z, minR y1 z ∧ y = comD z ∧ ok = true) else y = ⟨[], []⟩ ∧ ok = false
def nodeR2 (k : Int) (y1 : Dx) (ok1 : Bool) (y2 : Dx) (ok2 : Bool) (y : Dx) (ok : Bool) : Prop :=
  if ok1 = true ∧ ok2 = true then (if k = 5 then catR y1 y2 y ok else proR y1 y2 k y ok) else y = ⟨[], []⟩ ∧ ok = false
/-- The automaton of the node with this kind, letter and parts, and whether there is one. -/
def compN : Int → ByteArray → Fr → Dx → Bool → Prop
  | k, l, .nil, y, ok => leafR k l y ok
  | k, _, .cons k1 l1 a1 .nil, y, ok => ∃ y1 ok1, compN k1 l1 a1 y1 ok1 ∧ nodeR1 k y1 ok1 y ok
  | k, _, .cons k1 l1 a1 (.cons k2 l2 a2 _), y, ok => ∃ y1 ok1 y2 ok2, compN k1 l1 a1 y1 ok1 ∧ compN k2 l2 a2 y2 ok2 ∧ nodeR2 k y1 ok1 y2 ok2 y ok
theorem leafR_some (k : Int) (l : ByteArray) : ∃ y ok, leafR k l y ok := by
  unfold leafR
  by_cases h2 : k = 2
  · simp only [if_pos h2]
    exact wordR_some _
  by_cases h3 : k = 3
  · simp only [if_neg h2, if_pos h3]
    exact wordR_some _
  by_cases h4 : k = 4
  · simp only [if_neg h2, if_neg h3, if_pos h4]
    exact ⟨_, _, rfl, rfl⟩
  · simp only [if_neg h2, if_neg h3, if_neg h4]
    exact ⟨_, _, rfl, rfl⟩
theorem nodeR1_some (k : Int) (y1 : Dx) (ok1 : Bool) : ∃ y ok, nodeR1 k y1 ok1 y ok := by
  unfold nodeR1
  by_cases h : ok1 = true
  · simp only [if_pos h]
    by_cases h8 : k = 8
    · simp only [if_pos h8]
      exact starR_some _
    · simp only [if_neg h8]
      obtain ⟨z, hz⟩ := minR_some y1
      exact ⟨_, _, z, hz, rfl, rfl⟩
  · simp only [if_neg h]
    exact ⟨_, _, rfl, rfl⟩
theorem nodeR2_some (k : Int) (y1 : Dx) (ok1 : Bool) (y2 : Dx) (ok2 : Bool) : ∃ y ok, nodeR2 k y1 ok1 y2 ok2 y ok := by
  unfold nodeR2
  by_cases h : ok1 = true ∧ ok2 = true
  · simp only [if_pos h]
    by_cases h5 : k = 5
    · simp only [if_pos h5]
      exact catR_some _ _
    · simp only [if_neg h5]
      exact proR_some _ _ _
  · simp only [if_neg h]
    exact ⟨_, _, rfl, rfl⟩
theorem compN_some : ∀ (k : Int) (l : ByteArray) (a : Fr), ∃ y ok, compN k l a y ok
  | k, l, .nil => leafR_some k l
  | k, l, .cons k1 l1 a1 .nil => by
    obtain ⟨y1, ok1, h1⟩ := compN_some k1 l1 a1
    obtain ⟨y, ok, h⟩ := nodeR1_some k y1 ok1
    exact ⟨y, ok, y1, ok1, h1, h⟩
  | k, l, .cons k1 l1 a1 (.cons k2 l2 a2 _) => by
    obtain ⟨y1, ok1, h1⟩ := compN_some k1 l1 a1
    obtain ⟨y2, ok2, h2⟩ := compN_some k2 l2 a2
    obtain ⟨y, ok, h⟩ := nodeR2_some k y1 ok1 y2 ok2
    exact ⟨y, ok, y1, ok1, y2, ok2, h1, h2, h⟩
theorem catR_wt' {a b y : Dx} {ok : Bool} (h : catR a b y ok) : wtD y ≤ 1048576 := by
  unfold catR at h
  split at h
  · exact srchR_wt h
  · rw [h.1]
    decide
theorem starR_wt' {d y : Dx} {ok : Bool} (h : starR d y ok) : wtD y ≤ 1048576 := by
  unfold starR at h
  split at h
  · exact srchR_wt h
  · rw [h.1]
    decide
theorem compN_wt : ∀ {k : Int} {l : ByteArray} {a : Fr} {y : Dx} {ok : Bool}, compN k l a y ok → wtD y ≤ 1048576
  | k, l, .nil, y, ok, h => by
    have h : leafR k l y ok := h
    unfold leafR at h
    split at h
    · exact wordR_wt h
    split at h
    · exact wordR_wt h
    split at h
    · rw [h.1]
      decide
    · rw [h.1]
      decide
  | k, l, .cons k1 l1 a1 .nil, y, ok, h => by
    obtain ⟨y1, ok1, -, h⟩ := h
    unfold nodeR1 at h
    split at h
    · split at h
      · exact starR_wt' h
      · obtain ⟨z, hz, rfl, -⟩ := h
        exact comD_wt (minR_wt hz)
    · rw [h.1]
      decide
  | k, l, .cons k1 l1 a1 (.cons k2 l2 a2 _), y, ok, h => by
    obtain ⟨y1, ok1, y2, ok2, -, -, h⟩ := h
    unfold nodeR2 at h
    split at h
    · split at h
      · exact catR_wt' h
      · exact proR_wt h
    · rw [h.1]
      decide
/-- What CompileRegex answers. -/
def compRx (k : Int) (l : ByteArray) (a : Fr) (y : Dx) (ok : Bool) : Prop := if validRx k l a = true then compN k l a y ok else y = ⟨[], []⟩ ∧ ok = false
theorem compRx_some (k : Int) (l : ByteArray) (a : Fr) : ∃ y ok, compRx k l a y ok := by
  unfold compRx
  by_cases h : validRx k l a = true
  · simp only [if_pos h]
    exact compN_some k l a
  · simp only [if_neg h]
    exact ⟨_, _, rfl, rfl⟩
theorem compRx_wt {k : Int} {l : ByteArray} {a : Fr} {y : Dx} {ok : Bool} (h : compRx k l a y ok) : wtD y ≤ 1048576 := by
  unfold compRx at h
  split at h
  · exact compN_wt h
  · rw [h.1]
    decide
end Go.Proofs.YthmfncklepkddaaGreatDoor

/-
  What spec.l5Find answers.
-/
namespace Go.Proofs.YthmfncklepkddaaGreatDoor
open Go.RowKit

set_option maxRecDepth 100000 in
set_option maxHeartbeats 800000 in
theorem specFind_any (v : Value) (l : List Int) (S : Nat → Prop) (x : Int) (w : World) (h : RowV w S v (ints l)) :
    Calls Tryz.prog 126 #[v, .int .i64 x] w fun e w' => e = .returned (.int .i64 (findV l x)) ∧ w = w' := by
  obtain ⟨hl, A, c, rfl⟩ := h.ints_shape
  have HE := Lib.hid (fun j (hj : j < l.length) => h.intD hj)
  clear h
  obtain ⟨z, hz⟩ : ∃ z, z = findV l x := ⟨_, rfl⟩
  have HNo : Hid ((∀ j, j < l.length → l.getD j 0 ≠ x) → z = -1) := Lib.hid (fun h => by rw [hz]; exact findV_no h)
  have HAt : Hid (∀ j : Nat, j < l.length → l.getD j 0 = x → (∀ i, i < j → l.getD i 0 ≠ x) → z = (j : Int)) := Lib.hid (fun j hj h hlt => by rw [hz]; exact findV_at hj h hlt)
  rw [← hz]
  clear hz
  go_enter Tryz.func126, Tryz.ntmps126
  go_wp2_with fail
  go_loopw [5] (fun i wr => ∃ j : Nat, i = .int .i64 j ∧ j ≤ l.length ∧ w = wr ∧ Hid (∀ i, i < j → l.getD i 0 ≠ x)) (fun i _ => l.length - (intOf i).toNat)
  case atStart => exact ⟨0, rfl, Nat.zero_le _, rfl, Lib.hid (fun i hi => absurd hi (Nat.not_lt_zero _))⟩
  case round =>
    obtain ⟨j, rfl, hj, rfl, hall⟩ := hrel
    by_cases hlt : j < l.length
    · obtain ⟨ad, rfl, -, hc⟩ := HE.out j hlt
      obtain ⟨y, hy⟩ : ∃ y, y = l.getD j 0 := ⟨_, rfl⟩
      rw [← hy] at hc
      by_cases hyx : y = x
      · have hd : (y == x) = true := by simpa using hyx
        have HF : Hid (z = (j : Int)) := Lib.hid (HAt.out j hlt (by rw [← hy]; exact hyx) hall.out)
        clear hy hyx
        go_wp2_with fail
        go_ret
        exact ⟨congrArg (fun z : Int => Ending.returned (.int .i64 z)) HF.out.symm, rfl⟩
      · have hd : (y == x) = false := by simpa using hyx
        have HX : Hid (l.getD j 0 ≠ x) := Lib.hid (by rw [← hy]; exact hyx)
        clear hy hyx
        go_wp2_with fail
        go_roundw
        case rel => exact ⟨j + 1, by go_num, by omega, by first | rfl | trivial, Lib.hid (fun i hi => by
          by_cases e : i = j
          · rw [e]; exact HX.out
          · exact hall.out i (by omega))⟩
        case measure => simp [intOf]; omega
    · obtain rfl : j = l.length := by omega
      have HF : Hid (z = -1) := Lib.hid (HNo.out hall.out)
      go_wp2_with fail
      go_ret
      exact ⟨congrArg (fun z : Int => Ending.returned (.int .i64 z)) HF.out.symm, rfl⟩
theorem Two.cell_row {B : Nat} {w : World} {v : Value} {l : List Int} (h : IR w B v l) (hl : l.length ≤ 9223372036854775807) {j : Nat} (hj : j < l.length) : ∃ ad c, v = .slice (some ad) l.length c ∧ w.cell? (ad.add j) = some (.int .i64 (l.getD j 0)) := by
  have h1 := (h.row hl).row
  obtain ⟨-, A, c, rfl⟩ := h1.ints_shape
  obtain ⟨ad, rfl, -, hc⟩ := h1.intD hj
  exact ⟨ad, c, rfl, hc⟩
theorem specFind_below {w V : World} {v : Value} {l : List Int} {B : Nat} (x : Int) (h : IR w B v l) (hl : l.length ≤ 9223372036854775807) (hV : Below w.heap.size w V) :
    Calls Tryz.prog 126 #[v, .int .i64 x] V fun e w' => e = .returned (.int .i64 (findV l x)) ∧ Below w.heap.size w w' :=
  (specFind_any v l _ x V ((h.row hl).row.kept hV)).mono (fun _ _ h => ⟨h.1, h.2 ▸ hV⟩)
theorem IR.alloc {w : World} {B : Nat} {v : Value} {l : List Int} (h : IR w B v l) (o : Obj) : IR (w.alloc o) B v l := h.below ((Below.refl _ _).alloc (Nat.le_refl _) _)
end Go.Proofs.YthmfncklepkddaaGreatDoor
