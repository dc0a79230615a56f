/-
  What laws.toRegex and laws.toRegexS answer: the same expression, in new memory.
-/
import Derived.Test.YtichpiklgkahbaaTree
import Derived.OwnWalk
namespace Go.Proofs.Ytichpiklgkahbaa
open Go.RowKit

theorem rxInfo : (Try.prog.info? 26).map (fun i => (i.zero, i.size, i.bytes)) = some (some (.agg #[.int .i64 0, .string ⟨#[]⟩, .slice none 0 0]), 3, 48) := by kernel_rfl

/-- A slice that holds the row f, in blocks of the call's own. -/
def ToPostT (n : Nat) (f : Fr) (w : World) (e : Ending) (w' : World) : Prop :=
  ∃ v, e = .returned v ∧ SlT w' n (fun g => w.heap.size ≤ g ∧ g < w'.heap.size) v f ∧ Below w.heap.size w w'
/-- A node whose parts lie in blocks of the call's own. -/
def ToNodeT (n : Nat) (k : Int) (l : ByteArray) (a : Fr) (w : World) (e : Ending) (w' : World) : Prop :=
  ∃ u, e = .returned (.agg #[.int .i64 k, .string l, u]) ∧ SlT w' n (fun g => w.heap.size ≤ g ∧ g < w'.heap.size) u a ∧ Below w.heap.size w w'
def ToPost (n : Nat) (f : Fr) (w : World) (e : Ending) (w' : World) : Prop :=
  ∃ v, e = .returned v ∧ SlP w' (fun g => w.heap.size ≤ g ∧ g < w'.heap.size) n v f ∧ Below w.heap.size w w'
def ToNode (n : Nat) (k : Int) (l : ByteArray) (a : Fr) (w : World) (e : Ending) (w' : World) : Prop :=
  ∃ u, e = .returned (.agg #[.int .i64 k, .string l, u]) ∧ SlP w' (fun g => w.heap.size ≤ g ∧ g < w'.heap.size) n u a ∧ Below w.heap.size w w'

/-- A world with three blocks more. -/
def three (w : World) (o1 o2 o3 : Obj) : World := ((w.alloc o1).alloc o2).alloc o3
theorem three_size (w : World) (o1 o2 o3 : Obj) : (three w o1 o2 o3).heap.size = w.heap.size + 1 + 1 + 1 := by simp [three]
theorem three_two (w : World) (o1 o2 o3 : Obj) : (three w o1 o2 o3).heap[w.heap.size + 1]? = some o2 := by
  have h := heap_alloc_new (w.alloc o1) o2
  rw [World.size_alloc] at h
  exact (Below.heap_alloc _ o3 _ (by simp)).trans h
theorem three_three (w : World) (o1 o2 o3 : Obj) : (three w o1 o2 o3).heap[w.heap.size + 1 + 1]? = some o3 := by
  have h := heap_alloc_new ((w.alloc o1).alloc o2) o3
  rw [World.size_alloc, World.size_alloc] at h
  exact h

/-- The result's cells are written: what is beneath lies as it lay. -/
theorem node_end {w W3 w1 : World} {n : Nat} {k : Int} {l : ByteArray} {u : Value} {a : Fr} {x0 x1 x2 : Value} (hs : SlT w1 n (fun g => W3.heap.size ≤ g ∧ g < w1.heap.size) u a) (hb1 : Below W3.heap.size W3 w1) (hb : Below w.heap.size w W3) (hz : W3.heap.size = w.heap.size + 1 + 1 + 1)
    (b0 : w1.cell? ⟨w.heap.size + 1, 0, none⟩ = some x0) (b1 : w1.cell? ⟨w.heap.size + 1, 1, none⟩ = some x1) (b2 : w1.cell? ⟨w.heap.size + 1, 2, none⟩ = some x2) :
    let W4 := (((w1.setCell ⟨w.heap.size + 1 + 1, 2, none⟩ u).setCell ⟨w.heap.size + 1, 0, none⟩ (.int .i64 k)).setCell ⟨w.heap.size + 1, 1, none⟩ (.string l)).setCell ⟨w.heap.size + 1, 2, none⟩ u
    W4.cell? ⟨w.heap.size + 1, 0, none⟩ = some (.int .i64 k) ∧ W4.cell? ⟨w.heap.size + 1, 1, none⟩ = some (.string l) ∧ W4.cell? ⟨w.heap.size + 1, 2, none⟩ = some u ∧
      SlT W4 n (fun g => w.heap.size ≤ g ∧ g < W4.heap.size) u a ∧ Below w.heap.size w W4 := by
  intro W4
  have ne : ∀ {g o g' o' : Nat}, g ≠ g' ∨ o ≠ o' → (⟨g, o, none⟩ : Addr) ≠ ⟨g', o', none⟩ := fun h e => by
    injection e with e1 e2
    rcases h with h | h
    · exact h e1
    · exact h e2
  have d0 : (w1.setCell ⟨w.heap.size + 1 + 1, 2, none⟩ u).cell? ⟨w.heap.size + 1, 0, none⟩ = some x0 := (World.cell?_setCell_other _ _ _ _ (ne (.inl (by omega)))).trans b0
  have d1 : ((w1.setCell ⟨w.heap.size + 1 + 1, 2, none⟩ u).setCell ⟨w.heap.size + 1, 0, none⟩ (.int .i64 k)).cell? ⟨w.heap.size + 1, 1, none⟩ = some x1 :=
    (World.cell?_setCell_other _ _ _ _ (ne (.inr (by omega)))).trans ((World.cell?_setCell_other _ _ _ _ (ne (.inl (by omega)))).trans b1)
  have d2 : (((w1.setCell ⟨w.heap.size + 1 + 1, 2, none⟩ u).setCell ⟨w.heap.size + 1, 0, none⟩ (.int .i64 k)).setCell ⟨w.heap.size + 1, 1, none⟩ (.string l)).cell? ⟨w.heap.size + 1, 2, none⟩ = some x2 :=
    (World.cell?_setCell_other _ _ _ _ (ne (.inr (by omega)))).trans ((World.cell?_setCell_other _ _ _ _ (ne (.inr (by omega)))).trans ((World.cell?_setCell_other _ _ _ _ (ne (.inl (by omega)))).trans b2))
  have hsz : W4.heap.size = w1.heap.size := by simp [W4, World.setCell]
  refine ⟨?_, ?_, World.cell?_setCell_same _ _ _ d2, ?_, ?_⟩
  · exact (World.cell?_setCell_other _ _ _ _ (ne (.inr (by omega)))).trans ((World.cell?_setCell_other _ _ _ _ (ne (.inr (by omega)))).trans (World.cell?_setCell_same _ _ _ d0))
  · exact (World.cell?_setCell_other _ _ _ _ (ne (.inr (by omega)))).trans (World.cell?_setCell_same _ _ _ d1)
  · refine hs.mono (fun g hg => ?_) (fun g hg => ⟨by omega, by rw [hsz]; exact hg.2⟩)
    have h1 := hg.1
    rw [hz] at h1
    exact ((Below.heap_setCell _ _ _ g (by simp; omega)).trans ((Below.heap_setCell _ _ _ g (by simp; omega)).trans ((Below.heap_setCell _ _ _ g (by simp; omega)).trans (Below.heap_setCell _ _ _ g (by simp; omega)))))
  · have hb' := hb.trans (hb1.mono (by rw [hz]; omega))
    exact (((hb'.setCell (p := ⟨w.heap.size + 1 + 1, 2, none⟩) (by simp; omega) _).setCell (p := ⟨w.heap.size + 1, 0, none⟩) (by simp) _).setCell (p := ⟨w.heap.size + 1, 1, none⟩) (by simp) _).setCell (p := ⟨w.heap.size + 1, 2, none⟩) (by simp) _

set_option maxHeartbeats 800000 in
theorem toNodeT_of {n : Nat} (ih : ∀ (B : Nat) (u : Value) (f : Fr) (w : World), Sl w B n u f → B ≤ w.heap.size → f.size ≤ 2097152 → Calls Try.prog 44 #[u] w (ToPostT n f w))
    (B : Nat) (k : Int) (l : ByteArray) (u : Value) (a : Fr) (w : World) (hS : Sl w B n u a) (hB : B ≤ w.heap.size) (hsz : a.size ≤ 2097152) :
    Calls Try.prog 19 #[.agg #[.int .i64 k, .string l, u]] w (ToNodeT n k l a w) := by
  have HB3 := Lib.hid ((((Below.refl w.heap.size w).alloc (Nat.le_refl _) (.cells #[.int .i64 k, .string l, u] 37)).alloc (by simp) (.cells #[.int .i64 0, .string ⟨#[]⟩, .slice none 0 0] 26)).alloc (by simp; omega) (.cells #[.int .i64 k, .string l, .slice none 0 0] 26))
  have HI := Lib.hid (fun wr (hb : Below w.heap.size w wr) => ih B u a wr (hS.mono (hb.mono hB) (Nat.le_refl _)) (Nat.le_trans hB hb.size) hsz)
  clear hS
  go_enter Try.func19, Try.ntmps19
  go_wp2_with fail
  refine (HI.out _ HB3.out).mono ?_
  rintro e w1 ⟨v, rfl, hsl, hb1⟩
  obtain ⟨A, c, rfl⟩ := hsl.shape
  have hz := three_size w (.cells #[.int .i64 k, .string l, u] 37) (.cells #[.int .i64 0, .string ⟨#[]⟩, .slice none 0 0] 26) (.cells #[.int .i64 k, .string l, .slice none 0 0] 26)
  have h2 := three_two w (.cells #[.int .i64 k, .string l, u] 37) (.cells #[.int .i64 0, .string ⟨#[]⟩, .slice none 0 0] 26) (.cells #[.int .i64 k, .string l, .slice none 0 0] 26)
  have h3 := three_three w (.cells #[.int .i64 k, .string l, u] 37) (.cells #[.int .i64 0, .string ⟨#[]⟩, .slice none 0 0] 26) (.cells #[.int .i64 k, .string l, .slice none 0 0] 26)
  unfold three at hz h2 h3
  have hz1 := hb1.size
  rw [hz] at hz1
  have g2 := (hb1.block _ (by rw [hz]; omega)).trans h2
  have g3 := (hb1.block _ (by rw [hz]; omega)).trans h3
  have a0 := (cell_of_row w1 _ 0 _ _ (0, 0) g3).trans (rfl : _ = some (Value.int .i64 k))
  have a1 := (cell_of_row w1 _ 1 _ _ (0, 0) g3).trans (rfl : _ = some (Value.string l))
  have a2 := (cell_of_row w1 _ 2 _ _ (0, 0) g3).trans (rfl : _ = some (Value.slice none 0 0))
  have b0 := (cell_of_row w1 _ 0 _ _ (0, 0) g2).trans (rfl : _ = some (Value.int .i64 0))
  have b1 := (cell_of_row w1 _ 1 _ _ (0, 0) g2).trans (rfl : _ = some (Value.string ⟨#[]⟩))
  have b2 := (cell_of_row w1 _ 2 _ _ (0, 0) g2).trans (rfl : _ = some (Value.slice none 0 0))
  have fa := frozen_of_row w1 _ 2 _ _ g3
  have f0 := frozen_of_row w1 _ 0 _ _ g2
  have f1 := frozen_of_row w1 _ 1 _ _ g2
  have f2 := frozen_of_row w1 _ 2 _ _ g2
  clear g2 g3 h2 h3
  have HSL := Lib.hid hsl
  have HB1 := Lib.hid hb1
  have HZ := Lib.hid hz
  clear hsl hb1 hz
  go_wp2_with fail
  have R := node_end (w := w) (k := k) (l := l) HSL.out HB1.out HB3.out HZ.out b0 b1 b2
  obtain ⟨c0, c1, c2, hR⟩ := R
  refine bodyPost_ret (v := .agg #[.int .i64 k, .string l, .slice A a.items.length c]) (by simp [results, Try.results19, go_sem, c0, c1, c2]) rfl ⟨_, rfl, hR.1, hR.2⟩

/-- Block g holds a row of expressions; the first j are filled in, what is beneath them lies in later blocks, part by part. -/
def Filled (wr : World) (g n : Nat) (f : Fr) (j m : Nat) : Prop :=
  (∃ cur : Array Value, wr.heap[g]? = some (.cells cur 26 (0, 0)) ∧ cur.size = f.items.length * 3) ∧
    ∃ s : Nat → Nat, g < s 0 ∧ (∀ i, s i ≤ s (i + 1)) ∧ s j ≤ m ∧ m ≤ wr.heap.size ∧ ∀ i k l a, i < j → f.items[i]? = some (k, l, a) → ∃ u, ElAt wr g (i * 3) k l u ∧ SlT wr n (fun h => s i ≤ h ∧ h < s (i + 1)) u a
def cutAt (s : Nat → Nat) (j z i : Nat) : Nat := if i ≤ j then s i else z
theorem cutAt_le {s : Nat → Nat} {j z i : Nat} (h : i ≤ j) : cutAt s j z i = s i := if_pos h
theorem cutAt_gt {s : Nat → Nat} {j z i : Nat} (h : j < i) : cutAt s j z i = z := if_neg (by omega)
theorem rising {s : Nat → Nat} (h : ∀ i, s i ≤ s (i + 1)) {i j : Nat} (hij : i ≤ j) : s i ≤ s j := by
  induction j with
  | zero => rw [Nat.le_zero.1 hij]; exact Nat.le_refl _
  | succ j ih =>
    by_cases e : i = j + 1
    · rw [e]; exact Nat.le_refl _
    · exact Nat.le_trans (ih (by omega)) (h j)
theorem Filled.cells {wr : World} {g n : Nat} {f : Fr} {j m : Nat} (h : Filled wr g n f j m) (hj : j < f.items.length) :
    (∃ x, wr.cell? ⟨g, j * 3, none⟩ = some x) ∧ (∃ x, wr.cell? ⟨g, j * 3 + 1, none⟩ = some x) ∧ (∃ x, wr.cell? ⟨g, j * 3 + 2, none⟩ = some x) ∧ ∀ o, wr.frozen? ⟨g, o, none⟩ = false := by
  obtain ⟨⟨cur, hh, hs⟩, _⟩ := h
  have at_ : ∀ o, o < cur.size → ∃ x, wr.cell? ⟨g, o, none⟩ = some x := fun o ho => ⟨_, (cell_of_row wr g o _ _ (0, 0) hh).trans (Array.getElem?_eq_getElem ho)⟩
  exact ⟨at_ _ (by omega), at_ _ (by omega), at_ _ (by omega), fun o => frozen_of_row wr g o _ _ hh⟩
theorem Filled.lt {wr : World} {g n : Nat} {f : Fr} {j m : Nat} (h : Filled wr g n f j m) : g < wr.heap.size := by
  obtain ⟨⟨cur, hh, _⟩, _⟩ := h
  exact (Array.getElem?_eq_some_iff.1 hh).1
/-- Over a call that turns nothing old. -/
theorem Filled.below {wr w1 : World} {g n : Nat} {f : Fr} {j m : Nat} (h : Filled wr g n f j m) (hb : Below wr.heap.size wr w1) : Filled w1 g n f j m := by
  have hg := h.lt
  obtain ⟨⟨cur, hh, hs⟩, s, h0, hr, hj, hm, hE⟩ := h
  refine ⟨⟨cur, (hb.block g hg).trans hh, hs⟩, s, h0, hr, hj, Nat.le_trans hm hb.size, fun i k l a hi hx => ?_⟩
  obtain ⟨u, he, hsl⟩ := hE i k l a hi hx
  exact ⟨u, he.below hb hg, hsl.mono (fun g' hg' => hb.block g' (Nat.lt_of_lt_of_le hg'.2 (Nat.le_trans (rising hr hi) (Nat.le_trans hj hm)))) (fun _ hg' => hg')⟩
/-- The next one is stored. -/
theorem Filled.step {w1 : World} {g n m : Nat} {f : Fr} {j : Nat} {k : Int} {l : ByteArray} {u : Value} {a : Fr} (h : Filled w1 g n f j m) (hx : f.items[j]? = some (k, l, a)) (hs : SlT w1 n (fun h => m ≤ h ∧ h < w1.heap.size) u a) :
    let W2 := ((w1.setCell ⟨g, j * 3, none⟩ (.int .i64 k)).setCell ⟨g, j * 3 + 1, none⟩ (.string l)).setCell ⟨g, j * 3 + 2, none⟩ u
    Filled W2 g n f (j + 1) W2.heap.size := by
  intro W2
  have hlt := (List.getElem?_eq_some_iff.1 hx).1
  obtain ⟨⟨x0, b0⟩, ⟨x1, b1⟩, ⟨x2, b2⟩, _⟩ := h.cells hlt
  have hsz : W2.heap.size = w1.heap.size := by simp [W2, World.setCell]
  have ne : ∀ {o o' : Nat}, o ≠ o' → (⟨g, o, none⟩ : Addr) ≠ ⟨g, o', none⟩ := fun h e => by
    injection e with _ e2
    exact h e2
  have far : ∀ o, o < j * 3 ∨ j * 3 + 2 < o → W2.cell? ⟨g, o, none⟩ = w1.cell? ⟨g, o, none⟩ := fun o ho =>
    (World.cell?_setCell_other _ _ _ _ (ne (by omega))).trans ((World.cell?_setCell_other _ _ _ _ (ne (by omega))).trans (World.cell?_setCell_other _ _ _ _ (ne (by omega))))
  have hother : ∀ h, g ≠ h → W2.heap[h]? = w1.heap[h]? := fun h hne =>
    (Below.heap_setCell _ _ _ h (fun e => hne e.symm)).trans ((Below.heap_setCell _ _ _ h (fun e => hne e.symm)).trans (Below.heap_setCell _ _ _ h (fun e => hne e.symm)))
  have d1 : (w1.setCell ⟨g, j * 3, none⟩ (.int .i64 k)).cell? ⟨g, j * 3 + 1, none⟩ = some x1 := (World.cell?_setCell_other _ _ _ _ (ne (by omega))).trans b1
  have d2 : ((w1.setCell ⟨g, j * 3, none⟩ (.int .i64 k)).setCell ⟨g, j * 3 + 1, none⟩ (.string l)).cell? ⟨g, j * 3 + 2, none⟩ = some x2 :=
    (World.cell?_setCell_other _ _ _ _ (ne (by omega))).trans ((World.cell?_setCell_other _ _ _ _ (ne (by omega))).trans b2)
  obtain ⟨⟨cur, hh, hcs⟩, s, h0, hr, hsj, hm, hE⟩ := h
  have hgs : ∀ i, g < s i := fun i => Nat.lt_of_lt_of_le h0 (rising hr (Nat.zero_le i))
  refine ⟨⟨_, heap_setCell_same _ g (j * 3 + 2) _ _ u (heap_setCell_same _ g (j * 3 + 1) _ _ (.string l) (heap_setCell_same w1 g (j * 3) _ _ (.int .i64 k) hh)), by simpa using hcs⟩,
    cutAt s j w1.heap.size, by rw [cutAt_le (Nat.zero_le _)]; exact h0, fun i => ?_, by rw [cutAt_gt (Nat.lt_succ_self _), hsz]; exact Nat.le_refl _, Nat.le_refl _, fun i k' l' a' hi hx' => ?_⟩
  · have := hr i
    by_cases e1 : i + 1 ≤ j
    · rw [cutAt_le (by omega), cutAt_le e1]; exact this
    · rw [cutAt_gt (by omega : j < i + 1)]
      by_cases e2 : i ≤ j
      · rw [cutAt_le e2]
        have := rising hr e2
        omega
      · rw [cutAt_gt (by omega)]; exact Nat.le_refl _
  by_cases e : i = j
  · subst e
    rw [hx] at hx'
    cases hx'
    refine ⟨u, ⟨?_, ?_, World.cell?_setCell_same _ _ _ d2⟩, hs.mono (fun h hh => hother h (by have := hgs i; omega)) (fun h hh => ⟨by rw [cutAt_le (Nat.le_refl _)]; omega, by rw [cutAt_gt (Nat.lt_succ_self _)]; exact hh.2⟩)⟩
    · exact (World.cell?_setCell_other _ _ _ _ (ne (by omega))).trans ((World.cell?_setCell_other _ _ _ _ (ne (by omega))).trans (World.cell?_setCell_same _ _ _ b0))
    · exact (World.cell?_setCell_other _ _ _ _ (ne (by omega))).trans (World.cell?_setCell_same _ _ _ d1)
  · obtain ⟨u', he, hsl⟩ := hE i k' l' a' (by omega) hx'
    refine ⟨u', ⟨(far _ (by omega)).trans he.1, (far _ (by omega)).trans he.2.1, (far _ (by omega)).trans he.2.2⟩, hsl.mono (fun h hh => hother h (by have := hgs i; omega)) (fun h hh => ⟨by rw [cutAt_le (by omega)]; exact hh.1, by rw [cutAt_le (by omega)]; exact hh.2⟩)⟩

theorem to_end {w wr : World} {n : Nat} {f : Fr} (hl : f.items.length ≤ 9223372036854775807) (hls : ∀ (j : Nat) (k : Int) (l : ByteArray) (a : Fr), f.items[j]? = some (k, l, a) → l.size ≤ 9223372036854775807)
    (hF : Filled wr w.heap.size n f f.items.length wr.heap.size) (hb : Below w.heap.size w wr) : ToPostT (n + 1) f w (.returned (.slice (some ⟨w.heap.size, 0, none⟩) f.items.length f.items.length)) wr := by
  have hg := hF.lt
  obtain ⟨⟨cur, hh, hcs⟩, s, h0, hr, hsj, hm, hE⟩ := hF
  have hgs : ∀ i, w.heap.size < s i := fun i => Nat.lt_of_lt_of_le h0 (rising hr (Nat.zero_le i))
  refine ⟨_, rfl, ⟨hl, .inr ⟨w.heap.size, 0, _, fun j h => j < f.items.length ∧ s j ≤ h ∧ h < s (j + 1), rfl, ⟨Nat.le_refl _, hg⟩, ⟨cur, _, hh⟩, fun j h hj => ?_, fun i j h hi hj => ?_, fun j k l a hx => ⟨hls j k l a hx, ?_⟩⟩⟩, hb⟩
  · have h1 := hgs j
    have h2 := rising hr (show j + 1 ≤ f.items.length from hj.1)
    exact ⟨⟨by omega, by omega⟩, by omega⟩
  · by_cases e : i = j
    · exact e
    · by_cases e2 : i < j
      · have := rising hr (show i + 1 ≤ j from e2)
        omega
      · have := rising hr (show j + 1 ≤ i by omega)
        omega
  · obtain ⟨u, he, hsl⟩ := hE j k l a (List.getElem?_eq_some_iff.1 hx).1 hx
    refine ⟨u, by rw [Nat.zero_add]; exact he, hsl.mono (fun _ _ => rfl) (fun h hh => ⟨(List.getElem?_eq_some_iff.1 hx).1, hh.1, hh.2⟩)⟩

set_option maxHeartbeats 1600000 in
theorem toST_any (n : Nat) : ∀ (B : Nat) (v : Value) (f : Fr) (w : World), Sl w B n v f → B ≤ w.heap.size → f.size ≤ 2097152 → Calls Try.prog 44 #[v] w (ToPostT n f w) := by
  induction n with
  | zero => intro B v f w h; exact h.zero.elim
  | succ n ih =>
    intro B v f w hS hB hsz
    obtain ⟨i0, hi, hz0, hz1, hz2⟩ := info_parts rxInfo
    obtain ⟨hl, A, c, rfl, hE⟩ := hS.open
    have hlen := f.len_size
    have HE := Lib.hid hE
    have hls : ∀ (j : Nat) (k : Int) (l : ByteArray) (a : Fr), f.items[j]? = some (k, l, a) → l.size ≤ 9223372036854775807 := fun j k l a hx => by
      obtain ⟨g, o, _, _, k', l', a', u, hx', hls, _⟩ := hE j (List.getElem?_eq_some_iff.1 hx).1
      rw [hx] at hx'
      cases hx'
      exact hls
    have HLS := Lib.hid hls
    clear hE hS hls
    go_enter Try.func44, Try.ntmps44
    go_wp2_with (at_make; refine wpList_make_full _ rfl _ _ 24 rfl w.heap.size 26 i0 _ 3 Try.underlying24 hi hz0 hz1 _ _ _ _ f.items.length rfl rfl rfl rfl (by rw [hz2]; omega) (by unfold maxLen; omega) (Nat.le_refl _) ?_; intro w1 hown hgr)
    have hF0 : Filled w1 w.heap.size n f 0 w1.heap.size ∧ Below w.heap.size w w1 := by
      have hsz : w.heap.size < w1.heap.size := by
        rcases hown.2 with ⟨e, _⟩ | ⟨g, cap, cur, e, _, hh, _, _, hcs, _⟩
        · cases e
        · cases e
          exact (Array.getElem?_eq_some_iff.1 hh).1
      refine ⟨⟨?_, fun _ => w.heap.size + 1, Nat.lt_succ_self _, fun _ => Nat.le_refl _, hsz, Nat.le_refl _, fun i k l a hi => absurd hi (Nat.not_lt_zero _)⟩, ⟨hgr.os, hgr.tape, hgr.output, hgr.size, fun k hk => hgr.block k hk (fun e => by cases e)⟩⟩
      rcases hown.2 with ⟨e, _⟩ | ⟨g, cap, cur, e, _, hh, _, _, hcs, _⟩
      · cases e
      · cases e
        exact ⟨cur, hh, hcs⟩
    obtain ⟨hf0, hb0⟩ := hF0
    clear hown hgr
    go_loopw [4] (fun i wr => ∃ j : Nat, i = .int .i64 j ∧ j ≤ f.items.length ∧ Filled wr w.heap.size n f j wr.heap.size ∧ Below w.heap.size w wr) (fun i _ => f.items.length - (intOf i).toNat)
    case atStart => exact ⟨0, rfl, Nat.zero_le _, hf0, hb0⟩
    case round =>
      obtain ⟨j, rfl, hj, hfil, hb⟩ := hrel
      have HF := Lib.hid hfil
      have HB := Lib.hid hb
      have hwz := hb.size
      clear hfil hb
      by_cases hlt : j < f.items.length
      · obtain ⟨g, o, rfl, hg, k, l, a, u, hx, hls, he, h4⟩ := HE.out j hlt
        obtain ⟨hc0, hc1, hc2⟩ := he.below HB.out (Nat.lt_of_lt_of_le hg hB)
        have hsa := Fr.size_item hx
        have HI := Lib.hid (toNodeT_of ih B k l u a wr (h4.mono (HB.out.mono hB) (Nat.le_refl _)) (by omega) (by omega))
        have HX := Lib.hid hx
        clear he h4 hx
        go_wp2_with fail
        refine HI.out.mono ?_
        rintro e w2 ⟨u', rfl, hsl, hb2⟩
        obtain ⟨A', c', rfl⟩ := hsl.shape
        have HF2 := Lib.hid (HF.out.below hb2)
        obtain ⟨⟨x0, b0⟩, ⟨x1, b1⟩, ⟨x2, b2⟩, hfr⟩ := HF2.out.cells hlt
        have f0 := hfr (j * 3)
        have f1 := hfr (j * 3 + 1)
        have f2 := hfr (j * 3 + 2)
        have HS := Lib.hid (HF2.out.step HX.out hsl)
        have HB2 := Lib.hid ((((HB.out.trans (hb2.mono hwz)).setCell (p := ⟨w.heap.size, j * 3, none⟩) (Nat.le_refl _) (.int .i64 k)).setCell (p := ⟨w.heap.size, j * 3 + 1, none⟩) (Nat.le_refl _) (.string l)).setCell (p := ⟨w.heap.size, j * 3 + 2, none⟩) (Nat.le_refl _) (.slice A' a.items.length c'))
        clear hfr hsl hb2
        go_wp2_with fail
        go_roundw
        case rel => exact ⟨j + 1, by go_num, by omega, HS.out, HB2.out⟩
        case measure => simp [intOf]; omega
      · obtain rfl : j = f.items.length := by omega
        go_wp2_with fail
        go_ret
        exact to_end hl HLS.out HF.out HB.out
theorem toNode_of {n : Nat} (ih : ∀ (B : Nat) (u : Value) (f : Fr) (w : World), Sl w B n u f → B ≤ w.heap.size → f.size ≤ 2097152 → Calls Try.prog 44 #[u] w (ToPostT n f w))
    (B : Nat) (k : Int) (l : ByteArray) (u : Value) (a : Fr) (w : World) (hS : Sl w B n u a) (hB : B ≤ w.heap.size) (hsz : a.size ≤ 2097152) :
    Calls Try.prog 19 #[.agg #[.int .i64 k, .string l, u]] w (ToNode n k l a w) :=
  (toNodeT_of ih B k l u a w hS hB hsz).mono fun _ _ ⟨v, he, hs, hb⟩ => ⟨v, he, hs.sl, hb⟩
theorem toS_any (n : Nat) : ∀ (B : Nat) (v : Value) (f : Fr) (w : World), Sl w B n v f → B ≤ w.heap.size → f.size ≤ 2097152 → Calls Try.prog 44 #[v] w (ToPostT n f w) := toST_any n
theorem own_sl {w w' : World} {n : Nat} {v : Value} {f : Fr} (h : SlP w' (fun g => w.heap.size ≤ g ∧ g < w'.heap.size) n v f) : Sl w' w'.heap.size n v f := SlP.mono (fun _ _ => rfl) (fun _ hg => hg.2) h
end Go.Proofs.Ytichpiklgkahbaa
