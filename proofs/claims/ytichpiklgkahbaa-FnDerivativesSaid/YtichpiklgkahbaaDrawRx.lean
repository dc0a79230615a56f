/-
  What the model's draw of an expression answers: an expression in memory of its own; the cursor's block alone has turned.
-/
import Derived.Test.YtichpiklgkahbaaCurMore
import Derived.Test.YtichpiklgkahbaaBoxMore
import Derived.Outline
namespace Go.Proofs.Ytichpiklgkahbaa
open Go.RowKit

/-- Below the heap's old size nothing has turned: the cursor's block lies above. -/

def OncePost (g B : Nat) (A : Option Addr) (n c : Nat) (w : World) (e : Ending) (w' : World) : Prop :=
  ∃ b : Bool, e = .returned (.bool b) ∧ Cur w' g B A n c ∧ w.grownBy w' (some g)
set_option maxRecDepth 100000 in
set_option maxHeartbeats 800000 in
theorem l1Once_any (g B : Nat) (A : Option Addr) (n c m : Nat) (w : World) (hc : Cur w g B A n c) (hn : n ≤ 1048576) (h1 : 1 ≤ m) (h2 : m ≤ 256) :
    Calls Try.prog 35 #[.pointer (some ⟨g, 0, none⟩), .int .i64 m] w (OncePost g B A n c w) := by
  have H3 := Lib.hid (l1Below_small g B A n c m w hc hn h1 h2)
  go_enter Try.func35, Try.ntmps35
  go_wp2_with fail
  go_at_call 34
  refine H3.out.mono ?_
  rintro e w1 ⟨x, rfl, hx, hc1, hg1⟩
  have HC1 := Lib.hid hc1
  have HG1 := Lib.hid hg1
  clear hc1 hg1
  go_wp2_with fail
  go_ret
  exact ⟨_, rfl, HC1.out, HG1.out⟩

/-- What the draw of an expression answers. -/
def RxPost (d : Nat) (g B : Nat) (A : Option Addr) (n c : Nat) (w : World) (e : Ending) (w' : World) : Prop :=
  ∃ (k : Int) (l : ByteArray) (A' : Option Addr) (c' : Nat) (a : Fr), e = .returned (.agg #[.int .i64 k, .string l, .slice A' a.items.length c']) ∧ 0 ≤ k ∧ k ≤ 9 ∧ l.size ≤ 1 ∧ a.size + 2 ≤ 2 ^ d ∧ (a.items.length ≤ 2 ∧ c' = a.items.length) ∧ SlT w' d (OwnB w w') (.slice A' a.items.length c') a ∧ Cur w' g B A n c ∧ w.grownBy w' (some g)

theorem Cur.put {w w' : World} {g B : Nat} {A : Option Addr} {n c : Nat} (h : Cur w g B A n c) (hb : Below B w w') (hg : w'.heap[g]? = w.heap[g]?) : Cur w' g B A n c := by
  obtain ⟨hB, hbl, i, x, hi, hh⟩ := h
  exact ⟨hB, hbl.below hb, i, x, hi, hg.trans hh⟩
/-- The result's cells are written: a leaf. -/
theorem rx_leaf_end {w W3 : World} {Z : Obj} {g B d : Nat} {A : Option Addr} {n c : Nat} {k : Int} {l : ByteArray} {x0 x1 x2 : Value} (hk0 : 0 ≤ k) (hk9 : k ≤ 9) (hl : l.size ≤ 1) (hc : Cur W3 g B A n c) (hgl : g < w.heap.size) (hg : (w.alloc Z).grownBy W3 (some g))
    (b0 : W3.cell? ⟨w.heap.size, 0, none⟩ = some x0) (b1 : W3.cell? ⟨w.heap.size, 1, none⟩ = some x1) (b2 : W3.cell? ⟨w.heap.size, 2, none⟩ = some x2) :
    let W4 := ((W3.setCell ⟨w.heap.size, 0, none⟩ (.int .i64 k)).setCell ⟨w.heap.size, 1, none⟩ (.string l)).setCell ⟨w.heap.size, 2, none⟩ (.slice none 0 0)
    (W4.cell? ⟨w.heap.size, 0, none⟩ = some (.int .i64 k) ∧ W4.cell? ⟨w.heap.size, 1, none⟩ = some (.string l) ∧ W4.cell? ⟨w.heap.size, 2, none⟩ = some (.slice none 0 0)) ∧
      RxPost (d + 1) g B A n c w (.returned (.agg #[.int .i64 k, .string l, .slice none 0 0])) W4 := by
  intro W4
  obtain ⟨hcl, hsz, hot, hB⟩ := put3 (k := .int .i64 k) (l := .string l) (u := .slice none 0 0) b0 b1 b2
  have h1 : 1 ≤ 2 ^ d := Nat.one_le_two_pow
  refine ⟨hcl, k, l, none, 0, .nil, rfl, hk0, hk9, hl, ?_, ⟨Nat.zero_le _, rfl⟩, SlT.none W4 d _ none 0, ?_, ?_⟩
  · rw [Nat.pow_succ]
    simp only [Fr.size]
    omega
  · exact hc.put (hB B W3 (Below.refl _ _) (Nat.le_of_lt (Nat.lt_of_le_of_lt hc.1 hgl))) (hot g (by omega))
  · exact grown_new (grown_tr (World.grownBy_alloc w Z (some g)) hg) hsz ⟨rfl, rfl, rfl⟩ (Nat.le_refl _) (fun k hk => hot k hk)


def rxLetters : List (List UInt8) := [[97], [97], [98], [98], [99]]
theorem letters_size (p : List UInt8) (h : p ∈ rxLetters) : (⟨p.toArray⟩ : ByteArray).size ≤ 1 := by
  have : (rxLetters.all fun p => decide (p.length ≤ 1)) = true := by decide
  have := List.all_eq_true.1 this p h
  simpa [ByteArray.size] using this

set_option maxRecDepth 100000 in
set_option maxHeartbeats 3200000 in
theorem l3Draw_one (g B : Nat) (A : Option Addr) (n c : Nat) (w : World) (hc : Cur w g B A n c) (hn : n ≤ 1048576) :
    Calls Try.prog 33 #[.pointer (some ⟨g, 0, none⟩), .int .i64 1] w (RxPost 1 g B A n c w) := by
  have hgl := hc.lt
  have H3 := Lib.hid (l1Below_small g B A n c 8 _ (hc.alloc (.cells #[.int .i64 0, .string ⟨#[]⟩, .slice none 0 0] 26)) hn (by omega) (by omega))
  clear hc
  go_enter Try.func33, Try.ntmps33
  go_wp2_with fail
  go_at_call 34
  refine H3.out.mono ?_
  rintro e w1 ⟨x, rfl, hx, hc1, hg1⟩
  obtain ⟨-, b0, b1, b2, f0, f1, f2⟩ := box_grown hg1 hgl
  have HC1 := Lib.hid hc1
  have HG1 := Lib.hid hg1
  clear hc1 hg1
  by_cases h0 : x = 0
  · subst h0
    have HF := Lib.hid (rx_leaf_end (d := 0) (k := 2) (l := ⟨#[]⟩) (by omega) (by omega) (by decide) HC1.out hgl HG1.out b0 b1 b2)
    go_wp2_with fail
    obtain ⟨⟨c0, c1, c2⟩, hP⟩ := HF.out
    exact bodyPost_ret (v := .agg #[.int .i64 2, .string ⟨#[]⟩, .slice none 0 0]) (by simp [results, Try.results33, go_sem, c0, c1, c2]) rfl hP
  by_cases h1 : x = 1
  · subst h1
    have HF := Lib.hid (rx_leaf_end (d := 0) (k := 4) (l := ⟨#[]⟩) (by omega) (by omega) (by decide) HC1.out hgl HG1.out b0 b1 b2)
    go_wp2_with fail
    obtain ⟨⟨c0, c1, c2⟩, hP⟩ := HF.out
    exact bodyPost_ret (v := .agg #[.int .i64 4, .string ⟨#[]⟩, .slice none 0 0]) (by simp [results, Try.results33, go_sem, c0, c1, c2]) rfl hP
  by_cases h2 : x = 2
  · subst h2
    have HF := Lib.hid (rx_leaf_end (d := 0) (k := 1) (l := ⟨#[]⟩) (by omega) (by omega) (by decide) HC1.out hgl HG1.out b0 b1 b2)
    go_wp2_with fail
    obtain ⟨⟨c0, c1, c2⟩, hP⟩ := HF.out
    exact bodyPost_ret (v := .agg #[.int .i64 1, .string ⟨#[]⟩, .slice none 0 0]) (by simp [results, Try.results33, go_sem, c0, c1, c2]) rfl hP
  have d0 : ((x : Int) == 0) = false := by simp; omega
  have d1 : ((x : Int) == 1) = false := by simp; omega
  have d2 : ((x : Int) == 2) = false := by simp; omega
  have C2 := Lib.hid (HC1.out.alloc (.cells (rxLetters.map fun p => Value.string ⟨p.toArray⟩).toArray 9))
  have G2 := Lib.hid (grown_made HG1.out (.cells (rxLetters.map fun p => Value.string ⟨p.toArray⟩).toArray 9))
  have hl1 := HC1.out.lt
  clear b0 b1 b2 f0 f1 f2
  go_wp2_with fail
  go_at_call 26
  refine (l1Pick_any g B w1.heap.size A n c 5 rxLetters _ C2.out hn (by omega) (by omega) rfl (by omega) (heap_alloc_new w1 _)).mono ?_
  rintro e w9 ⟨p, hp, rfl, hc9, hg9⟩
  have C9 := Lib.hid hc9
  have HG9 := Lib.hid (grown_tr G2.out hg9)
  have HP := Lib.hid (letters_size p hp)
  clear hc9 hg9 hp
  obtain ⟨-, b0, b1, b2, f0, f1, f2⟩ := box_grown HG9.out hgl
  have HF := Lib.hid (rx_leaf_end (d := 0) (k := 3) (l := ⟨p.toArray⟩) (by omega) (by omega) HP.out C9.out hgl HG9.out b0 b1 b2)
  go_wp2_with fail
  obtain ⟨⟨c0, c1, c2⟩, hP⟩ := HF.out
  exact bodyPost_ret (v := .agg #[.int .i64 3, .string ⟨p.toArray⟩, .slice none 0 0]) (by simp [results, Try.results33, go_sem, c0, c1, c2]) rfl hP

/-- The result's cells are written: a node over one drawn part. -/
theorem rx_one_end {w w1 w2 W3 : World} {Z : Obj} {g B d q : Nat} {A A1 : Option Addr} {n c : Nat} {k k1 : Int} {l1 : ByteArray} {a1 : Fr} {t : TypeId} {x0 x1 x2 : Value} (hW3 : W3 = w2.alloc (.cells #[.int .i64 k1, .string l1, .slice A1 a1.items.length q] t)) (hk0 : 0 ≤ k) (hk9 : k ≤ 9)
    (hz1 : w.heap.size + 1 ≤ w1.heap.size) (hz2 : w1.heap.size ≤ w2.heap.size) (hl1 : l1.size ≤ 1) (hsz : a1.size + 2 ≤ 2 ^ (d + 1)) (hs : SlT w2 (d + 1) (OwnB w1 w2) (.slice A1 a1.items.length q) a1) (hc : Cur w2 g B A n c) (hgl : g < w.heap.size) (hg : (w.alloc Z).grownBy w2 (some g))
    (b0 : W3.cell? ⟨w.heap.size, 0, none⟩ = some x0) (b1 : W3.cell? ⟨w.heap.size, 1, none⟩ = some x1) (b2 : W3.cell? ⟨w.heap.size, 2, none⟩ = some x2) :
    let W4 := ((W3.setCell ⟨w.heap.size, 0, none⟩ (.int .i64 k)).setCell ⟨w.heap.size, 1, none⟩ (.string ⟨#[]⟩)).setCell ⟨w.heap.size, 2, none⟩ (.slice (some ⟨w2.heap.size, 0, none⟩) 1 1)
    (W4.cell? ⟨w.heap.size, 0, none⟩ = some (.int .i64 k) ∧ W4.cell? ⟨w.heap.size, 1, none⟩ = some (.string ⟨#[]⟩) ∧ W4.cell? ⟨w.heap.size, 2, none⟩ = some (.slice (some ⟨w2.heap.size, 0, none⟩) 1 1)) ∧
      RxPost (d + 2) g B A n c w (.returned (.agg #[.int .i64 k, .string ⟨#[]⟩, .slice (some ⟨w2.heap.size, 0, none⟩) 1 1])) W4 := by
  intro W4
  subst hW3
  obtain ⟨hcl, hsz4, hot, hB⟩ := put3 (k := .int .i64 k) (l := .string ⟨#[]⟩) (u := .slice (some ⟨w2.heap.size, 0, none⟩) 1 1) b0 b1 b2
  have hs4 : W4.heap.size = w2.heap.size + 1 := by rw [hsz4]; simp
  have hold : ∀ h, h < w2.heap.size → h ≠ w.heap.size → W4.heap[h]? = w2.heap[h]? := fun h hh hne => (hot h hne).trans (Below.heap_alloc _ _ h hh)
  have hg4 := (hot w2.heap.size (by omega)).trans (heap_alloc_new w2 _)
  have hBw : B ≤ w.heap.size := Nat.le_of_lt (Nat.lt_of_le_of_lt hc.1 hgl)
  refine ⟨hcl, k, ⟨#[]⟩, _, 1, .cons k1 l1 a1 .nil, rfl, hk0, hk9, Nat.zero_le _, ?_, ⟨by simp [Fr.items], rfl⟩, ?_, ?_, ?_⟩
  · have : 2 ^ (d + 2) = 2 ^ (d + 1) * 2 := Nat.pow_succ ..
    simp only [Fr.size]
    omega
  · refine slt_one (S' := OwnB w1 w2) ⟨by omega, by omega⟩ ⟨_, _, hg4⟩ ⟨(cell_of_row W4 _ 0 _ _ (0, 0) hg4).trans rfl, (cell_of_row W4 _ 1 _ _ (0, 0) hg4).trans rfl, (cell_of_row W4 _ 2 _ _ (0, 0) hg4).trans rfl⟩ (by omega)
      (hs.mono (fun h hh => hold h hh.2 (by have := hh.1; omega)) (fun _ h => h)) (fun h hh => ?_)
    have h1 := hh.1
    have h2 := hh.2
    exact ⟨⟨by omega, by omega⟩, by omega⟩
  · exact (hc.alloc _).put (hB B _ (Below.refl _ _) hBw) (hot g (by omega))
  · exact grown_new (grown_tr (World.grownBy_alloc w Z (some g)) (grown_tr hg (World.grownBy_alloc w2 _ (some g)))) hsz4 ⟨rfl, rfl, rfl⟩ (Nat.le_refl _) (fun k hk => hot k hk)
/-- .. a node over two. -/
theorem rx_two_end {w w1 w2 w3 w4 W3 : World} {Z : Obj} {g B d q q2 : Nat} {A A1 A2 : Option Addr} {n c : Nat} {k k1 k2 : Int} {l1 l2 : ByteArray} {a1 a2 : Fr} {t : TypeId} {x0 x1 x2 : Value} (hW3 : W3 = w4.alloc (.cells #[.int .i64 k1, .string l1, .slice A1 a1.items.length q, .int .i64 k2, .string l2, .slice A2 a2.items.length q2] t)) (hk0 : 0 ≤ k) (hk9 : k ≤ 9)
    (hz1 : w.heap.size + 1 ≤ w1.heap.size) (hz2 : w1.heap.size ≤ w2.heap.size) (hz3 : w2.heap.size ≤ w3.heap.size) (hl1 : l1.size ≤ 1) (hl2 : l2.size ≤ 1) (hsz : a1.size + 2 ≤ 2 ^ (d + 1)) (hsz' : a2.size + 2 ≤ 2 ^ (d + 1)) (hs : SlT w2 (d + 1) (OwnB w1 w2) (.slice A1 a1.items.length q) a1) (hs' : SlT w4 (d + 1) (OwnB w3 w4) (.slice A2 a2.items.length q2) a2)
    (h24 : w2.grownBy w4 (some g)) (hz4 : w3.heap.size ≤ w4.heap.size) (hc : Cur w4 g B A n c) (hgl : g < w.heap.size) (hg : (w.alloc Z).grownBy w4 (some g))
    (b0 : W3.cell? ⟨w.heap.size, 0, none⟩ = some x0) (b1 : W3.cell? ⟨w.heap.size, 1, none⟩ = some x1) (b2 : W3.cell? ⟨w.heap.size, 2, none⟩ = some x2) :
    let W4 := ((W3.setCell ⟨w.heap.size, 0, none⟩ (.int .i64 k)).setCell ⟨w.heap.size, 1, none⟩ (.string ⟨#[]⟩)).setCell ⟨w.heap.size, 2, none⟩ (.slice (some ⟨w4.heap.size, 0, none⟩) 2 2)
    (W4.cell? ⟨w.heap.size, 0, none⟩ = some (.int .i64 k) ∧ W4.cell? ⟨w.heap.size, 1, none⟩ = some (.string ⟨#[]⟩) ∧ W4.cell? ⟨w.heap.size, 2, none⟩ = some (.slice (some ⟨w4.heap.size, 0, none⟩) 2 2)) ∧
      RxPost (d + 2) g B A n c w (.returned (.agg #[.int .i64 k, .string ⟨#[]⟩, .slice (some ⟨w4.heap.size, 0, none⟩) 2 2])) W4 := by
  intro W4
  subst hW3
  obtain ⟨hcl, hsz4, hot, hB⟩ := put3 (k := .int .i64 k) (l := .string ⟨#[]⟩) (u := .slice (some ⟨w4.heap.size, 0, none⟩) 2 2) b0 b1 b2
  have hs4 : W4.heap.size = w4.heap.size + 1 := by rw [hsz4]; simp
  have hold : ∀ h, h < w4.heap.size → h ≠ w.heap.size → W4.heap[h]? = w4.heap[h]? := fun h hh hne => (hot h hne).trans (Below.heap_alloc _ _ h hh)
  have hg4 := (hot w4.heap.size (by omega)).trans (heap_alloc_new w4 _)
  have cl := fun j => cell_of_row W4 w4.heap.size j _ _ (0, 0) hg4
  have hBw : B ≤ w.heap.size := Nat.le_of_lt (Nat.lt_of_le_of_lt hc.1 hgl)
  have hz24 := h24.size
  refine ⟨hcl, k, ⟨#[]⟩, _, 2, .cons k1 l1 a1 (.cons k2 l2 a2 .nil), rfl, hk0, hk9, Nat.zero_le _, ?_, ⟨by simp [Fr.items], rfl⟩, ?_, ?_, ?_⟩
  · have : 2 ^ (d + 2) = 2 ^ (d + 1) * 2 := Nat.pow_succ ..
    simp only [Fr.size]
    omega
  · refine slt_two (S1 := OwnB w1 w2) (S2 := OwnB w3 w4) ⟨by omega, by omega⟩ ⟨_, _, hg4⟩ ⟨(cl 0).trans rfl, (cl 1).trans rfl, (cl 2).trans rfl⟩ ⟨(cl 3).trans rfl, (cl 4).trans rfl, (cl 5).trans rfl⟩ (by omega) (by omega)
      (hs.mono (fun h hh => (hold h (by have := hh.2; omega) (by have := hh.1; omega)).trans (h24.block h hh.2 (fun e => by cases e; have := hh.1; omega))) (fun _ h => h))
      (hs'.mono (fun h hh => hold h hh.2 (by have := hh.1; omega)) (fun _ h => h)) (fun h hh => ?_) (fun h hh => ?_) (fun h hh hh' => ?_)
    · have q1 := hh.1
      have q2 := hh.2
      exact ⟨⟨by omega, by omega⟩, by omega⟩
    · have q1 := hh.1
      have q2 := hh.2
      exact ⟨⟨by omega, by omega⟩, by omega⟩
    · have q1 := hh.2
      have q2 := hh'.1
      omega
  · exact (hc.alloc _).put (hB B _ (Below.refl _ _) hBw) (hot g (by omega))
  · exact grown_new (grown_tr (World.grownBy_alloc w Z (some g)) (grown_tr hg (World.grownBy_alloc w4 _ (some g)))) hsz4 ⟨rfl, rfl, rfl⟩ (Nat.le_refl _) (fun k hk => hot k hk)

end Go.Proofs.Ytichpiklgkahbaa
