/-
  What the model's draw of a bent expression answers: an expression in memory of its own.
-/
import Derived.Test.YtichpiklgkahbaaDrawDeep
import Derived.ArgAppend
import Derived.Test.YtichpiklgkahbaaSnoc
namespace Go.Proofs.Ytichpiklgkahbaa
open Go.RowKit

/-- What the draw of a bent expression answers. -/
def BentPost (g B : Nat) (A : Option Addr) (n c : Nat) (w : World) (e : Ending) (w' : World) : Prop :=
  ∃ (k : Int) (l : ByteArray) (A' : Option Addr) (c' : Nat) (a : Fr), e = .returned (.agg #[.int .i64 k, .string l, .slice A' a.items.length c']) ∧ 0 ≤ k ∧ k ≤ 10 ∧ l.size ≤ 2 ∧ a.size ≤ 32 ∧ SlT w' 6 (OwnB w w') (.slice A' a.items.length c') a ∧ Cur w' g B A n c ∧ w.grownBy w' (some g)

theorem slt_up {w : World} {S : Nat → Prop} {v : Value} {f : Fr} {n : Nat} (h : SlT w n S v f) : ∀ m, SlT w (n + m) S v f
  | 0 => h
  | m + 1 => (slt_up h m).more

/-- A cell of a block that was made later is written. -/
theorem set_new {w V : World} {g r o : Nat} {u : Value} (hr : w.heap.size ≤ r) (hg : w.grownBy V (some g)) : w.grownBy (V.setCell ⟨r, o, none⟩ u) (some g) :=
  grown_new hg (by simp [World.setCell]) ⟨rfl, rfl, rfl⟩ hr (fun k hk => Below.heap_setCell _ _ _ k hk)
theorem set_far {V : World} {r o s p : Nat} {u : Value} (h : s ≠ r) : (V.setCell ⟨r, o, none⟩ u).cell? ⟨s, p, none⟩ = V.cell? ⟨s, p, none⟩ :=
  World.cell?_of_block (a := ⟨s, p, none⟩) (Below.heap_setCell _ _ _ s h)
theorem set_by {V : World} {r o p : Nat} {u : Value} (h : o ≠ p) : (V.setCell ⟨r, o, none⟩ u).cell? ⟨r, p, none⟩ = V.cell? ⟨r, p, none⟩ :=
  World.cell?_setCell_other _ _ _ _ (fun e => by injection e with _ e2; exact h e2)
theorem Cur.set {V : World} {g B r o : Nat} {A : Option Addr} {n c : Nat} {u : Value} (h : Cur V g B A n c) (hr : g < r) : Cur (V.setCell ⟨r, o, none⟩ u) g B A n c :=
  h.put ((Below.refl B V).setCell (p := ⟨r, o, none⟩) (Nat.le_of_lt (Nat.lt_of_le_of_lt h.1 hr)) _) (Below.heap_setCell _ _ _ g (by show g ≠ r; omega))
/-- The result's cells are written. -/
theorem bent_end {w WF : World} {S : Nat → Prop} {g B q : Nat} {A A1 : Option Addr} {n c : Nat} {k : Int} {l : ByteArray} {a : Fr} {x0 x1 x2 : Value} (hk0 : 0 ≤ k) (hk9 : k ≤ 10) (hl : l.size ≤ 2) (hz : a.size ≤ 32) (hs : SlT WF 6 S (.slice A1 a.items.length q) a) (hS : ∀ h, S h → w.heap.size < h ∧ h < WF.heap.size)
    (hc : Cur WF g B A n c) (hgl : g < w.heap.size) (hg : w.grownBy WF (some g)) (b0 : WF.cell? ⟨w.heap.size, 0, none⟩ = some x0) (b1 : WF.cell? ⟨w.heap.size, 1, none⟩ = some x1) (b2 : WF.cell? ⟨w.heap.size, 2, none⟩ = some x2) :
    let W4 := ((WF.setCell ⟨w.heap.size, 0, none⟩ (.int .i64 k)).setCell ⟨w.heap.size, 1, none⟩ (.string l)).setCell ⟨w.heap.size, 2, none⟩ (.slice A1 a.items.length q)
    (W4.cell? ⟨w.heap.size, 0, none⟩ = some (.int .i64 k) ∧ W4.cell? ⟨w.heap.size, 1, none⟩ = some (.string l) ∧ W4.cell? ⟨w.heap.size, 2, none⟩ = some (.slice A1 a.items.length q)) ∧
      BentPost g B A n c w (.returned (.agg #[.int .i64 k, .string l, .slice A1 a.items.length q])) W4 := by
  intro W4
  obtain ⟨hcl, hsz, hot, hB⟩ := put3 (k := .int .i64 k) (l := .string l) (u := .slice A1 a.items.length q) b0 b1 b2
  have hs4 : W4.heap.size = WF.heap.size := hsz
  refine ⟨hcl, k, l, A1, q, a, rfl, hk0, hk9, hl, hz, hs.mono (fun h hh => hot h (by have := (hS h hh).1; omega)) (fun h hh => ⟨by have := (hS h hh).1; omega, by rw [hs4]; exact (hS h hh).2⟩), ?_, ?_⟩
  · exact hc.put (hB B WF (Below.refl _ _) (Nat.le_of_lt (Nat.lt_of_le_of_lt hc.1 hgl))) (hot g (by omega))
  · exact grown_new hg hsz ⟨rfl, rfl, rfl⟩ (Nat.le_refl _) (fun k hk => hot k hk)
theorem cell_lt {w : World} {p : Addr} {u : Value} (h : w.cell? p = some u) : p.block < w.heap.size := by
  by_cases hl : p.block < w.heap.size
  · exact hl
  · have : w.heap[p.block]? = none := Array.getElem?_eq_none (by omega)
    simp [World.cell?, this] at h
theorem grown_any {w w' : World} {row : Option Nat} (h : w.grownBy w' none) : w.grownBy w' row := ⟨h.os, h.tape, h.output, h.size, fun k hk _ => h.block k hk (by simp)⟩
theorem below_none {w w' : World} (h : w.grownBy w' none) : Below w.heap.size w w' := ⟨h.os, h.tape, h.output, h.size, fun k hk => h.block k hk (by simp)⟩
theorem slt_six {w : World} {S : Nat → Prop} {v : Value} {f : Fr} {n : Nat} (h : SlT w n S v f) (hn : n ≤ 6) : SlT w 6 S v f := by
  have := slt_up h (6 - n)
  rwa [Nat.add_sub_cancel' hn] at this

theorem size_set {V : World} {p : Addr} {u : Value} : (V.setCell p u).heap.size = V.heap.size := by simp [World.setCell]
def bentLetters : List (List UInt8) := [[97], [97, 98], [100], []]
theorem bent_size (p : List UInt8) (h : p ∈ bentLetters) : (⟨p.toArray⟩ : ByteArray).size ≤ 2 := by
  have : (bentLetters.all fun p => decide (p.length ≤ 2)) = true := by decide
  have := List.all_eq_true.1 this p h
  simpa [ByteArray.size] using this

theorem rxInfo : (Try.prog.info? 26).map (fun i => (i.zero, i.size, i.bytes)) = some (some (.agg #[.int .i64 0, .string ⟨#[]⟩, .slice none 0 0]), 3, 48) := by kernel_rfl

set_option maxRecDepth 100000 in
set_option maxHeartbeats 3200000 in
theorem l3Bent_any (g B : Nat) (A : Option Addr) (n c : Nat) (w : World) (hc : Cur w g B A n c) (hn : n ≤ 1048576) :
    Calls Try.prog 25 #[.pointer (some ⟨g, 0, none⟩)] w (BentPost g B A n c w) := by
  have hgl := hc.lt
  have H4 := Lib.hid (l1Below_small g B A n c 4 _ (hc.alloc (.cells #[.int .i64 0, .string ⟨#[]⟩, .slice none 0 0] 26)) hn (by omega) (by omega))
  have H10 := Lib.hid (fun w (h : Cur w g B A n c) => l1Below_small g B A n c 10 w h hn (by omega) (by omega))
  have H11 := Lib.hid (fun w (h : Cur w g B A n c) => l1Below_small g B A n c 11 w h hn (by omega) (by omega))
  have HD := Lib.hid (fun w (x : Nat) (hx : x < 4) (h : Cur w g B A n c) => (show Calls Try.prog 33 #[.pointer (some ⟨g, 0, none⟩), .int .i64 (1 + (x : Int))] w (RxPost (x + 1) g B A n c w) by
    have e : (1 + (x : Int)) = ((x + 1 : Nat) : Int) := by omega
    rw [e]
    exact l3Draw_any g B A n c hn x (by omega) w h))
  clear hc
  go_enter Try.func25, Try.ntmps25
  go_wp2_with fail
  go_at_call 34
  refine H4.out.mono ?_
  rintro e w1 ⟨x, rfl, hx, hc1, hg1⟩
  have HC1 := Lib.hid hc1
  have HG1 := Lib.hid hg1
  have hz1 : w.heap.size + 1 ≤ w1.heap.size := by have := hg1.size; rw [World.size_alloc] at this; exact this
  clear hc1 hg1
  go_wp2_with fail
  go_at_call 33
  refine (HD.out _ x hx HC1.out).mono ?_
  rintro e w2 ⟨k, l, A1, q, a, rfl, hk0, hk9, hl, hsz, HM, hs, hc2, hg2⟩
  have HQ := Lib.hid HM
  have hgl2 := hc2.lt
  have hz2 := hg2.size
  have ha64 : a.size ≤ 30 := by
    have : 2 ^ (x + 1) ≤ 2 ^ 4 := Nat.pow_le_pow_right (by omega) (by omega)
    omega
  have HS := Lib.hid (slt_six hs (by omega))
  have HG2 := Lib.hid (grown_tr HG1.out hg2)
  have HC2 := Lib.hid (hc2.alloc (.cells #[.int .i64 k, .string l, .slice A1 a.items.length q] 26))
  have HW2 := Lib.hid (grown_tr HG2.out (World.grownBy_alloc w2 (.cells #[.int .i64 k, .string l, .slice A1 a.items.length q] 26) (some g)))
  clear hs hc2 hg2 hsz HM
  go_wp2_with fail
  go_at_call 34
  refine (H10.out _ HC2.out).mono ?_
  rintro e w3 ⟨y, rfl, hy, hc3, hg3⟩
  have HC3 := Lib.hid hc3
  have HR3 := Lib.hid hg3
  have HG3 := Lib.hid (grown_tr HW2.out hg3)
  have hz3 : w2.heap.size + 1 ≤ w3.heap.size := by have := hg3.size; rw [World.size_alloc] at this; exact this
  have HT3 := Lib.hid (grown_tr (World.grownBy_alloc w2 (.cells #[.int .i64 k, .string l, .slice A1 a.items.length q] 26) (some g)) hg3)
  have HK := Lib.hid (fun V (hV : w3.grownBy V (some g)) => (HS.out.mono (fun h (hh : OwnB w1 w2 h) => (grown_tr HT3.out hV).block h hh.2 (fun e => by cases e; have := hh.1; omega)) (fun _ h => h) : SlT V 6 (OwnB w1 w2) _ a))
  have HSB := Lib.hid (fun V (hV : w3.grownBy V (some g)) h (hh : OwnB w1 w2 h) => (show w.heap.size < h ∧ h < V.heap.size from ⟨by have := hh.1; omega, by have := hh.2; have := hV.size; omega⟩))
  have HB := Lib.hid (fun V (hV : w3.grownBy V (some g)) => box_grown (grown_tr HG3.out hV) hgl)
  have HBR := Lib.hid (fun V (hV : w3.grownBy V (some g)) => box_grown (grown_tr HR3.out hV) hgl2)
  have HWV := Lib.hid (fun V (hV : w3.grownBy V (some g)) => grown_tr (World.grownBy_alloc w (.cells #[.int .i64 0, .string ⟨#[]⟩, .slice none 0 0] 26) (some g)) (grown_tr HG3.out hV))
  clear hc3 hg3
  by_cases h0 : y = 0
  · subst h0
    go_wp2_with fail
    go_at_call 34
    refine (H11.out _ HC3.out).mono ?_
    rintro e w4 ⟨z, rfl, hz, hc4, hg4⟩
    obtain ⟨-, b0, b1, b2, f0, f1, f2⟩ := HB.out w4 hg4
    obtain ⟨-, r0, r1, r2, q0, -, -⟩ := HBR.out w4 hg4
    have hne : w.heap.size ≠ w2.heap.size := by omega
    have e0 := (set_far (V := w4) (r := w2.heap.size) (o := 0) (s := w.heap.size) (p := 0) (u := .int .i64 (z : Int)) hne).trans b0
    have e1 := (set_far (V := w4) (r := w2.heap.size) (o := 0) (s := w.heap.size) (p := 1) (u := .int .i64 (z : Int)) hne).trans b1
    have e2 := (set_far (V := w4) (r := w2.heap.size) (o := 0) (s := w.heap.size) (p := 2) (u := .int .i64 (z : Int)) hne).trans b2
    have s1 := (set_by (V := w4) (r := w2.heap.size) (o := 0) (p := 1) (u := .int .i64 (z : Int)) (by omega)).trans r1
    have s2 := (set_by (V := w4) (r := w2.heap.size) (o := 0) (p := 2) (u := .int .i64 (z : Int)) (by omega)).trans r2
    have hx4 := hg4.size
    have HF := Lib.hid (bent_end (k := (z : Int)) (l := l) (by omega) (by omega) (by omega) (by omega) ((HK.out w4 hg4).mono (w' := w4.setCell ⟨w2.heap.size, 0, none⟩ (.int .i64 (z : Int))) (fun h hh => Below.heap_setCell _ _ _ h (by have := hh.2; show h ≠ w2.heap.size; omega)) (fun _ h => h)) (fun h hh => by have := HSB.out w4 hg4 h hh; simpa [World.setCell] using this) (hc4.set (by omega)) hgl (set_new (by omega) (HWV.out w4 hg4)) e0 e1 e2)
    clear hc4 hg4 hx4
    go_wp2_with fail
    obtain ⟨⟨c0, c1, c2⟩, hP⟩ := HF.out
    exact bodyPost_ret (v := .agg #[.int .i64 (z : Int), .string l, .slice A1 a.items.length q]) (by simp [results, Try.results25, go_sem, c0, c1, c2]) rfl hP
  by_cases h1 : y = 1
  · subst h1
    have C3 := Lib.hid (HC3.out.alloc (.cells (bentLetters.map fun p => Value.string ⟨p.toArray⟩).toArray 9))
    have hl3 := HC3.out.lt
    go_wp2_with fail
    go_at_call 26
    refine (l1Pick_any g B w3.heap.size A n c 4 bentLetters _ C3.out hn (by omega) (by omega) rfl (by omega) (heap_alloc_new w3 _)).mono ?_
    rintro e w4 ⟨p, hp, rfl, hc4, hg4'⟩
    have hps := bent_size p hp
    have hg4 := grown_tr (World.grownBy_alloc w3 (.cells (bentLetters.map fun p => Value.string ⟨p.toArray⟩).toArray 9) (some g)) hg4'
    obtain ⟨-, b0, b1, b2, f0, f1, f2⟩ := HB.out w4 hg4
    obtain ⟨-, r0, r1, r2, -, q1, -⟩ := HBR.out w4 hg4
    have hne : w.heap.size ≠ w2.heap.size := by omega
    have e0 := (set_far (V := w4) (r := w2.heap.size) (o := 1) (s := w.heap.size) (p := 0) (u := .string ⟨p.toArray⟩) hne).trans b0
    have e1 := (set_far (V := w4) (r := w2.heap.size) (o := 1) (s := w.heap.size) (p := 1) (u := .string ⟨p.toArray⟩) hne).trans b1
    have e2 := (set_far (V := w4) (r := w2.heap.size) (o := 1) (s := w.heap.size) (p := 2) (u := .string ⟨p.toArray⟩) hne).trans b2
    have s1 := (set_by (V := w4) (r := w2.heap.size) (o := 1) (p := 0) (u := .string ⟨p.toArray⟩) (by omega)).trans r0
    have s2 := (set_by (V := w4) (r := w2.heap.size) (o := 1) (p := 2) (u := .string ⟨p.toArray⟩) (by omega)).trans r2
    have hx4 := hg4.size
    have HF := Lib.hid (bent_end (k := k) (l := ⟨p.toArray⟩) (by omega) (by omega) hps (by omega) ((HK.out w4 hg4).mono (w' := w4.setCell ⟨w2.heap.size, 1, none⟩ (.string ⟨p.toArray⟩)) (fun h hh => Below.heap_setCell _ _ _ h (by have := hh.2; show h ≠ w2.heap.size; omega)) (fun _ h => h)) (fun h hh => by have := HSB.out w4 hg4 h hh; simpa [World.setCell] using this) (hc4.set (by omega)) hgl (set_new (by omega) (HWV.out w4 hg4)) e0 e1 e2)
    clear hc4 hg4 hg4' hx4 hp hps
    go_wp2_with fail
    obtain ⟨⟨c0, c1, c2⟩, hP⟩ := HF.out
    exact bodyPost_ret (v := .agg #[.int .i64 k, .string ⟨p.toArray⟩, .slice A1 a.items.length q]) (by simp [results, Try.results25, go_sem, c0, c1, c2]) rfl hP
  by_cases h2 : y = 2
  · subst h2
    clear h0 h1
    obtain ⟨i0, hi, hz0, hz1, hz2⟩ := info_parts rxInfo
    have hg30 := World.grownBy.refl w3 (some g)
    have SN := slt_snoc (HK.out w3 hg30) HQ.out.1
    obtain ⟨olds, ho1, ho2, ho3, ho4⟩ := SN
    obtain ⟨-, r0, r1, r2, -, -, -⟩ := HBR.out w3 hg30
    have HO := Lib.hid ho4
    obtain ⟨W3, hW3⟩ : ∃ W3, W3 = w3.alloc (.cells #[.int .i64 2, .string ⟨#[]⟩, .slice none 0 0] 26) := ⟨_, rfl⟩
    have hgW : w3.grownBy W3 (some g) := by rw [hW3]; exact World.grownBy_alloc w3 _ (some g)
    have hO2 : ∀ b, A1 = some b → ∀ j u, olds[j]? = some u → W3.cell? (b.add j) = some u := fun b hb j u hj => by
      rw [hW3]
      have h := ho2 b hb j u hj
      have hlt : (b.add j).block < w3.heap.size := cell_lt h
      exact (World.cell?_of_block (Below.heap_alloc w3 _ _ hlt)).trans h
    have hN2 : ∀ j u, ([.int .i64 2, .string ⟨#[]⟩, .slice none 0 0] : List Value)[j]? = some u → W3.cell? ((⟨w3.heap.size, 0, none⟩ : Addr).add j) = some u := fun j u hj => by
      rw [hW3, Addr.add_lit]
      have hh := heap_alloc_new w3 (.cells #[.int .i64 2, .string ⟨#[]⟩, .slice none 0 0] 26)
      match j, hj with
      | 0, hj => cases hj; exact (cell_of_row _ _ 0 _ _ (0, 0) hh).trans rfl
      | 1, hj => cases hj; exact (cell_of_row _ _ 1 _ _ (0, 0) hh).trans rfl
      | 2, hj => cases hj; exact (cell_of_row _ _ 2 _ _ (0, 0) hh).trans rfl
      | j + 3, hj => simp at hj
    rw [hW3] at hO2 hN2
    have HW3 := Lib.hid hW3
    have HGW := Lib.hid hgW
    have HO2 := Lib.hid hO2
    have HN2 := Lib.hid hN2
    have HO1 := Lib.hid ho1
    have HO3 := Lib.hid ho3
    have hcap : q < a.items.length + 1 := by have := HQ.out.2; omega
    have hlen2 := HQ.out.1
    have hne : w.heap.size ≠ w2.heap.size := by omega
    have HAP := Lib.hid (fun v4 w4 (hown : w4.ownsRow W3.heap.size 26 3 v4 (a.items.length + 1) (olds ++ leafCells)) (hg4 : W3.grownBy w4 none) => (show ∃ g4 q4, v4 = .slice (some ⟨g4, 0, none⟩) (a.items.length + 1) q4 ∧ (w.heap.size < g4 ∧ g4 < w4.heap.size) ∧ w3.grownBy w4 (some g) ∧ Cur w4 g B A n c ∧ SlT (w4.setCell ⟨w2.heap.size, 2, none⟩ (.slice (some ⟨g4, 0, none⟩) (a.items.length + 1) q4)) 6 (fun h => OwnB w1 w2 h ∨ h = g4) (.slice (some ⟨g4, 0, none⟩) a.snoc.items.length q4) a.snoc by
      have hgN := grown_tr hgW (grown_any (row := some g) hg4)
      have hsW : W3.heap.size = w3.heap.size + 1 := by rw [hW3]; simp
      rcases hown with ⟨-, ⟨-, h0⟩ | ⟨g4, q4, cur, rfl, hb4, hh4, -, -, -, ht4⟩⟩
      · omega
      · have hlt4 : g4 < w4.heap.size := (Array.getElem?_eq_some_iff.1 hh4).1
        refine ⟨g4, q4, rfl, ⟨by omega, hlt4⟩, hgN, ?_, ?_⟩
        · have h1 : Cur W3 g B A n c := by rw [hW3]; exact HC3.out.alloc _
          exact h1.put ((below_none hg4).mono (by have := h1.1; have := h1.lt; omega)) (hg4.block g h1.lt (by simp))
        · rw [snoc_len]
          exact HO.out _ _ g4 q4 _ cur (fun h hh => (Below.heap_setCell _ _ _ h (by have := hh.2; show h ≠ w2.heap.size; omega)).trans (hgN.block h (by have := hh.2; omega) (fun e => by cases e; have := hh.1; omega))) (fun h hh => ⟨.inl hh, by have := hh.2; omega⟩) (.inr rfl) ((Below.heap_setCell _ _ _ g4 (by show g4 ≠ w2.heap.size; omega)).trans hh4) ht4))
    rw [hW3] at HAP
    clear hO2 hN2 ho1 ho2 ho3 ho4 hW3 hgW
    go_wp2_with (at_builtin; refine wpList_append_grows _ rfl (.tmp 25) (.tmp 27) 24 rfl 26 i0 (.agg #[.int .i64 0, .string ⟨#[]⟩, .slice none 0 0]) 3 48 Try.underlying24 hi hz0 hz1 hz2 rfl (by decide) A1 a.items.length q olds rfl (fun e => ⟨HO3.out e, by have h0 := HO3.out e; omega⟩) HO1.out HO2.out ⟨w3.heap.size, 0, none⟩ 1 1 [.int .i64 2, .string ⟨#[]⟩, .slice none 0 0] rfl rfl HN2.out (fun u hu => by simp at hu; rcases hu with rfl | rfl | rfl <;> rfl) hcap (by unfold maxLen; omega) (by omega) ?_; intro v4 w4 hown hg4; obtain ⟨g4, q4, hv4, hx4, HT⟩ := HAP.out v4 w4 hown hg4; subst hv4; obtain ⟨hgN, hcN, hS4⟩ := HT; have hx5 := hgN.size; obtain ⟨-, b0, b1, b2, f0, f1, f2⟩ := HB.out w4 hgN; obtain ⟨-, r0, r1, r2, -, -, q2⟩ := HBR.out w4 hgN; have e0 := (set_far (V := w4) (r := w2.heap.size) (o := 2) (s := w.heap.size) (p := 0) (u := .slice (some ⟨g4, 0, none⟩) (a.items.length + 1) q4) hne).trans b0; have e1 := (set_far (V := w4) (r := w2.heap.size) (o := 2) (s := w.heap.size) (p := 1) (u := .slice (some ⟨g4, 0, none⟩) (a.items.length + 1) q4) hne).trans b1; have e2 := (set_far (V := w4) (r := w2.heap.size) (o := 2) (s := w.heap.size) (p := 2) (u := .slice (some ⟨g4, 0, none⟩) (a.items.length + 1) q4) hne).trans b2; have s0 := (set_by (V := w4) (r := w2.heap.size) (o := 2) (p := 0) (u := .slice (some ⟨g4, 0, none⟩) (a.items.length + 1) q4) (by omega)).trans r0; have s1 := (set_by (V := w4) (r := w2.heap.size) (o := 2) (p := 1) (u := .slice (some ⟨g4, 0, none⟩) (a.items.length + 1) q4) (by omega)).trans r1; have HF := Lib.hid (bent_end (k := k) (l := l) (by omega) (by omega) (by omega) (by rw [snoc_size]; omega) hS4 (fun h hh => by rw [size_set]; rcases hh with hh | rfl; exact HSB.out w4 hgN h hh; exact hx4) (hcN.set (by omega)) hgl (set_new (by omega) (HWV.out w4 hgN)) e0 e1 e2); rw [snoc_len] at HF; clear hown hg4 hgN hcN hS4 hx4 hx5)
    obtain ⟨⟨c0, c1, c2⟩, hP⟩ := HF.out
    exact bodyPost_ret (v := .agg #[.int .i64 k, .string l, .slice (some ⟨g4, 0, none⟩) (a.items.length + 1) q4]) (by simp [results, Try.results25, go_sem, c0, c1, c2]) rfl hP
  have d0 : ((y : Int) == 0) = false := by simp; omega
  have d1 : ((y : Int) == 1) = false := by simp; omega
  have d2 : ((y : Int) == 2) = false := by simp; omega
  obtain ⟨-, b0, b1, b2, f0, f1, f2⟩ := HB.out w3 (World.grownBy.refl w3 _)
  obtain ⟨-, r0, r1, r2, -, -, -⟩ := HBR.out w3 (World.grownBy.refl w3 _)
  have HF := Lib.hid (bent_end (k := k) (l := l) (by omega) (by omega) (by omega) (by omega) (HK.out w3 (World.grownBy.refl w3 _)) (HSB.out w3 (World.grownBy.refl w3 _)) HC3.out hgl (HWV.out w3 (World.grownBy.refl w3 _)) b0 b1 b2)
  go_wp2_with fail
  obtain ⟨⟨c0, c1, c2⟩, hP⟩ := HF.out
  exact bodyPost_ret (v := .agg #[.int .i64 k, .string l, .slice A1 a.items.length q]) (by simp [results, Try.results25, go_sem, c0, c1, c2]) rfl hP
end Go.Proofs.Ytichpiklgkahbaa
