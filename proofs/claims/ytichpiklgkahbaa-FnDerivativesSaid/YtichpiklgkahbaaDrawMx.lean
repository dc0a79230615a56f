/-
  What the model's draws for matching and derivatives answer: an expression in memory of its own, and a short string.
-/
import Derived.Test.YtichpiklgkahbaaBentRx
import Derived.Test.YtichpiklgkahbaaDrawW
import Derived.Deep.RegionWith
namespace Go.Proofs.Ytichpiklgkahbaa
open Go.RowKit

/-- A drawn expression, in memory of its own, and a short string. -/
def DrawnTwo (w : World) (e : Ending) (w' : World) : Prop :=
  ∃ (k : Int) (l : ByteArray) (A' : Option Addr) (c' : Nat) (a : Fr) (s : ByteArray), e = .returned (.tuple #[.agg #[.int .i64 k, .string l, .slice A' a.items.length c'], .string s]) ∧ s.size ≤ 31 ∧ l.size ≤ 2 ∧ a.size ≤ 32 ∧ SlT w' 6 (OwnB w w') (.slice A' a.items.length c') a ∧ Below w.heap.size w w'
theorem mx_end {w WF : World} {S : Nat → Prop} {q : Nat} {A1 : Option Addr} {k : Int} {l s : ByteArray} {a : Fr} {x0 x1 x2 : Value} (hl : l.size ≤ 2) (hz : a.size ≤ 32) (hss : s.size ≤ 31) (hs : SlT WF 6 S (.slice A1 a.items.length q) a) (hS : ∀ h, S h → w.heap.size < h ∧ h < WF.heap.size)
    (hb : Below w.heap.size w WF) (b0 : WF.cell? ⟨w.heap.size, 0, none⟩ = some x0) (b1 : WF.cell? ⟨w.heap.size, 1, none⟩ = some x1) (b2 : WF.cell? ⟨w.heap.size, 2, none⟩ = some x2) :
    let W4 := ((WF.setCell ⟨w.heap.size, 0, none⟩ (.int .i64 k)).setCell ⟨w.heap.size, 1, none⟩ (.string l)).setCell ⟨w.heap.size, 2, none⟩ (.slice A1 a.items.length q)
    (W4.cell? ⟨w.heap.size, 0, none⟩ = some (.int .i64 k) ∧ W4.cell? ⟨w.heap.size, 1, none⟩ = some (.string l) ∧ W4.cell? ⟨w.heap.size, 2, none⟩ = some (.slice A1 a.items.length q)) ∧
      DrawnTwo w (.returned (.tuple #[.agg #[.int .i64 k, .string l, .slice A1 a.items.length q], .string s])) W4 := by
  intro W4
  obtain ⟨hcl, hsz, hot, hB⟩ := put3 (k := .int .i64 k) (l := .string l) (u := .slice A1 a.items.length q) b0 b1 b2
  have hs4 : W4.heap.size = WF.heap.size := hsz
  exact ⟨hcl, k, l, A1, q, a, s, rfl, hss, hl, hz, hs.mono (fun h hh => hot h (by have := (hS h hh).1; omega)) (fun h hh => ⟨by have := (hS h hh).1; omega, by rw [hs4]; exact (hS h hh).2⟩), hB _ _ hb (Nat.le_refl _)⟩

def derLetters : List (List UInt8) := [[97], [98], [99], [100], [], [97, 98]]
theorem der_size (p : List UInt8) (h : p ∈ derLetters) : (⟨p.toArray⟩ : ByteArray).size ≤ 31 := by
  have : (derLetters.all fun p => decide (p.length ≤ 31)) = true := by decide
  have := List.all_eq_true.1 this p h
  simpa [ByteArray.size] using this

set_option maxRecDepth 100000 in
set_option maxHeartbeats 1600000 in
theorem drawDer_any (A : Option Addr) (n c : Nat) (w : World) (h : BL w w.heap.size A n) (hn : n ≤ 1048576) :
    Calls Try.prog 8 #[.slice A n c] w (DrawnTwo w) := by
  have hb0 := (Below.refl w.heap.size w).alloc (Nat.le_refl _) (.cells #[.int .i64 0, .string ⟨#[]⟩, .slice none 0 0] 26)
  have HN := Lib.hid (l1New_any A n c (w.alloc (.cells #[.int .i64 0, .string ⟨#[]⟩, .slice none 0 0] 26)) ((h.below hb0).more hb0.size) hn)
  have HB0 := Lib.hid hb0
  clear h hb0
  go_enter Try.func8, Try.ntmps8
  go_wp2_with fail
  go_at_call 24
  refine HN.out.mono ?_
  rintro e w1 ⟨g, rfl, hc1, hb1⟩
  have hwg : w.heap.size + 1 ≤ g := by have := hc1.1; rw [World.size_alloc] at this; exact this
  have HBent := Lib.hid (l3Bent_any g _ A n c w1 hc1 hn)
  have hgl1 := hc1.lt
  have hz1 : w.heap.size + 1 ≤ w1.heap.size := by have := hb1.size; rw [World.size_alloc] at this; exact this
  have HB1 := Lib.hid hb1
  clear hc1 hb1
  go_wp2_with fail
  go_at_call 25
  refine HBent.out.mono ?_
  rintro e w2 ⟨k, l, A', c', a, rfl, hk0, hk9, hl, ha, hs, hc2, hg2⟩
  have hgl2 := hc2.lt
  have hz2 := hg2.size
  have HC2 := Lib.hid (hc2.alloc (.cells (derLetters.map fun p => Value.string ⟨p.toArray⟩).toArray 9))
  have HB2 := Lib.hid (below_row HB1.out hg2 (by rw [World.size_alloc]; omega))
  have HS := Lib.hid hs
  clear hs hc2 hg2
  go_wp2_with fail
  go_at_call 26
  refine (l1Pick_any g _ w2.heap.size A n c 6 derLetters _ HC2.out hn (by omega) (by omega) rfl (by omega) (heap_alloc_new w2 _)).mono ?_
  rintro e w3 ⟨p, hp, rfl, hc3, hg3'⟩
  have hps := der_size p hp
  have hg3 := grown_tr (World.grownBy_alloc w2 (.cells (derLetters.map fun p => Value.string ⟨p.toArray⟩).toArray 9) (some g)) hg3'
  have hz3 := hg3.size
  have hB3 := below_row HB2.out hg3 (by rw [World.size_alloc]; omega)
  obtain ⟨-, b0, b1, b2, f0, f1, f2⟩ := box_kept (w := w) (w1 := w3) (by rw [World.size_alloc] at hB3; exact hB3)
  have HF := Lib.hid (mx_end (w := w) (k := k) (l := l) (s := ⟨p.toArray⟩) hl ha hps (HS.out.mono (w' := w3) (S' := OwnB w1 w3) (fun h hh => hg3.block h hh.2 (fun e => by cases e; have := hh.1; have := HB1.out.size; omega)) (fun h hh => ⟨hh.1, Nat.lt_of_lt_of_le hh.2 hz3⟩)) (fun h hh => ⟨by have := hh.1; omega, hh.2⟩) (HB0.out.trans (hB3.mono (by rw [World.size_alloc]; omega))) b0 b1 b2)
  clear hc3 hg3 hg3' hB3 hp
  go_wp2_with fail
  obtain ⟨⟨c0, c1, c2⟩, hP⟩ := HF.out
  exact bodyPost_ret (v := .tuple #[.agg #[.int .i64 k, .string l, .slice A' a.items.length c'], .string ⟨p.toArray⟩]) (by simp [results, Try.results8, go_sem, c0, c1, c2]) rfl hP

set_option maxRecDepth 100000 in
set_option maxHeartbeats 3200000 in
theorem drawMatch_any (A : Option Addr) (n c : Nat) (w : World) (h : BL w w.heap.size A n) (hn : n ≤ 1048576) :
    Calls Try.prog 14 #[.slice A n c] w (DrawnTwo w) := by
  have hb0 := (Below.refl w.heap.size w).alloc (Nat.le_refl _) (.cells #[.int .i64 0, .string ⟨#[]⟩, .slice none 0 0] 26)
  have HN := Lib.hid (l1New_any A n c (w.alloc (.cells #[.int .i64 0, .string ⟨#[]⟩, .slice none 0 0] 26)) ((h.below hb0).more hb0.size) hn)
  have HB0 := Lib.hid hb0
  clear h hb0
  go_enter Try.func14, Try.ntmps14
  go_wp2_with fail
  go_at_call 24
  refine HN.out.mono ?_
  rintro e w1 ⟨g, rfl, hc1, hb1⟩
  have hwg : w.heap.size + 1 ≤ g := by have := hc1.1; rw [World.size_alloc] at this; exact this
  obtain ⟨B, hB⟩ : ∃ B, B = (w.alloc (.cells #[.int .i64 0, .string ⟨#[]⟩, .slice none 0 0] 26)).heap.size := ⟨_, rfl⟩
  rw [← hB] at hc1 hb1
  rw [World.size_alloc] at hB
  have hgl1 := hc1.lt
  have HC1 := Lib.hid hc1
  have H4 := Lib.hid (l1Below_small g B A n c 4 _ hc1 hn (by omega) (by omega))
  have H12 := Lib.hid (fun w (h : Cur w g B A n c) => l1Once_any g B A n c 12 w h hn (by omega) (by omega))
  have HD := Lib.hid (fun w (x : Nat) (hx : x < 4) (h : Cur w g B A n c) => (show Calls Try.prog 33 #[.pointer (some ⟨g, 0, none⟩), .int .i64 (1 + (x : Int))] w (RxPost (x + 1) g B A n c w) by
    have e : (1 + (x : Int)) = ((x + 1 : Nat) : Int) := by omega
    rw [e]
    exact l3Draw_any g B A n c hn x (by omega) w h))
  have HBent := Lib.hid (fun w (h : Cur w g B A n c) => l3Bent_any g B A n c w h hn)
  have HAny := Lib.hid (fun w (h : Cur w g B A n c) => l2Any_any g B A n c w h hn)
  have HWord := Lib.hid (fun w (h : Cur w g B A n c) => (show Calls Try.prog 37 #[.pointer (some ⟨g, 0, none⟩), .int .i64 5] w (ShortPost 5 g B A n c w) from l2Word_at 5 (by omega) g B A n c w h hn))
  have hz1 : w.heap.size + 1 ≤ w1.heap.size := by have := hb1.size; rw [World.size_alloc] at this; exact this
  have HB1 := Lib.hid hb1
  clear hc1 hb1
  go_wp2_with fail
  go_at_call 34
  refine H4.out.mono ?_
  rintro e w2 ⟨x, rfl, hx, hc2, hg2⟩
  have HC2 := Lib.hid hc2
  have hz2 := hg2.size
  have HG2 := Lib.hid hg2
  clear hc2 hg2
  go_wp2_with fail
  go_at_call 33
  refine (HD.out _ x hx HC2.out).mono ?_
  rintro e w3 ⟨k, l, A1, q, a, rfl, hk0, hk9, hl, hsz, -, hs, hc3, hg3⟩
  have hz3 := hg3.size
  have ha64 : a.size ≤ 32 := by
    have : 2 ^ (x + 1) ≤ 2 ^ 4 := Nat.pow_le_pow_right (by omega) (by omega)
    omega
  have HS := Lib.hid (slt_six hs (by omega))
  have HG3 := Lib.hid (grown_tr (grown_tr HG2.out hg3) (World.grownBy_alloc w3 (.cells #[.int .i64 k, .string l, .slice A1 a.items.length q] 26) (some g)))
  have HC3 := Lib.hid (hc3.alloc (.cells #[.int .i64 k, .string l, .slice A1 a.items.length q] 26))
  have HX3 := Lib.hid (World.grownBy_alloc w3 (.cells #[.int .i64 k, .string l, .slice A1 a.items.length q] 26) (some g))
  have hgl3 := hc3.lt
  clear hs hc3 hg3 hsz
  go_wp2_with fail
  go_at_call 35
  refine (H12.out _ HC3.out).mono ?_
  rintro e w4 ⟨b, rfl, hc4, hg4⟩
  have hz4 : w3.heap.size + 1 ≤ w4.heap.size := by have := hg4.size; rw [World.size_alloc] at this; exact this
  have HC4 := Lib.hid hc4
  have HG4 := Lib.hid (grown_tr HG3.out hg4)
  have HX4 := Lib.hid (grown_tr HX3.out hg4)
  have HR4 := Lib.hid hg4
  clear hc4 hg4
  cases b with
  | true =>
    go_wp2_with fail
    go_at_call 25
    refine (HBent.out _ HC4.out).mono ?_
    rintro e w5 ⟨k2, l2, A2, q2, a2, rfl, -, -, hl2, ha2, hs5, hc5, hg5⟩
    have HS5 := Lib.hid hs5
    have HC5 := Lib.hid hc5
    have HG5 := Lib.hid (grown_tr HG4.out hg5)
    have hgl5 := hc5.lt
    clear hs5 hc5 hg5
    go_wp2_with fail
    go_at_call 36
    refine (HAny.out _ HC5.out).mono ?_
    rintro e w6 ⟨p, rfl, hp, hc6, hg6⟩
    have hz6 := hg6.size
    have hB6 := below_row (w := w.alloc (.cells #[.int .i64 0, .string ⟨#[]⟩, .slice none 0 0] 26)) (by rw [World.size_alloc, ← hB]; exact HB1.out) (grown_tr HG5.out hg6) (by rw [World.size_alloc]; omega)
    obtain ⟨-, b0, b1, b2, f0, f1, f2⟩ := box_kept (w := w) (w1 := w6) (by rw [World.size_alloc] at hB6; exact hB6)
    have HF := Lib.hid (mx_end (w := w) (k := k2) (l := l2) (s := ⟨p.toArray⟩) hl2 ha2 (by simpa [ByteArray.size] using hp) (HS5.out.mono (w' := w6) (S' := OwnB w4 w6) (fun h hh => hg6.block h hh.2 (fun e => by cases e; have := hh.1; have := HC4.out.lt; omega)) (fun h hh => ⟨hh.1, Nat.lt_of_lt_of_le hh.2 hz6⟩)) (fun h hh => ⟨by have := hh.1; omega, hh.2⟩) (HB0.out.trans (hB6.mono (by rw [World.size_alloc]; omega))) b0 b1 b2)
    clear hc6 hg6 hB6
    go_wp2_with fail
    obtain ⟨⟨c0, c1, c2⟩, hP⟩ := HF.out
    exact bodyPost_ret (v := .tuple #[.agg #[.int .i64 k2, .string l2, .slice A2 a2.items.length q2], .string ⟨p.toArray⟩]) (by simp [results, Try.results14, go_sem, c0, c1, c2]) rfl hP
  | false =>
    obtain ⟨-, r0, r1, r2, -⟩ := box_grown HR4.out hgl3
    have HC4d := Lib.hid (Cur.drew HC4.out)
    have HU4 := Lib.hid (grown_drew HR4.out)
    have HG4d := Lib.hid (grown_drew HG4.out)
    have HX4d := Lib.hid (grown_drew HX4.out)
    go_wp2_with fail
    go_region_with (go_at_call 37; (with_reducible refine (HWord.out _ HC4d.out).mono ?_); rintro e w6 ⟨p, rfl, hp, hc6, hg6⟩; have hz6 := hg6.size; obtain ⟨-, r0', r1', r2', -⟩ := box_grown (grown_tr HU4.out hg6) hgl3; have hB6 := below_row (w := w.alloc (.cells #[.int .i64 0, .string ⟨#[]⟩, .slice none 0 0] 26)) (by rw [World.size_alloc, ← hB]; exact HB1.out) (grown_tr HG4d.out hg6) (by rw [World.size_alloc]; omega); obtain ⟨-, b0, b1, b2, f0, f1, f2⟩ := box_kept (w := w) (w1 := w6) (by rw [World.size_alloc] at hB6; exact hB6); have HF := Lib.hid (mx_end (w := w) (k := k) (l := l) (s := ⟨p.toArray⟩) (by omega) ha64 (by have : p.length ≤ 5 := hp; simp [ByteArray.size]; omega) (HS.out.mono (w' := w6) (S' := OwnB w2 w6) (fun h hh => (grown_tr HX4d.out hg6).block h hh.2 (fun e => by cases e; have := hh.1; have := HC2.out.lt; omega)) (fun h hh => ⟨hh.1, by have := hh.2; have := hg6.size; have : w4.drew.heap.size = w4.heap.size := rfl; omega⟩)) (fun h hh => ⟨by have := hh.1; omega, hh.2⟩) (HB0.out.trans (hB6.mono (by rw [World.size_alloc]; omega))) b0 b1 b2); clear hc6 hg6 hB6)
    all_goals
      go_wp2_with fail
      obtain ⟨⟨c0, c1, c2⟩, hP⟩ := HF.out
      exact bodyPost_ret (v := .tuple #[.agg #[.int .i64 k, .string l, .slice A1 a.items.length q], .string ⟨p.toArray⟩]) (by simp [results, Try.results14, go_sem, c0, c1, c2]) rfl hP
end Go.Proofs.Ytichpiklgkahbaa
