/-
  laws.FnExactParseRegex answers true at every string: the parser of expressions answers what its model answers, in memory of its own.
-/
import Derived.Test.YtfhghgbiemjddaaParImpl
import Derived.Test.YtfhghgbiemjddaaParSp2
import Derived.Test.YtfhghgbiemjddaaEqS
import Derived.Test.YtfhghgbiemjddaaHeldRx
import Derived.Test.YtfhghgbiemjddaaStrBase
import Derived.Outline
namespace Go.Proofs.Ytfhghgbiemjddaa
open Go.RowKit

/-- What a parser of expressions answers. -/
def PaOf (k : Int) (b : ByteArray) (a : Fr) (ok : Bool) (w : World) (e : Ending) (w' : World) : Prop :=
  ∃ A c, e = .returned (.tuple #[.agg #[.int .i64 k, .string b, .slice A a.items.length c], .bool ok]) ∧ SlT w' 6 (OwnB w w') (.slice A a.items.length c) a ∧ Below w.heap.size w w'
theorem pa_of (l : List UInt8) : ∃ (k : Int) (b : ByteArray) (a : Fr) (ok : Bool), a.size ≤ 64 ∧ ∀ w e w', PaPost l w e w' → PaOf k b a ok w e w' := by
  cases hp : parseAll l with
  | none =>
    refine ⟨0, ⟨#[]⟩, .nil, false, by simp [Fr.size], fun w e w' h => ?_⟩
    unfold PaPost at h
    rw [hp] at h
    obtain ⟨rfl, hb⟩ := h
    exact ⟨none, 0, rfl, SlT.none w' 5 _ none 0, hb⟩
  | some x =>
    refine ⟨x.1, x.2.1, x.2.2, true, ?_, fun w e w' h => ?_⟩
    · unfold parseAll at hp
      split at hp
      · rename_i y hy
        split at hp
        · cases hp
          have := (parse_spec 6 l x [] hy).2.1
          simp at this
          omega
        · cases hp
      · cases hp
    · unfold PaPost at h
      rw [hp] at h
      obtain ⟨u, rfl, hs, hb⟩ := h
      obtain ⟨A, c, rfl⟩ := hs.shape
      exact ⟨A, c, rfl, hs, hb⟩

theorem Chg.cell {S : Nat → Prop} {w w' : World} (h : Chg S w w') {p : Addr} (hp : p.block < w.heap.size) (hn : ¬ S p.block) : w'.cell? p = w.cell? p := World.cell?_of_block (h.block p.block hp hn)
theorem Chg.old {S : Nat → Prop} {w w' : World} (h : Chg S w w') {B : Nat} (hS : ∀ g, S g → B ≤ g) (hB : B ≤ w.heap.size) : Below B w w' :=
  ⟨h.os, h.tape, h.output, h.size, fun g hg => h.block g (Nat.lt_of_lt_of_le hg hB) (fun hs => Nat.lt_irrefl _ (Nat.lt_of_lt_of_le hg (hS g hs)))⟩
/-- Block g is a box of an expression. -/
def Bx (w : World) (g : Nat) (k : Int) (b : ByteArray) (v : Value) : Prop := w.cell? ⟨g, 0, none⟩ = some (.int .i64 k) ∧ w.cell? ⟨g, 1, none⟩ = some (.string b) ∧ w.cell? ⟨g, 2, none⟩ = some v
theorem Bx.below {w w' : World} {g B : Nat} {k : Int} {b : ByteArray} {v : Value} (h : Bx w g k b v) (hb : Below B w w') (hg : g < B) : Bx w' g k b v :=
  ⟨(hb.cell (p := ⟨g, 0, none⟩) hg).trans h.1, (hb.cell (p := ⟨g, 1, none⟩) hg).trans h.2.1, (hb.cell (p := ⟨g, 2, none⟩) hg).trans h.2.2⟩
theorem Bx.chg {w w' : World} {S : Nat → Prop} {g : Nat} {k : Int} {b : ByteArray} {v : Value} (h : Bx w g k b v) (hc : Chg S w w') (hg : g < w.heap.size) (hn : ¬ S g) : Bx w' g k b v :=
  ⟨(hc.cell (p := ⟨g, 0, none⟩) hg hn).trans h.1, (hc.cell (p := ⟨g, 1, none⟩) hg hn).trans h.2.1, (hc.cell (p := ⟨g, 2, none⟩) hg hn).trans h.2.2⟩
/-- A box for an answer is new; what was there stays. -/
theorem box_new (w0 w1 : World) (B : Nat) (k : Int) (b : ByteArray) (v : Value) (t : TypeId) (h : Below B w0 w1) (hB : B ≤ w0.heap.size) :
    Below B w0 (w1.alloc (.cells #[.int .i64 k, .string b, v] t)) ∧ Bx (w1.alloc (.cells #[.int .i64 k, .string b, v] t)) w1.heap.size k b v ∧ Below w1.heap.size w1 (w1.alloc (.cells #[.int .i64 k, .string b, v] t)) ∧ (w1.alloc (.cells #[.int .i64 k, .string b, v] t)).heap.size = w1.heap.size + 1 :=
  ⟨h.alloc (Nat.le_trans hB h.size) _, box_cells (Below.refl _ _), (Below.refl _ _).alloc (Nat.le_refl _) _, by simp⟩
theorem own_sl {w w' wr : World} {n : Nat} {v : Value} {f : Fr} (h : SlT w' n (OwnB w w') v f) (hb : Below w'.heap.size w' wr) (B : Nat) (hB : w'.heap.size ≤ B) : Sl wr B n v f :=
  h.sl.mono (fun g hg => hb.block g hg.2) (fun _ hg => Nat.lt_of_lt_of_le hg.2 hB)
theorem tree_sl {w : World} {S : Nat → Prop} {n B : Nat} {v : Value} {f : Fr} (h : SlT w n S v f) (hS : ∀ g, S g → g < B) : Sl w B n v f := h.sl.mono (fun _ _ => rfl) hS

set_option maxRecDepth 100000 in
set_option maxHeartbeats 6400000 in
theorem lawParseRx_walk (s : ByteArray) (w : World) (hs0 : s.size ≤ 1048576) :
    Calls Try.prog 7 #[.string s] w fun e w' => e = .returned (.bool true) ∧ Below w.heap.size w w' := by
  obtain ⟨k, b, a, ok, hsz, hpa⟩ := pa_of s.data.toList
  have HS := Lib.hid (fun w => (specParse_any s w hs0).mono (fun e w' h => hpa w e w' h))
  have HI := Lib.hid (fun w => (implParse_any s w hs0).mono (fun e w' h => hpa w e w' h))
  have e1 : decide ((s.size : Int) > 1048576) = false := by simp; omega
  have HEQ := Lib.hid (fun (u u' : Value) (wr : World) (h : Sl wr wr.heap.size 6 u a) (h' : Sl wr wr.heap.size 6 u' a) => eqNode_of (n := 6) (m := 6) (fun B u u' f w => eqS_any 6 6 B u u' f w) wr.heap.size k b u u' a wr h h' (Nat.le_refl _))
  obtain ⟨r, hr⟩ : ∃ r, r = 1 + 2 * a.size := ⟨_, rfl⟩
  have HMK := Lib.hid (fun (S : Nat → Prop) (u : Value) (wr : World) (h : SlT wr 6 S u a) (hS : ∀ g, S g → g < wr.heap.size) => mark_any 6 1 S k b u a wr h hS (by omega) (by omega))
  have HHD := Lib.hid (fun (u : Value) (wr : World) (h : Sl wr wr.heap.size 6 u (mkF 1 a)) => held_any 6 1 wr.heap.size k b u a wr h (Nat.le_refl _) (by omega) (by omega))
  rw [← hr] at HMK HHD
  have hneg : decide ((r : Int) < 0) = false := by simp
  have hrm : r ≤ 1000 := by omega
  clear hpa hr
  go_enter Try.func7, Try.ntmps7
  go_wp2_with fail
  go_at_call 17
  refine (HS.out w).mono ?_
  rintro e w1 ⟨A1, c1, rfl, hs1, hb1⟩
  have BN1 := box_new w w1 w.heap.size k b (.slice A1 a.items.length c1) 26 hb1 (Nat.le_refl _)
  have HN1 := Lib.hid BN1
  have HS1 := Lib.hid hs1
  clear BN1 hs1 hb1
  go_wp2_with fail
  obtain ⟨W1, hW1⟩ : ∃ W1, W1 = w1.alloc (.cells #[.int .i64 k, .string b, .slice A1 a.items.length c1] 26) := ⟨_, rfl⟩
  rw [← hW1] at HN1 ⊢
  clear hW1
  go_at_call 11
  refine (HI.out W1).mono ?_
  rintro e w2 ⟨A2, c2, rfl, hs2, hb2⟩
  have BN2 := box_new W1 w2 W1.heap.size k b (.slice A2 a.items.length c2) 26 hb2 (Nat.le_refl _)
  have hz1 := HN1.out.2.2.2
  obtain ⟨x0, x1, x2⟩ := HN1.out.2.1.below BN2.1 (by omega)
  obtain ⟨y0, y1, y2⟩ := BN2.2.1
  have HN2 := Lib.hid BN2
  have HS2 := Lib.hid hs2
  have HB2 := Lib.hid hb2
  clear BN2 hs2 hb2
  go_wp2_with fail
  obtain ⟨W2, hW2⟩ : ∃ W2, W2 = w2.alloc (.cells #[.int .i64 k, .string b, .slice A2 a.items.length c2] 26) := ⟨_, rfl⟩
  rw [← hW2] at HN2 ⊢
  clear hW2 x0 x1 x2 y0 y1 y2
  have hz2 := HN2.out.2.2.2
  have hz12 := HB2.out.size
  go_at_call 20
  refine (HEQ.out _ _ W2 (own_sl HS2.out HN2.out.2.2.1 _ (by omega)) (own_sl HS1.out ((HN1.out.2.2.1).trans (HN2.out.1.mono (by omega))) _ (by omega))).mono ?_
  rintro e w3 ⟨rfl, hb3⟩
  have HB3 := Lib.hid hb3
  clear hb3
  obtain ⟨y0, y1, y2⟩ := HN2.out.2.1.below HB3.out (by omega)
  have hz3 := HB3.out.size
  go_wp2_with fail
  go_at_call 22
  refine (HMK.out (OwnB W1 w2) _ w3 (HS2.out.mono (fun g hg => (HN2.out.2.2.1.trans (HB3.out.mono (by omega))).block g hg.2) (fun _ h => h)) (fun g hg => by have := hg.2; omega)).mono ?_
  rintro e w4 ⟨rfl, hs4, hc4⟩
  have HS4 := Lib.hid hs4
  have HC4 := Lib.hid hc4
  clear hs4 hc4 y0 y1 y2
  have hz4 := HC4.out.size
  have HX4 := Lib.hid ((HN2.out.2.1.below HB3.out (by omega)).chg HC4.out (by omega) (fun h => Nat.lt_irrefl _ h.2))
  obtain ⟨y0, y1, y2⟩ := HX4.out
  go_wp2_with fail
  go_at_call 23
  refine (HHD.out _ w4 (tree_sl HS4.out (fun g hg => by have := hg.2; omega))).mono ?_
  rintro e w5 ⟨rfl, hb5⟩
  have HB5 := Lib.hid hb5
  clear hb5 y0 y1 y2
  have hz5 := HB5.out.size
  -- what stands below W1 stands still
  have HL5 := Lib.hid (((HN2.out.1.trans (HB3.out.mono (by omega))).trans (HC4.out.old (fun g hg => hg.1) (by omega))).trans (HB5.out.mono (by omega)))
  go_wp2_with fail
  go_at_call 11
  refine (HI.out w5).mono ?_
  rintro e w6 ⟨A3, c3, rfl, hs6, hb6⟩
  have BN6 := box_new w5 w6 w5.heap.size k b (.slice A3 a.items.length c3) 26 hb6 (Nat.le_refl _)
  have HL6 := Lib.hid (HL5.out.trans (BN6.1.mono (by omega)))
  obtain ⟨x0, x1, x2⟩ := HN1.out.2.1.below HL6.out (by omega)
  obtain ⟨y0, y1, y2⟩ := BN6.2.1
  have HN6 := Lib.hid BN6
  have HS6 := Lib.hid hs6
  clear BN6 hs6 hb6
  go_wp2_with fail
  obtain ⟨W6, hW6⟩ : ∃ W6, W6 = w6.alloc (.cells #[.int .i64 k, .string b, .slice A3 a.items.length c3] 26) := ⟨_, rfl⟩
  rw [← hW6] at HN6 HL6 ⊢
  clear hW6 x0 x1 x2 y0 y1 y2
  have hz6 := HN6.out.2.2.2
  have hz56 := HN6.out.1.size
  go_at_call 20
  refine (HEQ.out _ _ W6 (own_sl HS6.out HN6.out.2.2.1 _ (by omega)) (own_sl HS1.out ((HN1.out.2.2.1).trans (HL6.out.mono (by omega))) _ (by omega))).mono ?_
  rintro e w7 ⟨rfl, hb7⟩
  have HB7 := Lib.hid hb7
  clear hb7
  have hz7 := HB7.out.size
  have HT7 := Lib.hid ((HB5.out.trans (HN6.out.1.mono (by omega))).trans (HB7.out.mono (by omega)))
  obtain ⟨y0, y1, y2⟩ := HX4.out.below HT7.out (by omega)
  go_wp2_with fail
  go_at_call 23
  refine (HHD.out _ w7 ((tree_sl HS4.out (B := w4.heap.size) (fun g hg => by have := hg.2; omega)).mono HT7.out (by omega))).mono ?_
  rintro e w8 ⟨rfl, hb8⟩
  have HB8 := Lib.hid hb8
  clear hb8 y0 y1 y2
  have HL8 := Lib.hid (HN1.out.1.trans (((HL6.out.trans (HB7.out.mono (by omega))).trans (HB8.out.mono (by omega))).mono HN1.out.1.size))
  go_wp2_with fail
  go_ret
  exact ⟨rfl, HL8.out⟩

set_option maxHeartbeats 400000 in
theorem lawParseRx_any (s : ByteArray) (w : World) (hs : s.size ≤ 9223372036854775807) :
    Calls Try.prog 7 #[.string s] w fun e w' => e = .returned (.bool true) ∧ Below w.heap.size w w' := by
  by_cases hz : 1048576 < s.size
  · have e1 : decide ((s.size : Int) > 1048576) = true := by simp; omega
    go_enter Try.func7, Try.ntmps7
    go_wp2
    go_ret
    exact ⟨rfl, Below.refl _ _⟩
  · exact lawParseRx_walk s w (by omega)
end Go.Proofs.Ytfhghgbiemjddaa
