/-
  What the model's draws for an expression's text answer.
-/
import Derived.Test.YtfhghgbiemjddaaTurned
import Derived.Test.YtfhghgbiemjddaaFormatS
namespace Go.Proofs.Ytfhghgbiemjddaa
open Go.RowKit

/-- A drawn expression, in memory of its own. -/
def DrawnPost (w : World) (e : Ending) (w' : World) : Prop :=
  ∃ (k : Int) (l : ByteArray) (A' : Option Addr) (c' : Nat) (a : Fr), e = .returned (.agg #[.int .i64 k, .string l, .slice A' a.items.length c']) ∧ 0 ≤ k ∧ k ≤ 10 ∧ l.size ≤ 2 ∧ a.size ≤ 32 ∧ SlT w' 6 (OwnB w w') (.slice A' a.items.length c') a ∧ Below w.heap.size w w'
theorem BL.more {w : World} {B B' : Nat} {A : Option Addr} {n : Nat} (h : BL w B A n) (hB : B ≤ B') : BL w B' A n := fun k hk => by
  obtain ⟨ad, z, e, hlt, hc⟩ := h k hk
  exact ⟨ad, z, e, Nat.lt_of_lt_of_le hlt hB, hc⟩
theorem below_row {w w1 w2 : World} {g : Nat} (hb : Below w.heap.size w w1) (hg : w1.grownBy w2 (some g)) (h : w.heap.size ≤ g) : Below w.heap.size w w2 :=
  hb.grown hg hb.size (fun k e => by cases e; exact h)

set_option maxRecDepth 100000 in
set_option maxHeartbeats 1600000 in
theorem drawFormatRx_any (A : Option Addr) (n c : Nat) (w : World) (h : BL w w.heap.size A n) (hn : n ≤ 1048576) :
    Calls Try.prog 9 #[.slice A n c] w (DrawnPost w) := by
  have hb0 := (Below.refl w.heap.size w).alloc (Nat.le_refl _) (.cells #[.int .i64 0, .string ⟨#[]⟩, .slice none 0 0] 26)
  have HN := Lib.hid (l1New_any A n c (w.alloc (.cells #[.int .i64 0, .string ⟨#[]⟩, .slice none 0 0] 26)) ((h.below hb0).more hb0.size) hn)
  have HB0 := Lib.hid hb0
  clear h hb0
  go_enter Try.func9, Try.ntmps9
  go_wp2_with fail
  go_at_call 25
  refine HN.out.mono ?_
  rintro e w1 ⟨g, rfl, hc1, hb1⟩
  have hwg : w.heap.size + 1 ≤ g := by have := hc1.1; rw [World.size_alloc] at this; exact this
  have HBent := Lib.hid (l3Bent_any g _ A n c w1 hc1 hn)
  have hz1 : w.heap.size + 1 ≤ w1.heap.size := by have := hb1.size; rw [World.size_alloc] at this; exact this
  have HB1 := Lib.hid hb1
  clear hc1 hb1
  go_wp2_with fail
  go_at_call 24
  refine HBent.out.mono ?_
  rintro e w2 ⟨k, l, A', c', a, rfl, hk0, hk9, hl, ha, hs, -, hg2⟩
  have hB2 := below_row HB1.out hg2 (by rw [World.size_alloc]; omega)
  have hz2 := hg2.size
  obtain ⟨-, b0, b1, b2, f0, f1, f2⟩ := box_kept (w := w) (w1 := w2) (by rw [World.size_alloc] at hB2; exact hB2)
  have HF := Lib.hid (put3 (k := .int .i64 k) (l := .string l) (u := .slice A' a.items.length c') b0 b1 b2)
  have HS := Lib.hid hs
  have HB2 := Lib.hid (HB0.out.trans (hB2.mono (by rw [World.size_alloc]; omega)))
  clear hs hg2 hB2
  go_wp2_with fail
  obtain ⟨⟨c0, c1, c2⟩, hsz, hot, hB⟩ := HF.out
  exact bodyPost_ret (v := .agg #[.int .i64 k, .string l, .slice A' a.items.length c']) (by simp [results, Try.results9, go_sem, c0, c1, c2]) rfl
    ⟨k, l, A', c', a, rfl, hk0, hk9, hl, ha, HS.out.mono (fun h hh => hot h (by have := hh.1; omega)) (fun h hh => ⟨by have := hh.1; omega, by rw [hsz]; exact hh.2⟩), hB _ _ HB2.out (Nat.le_refl _)⟩

/-- A text's length, by its nodes. -/
theorem texts_len : ∀ (f : Fr), allRow f = true → ((texts f).map List.length).sum ≤ 4 * f.size
  | .nil, _ => Nat.le_refl _
  | .cons k l a r, h => by
    simp only [allRow, Bool.and_eq_true] at h
    have ha := texts_len a h.1.1
    have hr := texts_len r h.2
    have hn := node_len k l a h.1.2 ha
    simp only [texts, List.map_cons, List.sum_cons, Fr.size]
    omega
where
  node_len (k : Int) (l : ByteArray) (a : Fr) (hn : nodeOk k l a.items.length = true) (ha : ((texts a).map List.length).sum ≤ 4 * a.size) : (nodeTxt k l (texts a)).length ≤ 4 * (a.size + 1) := by
    have hl : l.data.toList.length ≤ 1 := by
      unfold nodeOk at hn
      have hs : l.data.toList.length = l.size := by rw [Array.length_toList]; rfl
      split at hn <;> (simp only [Bool.and_eq_true, decide_eq_true_eq] at hn; omega)
    have h01 : ((texts a).getD 0 []).length + ((texts a).getD 1 []).length ≤ ((texts a).map List.length).sum := by
      match texts a with
      | [] => simp
      | [x] => simp
      | x :: y :: r =>
        simp only [List.getD_cons_zero, List.getD_cons_succ, List.map_cons, List.sum_cons]
        omega
    have hs : (signOf k).length ≤ 1 := by
      unfold signOf
      split
      · simp
      · split <;> simp
    unfold nodeTxt
    repeat' split
    all_goals try simp only [List.length_cons, List.length_append, List.length_nil]
    all_goals omega
theorem format_len (k : Int) (l : ByteArray) (a : Fr) (ha : a.size ≤ 32) : (formatRx k l a).length ≤ 132 := by
  unfold formatRx
  split
  · rename_i hv
    simp only [validRx, Bool.and_eq_true, decide_eq_true_eq] at hv
    have := texts_len.node_len k l a hv.2.2 (texts_len a hv.2.1)
    omega
  · simp

set_option maxRecDepth 100000 in
set_option maxHeartbeats 1600000 in
theorem drawParseRx_any (A : Option Addr) (n c : Nat) (w : World) (h : BL w w.heap.size A n) (hn : n ≤ 1048576) :
    Calls Try.prog 16 #[.slice A n c] w fun e w' => ∃ t : ByteArray, e = .returned (.string t) ∧ t.size ≤ 300 ∧ Below w.heap.size w w' := by
  have HN := Lib.hid (l1New_any A n c w h hn)
  clear h
  go_enter Try.func16, Try.ntmps16
  go_wp2_with fail
  go_at_call 25
  refine HN.out.mono ?_
  rintro e w1 ⟨g, rfl, hc1, hb1⟩
  have hwg := hc1.1
  have HBent := Lib.hid (fun wr (h : Cur wr g w.heap.size A n c) => l3Bent_any g _ A n c wr h hn)
  have HC1 := Lib.hid hc1
  have HB1 := Lib.hid hb1
  clear hc1 hb1
  go_wp2_with fail
  go_at_call 24
  refine (HBent.out _ HC1.out).mono ?_
  rintro e w2 ⟨k, l, A', c', a, rfl, hk0, hk9, hl, ha, hs, hc2, hg2⟩
  have HF := Lib.hid (specFormat_any 6 w2.heap.size k l _ a w2 (hs.sl.mono (fun _ _ => rfl) (fun _ hg => hg.2)) (Nat.le_refl _) (by omega) (by omega))
  have hlen := format_len k l a ha
  obtain ⟨s, hse⟩ : ∃ s : ByteArray, s = ⟨(formatRx k l a).toArray⟩ := ⟨_, rfl⟩
  have hss : s.size ≤ 200 := by rw [hse]; show (formatRx k l a).toArray.size ≤ 200; rw [List.size_toArray]; omega
  rw [← hse] at HF
  have HC2 := Lib.hid hc2
  have hgl2 := hc2.lt
  have HB2 := Lib.hid (below_row HB1.out hg2 hwg)
  clear hs hc2 hg2 hlen hse
  go_wp2_with fail
  go_at_call 12
  refine HF.out.mono ?_
  rintro e w3 ⟨rfl, hb3⟩
  have hz3 := hb3.size
  have HC3 := Lib.hid ((HC2.out.put (hb3.mono (Nat.le_trans hwg (Nat.le_of_lt hgl2))) (hb3.block g hgl2)).alloc (.cells (turnList.map fun p => Value.string ⟨p.toArray⟩).toArray 9))
  have HB3 := Lib.hid ((HB2.out.trans (hb3.mono HB2.out.size)).alloc (Nat.le_trans HB2.out.size hz3) (.cells (turnList.map fun p => Value.string ⟨p.toArray⟩).toArray 9))
  clear hb3
  go_wp2_with fail
  go_at_call 34
  refine (l1Turned_any s g w.heap.size w3.heap.size A n c _ HC3.out hn hss (by omega) (heap_alloc_new w3 _)).mono ?_
  rintro e w4 ⟨t, rfl, ht, -, hg4⟩
  have HB4 := Lib.hid (below_row HB3.out hg4 hwg)
  clear hg4
  go_wp2_with fail
  go_ret
  exact ⟨t, rfl, ht, HB4.out⟩
end Go.Proofs.Ytfhghgbiemjddaa
