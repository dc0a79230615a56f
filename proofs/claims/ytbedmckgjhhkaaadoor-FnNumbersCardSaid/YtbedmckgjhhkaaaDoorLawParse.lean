/-
  laws.FnExactParseNumber and laws.FnExactParseInt answer true at every string where strconv's table and sentinels hold what their initialisers lay. Behind the call nothing that was there has turned.
-/
import Derived.Test.YtbedmckgjhhkaaaDoorImplParse
namespace Go.Proofs.YtbedmckgjhhkaaaDoor
open Go.RowKit

theorem specParseNumber_yes (s : ByteArray) (n : Int) (w : World) (hs : s.size ≤ maxLen) (hn : s.data.toList = Lib.itoa n) (h0 : 0 ≤ n) (h1 : n ≤ 999999) :
    Calls Tryd.prog 14 #[.string s] w fun e w' => e = .returned (.tuple #[.int .i64 n, .bool true]) ∧ Below w.heap.size w w' := by
  refine (specParseNumber_any s w hs).mono ?_
  rintro e w' ⟨v, ok, rfl, hr, hb⟩
  obtain ⟨rfl, rfl⟩ := hr.unique (.inl ⟨rfl, hn, h0, h1⟩)
  exact ⟨rfl, hb⟩
theorem specParseNumber_no (s : ByteArray) (w : World) (hs : s.size ≤ maxLen) (hn : ∀ n : Int, 0 ≤ n → n ≤ 999999 → s.data.toList ≠ Lib.itoa n) :
    Calls Tryd.prog 14 #[.string s] w fun e w' => e = .returned (.tuple #[.int .i64 0, .bool false]) ∧ Below w.heap.size w w' := by
  refine (specParseNumber_any s w hs).mono ?_
  rintro e w' ⟨v, ok, rfl, hr, hb⟩
  obtain ⟨rfl, rfl⟩ := hr.unique (.inr ⟨rfl, rfl, hn⟩)
  exact ⟨rfl, hb⟩

set_option maxHeartbeats 400000 in
theorem lawParseNumber_any (s : ByteArray) (w : World) (hs : s.size ≤ maxLen) (hl : Laid5 w) :
    Calls Tryd.prog 5 #[.string s] w fun e w' => e = .returned (.bool true) ∧ Below w.heap.size w w' := by
  have HL := Lib.hid hl
  clear hl
  by_cases hz : 1048576 < s.size
  · unfold maxLen at hs
    have e1 : decide ((s.size : Int) > 1048576) = true := by simp; omega
    go_enter Tryd.func5, Tryd.ntmps5
    go_wp2
    go_ret
    exact ⟨rfl, Below.refl _ _⟩
  · by_cases hq : ∃ n : Int, 0 ≤ n ∧ n ≤ 999999 ∧ s.data.toList = Lib.itoa n
    · obtain ⟨n, h0, h1, hn⟩ := hq
      have HS := Lib.hid (fun w => specParseNumber_yes s n w hs hn h0 h1)
      have HI := Lib.hid (fun w hl => parseNumber_yes s n w (by omega) hl hn h0 h1)
      clear hn
      unfold maxLen at hs
      go_enter Tryd.func5, Tryd.ntmps5
      go_wp2_with (first
        | (go_at_call 14; refine (HS.out _).mono ?_; rintro e w1 ⟨rfl, hb1⟩)
        | (go_at_call 13; refine (HI.out _ (HL.out.below hb1)).mono ?_; rintro e w2 ⟨rfl, hb2⟩))
      go_ret
      exact ⟨rfl, hb1.trans (hb2.mono hb1.size)⟩
    · have hn : ∀ n : Int, 0 ≤ n → n ≤ 999999 → s.data.toList ≠ Lib.itoa n := fun n a b e => hq ⟨n, a, b, e⟩
      have HS := Lib.hid (fun w => specParseNumber_no s w hs hn)
      have HI := Lib.hid (fun w hl => parseNumber_no s w (by omega) hl hn)
      clear hn hq
      unfold maxLen at hs
      go_enter Tryd.func5, Tryd.ntmps5
      go_wp2_with (first
        | (go_at_call 14; refine (HS.out _).mono ?_; rintro e w1 ⟨rfl, hb1⟩)
        | (go_at_call 13; refine (HI.out _ (HL.out.below hb1)).mono ?_; rintro e w2 ⟨rfl, hb2⟩))
      go_ret
      exact ⟨rfl, hb1.trans (hb2.mono hb1.size)⟩

theorem specParseInt_yes (s : ByteArray) (n : Int) (w : World) (hs : s.size ≤ maxLen) (hn : s.data.toList = Lib.itoa n) (h0 : -999999999999 ≤ n) (h1 : n ≤ 999999999999) :
    Calls Tryd.prog 15 #[.string s] w fun e w' => e = .returned (.tuple #[.int .i64 n, .bool true]) ∧ Below w.heap.size w w' := by
  refine (specParseInt_any s w hs).mono ?_
  rintro e w' ⟨v, ok, rfl, hr, hb⟩
  obtain ⟨rfl, rfl⟩ := hr.unique (.inl ⟨rfl, hn, h0, h1⟩)
  exact ⟨rfl, hb⟩
theorem specParseInt_no (s : ByteArray) (w : World) (hs : s.size ≤ maxLen) (hn : ∀ n : Int, -999999999999 ≤ n → n ≤ 999999999999 → s.data.toList ≠ Lib.itoa n) :
    Calls Tryd.prog 15 #[.string s] w fun e w' => e = .returned (.tuple #[.int .i64 0, .bool false]) ∧ Below w.heap.size w w' := by
  refine (specParseInt_any s w hs).mono ?_
  rintro e w' ⟨v, ok, rfl, hr, hb⟩
  obtain ⟨rfl, rfl⟩ := hr.unique (.inr ⟨rfl, rfl, hn⟩)
  exact ⟨rfl, hb⟩

set_option maxHeartbeats 400000 in
theorem lawParseInt_any (s : ByteArray) (w : World) (hs : s.size ≤ maxLen) (hl : Laid5 w) :
    Calls Tryd.prog 6 #[.string s] w fun e w' => e = .returned (.bool true) ∧ Below w.heap.size w w' := by
  have HL := Lib.hid hl
  clear hl
  by_cases hz : 1048576 < s.size
  · unfold maxLen at hs
    have e1 : decide ((s.size : Int) > 1048576) = true := by simp; omega
    go_enter Tryd.func6, Tryd.ntmps6
    go_wp2
    go_ret
    exact ⟨rfl, Below.refl _ _⟩
  · by_cases hq : ∃ n : Int, -999999999999 ≤ n ∧ n ≤ 999999999999 ∧ s.data.toList = Lib.itoa n
    · obtain ⟨n, h0, h1, hn⟩ := hq
      have HS := Lib.hid (fun w => specParseInt_yes s n w hs hn h0 h1)
      have HI := Lib.hid (fun w hl => parseInt_yes s n w (by omega) hl hn h0 h1)
      clear hn
      unfold maxLen at hs
      go_enter Tryd.func6, Tryd.ntmps6
      go_wp2_with (first
        | (go_at_call 15; refine (HS.out _).mono ?_; rintro e w1 ⟨rfl, hb1⟩)
        | (go_at_call 10; refine (HI.out _ (HL.out.below hb1)).mono ?_; rintro e w2 ⟨rfl, hb2⟩))
      go_ret
      exact ⟨rfl, hb1.trans (hb2.mono hb1.size)⟩
    · have hn : ∀ n : Int, -999999999999 ≤ n → n ≤ 999999999999 → s.data.toList ≠ Lib.itoa n := fun n a b e => hq ⟨n, a, b, e⟩
      have HS := Lib.hid (fun w => specParseInt_no s w hs hn)
      have HI := Lib.hid (fun w hl => parseInt_no s w (by omega) hl hn)
      clear hn hq
      unfold maxLen at hs
      go_enter Tryd.func6, Tryd.ntmps6
      go_wp2_with (first
        | (go_at_call 15; refine (HS.out _).mono ?_; rintro e w1 ⟨rfl, hb1⟩)
        | (go_at_call 10; refine (HI.out _ (HL.out.below hb1)).mono ?_; rintro e w2 ⟨rfl, hb2⟩))
      go_ret
      exact ⟨rfl, hb1.trans (hb2.mono hb1.size)⟩
#print axioms lawParseInt_any
end Go.Proofs.YtbedmckgjhhkaaaDoor
