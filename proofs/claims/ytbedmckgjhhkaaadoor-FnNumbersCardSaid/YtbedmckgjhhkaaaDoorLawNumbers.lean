/-
  laws.FnNumbers answers true at every slice of bytes in old memory where strconv's table and sentinels hold what their initialisers lay; behind the call nothing that was there has turned.
-/
import Derived.Test.YtbedmckgjhhkaaaDoorDrawNum
import Derived.Test.YtbedmckgjhhkaaaDoorLawParse
namespace Go.Proofs.YtbedmckgjhhkaaaDoor
open Go.RowKit

theorem BL.wide {w : World} {B B' : Nat} {A : Option Addr} {n : Nat} (h : BL w B A n) (hB : B ≤ B') : BL w B' A n := fun k hk => by
  obtain ⟨ad, z, e, hlt, hc, hz⟩ := h k hk
  exact ⟨ad, z, e, Nat.lt_of_lt_of_le hlt hB, hc, hz⟩

theorem nDigits_ge : ∀ (k u : Nat), 10 ^ k ≤ u → k + 1 ≤ Lib.nDigits u
  | 0, u, _ => Lib.nDigits_pos u
  | k + 1, u, h => by
    rw [Nat.pow_succ] at h
    have hp : 1 ≤ 10 ^ k := Nat.one_le_pow _ _ (by decide)
    rw [Lib.nDigits_big (by omega)]
    have := nDigits_ge k (u / 10) (by omega)
    omega

/-- The numeral's length tells whether the number has at most twelve digits. -/
theorem len_in (n : Int) (h : n.natAbs < 1000000000000) : (0 ≤ n → (Lib.itoa n).length ≤ 12) ∧ (Lib.itoa n).length ≤ 13 := by
  have hd := nDigits_le 11 n.natAbs (by omega)
  rcases itoa_parts n with ⟨h0, e⟩ | ⟨h0, e⟩ <;> rw [e] <;> simp [Lib.decDigits_length] <;> omega
theorem len_out (n : Int) (h : 1000000000000 ≤ n.natAbs) : 13 ≤ (Lib.itoa n).length ∧ (n < 0 → 14 ≤ (Lib.itoa n).length) := by
  have hd := nDigits_ge 12 n.natAbs (by omega)
  rcases itoa_parts n with ⟨h0, e⟩ | ⟨h0, e⟩ <;> rw [e] <;> simp [Lib.decDigits_length] <;> omega

def TwoPost (v : Int) (ok : Bool) (w : World) (e : Ending) (w' : World) : Prop := e = .returned (.tuple #[.int .i64 v, .bool ok]) ∧ Below w.heap.size w w'

/-- impl.ParseInt of a numeral. -/
theorem parseInt_numeral (n : Int) (w : World) (hl : Laid5 w) (h0 : -9223372036854775808 ≤ n) (h1 : n ≤ 9223372036854775807) :
    Calls Tryd.prog 10 #[.string ⟨(Lib.itoa n).toArray⟩] w (if n.natAbs < 1000000000000 then TwoPost n true w else TwoPost 0 false w) := by
  have hsz : (⟨(Lib.itoa n).toArray⟩ : ByteArray).size ≤ 281474976710656 := by
    have := Lib.itoa_length_le n h0 h1
    show (Lib.itoa n).length ≤ _
    omega
  by_cases h : n.natAbs < 1000000000000
  · rw [if_pos h]
    exact parseInt_yes ⟨(Lib.itoa n).toArray⟩ n w hsz hl rfl (by omega) (by omega)
  · rw [if_neg h]
    exact parseInt_no ⟨(Lib.itoa n).toArray⟩ w hsz hl (fun m a b e => by have := itoa_inj (a := n) (b := m) e; omega)

set_option maxRecDepth 100000 in
set_option maxHeartbeats 1600000 in
theorem lawNumbers_any (A : Option Addr) (n c : Nat) (w : World) (h : BL w w.heap.size A n) (hnm : n ≤ 9223372036854775807) (hl : Laid5 w) :
    Calls Tryd.prog 3 #[.slice A n c] w fun e w' => e = .returned (.bool true) ∧ Below w.heap.size w w' := by
  have HL := Lib.hid hl
  clear hl
  by_cases hz : 1048576 < n
  · have e1 : decide ((n : Int) > 1048576) = true := by simp; omega
    clear h
    go_enter Tryd.func3, Tryd.ntmps3
    go_wp2
    go_ret
    exact ⟨rfl, Below.refl _ _⟩
  · have e1 : decide ((n : Int) > 1048576) = false := by simp; omega
    have hn : n ≤ 1048576 := by omega
    have HB := Lib.hid h
    have HD := Lib.hid (drawFormatInt_any A n c w h hn)
    clear h
    go_enter Tryd.func3, Tryd.ntmps3
    go_wp2_with (go_at_call 7; go_in)
    refine HD.out.mono ?_
    rintro e w1 ⟨z, rfl, hz0, hz1, hb1⟩
    have B1 := Lib.hid hb1
    clear hb1
    go_wp2_with fail
    refine (implFormat_any z w1 hz0 hz1 (HL.out.below B1.out).1).mono ?_
    rintro e w2 ⟨rfl, hb2⟩
    have B2 := Lib.hid (B1.out.trans (hb2.mono B1.out.size))
    clear hb2
    go_wp2_with fail
    refine (parseInt_numeral z w2 (HL.out.below B2.out) hz0 hz1).mono ?_
    intro e w3 hp
    have hlen := Lib.itoa_length_le z hz0 hz1
    by_cases hin : z.natAbs < 1000000000000
    · rw [if_pos hin] at hp
      obtain ⟨rfl, hb3⟩ := hp
      have B3 := Lib.hid (B2.out.trans (hb3.mono B2.out.size))
      have hli := len_in z hin
      clear hb3
      by_cases hneg : z < 0
      · have e2 : decide (z < 0) = true := by simpa using hneg
        have e3 : decide (((Lib.itoa z).length : Int) ≤ 13) = true := by simp; omega
        by_cases h12 : (Lib.itoa z).length ≤ 12
        · have e4 : decide (((Lib.itoa z).length : Int) ≤ 12) = true := by simp; omega
          go_wp2_with fail
          refine (specFormat_any z w3 hz0 hz1).mono ?_
          rintro e w4 ⟨rfl, hb4⟩
          have B4 := Lib.hid (B3.out.trans (hb4.mono B3.out.size))
          clear hb4
          go_wp2_with fail
          refine (drawParseNumber_any A n c _ ((HB.out.below B4.out).wide B4.out.size) hn).mono ?_
          rintro e w5 ⟨t, rfl, ht, hb5⟩
          have B5 := Lib.hid (B4.out.trans (hb5.mono B4.out.size))
          clear hb5
          have htm : t.size ≤ maxLen := by unfold maxLen; omega
          by_cases hq : ∃ m : Int, 0 ≤ m ∧ m ≤ 999999 ∧ t.data.toList = Lib.itoa m
          · obtain ⟨m, hm0, hm1, hm⟩ := hq
            have HI := Lib.hid (parseNumber_yes t m w5 (by omega) (HL.out.below B5.out) hm hm0 hm1)
            have HS := Lib.hid (fun w => specParseNumber_yes t m w htm hm hm0 hm1)
            have e9 : (Lib.itoa m == t.toList) = true := by rw [ByteArray.toList_eq, hm]; exact beq_self_eq_true _
            have e10 : decide (m ≥ 0) = true := by simpa using hm0
            clear hm htm
            go_wp2_with fail
            refine HI.out.mono ?_
            rintro e w6 ⟨rfl, hb6⟩
            have B6 := Lib.hid (B5.out.trans (hb6.mono B5.out.size))
            clear hb6
            go_wp2_with fail
            refine (HS.out _).mono ?_
            rintro e w7 ⟨rfl, hb7⟩
            have B7 := Lib.hid (B6.out.trans (hb7.mono B6.out.size))
            clear hb7
            go_wp2_with fail
            refine (implFormat_any m w7 (by omega) (by omega) (HL.out.below B7.out).1).mono ?_
            rintro e w8 ⟨rfl, hb8⟩
            have B8 := Lib.hid (B7.out.trans (hb8.mono B7.out.size))
            clear hb8
            go_wp2_with fail
            go_ret
            exact ⟨rfl, B8.out⟩
          · have hno : ∀ m : Int, 0 ≤ m → m ≤ 999999 → t.data.toList ≠ Lib.itoa m := fun m a b e => hq ⟨m, a, b, e⟩
            have HI := Lib.hid (parseNumber_no t w5 (by omega) (HL.out.below B5.out) hno)
            have HS := Lib.hid (fun w => specParseNumber_no t w htm hno)
            clear hq hno htm
            go_wp2_with fail
            refine HI.out.mono ?_
            rintro e w6 ⟨rfl, hb6⟩
            have B6 := Lib.hid (B5.out.trans (hb6.mono B5.out.size))
            clear hb6
            go_wp2_with fail
            refine (HS.out _).mono ?_
            rintro e w7 ⟨rfl, hb7⟩
            have B7 := Lib.hid (B6.out.trans (hb7.mono B6.out.size))
            clear hb7
            go_wp2_with fail
            go_ret
            exact ⟨rfl, B7.out⟩
        · have e4 : decide (((Lib.itoa z).length : Int) ≤ 12) = false := by simp; omega
          go_wp2_with fail
          refine (specFormat_any z w3 hz0 hz1).mono ?_
          rintro e w4 ⟨rfl, hb4⟩
          have B4 := Lib.hid (B3.out.trans (hb4.mono B3.out.size))
          clear hb4
          go_wp2_with fail
          refine (drawParseNumber_any A n c _ ((HB.out.below B4.out).wide B4.out.size) hn).mono ?_
          rintro e w5 ⟨t, rfl, ht, hb5⟩
          have B5 := Lib.hid (B4.out.trans (hb5.mono B4.out.size))
          clear hb5
          have htm : t.size ≤ maxLen := by unfold maxLen; omega
          by_cases hq : ∃ m : Int, 0 ≤ m ∧ m ≤ 999999 ∧ t.data.toList = Lib.itoa m
          · obtain ⟨m, hm0, hm1, hm⟩ := hq
            have HI := Lib.hid (parseNumber_yes t m w5 (by omega) (HL.out.below B5.out) hm hm0 hm1)
            have HS := Lib.hid (fun w => specParseNumber_yes t m w htm hm hm0 hm1)
            have e9 : (Lib.itoa m == t.toList) = true := by rw [ByteArray.toList_eq, hm]; exact beq_self_eq_true _
            have e10 : decide (m ≥ 0) = true := by simpa using hm0
            clear hm htm
            go_wp2_with fail
            refine HI.out.mono ?_
            rintro e w6 ⟨rfl, hb6⟩
            have B6 := Lib.hid (B5.out.trans (hb6.mono B5.out.size))
            clear hb6
            go_wp2_with fail
            refine (HS.out _).mono ?_
            rintro e w7 ⟨rfl, hb7⟩
            have B7 := Lib.hid (B6.out.trans (hb7.mono B6.out.size))
            clear hb7
            go_wp2_with fail
            refine (implFormat_any m w7 (by omega) (by omega) (HL.out.below B7.out).1).mono ?_
            rintro e w8 ⟨rfl, hb8⟩
            have B8 := Lib.hid (B7.out.trans (hb8.mono B7.out.size))
            clear hb8
            go_wp2_with fail
            go_ret
            exact ⟨rfl, B8.out⟩
          · have hno : ∀ m : Int, 0 ≤ m → m ≤ 999999 → t.data.toList ≠ Lib.itoa m := fun m a b e => hq ⟨m, a, b, e⟩
            have HI := Lib.hid (parseNumber_no t w5 (by omega) (HL.out.below B5.out) hno)
            have HS := Lib.hid (fun w => specParseNumber_no t w htm hno)
            clear hq hno htm
            go_wp2_with fail
            refine HI.out.mono ?_
            rintro e w6 ⟨rfl, hb6⟩
            have B6 := Lib.hid (B5.out.trans (hb6.mono B5.out.size))
            clear hb6
            go_wp2_with fail
            refine (HS.out _).mono ?_
            rintro e w7 ⟨rfl, hb7⟩
            have B7 := Lib.hid (B6.out.trans (hb7.mono B6.out.size))
            clear hb7
            go_wp2_with fail
            go_ret
            exact ⟨rfl, B7.out⟩
      · have e2 : decide (z < 0) = false := by simpa using hneg
        have h12 := hli.1 (by omega)
        have e4 : decide (((Lib.itoa z).length : Int) ≤ 12) = true := by simp; omega
        go_wp2_with fail
        refine (specFormat_any z w3 hz0 hz1).mono ?_
        rintro e w4 ⟨rfl, hb4⟩
        have B4 := Lib.hid (B3.out.trans (hb4.mono B3.out.size))
        clear hb4
        go_wp2_with fail
        refine (drawParseNumber_any A n c _ ((HB.out.below B4.out).wide B4.out.size) hn).mono ?_
        rintro e w5 ⟨t, rfl, ht, hb5⟩
        have B5 := Lib.hid (B4.out.trans (hb5.mono B4.out.size))
        clear hb5
        have htm : t.size ≤ maxLen := by unfold maxLen; omega
        by_cases hq : ∃ m : Int, 0 ≤ m ∧ m ≤ 999999 ∧ t.data.toList = Lib.itoa m
        · obtain ⟨m, hm0, hm1, hm⟩ := hq
          have HI := Lib.hid (parseNumber_yes t m w5 (by omega) (HL.out.below B5.out) hm hm0 hm1)
          have HS := Lib.hid (fun w => specParseNumber_yes t m w htm hm hm0 hm1)
          have e9 : (Lib.itoa m == t.toList) = true := by rw [ByteArray.toList_eq, hm]; exact beq_self_eq_true _
          have e10 : decide (m ≥ 0) = true := by simpa using hm0
          clear hm htm
          go_wp2_with fail
          refine HI.out.mono ?_
          rintro e w6 ⟨rfl, hb6⟩
          have B6 := Lib.hid (B5.out.trans (hb6.mono B5.out.size))
          clear hb6
          go_wp2_with fail
          refine (HS.out _).mono ?_
          rintro e w7 ⟨rfl, hb7⟩
          have B7 := Lib.hid (B6.out.trans (hb7.mono B6.out.size))
          clear hb7
          go_wp2_with fail
          refine (implFormat_any m w7 (by omega) (by omega) (HL.out.below B7.out).1).mono ?_
          rintro e w8 ⟨rfl, hb8⟩
          have B8 := Lib.hid (B7.out.trans (hb8.mono B7.out.size))
          clear hb8
          go_wp2_with fail
          go_ret
          exact ⟨rfl, B8.out⟩
        · have hno : ∀ m : Int, 0 ≤ m → m ≤ 999999 → t.data.toList ≠ Lib.itoa m := fun m a b e => hq ⟨m, a, b, e⟩
          have HI := Lib.hid (parseNumber_no t w5 (by omega) (HL.out.below B5.out) hno)
          have HS := Lib.hid (fun w => specParseNumber_no t w htm hno)
          clear hq hno htm
          go_wp2_with fail
          refine HI.out.mono ?_
          rintro e w6 ⟨rfl, hb6⟩
          have B6 := Lib.hid (B5.out.trans (hb6.mono B5.out.size))
          clear hb6
          go_wp2_with fail
          refine (HS.out _).mono ?_
          rintro e w7 ⟨rfl, hb7⟩
          have B7 := Lib.hid (B6.out.trans (hb7.mono B6.out.size))
          clear hb7
          go_wp2_with fail
          go_ret
          exact ⟨rfl, B7.out⟩
    · rw [if_neg hin] at hp
      obtain ⟨rfl, hb3⟩ := hp
      have B3 := Lib.hid (B2.out.trans (hb3.mono B2.out.size))
      have hlo := len_out z (by omega)
      clear hb3
      have hlo1 := hlo.1
      have e4 : decide (((Lib.itoa z).length : Int) ≤ 12) = false := by simp; omega
      by_cases hneg : z < 0
      · have e2 : decide (z < 0) = true := by simpa using hneg
        have hlo2 := hlo.2 hneg
        have e3 : decide (((Lib.itoa z).length : Int) ≤ 13) = false := by simp; omega
        clear hlo
        go_wp2_with fail
        refine (specFormat_any z w3 hz0 hz1).mono ?_
        rintro e w4 ⟨rfl, hb4⟩
        have B4 := Lib.hid (B3.out.trans (hb4.mono B3.out.size))
        clear hb4
        go_wp2_with fail
        refine (drawParseNumber_any A n c _ ((HB.out.below B4.out).wide B4.out.size) hn).mono ?_
        rintro e w5 ⟨t, rfl, ht, hb5⟩
        have B5 := Lib.hid (B4.out.trans (hb5.mono B4.out.size))
        clear hb5
        have htm : t.size ≤ maxLen := by unfold maxLen; omega
        by_cases hq : ∃ m : Int, 0 ≤ m ∧ m ≤ 999999 ∧ t.data.toList = Lib.itoa m
        · obtain ⟨m, hm0, hm1, hm⟩ := hq
          have HI := Lib.hid (parseNumber_yes t m w5 (by omega) (HL.out.below B5.out) hm hm0 hm1)
          have HS := Lib.hid (fun w => specParseNumber_yes t m w htm hm hm0 hm1)
          have e9 : (Lib.itoa m == t.toList) = true := by rw [ByteArray.toList_eq, hm]; exact beq_self_eq_true _
          have e10 : decide (m ≥ 0) = true := by simpa using hm0
          clear hm htm
          go_wp2_with fail
          refine HI.out.mono ?_
          rintro e w6 ⟨rfl, hb6⟩
          have B6 := Lib.hid (B5.out.trans (hb6.mono B5.out.size))
          clear hb6
          go_wp2_with fail
          refine (HS.out _).mono ?_
          rintro e w7 ⟨rfl, hb7⟩
          have B7 := Lib.hid (B6.out.trans (hb7.mono B6.out.size))
          clear hb7
          go_wp2_with fail
          refine (implFormat_any m w7 (by omega) (by omega) (HL.out.below B7.out).1).mono ?_
          rintro e w8 ⟨rfl, hb8⟩
          have B8 := Lib.hid (B7.out.trans (hb8.mono B7.out.size))
          clear hb8
          go_wp2_with fail
          go_ret
          exact ⟨rfl, B8.out⟩
        · have hno : ∀ m : Int, 0 ≤ m → m ≤ 999999 → t.data.toList ≠ Lib.itoa m := fun m a b e => hq ⟨m, a, b, e⟩
          have HI := Lib.hid (parseNumber_no t w5 (by omega) (HL.out.below B5.out) hno)
          have HS := Lib.hid (fun w => specParseNumber_no t w htm hno)
          clear hq hno htm
          go_wp2_with fail
          refine HI.out.mono ?_
          rintro e w6 ⟨rfl, hb6⟩
          have B6 := Lib.hid (B5.out.trans (hb6.mono B5.out.size))
          clear hb6
          go_wp2_with fail
          refine (HS.out _).mono ?_
          rintro e w7 ⟨rfl, hb7⟩
          have B7 := Lib.hid (B6.out.trans (hb7.mono B6.out.size))
          clear hb7
          go_wp2_with fail
          go_ret
          exact ⟨rfl, B7.out⟩
      · have e2 : decide (z < 0) = false := by simpa using hneg
        clear hlo
        go_wp2_with fail
        refine (specFormat_any z w3 hz0 hz1).mono ?_
        rintro e w4 ⟨rfl, hb4⟩
        have B4 := Lib.hid (B3.out.trans (hb4.mono B3.out.size))
        clear hb4
        go_wp2_with fail
        refine (drawParseNumber_any A n c _ ((HB.out.below B4.out).wide B4.out.size) hn).mono ?_
        rintro e w5 ⟨t, rfl, ht, hb5⟩
        have B5 := Lib.hid (B4.out.trans (hb5.mono B4.out.size))
        clear hb5
        have htm : t.size ≤ maxLen := by unfold maxLen; omega
        by_cases hq : ∃ m : Int, 0 ≤ m ∧ m ≤ 999999 ∧ t.data.toList = Lib.itoa m
        · obtain ⟨m, hm0, hm1, hm⟩ := hq
          have HI := Lib.hid (parseNumber_yes t m w5 (by omega) (HL.out.below B5.out) hm hm0 hm1)
          have HS := Lib.hid (fun w => specParseNumber_yes t m w htm hm hm0 hm1)
          have e9 : (Lib.itoa m == t.toList) = true := by rw [ByteArray.toList_eq, hm]; exact beq_self_eq_true _
          have e10 : decide (m ≥ 0) = true := by simpa using hm0
          clear hm htm
          go_wp2_with fail
          refine HI.out.mono ?_
          rintro e w6 ⟨rfl, hb6⟩
          have B6 := Lib.hid (B5.out.trans (hb6.mono B5.out.size))
          clear hb6
          go_wp2_with fail
          refine (HS.out _).mono ?_
          rintro e w7 ⟨rfl, hb7⟩
          have B7 := Lib.hid (B6.out.trans (hb7.mono B6.out.size))
          clear hb7
          go_wp2_with fail
          refine (implFormat_any m w7 (by omega) (by omega) (HL.out.below B7.out).1).mono ?_
          rintro e w8 ⟨rfl, hb8⟩
          have B8 := Lib.hid (B7.out.trans (hb8.mono B7.out.size))
          clear hb8
          go_wp2_with fail
          go_ret
          exact ⟨rfl, B8.out⟩
        · have hno : ∀ m : Int, 0 ≤ m → m ≤ 999999 → t.data.toList ≠ Lib.itoa m := fun m a b e => hq ⟨m, a, b, e⟩
          have HI := Lib.hid (parseNumber_no t w5 (by omega) (HL.out.below B5.out) hno)
          have HS := Lib.hid (fun w => specParseNumber_no t w htm hno)
          clear hq hno htm
          go_wp2_with fail
          refine HI.out.mono ?_
          rintro e w6 ⟨rfl, hb6⟩
          have B6 := Lib.hid (B5.out.trans (hb6.mono B5.out.size))
          clear hb6
          go_wp2_with fail
          refine (HS.out _).mono ?_
          rintro e w7 ⟨rfl, hb7⟩
          have B7 := Lib.hid (B6.out.trans (hb7.mono B6.out.size))
          clear hb7
          go_wp2_with fail
          go_ret
          exact ⟨rfl, B7.out⟩
#print axioms lawNumbers_any
end Go.Proofs.YtbedmckgjhhkaaaDoor
