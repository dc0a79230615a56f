/-
  What the draws for FormatInt and ParseNumber answer: some int; some short string. Behind the call nothing that was there has turned.
-/
import Derived.Test.YtbedmckgjhhkaaaDoorPickInt
import Derived.Test.YtbedmckgjhhkaaaDoorCurMore
import Derived.Test.YtbedmckgjhhkaaaDoorFmt
namespace Go.Proofs.YtbedmckgjhhkaaaDoor
open Go.RowKit

theorem grown_alloc (w : World) (o : Obj) (row : Option Nat) : w.grownBy (w.alloc o) row := ⟨rfl, rfl, rfl, by simp, fun k hk _ => Below.heap_alloc w o k hk⟩
theorem grown_next {a b c : World} {row : Option Nat} (h : a.grownBy b row) (k : b.grownBy c row) : a.grownBy c row :=
  ⟨k.os.trans h.os, k.tape.trans h.tape, k.output.trans h.output, Nat.le_trans h.size k.size, fun i hi hne => (k.block i (Nat.lt_of_lt_of_le hi h.size) hne).trans (h.block i hi hne)⟩

set_option maxRecDepth 100000 in
set_option maxHeartbeats 800000 in
/-- l1Below above 256. -/
theorem l1Below_big (g B : Nat) (A : Option Addr) (n c m : Nat) (w : World) (hc : Cur w g B A n c) (hn : n ≤ 1048576) (h1 : 256 < m) (h2 : m ≤ 4294967296) :
    Calls Tryd.prog 25 #[.pointer (some ⟨g, 0, none⟩), .int .i64 m] w (BelowPost m g B A n c w) := by
  have HC := Lib.hid hc
  have HN := Lib.hid (fun w hc => l1Byte_any g B A n c w hc hn)
  clear hc
  go_enter Tryd.func25, Tryd.ntmps25
  go_wp2_with fail
  refine (HN.out _ HC.out).mono ?_
  rintro e w1 ⟨x, rfl, hx, hcur, hgr⟩
  have C1 := Lib.hid hcur
  have G1 := Lib.hid hgr
  clear hcur hgr
  go_wp2_with fail
  refine (HN.out _ C1.out).mono ?_
  rintro e w2 ⟨y, rfl, hy, hcur, hgr⟩
  have C2 := Lib.hid hcur
  have G2 := Lib.hid (grown_next G1.out hgr)
  clear hcur hgr
  go_wp2_with fail
  refine (HN.out _ C2.out).mono ?_
  rintro e w3 ⟨z, rfl, hz, hcur, hgr⟩
  have C3 := Lib.hid hcur
  have G3 := Lib.hid (grown_next G2.out hgr)
  clear hcur hgr
  go_wp2_with fail
  refine (HN.out _ C3.out).mono ?_
  rintro e w4 ⟨v, rfl, hv, hcur, hgr⟩
  have C4 := Lib.hid hcur
  have G4 := Lib.hid (grown_next G3.out hgr)
  clear hcur hgr
  go_wp2_with fail
  go_ret
  refine ⟨(x * 16777216 + y * 65536 + z * 256 + v) % m, ?_, Nat.mod_lt _ (by omega), C4.out, G4.out⟩
  refine congrArg (fun y => Ending.returned (.int .i64 y)) ?_
  simp

/-- Some int, the cursor as a cursor. -/
def WholePost (g B : Nat) (A : Option Addr) (n c : Nat) (w : World) (e : Ending) (w' : World) : Prop :=
  ∃ z : Int, e = .returned (.int .i64 z) ∧ -9223372036854775808 ≤ z ∧ z ≤ 9223372036854775807 ∧ Cur w' g B A n c ∧ w.grownBy w' (some g)

def wholes : List Int := [0, 1, -1, 9, 10, 999999, 1000000, 999999999999, 1000000000000, -999999999999, 9223372036854775807, -9223372036854775808]
theorem wholes_in (z : Int) (h : z ∈ wholes) : -9223372036854775808 ≤ z ∧ z ≤ 9223372036854775807 := by
  have : (wholes.all fun z => decide (-9223372036854775808 ≤ z) && decide (z ≤ 9223372036854775807)) = true := by decide
  simpa using List.all_eq_true.1 this z h

set_option maxRecDepth 100000 in
set_option maxHeartbeats 1600000 in
theorem l1Whole_any (g B : Nat) (A : Option Addr) (n c : Nat) (w : World) (hc : Cur w g B A n c) (hn : n ≤ 1048576) :
    Calls Tryd.prog 16 #[.pointer (some ⟨g, 0, none⟩)] w (WholePost g B A n c w) := by
  have H3 := Lib.hid (l1Below_small g B A n c 3 w hc hn (by omega) (by omega))
  clear hc
  go_enter Tryd.func16, Tryd.ntmps16
  go_wp2_with fail
  refine H3.out.mono ?_
  rintro e w1 ⟨x, rfl, hx, hcur, hgr⟩
  have C1 := Lib.hid hcur
  have G1 := Lib.hid hgr
  clear hcur hgr
  by_cases h0 : x = 0
  · have e0 : ((x : Int) == 0) = true := by simp; omega
    clear h0
    go_wp2_with fail
    have C2 := Lib.hid (C1.out.alloc (.cells (wholes.map fun p => Value.int .i64 p).toArray 3))
    refine (l1PickInt_any g B w1.heap.size A n c 12 wholes _ C2.out hn (by omega) (by omega) rfl (by have := C1.out.lt; omega) (heap_alloc_new w1 _)).mono ?_
    rintro e w2 ⟨z, hz, rfl, hcur, hgr⟩
    have HZ := Lib.hid (wholes_in z hz)
    have C3 := Lib.hid hcur
    have G3 := Lib.hid (grown_next (grown_next G1.out (grown_alloc w1 _ (some g))) hgr)
    clear hcur hgr hz
    go_wp2_with fail
    go_ret
    exact ⟨z, rfl, HZ.out.1, HZ.out.2, C3.out, G3.out⟩
  · have e0 : ((x : Int) == 0) = false := by simp; omega
    by_cases h1 : x = 1
    · have e1 : ((x : Int) == 1) = true := by simp; omega
      clear h0 h1
      go_wp2_with fail
      refine (l1Below_big g B A n c 1000000 w1 C1.out hn (by omega) (by omega)).mono ?_
      rintro e w2 ⟨y, rfl, hy, hcur, hgr⟩
      have C3 := Lib.hid hcur
      have G3 := Lib.hid (grown_next G1.out hgr)
      clear hcur hgr
      have hy2 : (y : Int) < 1000000 := by omega
      clear hy
      go_wp2_with fail
      go_ret
      exact ⟨(y : Int) - 500000, rfl, by omega, by omega, C3.out, G3.out⟩
    · have e1 : ((x : Int) == 1) = false := by simp; omega
      clear h0 h1
      go_wp2_with fail
      refine (l1Below_small g B A n c 20 w1 C1.out hn (by omega) (by omega)).mono ?_
      rintro e w2 ⟨y, rfl, hy, hcur, hgr⟩
      have C3 := Lib.hid hcur
      have G3 := Lib.hid (grown_next G1.out hgr)
      clear hcur hgr
      go_wp2_with fail
      go_ret
      exact ⟨(y : Int), rfl, by omega, by omega, C3.out, G3.out⟩

/-- Whether a draw below two was 0. -/
def OncePost (g B : Nat) (A : Option Addr) (n c : Nat) (w : World) (e : Ending) (w' : World) : Prop :=
  ∃ b : Bool, e = .returned (.bool b) ∧ Cur w' g B A n c ∧ w.grownBy w' (some g)
set_option maxRecDepth 100000 in
set_option maxHeartbeats 800000 in
theorem l1Once_two (g B : Nat) (A : Option Addr) (n c : Nat) (w : World) (hc : Cur w g B A n c) (hn : n ≤ 1048576) :
    Calls Tryd.prog 21 #[.pointer (some ⟨g, 0, none⟩), .int .i64 2] w (OncePost g B A n c w) := by
  have H3 := Lib.hid (l1Below_small g B A n c 2 w hc hn (by omega) (by omega))
  clear hc
  go_enter Tryd.func21, Tryd.ntmps21
  go_wp2_with fail
  refine H3.out.mono ?_
  rintro e w1 ⟨x, rfl, hx, hcur, hgr⟩
  have C1 := Lib.hid hcur
  have G1 := Lib.hid hgr
  clear hcur hgr
  go_wp2_with fail
  go_ret
  exact ⟨_, rfl, C1.out, G1.out⟩

def AnyInt (w : World) (e : Ending) (w' : World) : Prop := ∃ z : Int, e = .returned (.int .i64 z) ∧ -9223372036854775808 ≤ z ∧ z ≤ 9223372036854775807 ∧ Below w.heap.size w w'
def AnyText (w : World) (e : Ending) (w' : World) : Prop := ∃ t : ByteArray, e = .returned (.string t) ∧ t.size ≤ 21 ∧ Below w.heap.size w w'

set_option maxRecDepth 100000 in
set_option maxHeartbeats 800000 in
theorem drawFormatInt_any (A : Option Addr) (n c : Nat) (w : World) (h : BL w w.heap.size A n) (hn : n ≤ 1048576) :
    Calls Tryd.prog 8 #[.slice A n c] w (AnyInt w) := by
  have HN := Lib.hid (l1New_any A n c w h hn)
  clear h
  go_enter Tryd.func8, Tryd.ntmps8
  go_wp2_with fail
  refine HN.out.mono ?_
  rintro e w1 ⟨g, rfl, hcur, hb1⟩
  have C1 := Lib.hid hcur
  have B1 := Lib.hid hb1
  clear hcur hb1
  go_wp2_with fail
  refine (l1Whole_any g _ A n c w1 C1.out hn).mono ?_
  rintro e w2 ⟨z, rfl, hz0, hz1, hcur, hgr⟩
  have B2 := Lib.hid (B1.out.grown hgr B1.out.size (fun k hk => by cases hk; exact C1.out.1))
  clear hcur hgr
  go_wp2_with fail
  go_ret
  exact ⟨z, rfl, hz0, hz1, B2.out⟩

def numerals : List (List UInt8) := [[], [48, 48], [48, 49], [45, 49], [43, 49], [120], [57, 57, 57, 57, 57, 57], [49, 48, 48, 48, 48, 48, 48], [45, 48], [45], [32, 49], [49, 32]]
theorem numerals_size (p : List UInt8) (h : p ∈ numerals) : p.length ≤ 21 := by
  have : (numerals.all fun p => decide (p.length ≤ 21)) = true := by decide
  simpa using List.all_eq_true.1 this p h

set_option maxRecDepth 100000 in
set_option maxHeartbeats 1600000 in
theorem drawParseNumber_any (A : Option Addr) (n c : Nat) (w : World) (h : BL w w.heap.size A n) (hn : n ≤ 1048576) :
    Calls Tryd.prog 12 #[.slice A n c] w (AnyText w) := by
  have HN := Lib.hid (l1New_any A n c w h hn)
  clear h
  go_enter Tryd.func12, Tryd.ntmps12
  go_wp2_with fail
  refine HN.out.mono ?_
  rintro e w1 ⟨g, rfl, hcur, hb1⟩
  have C1 := Lib.hid hcur
  have B1 := Lib.hid hb1
  clear hcur hb1
  go_wp2_with fail
  refine (l1Once_two g _ A n c w1 C1.out hn).mono ?_
  rintro e w2 ⟨b, rfl, hcur, hgr⟩
  have C2 := Lib.hid hcur
  have B2 := Lib.hid (B1.out.grown hgr B1.out.size (fun k hk => by cases hk; exact C1.out.1))
  clear hcur hgr
  cases b with
  | true =>
    go_wp2_with fail
    refine (l1Whole_any g _ A n c w2 C2.out hn).mono ?_
    rintro e w3 ⟨z, rfl, hz0, hz1, hcur, hgr⟩
    have B3 := Lib.hid (B2.out.grown hgr B2.out.size (fun k hk => by cases hk; exact C1.out.1))
    clear hcur hgr
    have HL := Lib.hid (Lib.itoa_length_le z hz0 hz1)
    go_wp2_with fail
    refine (specFormat_any z w3 hz0 hz1).mono ?_
    rintro e w4 ⟨rfl, hb4⟩
    have B4 := Lib.hid (B3.out.trans (hb4.mono B3.out.size))
    clear hb4
    go_wp2_with fail
    go_ret
    exact ⟨_, rfl, HL.out, B4.out⟩
  | false =>
    go_wp2_with fail
    have C3 := Lib.hid (C2.out.alloc (.cells (numerals.map fun p => Value.string ⟨p.toArray⟩).toArray 9))
    refine (l1Pick_any g _ w2.heap.size A n c 12 numerals _ C3.out hn (by omega) (by omega) rfl (by have := C2.out.lt; omega) (heap_alloc_new w2 _)).mono ?_
    rintro e w3 ⟨p, hp, rfl, hcur, hgr⟩
    have HP := Lib.hid (numerals_size p hp)
    have B3 := Lib.hid ((B2.out.alloc B2.out.size _).grown hgr (by have := B2.out.size; simp; omega) (fun k hk => by cases hk; exact C1.out.1))
    clear hcur hgr hp
    go_wp2_with fail
    go_ret
    exact ⟨_, rfl, HP.out, B3.out⟩
end Go.Proofs.YtbedmckgjhhkaaaDoor
