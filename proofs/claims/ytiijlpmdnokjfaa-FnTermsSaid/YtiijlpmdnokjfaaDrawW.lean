/-
  What the model's draws of a word answer: a short string; the cursor stays a cursor, and of what was there nothing else has turned.
-/
import Derived.Test.YtiijlpmdnokjfaaPick
import Derived.Test.YtiijlpmdnokjfaaCurMore
namespace Go.Proofs.Ytiijlpmdnokjfaa
open Go.RowKit

/-- A short string; the cursor as a cursor. -/
def ShortPost (m g B : Nat) (A : Option Addr) (n c : Nat) (w : World) (e : Ending) (w' : World) : Prop :=
  ∃ p : List UInt8, e = .returned (.string ⟨p.toArray⟩) ∧ p.length ≤ m ∧ Cur w' g B A n c ∧ w.grownBy w' (some g)

def fives : List (List UInt8) := [[97], [98], [97], [98], [99]]
theorem fives_size (p : List UInt8) (h : p ∈ fives) : p.length ≤ 1 := by
  have : (fives.all fun p => decide (p.length ≤ 1)) = true := by decide
  simpa using List.all_eq_true.1 this p h
def tens (x : List UInt8) : List (List UInt8) := [[], [97], [97, 98, 99], [99, 99], [97, 98, 100], [65], List.replicate 30 99, List.replicate 31 97, [97, 99, 99], x]
theorem tens_size (x p : List UInt8) (hx : x.length ≤ 6) (h : p ∈ tens x) : p.length ≤ 31 := by
  simp only [tens, List.mem_cons, List.not_mem_nil, or_false] at h
  rcases h with rfl | rfl | rfl | rfl | rfl | rfl | rfl | rfl | rfl | rfl <;> first | (simp; done) | (simp; omega) | omega

theorem str_app (p q : List UInt8) : (⟨p.toArray⟩ : ByteArray) ++ ⟨q.toArray⟩ = ⟨(p ++ q).toArray⟩ := by rw [ByteArray.mk_append_mk]

set_option maxRecDepth 100000 in
set_option maxHeartbeats 1600000 in
theorem l2Word_at (m : Nat) (hm : m ≤ 100) (g B : Nat) (A : Option Addr) (n c : Nat) (w : World) (hc : Cur w g B A n c) (hn : n ≤ 1048576) :
    Calls Try.prog 57 #[.pointer (some ⟨g, 0, none⟩), .int .i64 (m : Int)] w (ShortPost m g B A n c w) := by
  have HC := Lib.hid (l1Below_small g B A n c (m + 1) w hc hn (by omega) (by omega))
  have hme : ((m + 1 : Nat) : Int) = (m : Int) + 1 := by omega
  rw [hme] at HC
  clear hc hme
  go_enter Try.func57, Try.ntmps57
  go_wp2_with fail
  refine HC.out.mono ?_
  rintro e w1 ⟨x, rfl, hx, hcur, hgr⟩
  have C1 := Lib.hid hcur
  have G1 := Lib.hid hgr
  clear hcur hgr
  go_wp2_with fail
  go_loopw [5, 7] (fun s i wr => ∃ (k : Nat) (p : List UInt8), i = .int .i64 k ∧ s = .string ⟨p.toArray⟩ ∧ k ≤ x ∧ p.length ≤ k ∧ Cur wr g B A n c ∧ w.grownBy wr (some g)) (fun _ i _ => x - (intOf i).toNat)
  case atStart => exact ⟨0, [], rfl, rfl, Nat.zero_le _, Nat.le_refl _, C1.out, G1.out⟩
  case round =>
    obtain ⟨k, p, rfl, rfl, hk, hp, hcur, hgr⟩ := hrel
    have C2 := Lib.hid hcur
    have G2 := Lib.hid hgr
    clear hcur hgr
    by_cases hlt : k < x
    · go_wp2_with fail
      have C3 := Lib.hid (C2.out.alloc (.cells (fives.map fun p => Value.string ⟨p.toArray⟩).toArray 9))
      have G3 := Lib.hid (grown_made G2.out (.cells (fives.map fun p => Value.string ⟨p.toArray⟩).toArray 9))
      refine (l1Pick_any g B wr.heap.size A n c 5 fives _ C3.out hn (by omega) (by omega) rfl (by have := C2.out.lt; omega) (heap_alloc_new wr _)).mono ?_
      rintro e w3 ⟨q, hq, rfl, hcur, hgr⟩
      have hq1 := fives_size q hq
      have C4 := Lib.hid hcur
      have G4 := Lib.hid (grown_comp G3.out hgr)
      have HA := Lib.hid (str_app p q)
      clear hcur hgr hq
      go_wp2_with fail
      go_roundw
      case rel => exact ⟨k + 1, p ++ q, by go_num, congrArg Value.string HA.out, by omega, by rw [List.length_append]; omega, C4.out, G4.out⟩
      case measure => simp [intOf]; omega
    · go_wp2_with fail
      go_ret
      exact ⟨p, rfl, by omega, C2.out, G2.out⟩

theorem l2Word_any (g B : Nat) (A : Option Addr) (n c : Nat) (w : World) (hc : Cur w g B A n c) (hn : n ≤ 1048576) :
    Calls Try.prog 57 #[.pointer (some ⟨g, 0, none⟩), .int .i64 6] w (ShortPost 6 g B A n c w) := l2Word_at 6 (by omega) g B A n c w hc hn

set_option maxRecDepth 100000 in
set_option maxHeartbeats 1600000 in
theorem l2Any_any (g B : Nat) (A : Option Addr) (n c : Nat) (w : World) (hc : Cur w g B A n c) (hn : n ≤ 1048576) :
    Calls Try.prog 74 #[.pointer (some ⟨g, 0, none⟩)] w (ShortPost 31 g B A n c w) := by
  have HC := Lib.hid (l2Word_any g B A n c w hc hn)
  clear hc
  go_enter Try.func74, Try.ntmps74
  go_wp2_with fail
  refine HC.out.mono ?_
  rintro e w1 ⟨p, rfl, hp, hcur, hgr⟩
  have C1 := Lib.hid hcur
  have G1 := Lib.hid hgr
  clear hcur hgr
  go_wp2_with fail
  have C3 := Lib.hid (C1.out.alloc (.cells ((tens p).map fun p => Value.string ⟨p.toArray⟩).toArray 9))
  have G3 := Lib.hid (grown_made G1.out (.cells ((tens p).map fun p => Value.string ⟨p.toArray⟩).toArray 9))
  refine (l1Pick_any g B w1.heap.size A n c 10 (tens p) _ C3.out hn (by omega) (by omega) rfl (by have := C1.out.lt; omega) (heap_alloc_new w1 _)).mono ?_
  rintro e w3 ⟨q, hq, rfl, hcur, hgr⟩
  have hq1 := tens_size p q hp hq
  have C4 := Lib.hid hcur
  have G4 := Lib.hid (grown_comp G3.out hgr)
  clear hcur hgr hq
  go_wp2_with fail
  go_ret
  exact ⟨q, rfl, hq1, C4.out, G4.out⟩
end Go.Proofs.Ytiijlpmdnokjfaa
