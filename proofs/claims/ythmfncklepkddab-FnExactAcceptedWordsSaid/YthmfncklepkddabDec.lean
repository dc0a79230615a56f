/-
  The decimal digits of a number, one by one, from the last; a string of one byte made by way of a slice.
-/
import Derived.Test.YthmfncklepkddabRows
import Derived.WalkKit
import Derived.WalkSpells
import Derived.WalkLawsBesides
import Derived.Laws.IdiomStrings
import Derived.Lib.ItoaNum
import Derived.Lib.ItoaLen
import Derived.Lib.ItoaMem
import Derived.Lib.Hide
namespace Go.Proofs.Ythmfncklepkddab
open Go.RowKit

/-- The last decimal digit of k, as a byte. -/
def dgt (k : Nat) : UInt8 := UInt8.ofNat (48 + k % 10)
theorem dec_step (k : Nat) (L D : List UInt8) (hk : 0 < k) (h : Lib.decDigits k ++ L = D) :
    (k / 10 = 0 → dgt k :: L = D) ∧ (k / 10 ≠ 0 → Lib.decDigits (k / 10) ++ dgt k :: L = D) := by
  rw [Lib.decDigits] at h
  constructor
  · intro h0
    rw [dif_pos (by omega)] at h
    unfold dgt
    rw [show k % 10 = k by omega]
    simpa using h
  · intro h0
    rw [dif_neg (by omega)] at h
    unfold dgt
    simpa using h

def FmtRel (k0 : Nat) (k : Nat) (L : List UInt8) : Prop := (k = 0 → L = Lib.decDigits k0) ∧ (k ≠ 0 → Lib.decDigits k ++ L = Lib.decDigits k0)
theorem FmtRel.start {k : Nat} (h : 0 < k) : FmtRel k k [] := ⟨fun e => by omega, fun _ => by simp⟩
theorem FmtRel.step {k0 k : Nat} {L : List UInt8} (h : FmtRel k0 k L) (hk : 0 < k) : FmtRel k0 (k / 10) (dgt k :: L) :=
  dec_step k L _ hk (h.2 (by omega))

theorem FmtRel.len {n k : Nat} {L : List UInt8} (h : FmtRel n k L) (h1 : n ≤ 9223372036854775807) : L.length ≤ 21 := by
  have hn := Lib.itoa_length_le (n : Int) (by omega) (by omega)
  rw [Lib.itoa_nonneg] at hn
  by_cases hk : k = 0
  · rw [h.1 hk]; exact hn
  · have := congrArg List.length (h.2 hk)
    simp at this
    omega
theorem str_cons (b : UInt8) (L : List UInt8) : (⟨#[b]⟩ : ByteArray) ++ ⟨L.toArray⟩ = ⟨(b :: L).toArray⟩ := by
  rw [ByteArray.mk_append_mk]; simp

/-- string([]byte{b}) -/
theorem conv_one (w : World) (z : Int) (b : UInt8) (hz : z = (b.toNat : Int)) :
    (convert 56 9 (.slice (some ⟨w.heap.size, 0, none⟩) 1 1)).run Try.prog (w.alloc (.cells #[.int .u8 z] 5)) = .ok (.string ⟨#[b]⟩) (w.alloc (.cells #[.int .u8 z] 5)) := by
  subst hz
  exact run_convert_bytes_back (P := Try.prog) (w.alloc (.cells #[.int .u8 (b.toNat : Int)] 5)) 56 9 5 ⟨w.heap.size, 0, none⟩ 1 [b] Try.underlying56 Try.underlying5 Try.underlying9 (by
    intro j hj
    have : j = 0 := by simp at hj; omega
    subst this
    simp [Addr.add])

theorem digit_cell (k : Nat) : (48 + (k : Int) % 10) = ((dgt k).toNat : Int) := by
  unfold dgt
  rw [UInt8.toNat_ofNat']
  omega

end Go.Proofs.Ythmfncklepkddab
