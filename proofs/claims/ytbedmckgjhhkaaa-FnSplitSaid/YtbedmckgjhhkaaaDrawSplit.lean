/-
  What the draw for SplitByte answers: some short string and some byte; behind the call nothing that was there has turned.
-/
import Derived.Test.YtbedmckgjhhkaaaPickInt
import Derived.Test.YtbedmckgjhhkaaaCurMore
namespace Go.Proofs.Ytbedmckgjhhkaaa
open Go.RowKit

def DrawSplitPost (w : World) (e : Ending) (w' : World) : Prop :=
  ∃ (s : ByteArray) (b : UInt8), e = .returned (.tuple #[.string s, .int .u8 b.toNat]) ∧ s.size ≤ 6 ∧ Below w.heap.size w w'

def texts : List (List UInt8) := [[], [97], [97, 44, 98], [44], [97, 44, 44, 98, 44], [97, 10, 98, 10]]
theorem texts_size (p : List UInt8) (h : p ∈ texts) : p.length ≤ 6 := by
  have : (texts.all fun p => decide (p.length ≤ 6)) = true := by decide
  simpa using List.all_eq_true.1 this p h
theorem seps_byte (z : Int) (h : z ∈ ([44, 10] : List Int)) : 0 ≤ z ∧ z ≤ 255 := by
  simp at h
  omega

set_option maxRecDepth 100000 in
set_option maxHeartbeats 800000 in
theorem drawSplit_any (A : Option Addr) (n c : Nat) (w : World) (h : BL w w.heap.size A n) (hn : n ≤ 1048576) :
    Calls Try.prog 7 #[.slice A n c] w (DrawSplitPost w) := by
  have HN := Lib.hid (l1New_any A n c w h hn)
  clear h
  go_enter Try.func7, Try.ntmps7
  go_wp2_with fail
  refine HN.out.mono ?_
  rintro e w1 ⟨g, rfl, hcur, hb1⟩
  have C1 := Lib.hid hcur
  have B1 := Lib.hid hb1
  clear hcur hb1
  go_wp2_with fail
  have C2 := Lib.hid (C1.out.alloc (.cells (texts.map fun p => Value.string ⟨p.toArray⟩).toArray 9))
  refine (l1Pick_any g w.heap.size w1.heap.size A n c 6 texts _ C2.out hn (by omega) (by omega) rfl (by have := C1.out.lt; omega) (heap_alloc_new w1 _)).mono ?_
  rintro e w2 ⟨p, hp, rfl, hcur, hgr⟩
  have HP := Lib.hid (texts_size p hp)
  have C3 := Lib.hid hcur
  have B2 := Lib.hid ((B1.out.alloc B1.out.size _).grown hgr (by have := B1.out.size; simp; omega) (fun k hk => by cases hk; exact C1.out.1))
  clear hcur hgr hp
  go_wp2_with fail
  have C4 := Lib.hid (C3.out.alloc (.cells (([44, 10] : List Int).map fun p => Value.int .i64 p).toArray 3))
  refine (l1PickInt_any g w.heap.size w2.heap.size A n c 2 [44, 10] _ C4.out hn (by omega) (by omega) rfl (by have := C3.out.lt; omega) (heap_alloc_new w2 _)).mono ?_
  rintro e w3 ⟨z, hz, rfl, hcur, hgr⟩
  obtain ⟨hz0, hz1⟩ := seps_byte z hz
  have B3 := Lib.hid ((B2.out.alloc B2.out.size _).grown hgr (by have := B2.out.size; simp; omega) (fun k hk => by cases hk; exact C1.out.1))
  clear hcur hgr hz
  go_wp2_with fail
  go_ret2
  refine ⟨⟨p.toArray⟩, UInt8.ofNat z.toNat, ?_, HP.out, B3.out⟩
  have e : ((UInt8.ofNat z.toNat).toNat : Int) = z := by rw [UInt8.toNat_ofNat']; omega
  rw [e]
  rfl
end Go.Proofs.Ytbedmckgjhhkaaa
