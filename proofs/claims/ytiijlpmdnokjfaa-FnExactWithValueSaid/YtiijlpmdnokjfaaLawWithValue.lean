/-
  laws.FnExactWithValue answers true at every input; of what was there nothing has turned.
-/
import Derived.Test.YtiijlpmdnokjfaaValL
import Derived.Test.YtiijlpmdnokjfaaValI
namespace Go.Proofs.Ytiijlpmdnokjfaa
open Go.RowKit

/-- A block that holds three strings. -/
def Three (V : World) (g : Nat) (a b c : ByteArray) (T : TypeId) : Prop := V.heap[g]? = some (.cells #[.string a, .string b, .string c] T (0, 0))
theorem Three.cells {V : World} {g : Nat} {a b c : ByteArray} {T : TypeId} (h : Three V g a b c T) : V.cell? ⟨g, 0, none⟩ = some (.string a) ∧ V.cell? ⟨g, 1, none⟩ = some (.string b) ∧ V.cell? ⟨g, 2, none⟩ = some (.string c) :=
  ⟨cell_of_row V g 0 _ _ (0, 0) h, cell_of_row V g 1 _ _ (0, 0) h, cell_of_row V g 2 _ _ (0, 0) h⟩
theorem Three.lt {V : World} {g : Nat} {a b c : ByteArray} {T : TypeId} (h : Three V g a b c T) : g < V.heap.size := (Array.getElem?_eq_some_iff.1 h).1
theorem Three.below {V V' : World} {g : Nat} {a b c : ByteArray} {T : TypeId} (h : Three V g a b c T) (hb : Below V.heap.size V V') : Three V' g a b c T := (hb.block g h.lt).trans h
theorem Three.new (V : World) (a b c : ByteArray) (T : TypeId) : Three (V.alloc (.cells #[.string a, .string b, .string c] T)) V.heap.size a b c T := heap_alloc_new V _
theorem Three.alloc {V : World} {g : Nat} {a b c : ByteArray} {T : TypeId} (h : Three V g a b c T) (o : Obj) : Three (V.alloc o) g a b c T := h.below ((Below.refl _ _).alloc (Nat.le_refl _) o)

set_option maxRecDepth 100000 in
set_option maxHeartbeats 1600000 in
theorem lawWithValue_any (x y z : ByteArray) (b1 : UInt8) (s2 : ByteArray) (w : World) (hx : x.size ≤ maxLen) (hy : y.size ≤ maxLen) (hz : z.size ≤ maxLen) (hs2 : s2.size ≤ maxLen) :
    Calls Try.prog 10 #[.agg #[.string x, .string y, .string z], .int .u8 b1.toNat, .string s2] w fun e w' => e = .returned (.bool true) ∧ Below w.heap.size w w' := by
  have HB := Lib.hid ((Below.refl w.heap.size w).alloc (Nat.le_refl _) (.cells #[.string x, .string y, .string z] 43))
  have HT := Lib.hid (Three.new w x y z 43)
  by_cases hq2 : 1048576 < s2.size
  · unfold maxLen at hs2
    go_enter Try.func10, Try.ntmps10
    go_wp2
    go_ret
    exact ⟨rfl, HB.out⟩
  have hstep : ∀ V V' : World, Below w.heap.size w V → Below V.heap.size V V' → Below w.heap.size w V' := fun V V' h k => h.trans (k.mono h.size)
  have ST := Lib.hid hstep
  have hal : ∀ (V : World) (o : Obj), Below w.heap.size w V → Below w.heap.size w (V.alloc o) := fun V o h => h.alloc h.size o
  have AL := Lib.hid hal
  clear hstep hal
  by_cases ht : x.size + y.size + z.size ≤ 1048576
  · have HSZ := Lib.hid (fun V => szVal_yes x y z V ht)
    have HTO := Lib.hid (fun V => toVal_any x y z V)
    have HS := Lib.hid (fun V => specWith_any x y z s2 b1 V)
    have HI := Lib.hid (fun V => implWith_any x y z s2 b1 V)
    unfold withV at HS HI
    generalize (if b1 = 88 then s2 else x) = ra at HS HI
    generalize (if b1 = 89 then s2 else y) = rb at HS HI
    generalize (if b1 = 90 then s2 else z) = rc at HS HI
    have HEQ := Lib.hid (fun V => eqVal_same ra rb rc V)
    clear hx hy hz ht
    go_enter Try.func10, Try.ntmps10
    go_wp2_with fail
    refine (HSZ.out _).mono ?_
    rintro e w1 ⟨⟨n, rfl, hn⟩, hb⟩
    have B1 := Lib.hid (ST.out _ _ HB.out hb)
    have T1 := Lib.hid (HT.out.below hb)
    clear hb
    obtain ⟨c0, c1, c2⟩ := T1.out.cells
    go_wp2_with fail
    refine (HTO.out _).mono ?_
    rintro e w2 ⟨rfl, hb⟩
    have B2 := Lib.hid (ST.out _ _ B1.out hb)
    have T2 := Lib.hid (T1.out.below hb)
    clear hb c0 c1 c2
    go_wp2_with fail
    refine (HS.out _).mono ?_
    rintro e w3 ⟨rfl, hb⟩
    have B3 := Lib.hid (AL.out _ (.cells #[.string ra, .string rb, .string rc] 25) (ST.out _ _ B2.out hb))
    have T3 := Lib.hid ((T2.out.below hb).alloc (.cells #[.string ra, .string rb, .string rc] 25))
    have R3 := Lib.hid (Three.new w3 ra rb rc 25)
    clear hb
    obtain ⟨c0, c1, c2⟩ := T3.out.cells
    go_wp2_with fail
    refine (HTO.out _).mono ?_
    rintro e w4 ⟨rfl, hb⟩
    have B4 := Lib.hid (ST.out _ _ B3.out hb)
    have R4 := Lib.hid (R3.out.below hb)
    clear hb c0 c1 c2
    go_wp2_with fail
    refine (HI.out _).mono ?_
    rintro e w5 ⟨rfl, hb⟩
    have B5 := Lib.hid (AL.out _ (.cells #[.string ra, .string rb, .string rc] 25) (ST.out _ _ B4.out hb))
    have R5 := Lib.hid ((R4.out.below hb).alloc (.cells #[.string ra, .string rb, .string rc] 25))
    clear hb
    obtain ⟨c0, c1, c2⟩ := R5.out.cells
    go_wp2_with fail
    refine (HEQ.out _).mono ?_
    rintro e w6 ⟨rfl, hb⟩
    have B6 := Lib.hid (ST.out _ _ B5.out hb)
    clear hb c0 c1 c2
    go_wp2_with fail
    go_ret
    exact ⟨rfl, B6.out⟩
  · have HSZ := Lib.hid (fun V => szVal_no x y z V hx hy hz ht)
    clear hx hy hz
    go_enter Try.func10, Try.ntmps10
    go_wp2_with fail
    refine (HSZ.out _).mono ?_
    rintro e w1 ⟨rfl, hb⟩
    have B1 := Lib.hid (ST.out _ _ HB.out hb)
    clear hb
    go_wp2_with fail
    go_ret
    exact ⟨rfl, B1.out⟩
end Go.Proofs.Ytiijlpmdnokjfaa
