/-
  What the draws of stage 8's laws answer: short texts, values of short texts, a name; of what was there nothing has turned.
-/
import Derived.Test.YtiijlpmdnokjfaaDrawT
import Derived.Deep.RegionWith
namespace Go.Proofs.Ytiijlpmdnokjfaa
open Go.RowKit

def ApplyPost (w : World) (e : Ending) (w' : World) : Prop := ∃ (p : List UInt8) (x y z : ByteArray), e = .returned (.tuple #[.string ⟨p.toArray⟩, .agg #[.string x, .string y, .string z]]) ∧ p.length ≤ 13 ∧ x.size ≤ 31 ∧ y.size ≤ 31 ∧ z.size ≤ 31 ∧ Below w.heap.size w w'
def ValueOfPost (w : World) (e : Ending) (w' : World) : Prop := ∃ (b : UInt8) (x y z : ByteArray), e = .returned (.tuple #[.agg #[.string x, .string y, .string z], .int .u8 b.toNat]) ∧ (b = 88 ∨ b = 89 ∨ b = 90 ∨ b = 97) ∧ x.size ≤ 31 ∧ y.size ≤ 31 ∧ z.size ≤ 31 ∧ Below w.heap.size w w'
def FormatPost (w : World) (e : Ending) (w' : World) : Prop := ∃ (p : List UInt8) (x y z : ByteArray), e = .returned (.tuple #[.agg #[.string x, .string y, .string z], .string ⟨p.toArray⟩]) ∧ p.length ≤ 13 ∧ x.size ≤ 31 ∧ y.size ≤ 31 ∧ z.size ≤ 31 ∧ Below w.heap.size w w'
def WithPost (w : World) (e : Ending) (w' : World) : Prop := ∃ (b : UInt8) (p : List UInt8) (x y z : ByteArray), e = .returned (.tuple #[.agg #[.string x, .string y, .string z], .int .u8 b.toNat, .string ⟨p.toArray⟩]) ∧ (b = 88 ∨ b = 89 ∨ b = 90 ∨ b = 97) ∧ p.length ≤ 4 ∧ x.size ≤ 31 ∧ y.size ≤ 31 ∧ z.size ≤ 31 ∧ Below w.heap.size w w'

theorem name_cases (q : Nat) (h : q < (ByteArray.mk #[88, 89, 90, 97]).size) : (ByteArray.mk #[88, 89, 90, 97])[q] = 88 ∨ (ByteArray.mk #[88, 89, 90, 97])[q] = 89 ∨ (ByteArray.mk #[88, 89, 90, 97])[q] = 90 ∨ (ByteArray.mk #[88, 89, 90, 97])[q] = 97 := by
  have h4 : q < 4 := h
  rcases (by omega : q = 0 ∨ q = 1 ∨ q = 2 ∨ q = 3) with rfl | rfl | rfl | rfl
  · exact Or.inl rfl
  · exact Or.inr (Or.inl rfl)
  · exact Or.inr (Or.inr (Or.inl rfl))
  · exact Or.inr (Or.inr (Or.inr rfl))
theorem row3_facts {V : World} {R : Nat} {a b c : Value} {T : TypeId} (h : V.heap[R]? = some (.cells #[a, b, c] T (0, 0))) :
    (V.cell? ⟨R, 0, none⟩ = some a ∧ V.cell? ⟨R, 1, none⟩ = some b ∧ V.cell? ⟨R, 2, none⟩ = some c) ∧ V.frozen? ⟨R, 0, none⟩ = false ∧ V.frozen? ⟨R, 1, none⟩ = false ∧ V.frozen? ⟨R, 2, none⟩ = false :=
  ⟨⟨cell_of_row V R 0 _ _ (0, 0) h, cell_of_row V R 1 _ _ (0, 0) h, cell_of_row V R 2 _ _ (0, 0) h⟩, frozen_of_row V R 0 _ _ h, frozen_of_row V R 1 _ _ h, frozen_of_row V R 2 _ _ h⟩
theorem below_put3s {w V : World} {R : Nat} (h : Below w.heap.size w V) (hR : w.heap.size ≤ R) (u0 u1 u2 : Value) : Below w.heap.size w (put3s V R u0 u1 u2) :=
  ((h.setCell (p := ⟨R, 0, none⟩) hR u0).setCell (p := ⟨R, 1, none⟩) hR u1).setCell (p := ⟨R, 2, none⟩) hR u2

set_option maxRecDepth 100000 in
set_option maxHeartbeats 1600000 in
theorem drawApplyValues_any (A : Option Addr) (n c : Nat) (w : World) (h : BL w w.heap.size A n) (hn : n ≤ 1048576) :
    Calls Try.prog 15 #[.slice A n c] w (ApplyPost w) := by
  obtain ⟨W, hW⟩ : ∃ W, W = w.alloc (.cells #[.string ⟨#[]⟩, .string ⟨#[]⟩, .string ⟨#[]⟩] 25) := ⟨_, rfl⟩
  have hz : W.heap.size = w.heap.size + 1 := by rw [hW]; simp
  have B0 : Hid (Below w.heap.size w W) := Lib.hid (by rw [hW]; exact (Below.refl _ _).alloc (Nat.le_refl _) _)
  have K0 : Hid (W.heap[w.heap.size]? = some (.cells #[.string ⟨#[]⟩, .string ⟨#[]⟩, .string ⟨#[]⟩] 25)) := Lib.hid (by rw [hW]; exact heap_alloc_new w _)
  have HBL : Hid (BL W W.heap.size A n) := Lib.hid ((h.below B0.out).more (by omega))
  clear h
  go_enter Try.func15, Try.ntmps15
  go_wp2_with fail
  rw [← hW]
  clear hW
  refine (l1New_any A n c W HBL.out hn).mono ?_
  rintro e w1 ⟨g, rfl, hcur, hb⟩
  have hg : w.heap.size < g := by have := hcur.1; omega
  have C1 := Lib.hid hcur
  have B1 := Lib.hid (B0.out.trans (hb.mono (by omega)))
  have K1 := Lib.hid ((hb.block w.heap.size (by omega)).trans K0.out)
  have hne : (some w.heap.size : Option Nat) ≠ some g := fun e => by cases e; omega
  have KK := Lib.hid (fun (V V' : World) (h : V.grownBy V' (some g)) (hz : w.heap.size < V.heap.size) (k : V.heap[w.heap.size]? = some (.cells #[.string ⟨#[]⟩, .string ⟨#[]⟩, .string ⟨#[]⟩] 25)) => (h.block w.heap.size hz hne).trans k)
  have BB := Lib.hid (fun (V V' : World) (h : V.grownBy V' (some g)) (k : Below w.heap.size w V) => below_of_grown k h (Nat.le_of_lt hg))
  have Z1 := Lib.hid (show w.heap.size < w1.heap.size by have := hb.size; omega)
  clear hcur hb hne
  go_wp2_with fail
  refine (l8Any_any g _ A n c w1 C1.out hn).mono ?_
  rintro e w2 ⟨p, rfl, hp, hcur, hgr⟩
  have C2 := Lib.hid hcur
  have B2 := Lib.hid (BB.out _ _ hgr B1.out)
  have K2 := Lib.hid (KK.out _ _ hgr Z1.out K1.out)
  have Z2 := Lib.hid (Nat.lt_of_lt_of_le Z1.out hgr.size)
  clear hcur hgr
  go_wp2_with fail
  refine (l8Values_any g _ A n c w2 C2.out hn).mono ?_
  rintro e w3 ⟨x, y, z, rfl, hx, hy, hz', hcur, hgr⟩
  have C3 := Lib.hid hcur
  have B3 := Lib.hid (BB.out _ _ hgr B2.out)
  have K3 := Lib.hid (KK.out _ _ hgr Z2.out K2.out)
  have Z3 := Lib.hid (Nat.lt_of_lt_of_le Z2.out hgr.size)
  clear hcur hgr
  obtain ⟨⟨c0, c1, c2⟩, f0, f1, f2⟩ := row3_facts K3.out
  go_wp2_with fail
  have P := put3s_cells K3.out (.string x) (.string y) (.string z)
  have Q := below_put3s B3.out (Nat.le_refl _) (.string x) (.string y) (.string z)
  unfold put3s at P Q
  refine bodyPost_ret (v := .tuple #[.string ⟨p.toArray⟩, .agg #[.string x, .string y, .string z]]) (by simp [results, Try.results15, go_sem, P]) rfl ⟨p, x, y, z, rfl, hp, hx, hy, hz', Q⟩

set_option maxRecDepth 100000 in
set_option maxHeartbeats 1600000 in
theorem drawFormatValues_any (A : Option Addr) (n c : Nat) (w : World) (h : BL w w.heap.size A n) (hn : n ≤ 1048576) :
    Calls Try.prog 28 #[.slice A n c] w (FormatPost w) := by
  obtain ⟨W, hW⟩ : ∃ W, W = w.alloc (.cells #[.string ⟨#[]⟩, .string ⟨#[]⟩, .string ⟨#[]⟩] 25) := ⟨_, rfl⟩
  have hz : W.heap.size = w.heap.size + 1 := by rw [hW]; simp
  have B0 : Hid (Below w.heap.size w W) := Lib.hid (by rw [hW]; exact (Below.refl _ _).alloc (Nat.le_refl _) _)
  have K0 : Hid (W.heap[w.heap.size]? = some (.cells #[.string ⟨#[]⟩, .string ⟨#[]⟩, .string ⟨#[]⟩] 25)) := Lib.hid (by rw [hW]; exact heap_alloc_new w _)
  have HBL : Hid (BL W W.heap.size A n) := Lib.hid ((h.below B0.out).more (by omega))
  clear h
  go_enter Try.func28, Try.ntmps28
  go_wp2_with fail
  rw [← hW]
  clear hW
  refine (l1New_any A n c W HBL.out hn).mono ?_
  rintro e w1 ⟨g, rfl, hcur, hb⟩
  have hg : w.heap.size < g := by have := hcur.1; omega
  have C1 := Lib.hid hcur
  have B1 := Lib.hid (B0.out.trans (hb.mono (by omega)))
  have K1 := Lib.hid ((hb.block w.heap.size (by omega)).trans K0.out)
  have hne : (some w.heap.size : Option Nat) ≠ some g := fun e => by cases e; omega
  have KK := Lib.hid (fun (V V' : World) (h : V.grownBy V' (some g)) (hz : w.heap.size < V.heap.size) (k : V.heap[w.heap.size]? = some (.cells #[.string ⟨#[]⟩, .string ⟨#[]⟩, .string ⟨#[]⟩] 25)) => (h.block w.heap.size hz hne).trans k)
  have BB := Lib.hid (fun (V V' : World) (h : V.grownBy V' (some g)) (k : Below w.heap.size w V) => below_of_grown k h (Nat.le_of_lt hg))
  have Z1 := Lib.hid (show w.heap.size < w1.heap.size by have := hb.size; omega)
  clear hcur hb hne
  go_wp2_with fail
  refine (l8Values_any g _ A n c w1 C1.out hn).mono ?_
  rintro e w2 ⟨x, y, z, rfl, hx, hy, hz', hcur, hgr⟩
  have C2 := Lib.hid hcur
  have B2 := Lib.hid (BB.out _ _ hgr B1.out)
  have K2 := Lib.hid (KK.out _ _ hgr Z1.out K1.out)
  have Z2 := Lib.hid (Nat.lt_of_lt_of_le Z1.out hgr.size)
  clear hcur hgr
  obtain ⟨V, hV⟩ : ∃ V, V = w2.alloc (.cells #[.string x, .string y, .string z] 25) := ⟨_, rfl⟩
  have C3 : Hid (Cur V g W.heap.size A n c) := Lib.hid (by rw [hV]; exact C2.out.alloc _)
  have B3 : Hid (Below w.heap.size w V) := Lib.hid (by rw [hV]; exact B2.out.alloc (Nat.le_of_lt Z2.out) _)
  have K3 : Hid (V.heap[w.heap.size]? = some (.cells #[.string ⟨#[]⟩, .string ⟨#[]⟩, .string ⟨#[]⟩] 25)) := Lib.hid (by rw [hV]; exact (Below.heap_alloc _ _ _ Z2.out).trans K2.out)
  have R3 : Hid (V.heap[w2.heap.size]? = some (.cells #[.string x, .string y, .string z] 25)) := Lib.hid (by rw [hV]; exact heap_alloc_new w2 _)
  have Z3 : Hid (w.heap.size < V.heap.size) := Lib.hid (by rw [hV]; have := Z2.out; simp; omega)
  have hgr2 : g < w2.heap.size := C2.out.lt
  have ZR : Hid (w2.heap.size < V.heap.size) := Lib.hid (by rw [hV]; simp)
  have hne2 : (some w2.heap.size : Option Nat) ≠ some g := fun e => by cases e; omega
  have RR := Lib.hid (fun (V' : World) (h : V.grownBy V' (some g)) => (h.block w2.heap.size ZR.out hne2).trans R3.out)
  obtain ⟨⟨r0, r1, r2⟩, -⟩ := row3_facts R3.out
  have rd0 : V.drew.cell? ⟨w2.heap.size, 0, none⟩ = some (.string x) := r0
  have rd1 : V.drew.cell? ⟨w2.heap.size, 1, none⟩ = some (.string y) := r1
  have rd2 : V.drew.cell? ⟨w2.heap.size, 2, none⟩ = some (.string z) := r2
  have CALL := Lib.hid (l8Any_any g _ A n c V.drew C3.out hn)
  clear hne2
  go_wp2_with fail
  rw [← hV]
  clear hV
  go_region_with (go_at_call 45; refine CALL.out.mono ?_; rintro e w4 ⟨p, rfl, hp, hcur, hgr⟩; have hgr : V.grownBy w4 (some g) := ⟨hgr.os, hgr.tape, hgr.output, hgr.size, hgr.block⟩; have B4 := Lib.hid (BB.out _ _ hgr B3.out); have K4 := Lib.hid (KK.out _ _ hgr Z3.out K3.out); obtain ⟨⟨s0, s1, s2⟩, -⟩ := row3_facts (RR.out _ hgr); obtain ⟨⟨c0, c1, c2⟩, f0, f1, f2⟩ := row3_facts K4.out; have P := Lib.hid (put3s_cells K4.out (.string x) (.string y) (.string z)); have Q := Lib.hid (below_put3s B4.out (Nat.le_refl _) (.string x) (.string y) (.string z)); clear hcur hgr)
  all_goals
    have P := P.out
    have Q := Q.out
    unfold put3s at P Q
    go_wp2_with fail
    refine bodyPost_ret (v := .tuple #[.agg #[.string x, .string y, .string z], .string ⟨p.toArray⟩]) (by simp [results, Try.results28, go_sem, P]) rfl ⟨p, x, y, z, rfl, hp, hx, hy, hz', Q⟩

set_option maxRecDepth 100000 in
set_option maxHeartbeats 1600000 in
theorem drawValueOf_any (A : Option Addr) (n c : Nat) (w : World) (h : BL w w.heap.size A n) (hn : n ≤ 1048576) :
    Calls Try.prog 56 #[.slice A n c] w (ValueOfPost w) := by
  obtain ⟨W, hW⟩ : ∃ W, W = w.alloc (.cells #[.string ⟨#[]⟩, .string ⟨#[]⟩, .string ⟨#[]⟩] 25) := ⟨_, rfl⟩
  have hz : W.heap.size = w.heap.size + 1 := by rw [hW]; simp
  have B0 : Hid (Below w.heap.size w W) := Lib.hid (by rw [hW]; exact (Below.refl _ _).alloc (Nat.le_refl _) _)
  have K0 : Hid (W.heap[w.heap.size]? = some (.cells #[.string ⟨#[]⟩, .string ⟨#[]⟩, .string ⟨#[]⟩] 25)) := Lib.hid (by rw [hW]; exact heap_alloc_new w _)
  have HBL : Hid (BL W W.heap.size A n) := Lib.hid ((h.below B0.out).more (by omega))
  clear h
  go_enter Try.func56, Try.ntmps56
  go_wp2_with fail
  rw [← hW]
  clear hW
  refine (l1New_any A n c W HBL.out hn).mono ?_
  rintro e w1 ⟨g, rfl, hcur, hb⟩
  have hg : w.heap.size < g := by have := hcur.1; omega
  have C1 := Lib.hid hcur
  have B1 := Lib.hid (B0.out.trans (hb.mono (by omega)))
  have K1 := Lib.hid ((hb.block w.heap.size (by omega)).trans K0.out)
  have hne : (some w.heap.size : Option Nat) ≠ some g := fun e => by cases e; omega
  have KK := Lib.hid (fun (V V' : World) (h : V.grownBy V' (some g)) (hz : w.heap.size < V.heap.size) (k : V.heap[w.heap.size]? = some (.cells #[.string ⟨#[]⟩, .string ⟨#[]⟩, .string ⟨#[]⟩] 25)) => (h.block w.heap.size hz hne).trans k)
  have BB := Lib.hid (fun (V V' : World) (h : V.grownBy V' (some g)) (k : Below w.heap.size w V) => below_of_grown k h (Nat.le_of_lt hg))
  have Z1 := Lib.hid (show w.heap.size < w1.heap.size by have := hb.size; omega)
  clear hcur hb hne
  go_wp2_with fail
  refine (l8Values_any g _ A n c w1 C1.out hn).mono ?_
  rintro e w2 ⟨x, y, z, rfl, hx, hy, hz', hcur, hgr⟩
  have C2 := Lib.hid hcur
  have B2 := Lib.hid (BB.out _ _ hgr B1.out)
  have K2 := Lib.hid (KK.out _ _ hgr Z1.out K1.out)
  have Z2 := Lib.hid (Nat.lt_of_lt_of_le Z1.out hgr.size)
  clear hcur hgr
  obtain ⟨V, hV⟩ : ∃ V, V = w2.alloc (.cells #[.string x, .string y, .string z] 25) := ⟨_, rfl⟩
  have C3 : Hid (Cur V g W.heap.size A n c) := Lib.hid (by rw [hV]; exact C2.out.alloc _)
  have B3 : Hid (Below w.heap.size w V) := Lib.hid (by rw [hV]; exact B2.out.alloc (Nat.le_of_lt Z2.out) _)
  have K3 : Hid (V.heap[w.heap.size]? = some (.cells #[.string ⟨#[]⟩, .string ⟨#[]⟩, .string ⟨#[]⟩] 25)) := Lib.hid (by rw [hV]; exact (Below.heap_alloc _ _ _ Z2.out).trans K2.out)
  have R3 : Hid (V.heap[w2.heap.size]? = some (.cells #[.string x, .string y, .string z] 25)) := Lib.hid (by rw [hV]; exact heap_alloc_new w2 _)
  have Z3 : Hid (w.heap.size < V.heap.size) := Lib.hid (by rw [hV]; have := Z2.out; simp; omega)
  have hgr2 : g < w2.heap.size := C2.out.lt
  have ZR : Hid (w2.heap.size < V.heap.size) := Lib.hid (by rw [hV]; simp)
  have hne2 : (some w2.heap.size : Option Nat) ≠ some g := fun e => by cases e; omega
  have RR := Lib.hid (fun (V' : World) (h : V.grownBy V' (some g)) => (h.block w2.heap.size ZR.out hne2).trans R3.out)
  obtain ⟨⟨r0, r1, r2⟩, -⟩ := row3_facts R3.out
  have rd0 : V.drew.cell? ⟨w2.heap.size, 0, none⟩ = some (.string x) := r0
  have rd1 : V.drew.cell? ⟨w2.heap.size, 1, none⟩ = some (.string y) := r1
  have rd2 : V.drew.cell? ⟨w2.heap.size, 2, none⟩ = some (.string z) := r2
  have CALL := Lib.hid (l1Below_small g _ A n c 4 V.drew C3.out hn (by omega) (by omega))
  clear hne2
  go_wp2_with fail
  rw [← hV]
  clear hV
  go_region_with (go_at_call 83; refine CALL.out.mono ?_; rintro e w4 ⟨q, rfl, hq, hcur, hgr⟩; have hgr : V.grownBy w4 (some g) := ⟨hgr.os, hgr.tape, hgr.output, hgr.size, hgr.block⟩; have B4 := Lib.hid (BB.out _ _ hgr B3.out); have K4 := Lib.hid (KK.out _ _ hgr Z3.out K3.out); obtain ⟨⟨s0, s1, s2⟩, -⟩ := row3_facts (RR.out _ hgr); obtain ⟨⟨c0, c1, c2⟩, f0, f1, f2⟩ := row3_facts K4.out; have P := Lib.hid (put3s_cells K4.out (.string x) (.string y) (.string z)); have Q := Lib.hid (below_put3s B4.out (Nat.le_refl _) (.string x) (.string y) (.string z)); clear hcur hgr)
  all_goals
    have P := P.out
    have Q := Q.out
    unfold put3s at P Q
    go_wp2_with fail
    have hqq : q < (ByteArray.mk #[88, 89, 90, 97]).size := hq
    refine bodyPost_ret (v := .tuple #[.agg #[.string x, .string y, .string z], .int .u8 ((ByteArray.mk #[88, 89, 90, 97])[q]'hqq).toNat]) (by simp [results, Try.results56, go_sem, P]) rfl ⟨_, x, y, z, rfl, name_cases q hqq, hx, hy, hz', Q⟩

set_option maxRecDepth 100000 in
set_option maxHeartbeats 1600000 in
theorem drawWithValue_any (A : Option Addr) (n c : Nat) (w : World) (h : BL w w.heap.size A n) (hn : n ≤ 1048576) :
    Calls Try.prog 26 #[.slice A n c] w (WithPost w) := by
  obtain ⟨W, hW⟩ : ∃ W, W = w.alloc (.cells #[.string ⟨#[]⟩, .string ⟨#[]⟩, .string ⟨#[]⟩] 25) := ⟨_, rfl⟩
  have hz : W.heap.size = w.heap.size + 1 := by rw [hW]; simp
  have B0 : Hid (Below w.heap.size w W) := Lib.hid (by rw [hW]; exact (Below.refl _ _).alloc (Nat.le_refl _) _)
  have K0 : Hid (W.heap[w.heap.size]? = some (.cells #[.string ⟨#[]⟩, .string ⟨#[]⟩, .string ⟨#[]⟩] 25)) := Lib.hid (by rw [hW]; exact heap_alloc_new w _)
  have HBL := Lib.hid (fun (V : World) (hV : Below w.heap.size w V) => (h.below hV).more hV.size)
  clear h
  go_enter Try.func26, Try.ntmps26
  go_wp2_with fail
  rw [← hW]
  clear hW
  refine (drawValueOf_any A n c W ((HBL.out W B0.out)) hn).mono ?_
  rintro e w1 ⟨b, x, y, z, rfl, hbc, hx, hy, hz', hb⟩
  have B1 := Lib.hid (B0.out.trans (hb.mono (by omega)))
  have K1 := Lib.hid ((hb.block w.heap.size (by omega)).trans K0.out)
  have Z1 := Lib.hid (show w.heap.size < w1.heap.size by have := hb.size; omega)
  clear hb
  obtain ⟨V, hV⟩ : ∃ V, V = w1.alloc (.cells #[.string x, .string y, .string z] 25) := ⟨_, rfl⟩
  have B3 : Hid (Below w.heap.size w V) := Lib.hid (by rw [hV]; exact B1.out.alloc (Nat.le_of_lt Z1.out) _)
  have K3 : Hid (V.heap[w.heap.size]? = some (.cells #[.string ⟨#[]⟩, .string ⟨#[]⟩, .string ⟨#[]⟩] 25)) := Lib.hid (by rw [hV]; exact (Below.heap_alloc _ _ _ Z1.out).trans K1.out)
  have R3 : Hid (V.heap[w1.heap.size]? = some (.cells #[.string x, .string y, .string z] 25)) := Lib.hid (by rw [hV]; exact heap_alloc_new w1 _)
  have Z3 : Hid (w.heap.size < V.heap.size) := Lib.hid (by rw [hV]; have := Z1.out; simp; omega)
  have ZR : Hid (w1.heap.size < V.heap.size) := Lib.hid (by rw [hV]; simp)
  obtain ⟨⟨r0, r1, r2⟩, -⟩ := row3_facts R3.out
  have rd0 : V.drew.cell? ⟨w1.heap.size, 0, none⟩ = some (.string x) := r0
  have rd1 : V.drew.cell? ⟨w1.heap.size, 1, none⟩ = some (.string y) := r1
  have rd2 : V.drew.cell? ⟨w1.heap.size, 2, none⟩ = some (.string z) := r2
  have CALL := Lib.hid (l1New_any A n c V.drew (HBL.out V.drew B3.out.drew) hn)
  go_wp2_with fail
  rw [← hV]
  clear hV
  go_region_with (first
    | (go_at_call 44; refine CALL.out.mono ?_; rintro e w3 ⟨g, rfl, hcur, hb⟩; have hb : Below V.heap.size V w3 := ⟨hb.os, hb.tape, hb.output, hb.size, hb.block⟩; have hgV : V.heap.size ≤ g := hcur.1; have B4 := Lib.hid (B3.out.trans (hb.mono (Nat.le_of_lt Z3.out))); have K4 := Lib.hid ((hb.block w.heap.size Z3.out).trans K3.out); have R4 := Lib.hid ((hb.block w1.heap.size ZR.out).trans R3.out); have S4 := Lib.hid hb.size; have CALL2 := Lib.hid (l2Word_at 4 (by omega) g _ A n c w3 hcur hn); obtain ⟨⟨s0, s1, s2⟩, -⟩ := row3_facts R4.out; clear hcur hb)
    | (go_at_call 57; refine CALL2.out.mono ?_; rintro e w4 ⟨p, rfl, hp, hcur, hgr⟩; have B5 := Lib.hid (below_of_grown B4.out hgr (by have := Z3.out; omega)); have K5 := Lib.hid ((hgr.block w.heap.size (by have := Z3.out; have := S4.out; omega) (fun e => by cases e; have := Z3.out; omega)).trans K4.out); have R5 := Lib.hid ((hgr.block w1.heap.size (by have := ZR.out; have := S4.out; omega) (fun e => by cases e; have := ZR.out; omega)).trans R4.out); obtain ⟨⟨t0, t1, t2⟩, -⟩ := row3_facts R5.out; obtain ⟨⟨c0, c1, c2⟩, f0, f1, f2⟩ := row3_facts K5.out; have P := Lib.hid (put3s_cells K5.out (.string x) (.string y) (.string z)); have Q := Lib.hid (below_put3s B5.out (Nat.le_refl _) (.string x) (.string y) (.string z)); clear hcur hgr))
  all_goals
    have P := P.out
    have Q := Q.out
    unfold put3s at P Q
    go_wp2_with fail
    refine bodyPost_ret (v := .tuple #[.agg #[.string x, .string y, .string z], .int .u8 b.toNat, .string ⟨p.toArray⟩]) (by simp [results, Try.results26, go_sem, P]) rfl ⟨b, p, x, y, z, rfl, hbc, hp, hx, hy, hz', Q⟩

end Go.Proofs.Ytiijlpmdnokjfaa
