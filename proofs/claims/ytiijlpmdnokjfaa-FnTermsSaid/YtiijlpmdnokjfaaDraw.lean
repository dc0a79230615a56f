/-
  What the model's cursor over the bytes of a draw does: it lies in a block of its own; a draw turns that block alone and answers a number in range.
-/
import Derived.Test.YtiijlpmdnokjfaaRows
import Derived.WalkKit
import Derived.WalkSpells
import Derived.WalkLawsBesides
import Derived.Lib.Hide
import Derived.Deep.QuietTactic
import Derived.BigQuiet
import Derived.RegionTactic
import Derived.Laws.BitsAllLaws
namespace Go.Proofs.Ytiijlpmdnokjfaa
open Go.RowKit

/-- A slice of bytes in old memory. -/
def BL (w : World) (B : Nat) (A : Option Addr) (n : Nat) : Prop := ∀ k, k < n → ∃ ad z, A = some ad ∧ ad.block < B ∧ w.cell? (ad.add k) = some (.int .u8 z) ∧ 0 ≤ z ∧ z ≤ 255
theorem dr_block (a : Addr) (n : Nat) : (a.add n).block = a.block := by unfold Addr.add; split <;> rfl
theorem BL.below {w w' : World} {B : Nat} {A : Option Addr} {n : Nat} (h : BL w B A n) (hb : Below B w w') : BL w' B A n := fun k hk => by
  obtain ⟨ad, z, e, hlt, hc, hz⟩ := h k hk
  exact ⟨ad, z, e, hlt, (hb.cell (by rw [dr_block]; exact hlt)).trans hc, hz⟩

/-- The cursor: block g holds it; its bytes lie in old memory. -/
def Cur (w : World) (g B : Nat) (A : Option Addr) (n c : Nat) : Prop :=
  B ≤ g ∧ BL w B A n ∧ ∃ (i : Nat) (h : Int), i ≤ n ∧ w.heap[g]? = some (.cells #[.slice A n c, .int .i64 i, .int .i64 h] 88 (0, 0))

theorem i64_and255 (n : Int) : 0 ≤ bits .and .i64 n 255 ∧ bits .and .i64 n 255 ≤ 255 := by
  have h255 : (BitVec.ofInt 64 255).toNat = 2 ^ 8 - 1 := by decide
  have key : (BitVec.ofInt 64 n &&& BitVec.ofInt 64 255).toNat = (n % ((2 ^ 64 : Nat) : Int)).toNat % 2 ^ 8 := by
    rw [BitVec.toNat_and, BitVec.toNat_ofInt, h255, Nat.and_two_pow_sub_one_eq_mod]
  have e : bits .and .i64 n 255 = IntKind.i64.wrap ((BitVec.ofInt 64 n &&& BitVec.ofInt 64 255).toNat : Nat) := rfl
  rw [e, key, IntKind.wrap_i64]
  omega

def NewPost (A : Option Addr) (n c : Nat) (w : World) (e : Ending) (w' : World) : Prop :=
  ∃ g, e = .returned (.pointer (some ⟨g, 0, none⟩)) ∧ Cur w' g w.heap.size A n c ∧ Below w.heap.size w w'

set_option maxRecDepth 100000 in
set_option maxHeartbeats 800000 in
theorem l1New_any (A : Option Addr) (n c : Nat) (w : World) (h : BL w w.heap.size A n) (hn : n ≤ 1048576) :
    Calls Try.prog 44 #[.slice A n c] w (NewPost A n c w) := by
  have HB := Lib.hid h
  clear h
  go_enter Try.func44, Try.ntmps44
  go_wp2
  go_loop [3, 4] (fun hv i => ∃ (k : Nat) (h : Int), i = .int .i64 k ∧ hv = .int .i64 h ∧ k ≤ n) (fun _ i => n - (intOf i).toNat)
  case atStart => exact ⟨0, _, rfl, rfl, Nat.zero_le _⟩
  case round =>
    obtain ⟨k, h, rfl, rfl, hk⟩ := hrel
    by_cases hlt : k < n
    · cases h4 : decide ((k : Int) < 4000) with
      | true =>
        obtain ⟨ad, z, rfl, hblk, hc, hz0, hz1⟩ := HB.out k hlt
        go_wp2
        go_round
        case rel => exact ⟨k + 1, _, by go_num, rfl, by omega⟩
        case measure => simp [intOf]; omega
      | false =>
        go_wp2
        go_ret
        exact ⟨w.heap.size, rfl, ⟨Nat.le_refl _, HB.out.below ((Below.refl _ _).alloc (Nat.le_refl _) _), 0, h, Nat.zero_le _, heap_alloc_new w _⟩, (Below.refl _ _).alloc (Nat.le_refl _) _⟩
    · go_wp2
      go_ret
      exact ⟨w.heap.size, rfl, ⟨Nat.le_refl _, HB.out.below ((Below.refl _ _).alloc (Nat.le_refl _) _), 0, h, Nat.zero_le _, heap_alloc_new w _⟩, (Below.refl _ _).alloc (Nat.le_refl _) _⟩

/-- A number up to 255, the cursor as a cursor; nothing but the cursor's block has turned. -/
def BytePost (g B : Nat) (A : Option Addr) (n c : Nat) (w : World) (e : Ending) (w' : World) : Prop :=
  ∃ x : Nat, e = .returned (.int .i64 x) ∧ x ≤ 255 ∧ Cur w' g B A n c ∧ w.grownBy w' (some g)

theorem cur_cells {w : World} {g : Nat} {A : Option Addr} {n c : Nat} {i : Nat} {h : Int} {T : TypeId} (hh : w.heap[g]? = some (.cells #[.slice A n c, .int .i64 i, .int .i64 h] T (0, 0))) :
    w.cell? ⟨g, 0, none⟩ = some (.slice A n c) ∧ w.cell? ⟨g, 1, none⟩ = some (.int .i64 i) ∧ w.cell? ⟨g, 2, none⟩ = some (.int .i64 h) ∧ ∀ j, w.frozen? ⟨g, j, none⟩ = false :=
  ⟨(cell_of_row w g 0 _ _ (0, 0) hh).trans rfl, (cell_of_row w g 1 _ _ (0, 0) hh).trans rfl, (cell_of_row w g 2 _ _ (0, 0) hh).trans rfl, fun j => frozen_of_row w g j _ _ hh⟩

theorem grown_drewN {a w : World} {row : Option Nat} (h : a.grownBy w row) (n : Nat) : a.grownBy (w.drewN n) row := ⟨h.os, h.tape, h.output, h.size, h.block⟩
theorem grown_set {a w : World} {g : Nat} (h : a.grownBy w (some g)) (j : Nat) (u : Value) : a.grownBy (w.setCell ⟨g, j, none⟩ u) (some g) :=
  ⟨h.os, h.tape, h.output, by simpa [World.setCell] using h.size, fun k hk hne => (Below.heap_setCell w ⟨g, j, none⟩ u k (fun e => hne (by rw [e]))).trans (h.block k hk hne)⟩
theorem grown_refl (w : World) (row : Option Nat) : w.grownBy w row := ⟨rfl, rfl, rfl, Nat.le_refl _, fun _ _ _ => rfl⟩

/-- Bytes in old memory, below the cursor's block. -/
theorem BL.grown {w w' : World} {B g : Nat} {A : Option Addr} {n : Nat} (h : BL w B A n) (hg : w.grownBy w' (some g)) (hB : B ≤ g) : BL w' B A n := fun k hk => by
  obtain ⟨ad, z, e, hlt, hc, hz⟩ := h k hk
  exact ⟨ad, z, e, hlt, hg.cell hc (by rw [dr_block]; intro e'; cases e'; omega), hz⟩

theorem byte_end1 {w : World} {g B : Nat} {A : Option Addr} {n c i : Nat} {h : Int} (hBg : B ≤ g) (hB : BL w B A n) (hi : i ≤ n) (hh : w.heap[g]? = some (.cells #[.slice A n c, .int .i64 i, .int .i64 h] 88 (0, 0))) (v : Int) (q : Nat) :
    Cur ((w.setCell ⟨g, 2, none⟩ (.int .i64 v)).drewN q) g B A n c ∧ w.grownBy ((w.setCell ⟨g, 2, none⟩ (.int .i64 v)).drewN q) (some g) := by
  have hg := grown_drewN (grown_set (grown_refl w (some g)) 2 (.int .i64 v)) q
  exact ⟨⟨hBg, hB.grown hg hBg, i, v, hi, heap_setCell_same w g 2 _ _ (.int .i64 v) hh⟩, hg⟩
theorem byte_end2 {w : World} {g B : Nat} {A : Option Addr} {n c i : Nat} {h : Int} (hBg : B ≤ g) (hB : BL w B A n) (hi : i < n) (hh : w.heap[g]? = some (.cells #[.slice A n c, .int .i64 i, .int .i64 h] 88 (0, 0))) (v : Int) (q : Nat) :
    Cur (((w.setCell ⟨g, 2, none⟩ (.int .i64 v)).drewN q).setCell ⟨g, 1, none⟩ (.int .i64 ((i : Int) + 1))) g B A n c ∧ w.grownBy (((w.setCell ⟨g, 2, none⟩ (.int .i64 v)).drewN q).setCell ⟨g, 1, none⟩ (.int .i64 ((i : Int) + 1))) (some g) := by
  have hg := grown_set (grown_drewN (grown_set (grown_refl w (some g)) 2 (.int .i64 v)) q) 1 (.int .i64 ((i : Int) + 1))
  have h2 := heap_setCell_same w g 2 _ _ (.int .i64 v) hh
  exact ⟨⟨hBg, hB.grown hg hBg, i + 1, v, hi, heap_setCell_same ((w.setCell ⟨g, 2, none⟩ (.int .i64 v)).drewN q) g 1 _ _ (.int .i64 ((i : Int) + 1)) h2⟩, hg⟩
theorem and255_nat (z : Int) : ∃ x : Nat, bits .and .i64 z 255 = (x : Int) ∧ x ≤ 255 := by
  have := i64_and255 z
  exact ⟨(bits .and .i64 z 255).toNat, by omega, by omega⟩

set_option maxRecDepth 100000 in
set_option maxHeartbeats 800000 in
theorem l1Byte_any (g B : Nat) (A : Option Addr) (n c : Nat) (w : World) (hc : Cur w g B A n c) (hn : n ≤ 1048576) :
    Calls Try.prog 97 #[.pointer (some ⟨g, 0, none⟩)] w (BytePost g B A n c w) := by
  obtain ⟨hBg, hBL, i, h, hi, hh⟩ := hc
  obtain ⟨c0, c1, c2, hf⟩ := cur_cells hh
  have f1 := hf 1
  have f2 := hf 2
  have HB := Lib.hid hBL
  have HH := Lib.hid hh
  clear hBL hh hf
  by_cases hlt : i < n
  · obtain ⟨ad, z, rfl, hblk, hcz, hz0, hz1⟩ := HB.out i hlt
    have hcz2 : ∀ v, (w.setCell ⟨g, 2, none⟩ v).cell? (ad.add i) = some (.int .u8 z) := fun v => by
      rw [World.cell?_setCell_other]
      · exact hcz
      · intro e
        have := congrArg Addr.block e
        rw [dr_block] at this
        simp at this
        omega
    go_enter Try.func97, Try.ntmps97
    go_wp2
    go_quiet (fail)
    all_goals go_wp2
    all_goals go_quiet (fail)
    all_goals go_wp2
    all_goals go_quiet (fail)
    all_goals go_wp2
    go_ret
    obtain ⟨x, hx, hx2⟩ := and255_nat (wrap64 (bits .and .i64 (bits .xor .i64 (wrap64 (wrap64 (h * 6364136223846793005) + 1442695040888963407) / 8589934592) (wrap64 (wrap64 (h * 6364136223846793005) + 1442695040888963407) / 35184372088832)) 255 + z))
    have R := fun q => byte_end2 hBg HB.out hlt HH.out (wrap64 (wrap64 (h * 6364136223846793005) + 1442695040888963407)) q
    exact ⟨x, congrArg (fun y => Ending.returned (.int .i64 y)) hx, hx2, (R _).1, (R _).2⟩
  · go_enter Try.func97, Try.ntmps97
    go_wp2
    go_quiet (fail)
    all_goals go_wp2
    all_goals go_quiet (fail)
    all_goals go_wp2
    go_ret
    obtain ⟨x, hx, hx2⟩ := and255_nat (bits .xor .i64 (wrap64 (wrap64 (h * 6364136223846793005) + 1442695040888963407) / 8589934592) (wrap64 (wrap64 (h * 6364136223846793005) + 1442695040888963407) / 35184372088832))
    have R := fun q => byte_end1 hBg HB.out hi HH.out (wrap64 (wrap64 (h * 6364136223846793005) + 1442695040888963407)) q
    exact ⟨x, congrArg (fun y => Ending.returned (.int .i64 y)) hx, hx2, by rw [World.drewN_drewN]; exact (R _).1, by rw [World.drewN_drewN]; exact (R _).2⟩

/-- A number below m, the cursor as a cursor. -/
def BelowPost (m : Nat) (g B : Nat) (A : Option Addr) (n c : Nat) (w : World) (e : Ending) (w' : World) : Prop :=
  ∃ x : Nat, e = .returned (.int .i64 x) ∧ x < m ∧ Cur w' g B A n c ∧ w.grownBy w' (some g)

set_option maxRecDepth 100000 in
set_option maxHeartbeats 800000 in
/-- l1Below at 1 to 256. -/
theorem l1Below_small (g B : Nat) (A : Option Addr) (n c m : Nat) (w : World) (hc : Cur w g B A n c) (hn : n ≤ 1048576) (h1 : 1 ≤ m) (h2 : m ≤ 256) :
    Calls Try.prog 83 #[.pointer (some ⟨g, 0, none⟩), .int .i64 m] w (BelowPost m g B A n c w) := by
  have HC := Lib.hid (l1Byte_any g B A n c w hc hn)
  clear hc
  go_enter Try.func83, Try.ntmps83
  go_wp2_with (go_at_call 97; refine HC.out.mono ?_; rintro e w1 ⟨x, rfl, hx, hcur, hgr⟩)
  go_ret
  exact ⟨x % m, rfl, Nat.mod_lt _ (by omega), hcur, hgr⟩
end Go.Proofs.Ytiijlpmdnokjfaa
