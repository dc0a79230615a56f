/-
  What the laws' own helpers answer over a slice of strings that came in: szStringS (how much is left), toStringS (a copy in a row of its own).
-/
import Derived.Test.YtbedmckgjhhkaaaMark
import Derived.Test.YtbedmckgjhhkaaaJoinMath
namespace Go.Proofs.Ytbedmckgjhhkaaa
open Go.RowKit

/-- A slice of strings in old memory: its elements, one by one. -/
def SL (w : World) (B : Nat) (A : Option Addr) (n : Nat) (ps : List (List UInt8)) : Prop :=
  ps.length = n ∧ ∀ k p, ps[k]? = some p → ∃ ad, A = some ad ∧ ad.block < B ∧ w.cell? (ad.add k) = some (.string ⟨p.toArray⟩)
theorem add_block (a : Addr) (n : Nat) : (a.add n).block = a.block := by unfold Addr.add; split <;> rfl
theorem SL.below {w w' : World} {B : Nat} {A : Option Addr} {n : Nat} {ps : List (List UInt8)} (h : SL w B A n ps) (hb : Below B w w') : SL w' B A n ps :=
  ⟨h.1, fun k p hk => by
    obtain ⟨ad, e, hlt, hc⟩ := h.2 k p hk
    exact ⟨ad, e, hlt, (hb.cell (by rw [add_block]; exact hlt)).trans hc⟩⟩
theorem SL.bytes {w : World} {B : Nat} {A : Option Addr} {n : Nat} {ps : List (List UInt8)} (h : SL w B A n ps) : ps.length = n := h.1

set_option maxHeartbeats 800000 in
theorem sz_yes (A : Option Addr) (n c B : Nat) (ps : List (List UInt8)) (w : World) (h : SL w B A n ps) (hn : n + Lib.lens ps ≤ 1048576) :
    Calls Try.prog 14 #[.slice A n c, .int .i64 1048576] w fun e w' => e = .returned (.int .i64 ((1048576 - n - Lib.lens ps : Nat) : Int)) ∧ w = w' := by
  have HS := Lib.hid h
  have HL := Lib.hid h.1
  clear h
  go_enter Try.func14, Try.ntmps14
  go_wp2
  go_loop [1, 5] (fun l i => ∃ k : Nat, i = .int .i64 k ∧ k ≤ n ∧ l = .int .i64 ((1048576 - n - Lib.lens (ps.take k) : Nat) : Int)) (fun _ i => n - (intOf i).toNat)
  case atStart => exact ⟨0, rfl, Nat.zero_le _, by simp [Lib.lens]; omega⟩
  case round =>
    obtain ⟨k, rfl, hk, rfl⟩ := hrel
    by_cases hlt : k < n
    · obtain ⟨p, hp⟩ : ∃ p, ps[k]? = some p := ⟨_, List.getElem?_eq_getElem (by rw [HL.out]; exact hlt)⟩
      obtain ⟨ad, rfl, hblk, hc⟩ := HS.out.2 k p hp
      have hsum := Lib.lens_take_succ ps k p hp
      have hle := Lib.lens_take_le ps (k + 1)
      have HSUM := Lib.hid hsum
      have hb1 : Lib.lens (ps.take k) + p.length ≤ Lib.lens ps := by omega
      clear hsum hp
      go_wp2
      go_round
      case rel => exact ⟨k + 1, by go_num, by omega, by rw [HSUM.out]; congr 1; omega⟩
      case measure => simp [intOf]; omega
    · obtain rfl : k = n := by omega
      have e : ps.take k = ps := List.take_of_length_le (by rw [HL.out]; exact Nat.le_refl _)
      rw [e]
      clear e
      go_wp2
      go_ret
      exact ⟨rfl, rfl⟩

set_option maxHeartbeats 800000 in
theorem sz_no (A : Option Addr) (n c B : Nat) (ps : List (List UInt8)) (w : World) (h : SL w B A n ps) (hnm : n ≤ 9223372036854775807) (hpm : ∀ (k : Nat) (p : List UInt8), ps[k]? = some p → p.length ≤ 9223372036854775807) (hn : ¬ n + Lib.lens ps ≤ 1048576) :
    Calls Try.prog 14 #[.slice A n c, .int .i64 1048576] w fun e w' => e = .returned (.int .i64 (-1)) ∧ w = w' := by
  have HS := Lib.hid h
  have HL := Lib.hid h.1
  have HP := Lib.hid hpm
  clear h hpm
  by_cases hz : 1048576 < n
  · go_enter Try.func14, Try.ntmps14
    go_wp2
    go_ret
    exact ⟨rfl, rfl⟩
  · go_enter Try.func14, Try.ntmps14
    go_wp2
    go_loop [1, 5] (fun l i => ∃ k : Nat, i = .int .i64 k ∧ k ≤ n ∧ n + Lib.lens (ps.take k) ≤ 1048576 ∧ l = .int .i64 ((1048576 - n - Lib.lens (ps.take k) : Nat) : Int)) (fun _ i => n - (intOf i).toNat)
    case atStart => exact ⟨0, rfl, Nat.zero_le _, by simp [Lib.lens]; omega, by simp [Lib.lens]; omega⟩
    case round =>
      obtain ⟨k, rfl, hk, hle, rfl⟩ := hrel
      by_cases hlt : k < n
      · obtain ⟨p, hp⟩ : ∃ p, ps[k]? = some p := ⟨_, List.getElem?_eq_getElem (by rw [HL.out]; exact hlt)⟩
        obtain ⟨ad, rfl, hblk, hc⟩ := HS.out.2 k p hp
        have hsum := Lib.lens_take_succ ps k p hp
        have hpm := HP.out k p hp
        have HSUM := Lib.hid hsum
        clear hsum hp
        by_cases hq : n + (Lib.lens (ps.take k) + p.length) ≤ 1048576
        · go_wp2
          go_round
          case rel => exact ⟨k + 1, by go_num, by omega, by rw [HSUM.out]; exact hq, by rw [HSUM.out]; congr 1; omega⟩
          case measure => simp [intOf]; omega
        · go_wp2
          go_ret
          exact ⟨rfl, rfl⟩
      · have e : ps.take k = ps := List.take_of_length_le (by rw [HL.out]; omega)
        rw [e] at hle
        exact absurd hle (by omega)

/-- A copy under way: what is laid, and zeros behind it. -/
def copied (ps : List (List UInt8)) (k : Nat) : List Value := strs (ps.take k) ++ (List.replicate ps.length (Value.string ⟨#[]⟩)).drop k
theorem copied_step {ps : List (List UInt8)} {k : Nat} {p : List UInt8} (h : ps[k]? = some p) : (copied ps k).set k (.string ⟨p.toArray⟩) = copied ps (k + 1) := by
  have hk : k < ps.length := (List.getElem?_eq_some_iff.1 h).1
  have hl : (strs (ps.take k)).length = k := by rw [strs_length, List.length_take]; omega
  have hd : (List.replicate ps.length (Value.string ⟨#[]⟩)).drop k = Value.string ⟨#[]⟩ :: (List.replicate ps.length (Value.string ⟨#[]⟩)).drop (k + 1) := by
    rw [List.drop_eq_getElem_cons (by simpa using hk)]
    simp
  unfold copied
  rw [List.set_append_right _ _ (by omega), hl, Nat.sub_self, hd, List.set_cons_zero, List.take_add_one, h]
  simp [strs]
theorem copied_all (ps : List (List UInt8)) : copied ps ps.length = strs ps := by
  unfold copied
  rw [List.take_of_length_le (Nat.le_refl _), List.drop_eq_nil_of_le (by simp), List.append_nil]

/-- A copy in a row of its own: as SplPost, the slice never nil. -/
def CopyPost (ps : List (List UInt8)) (w : World) (e : Ending) (w' : World) : Prop :=
  ∃ g c, e = .returned (.slice (some ⟨g, 0, none⟩) ps.length c) ∧ w'.ownsRow w.heap.size 9 1 (.slice (some ⟨g, 0, none⟩) ps.length c) ps.length (strs ps) ∧ Below w.heap.size w w'

set_option maxHeartbeats 800000 in
theorem copy_any (A : Option Addr) (c B : Nat) (ps : List (List UInt8)) (w : World) (h : SL w B A ps.length ps) (hB : B ≤ w.heap.size) (hn : ps.length ≤ 1048576) :
    Calls Try.prog 16 #[.slice A ps.length c] w (CopyPost ps w) := by
  obtain ⟨i0, hi, hz0, hz1, hz2⟩ := info_parts strInfo
  have HS := Lib.hid h
  clear h
  go_enter Try.func16, Try.ntmps16
  go_wp2_with (refine wpList_make_full _ rfl (.tmp 6) (.tmp 6) 26 rfl w.heap.size 9 i0 (.string ⟨#[]⟩) 1 Try.underlying26 hi hz0 hz1 .i64 .i64 _ _ ps.length rfl rfl rfl rfl (by rw [hz2]; omega) (by unfold maxLen; omega) (Nat.le_refl _) ?_; intro w1 hown hgr)
  have hown0 : w1.ownsRow w.heap.size 9 1 (.slice (some ⟨w.heap.size, 0, none⟩) ps.length ps.length) ps.length (copied ps 0) := by
    have e : (madeCells (Value.string ⟨#[]⟩).cells (ps.length * 1)).toList = copied ps 0 := by
      rw [Nat.mul_one, show (Value.string ⟨#[]⟩).cells = #[.string ⟨#[]⟩] from rfl, toList_madeCells_one]
      simp [copied, strs]
    rw [← e]
    exact hown
  have hb0 : Below w.heap.size w w1 := (Below.refl _ _).grown hgr (Nat.le_refl _) (fun k hk => by cases hk)
  clear hown hgr
  go_loopw [4] (fun i wr => ∃ k : Nat, i = .int .i64 k ∧ k ≤ ps.length ∧ wr.ownsRow w.heap.size 9 1 (.slice (some ⟨w.heap.size, 0, none⟩) ps.length ps.length) ps.length (copied ps k) ∧ Below w.heap.size w wr) (fun i _ => ps.length - (intOf i).toNat)
  case atStart => exact ⟨0, rfl, Nat.zero_le _, hown0, hb0⟩
  case round =>
    obtain ⟨k, rfl, hk, hown, hb⟩ := hrel
    clear hown0 hb0
    by_cases hlt : k < ps.length
    · obtain ⟨p, hp⟩ : ∃ p, ps[k]? = some p := ⟨_, List.getElem?_eq_getElem hlt⟩
      obtain ⟨ad, rfl, hblk, hc⟩ := (HS.out.below (hb.mono hB)).2 k p hp
      have hst := hown.stored k (.string ⟨p.toArray⟩)
      rw [copied_step hp] at hst
      have HO := Lib.hid hst.1
      have HB := Lib.hid (hb.grown hst.2 hb.size (fun j hj => by cases hj; exact Nat.le_refl _))
      obtain ⟨u, hu⟩ : ∃ u, wr.cell? ⟨w.heap.size, k, none⟩ = some u := by
        rw [hown.cellAt k (by omega)]
        have hl : k < (copied ps k).length := by rw [hown.1]; omega
        exact ⟨_, List.getElem?_eq_getElem hl⟩
      have hf := hown.frozenAt k
      clear hst hp hown
      go_wp2
      go_roundw
      case rel => exact ⟨k + 1, by go_num, by omega, HO.out, HB.out⟩
      case measure => simp [intOf]; omega
    · obtain rfl : k = ps.length := by omega
      rw [copied_all] at hown
      go_wp2
      go_ret
      exact ⟨_, _, rfl, hown, hb⟩
end Go.Proofs.Ytbedmckgjhhkaaa
