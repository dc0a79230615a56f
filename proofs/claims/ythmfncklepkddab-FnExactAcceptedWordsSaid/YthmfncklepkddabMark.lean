/-
  What the laws' own helpers answer over slices of strings that lie in rows of their own: eqStringS, markText, markStringS, heldStringS.
-/
import Derived.Test.YthmfncklepkddabMarkT
import Derived.Test.YthmfncklepkddabDec
import Derived.Deep.QuietTactic
import Derived.BigQuiet
import Derived.RegionTactic
import Derived.Deep.RegionHeld3
namespace Go.Proofs.Ythmfncklepkddab
open Go.RowKit



set_option maxHeartbeats 400000 in

set_option maxHeartbeats 400000 in
theorem eqStrings_row (ga gb ca cb n Ba Bb : Nat) (ps : List (List UInt8)) (w : World) (hn : n ≤ 2097152) (hp : ps.length = n)
    (ha : w.ownsRow Ba 9 1 (.slice (some ⟨ga, 0, none⟩) n ca) n (strs ps)) (hb : w.ownsRow Bb 9 1 (.slice (some ⟨gb, 0, none⟩) n cb) n (strs ps)) :
    Calls Try.prog 12 #[.slice (some ⟨ga, 0, none⟩) n ca, .slice (some ⟨gb, 0, none⟩) n cb] w fun e w' => e = .returned (.bool true) ∧ ∃ m, w' = w.drewN m := by
  have HA := Lib.hid (fun j hj => ha.cellAt j hj)
  have HB := Lib.hid (fun j hj => hb.cellAt j hj)
  have HP := Lib.hid hp
  clear ha hb hp
  go_enter Try.func12, Try.ntmps12
  go_wp2
  go_loopw [5] (fun i wr => ∃ k m : Nat, i = .int .i64 k ∧ k ≤ n ∧ wr = w.drewN m) (fun i _ => n - (intOf i).toNat)
  case atStart => exact ⟨0, 0, rfl, Nat.zero_le _, rfl⟩
  case round =>
    obtain ⟨k, m, rfl, hk, rfl⟩ := hrel
    by_cases hlt : k < n
    · have hx : (strs ps)[k]? = some (.string ⟨(ps[k]'(by rw [HP.out]; exact hlt)).toArray⟩) := by simp [strs]
      obtain ⟨x, hxe⟩ : ∃ x : ByteArray, x = ⟨(ps[k]'(by rw [HP.out]; exact hlt)).toArray⟩ := ⟨_, rfl⟩
      have hA := (HA.out k (by omega)).trans hx
      have hB := (HB.out k (by omega)).trans hx
      rw [← hxe] at hA hB
      clear hx hxe
      go_wp2_with fail
      go_quiet (fail)
      all_goals go_wp2
      all_goals
        go_roundw
        case rel => exact ⟨k + 1, _, by go_num, by omega, rfl⟩
        case measure => simp [intOf]; omega
    · go_wp2
      go_ret
      exact ⟨rfl, m, rfl⟩

/-- The marks k0, k0 + 1, .. as a row's cells. -/
def marks (k0 : Nat) : Nat → List (List UInt8)
  | 0 => []
  | n + 1 => marks k0 n ++ [markB (k0 + n)]
theorem marks_length (k0 : Nat) : ∀ n, (marks k0 n).length = n
  | 0 => rfl
  | n + 1 => by simp [marks, marks_length k0 n]
theorem marks_at (k0 : Nat) : ∀ n j, j < n → (marks k0 n)[j]? = some (markB (k0 + j))
  | 0, j, h => by omega
  | n + 1, j, h => by
    unfold marks
    by_cases hj : j < n
    · rw [List.getElem?_append_left (by rw [marks_length]; exact hj)]
      exact marks_at k0 n j hj
    · have e : j = n := by omega
      subst e
      rw [List.getElem?_append_right (by rw [marks_length]; exact Nat.le_refl _), marks_length]
      simp


/-- One cell more is marked. -/
theorem mark_step {w wr w1 : World} {g n c B k0 j : Nat} {xs : List Value} (hj : j < n) (hxs : xs.length = n)
    (hown : wr.ownsRow B 9 1 (.slice (some ⟨g, 0, none⟩) n c) n (strs (marks k0 j) ++ xs.drop j)) (hg : w.grownBy wr (some g)) (hb1 : Below wr.heap.size wr w1) :
    (w1.setCell ⟨g, j, none⟩ (.string ⟨(markB (k0 + j)).toArray⟩)).ownsRow B 9 1 (.slice (some ⟨g, 0, none⟩) n c) n (strs (marks k0 (j + 1)) ++ xs.drop (j + 1)) ∧
    w.grownBy (w1.setCell ⟨g, j, none⟩ (.string ⟨(markB (k0 + j)).toArray⟩)) (some g) := by
  have h1 := hown.kept (grown_of_below hb1 none) (.inr (by simp [Value.ownBlock]))
  obtain ⟨h2, h3⟩ := h1.stored j (.string ⟨(markB (k0 + j)).toArray⟩)
  refine ⟨?_, grown_trans (grown_trans hg (grown_of_below hb1 (some g))) h3⟩
  have e : (strs (marks k0 j) ++ xs.drop j).set j (.string ⟨(markB (k0 + j)).toArray⟩) = strs (marks k0 (j + 1)) ++ xs.drop (j + 1) := by
    have hl : (strs (marks k0 j)).length = j := by rw [strs_length, marks_length]
    have hd : xs.drop j = xs[j]'(by omega) :: xs.drop (j + 1) := List.drop_eq_getElem_cons (by omega : j < xs.length)
    rw [List.set_append_right _ _ (by omega), hl, Nat.sub_self, hd, List.set_cons_zero]
    simp [marks, strs]
  rw [e] at h2
  exact h2

set_option maxHeartbeats 800000 in
theorem markStrings_row (g c n B k0 : Nat) (xs : List Value) (w : World) (hn : n ≤ 2097152) (hk0 : 0 < k0) (hk1 : k0 ≤ 2097152) (hxs : xs.length = n)
    (hown : w.ownsRow B 9 1 (.slice (some ⟨g, 0, none⟩) n c) n xs) :
    Calls Try.prog 14 #[.slice (some ⟨g, 0, none⟩) n c, .int .i64 k0] w fun e w' => e = .returned (.int .i64 ((k0 + n : Nat) : Int)) ∧
      w'.ownsRow B 9 1 (.slice (some ⟨g, 0, none⟩) n c) n (strs (marks k0 n)) ∧ w.grownBy w' (some g) := by
  have HX := Lib.hid hxs
  clear hxs
  go_enter Try.func14, Try.ntmps14
  go_wp2
  go_loopw [1, 5] (fun kv i wr => ∃ j : Nat, i = .int .i64 j ∧ kv = .int .i64 ((k0 + j : Nat) : Int) ∧ j ≤ n ∧ wr.ownsRow B 9 1 (.slice (some ⟨g, 0, none⟩) n c) n (strs (marks k0 j) ++ xs.drop j) ∧ w.grownBy wr (some g)) (fun _ i _ => n - (intOf i).toNat)
  case atStart => exact ⟨0, rfl, rfl, Nat.zero_le _, by simpa [marks, strs] using hown, World.grownBy.refl w _⟩
  case round =>
    obtain ⟨j, rfl, rfl, hj, hownj, hgr⟩ := hrel
    clear hown
    by_cases hlt : j < n
    · have HS := Lib.hid (fun w1 hb1 => mark_step (w1 := w1) (k0 := k0) hlt HX.out hownj hgr hb1)
      have hfr : ∀ w1 : World, Below wr.heap.size wr w1 → w1.frozen? ⟨g, j, none⟩ = false := fun w1 hb1 => (hownj.kept (grown_of_below hb1 none) (.inr (by simp [Value.ownBlock]))).frozenAt j
      have hce : ∀ w1 : World, Below wr.heap.size wr w1 → ∃ u, w1.cell? ⟨g, j, none⟩ = some u := fun w1 hb1 => by
        have h1 := hownj.kept (grown_of_below hb1 none) (.inr (by simp [Value.ownBlock]))
        rw [h1.cellAt j (by omega)]
        have hl : j < (strs (marks k0 j) ++ xs.drop j).length := by rw [h1.1]; omega
        exact ⟨_, List.getElem?_eq_getElem hl⟩
      have HF := Lib.hid hfr
      have HC := Lib.hid hce
      clear hfr hce hownj hgr
      go_wp2_with (go_at_call 32; refine (markText_any (k0 + j) _ (by omega) (by omega)).mono ?_; rintro e w1 ⟨rfl, hb1⟩; obtain ⟨u, hcu⟩ := HC.out w1 hb1; have hfu := HF.out w1 hb1)
      have R := HS.out w1 hb1
      clear hcu hfu
      go_roundw
      case rel => exact ⟨j + 1, by go_num, by go_num, by omega, R.1, R.2⟩
      case measure => simp [intOf]; omega
    · obtain rfl : j = n := by omega
      have hown' : wr.ownsRow B 9 1 (.slice (some ⟨g, 0, none⟩) j c) j (strs (marks k0 j)) := by
        have e : xs.drop j = [] := List.drop_eq_nil_of_le (by rw [HX.out]; exact Nat.le_refl _)
        rw [e, List.append_nil] at hownj
        exact hownj
      clear hownj
      go_wp2
      go_ret
      exact ⟨rfl, hown', hgr⟩


set_option maxHeartbeats 800000 in
theorem heldStrings_row (g c n B k0 : Nat) (w : World) (hn : n ≤ 2097152) (hk0 : 0 < k0) (hk1 : k0 ≤ 2097152)
    (hown : w.ownsRow B 9 1 (.slice (some ⟨g, 0, none⟩) n c) n (strs (marks k0 n))) :
    Calls Try.prog 15 #[.slice (some ⟨g, 0, none⟩) n c, .int .i64 k0] w fun e w' => e = .returned (.int .i64 ((k0 + n : Nat) : Int)) ∧ Below w.heap.size w w' := by
  have hglt : g < w.heap.size := (hown.lt g (by simp [Value.ownBlock])).2
  have HC := Lib.hid (fun j (hj : j < n) => (hown.cellAt j (by omega)).trans (show (strs (marks k0 n))[j]? = some (.string ⟨(markB (k0 + j)).toArray⟩) by unfold strs; rw [List.getElem?_map, marks_at k0 n j hj]; rfl))
  clear hown
  go_enter Try.func15, Try.ntmps15
  go_wp2
  go_loopw [1, 5] (fun kv i wr => ∃ j : Nat, i = .int .i64 j ∧ kv = .int .i64 ((k0 + j : Nat) : Int) ∧ j ≤ n ∧ Below w.heap.size w wr) (fun _ i _ => n - (intOf i).toNat)
  case atStart => exact ⟨0, rfl, rfl, Nat.zero_le _, Below.refl _ _⟩
  case round =>
    obtain ⟨j, rfl, rfl, hj, hb⟩ := hrel
    by_cases hlt : j < n
    · have hce := (hb.cell (p := ⟨g, j, none⟩) hglt).trans (HC.out j hlt)
      have hp0 : 0 < k0 + j := by omega
      have hp1 : k0 + j ≤ 9223372036854775807 := by omega
      go_wp2_with fail
      go_region_held3 (fun w' => w'.cell? ⟨g, j, none⟩ = some (.string ⟨(markB (k0 + j)).toArray⟩) ∧ Below w.heap.size w w') (first | exact ⟨hce, hb.drew⟩ | exact ⟨hce, hb⟩ | go_keep)
        (first | (go_at_call 32; refine (markText_cell (k0 + j) w _ ⟨g, j, none⟩ (.string ⟨(markB (k0 + j)).toArray⟩) hp0 hp1 ?_ hglt ?_).mono ?_; (simp [*]); (simp [*]); rintro e w' ⟨rfl, hce, hb⟩))
      go_wp2
      go_roundw
      case rel => exact ⟨j + 1, by go_num, by go_num, by omega, hb⟩
      case measure => simp [intOf]; omega
    · obtain rfl : j = n := by omega
      go_wp2
      go_ret
      exact ⟨rfl, hb⟩
end Go.Proofs.Ythmfncklepkddab
