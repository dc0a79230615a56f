/-
  What spec.ApplyValues answers.
-/
import Derived.Test.YtiijlpmdnokjfaaTerS
import Derived.Test.YtiijlpmdnokjfaaValS
import Derived.Deep.RegionWith
namespace Go.Proofs.Ytiijlpmdnokjfaa
open Go.RowKit

set_option maxRecDepth 100000 in
set_option maxHeartbeats 1600000 in
theorem specApp_any (s x y z : ByteArray) (w : World) (hs : s.size ≤ 1048576) (hx : x.size ≤ 1048576) (hy : y.size ≤ 1048576) (hz : z.size ≤ 1048576) :
    Calls Try.prog 17 #[.string s, .agg #[.string x, .string y, .string z]] w fun e w' => e = .returned (.string (strL (limB (subL (appF x y z) s.data.toList)))) ∧ Below w.heap.size w w' := by
  obtain ⟨f, hf⟩ : ∃ f, f = appF x y z := ⟨_, rfl⟩
  have HF : Hid (∀ c, f c = if isVarB c then (valB x y z c).data.toList else [c]) := Lib.hid (fun c => by rw [hf]; rfl)
  rw [← hf]
  clear hf
  have HV := Lib.hid (fun c => valB_le (x := x) (y := y) (z := z) (n := 1048576) hx hy hz c)
  obtain ⟨W, hW⟩ : ∃ W, W = w.alloc (.cells #[.string x, .string y, .string z] 25) := ⟨_, rfl⟩
  have HB : Hid (Below w.heap.size w W) := Lib.hid (by rw [hW]; exact (Below.refl _ _).alloc (Nat.le_refl _) _)
  have hn : W.heap[w.heap.size]? = some (.cells #[.string x, .string y, .string z] 25) := by rw [hW]; exact heap_alloc_new w _
  have hsz : W.heap.size = w.heap.size + 1 := by rw [hW]; simp
  have HC := Lib.hid (fun (V : World) (hV : Below (w.heap.size + 1) W V) =>
    (And.intro (cell_of_row V w.heap.size 0 _ _ (0, 0) ((hV.block _ (by omega)).trans hn)) (And.intro (cell_of_row V w.heap.size 1 _ _ (0, 0) ((hV.block _ (by omega)).trans hn)) (cell_of_row V w.heap.size 2 _ _ (0, 0) ((hV.block _ (by omega)).trans hn)))))
  clear hn
  go_enter Try.func17, Try.ntmps17
  go_wp2
  rw [← hW, strL_nil]
  clear hW
  go_loopw [5, 6] (fun o i wr => ∃ (k : Nat) (L : List UInt8), i = .int .i64 k ∧ k ≤ s.size ∧ o = .string (strL L) ∧ L = subL f (s.data.toList.take k) ∧ L.length ≤ 1048576 ∧ Below (w.heap.size + 1) W wr) (fun _ i _ => s.size - (intOf i).toNat)
  case atStart => exact ⟨0, [], rfl, Nat.zero_le _, rfl, rfl, by simp, Below.refl _ _⟩
  case round =>
    obtain ⟨k, L, rfl, hk, rfl, hL, hl, hbw⟩ := hrel
    have HL := Lib.hid hL
    clear hL
    have hz1 := strL_size L
    have HW := Lib.hid hbw
    by_cases hlt : k < s.size
    · have HS := Lib.hid (sub_succ f s k hlt)
      cases hb : isVarB s[k] with
      | true =>
        have hvl := HV.out s[k]
        have HN := Lib.hid (show subL f (s.data.toList.take (k + 1)) = L ++ (valB x y z s[k]).data.toList by rw [HS.out, ← HL.out, HF.out, hb]; rfl)
        have HA := Lib.hid (strL_app L _ (rfl : (valB x y z s[k]).data.toList = _))
        have hn : (L ++ (valB x y z s[k]).data.toList).length = L.length + (valB x y z s[k]).size := by simp
        obtain ⟨M, hM⟩ : ∃ M, M = L ++ (valB x y z s[k]).data.toList := ⟨_, rfl⟩
        rw [← hM] at HN HA hn
        clear hM
        have hz2 := strL_size M
        obtain ⟨c0, c1, c2⟩ := HC.out _ hbw
        have HVAR := Lib.hid (fun wr => specVar_any s[k] wr)
        rw [hb] at HVAR
        have HVAL := Lib.hid (fun wr => specVal_any x y z s[k] wr)
        obtain ⟨t, ht⟩ : ∃ t, t = valB x y z s[k] := ⟨_, rfl⟩
        rw [← ht] at HVAL HA hn hvl
        clear ht hb HS
        by_cases hq : M.length ≤ 1048576
        · go_wp2_with (go_at_call 50; refine (HVAR.out _).mono ?_; rintro e w' ⟨rfl, rfl⟩)
          go_region_with (go_at_call 37; refine (HVAL.out _).mono ?_; rintro e w1 ⟨rfl, hb1⟩)
          all_goals
            have HE := Lib.hid (show Below (w.heap.size + 1) W w1 by first | exact HW.out.trans (hb1.mono (by have := HW.out.size; omega)) | exact HW.out.drew.trans (hb1.mono (by have := HW.out.size; simp; omega)))
            clear hb1 c0 c1 c2
            go_wp2
            go_roundw
            case rel => exact ⟨k + 1, M, by go_num, by omega, HA.out ▸ rfl, HN.out.symm, hq, by first | exact HE.out | exact HE.out.drew⟩
            case measure => simp [intOf]; omega
        · have HO := Lib.hid (sub_over (f := f) (l := s.data.toList) (k := k + 1) (by rw [HN.out]; exact hq))
          go_wp2_with (go_at_call 50; refine (HVAR.out _).mono ?_; rintro e w' ⟨rfl, rfl⟩)
          go_region_with (go_at_call 37; refine (HVAL.out _).mono ?_; rintro e w1 ⟨rfl, hb1⟩)
          all_goals
            have HE := Lib.hid (show Below (w.heap.size + 1) W w1 by first | exact HW.out.trans (hb1.mono (by have := HW.out.size; omega)) | exact HW.out.drew.trans (hb1.mono (by have := HW.out.size; simp; omega)))
            clear hb1 c0 c1 c2
            go_wp2
            go_ret
            exact ⟨by rw [HO.out]; rfl, HB.out.trans (by first | exact HE.out.mono (by omega) | exact HE.out.drew.mono (by omega))⟩
      | false =>
        have hx := one_extract s k hlt
        have HN := Lib.hid (show subL f (s.data.toList.take (k + 1)) = L ++ [s[k]] by rw [HS.out, ← HL.out, HF.out, hb]; rfl)
        have HA := Lib.hid (strL_app L _ hx)
        have HVAR := Lib.hid (fun wr => specVar_any s[k] wr)
        rw [hb] at HVAR
        clear hb hx HS
        have hn : (L ++ [s[k]]).length = L.length + 1 := by simp
        obtain ⟨M, hM⟩ : ∃ M, M = L ++ [s[k]] := ⟨_, rfl⟩
        rw [← hM] at HN HA hn
        clear hM
        have hz2 := strL_size M
        by_cases hq : M.length ≤ 1048576
        · go_wp2_with (go_at_call 50; refine (HVAR.out _).mono ?_; rintro e w' ⟨rfl, rfl⟩)
          go_roundw
          case rel => exact ⟨k + 1, M, by go_num, by omega, HA.out ▸ rfl, HN.out.symm, hq, HW.out⟩
          case measure => simp [intOf]; omega
        · have HO := Lib.hid (sub_over (f := f) (l := s.data.toList) (k := k + 1) (by rw [HN.out]; exact hq))
          go_wp2_with (go_at_call 50; refine (HVAR.out _).mono ?_; rintro e w' ⟨rfl, rfl⟩)
          go_ret
          exact ⟨by rw [HO.out]; rfl, HB.out.trans (HW.out.mono (by omega))⟩
    · obtain rfl : k = s.size := by omega
      have HN := Lib.hid (sub_fits (f := f) (s := s) (by rw [← HL.out]; exact hl))
      rw [← HL.out] at HN
      go_wp2
      go_ret
      exact ⟨by rw [HN.out]; rfl, HB.out.trans (HW.out.mono (by omega))⟩
end Go.Proofs.Ytiijlpmdnokjfaa
