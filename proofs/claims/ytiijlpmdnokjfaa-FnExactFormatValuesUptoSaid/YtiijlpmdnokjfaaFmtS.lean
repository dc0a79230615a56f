/-
  What spec.FormatValues answers.
-/
import Derived.Test.YtiijlpmdnokjfaaTerS
import Derived.Test.YtiijlpmdnokjfaaValS
import Derived.Test.YtiijlpmdnokjfaaLibJ
import Derived.Test.YtiijlpmdnokjfaaStepOwn
import Derived.Deep.RegionHeld3
import Derived.Deep.CutRange
import Derived.Outline
namespace Go.Proofs.Ytiijlpmdnokjfaa
open Go.RowKit

theorem own_succ3 {W : World} {base : Nat} {e : TypeId} {size : Nat} {v : Value} {k : Nat} {xs : List Value} (h : W.ownsRow base e size v (k + 1) xs) : ∃ g cap, v = .slice (some ⟨g, 0, none⟩) (k + 1) cap := by
  rcases h.2 with ⟨_, h0⟩ | ⟨g, cap, _, rfl, _⟩
  · omega
  · exact ⟨g, cap, rfl⟩

theorem enters_sVal : ∀ args w, (callFunc 37 args).run Try.prog w = .ok (.enter 37 args) w := enters_of Try.func37 (by kernel_rfl) rfl

set_option maxRecDepth 100000 in
set_option maxHeartbeats 3200000 in
theorem specFmt_any (x y z s : ByteArray) (w : World) (hs : s.size ≤ maxLen) (hx : x.size ≤ 1048576) (hy : y.size ≤ 1048576) (hz : z.size ≤ 1048576) (hl : Lib.lens (partsV x y z (varsL s.data.toList)) ≤ 1048576) :
    Calls Try.prog 31 #[.agg #[.string x, .string y, .string z], .string s] w (JoinPost (joined (partsV x y z (varsL s.data.toList)) [32]) w) := by
  obtain ⟨i0, hi, hz0, hz1, hz2⟩ := info_parts strInfo
  have HVS := Lib.hid (fun V => specVars_any s V hs)
  have hM3 : (varsL s.data.toList).length ≤ 3 := by rw [← varsK_end]; exact varsK_len _ _
  obtain ⟨M, hM⟩ : ∃ M, M = varsL s.data.toList := ⟨_, rfl⟩
  rw [← hM] at HVS hl hM3 ⊢
  clear hM hs
  have HVL := Lib.hid (fun c => valB_le (x := x) (y := y) (z := z) (n := 1048576) hx hy hz c)
  obtain ⟨W, hW⟩ : ∃ W, W = (w.alloc (.cells #[.string x, .string y, .string z] 25)).alloc (.cells #[] 9) := ⟨_, rfl⟩
  have HB : Hid (Below w.heap.size w W) := Lib.hid (by rw [hW]; exact ((Below.refl _ _).alloc (Nat.le_refl _) _).alloc (by simp) _)
  have hn : W.heap[w.heap.size]? = some (.cells #[.string x, .string y, .string z] 25) := by rw [hW]; exact (Below.heap_alloc _ _ _ (by simp)).trans (heap_alloc_new w _)
  have hsz : W.heap.size = w.heap.size + 2 := by rw [hW]; simp
  have HC := Lib.hid (fun (V : World) (hV : Below (w.heap.size + 1) W V) =>
    (And.intro (cell_of_row V w.heap.size 0 _ _ (0, 0) ((hV.block _ (by omega)).trans hn)) (And.intro (cell_of_row V w.heap.size 1 _ _ (0, 0) ((hV.block _ (by omega)).trans hn)) (cell_of_row V w.heap.size 2 _ _ (0, 0) ((hV.block _ (by omega)).trans hn)))))
  clear hn
  go_enter Try.func31, Try.ntmps31
  go_wp2_with (go_at_call 19; refine (HVS.out _).mono ?_; rintro e w' ⟨rfl, rfl⟩)
  rw [← hW]
  go_loopw [5, 7] (fun v i wr => ∃ k : Nat, i = .int .i64 k ∧ k ≤ M.length ∧ wr.ownsRow (w.heap.size + 1) 9 1 v k (strs ((partsV x y z M).take k)) ∧ v ≠ .slice none 0 0 ∧ Below (w.heap.size + 1) W wr) (fun _ i _ => M.length - (intOf i).toNat)
  case atStart =>
    refine ⟨0, rfl, Nat.zero_le _, ?_, by simp, Below.refl _ _⟩
    rw [hW]
    have h0 : (w.alloc (.cells #[.string x, .string y, .string z] 25)).heap.size = w.heap.size + 1 := by simp
    rw [← h0]
    exact World.ownsRow_made (w.alloc (.cells #[.string x, .string y, .string z] 25)) #[] 0 (Nat.le_refl _) (by unfold maxLen; omega) rfl
  case round =>
    clear hW
    obtain ⟨k, rfl, hk, hown, hnn, hbw⟩ := hrel
    have HN := Lib.hid hnn
    have HO := Lib.hid hown
    have HW := Lib.hid hbw
    have hzM := strL_size M
    obtain ⟨c0, c1, c2⟩ := HC.out _ hbw
    have hsw : w.heap.size + 1 ≤ wr.heap.size := by have := hbw.size; omega
    clear hown hnn hbw
    by_cases hlt : k < M.length
    · have hlt' : k < (strL M).size := by rw [hzM]; exact hlt
      obtain ⟨b, hb⟩ : ∃ b, b = (strL M)[k]'hlt' := ⟨_, rfl⟩
      have hbM : M[k]? = some b := by rw [List.getElem?_eq_getElem hlt, hb]; exact congrArg some (by simp [strL]; rfl)
      have hex : ((strL M).extract k (k + 1)).data.toList = [b] := by rw [one_extract _ _ hlt', hb]
      have HP := Lib.hid (partV_str x y z hex)
      have HTK : Hid (strs ((partsV x y z M).take (k + 1)) = strs ((partsV x y z M).take k) ++ [.string ⟨(partV x y z b).toArray⟩]) := Lib.hid (by
        rw [List.take_add_one, show (partsV x y z M)[k]? = some (partV x y z b) by unfold partsV; rw [List.getElem?_map, hbM]; rfl, strs_append]; rfl)
      have HV := Lib.hid (fun V => specVal_any x y z b V)
      have hvl := HVL.out b
      have hbb : ((strL M)[k]'hlt') = b := hb.symm
      generalize valB x y z b = t at *
      clear hb hbM hex
      have hwk : IntKind.i64.wrap ((k : Int) + 1) = ((k + 1 : Nat) : Int) := by rw [IntKind.wrap_i64]; omega
      have n1 : (0 : Int) ≤ (k : Int) + 1 := by omega
      have n2 : (k : Int) + 1 ≤ (M.length : Int) := by omega
      have n3 : (k : Int) ≤ (k : Int) + 1 := by omega
      have n4 : (0 : Int) ≤ (k : Int) := by omega
      have n5 : (k : Int) < (M.length : Int) := by omega
      have m1 : (9223372036854775807 < min (k + 1) M.length - k + 1) = False := by simp; omega
      have m2 : (9223372036854775807 < min (k + 1) M.length - k + 1 + t.size) = False := by simp; omega
      go_wp2
      go_region_law (first
        | (refine step_append_own_at rfl (.tmp 17) (.tmp 30) 75 rfl (w.heap.size + 1) 9 i0 (.string ⟨#[]⟩) 1 16 Try.underlying75 hi hz0 hz1 hz2 rfl (by decide) _ _ _ rfl (HO1.out.alloc _) ⟨w1.heap.size, 0, none⟩ 1 1 [.string _] rfl rfl (newCell w1 _ _) (oneCell_str _) (by unfold maxLen; omega) (by omega) (by simp; omega) ?_; intro v' w9 hown' hgrow hat; have HO9 := Lib.hid hown'; have HB9 := Lib.hid ((HA1.out.alloc hbw1 _).grown hgrow (by simp; omega) (fun g e => (HO1.out.lt g e).1)); clear hown' hgrow hat)
        | (refine step_call rfl _ _ _ rfl enters_sVal #[.agg #[.string x, .string y, .string z], .int .u8 b.toNat] (by simp [Act.eval]) (HV.out _) ?_; rintro e w1 ⟨rfl, hb1⟩; have HO1 := Lib.hid (owns_below (owns_below HO.out ((Below.refl wr.heap.size wr).drew)) hb1); have HA1 := Lib.hid (HW.out.drew.trans (hb1.mono (by show w.heap.size + 1 ≤ wr.heap.size; omega))); have hbw1 : w.heap.size + 1 ≤ w1.heap.size := Nat.le_trans hsw hb1.size; clear hb1; refine ⟨_, rfl, ?_⟩))
      all_goals
        rw [HP.out] at HO9
        rw [← HTK.out] at HO9
        have hne : v' ≠ .slice none 0 0 := fun e => by
          have h := HO9.out
          rw [e] at h
          obtain ⟨gq, cq, hq⟩ := own_succ3 h
          cases hq
        clear c0 c1 c2 n1 n2 n3 n4 n5 m1 m2 hwk hbb
        go_wp2_with fail
        go_roundw
        case rel => exact ⟨k + 1, by go_num, by omega, HO9.out, hne, HB9.out⟩
        case measure => simp [intOf]; omega
    · obtain rfl : k = M.length := by omega
      have hp : (partsV x y z M).length = M.length := by simp [partsV]
      have ht : (partsV x y z M).take M.length = partsV x y z M := List.take_of_length_le (by omega)
      have hO2 : wr.ownsRow (w.heap.size + 1) 9 1 u5 (partsV x y z M).length (strs (partsV x y z M)) := by
        have h := HO.out
        rw [ht] at h
        rw [hp]
        exact h
      rcases own_cases hO2 with ⟨h0, A, c, rfl⟩ | ⟨g, c, rfl⟩
      · have hM0 : M.length = 0 := by omega
        have HJ := Lib.hid (specJoin_any A c (partsV x y z M) ⟨#[32]⟩ wr ⟨rfl, fun k p hk => by have := (List.getElem?_eq_some_iff.1 hk).1; omega⟩ (by omega) hl (by decide))
        rw [h0] at HJ
        have HE := Lib.hid (HB.out.trans (HW.out.mono (by omega)))
        clear c0 c1 c2
        go_wp2_with fail
        refine HJ.out.mono ?_
        rintro e w1 ⟨rfl, hb1⟩
        have HF := Lib.hid (HE.out.trans (hb1.mono (by omega)))
        clear hb1
        go_wp2_with fail
        go_ret
        exact ⟨rfl, HF.out⟩
      · have HJ := Lib.hid (specJoin_any (some ⟨g, 0, none⟩) c (partsV x y z M) ⟨#[32]⟩ wr (own_SL hO2) (by omega) hl (by decide))
        rw [hp] at HJ
        have HE := Lib.hid (HB.out.trans (HW.out.mono (by omega)))
        clear c0 c1 c2 hO2
        go_wp2_with fail
        refine HJ.out.mono ?_
        rintro e w1 ⟨rfl, hb1⟩
        have HF := Lib.hid (HE.out.trans (hb1.mono (by omega)))
        clear hb1
        go_wp2_with fail
        go_ret
        exact ⟨rfl, HF.out⟩
end Go.Proofs.Ytiijlpmdnokjfaa
