/-
  What impl.WordDfa and the closures that it makes answer.
-/
import Derived.Test.YtlkhmpdncimnfaaWdM
import Derived.Test.YtlkhmpdncimnfaaExpI
import Derived.Test.YtlkhmpdncimnfaaIsWordI
namespace Go.Proofs.Ytlkhmpdncimnfaa
open Go.RowKit

set_option maxRecDepth 100000 in
set_option maxHeartbeats 1600000 in
theorem implWd1_any (bs bo i k : Nat) (s : ByteArray) (w : World) (hs : s.size ≤ 30) (hi : i < s.size + 2) (c0 : w.cell? ⟨bs, 0, none⟩ = some (.string s)) (c1 : w.cell? ⟨bo, 0, none⟩ = some (.int .i64 ((s.size : Int) + 1))) :
    Calls Try.prog 68 #[.int .i64 (i : Int), .int .i64 (k : Int), .pointer (some ⟨bs, 0, none⟩), .pointer (some ⟨bo, 0, none⟩)] w fun e w' => e = .returned (.int .i64 ((wdT s.data.toList i k : Nat) : Int)) ∧ w = w' := by
  have hl : s.data.toList.length = s.size := by simp
  by_cases hlt : i < s.size
  · have e1 : decide ((i : Int) < (s.size : Int)) = true := by simp; omega
    have e2 : (0 : Int) ≤ (i : Int) := by omega
    have e3 : (i : Int) < (s.size : Int) := by omega
    have hg : s.data.toList.getD i 0 = s[i] := by
      rw [List.getD_eq_getElem?_getD, List.getElem?_eq_getElem (by omega)]
      rfl
    by_cases hy : letIdx s[i] = (k : Int)
    · have HR : Hid (((wdT s.data.toList i k : Nat) : Int) = (i : Int) + 1) := Lib.hid (by rw [wdT_yes (by omega) (by rw [hg]; exact hy)]; rfl)
      have e4 : (letIdx s[i] == (k : Int)) = true := by simp [hy]
      clear hy hg hl
      go_enter Try.func68, Try.ntmps68
      go_wp2_with (go_at_call 52; refine (implLet_any _ _).mono ?_; rintro e w' ⟨rfl, rfl⟩)
      go_ret
      exact ⟨congrArg (fun z : Int => Ending.returned (.int .i64 z)) HR.out.symm, rfl⟩
    · have HR : Hid (((wdT s.data.toList i k : Nat) : Int) = (s.size : Int) + 1) := Lib.hid (by rw [wdT_no (by rw [hg]; exact fun h => hy h.2), hl]; rfl)
      have e4 : (letIdx s[i] == (k : Int)) = false := by simp [hy]
      clear hy hg hl
      go_enter Try.func68, Try.ntmps68
      go_wp2_with (go_at_call 52; refine (implLet_any _ _).mono ?_; rintro e w' ⟨rfl, rfl⟩)
      go_ret
      exact ⟨congrArg (fun z : Int => Ending.returned (.int .i64 z)) HR.out.symm, rfl⟩
  · have e1 : decide ((i : Int) < (s.size : Int)) = false := by simp; omega
    have HR : Hid (((wdT s.data.toList i k : Nat) : Int) = (s.size : Int) + 1) := Lib.hid (by rw [wdT_no (by omega), hl]; rfl)
    clear hl
    go_enter Try.func68, Try.ntmps68
    go_wp2_with fail
    go_ret
    exact ⟨congrArg (fun z : Int => Ending.returned (.int .i64 z)) HR.out.symm, rfl⟩
theorem implWd2_any (bs i : Nat) (s : ByteArray) (w : World) (c0 : w.cell? ⟨bs, 0, none⟩ = some (.string s)) :
    Calls Try.prog 70 #[.int .i64 (i : Int), .pointer (some ⟨bs, 0, none⟩)] w fun e w' => e = .returned (.bool (decide (i = s.data.toList.length))) ∧ w = w' := by
  have HR : Hid (decide (i = s.data.toList.length) = ((i : Int) == (s.size : Int))) := Lib.hid (by
    have hl : s.data.toList.length = s.size := by simp
    rw [hl]
    by_cases h : i = s.size
    · simp [h]
    · have h' : ¬ ((i : Int) = (s.size : Int)) := by omega
      simp [h, h'])
  go_enter Try.func70, Try.ntmps70
  go_wp2_with fail
  go_ret
  exact ⟨congrArg (fun b : Bool => Ending.returned (.bool b)) HR.out.symm, rfl⟩
theorem enters_wd1 (args : Array Value) (w : World) : (callFunc 68 args).run Try.prog w = .ok (.enter 68 args) w := enters_of Try.func68 (by kernel_rfl) rfl args w
theorem enters_wd2 (args : Array Value) (w : World) : (callFunc 70 args).run Try.prog w = .ok (.enter 70 args) w := enters_of Try.func70 (by kernel_rfl) rfl args w

set_option maxRecDepth 100000 in
set_option maxHeartbeats 3200000 in
theorem implWd_any (s : ByteArray) (hss : s.size ≤ maxLen) (y : Dx) (ok : Bool) (hy : wordR s.data.toList y ok) (w : World) :
    Calls Try.prog 31 #[.string s] w (CopyDB y ok w) := by
  have hmf : ∀ (fn : Fn) (first cap : Array Value) (w : World), (Instr.makeFunc fn first cap).run Try.prog w = .ok (.func fn first cap) w := fun _ _ _ _ => rfl
  have HV := Lib.hid (fun V => implIsWord_any s V hss)
  obtain ⟨W0, hW0⟩ : ∃ W0, W0 = (w.alloc (.cells #[.string s] 9)).alloc (.cells #[.slice none 0 0, .slice none 0 0] 27) := ⟨_, rfl⟩
  have HB0 : Hid (Below w.heap.size w W0) := Lib.hid (by rw [hW0]; exact ((Below.refl _ _).alloc (Nat.le_refl _) _).alloc (by simp) _)
  have HX : Hid (W0.heap[w.heap.size]? = some (.cells #[.string s] 9 (0, 0))) := Lib.hid (by rw [hW0]; exact (Below.heap_alloc _ _ _ (by simp)).trans (heap_alloc_new w _))
  have HY : Hid (W0.heap[w.heap.size + 1]? = some (.cells #[.slice none 0 0, .slice none 0 0] 27 (0, 0))) := Lib.hid (by rw [hW0]; exact three2 w _ _ _ _)
  have hc := (cell_of_row W0 w.heap.size 0 _ _ (0, 0) HX.out).trans rfl
  have HYy := Lib.hid hy
  rw [hW0] at hc
  cases hw : isW s.data.toList with
  | false =>
    obtain ⟨rfl, rfl⟩ := wordR_no hy hw
    rw [hw] at HV
    have hz : W0.cell? ⟨w.heap.size + 1, 0, none⟩ = some (.slice none 0 0) ∧ W0.cell? ⟨w.heap.size + 1, 1, none⟩ = some (.slice none 0 0) := ⟨(box2_facts HY.out).1, (box2_facts HY.out).2.1⟩
    obtain ⟨z0, z1⟩ := hz
    clear hy hw
    go_enter Try.func31, Try.ntmps31
    go_wp2_with (go_at_call 51; refine (HV.out _).mono ?_; rintro e w' ⟨rfl, rfl⟩)
    rw [← hW0]
    refine bodyPost_ret (v := .tuple #[.agg #[.slice none 0 0, .slice none 0 0], .bool false]) (by simp [results, Try.results31, go_sem, z0, z1]) rfl ?_
    exact ⟨_, _, rfl, DfaO.empty _ _, HB0.out⟩
  | true =>
    rw [hw] at HV
    have h30 : s.size ≤ 30 := by
      have := isW_len hw
      simpa using this
    have hl : s.data.toList.length = s.size := by simp
    obtain ⟨N, hN, hE⟩ := ends_some (s0 := 0) (g := (wdA s.data.toList).T) (M := s.data.toList.length + 2) (fun t => (own_keys (wdA_wf _) t).2)
    obtain ⟨f1, f2, f3⟩ := own_found (wdA_wf s.data.toList) hE
    obtain ⟨m, m1, m2, m3⟩ := exists_min (hE.wf (wdA s.data.toList).A)
    have m4 := m2.trans f2
    obtain ⟨rfl, rfl⟩ := wordR_yes hy hw m1 m4
    have hm40 := wd_small hw m1 m4
    have hsr : srchR 40 0 (wdT s.data.toList) (fun i => decide (i = s.data.toList.length)) (fieldsOf m) true := .inl ⟨N, by omega, hE, m, m1, m2, by unfold fitD; rw [if_pos hm40], by simp [hm40]⟩
    obtain ⟨W2, hW2⟩ : ∃ W2, W2 = W0.alloc (.cells #[.int .i64 ((s.size : Int) + 1)] 3) := ⟨_, rfl⟩
    have HB2 : Hid (Below W0.heap.size W0 W2) := Lib.hid (by rw [hW2]; exact (Below.refl _ _).alloc (Nat.le_refl _) _)
    have HX2 : Hid (W2.heap[W0.heap.size]? = some (.cells #[.int .i64 ((s.size : Int) + 1)] 3 (0, 0))) := Lib.hid (by rw [hW2]; exact heap_alloc_new W0 _)
    have hz0 : W0.heap.size = w.heap.size + 1 + 1 := by rw [hW0]; simp
    have HMd : Hid (Calls Try.prog 69 #[.int .i64 0, .func (.func 68) #[] #[.pointer (some ⟨w.heap.size, 0, none⟩), .pointer (some ⟨W0.heap.size, 0, none⟩)], .func (.func 70) #[] #[.pointer (some ⟨w.heap.size, 0, none⟩)], .int .i64 40] W2 (CopyDB (fieldsOf m) true W2)) := Lib.hid (by
      refine implMdI_any _ _ _ _ enters_wd1 enters_wd2 (wdT s.data.toList) (fun i => decide (i = s.data.toList.length)) (s.data.toList.length + 2) 40 0 W2 (by omega) (by omega) (by omega) (by omega) (fun x k _ _ => wdT_lt _ x k) (fun U x k hU hx hk => ?_) (fun U x hU hx => ?_) _ _ hsr
      · have q0 := (cell_of_row U w.heap.size 0 _ _ (0, 0) ((hU.block _ (Nat.lt_of_lt_of_le (blk_lt HX.out) HB2.out.size)).trans ((HB2.out.block _ (blk_lt HX.out)).trans HX.out))).trans rfl
        have q1 := (cell_of_row U W0.heap.size 0 _ _ (0, 0) ((hU.block _ (blk_lt HX2.out)).trans HX2.out)).trans rfl
        exact (implWd1_any w.heap.size W0.heap.size x k s U h30 (by omega) q0 q1).mono (fun e w' he => ⟨he.1, by rw [← he.2]; exact Below.refl _ _⟩)
      · have q0 := (cell_of_row U w.heap.size 0 _ _ (0, 0) ((hU.block _ (Nat.lt_of_lt_of_le (blk_lt HX.out) HB2.out.size)).trans ((HB2.out.block _ (blk_lt HX.out)).trans HX.out))).trans rfl
        exact (implWd2_any w.heap.size x s U q0).mono (fun e w' he => ⟨he.1, by rw [← he.2]; exact Below.refl _ _⟩))
    rw [hz0] at HMd
    clear hy hw hl hN hE f1 f2 f3 m1 m2 m3 m4 hm40 hsr HYy hz0
    go_enter Try.func31, Try.ntmps31
    go_upto_region 4 with (go_at_call 51; refine (HV.out _).mono ?_; rintro e w' ⟨rfl, rfl⟩)
    rw [← hW0, ← hW2]
    clear hc hW0 hW2
    go_wp2_with fail
    go_at_call 69
    refine HMd.out.mono ?_
    rintro e w3 hcd
    obtain ⟨A1, p1, A2, p2, rfl, hoo, hb3⟩ := hcd.shape
    obtain ⟨x1, hx1⟩ : ∃ x, x = (fieldsOf m).acc.length := ⟨_, rfl⟩
    obtain ⟨x2, hx2⟩ : ∃ x, x = (fieldsOf m).nxt.length := ⟨_, rfl⟩
    rw [← hx1, ← hx2] at hoo ⊢
    have HO3 := Lib.hid hoo
    have HB3 := Lib.hid (HB2.out.trans (hb3.mono HB2.out.size))
    have hz2 := HB2.out.size
    have hz3 := hb3.size
    have hyl := blk_lt HY.out
    obtain ⟨c0, c1, k0, k1⟩ := box2_facts ((HB3.out.block _ hyl).trans HY.out)
    obtain ⟨hcl, hsz, hot, hBl⟩ := put2 (k := .slice A1 x1 p1) (l := .slice A2 x2 p2) c0 c1
    obtain ⟨hc0, hc1⟩ := hcl
    have HOt := Lib.hid (And.intro hsz (And.intro hot hBl))
    clear hsz hot hBl hoo hb3 hcd hx1 hx2
    go_wp2_with fail
    refine bodyPost_ret (v := .tuple #[.agg #[.slice A1 x1 p1, .slice A2 x2 p2], .bool true]) (by simp [results, Try.results31, go_sem, hc0, hc1]) rfl ?_
    have h0 := HB0.out.size
    exact ⟨_, _, rfl, HO3.out.mono (fun g hg => HOt.out.2.1 g (by have := hg.1; omega)) (fun g hg => ⟨by have := hg.1; omega, by rw [HOt.out.1]; exact hg.2⟩) (by rw [HOt.out.1]; exact Nat.le_refl _), HOt.out.2.2 _ _ (HB0.out.trans (HB3.out.mono h0)) (by omega)⟩
end Go.Proofs.Ytlkhmpdncimnfaa
