/-
  What spec's functions of chapter 8 answer: IsTerm, CountByte, VarsOf, ReplaceVar.
-/
import Derived.Test.YtiijlpmdnokjfaaTerM
import Derived.Test.YtiijlpmdnokjfaaLetS
namespace Go.Proofs.Ytiijlpmdnokjfaa
open Go.RowKit

theorem specVar_any (b : UInt8) (w : World) : Calls Try.prog 50 #[.int .u8 b.toNat] w fun e w' => e = .returned (.bool (isVarB b)) ∧ w = w' := by
  by_cases h1 : 88 ≤ b.toNat
  · by_cases h2 : b.toNat ≤ 90
    · go_enter Try.func50, Try.ntmps50
      go_wp2
      go_ret
      exact ⟨by simp [isVarB, h1, h2]; try omega, rfl⟩
    · go_enter Try.func50, Try.ntmps50
      go_wp2
      go_ret
      exact ⟨by simp [isVarB, h1, h2]; try omega, rfl⟩
  · go_enter Try.func50, Try.ntmps50
    go_wp2
    go_ret
    exact ⟨by simp [isVarB, h1], rfl⟩

set_option maxHeartbeats 800000 in
theorem specIsT_any (s : ByteArray) (w : World) (hs : s.size ≤ maxLen) :
    Calls Try.prog 21 #[.string s] w fun e w' => e = .returned (.bool (isT s.data.toList)) ∧ w = w' := by
  unfold maxLen at hs
  go_enter Try.func21, Try.ntmps21
  go_wp2
  go_loop [3] (fun i => ∃ k : Nat, i = .int .i64 k ∧ k ≤ s.size ∧ (s.data.toList.take k).all tLet = true) (fun i => s.size - (intOf i).toNat)
  case atStart => exact ⟨0, rfl, Nat.zero_le _, rfl⟩
  case round =>
    obtain ⟨k, rfl, hk, hall⟩ := hrel
    have HA := Lib.hid hall
    clear hall
    by_cases hlt : k < s.size
    · cases hb : isLetter s[k] with
      | true =>
        have HN := Lib.hid (show (s.data.toList.take (k + 1)).all tLet = true by rw [tAll_succ s k hlt, HA.out]; simp [tLet, hb])
        obtain ⟨hl, h97, h99⟩ := letIdx_yes hb
        have hl0 : 0 ≤ letIdx s[k] := by omega
        clear hl hb
        go_wp2_with (go_at_call 52; refine (specLet_any _ _).mono ?_; rintro e w' ⟨rfl, rfl⟩)
        go_round
        case rel => exact ⟨k + 1, by go_num, by omega, HN.out⟩
        case measure => simp [intOf]; omega
      | false =>
        cases hv : isVarB s[k] with
        | true =>
          have HN := Lib.hid (show (s.data.toList.take (k + 1)).all tLet = true by rw [tAll_succ s k hlt, HA.out]; simp [tLet, hv])
          have hl := letIdx_no hb
          have hl0 : letIdx s[k] < 0 := by omega
          clear hl hb
          go_wp2_with (first | (go_at_call 52; refine (specLet_any _ _).mono ?_; rintro e w' ⟨rfl, rfl⟩) | (go_at_call 50; refine (specVar_any _ _).mono ?_; rintro e w' ⟨rfl, rfl⟩))
          go_round
          case rel => exact ⟨k + 1, by go_num, by omega, HN.out⟩
          case measure => simp [intOf]; omega
        | false =>
          have HN := Lib.hid (isT_bad hlt (by simp [tLet, hb, hv]))
          have hl := letIdx_no hb
          have hl0 : letIdx s[k] < 0 := by omega
          clear hl hb
          go_wp2_with (first | (go_at_call 52; refine (specLet_any _ _).mono ?_; rintro e w' ⟨rfl, rfl⟩) | (go_at_call 50; refine (specVar_any _ _).mono ?_; rintro e w' ⟨rfl, rfl⟩))
          go_ret
          exact ⟨congrArg (fun z => Ending.returned (.bool z)) HN.out.symm, rfl⟩
    · obtain rfl : k = s.size := by omega
      have HN := Lib.hid (isT_all HA.out)
      go_wp2
      go_ret
      exact ⟨congrArg (fun z => Ending.returned (.bool z)) HN.out.symm, rfl⟩

set_option maxHeartbeats 800000 in
theorem specCnt_any (s : ByteArray) (b : UInt8) (w : World) (hs : s.size ≤ maxLen) :
    Calls Try.prog 32 #[.string s, .int .u8 b.toNat] w fun e w' => e = .returned (.int .i64 (cntL s.data.toList b)) ∧ w = w' := by
  unfold maxLen at hs
  go_enter Try.func32, Try.ntmps32
  go_wp2
  go_loop [5, 6] (fun n i => ∃ k m : Nat, i = .int .i64 k ∧ n = .int .i64 m ∧ m ≤ k ∧ k ≤ s.size ∧ cntL (s.data.toList.take k) b = m) (fun _ i => s.size - (intOf i).toNat)
  case atStart => exact ⟨0, 0, rfl, rfl, Nat.le_refl _, Nat.zero_le _, rfl⟩
  case round =>
    obtain ⟨k, m, rfl, rfl, hm, hk, hall⟩ := hrel
    have HA := Lib.hid hall
    clear hall
    by_cases hlt : k < s.size
    · by_cases hb : s[k] = b
      · have HN := Lib.hid (show cntL (s.data.toList.take (k + 1)) b = m + 1 by rw [count_succ s b k hlt, HA.out, if_pos hb])
        subst hb
        go_wp2
        go_round
        case rel => exact ⟨k + 1, m + 1, by go_num, by go_num, by omega, by omega, HN.out⟩
        case measure => simp [intOf]; omega
      · have HN := Lib.hid (show cntL (s.data.toList.take (k + 1)) b = m by rw [count_succ s b k hlt, HA.out, if_neg hb]; rfl)
        have hb' : ((s[k].toNat : Int) == (b.toNat : Int)) = false := by
          simp only [beq_eq_false_iff_ne, ne_eq]; intro e; exact hb (UInt8.toNat_inj.1 (by omega))
        clear hb
        go_wp2
        go_round
        case rel => exact ⟨k + 1, m, by go_num, rfl, by omega, by omega, HN.out⟩
        case measure => simp [intOf]; omega
    · obtain rfl : k = s.size := by omega
      have HN := Lib.hid ((count_end s b).symm.trans HA.out)
      go_wp2
      go_ret
      exact ⟨congrArg (fun z : Nat => Ending.returned (.int .i64 z)) HN.out.symm, rfl⟩


set_option maxRecDepth 100000 in
set_option maxHeartbeats 1600000 in
theorem specVars_any (s : ByteArray) (w : World) (hs : s.size ≤ maxLen) :
    Calls Try.prog 19 #[.string s] w fun e w' => e = .returned (.string (strL (varsL s.data.toList))) ∧ w = w' := by
  obtain ⟨L, hL⟩ : ∃ L, L = s.data.toList := ⟨_, rfl⟩
  rw [← hL]
  have HC := Lib.hid (fun (b : UInt8) w => specCnt_any s b w hs)
  rw [← hL] at HC
  clear hL hs
  go_enter Try.func19, Try.ntmps19
  go_wp2
  rw [strL_nil]
  go_loop [3, 4] (fun o i => ∃ k : Nat, k ≤ 3 ∧ (i = .int .i64 0 ∧ k = 0 ∨ i = .int .i64 1 ∧ k = 1 ∨ i = .int .i64 2 ∧ k = 2 ∨ i = .int .i64 3 ∧ k = 3) ∧ o = .string (strL (varsK L k))) (fun _ i => 3 - (intOf i).toNat)
  case atStart => exact ⟨0, Nat.zero_le _, Or.inl ⟨rfl, rfl⟩, rfl⟩
  case round =>
    obtain ⟨k, hk, hik, rfl⟩ := hrel
    have hz := strL_size (varsK L k)
    have hz2 := varsK_len L k
    rcases hik with ⟨rfl, rfl⟩ | ⟨rfl, rfl⟩ | ⟨rfl, rfl⟩ | ⟨rfl, rfl⟩
    · by_cases hc : 0 < cntL L 88
      · have HN := Lib.hid (varsK_succ L (k := 0) (b := 88) rfl)
        rw [if_pos hc] at HN
        go_wp2_with (go_at_call 32; refine (HC.out 88 _).mono ?_; rintro e w' ⟨rfl, rfl⟩)
        go_round
        case rel => exact ⟨1, by omega, Or.inr (Or.inl ⟨rfl, rfl⟩), by rw [HN.out]; exact congrArg Value.string (strL_snoc _ 88 rfl)⟩
        case measure => simp [intOf]
      · have HN := Lib.hid (varsK_succ L (k := 0) (b := 88) rfl)
        rw [if_neg hc] at HN
        go_wp2_with (go_at_call 32; refine (HC.out 88 _).mono ?_; rintro e w' ⟨rfl, rfl⟩)
        go_round
        case rel => exact ⟨1, by omega, Or.inr (Or.inl ⟨rfl, rfl⟩), by rw [HN.out]; exact congrArg Value.string (by rw [List.append_nil])⟩
        case measure => simp [intOf]
    · by_cases hc : 0 < cntL L 89
      · have HN := Lib.hid (varsK_succ L (k := 1) (b := 89) rfl)
        rw [if_pos hc] at HN
        go_wp2_with (go_at_call 32; refine (HC.out 89 _).mono ?_; rintro e w' ⟨rfl, rfl⟩)
        go_round
        case rel => exact ⟨2, by omega, Or.inr (Or.inr (Or.inl ⟨rfl, rfl⟩)), by rw [HN.out]; exact congrArg Value.string (strL_snoc _ 89 rfl)⟩
        case measure => simp [intOf]
      · have HN := Lib.hid (varsK_succ L (k := 1) (b := 89) rfl)
        rw [if_neg hc] at HN
        go_wp2_with (go_at_call 32; refine (HC.out 89 _).mono ?_; rintro e w' ⟨rfl, rfl⟩)
        go_round
        case rel => exact ⟨2, by omega, Or.inr (Or.inr (Or.inl ⟨rfl, rfl⟩)), by rw [HN.out]; exact congrArg Value.string (by rw [List.append_nil])⟩
        case measure => simp [intOf]
    · by_cases hc : 0 < cntL L 90
      · have HN := Lib.hid (varsK_succ L (k := 2) (b := 90) rfl)
        rw [if_pos hc] at HN
        go_wp2_with (go_at_call 32; refine (HC.out 90 _).mono ?_; rintro e w' ⟨rfl, rfl⟩)
        go_round
        case rel => exact ⟨3, by omega, Or.inr (Or.inr (Or.inr (⟨rfl, rfl⟩))), by rw [HN.out]; exact congrArg Value.string (strL_snoc _ 90 rfl)⟩
        case measure => simp [intOf]
      · have HN := Lib.hid (varsK_succ L (k := 2) (b := 90) rfl)
        rw [if_neg hc] at HN
        go_wp2_with (go_at_call 32; refine (HC.out 90 _).mono ?_; rintro e w' ⟨rfl, rfl⟩)
        go_round
        case rel => exact ⟨3, by omega, Or.inr (Or.inr (Or.inr (⟨rfl, rfl⟩))), by rw [HN.out]; exact congrArg Value.string (by rw [List.append_nil])⟩
        case measure => simp [intOf]
    · have HN := Lib.hid (varsK_end L)
      go_wp2
      go_ret
      exact ⟨by rw [HN.out]; rfl, rfl⟩

set_option maxRecDepth 100000 in
set_option maxHeartbeats 1600000 in
theorem specRep_any (s t : ByteArray) (b : UInt8) (w : World) (hs : s.size ≤ 1048576) (ht : t.size ≤ 1048576) :
    Calls Try.prog 33 #[.string s, .int .u8 b.toNat, .string t] w fun e w' => e = .returned (.string (strL (limB (subL (repF b t) s.data.toList)))) ∧ w = w' := by
  obtain ⟨f, hf⟩ : ∃ f, f = repF b t := ⟨_, rfl⟩
  have HF : Hid (∀ c, f c = if c = b then t.data.toList else [c]) := Lib.hid (fun c => by rw [hf]; rfl)
  rw [← hf]
  clear hf
  go_enter Try.func33, Try.ntmps33
  go_wp2
  rw [strL_nil]
  go_loop [7, 8] (fun o i => ∃ (k : Nat) (L : List UInt8), i = .int .i64 k ∧ k ≤ s.size ∧ o = .string (strL L) ∧ L = subL f (s.data.toList.take k) ∧ L.length ≤ 1048576) (fun _ i => s.size - (intOf i).toNat)
  case atStart => exact ⟨0, [], rfl, Nat.zero_le _, rfl, rfl, by simp⟩
  case round =>
    obtain ⟨k, L, rfl, hk, rfl, hL, hl⟩ := hrel
    have HL := Lib.hid hL
    clear hL
    have hz := strL_size L
    by_cases hlt : k < s.size
    · have HS := Lib.hid (sub_succ f s k hlt)
      by_cases hb : s[k] = b
      · have HN := Lib.hid (show subL f (s.data.toList.take (k + 1)) = L ++ t.data.toList by rw [HS.out, ← HL.out, HF.out, if_pos hb])
        have HA := Lib.hid (strL_app L _ (rfl : t.data.toList = t.data.toList))
        have hn : (L ++ t.data.toList).length = L.length + t.size := by simp
        obtain ⟨M, hM⟩ : ∃ M, M = L ++ t.data.toList := ⟨_, rfl⟩
        rw [← hM] at HN HA hn
        clear hM
        have hz2 := strL_size M
        by_cases hq : M.length ≤ 1048576
        · subst hb
          go_wp2_with (first | rw [HA.out] | fail)
          go_round
          case rel => exact ⟨k + 1, M, by go_num, by omega, HA.out ▸ rfl, HN.out.symm, hq⟩
          case measure => simp [intOf]; omega
        · have HO := Lib.hid (sub_over (f := f) (l := s.data.toList) (k := k + 1) (by rw [HN.out]; exact hq))
          subst hb
          go_wp2_with (first | rw [HA.out] | fail)
          go_ret
          exact ⟨by rw [HO.out]; rfl, rfl⟩
      · have hx := one_extract s k hlt
        have HN := Lib.hid (show subL f (s.data.toList.take (k + 1)) = L ++ [s[k]] by rw [HS.out, ← HL.out, HF.out, if_neg hb])
        have HA := Lib.hid (strL_app L _ hx)
        have hb' : ((s[k].toNat : Int) == (b.toNat : Int)) = false := by
          simp only [beq_eq_false_iff_ne, ne_eq]; intro e; exact hb (UInt8.toNat_inj.1 (by omega))
        clear hb hx HS
        have hn : (L ++ [s[k]]).length = L.length + 1 := by simp
        obtain ⟨M, hM⟩ : ∃ M, M = L ++ [s[k]] := ⟨_, rfl⟩
        rw [← hM] at HN HA hn
        clear hM
        have hz2 := strL_size M
        by_cases hq : M.length ≤ 1048576
        · go_wp2
          go_round
          case rel => exact ⟨k + 1, M, by go_num, by omega, HA.out ▸ rfl, HN.out.symm, hq⟩
          case measure => simp [intOf]; omega
        · have HO := Lib.hid (sub_over (f := f) (l := s.data.toList) (k := k + 1) (by rw [HN.out]; exact hq))
          go_wp2
          go_ret
          exact ⟨by rw [HO.out]; rfl, rfl⟩
    · obtain rfl : k = s.size := by omega
      have HN := Lib.hid (sub_fits (f := f) (s := s) (by rw [← HL.out]; exact hl))
      rw [← HL.out] at HN
      go_wp2
      go_ret
      exact ⟨by rw [HN.out]; rfl, rfl⟩
end Go.Proofs.Ytiijlpmdnokjfaa
