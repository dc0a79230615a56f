/-
  What impl.AcceptedWords answers.
-/
import Derived.Test.YthmfncklepkddabAwdS
import Derived.Test.YthmfncklepkddabRunI
import Derived.Test.YthmfncklepkddabImplTo
namespace Go.Proofs.Ythmfncklepkddab
open Go.RowKit

theorem awdR_len (d : Dx) (n : Int) : (awdR d n).length ≤ 2097152 := by
  have h1 := List.length_filter_le (accR d) (under (mostU n))
  have h2 := under_le (mostU n) (mostU_le n)
  unfold awdR
  omega
theorem implTo_all (n : Int) (w : World) : Calls Try.prog 28 #[.int .i64 n] w (SplPost (under (mostU n)) w) := by
  unfold mostU
  by_cases h : n < 0
  · rw [if_pos h]
    exact implTo_none n w h
  · rw [if_neg h]
    have e : ∀ k, under (k + 1) = wordsTo k := fun k => under_succ k
    by_cases h5 : 5 < n
    · rw [if_pos h5, e 5]
      exact implTo_any n 5 w (by omega) (by omega) (by rw [if_pos h5]; rfl)
    · rw [if_neg h5, e n.toNat]
      exact implTo_any n n.toNat w (by omega) (by omega) (by rw [if_neg h5]; omega)

set_option maxRecDepth 100000 in
set_option maxHeartbeats 3200000 in
theorem implAwd_any (va vn : Value) (d : Dx) (S : Nat → Prop) (n : Int) (w : World) (h : DfaV w S va vn d) :
    Calls Try.prog 11 #[.agg #[va, vn], .int .i64 n] w (SplPost (awdR d n) w) := by
  obtain ⟨i0, hi, hz0, hz1, hz2⟩ := info_parts strInfo
  obtain ⟨W0, hW0⟩ : ∃ W0, W0 = w.alloc (.cells #[va, vn] 28) := ⟨_, rfl⟩
  have HB0 : Hid (Below w.heap.size w W0) := Lib.hid (by rw [hW0]; exact (Below.refl _ _).alloc (Nat.le_refl _) _)
  have HX : Hid (Bx2 W0 w.heap.size va vn) := Lib.hid (by
    have k := box2_kept (w := w) (w1 := W0) (a := va) (b := vn) (t := 28) (by rw [hW0]; exact Below.refl _ _)
    exact ⟨k.2.1, k.2.2.1⟩)
  have HAc := Lib.hid (fun (V : World) (hV : Below w.heap.size w V) (s : ByteArray) (hs : s.size ≤ 100) => implAcc_any va vn d S s V (h.kept hV) (by omega))
  have HTo := Lib.hid (implTo_all n W0)
  obtain ⟨⟨A, c, rfl⟩, A', c', rfl⟩ := h.shape
  have hul := under_le (mostU n) (mostU_le n)
  have HSh : Hid (∀ (k : Nat) (x : List UInt8), (under (mostU n))[k]? = some x → x.length ≤ 100) := Lib.hid (fun k x hx => by
    have h1 := under_short (List.mem_of_getElem? hx)
    have h2 := mostU_le n
    omega)
  show Calls _ _ _ _ (SplPost ((under (mostU n)).filter (accR d)) w)
  obtain ⟨L, hL⟩ : ∃ L, L = under (mostU n) := ⟨_, rfl⟩
  rw [← hL] at hul HSh HTo ⊢
  obtain ⟨N, hN⟩ : ∃ N, N = L.length := ⟨_, rfl⟩
  rw [← hN] at hul
  have HN := Lib.hid hN
  clear h hL hN
  go_enter Try.func11, Try.ntmps11
  go_upto_region 2 with fail
  rw [← hW0]
  clear hW0
  go_wp2_with fail
  refine HTo.out.mono ?_
  rintro e w1 ⟨v, rfl, hown1, hb1⟩
  have HB1 := Lib.hid (HB0.out.trans (hb1.mono HB0.out.size))
  have HX1 := Lib.hid (HX.out.kept hb1)
  have HR1 := Lib.hid ((RowO.of_owns hown1 (by rw [← HN.out]; omega)).row)
  obtain ⟨Al, cl, hv⟩ := (RowO.of_owns hown1 (by rw [← HN.out]; omega)).row.shape
  rw [strs_length] at hv
  rw [← HN.out] at hv
  subst hv
  clear hown1 hb1
  go_wp2_with fail
  go_loopw [5, 11] (fun v iv wr => ∃ k : Nat, iv = .int .i64 k ∧ k ≤ N ∧ Hid (wr.ownsRow w1.heap.size 9 1 v ((L.take k).filter (accR d)).length (strs ((L.take k).filter (accR d)))) ∧ Hid (Below w1.heap.size w1 wr)) (fun _ iv _ => N - (intOf iv).toNat)
  case atStart => exact ⟨0, rfl, Nat.zero_le _, Lib.hid ⟨rfl, .inl ⟨rfl, rfl⟩⟩, Lib.hid (Below.refl _ _)⟩
  case round =>
    obtain ⟨k, rfl, hk, HO, HBr⟩ := hrel
    have HBw := Lib.hid (HB1.out.trans (HBr.out.mono HB1.out.size))
    by_cases hlt : k < N
    · have hd : decide ((k : Int) < (N : Int)) = true := by simp; omega
      obtain ⟨x, hx⟩ : ∃ x, L[k]? = some x := ⟨_, List.getElem?_eq_getElem (by rw [← HN.out]; exact hlt)⟩
      have HS := Lib.hid (filter_snoc (p := accR d) hx)
      obtain ⟨-, A2, c2, hA2, hc⟩ := HR1.out.kept HBr.out
      injection hA2 with e1 e2 e3
      subst e1
      clear e2 e3
      obtain ⟨ad1, had, -, hcx⟩ := hc k (.string ⟨x.toArray⟩) (by simp [strs, hx])
      subst had
      obtain ⟨s, hs⟩ : ∃ s : ByteArray, s = ⟨x.toArray⟩ := ⟨_, rfl⟩
      rw [← hs] at hcx
      have hsz : s.size ≤ 100 := by
        rw [hs]
        have := HSh.out k x hx
        simpa [ByteArray.size] using this
      have HSx : Hid (s.data.toList = x) := Lib.hid (by rw [hs])
      have HSt : Hid (Value.string s = .string ⟨x.toArray⟩) := Lib.hid (by rw [hs])
      obtain ⟨p0, p1⟩ := HX1.out.kept HBr.out
      have HAk := Lib.hid (HAc.out wr HBw.out s hsz)
      rw [HSx.out] at HAk
      have s1 : (0 : Int) ≤ (k : Int) := by omega
      have s2 : (k : Int) < (N : Int) := by omega
      obtain ⟨b, hb⟩ : ∃ b, b = accR d x := ⟨_, rfl⟩
      rw [← hb] at HAk HS
      clear hs hx hc hb
      go_wp2_with fail
      go_at_call 29
      refine HAk.out.mono ?_
      rintro e1 w4 ⟨rfl, hb4⟩
      have HB4 := Lib.hid (HBr.out.trans (hb4.mono HBr.out.size))
      have HO4 := Lib.hid (owns_below HO.out hb4)
      have hfl : ((L.take k).filter (accR d)).length ≤ N := by rw [HN.out]; exact filter_le
      obtain ⟨F, hF⟩ : ∃ F, F = (L.take k).filter (accR d) := ⟨_, rfl⟩
      obtain ⟨F2, hF2⟩ : ∃ F, F = (L.take (k + 1)).filter (accR d) := ⟨_, rfl⟩
      rw [← hF] at HS HO4 hfl
      rw [← hF2] at HS
      have HF2 := Lib.hid hF2
      clear hF hF2 hb4 p0 p1 hcx
      cases b with
      | true =>
        have HS2 : Hid (F2 = F ++ [x]) := Lib.hid (by rw [HS.out]; rfl)
        have hz4 : w1.heap.size ≤ w4.heap.size := HB4.out.size
        go_wp2_with (at_builtin; refine wpList_append_own_at _ rfl (.tmp 18) (.tmp 20) 32 rfl w1.heap.size 9 i0 (.string ⟨#[]⟩) 1 16 Try.underlying32 hi hz0 hz1 hz2 rfl (by decide) _ _ _ rfl (HO4.out.alloc _) ⟨w4.heap.size, 0, none⟩ 1 1 [.string s] rfl rfl (cell_one_new _ _ _) (by simp [Value.oneCell']) (by unfold maxLen; omega) (by omega) (by simp; omega) ?_)
        intro v5 w5 hown5 hgrow5 hnil5 hat5
        have HO5 : Hid (w5.ownsRow w1.heap.size 9 1 v5 F2.length (strs F2)) := Lib.hid (by
          rw [HS2.out, strs_append, List.length_append]
          rw [HSt.out] at hown5
          exact hown5)
        have HB5 := Lib.hid ((HB4.out.alloc hz4 (.cells #[.string s] 9)).grown hgrow5 (by simp; omega) (fun g e => (HO4.out.lt g e).1))
        clear hown5 hgrow5 hnil5 hat5
        go_wp2_with fail
        go_roundw
        case rel => exact ⟨k + 1, by go_num, by omega, by rw [← HF2.out]; exact HO5, HB5⟩
        case measure => simp [intOf]; omega
      | false =>
        have HS2 : Hid (F2 = F) := Lib.hid (by rw [HS.out]; simp)
        go_wp2_with fail
        go_roundw
        case rel => exact ⟨k + 1, by go_num, by omega, by rw [← HF2.out, HS2.out]; exact HO4, HB4⟩
        case measure => simp [intOf]; omega
    · have hke : k = N := by omega
      have hd : decide ((k : Int) < (N : Int)) = false := by simp; omega
      have HOf : Hid (wr.ownsRow w1.heap.size 9 1 u5 (L.filter (accR d)).length (strs (L.filter (accR d)))) := Lib.hid (by
        have h := HO.out
        rw [hke, HN.out, List.take_length] at h
        exact h)
      clear HO hke
      go_wp2_with fail
      go_ret
      exact ⟨_, rfl, own_on HOf.out (fun _ _ => rfl) HB1.out.size, HBw.out⟩
end Go.Proofs.Ythmfncklepkddab
