/-
  What spec.AcceptedWords answers.
-/
import Derived.Test.YthmfncklepkddabAccS
import Derived.Test.YthmfncklepkddabSpecTo
import Derived.Test.YthmfncklepkddabGrow
import Derived.Deep.RegionHeld3
import Derived.Deep.CutRange
namespace Go.Proofs.Ythmfncklepkddab
open Go.RowKit

theorem under_short : ∀ {k : Nat} {x : List UInt8}, x ∈ under k → x.length < k
  | 0, x, h => by simp [under] at h
  | k + 1, x, h => by
    unfold under at h
    rcases List.mem_append.1 h with h | h
    · have := under_short h
      omega
    · have := wordsOf_len k x h
      omega
/-- How many lengths WordsUpTo lists. -/
def mostU (n : Int) : Nat := if n < 0 then 0 else if 5 < n then 6 else n.toNat + 1
theorem mostU_le (n : Int) : mostU n ≤ 6 := by
  unfold mostU
  split
  · omega
  · split <;> omega
theorem specTo_all (n : Int) (w : World) (hn : n ≤ 9223372036854775807) : Calls Try.prog 26 #[.int .i64 n] w (SplPost (under (mostU n)) w) := by
  refine specTo_any n (mostU n) w (mostU_le n) (fun k hk => ?_) (fun h => ?_) hn
  · unfold mostU at hk
    split at hk
    · omega
    · split at hk <;> omega
  · unfold mostU at h ⊢
    split at h
    · omega
    · rename_i h0
      rw [if_neg h0]
      split at h
      · rename_i h5
        rw [if_pos h5]
        exact Nat.le_refl _
      · omega
/-- What AcceptedWords answers. -/
def awdR (d : Dx) (n : Int) : List (List UInt8) := (under (mostU n)).filter (accR d)
theorem filter_snoc {p : List UInt8 → Bool} {L : List (List UInt8)} {k : Nat} {x : List UInt8} (h : L[k]? = some x) : (L.take (k + 1)).filter p = (L.take k).filter p ++ (if p x then [x] else []) := by
  rw [List.take_add_one, h, List.filter_append]
  simp [List.filter_cons]
theorem filter_le {p : List UInt8 → Bool} {L : List (List UInt8)} {k : Nat} : ((L.take k).filter p).length ≤ L.length :=
  Nat.le_trans (List.length_filter_le _ _) (by simp [List.length_take]; omega)

set_option maxRecDepth 100000 in
set_option maxHeartbeats 3200000 in
theorem specAwd_any (va vn : Value) (d : Dx) (S : Nat → Prop) (n : Int) (w : World) (h : DfaV w S va vn d) (hn : n ≤ 9223372036854775807) :
    Calls Try.prog 10 #[.agg #[va, vn], .int .i64 n] w (SplPost (awdR d n) w) := by
  obtain ⟨i0, hi, hz0, hz1, hz2⟩ := info_parts strInfo
  obtain ⟨W0, hW0⟩ : ∃ W0, W0 = w.alloc (.cells #[va, vn] 28) := ⟨_, rfl⟩
  have HB0 : Hid (Below w.heap.size w W0) := Lib.hid (by rw [hW0]; exact (Below.refl _ _).alloc (Nat.le_refl _) _)
  have HX : Hid (Bx2 W0 w.heap.size va vn) := Lib.hid (by
    have k := box2_kept (w := w) (w1 := W0) (a := va) (b := vn) (t := 28) (by rw [hW0]; exact Below.refl _ _)
    exact ⟨k.2.1, k.2.2.1⟩)
  have HAc := Lib.hid (fun (V : World) (hV : Below w.heap.size w V) (s : ByteArray) (hs : s.size ≤ 100) => specAcc_any va vn d S s V (h.kept hV) (by omega))
  have HTo := Lib.hid (specTo_all n W0 hn)
  obtain ⟨⟨A, c, rfl⟩, A', c', rfl⟩ := h.shape
  have hul := under_le (mostU n) (mostU_le n)
  have HSh : Hid (∀ (k : Nat) (x : List UInt8), (under (mostU n))[k]? = some x → x.length ≤ 100) := Lib.hid (fun k x hx => by
    have h1 := under_short (List.mem_of_getElem? hx)
    have h2 := mostU_le n
    omega)
  show Calls _ _ _ _ (SplPost ((under (mostU n)).filter (accR d)) w)
  obtain ⟨L, hL⟩ : ∃ L, L = under (mostU n) := ⟨_, rfl⟩
  rw [← hL] at hul HSh HTo ⊢
  obtain ⟨N, hN⟩ : ∃ N, N = L.length := ⟨_, rfl⟩
  rw [← hN] at hul
  have HN := Lib.hid hN
  clear h hL hN
  go_enter Try.func10, Try.ntmps10
  go_upto_region 1 with fail
  rw [← hW0]
  clear hW0
  go_wp2_with fail
  refine HTo.out.mono ?_
  rintro e w1 ⟨v, rfl, hown1, hb1⟩
  have HB1 := Lib.hid (HB0.out.trans (hb1.mono HB0.out.size))
  have HX1 := Lib.hid (HX.out.kept hb1)
  have HO1 := Lib.hid hown1
  have HR1 := Lib.hid ((RowO.of_owns hown1 (by rw [← HN.out]; omega)).row)
  obtain ⟨Al, cl, hv⟩ := (RowO.of_owns hown1 (by rw [← HN.out]; omega)).row.shape
  rw [strs_length] at hv
  rw [← HN.out] at hv
  subst hv
  clear hown1 hb1
  go_wp2_with fail
  go_loopw [6, 7] (fun v iv wr => ∃ k : Nat, iv = .int .i64 k ∧ k ≤ N ∧ Hid (wr.ownsRow w1.heap.size 9 1 v ((L.take k).filter (accR d)).length (strs ((L.take k).filter (accR d)))) ∧ Hid (Below w1.heap.size w1 wr)) (fun _ iv _ => N - (intOf iv).toNat)
  case atStart => exact ⟨0, rfl, Nat.zero_le _, Lib.hid (World.ownsRow_made w1 #[] 0 (Nat.le_refl _) (by unfold maxLen; omega) rfl), Lib.hid ((Below.refl _ _).alloc (Nat.le_refl _) _)⟩
  case round =>
    obtain ⟨k, rfl, hk, HO, HBr⟩ := hrel
    have HBw := Lib.hid (HB1.out.trans (HBr.out.mono HB1.out.size))
    by_cases hlt : k < N
    · have hd : decide ((k : Int) < (N : Int)) = true := by simp; omega
      obtain ⟨x, hx⟩ : ∃ x, L[k]? = some x := ⟨_, List.getElem?_eq_getElem (by rw [← HN.out]; exact hlt)⟩
      have HS := Lib.hid (filter_snoc (p := accR d) hx)
      obtain ⟨-, A2, c2, hA2, hc⟩ := HR1.out.kept HBr.out
      injection hA2 with e1 e2 e3
      subst e1
      clear e2 e3
      obtain ⟨ad1, had, -, hcx⟩ := hc k (.string ⟨x.toArray⟩) (by simp [strs, hx])
      subst had
      obtain ⟨s, hs⟩ : ∃ s : ByteArray, s = ⟨x.toArray⟩ := ⟨_, rfl⟩
      rw [← hs] at hcx
      have hsz : s.size ≤ 100 := by
        rw [hs]
        have := HSh.out k x hx
        simpa [ByteArray.size] using this
      have HSx : Hid (s.data.toList = x) := Lib.hid (by rw [hs])
      have HSt : Hid (Value.string s = .string ⟨x.toArray⟩) := Lib.hid (by rw [hs])
      have HKe := Lib.hid (fun (V : World) (hV : Below wr.heap.size wr V) => (⟨((HX1.out.kept HBr.out).kept hV).1, ((HX1.out.kept HBr.out).kept hV).2, (hV.cell (cell_in hcx)).trans hcx⟩ :
        V.cell? ⟨w.heap.size, 0, none⟩ = some (.slice A d.acc.length c) ∧ V.cell? ⟨w.heap.size, 1, none⟩ = some (.slice A' d.nxt.length c') ∧ V.cell? (ad1.add k) = some (.string s)))
      have HAk := Lib.hid (fun (V : World) (hV : Below wr.heap.size wr V) => HAc.out V (HBw.out.trans (hV.mono HBw.out.size)) s hsz)
      rw [HSx.out] at HAk
      have s1 : (0 : Int) ≤ (k : Int) := by omega
      have s2 : (k : Int) < (N : Int) := by omega
      have hbw : Below wr.heap.size wr wr := Below.refl _ _
      obtain ⟨b, hb⟩ : ∃ b, b = accR d x := ⟨_, rfl⟩
      rw [← hb] at HAk HS
      clear hs hx hc hcx hb
      go_wp2_with fail
      go_region_held3 (fun V => V.cell? ⟨w.heap.size, 0, none⟩ = some (.slice A d.acc.length c) ∧ V.cell? ⟨w.heap.size, 1, none⟩ = some (.slice A' d.nxt.length c') ∧ V.cell? (ad1.add k) = some (.string s)) (first | exact HKe.out _ hbw.drew | exact HKe.out _ hbw) (first | (go_at_call 27; (with_reducible refine (HAk.out _ hbw.drew).mono ?_); rintro e1 w4 ⟨rfl, hb4⟩; have hbw := hbw.drew.trans (hb4.mono hbw.drew.size)))
      have HB4 := Lib.hid (HBr.out.trans (hbw.mono HBr.out.size))
      have HO4 := Lib.hid (owns_below HO.out hbw)
      have hc4 := (HKe.out _ hbw).2.2
      have hfl : ((L.take k).filter (accR d)).length ≤ N := by rw [HN.out]; exact filter_le
      obtain ⟨F, hF⟩ : ∃ F, F = (L.take k).filter (accR d) := ⟨_, rfl⟩
      obtain ⟨F2, hF2⟩ : ∃ F, F = (L.take (k + 1)).filter (accR d) := ⟨_, rfl⟩
      rw [← hF] at HS HO4 hfl
      rw [← hF2] at HS
      have HF2 := Lib.hid hF2
      clear hF hF2 hbw
      cases b with
      | true =>
        have HS2 : Hid (F2 = F ++ [x]) := Lib.hid (by rw [HS.out]; rfl)
        have hz4 : w1.heap.size ≤ w4.heap.size := HB4.out.size
        go_wp2_with (at_builtin; refine wpList_append_own_at _ rfl (.tmp 23) (.tmp 28) 32 rfl w1.heap.size 9 i0 (.string ⟨#[]⟩) 1 16 Try.underlying32 hi hz0 hz1 hz2 rfl (by decide) _ _ _ rfl (HO4.out.alloc _) ⟨w4.heap.size, 0, none⟩ 1 1 [.string s] rfl rfl (cell_one_new _ _ _) (by simp [Value.oneCell']) (by unfold maxLen; omega) (by omega) (by simp; omega) ?_)
        intro v5 w5 hown5 hgrow5 hnil5 hat5
        have HO5 : Hid (w5.ownsRow w1.heap.size 9 1 v5 F2.length (strs F2)) := Lib.hid (by
          rw [HS2.out, strs_append, List.length_append]
          rw [HSt.out] at hown5
          exact hown5)
        have HB5 := Lib.hid ((HB4.out.alloc hz4 (.cells #[.string s] 9)).grown hgrow5 (by simp; omega) (fun g e => (HO4.out.lt g e).1))
        clear hown5 hgrow5 hnil5 hat5 hc4
        go_wp2_with fail
        go_roundw
        case rel => exact ⟨k + 1, by go_num, by omega, by rw [← HF2.out]; exact HO5, HB5⟩
        case measure => simp [intOf]; omega
      | false =>
        have HS2 : Hid (F2 = F) := Lib.hid (by rw [HS.out]; simp)
        clear hc4
        go_wp2_with fail
        go_roundw
        case rel => exact ⟨k + 1, by go_num, by omega, by rw [← HF2.out, HS2.out]; exact HO4, HB4⟩
        case measure => simp [intOf]; omega
    · have hke : k = N := by omega
      have hd : decide ((k : Int) < (N : Int)) = false := by simp; omega
      have HOf : Hid (wr.ownsRow w1.heap.size 9 1 u6 (L.filter (accR d)).length (strs (L.filter (accR d)))) := Lib.hid (by
        have h := HO.out
        rw [hke, HN.out, List.take_length] at h
        exact h)
      clear HO hke
      go_wp2_with fail
      go_ret
      exact ⟨_, rfl, own_on HOf.out (fun _ _ => rfl) HB1.out.size, HBw.out⟩
end Go.Proofs.Ythmfncklepkddab
