/-
  What laws.heldDfa and what it calls answer.
-/
import Derived.Test.YthmfncklepkddaaDfaX
namespace Go.Proofs.Ythmfncklepkddaa
open Go.RowKit

set_option maxRecDepth 100000 in
set_option maxHeartbeats 800000 in
theorem heldIntS_any (k0 n : Nat) (v : Value) (S : Nat → Prop) (w : World) (h : RowV w S v (ints (intMark k0 n))) (hn : n ≤ 2097152) (hk : k0 ≤ 16777216) :
    Calls Try.prog 112 #[v, .int .i64 (k0 : Int)] w fun e w' => e = .returned (.int .i64 ((k0 + n : Nat) : Int)) ∧ ∃ m, w' = w.drewN m := by
  obtain ⟨A, c, rfl⟩ := h.shape
  have HE := Lib.hid (fun j (hj : j < n) => h.at (j := j) (by rw [ints_length, intMark_length]; exact hj))
  clear h
  rw [ints_length, intMark_length]
  go_enter Try.func112, Try.ntmps112
  go_wp2_with fail
  go_loopw [1, 5] (fun y i wr => ∃ j m : Nat, i = .int .i64 j ∧ y = .int .i64 ((k0 + j : Nat) : Int) ∧ j ≤ n ∧ wr = w.drewN m) (fun _ i _ => n - (intOf i).toNat)
  case atStart => exact ⟨0, 0, rfl, rfl, Nat.zero_le _, rfl⟩
  case round =>
    obtain ⟨j, m, rfl, rfl, hj, rfl⟩ := hrel
    by_cases hlt : j < n
    · obtain ⟨ad, rfl, -, hc1⟩ := HE.out j hlt
      rw [ints_at (by rw [intMark_length]; exact hlt), intMark_at hlt] at hc1
      have hne : ((((k0 + j : Nat) : Int)) != (((k0 + j : Nat) : Int))) = false := by simp
      go_wp2_with fail
      go_roundw
      case rel => exact ⟨j + 1, _, by go_num, by go_num, by omega, rfl⟩
      case measure => simp [intOf]; omega
    · obtain rfl : j = n := by omega
      go_wp2_with fail
      go_ret
      exact ⟨rfl, m, rfl⟩
theorem heldIntS_b (k0 n : Nat) (v : Value) (S : Nat → Prop) (w : World) (h : RowV w S v (ints (intMark k0 n))) (hn : n ≤ 2097152) (hk : k0 ≤ 16777216) :
    Calls Try.prog 112 #[v, .int .i64 (k0 : Int)] w fun e w' => e = .returned (.int .i64 ((k0 + n : Nat) : Int)) ∧ Below w.heap.size w w' :=
  (heldIntS_any k0 n v S w h hn hk).mono fun _ _ ⟨he, m, hm⟩ => ⟨he, by rw [hm]; exact below_draws (Below.refl _ _) m⟩
set_option maxRecDepth 100000 in
set_option maxHeartbeats 800000 in
theorem heldIntSS_any (k0 : Nat) (v : Value) (rs : List (List Int)) (S : Nat → Prop) (w : World) (h : RowVV w S v (intss (marksR k0 rs))) (hn : rs.length + totR rs ≤ 2097152) (hk : k0 ≤ 8388608) :
    Calls Try.prog 94 #[v, .int .i64 (k0 : Int)] w fun e w' => e = .returned (.int .i64 ((k0 + totR rs : Nat) : Int)) ∧ Below w.heap.size w w' := by
  obtain ⟨-, A, c, rfl⟩ := h.shape
  rw [intss_length, marksR_length] at h ⊢
  have HE := Lib.hid h
  clear h
  go_enter Try.func94, Try.ntmps94
  go_wp2_with fail
  go_loopw [1, 5] (fun y i wr => ∃ j : Nat, i = .int .i64 j ∧ y = .int .i64 ((k0 + totR (rs.take j) : Nat) : Int) ∧ j ≤ rs.length ∧ Below w.heap.size w wr) (fun _ i _ => rs.length - (intOf i).toNat)
  case atStart => exact ⟨0, rfl, by simp [totR], Nat.zero_le _, Below.refl _ _⟩
  case round =>
    obtain ⟨j, rfl, rfl, hj, hb⟩ := hrel
    have HB := Lib.hid hb
    clear hb
    by_cases hlt : j < rs.length
    · obtain ⟨ad, u, rfl, -, hc, hr⟩ := (HE.out.kept HB.out).at (j := j) (by rw [intss_length, marksR_length]; exact hlt)
      rw [intss_at (by rw [marksR_length]; exact hlt)] at hr
      have e : (marksR k0 rs)[j]'(by rw [marksR_length]; exact hlt) = intMark (k0 + totR (rs.take j)) (rs[j]).length := by
        have := marksR_at k0 rs j hlt
        rw [List.getElem?_eq_getElem (by rw [marksR_length]; exact hlt)] at this
        exact Option.some.inj this
      rw [e] at hr
      have hT := totR_step hlt
      have hT2 := totR_take rs (j + 1)
      have HI := Lib.hid (heldIntS_b (k0 + totR (rs.take j)) (rs[j]).length u S wr hr (by omega) (by omega))
      obtain ⟨A', c', hus⟩ := hr.shape
      rw [ints_length, intMark_length] at hus
      subst hus
      obtain ⟨y, hy⟩ : ∃ y, y = k0 + totR (rs.take j) := ⟨_, rfl⟩
      rw [← hy] at HI ⊢
      obtain ⟨y2, hy2⟩ : ∃ y2, y2 = y + (rs[j]).length := ⟨_, rfl⟩
      rw [← hy2] at HI
      have HY2 : Hid (y2 = k0 + totR (rs.take (j + 1))) := Lib.hid (by omega)
      clear hr e hT hT2 hy hy2
      go_wp2_with fail
      refine HI.out.mono ?_
      rintro e w2 ⟨rfl, hb2⟩
      have HB2 := Lib.hid (HB.out.trans (hb2.mono HB.out.size))
      have hng : ¬ (y2 : Int) < 0 := by omega
      clear hb2
      go_wp2_with fail
      go_roundw
      case rel => exact ⟨j + 1, by go_num, by rw [HY2.out], by omega, HB2.out⟩
      case measure => simp [intOf]; omega
    · obtain rfl : j = rs.length := by omega
      rw [List.take_length]
      go_wp2_with fail
      go_ret
      exact ⟨rfl, HB.out⟩
set_option maxRecDepth 100000 in
set_option maxHeartbeats 800000 in
theorem heldDfa_any (k0 : Nat) (va vn : Value) (d : Dx) (S : Nat → Prop) (w : World) (h : DfaV w S va vn (markD k0 d)) (hn : wtD d ≤ 1048576) (hk : k0 ≤ 4194304) :
    Calls Try.prog 43 #[.agg #[va, vn], .int .i64 (k0 : Int)] w fun e w' => e = .returned (.int .i64 ((k0 + lenD d : Nat) : Int)) ∧ Below w.heap.size w w' := by
  unfold wtD at hn
  obtain ⟨⟨A, c, hA⟩, A', c', hA'⟩ := h.shape
  have ha : (markD k0 d).acc.length = d.acc.length := boolMark_length _ _
  have hb : (markD k0 d).nxt.length = d.nxt.length := marksR_length _ _
  rw [ha] at hA
  rw [hb] at hA'
  subst hA
  subst hA'
  have HB0 := Lib.hid ((Below.refl w.heap.size w).alloc (Nat.le_refl _) (.cells #[.slice A d.acc.length c, .slice A' d.nxt.length c'] 27))
  have HA := Lib.hid (fun (V : World) (hV : Below w.heap.size w V) => heldBoolS_b k0 d.acc.length _ S V (h.1.kept hV) (by omega) (by omega))
  have HN := Lib.hid (fun (V : World) (hV : Below w.heap.size w V) => heldIntSS_any (k0 + d.acc.length) _ d.nxt S V (h.2.kept hV) (by omega) (by omega))
  clear h ha hb
  obtain ⟨y, hy⟩ : ∃ y, y = k0 + d.acc.length := ⟨_, rfl⟩
  have hR : k0 + lenD d = y + totR d.nxt := by unfold lenD; omega
  rw [hR]
  rw [← hy] at HA HN
  clear hy hR
  go_enter Try.func43, Try.ntmps43
  go_wp2_with fail
  refine (HA.out _ HB0.out).mono ?_
  rintro e w1 ⟨rfl, hb1⟩
  have hb1' : Below (w.heap.size + 1) (w.alloc (.cells #[.slice A d.acc.length c, .slice A' d.nxt.length c'] 27)) w1 := by simpa using hb1
  obtain ⟨-, c0, c1, -⟩ := box2_kept hb1'
  have HW1 := Lib.hid (HB0.out.trans (hb1'.mono (Nat.le_succ _)))
  have hng : ¬ (y : Int) < 0 := by omega
  clear hb1 hb1'
  go_wp2_with fail
  refine (HN.out _ HW1.out).mono ?_
  rintro e w2 ⟨rfl, hb2⟩
  have HW2 := Lib.hid (HW1.out.trans (hb2.mono HW1.out.size))
  have hng2 : ¬ ((y + totR d.nxt : Nat) : Int) < 0 := by omega
  clear hb2
  go_wp2_with fail
  go_ret
  exact ⟨rfl, HW2.out⟩
end Go.Proofs.Ythmfncklepkddaa
