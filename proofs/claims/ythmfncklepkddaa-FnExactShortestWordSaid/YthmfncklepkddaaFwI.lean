/-
  What slices.Index answers over truth values, and what impl.firstWord answers over ints: the first word that leads to what is wanted.
-/
import Derived.Test.YthmfncklepkddaaFwtI
import Derived.Test.YthmfncklepkddaaLangR
import Derived.Test.YthmfncklepkddaaExpI
namespace Go.Proofs.Ythmfncklepkddaa
open Go.RowKit

set_option maxRecDepth 100000 in
set_option maxHeartbeats 1600000 in
theorem libIxB_any (ad : Addr) (n c : Nat) (A : Nat → Bool) (w : World) (hn : n ≤ 100000) (hc : ∀ j, j < n → w.cell? (ad.add j) = some (.bool (A j))) :
    Calls Try.prog 97 #[.slice (some ad) n c, .bool true] w fun e w' => e = .returned (.int .i64 (ixI A n)) ∧ w = w' := by
  have HC := Lib.hid hc
  clear hc
  go_enter Try.func97, Try.ntmps97
  go_wp2_with fail
  go_loop [8] (fun i => ∃ j : Nat, i = .int .i64 j ∧ j ≤ n ∧ Hid (∀ i, i < j → A i = false)) (fun i => n - (intOf i).toNat)
  case atStart => exact ⟨0, rfl, Nat.zero_le _, Lib.hid (fun i hi => absurd hi (Nat.not_lt_zero _))⟩
  case round =>
    obtain ⟨j, rfl, hj, HA⟩ := hrel
    by_cases hlt : j < n
    · have hcj := HC.out j hlt
      obtain ⟨x, hx⟩ : ∃ x, x = A j := ⟨_, rfl⟩
      rw [← hx] at hcj
      have s0 : (j : Int) < (n : Int) := by omega
      have s1 : (0 : Int) ≤ (j : Int) := by omega
      cases x with
      | true =>
        have HE : Hid (ixI A n = (j : Int)) := Lib.hid (ixI_at hlt hx.symm HA.out)
        clear hx HA
        go_wp2_with fail
        go_ret
        exact ⟨congrArg (fun z : Int => Ending.returned (.int .i64 z)) HE.out.symm, rfl⟩
      | false =>
        have HA2 : Hid (∀ i, i < j + 1 → A i = false) := Lib.hid (fun i hi => by
          by_cases e2 : i = j
          · rw [e2]
            exact hx.symm
          · exact HA.out i (by omega))
        clear hx HA
        go_wp2_with fail
        go_round
        case rel => exact ⟨j + 1, by go_num, by omega, HA2⟩
        case measure => simp [intOf]; omega
    · have HE : Hid (ixI A n = -1) := Lib.hid (ixI_none (fun i hi => HA.out i (by omega)))
      clear HA
      go_wp2_with fail
      go_ret
      exact ⟨congrArg (fun z : Int => Ending.returned (.int .i64 z)) HE.out.symm, rfl⟩

/-- The first word that P says, if there is one. -/
def FwPost (P : List Nat → Prop) (w : World) (e : Ending) (w' : World) : Prop := ∃ r, FirstR P r ∧ e = .returned (.tuple #[.string (wO r), .bool r.isSome]) ∧ Below w.heap.size w w'

set_option maxRecDepth 100000 in
set_option maxHeartbeats 3200000 in
theorem implFwI_any (g1 g2 : Nat) (fa1 lb1 lb2 : Array Value) (eg1 : ∀ args w, (callFunc g1 args).run Try.prog w = .ok (.enter g1 args) w) (eg2 : ∀ args w, (callFunc g2 args).run Try.prog w = .ok (.enter g2 args) w)
    (T : Nat → Nat → Nat) (acc : Nat → Bool) (K : Nat) (x0 : Nat) (w : World) (hK : K ≤ 2000) (h0 : x0 < K) (hT : ∀ x k, x < K → k < 3 → (T x k) < K) (hEn : ∃ N, N ≤ 1600 ∧ Ends x0 T N)
    (H1 : ∀ (V : World) (x : Nat) (k : Nat), Below w.heap.size w V → x < K → k < 3 → Calls Try.prog g1 (fa1 ++ (#[.int .i64 ((x : Nat) : Int), .int .i64 (k : Int)] ++ lb1)) V fun e w' => e = .returned (.int .i64 (((T x k) : Nat) : Int)) ∧ Below V.heap.size V w')
    (H2 : ∀ (V : World) (x : Nat), Below w.heap.size w V → x < K → Calls Try.prog g2 (#[.int .i64 ((x : Nat) : Int)] ++ lb2) V fun e w' => e = .returned (.bool (acc x)) ∧ Below V.heap.size V w') :
    Calls Try.prog 79 #[.int .i64 ((x0 : Nat) : Int), .func (.func g1) fa1 lb1, .func (.func g2) #[] lb2] w (FwPost (fun u => acc (runG T x0 u) = true) w) := by
  have HEn := Lib.hid hEn
  obtain ⟨W0, hW0⟩ : ∃ W0, W0 = w := ⟨_, rfl⟩
  have HB0 : Hid (Below w.heap.size w W0) := Lib.hid (by rw [hW0]; exact Below.refl _ _)
  have HEx := Lib.hid (implExpI_any g1 g2 fa1 lb1 lb2 eg1 eg2 T acc K 1600 x0 W0 hK (by omega) (by omega) h0 hT (fun V x k hV hx hk => H1 V x k (HB0.out.trans (hV.mono HB0.out.size)) hx hk) (fun V x hV hx => H2 V x (HB0.out.trans (hV.mono HB0.out.size)) hx))
  clear hEn h0 hT H1 H2
  go_enter Try.func79, Try.ntmps79
  go_wp2_with fail
  go_at_call 105
  rw [← hW0]
  refine HEx.out.mono ?_
  rintro e w1 (⟨N, va2, vr2, hE, hN, rfl, hau, hb1⟩ | ⟨hno, rfl, hb1⟩)
  · have HB1 := Lib.hid (HB0.out.trans (hb1.mono HB0.out.size))
    obtain ⟨W2, hW2⟩ : ∃ W2, W2 = w1.alloc (.cells #[va2, vr2] 98) := ⟨_, rfl⟩
    have HB2 : Hid (Below w1.heap.size w1 W2) := Lib.hid (by rw [hW2]; exact (Below.refl _ _).alloc (Nat.le_refl _) _)
    obtain ⟨a0, a1, -, -⟩ := box2_facts (show W2.heap[w1.heap.size]? = some (.cells #[va2, vr2] 98 (0, 0)) by rw [hW2]; exact heap_alloc_new w1 _)
    have HAu := Lib.hid (hau.kept HB2.out)
    have HFw := Lib.hid (fun q0 (hq : q0 < N) => implFwt_any va2 vr2 (found x0 T acc N) (fun q => (wds x0 T (3 * N)).getD q []) q0 W2 (hE.back acc) (by show N ≤ 2000; omega) hq HAu.out)
    obtain ⟨ga, ca, gr, cr, hva, hvr, hA, -⟩ := HAu.out
    have HIx := Lib.hid (libIxB_any ⟨ga, 0, none⟩ N ca (found x0 T acc N).A W2 (by omega) (fun j hj => by rw [Addr.add_lit, Nat.zero_add]; exact hA j hj))
    have HE := Lib.hid hE
    have hva' : va2 = .slice (some ⟨ga, 0, none⟩) N ca := hva
    subst hva'
    have hvr' : vr2 = .slice (some ⟨gr, 0, none⟩) N cr := hvr
    subst hvr'
    clear hb1 hE hau hva hA hvr HAu hW0
    by_cases hex : ∃ i, i < N ∧ (found x0 T acc N).A i = true
    · have key : ∀ i, i < N → (found x0 T acc N).A i = true → ∃ j, j < N ∧ (found x0 T acc N).A j = true ∧ ∀ m, m < j → (found x0 T acc N).A m = false := by
        intro i
        induction i using Nat.strongRecOn with
        | ind i ih =>
          intro hi hg
          by_cases hm : ∃ m, m < i ∧ (found x0 T acc N).A m = true
          · obtain ⟨m, h1, h2⟩ := hm
            exact ih m h1 (by omega) h2
          · refine ⟨i, hi, hg, fun m hmi => ?_⟩
            rw [← Bool.not_eq_true]
            exact fun hh => hm ⟨m, hmi, hh⟩
      obtain ⟨i, hi, hg⟩ := hex
      obtain ⟨j, hj, hg, hn⟩ := key i hi hg
      rw [ixI_at hj hg hn] at HIx
      have HF := Lib.hid (first_found HE.out (goal := acc) hj hg hn)
      have HFj := Lib.hid (HFw.out j hj)
      have hd : ¬ (j : Int) < 0 := by omega
      have hdd : decide ((j : Int) < 0) = false := by simp
      clear key hi hg hn
      rw [hW2] at a0 a1
      go_wp2_with fail
      go_at_call 97
      rw [← hW2] at a0 a1 ⊢
      clear hW2
      refine HIx.out.mono ?_
      rintro e w2 ⟨rfl, rfl⟩
      go_wp2_with fail
      go_at_call 98
      refine HFj.out.mono ?_
      rintro e w3 ⟨rfl, hb3⟩
      have HB3 := Lib.hid ((HB1.out.trans (HB2.out.mono HB1.out.size)).trans (hb3.mono (Nat.le_trans HB1.out.size HB2.out.size)))
      clear a0 a1 hb3
      go_wp2_with fail
      refine bodyPost_ret (v := .tuple #[.string (wbytes ((wds x0 T (3 * N)).getD j [])), .bool true]) (by simp [results, Try.results79, go_sem]) rfl ?_
      exact ⟨_, HF.out, rfl, HB3.out⟩
    · have hn : ∀ j, j < N → (found x0 T acc N).A j = false := fun j hj => by
        rw [← Bool.not_eq_true]
        exact fun hh => hex ⟨j, hj, hh⟩
      rw [ixI_none hn] at HIx
      have HF := Lib.hid (first_none HE.out (goal := acc) hn)
      have HB3 := Lib.hid (HB1.out.trans (HB2.out.mono HB1.out.size))
      clear hn hex
      rw [hW2] at a0 a1
      go_wp2_with fail
      go_at_call 97
      rw [← hW2] at a0 a1 ⊢
      clear hW2
      refine HIx.out.mono ?_
      rintro e w2 ⟨rfl, rfl⟩
      clear a0 a1
      go_wp2_with fail
      refine bodyPost_ret (v := .tuple #[.string ⟨#[]⟩, .bool false]) (by simp [results, Try.results79, go_sem]) rfl ?_
      exact ⟨none, HF.out, rfl, HB3.out⟩
  · obtain ⟨N, hN, hE⟩ := HEn.out
    exact absurd hE (hno N hN)
end Go.Proofs.Ythmfncklepkddaa
