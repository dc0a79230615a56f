/-
  What impl.firstWord answers over pairs of states: the first word that leads to what is wanted.
-/
import Derived.Test.YthmfncklepkddaaFwI
import Derived.Test.YthmfncklepkddaaExpP
namespace Go.Proofs.Ythmfncklepkddaa
open Go.RowKit

set_option maxRecDepth 100000 in
set_option maxHeartbeats 3200000 in
theorem implFwP_any (g1 g2 : Nat) (fa1 lb1 lb2 : Array Value) (eg1 : ∀ args w, (callFunc g1 args).run Try.prog w = .ok (.enter g1 args) w) (eg2 : ∀ args w, (callFunc g2 args).run Try.prog w = .ok (.enter g2 args) w)
    (T : Nat × Nat → Nat → Nat × Nat) (acc : Nat × Nat → Bool) (Ma Mb : Nat) (x0 : Nat × Nat) (w : World) (ha : Ma ≤ 2000) (hb : Mb ≤ 2000) (h0 : okP Ma Mb x0) (hT : ∀ x k, okP Ma Mb x → k < 3 → okP Ma Mb (T x k)) (hEn : ∃ N, N ≤ 1600 ∧ Ends x0 T N)
    (H1 : ∀ (V : World) (x : Nat × Nat) (k : Nat), Below w.heap.size w V → okP Ma Mb x → k < 3 → Calls Try.prog g1 (fa1 ++ (#[.agg #[.int .i64 (x.1 : Int), .int .i64 (x.2 : Int)], .int .i64 (k : Int)] ++ lb1)) V fun e w' => e = .returned (.agg #[.int .i64 ((T x k).1 : Int), .int .i64 ((T x k).2 : Int)]) ∧ Below V.heap.size V w')
    (H2 : ∀ (V : World) (x : Nat × Nat), Below w.heap.size w V → okP Ma Mb x → Calls Try.prog g2 (#[.agg #[.int .i64 (x.1 : Int), .int .i64 (x.2 : Int)]] ++ lb2) V fun e w' => e = .returned (.bool (acc x)) ∧ Below V.heap.size V w') :
    Calls Try.prog 52 #[.agg #[.int .i64 (x0.1 : Int), .int .i64 (x0.2 : Int)], .func (.func g1) fa1 lb1, .func (.func g2) #[] lb2] w (FwPost (fun u => acc (runG T x0 u) = true) w) := by
  have HEn := Lib.hid hEn
  obtain ⟨W0, hW0⟩ : ∃ W0, W0 = w.alloc (.cells #[.int .i64 (x0.1 : Int), .int .i64 (x0.2 : Int)] 64) := ⟨_, rfl⟩
  have HB0 : Hid (Below w.heap.size w W0) := Lib.hid (by rw [hW0]; exact (Below.refl _ _).alloc (Nat.le_refl _) _)
  obtain ⟨q0, q1, -, -⟩ := box2_facts (show W0.heap[w.heap.size]? = some (.cells #[.int .i64 (x0.1 : Int), .int .i64 (x0.2 : Int)] 64 (0, 0)) by rw [hW0]; exact heap_alloc_new w _)
  rw [hW0] at q0 q1
  have HEx := Lib.hid (implExpP_any g1 g2 fa1 lb1 lb2 eg1 eg2 T acc Ma Mb 1600 x0 W0 ha hb (by omega) (by omega) h0 hT (fun V x k hV hx hk => H1 V x k (HB0.out.trans (hV.mono HB0.out.size)) hx hk) (fun V x hV hx => H2 V x (HB0.out.trans (hV.mono HB0.out.size)) hx))
  clear hEn h0 hT H1 H2
  go_enter Try.func52, Try.ntmps52
  go_wp2_with fail
  go_at_call 96
  rw [← hW0]
  clear q0 q1
  refine HEx.out.mono ?_
  rintro e w1 (⟨N, va2, vr2, hE, hN, rfl, hau, hb1⟩ | ⟨hno, rfl, hb1⟩)
  · have HB1 := Lib.hid (HB0.out.trans (hb1.mono HB0.out.size))
    obtain ⟨W2, hW2⟩ : ∃ W2, W2 = w1.alloc (.cells #[va2, vr2] 98) := ⟨_, rfl⟩
    have HB2 : Hid (Below w1.heap.size w1 W2) := Lib.hid (by rw [hW2]; exact (Below.refl _ _).alloc (Nat.le_refl _) _)
    obtain ⟨a0, a1, -, -⟩ := box2_facts (show W2.heap[w1.heap.size]? = some (.cells #[va2, vr2] 98 (0, 0)) by rw [hW2]; exact heap_alloc_new w1 _)
    have HAu := Lib.hid (hau.kept HB2.out)
    have HFw := Lib.hid (fun q0 (hq : q0 < N) => implFwt_any va2 vr2 (found x0 T acc N) (fun q => (wds x0 T (3 * N)).getD q []) q0 W2 (hE.back acc) (by show N ≤ 2000; omega) hq HAu.out)
    obtain ⟨ga, ca, gr, cr, hva, hvr, hA, -⟩ := HAu.out
    have HIx := Lib.hid (libIxB_any ⟨ga, 0, none⟩ N ca (found x0 T acc N).A W2 (by omega) (fun j hj => by rw [Addr.add_lit, Nat.zero_add]; exact hA j hj))
    have HE := Lib.hid hE
    have hva' : va2 = .slice (some ⟨ga, 0, none⟩) N ca := hva
    subst hva'
    have hvr' : vr2 = .slice (some ⟨gr, 0, none⟩) N cr := hvr
    subst hvr'
    clear hb1 hE hau hva hA hvr HAu hW0
    by_cases hex : ∃ i, i < N ∧ (found x0 T acc N).A i = true
    · have key : ∀ i, i < N → (found x0 T acc N).A i = true → ∃ j, j < N ∧ (found x0 T acc N).A j = true ∧ ∀ m, m < j → (found x0 T acc N).A m = false := by
        intro i
        induction i using Nat.strongRecOn with
        | ind i ih =>
          intro hi hg
          by_cases hm : ∃ m, m < i ∧ (found x0 T acc N).A m = true
          · obtain ⟨m, h1, h2⟩ := hm
            exact ih m h1 (by omega) h2
          · refine ⟨i, hi, hg, fun m hmi => ?_⟩
            rw [← Bool.not_eq_true]
            exact fun hh => hm ⟨m, hmi, hh⟩
      obtain ⟨i, hi, hg⟩ := hex
      obtain ⟨j, hj, hg, hn⟩ := key i hi hg
      rw [ixI_at hj hg hn] at HIx
      have HF := Lib.hid (first_found HE.out (goal := acc) hj hg hn)
      have HFj := Lib.hid (HFw.out j hj)
      have hd : ¬ (j : Int) < 0 := by omega
      have hdd : decide ((j : Int) < 0) = false := by simp
      clear key hi hg hn
      rw [hW2] at a0 a1
      go_wp2_with fail
      go_at_call 97
      rw [← hW2] at a0 a1 ⊢
      clear hW2
      refine HIx.out.mono ?_
      rintro e w2 ⟨rfl, rfl⟩
      go_wp2_with fail
      go_at_call 98
      refine HFj.out.mono ?_
      rintro e w3 ⟨rfl, hb3⟩
      have HB3 := Lib.hid ((HB1.out.trans (HB2.out.mono HB1.out.size)).trans (hb3.mono (Nat.le_trans HB1.out.size HB2.out.size)))
      clear a0 a1 hb3
      go_wp2_with fail
      refine bodyPost_ret (v := .tuple #[.string (wbytes ((wds x0 T (3 * N)).getD j [])), .bool true]) (by simp [results, Try.results52, go_sem]) rfl ?_
      exact ⟨_, HF.out, rfl, HB3.out⟩
    · have hn : ∀ j, j < N → (found x0 T acc N).A j = false := fun j hj => by
        rw [← Bool.not_eq_true]
        exact fun hh => hex ⟨j, hj, hh⟩
      rw [ixI_none hn] at HIx
      have HF := Lib.hid (first_none HE.out (goal := acc) hn)
      have HB3 := Lib.hid (HB1.out.trans (HB2.out.mono HB1.out.size))
      clear hn hex
      rw [hW2] at a0 a1
      go_wp2_with fail
      go_at_call 97
      rw [← hW2] at a0 a1 ⊢
      clear hW2
      refine HIx.out.mono ?_
      rintro e w2 ⟨rfl, rfl⟩
      clear a0 a1
      go_wp2_with fail
      refine bodyPost_ret (v := .tuple #[.string ⟨#[]⟩, .bool false]) (by simp [results, Try.results52, go_sem]) rfl ?_
      exact ⟨none, HF.out, rfl, HB3.out⟩
  · obtain ⟨N, hN, hE⟩ := HEn.out
    exact absurd hE (hno N hN)
end Go.Proofs.Ythmfncklepkddaa
