/- Texts of one proof. -/
import Derived.Test.YtiijlpmdnokjfaaDoorCountsZPack24
set_option maxRecDepth 100000
set_option maxHeartbeats 20000000
namespace Go.Proofs.YtiijlpmdnokjfaaDoor
open Go.RowKit
theorem implFwP_any (g1 g2 : Nat) (fa1 lb1 lb2 : Array Value) (eg1 : ∀ args w, (callFunc g1 args).run Tryd.prog w = .ok (.enter g1 args) w) (eg2 : ∀ args w, (callFunc g2 args).run Tryd.prog w = .ok (.enter g2 args) w)
    (T : Nat × Nat -> Nat -> Nat × Nat) (acc : Nat × Nat -> Bool) (Ma Mb : Nat) (x0 : Nat × Nat) (w : World) (ha : Ma <= 2000) (hb : Mb <= 2000) (h0 : okP Ma Mb x0) (hT : ∀ x k, okP Ma Mb x -> k < 3 -> okP Ma Mb (T x k)) (hEn : ∃ N, N <= 1600 /\ Ends x0 T N)
    (H1 : ∀ (V : World) (x : Nat × Nat) (k : Nat), Below w.heap.size w V -> okP Ma Mb x -> k < 3 -> Calls Tryd.prog g1 (fa1 ++ (#[.agg #[.int .i64 (x.1 : Int), .int .i64 (x.2 : Int)], .int .i64 (k : Int)] ++ lb1)) V λ e w' => e = .returned (.agg #[.int .i64 ((T x k).1 : Int), .int .i64 ((T x k).2 : Int)]) /\ Below V.heap.size V w')
    (H2 : ∀ (V : World) (x : Nat × Nat), Below w.heap.size w V -> okP Ma Mb x -> Calls Tryd.prog g2 (#[.agg #[.int .i64 (x.1 : Int), .int .i64 (x.2 : Int)]] ++ lb2) V λ e w' => e = .returned (.bool (acc x)) /\ Below V.heap.size V w') :
    Calls Tryd.prog 53 #[.agg #[.int .i64 (x0.1 : Int), .int .i64 (x0.2 : Int)], .func (.func g1) fa1 lb1, .func (.func g2) #[] lb2] w (FwPost (λ u => acc (runG T x0 u) = true) w) := by
  have HEn := Lib.hid hEn
  obtain ⟨W0, hW0⟩ : ∃ W0, W0 = w.alloc (.cells #[.int .i64 (x0.1 : Int), .int .i64 (x0.2 : Int)] 73) := ⟨_, rfl⟩
  have HB0 : Hid (Below w.heap.size w W0) := Lib.hid (by rw [hW0]; exact (Below.refl _ _).alloc (Nat.le_refl _) _)
  obtain ⟨q0, q1, -, -⟩ := box2_facts (show W0.heap[w.heap.size]? = some (.cells #[.int .i64 (x0.1 : Int), .int .i64 (x0.2 : Int)] 73 (0, 0)) by rw [hW0]; exact heap_alloc_new w _)
  rw [hW0] at q0 q1
  have HEx := Lib.hid (implExpP_any g1 g2 fa1 lb1 lb2 eg1 eg2 T acc Ma Mb 1600 x0 W0 ha hb (by omega) (by omega) h0 hT (λ V x k hV hx hk => H1 V x k (HB0.out.trans (hV.mono HB0.out.size)) hx hk) (λ V x hV hx => H2 V x (HB0.out.trans (hV.mono HB0.out.size)) hx))
  clear hEn h0 hT H1 H2
  go_enter Tryd.func53, Tryd.ntmps53
  go_wp2_with fail
  go_at_call 76
  rw [<- hW0]
  clear q0 q1
  refine HEx.out.mono ?_
  rintro e w1 (⟨N, va2, vr2, hE, hN, rfl, hau, hb1⟩ | ⟨hno, rfl, hb1⟩)
  . have HB1 := Lib.hid (HB0.out.trans (hb1.mono HB0.out.size))
    obtain ⟨W2, hW2⟩ : ∃ W2, W2 = w1.alloc (.cells #[va2, vr2] 103) := ⟨_, rfl⟩
    have HB2 : Hid (Below w1.heap.size w1 W2) := Lib.hid (by rw [hW2]; exact (Below.refl _ _).alloc (Nat.le_refl _) _)
    obtain ⟨a0, a1, -, -⟩ := box2_facts (show W2.heap[w1.heap.size]? = some (.cells #[va2, vr2] 103 (0, 0)) by rw [hW2]; exact heap_alloc_new w1 _)
    have HAu := Lib.hid (hau.kept HB2.out)
    have HFw := Lib.hid (λ q0 (hq : q0 < N) => implFwt_any va2 vr2 (found x0 T acc N) (λ q => (wds x0 T (3 * N)).getD q []) q0 W2 (hE.back acc) (by show N <= 2000; omega) hq HAu.out)
    obtain ⟨ga, ca, gr, cr, hva, hvr, hA, -⟩ := HAu.out
    have HIx := Lib.hid (libIxB_any ⟨ga, 0, none⟩ N ca (found x0 T acc N).A W2 (by omega) (λ j hj => by rw [Addr.add_lit, Nat.zero_add]; exact hA j hj))
    have HE := Lib.hid hE
    have hva' : va2 = .slice (some ⟨ga, 0, none⟩) N ca := hva
    subst hva'
    have hvr' : vr2 = .slice (some ⟨gr, 0, none⟩) N cr := hvr
    subst hvr'
    clear hb1 hE hau hva hA hvr HAu hW0
    by_cases hex : ∃ i, i < N /\ (found x0 T acc N).A i = true
    . have key : ∀ i, i < N -> (found x0 T acc N).A i = true -> ∃ j, j < N /\ (found x0 T acc N).A j = true /\ ∀ m, m < j -> (found x0 T acc N).A m = false := by
        intro i
        induction i using Nat.strongRecOn with
        | ind i ih =>
          intro hi hg
          by_cases hm : ∃ m, m < i /\ (found x0 T acc N).A m = true
          . obtain ⟨m, h1, h2⟩ := hm
            exact ih m h1 (by omega) h2
          . refine ⟨i, hi, hg, λ m hmi => ?_⟩
            rw [<- Bool.not_eq_true]
            exact λ hh => hm ⟨m, hmi, hh⟩
      obtain ⟨i, hi, hg⟩ := hex
      obtain ⟨j, hj, hg, hn⟩ := key i hi hg
      rw [ixI_at hj hg hn] at HIx
      have HF := Lib.hid (first_found HE.out (goal := acc) hj hg hn)
      have HFj := Lib.hid (HFw.out j hj)
      have hd : ¬ (j : Int) < 0 := by omega
      have hdd : decide ((j : Int) < 0) = false := by simp
      clear key hi hg hn
      rw [hW2] at a0 a1
      go_wp2_with fail
      go_at_call 69
      rw [<- hW2] at a0 a1 ⊢
      clear hW2
      refine HIx.out.mono ?_
      rintro e w2 ⟨rfl, rfl⟩
      go_wp2_with fail
      go_at_call 77
      refine HFj.out.mono ?_
      rintro e w3 ⟨rfl, hb3⟩
      have HB3 := Lib.hid ((HB1.out.trans (HB2.out.mono HB1.out.size)).trans (hb3.mono (Nat.le_trans HB1.out.size HB2.out.size)))
      clear a0 a1 hb3
      go_wp2_with fail
      refine bodyPost_ret (v := .tuple #[.string (wbytes ((wds x0 T (3 * N)).getD j [])), .bool true]) (by simp [results, Tryd.results53, go_sem]) rfl ?_
      exact ⟨_, HF.out, rfl, HB3.out⟩
    . have hn : ∀ j, j < N -> (found x0 T acc N).A j = false := λ j hj => by
        rw [<- Bool.not_eq_true]
        exact λ hh => hex ⟨j, hj, hh⟩
      rw [ixI_none hn] at HIx
      have HF := Lib.hid (first_none HE.out (goal := acc) hn)
      have HB3 := Lib.hid (HB1.out.trans (HB2.out.mono HB1.out.size))
      clear hn hex
      rw [hW2] at a0 a1
      go_wp2_with fail
      go_at_call 69
      rw [<- hW2] at a0 a1 ⊢
      clear hW2
      refine HIx.out.mono ?_
      rintro e w2 ⟨rfl, rfl⟩
      clear a0 a1
      go_wp2_with fail
      refine bodyPost_ret (v := .tuple #[.string ⟨#[]⟩, .bool false]) (by simp [results, Tryd.results53, go_sem]) rfl ?_
      exact ⟨none, HF.out, rfl, HB3.out⟩
  . obtain ⟨N, hN, hE⟩ := HEn.out
    exact absurd hE (hno N hN)
theorem implDfaAfter_any (va : Value) (ad' : Addr) (n c' q k : Nat) (ad2 : Addr) (c2 : Nat) (x : Int) (w : World) (hq : q < n) (hk : k < 3) (c1 : w.cell? (ad'.add q) = some (.slice (some ad2) 3 c2)) (h2 : w.cell? (ad2.add k) = some (.int .i64 x)) :
    Calls Tryd.prog 78 #[.agg #[va, .slice (some ad') n c'], .int .i64 (q : Int), .int .i64 (k : Int)] w λ e w' => e = .returned (.int .i64 x) /\ Below w.heap.size w w' := by
  have s0 : (q : Int) < (n : Int) := by omega
  have s1 : (0 : Int) <= (q : Int) := by omega
  have s2 : (k : Int) < 3 := by omega
  have s3 : (0 : Int) <= (k : Int) := by omega
  have hb0 : Below w.heap.size w (w.alloc (.cells #[va, .slice (some ad') n c'] 27)) := (Below.refl _ _).alloc (Nat.le_refl _) _
  have c1' := (hb0.cell (cell_in c1)).trans c1
  have h2' := (hb0.cell (cell_in h2)).trans h2
  have HB0 := Lib.hid hb0
  clear c1 h2 hb0
  go_enter Tryd.func78, Tryd.ntmps78
  go_wp2_with fail
  go_ret
  exact ⟨rfl, HB0.out⟩
end Go.Proofs.YtiijlpmdnokjfaaDoor
namespace Go.Proofs.YtiijlpmdnokjfaaDoor
open Go.RowKit
theorem ords_pairs {s0 : Nat × Nat} {g : Nat × Nat -> Nat -> Nat × Nat} {Ma Mb : Nat} (h0 : okP Ma Mb s0) (hg : ∀ x k, okP Ma Mb x -> k < 3 -> okP Ma Mb (g x k)) (t : Nat) : (∀ x ∈ ords s0 g t, okP Ma Mb x) /\ (ords s0 g t).length <= Ma * Mb := by
  have hall : ∀ t, ∀ x ∈ ords s0 g t, okP Ma Mb x := λ t => by
    induction t with
    | zero => intro x hx; simp [ords] at hx; rw [hx]; exact h0
    | succ t ih =>
      intro x hx
      rw [ords] at hx
      have hd : okP Ma Mb ((ords s0 g t).getD (t / 3) default) := by
        by_cases hl : t / 3 < (ords s0 g t).length
        . exact ih _ (getD_mem hl)
        . rw [List.getD_eq_getElem?_getD, List.getElem?_eq_none (by omega)]
          exact ⟨Nat.lt_of_le_of_lt (Nat.zero_le _) h0.1, Nat.lt_of_le_of_lt (Nat.zero_le _) h0.2⟩
      split at hx
      . exact ih x hx
      . rcases List.mem_append.1 hx with hx | hx
        . exact ih x hx
        . rw [List.mem_singleton] at hx
          rw [hx]
          exact hg _ _ hd (by omega)
  refine ⟨hall t, ?_⟩
  have hnd : ((ords s0 g t).map λ x => x.1 * Mb + x.2).Nodup := by
    rw [List.nodup_iff_pairwise_ne, List.pairwise_map]
    refine (ords_nodup (s0 := s0) (g := g) t).imp_of_mem ?_
    intro x y hx hy hne e
    have h1 := (hall t x hx).2
    have h2 := (hall t y hy).2
    apply hne
    have e1 : x.1 = y.1 := by rw [<- pair_div (p := x.1) h1, <- pair_div (p := y.1) h2, e]
    have e2 : x.2 = y.2 := by rw [<- pair_mod (p := x.1) h1, <- pair_mod (p := y.1) h2, e]
    exact Prod.ext e1 e2
  have := nodup_len (Ma * Mb) _ hnd (λ z hz => by
    obtain ⟨x, hx, rfl⟩ := List.mem_map.1 hz
    exact pair_lt (hall t x hx).1 (hall t x hx).2)
  rwa [List.length_map] at this
theorem three_box (w : World) (a b c : Obj) : let W := ((w.alloc a).alloc b).alloc c
    W.heap[w.heap.size]? = some a /\ W.heap[w.heap.size + 1]? = some b /\ W.heap[w.heap.size + 1 + 1]? = some c /\ Below w.heap.size w W := by
  intro W
  have h1 := heap_alloc_new (w.alloc a) b
  have h2 := heap_alloc_new ((w.alloc a).alloc b) c
  rw [World.size_alloc] at h1 h2
  rw [World.size_alloc] at h2
  exact ⟨(Below.heap_alloc _ _ _ (by simp; omega)).trans ((Below.heap_alloc _ _ _ (by simp)).trans (heap_alloc_new w a)), (Below.heap_alloc _ _ _ (by simp)).trans h1, h2, (((Below.refl _ _).alloc (Nat.le_refl _) _).alloc (by simp) _).alloc (by simp; omega) _⟩
theorem implStepP_any (va va' : Value) (ad ad' : Addr) (n n' c c' p q k : Nat) (ra rb : Addr) (ca cb : Nat) (x y : Int) (w : World) (hp : p < n) (hq : q < n') (hk : k < 3)
    (a1 : w.cell? (ad.add p) = some (.slice (some ra) 3 ca)) (a2 : w.cell? (ra.add k) = some (.int .i64 x))
    (b1 : w.cell? (ad'.add q) = some (.slice (some rb) 3 cb)) (b2 : w.cell? (rb.add k) = some (.int .i64 y)) :
    Calls Tryd.prog 54 #[.agg #[va, .slice (some ad) n c, va', .slice (some ad') n' c'], .agg #[.int .i64 (p : Int), .int .i64 (q : Int)], .int .i64 (k : Int)] w λ e w' => e = .returned (.agg #[.int .i64 x, .int .i64 y]) /\ Below w.heap.size w w' := by
  obtain ⟨W0, hW0⟩ : ∃ W0, W0 = ((w.alloc (.cells #[va, .slice (some ad) n c, va', .slice (some ad') n' c'] 79)).alloc (.cells #[.int .i64 (p : Int), .int .i64 (q : Int)] 73)).alloc (.cells #[.int .i64 0, .int .i64 0] 73) := ⟨_, rfl⟩
  have h3 := three_box w (.cells #[va, .slice (some ad) n c, va', .slice (some ad') n' c'] 79) (.cells #[.int .i64 (p : Int), .int .i64 (q : Int)] 73) (.cells #[.int .i64 0, .int .i64 0] 73)
  rw [<- hW0] at h3
  obtain ⟨i0, i1, i2, hb0⟩ := h3
  have HB0 := Lib.hid hb0
  have HZ := Lib.hid (λ (V : World) (hV : Below W0.heap.size W0 V) => box2_facts ((hV.block _ (blk_lt i2)).trans i2))
  have HA := Lib.hid (λ (V : World) (hV : Below W0.heap.size W0 V) => (have hb := hb0.trans (hV.mono hb0.size); implDfaAfter_any va ad n c p k ra ca x V hp hk ((hb.cell (cell_in a1)).trans a1) ((hb.cell (cell_in a2)).trans a2)))
  have HA' := Lib.hid (λ (V : World) (hV : Below W0.heap.size W0 V) => (have hb := hb0.trans (hV.mono hb0.size); implDfaAfter_any va' ad' n' c' q k rb cb y V hq hk ((hb.cell (cell_in b1)).trans b1) ((hb.cell (cell_in b2)).trans b2)))
  have hz2 : w.heap.size + 1 + 1 <= W0.heap.size := Nat.le_of_lt (blk_lt i2)
  have HK := Lib.hid (λ (V : World) (hV : Below (w.heap.size + 1 + 1) W0 V) => (
    have j0 := (hV.block _ (by omega)).trans i0
    have j1 := (hV.block _ (by omega)).trans i1
    ⟨(cell_of_row V _ 0 _ _ (0, 0) j0).trans rfl, (cell_of_row V _ 1 _ _ (0, 0) j0).trans rfl, (cell_of_row V _ 2 _ _ (0, 0) j0).trans rfl, (cell_of_row V _ 3 _ _ (0, 0) j0).trans rfl, (box2_facts j1).1, (box2_facts j1).2.1⟩ :
    V.cell? ⟨w.heap.size, 0, none⟩ = some va /\ V.cell? ⟨w.heap.size, 1, none⟩ = some (.slice (some ad) n c) /\ V.cell? ⟨w.heap.size, 2, none⟩ = some va' /\ V.cell? ⟨w.heap.size, 3, none⟩ = some (.slice (some ad') n' c') /\ V.cell? ⟨w.heap.size + 1, 0, none⟩ = some (.int .i64 (p : Int)) /\ V.cell? ⟨w.heap.size + 1, 1, none⟩ = some (.int .i64 (q : Int))))
  have hbw : Below W0.heap.size W0 W0 := Below.refl _ _
  clear a1 a2 b1 b2 hb0 i0 i1 i2
  go_enter Tryd.func54, Tryd.ntmps54
  go_upto_region 1 with fail
  rw [<- hW0]
  clear hW0
  go_region_held3 (λ V => V.cell? ⟨w.heap.size, 0, none⟩ = some va /\ V.cell? ⟨w.heap.size, 1, none⟩ = some (.slice (some ad) n c) /\ V.cell? ⟨w.heap.size, 2, none⟩ = some va' /\ V.cell? ⟨w.heap.size, 3, none⟩ = some (.slice (some ad') n' c') /\ V.cell? ⟨w.heap.size + 1, 0, none⟩ = some (.int .i64 (p : Int)) /\ V.cell? ⟨w.heap.size + 1, 1, none⟩ = some (.int .i64 (q : Int))) (first | exact HK.out _ (hbw.drew.mono hz2) | exact HK.out _ (hbw.mono hz2) | exact HK.out _ (((hbw.mono hz2).setCell (Nat.le_refl _) _).setCell (Nat.le_refl _) _)) (first | (go_at_call 78; (with_reducible refine (HA.out _ hbw.drew).mono ?_); rintro e wa ⟨rfl, hba⟩; have hbw := hbw.drew.trans (hba.mono hbw.drew.size)) | (go_at_call 78; (with_reducible refine (HA'.out _ hbw).mono ?_); rintro e wb ⟨rfl, hbb⟩; have hbw := hbw.trans (hbb.mono hbw.size); obtain ⟨c0, c1, k0, k1⟩ := HZ.out _ hbw))
  all_goals
    obtain ⟨hcl, hsz, hot, hBl⟩ := put2 (k := .int .i64 x) (l := .int .i64 y) c0 c1
    obtain ⟨hc0, hc1⟩ := hcl
    have HOt := Lib.hid (hBl _ _ (HB0.out.trans (hbw.mono HB0.out.size)) (by omega))
    clear hsz hot hBl hbw hba hbb
    go_wp2_with fail
    refine bodyPost_ret (v := .agg #[.int .i64 x, .int .i64 y]) (by simp [results, Tryd.results54, go_sem, hc0, hc1]) rfl ?_
    exact ⟨rfl, HOt.out⟩
def pairT (a b : Au) (x : Nat × Nat) (k : Nat) : Nat × Nat := (a.T x.1 k, b.T x.2 k)
theorem enters_step (args : Array Value) (w : World) : (callFunc 54 args).run Tryd.prog w = .ok (.enter 54 args) w := enters_of Tryd.func54 (by kernel_rfl) rfl args w
end Go.Proofs.YtiijlpmdnokjfaaDoor
namespace Go.Proofs.YtiijlpmdnokjfaaDoor
open Go.RowKit
end Go.Proofs.YtiijlpmdnokjfaaDoor
namespace Go.Proofs.YtiijlpmdnokjfaaDoor
open Go.RowKit
theorem implIncQ (ba bb : Nat) (ad ad' : Addr) (n n' c c' p q : Nat) (x y : Bool) (w : World) (hp : p < n) (hq : q < n') (a0 : w.cell? ⟨ba, 0, none⟩ = some (.slice (some ad) n c)) (a1 : w.cell? (ad.add p) = some (.bool x))
    (b0 : w.cell? ⟨bb, 0, none⟩ = some (.slice (some ad') n' c')) (b1 : w.cell? (ad'.add q) = some (.bool y)) :
    Calls Tryd.prog 52 #[.agg #[.int .i64 (p : Int), .int .i64 (q : Int)], .pointer (some ⟨ba, 0, none⟩), .pointer (some ⟨bb, 0, none⟩)] w λ e w' => e = .returned (.bool (x && !y)) /\ Below w.heap.size w w' := by
  have s0 : (p : Int) < (n : Int) := by omega
  have s1 : (0 : Int) <= (p : Int) := by omega
  have s2 : (q : Int) < (n' : Int) := by omega
  have s3 : (0 : Int) <= (q : Int) := by omega
  obtain ⟨W0, hW0⟩ : ∃ W0, W0 = w.alloc (.cells #[.int .i64 (p : Int), .int .i64 (q : Int)] 73) := ⟨_, rfl⟩
  have hb0 : Below w.heap.size w W0 := by rw [hW0]; exact (Below.refl _ _).alloc (Nat.le_refl _) _
  have a0' := (hb0.cell (cell_in a0)).trans a0
  have a1' := (hb0.cell (cell_in a1)).trans a1
  have b0' := (hb0.cell (cell_in b0)).trans b0
  have b1' := (hb0.cell (cell_in b1)).trans b1
  obtain ⟨p0, p1, -, -⟩ := box2_facts (show W0.heap[w.heap.size]? = some (.cells #[.int .i64 (p : Int), .int .i64 (q : Int)] 73 (0, 0)) by rw [hW0]; exact heap_alloc_new w _)
  have HB0 := Lib.hid hb0
  clear a0 a1 b0 b1 hb0
  cases x <;> cases y
  all_goals
    go_enter Tryd.func52, Tryd.ntmps52
    go_upto_region 1 with fail
    rw [<- hW0]
    clear hW0
    go_wp2_with fail
    go_ret
    exact ⟨rfl, HB0.out⟩
theorem enters_implIncQ (args : Array Value) (w : World) : (callFunc 52 args).run Tryd.prog w = .ok (.enter 52 args) w := enters_of Tryd.func52 (by kernel_rfl) rfl args w
theorem runG_pair (a b : Au) : ∀ (u : List Nat) (x : Nat × Nat), (runG (pairT a b) x u).1 = a.run x.1 u /\ (runG (pairT a b) x u).2 = b.run x.2 u
  | [], _ => ⟨rfl, rfl⟩
  | k :: u, x => runG_pair a b u (pairT a b x k)
theorem implInc_any (va vn va' vn' : Value) (d d' : Dx) (S S' : Nat -> Prop) (b : Bool) (w : World) (h : DfaV w S va vn d) (h' : DfaV w S' va' vn' d') (hy : incR d d' b) :
    Calls Tryd.prog 19 #[.agg #[va, vn], .agg #[va', vn']] w λ e w' => e = .returned (.bool b) /\ Below w.heap.size w w' := by
  have hmf : ∀ (fn : Fn) (first cap : Array Value) (w : World), (Instr.makeFunc fn first cap).run Tryd.prog w = .ok (.func fn first cap) w := λ _ _ _ _ => rfl
  obtain ⟨W0, hW0⟩ : ∃ W0, W0 = (w.alloc (.cells #[va, vn] 27)).alloc (.cells #[va', vn'] 27) := ⟨_, rfl⟩
  have HB0 : Hid (Below w.heap.size w W0) := Lib.hid (by rw [hW0]; exact ((Below.refl _ _).alloc (Nat.le_refl _) _).alloc (by simp) _)
  have HX : Hid (W0.heap[w.heap.size]? = some (.cells #[va, vn] 27 (0, 0))) := Lib.hid (by rw [hW0]; exact (Below.heap_alloc _ _ _ (by simp)).trans (heap_alloc_new w _))
  have HX' : Hid (W0.heap[w.heap.size + 1]? = some (.cells #[va', vn'] 27 (0, 0))) := Lib.hid (by
    have h := heap_alloc_new (w.alloc (.cells #[va, vn] 27)) (.cells #[va', vn'] 27)
    rw [World.size_alloc, <- hW0] at h
    exact h)
  have hz0 : w.heap.size + 2 <= W0.heap.size := by rw [hW0]; simp
  have HV := Lib.hid (implValidD_any va vn d S W0 (h.kept HB0.out))
  have HV' := Lib.hid (λ (V : World) (hV : Below w.heap.size w V) => implValidD_any va' vn' d' S' V (h'.kept hV))
  cases hv : validD d with
  | false =>
    rw [hv] at HV
    obtain rfl := incR_no hy (λ hh => by rw [hv] at hh; cases hh.1)
    obtain ⟨⟨A, c, hva⟩, A', c', hvn⟩ := h.shape
    obtain ⟨⟨A2, c2, hva'⟩, A2', c2', hvn'⟩ := h'.shape
    subst hva
    subst hvn
    subst hva'
    subst hvn'
    clear h h' hv hy
    go_enter Tryd.func19, Tryd.ntmps19
    obtain ⟨c0, c1, -, -⟩ := box2_facts HX.out
    rw [hW0] at c0 c1
    go_wp2_with fail
    go_at_call 29
    rw [<- hW0]
    clear hW0 c0 c1
    refine HV.out.mono ?_
    rintro e w1 ⟨rfl, hb1⟩
    have HB1 := Lib.hid (HB0.out.trans (hb1.mono HB0.out.size))
    have HX1 := Lib.hid ((hb1.block _ (by omega)).trans HX.out)
    have HX1' := Lib.hid ((hb1.block _ (by omega)).trans HX'.out)
    have hz1 := hb1.size
    clear hb1
    go_wp2_with fail
    go_ret
    exact ⟨rfl, HB1.out⟩
  | true =>
    rw [hv] at HV
    cases hv' : validD d' with
    | false =>
      rw [hv'] at HV'
      obtain rfl := incR_no hy (λ hh => by rw [hv'] at hh; cases hh.2)
      obtain ⟨⟨A, c, hva⟩, A', c', hvn⟩ := h.shape
      obtain ⟨⟨A2, c2, hva'⟩, A2', c2', hvn'⟩ := h'.shape
      subst hva
      subst hvn
      subst hva'
      subst hvn'
      clear h h' hv hv' hy
      go_enter Tryd.func19, Tryd.ntmps19
      obtain ⟨c0, c1, -, -⟩ := box2_facts HX.out
      rw [hW0] at c0 c1
      go_wp2_with fail
      go_at_call 29
      rw [<- hW0]
      clear hW0 c0 c1
      refine HV.out.mono ?_
      rintro e w1 ⟨rfl, hb1⟩
      have HB1 := Lib.hid (HB0.out.trans (hb1.mono HB0.out.size))
      have HW1 := Lib.hid hb1
      have HX1 := Lib.hid ((hb1.block _ (by omega)).trans HX.out)
      have HX1' := Lib.hid ((hb1.block _ (by omega)).trans HX'.out)
      have hz1 := hb1.size
      clear hb1
      obtain ⟨c0, c1, -, -⟩ := box2_facts HX1'.out
      go_wp2_with fail
      go_at_call 29
      refine (HV'.out _ HB1.out).mono ?_
      rintro e w2 ⟨rfl, hb2⟩
      have HB2 := Lib.hid (HB1.out.trans (hb2.mono HB1.out.size))
      have HW2 := Lib.hid (HW1.out.trans (hb2.mono HW1.out.size))
      have HX2 := Lib.hid ((hb2.block _ (by omega)).trans HX1.out)
      have HX2' := Lib.hid ((hb2.block _ (by omega)).trans HX1'.out)
      have hz2 := hb2.size
      clear hb2 c0 c1
      go_wp2_with fail
      go_ret
      exact ⟨rfl, HB2.out⟩
    | true =>
      rw [hv'] at HV'
      obtain ⟨hw, hn40, hnn, hl, ad, c, aN, c', hva, hvn, hA, hT⟩ := h.au hv
      obtain ⟨hw', hn40', hnn', hl', ad', cc, aN', cc', hva', hvn', hA', hT'⟩ := h'.au hv'
      subst hva
      subst hvn
      subst hva'
      subst hvn'
      have HY := Lib.hid (λ r (hr : FirstR (λ u => pairF false ((auD d).A ((auD d).run 0 u)) ((auD d').A ((auD d').run 0 u)) = true) r) => incR_yes (r := r) hy hv hv' hr)
      obtain ⟨n, hne⟩ : ∃ n, n = d.acc.length := ⟨_, rfl⟩
      obtain ⟨n', hne'⟩ : ∃ n', n' = d'.acc.length := ⟨_, rfl⟩
      rw [<- hne] at hA hT hnn HV HX hW0 ⊢
      rw [<- hne'] at hA' hT' hnn' HV' HX' hW0 ⊢
      have hM : n * n' <= 1600 := by
        have := Nat.mul_le_mul (show n <= 40 by omega) (show n' <= 40 by omega)
        omega
      have h00 : okP n n' (0, 0) := ⟨by rw [<- hnn]; exact hw.1, by rw [<- hnn']; exact hw'.1⟩
      have hTT : ∀ x k, okP n n' x -> k < 3 -> okP n n' (pairT (auD d) (auD d') x k) := λ x k hx hk => ⟨by have := hw.2 x.1 k (by rw [hnn]; exact hx.1) hk; rw [hnn] at this; exact this, by have := hw'.2 x.2 k (by rw [hnn']; exact hx.2) hk; rw [hnn'] at this; exact this⟩
      obtain ⟨N, hN, hE⟩ := ends_some (s0 := (0, 0)) (g := pairT (auD d) (auD d')) (M := n * n') (λ t => (ords_pairs h00 hTT t).2)
      have HF : Hid (∀ V : World, Below W0.heap.size W0 V -> Calls Tryd.prog 53 #[.agg #[.int .i64 0, .int .i64 0], .func (.func 54) #[.agg #[.slice (some ad) n c, .slice (some aN) n c', .slice (some ad') n' cc, .slice (some aN') n' cc']] #[], .func (.func 52) #[] #[.pointer (some ⟨w.heap.size, 0, none⟩), .pointer (some ⟨w.heap.size + 1, 0, none⟩)]] V (FwPost (λ u => pairF false ((auD d).A (runG (pairT (auD d) (auD d')) (0, 0) u).1) ((auD d').A (runG (pairT (auD d) (auD d')) (0, 0) u).2) = true) V)) := Lib.hid (λ V hV => by
        refine implFwP_any _ _ _ _ _ enters_step enters_implIncQ (pairT (auD d) (auD d')) (λ x => pairF false ((auD d).A x.1) ((auD d').A x.2)) n n' (0, 0) V (by omega) (by omega) h00 hTT ⟨N, by omega, hE⟩ (λ U x k hU hx hk => ?_) (λ U x hU hx => ?_)
        . have hb : Below w.heap.size w U := HB0.out.trans ((hV.trans (hU.mono hV.size)).mono HB0.out.size)
          obtain ⟨r1, q1, a1, a2⟩ := hT x.1 hx.1
          obtain ⟨r2, q2, b1, b2⟩ := hT' x.2 hx.2
          have a3 := a2 k hk
          have b3 := b2 k hk
          exact implStepP_any (.slice (some ad) n c) (.slice (some ad') n' cc) aN aN' n n' c' cc' x.1 x.2 k r1 r2 q1 q2 _ _ U hx.1 hx.2 hk ((hb.cell (cell_in a1)).trans a1) ((hb.cell (cell_in a3)).trans a3) ((hb.cell (cell_in b1)).trans b1) ((hb.cell (cell_in b3)).trans b3)
        . have hb : Below w.heap.size w U := HB0.out.trans ((hV.trans (hU.mono hV.size)).mono HB0.out.size)
          have hbW : Below W0.heap.size W0 U := hV.trans (hU.mono hV.size)
          have h1 := hA x.1 hx.1
          have h2 := hA' x.2 hx.2
          rw [pairF_less]
          exact implIncQ w.heap.size (w.heap.size + 1) ad ad' n n' c cc x.1 x.2 _ _ U hx.1 hx.2 (box2_facts ((hbW.block _ (by omega)).trans HX.out)).1 ((hb.cell (cell_in h1)).trans h1) (box2_facts ((hbW.block _ (by omega)).trans HX'.out)).1 ((hb.cell (cell_in h2)).trans h2))
      have HR := Lib.hid (λ r (hr : FirstR (λ u => pairF false ((auD d).A (runG (pairT (auD d) (auD d')) (0, 0) u).1) ((auD d').A (runG (pairT (auD d) (auD d')) (0, 0) u).2) = true) r) => HY.out r (firstR_congr (λ u hu => by rw [(runG_pair (auD d) (auD d') u (0, 0)).1, (runG_pair (auD d) (auD d') u (0, 0)).2]) hr))
      clear h h' hy hv hv' hA hT hA' hT' hw hw' hne hne' hl hl' hn40 hn40' hnn hnn' hN hE HY h00 hTT hM
      go_enter Tryd.func19, Tryd.ntmps19
      obtain ⟨c0, c1, -, -⟩ := box2_facts HX.out
      rw [hW0] at c0 c1
      go_wp2_with fail
      go_at_call 29
      rw [<- hW0]
      clear hW0 c0 c1
      refine HV.out.mono ?_
      rintro e w1 ⟨rfl, hb1⟩
      have HB1 := Lib.hid (HB0.out.trans (hb1.mono HB0.out.size))
      have HW1 := Lib.hid hb1
      have HX1 := Lib.hid ((hb1.block _ (by omega)).trans HX.out)
      have HX1' := Lib.hid ((hb1.block _ (by omega)).trans HX'.out)
      have hz1 := hb1.size
      clear hb1
      obtain ⟨c0, c1, -, -⟩ := box2_facts HX1'.out
      go_wp2_with fail
      go_at_call 29
      refine (HV'.out _ HB1.out).mono ?_
      rintro e w2 ⟨rfl, hb2⟩
      have HB2 := Lib.hid (HB1.out.trans (hb2.mono HB1.out.size))
      have HW2 := Lib.hid (HW1.out.trans (hb2.mono HW1.out.size))
      have HX2 := Lib.hid ((hb2.block _ (by omega)).trans HX1.out)
      have HX2' := Lib.hid ((hb2.block _ (by omega)).trans HX1'.out)
      have hz2 := hb2.size
      clear hb2 c0 c1
      obtain ⟨c0, c1, -, -⟩ := box2_facts HX2.out
      obtain ⟨k0, k1, -, -⟩ := box2_facts HX2'.out
      go_wp2_with fail
      go_at_call 53
      refine (HF.out w2 HW2.out).mono ?_
      rintro e w3 ⟨r, hr, rfl, hb3⟩
      obtain rfl := HR.out r hr
      have HB3 := Lib.hid (HB2.out.trans (hb3.mono HB2.out.size))
      clear hb3 hr c0 c1 k0 k1
      go_wp2_with fail
      go_ret
      exact ⟨by cases r <;> rfl, HB3.out⟩
end Go.Proofs.YtiijlpmdnokjfaaDoor
