/- Texts of one proof. -/
import Derived.Test.YtiijlpmdnokjfaaGreatDoorCplZPack12
import Derived.Test.YtiijlpmdnokjfaaGreatDoorCplZPack13
set_option maxRecDepth 100000
set_option maxHeartbeats 20000000
namespace Go.Proofs.YtiijlpmdnokjfaaGreatDoor
open Go.RowKit
theorem ords_pairs {s0 : Nat × Nat} {g : Nat × Nat -> Nat -> Nat × Nat} {Ma Mb : Nat} (h0 : okP Ma Mb s0) (hg : ∀ x k, okP Ma Mb x -> k < 3 -> okP Ma Mb (g x k)) (t : Nat) : (∀ x ∈ ords s0 g t, okP Ma Mb x) /\ (ords s0 g t).length <= Ma * Mb := by
  have hall : ∀ t, ∀ x ∈ ords s0 g t, okP Ma Mb x := λ t => by
    induction t with
    | zero => intro x hx; simp [ords] at hx; rw [hx]; exact h0
    | succ t ih =>
      intro x hx
      rw [ords] at hx
      have hd : okP Ma Mb ((ords s0 g t).getD (t / 3) default) := by
        by_cases hl : t / 3 < (ords s0 g t).length
        . exact ih _ (getD_mem hl)
        . rw [List.getD_eq_getElem?_getD, List.getElem?_eq_none (by omega)]
          exact ⟨Nat.lt_of_le_of_lt (Nat.zero_le _) h0.1, Nat.lt_of_le_of_lt (Nat.zero_le _) h0.2⟩
      split at hx
      . exact ih x hx
      . rcases List.mem_append.1 hx with hx | hx
        . exact ih x hx
        . rw [List.mem_singleton] at hx
          rw [hx]
          exact hg _ _ hd (by omega)
  refine ⟨hall t, ?_⟩
  have hnd : ((ords s0 g t).map λ x => x.1 * Mb + x.2).Nodup := by
    rw [List.nodup_iff_pairwise_ne, List.pairwise_map]
    refine (ords_nodup (s0 := s0) (g := g) t).imp_of_mem ?_
    intro x y hx hy hne e
    have h1 := (hall t x hx).2
    have h2 := (hall t y hy).2
    apply hne
    have e1 : x.1 = y.1 := by rw [<- pair_div (p := x.1) h1, <- pair_div (p := y.1) h2, e]
    have e2 : x.2 = y.2 := by rw [<- pair_mod (p := x.1) h1, <- pair_mod (p := y.1) h2, e]
    exact Prod.ext e1 e2
  have := nodup_len (Ma * Mb) _ hnd (λ z hz => by
    obtain ⟨x, hx, rfl⟩ := List.mem_map.1 hz
    exact pair_lt (hall t x hx).1 (hall t x hx).2)
  rwa [List.length_map] at this
theorem implOrP_any (ba bb : Nat) (ad ad' : Addr) (n n' c c' p q : Nat) (x y : Bool) (w : World) (hp : p < n) (hq : q < n') (a0 : w.cell? ⟨ba, 0, none⟩ = some (.slice (some ad) n c)) (a1 : w.cell? (ad.add p) = some (.bool x))
    (b0 : w.cell? ⟨bb, 0, none⟩ = some (.slice (some ad') n' c')) (b1 : w.cell? (ad'.add q) = some (.bool y)) :
    Calls Tryz.prog 87 #[.agg #[.int .i64 (p : Int), .int .i64 (q : Int)], .pointer (some ⟨ba, 0, none⟩), .pointer (some ⟨bb, 0, none⟩)] w λ e w' => e = .returned (.bool (x || y)) /\ Below w.heap.size w w' := by
  have s0 : (p : Int) < (n : Int) := by omega
  have s1 : (0 : Int) <= (p : Int) := by omega
  have s2 : (q : Int) < (n' : Int) := by omega
  have s3 : (0 : Int) <= (q : Int) := by omega
  obtain ⟨W0, hW0⟩ : ∃ W0, W0 = w.alloc (.cells #[.int .i64 (p : Int), .int .i64 (q : Int)] 133) := ⟨_, rfl⟩
  have hb0 : Below w.heap.size w W0 := by rw [hW0]; exact (Below.refl _ _).alloc (Nat.le_refl _) _
  have a0' := (hb0.cell (cell_in a0)).trans a0
  have a1' := (hb0.cell (cell_in a1)).trans a1
  have b0' := (hb0.cell (cell_in b0)).trans b0
  have b1' := (hb0.cell (cell_in b1)).trans b1
  obtain ⟨p0, p1, -, -⟩ := box2_facts (show W0.heap[w.heap.size]? = some (.cells #[.int .i64 (p : Int), .int .i64 (q : Int)] 133 (0, 0)) by rw [hW0]; exact heap_alloc_new w _)
  have HB0 := Lib.hid hb0
  clear a0 a1 b0 b1 hb0
  cases x with
  | true =>
    go_enter Tryz.func87, Tryz.ntmps87
    go_upto_region 1 with fail
    rw [<- hW0]
    clear hW0
    go_wp2_with fail
    go_ret
    exact ⟨rfl, HB0.out⟩
  | false =>
    go_enter Tryz.func87, Tryz.ntmps87
    go_upto_region 1 with fail
    rw [<- hW0]
    clear hW0
    go_wp2_with fail
    go_ret
    exact ⟨by simp, HB0.out⟩
theorem implAndP_any (ba bb : Nat) (ad ad' : Addr) (n n' c c' p q : Nat) (x y : Bool) (w : World) (hp : p < n) (hq : q < n') (a0 : w.cell? ⟨ba, 0, none⟩ = some (.slice (some ad) n c)) (a1 : w.cell? (ad.add p) = some (.bool x))
    (b0 : w.cell? ⟨bb, 0, none⟩ = some (.slice (some ad') n' c')) (b1 : w.cell? (ad'.add q) = some (.bool y)) :
    Calls Tryz.prog 88 #[.agg #[.int .i64 (p : Int), .int .i64 (q : Int)], .pointer (some ⟨ba, 0, none⟩), .pointer (some ⟨bb, 0, none⟩)] w λ e w' => e = .returned (.bool (x && y)) /\ Below w.heap.size w w' := by
  have s0 : (p : Int) < (n : Int) := by omega
  have s1 : (0 : Int) <= (p : Int) := by omega
  have s2 : (q : Int) < (n' : Int) := by omega
  have s3 : (0 : Int) <= (q : Int) := by omega
  obtain ⟨W0, hW0⟩ : ∃ W0, W0 = w.alloc (.cells #[.int .i64 (p : Int), .int .i64 (q : Int)] 133) := ⟨_, rfl⟩
  have hb0 : Below w.heap.size w W0 := by rw [hW0]; exact (Below.refl _ _).alloc (Nat.le_refl _) _
  have a0' := (hb0.cell (cell_in a0)).trans a0
  have a1' := (hb0.cell (cell_in a1)).trans a1
  have b0' := (hb0.cell (cell_in b0)).trans b0
  have b1' := (hb0.cell (cell_in b1)).trans b1
  obtain ⟨p0, p1, -, -⟩ := box2_facts (show W0.heap[w.heap.size]? = some (.cells #[.int .i64 (p : Int), .int .i64 (q : Int)] 133 (0, 0)) by rw [hW0]; exact heap_alloc_new w _)
  have HB0 := Lib.hid hb0
  clear a0 a1 b0 b1 hb0
  cases x with
  | true =>
    go_enter Tryz.func88, Tryz.ntmps88
    go_upto_region 1 with fail
    rw [<- hW0]
    clear hW0
    go_wp2_with fail
    go_ret
    exact ⟨by simp, HB0.out⟩
  | false =>
    go_enter Tryz.func88, Tryz.ntmps88
    go_upto_region 1 with fail
    rw [<- hW0]
    clear hW0
    go_wp2_with fail
    go_ret
    exact ⟨by simp, HB0.out⟩
theorem three_box (w : World) (a b c : Obj) : let W := ((w.alloc a).alloc b).alloc c
    W.heap[w.heap.size]? = some a /\ W.heap[w.heap.size + 1]? = some b /\ W.heap[w.heap.size + 1 + 1]? = some c /\ Below w.heap.size w W := by
  intro W
  have h1 := heap_alloc_new (w.alloc a) b
  have h2 := heap_alloc_new ((w.alloc a).alloc b) c
  rw [World.size_alloc] at h1 h2
  rw [World.size_alloc] at h2
  exact ⟨(Below.heap_alloc _ _ _ (by simp; omega)).trans ((Below.heap_alloc _ _ _ (by simp)).trans (heap_alloc_new w a)), (Below.heap_alloc _ _ _ (by simp)).trans h1, h2, (((Below.refl _ _).alloc (Nat.le_refl _) _).alloc (by simp) _).alloc (by simp; omega) _⟩
theorem implStepP_any (va va' : Value) (ad ad' : Addr) (n n' c c' p q k : Nat) (ra rb : Addr) (ca cb : Nat) (x y : Int) (w : World) (hp : p < n) (hq : q < n') (hk : k < 3)
    (a1 : w.cell? (ad.add p) = some (.slice (some ra) 3 ca)) (a2 : w.cell? (ra.add k) = some (.int .i64 x))
    (b1 : w.cell? (ad'.add q) = some (.slice (some rb) 3 cb)) (b2 : w.cell? (rb.add k) = some (.int .i64 y)) :
    Calls Tryz.prog 120 #[.agg #[va, .slice (some ad) n c, va', .slice (some ad') n' c'], .agg #[.int .i64 (p : Int), .int .i64 (q : Int)], .int .i64 (k : Int)] w λ e w' => e = .returned (.agg #[.int .i64 x, .int .i64 y]) /\ Below w.heap.size w w' := by
  obtain ⟨W0, hW0⟩ : ∃ W0, W0 = ((w.alloc (.cells #[va, .slice (some ad) n c, va', .slice (some ad') n' c'] 168)).alloc (.cells #[.int .i64 (p : Int), .int .i64 (q : Int)] 133)).alloc (.cells #[.int .i64 0, .int .i64 0] 133) := ⟨_, rfl⟩
  have h3 := three_box w (.cells #[va, .slice (some ad) n c, va', .slice (some ad') n' c'] 168) (.cells #[.int .i64 (p : Int), .int .i64 (q : Int)] 133) (.cells #[.int .i64 0, .int .i64 0] 133)
  rw [<- hW0] at h3
  obtain ⟨i0, i1, i2, hb0⟩ := h3
  have HB0 := Lib.hid hb0
  have HZ := Lib.hid (λ (V : World) (hV : Below W0.heap.size W0 V) => box2_facts ((hV.block _ (blk_lt i2)).trans i2))
  have HA := Lib.hid (λ (V : World) (hV : Below W0.heap.size W0 V) => (have hb := hb0.trans (hV.mono hb0.size); implDfaAfter_any va ad n c p k ra ca x V hp hk ((hb.cell (cell_in a1)).trans a1) ((hb.cell (cell_in a2)).trans a2)))
  have HA' := Lib.hid (λ (V : World) (hV : Below W0.heap.size W0 V) => (have hb := hb0.trans (hV.mono hb0.size); implDfaAfter_any va' ad' n' c' q k rb cb y V hq hk ((hb.cell (cell_in b1)).trans b1) ((hb.cell (cell_in b2)).trans b2)))
  have hz2 : w.heap.size + 1 + 1 <= W0.heap.size := Nat.le_of_lt (blk_lt i2)
  have HK := Lib.hid (λ (V : World) (hV : Below (w.heap.size + 1 + 1) W0 V) => (
    have j0 := (hV.block _ (by omega)).trans i0
    have j1 := (hV.block _ (by omega)).trans i1
    ⟨(cell_of_row V _ 0 _ _ (0, 0) j0).trans rfl, (cell_of_row V _ 1 _ _ (0, 0) j0).trans rfl, (cell_of_row V _ 2 _ _ (0, 0) j0).trans rfl, (cell_of_row V _ 3 _ _ (0, 0) j0).trans rfl, (box2_facts j1).1, (box2_facts j1).2.1⟩ :
    V.cell? ⟨w.heap.size, 0, none⟩ = some va /\ V.cell? ⟨w.heap.size, 1, none⟩ = some (.slice (some ad) n c) /\ V.cell? ⟨w.heap.size, 2, none⟩ = some va' /\ V.cell? ⟨w.heap.size, 3, none⟩ = some (.slice (some ad') n' c') /\ V.cell? ⟨w.heap.size + 1, 0, none⟩ = some (.int .i64 (p : Int)) /\ V.cell? ⟨w.heap.size + 1, 1, none⟩ = some (.int .i64 (q : Int))))
  have hbw : Below W0.heap.size W0 W0 := Below.refl _ _
  clear a1 a2 b1 b2 hb0 i0 i1 i2
  go_enter Tryz.func120, Tryz.ntmps120
  go_upto_region 1 with fail
  rw [<- hW0]
  clear hW0
  go_region_held3 (λ V => V.cell? ⟨w.heap.size, 0, none⟩ = some va /\ V.cell? ⟨w.heap.size, 1, none⟩ = some (.slice (some ad) n c) /\ V.cell? ⟨w.heap.size, 2, none⟩ = some va' /\ V.cell? ⟨w.heap.size, 3, none⟩ = some (.slice (some ad') n' c') /\ V.cell? ⟨w.heap.size + 1, 0, none⟩ = some (.int .i64 (p : Int)) /\ V.cell? ⟨w.heap.size + 1, 1, none⟩ = some (.int .i64 (q : Int))) (first | exact HK.out _ (hbw.drew.mono hz2) | exact HK.out _ (hbw.mono hz2) | exact HK.out _ (((hbw.mono hz2).setCell (Nat.le_refl _) _).setCell (Nat.le_refl _) _)) (first | (go_at_call 34; (with_reducible refine (HA.out _ hbw.drew).mono ?_); rintro e wa ⟨rfl, hba⟩; have hbw := hbw.drew.trans (hba.mono hbw.drew.size)) | (go_at_call 34; (with_reducible refine (HA'.out _ hbw).mono ?_); rintro e wb ⟨rfl, hbb⟩; have hbw := hbw.trans (hbb.mono hbw.size); obtain ⟨c0, c1, k0, k1⟩ := HZ.out _ hbw))
  all_goals
    obtain ⟨hcl, hsz, hot, hBl⟩ := put2 (k := .int .i64 x) (l := .int .i64 y) c0 c1
    obtain ⟨hc0, hc1⟩ := hcl
    have HOt := Lib.hid (hBl _ _ (HB0.out.trans (hbw.mono HB0.out.size)) (by omega))
    clear hsz hot hBl hbw hba hbb
    go_wp2_with fail
    refine bodyPost_ret (v := .agg #[.int .i64 x, .int .i64 y]) (by simp [results, Tryz.results120, go_sem, hc0, hc1]) rfl ?_
    exact ⟨rfl, HOt.out⟩
def pairT (a b : Au) (x : Nat × Nat) (k : Nat) : Nat × Nat := (a.T x.1 k, b.T x.2 k)
theorem found_prd {a b : Au} {f : Bool -> Bool -> Bool} (hb : b.wf) {N : Nat} (h : Ends (0, 0) (pairT a b) N) : Eqv (found (0, 0) (pairT a b) (λ x => f (a.A x.1) (b.A x.2)) N) 0 (prd a b f) 0 := λ w hw => by
  rw [prd_lang hb w hw]
  have h1 := h.lang (acc := λ x : Nat × Nat => f (a.A x.1) (b.A x.2)) (L := λ x w => f (a.A (a.run x.1 w)) (b.A (b.run x.2 w))) (λ _ => rfl) (λ _ _ _ _ _ _ => rfl) w 0 hw h.pos
  rw [h1, ords_first]
theorem enters_step (args : Array Value) (w : World) : (callFunc 120 args).run Tryz.prog w = .ok (.enter 120 args) w := enters_of Tryz.func120 (by kernel_rfl) rfl args w
theorem enters_or (args : Array Value) (w : World) : (callFunc 87 args).run Tryz.prog w = .ok (.enter 87 args) w := enters_of Tryz.func87 (by kernel_rfl) rfl args w
theorem enters_and (args : Array Value) (w : World) : (callFunc 88 args).run Tryz.prog w = .ok (.enter 88 args) w := enters_of Tryz.func88 (by kernel_rfl) rfl args w
def PrdPost (a b : Au) (f : Bool -> Bool -> Bool) (w : World) (e : Ending) (w' : World) : Prop := ∃ m, Canon m /\ Eqv m 0 (prd a b f) 0 /\ CopyDB (fitD m) (decide (m.n <= 40)) w e w'
theorem implPrd_any (va vn va' vn' : Value) (d d' : Dx) (S S' : Nat -> Prop) (f : Bool -> Bool -> Bool) (g2 : Nat) (lb2 : Array Value) (eg2 : ∀ args w, (callFunc g2 args).run Tryz.prog w = .ok (.enter g2 args) w) (w : World) (h : DfaV w S va vn d) (h' : DfaV w S' va' vn' d') (hv : validD d = true) (hv' : validD d' = true)
    (H2 : ∀ (V : World) (x : Nat × Nat), Below w.heap.size w V -> okP d.acc.length d'.acc.length x -> Calls Tryz.prog g2 (#[.agg #[.int .i64 (x.1 : Int), .int .i64 (x.2 : Int)]] ++ lb2) V λ e w' => e = .returned (.bool (f ((auD d).A x.1) ((auD d').A x.2))) /\ Below V.heap.size V w') :
    Calls Tryz.prog 86 #[.agg #[va, vn], .agg #[va', vn'], .func (.func g2) #[] lb2] w (PrdPost (auD d) (auD d') f w) := by
  have hmf : ∀ (fn : Fn) (first cap : Array Value) (w : World), (Instr.makeFunc fn first cap).run Tryz.prog w = .ok (.func fn first cap) w := λ _ _ _ _ => rfl
  obtain ⟨hw, hn40, hnn, hl, ad, c, aN, c', rfl, rfl, hA, hT⟩ := h.au hv
  obtain ⟨hw', hn40', hnn', hl', ad', cc, aN', cc', rfl, rfl, hA', hT'⟩ := h'.au hv'
  obtain ⟨n, hne⟩ : ∃ n, n = d.acc.length := ⟨_, rfl⟩
  obtain ⟨n', hne'⟩ : ∃ n', n' = d'.acc.length := ⟨_, rfl⟩
  rw [<- hne] at hT H2 hnn ⊢
  rw [<- hne'] at hT' H2 hnn' ⊢
  obtain ⟨W0, hW0⟩ : ∃ W0, W0 = ((w.alloc (.cells #[.slice (some ad) n c, .slice (some aN) n c'] 31)).alloc (.cells #[.slice (some ad') n' cc, .slice (some aN') n' cc'] 31)).alloc (.cells #[.slice none 0 0, .slice none 0 0] 31) := ⟨_, rfl⟩
  have h3 := three_box w (.cells #[.slice (some ad) n c, .slice (some aN) n c'] 31) (.cells #[.slice (some ad') n' cc, .slice (some aN') n' cc'] 31) (.cells #[.slice none 0 0, .slice none 0 0] 31)
  rw [<- hW0] at h3
  have HB0 : Hid (Below w.heap.size w W0) := Lib.hid h3.2.2.2
  have HX := Lib.hid h3.1
  have HX' := Lib.hid h3.2.1
  have HY := Lib.hid h3.2.2.1
  clear h3
  have hM : n * n' <= 1600 := by
    have := Nat.mul_le_mul (show n <= 40 by omega) (show n' <= 40 by omega)
    omega
  have h00 : okP n n' (0, 0) := ⟨by rw [<- hnn]; exact hw.1, by rw [<- hnn']; exact hw'.1⟩
  have hTT : ∀ x k, okP n n' x -> k < 3 -> okP n n' (pairT (auD d) (auD d') x k) := λ x k hx hk => ⟨by have := hw.2 x.1 k (by rw [hnn]; exact hx.1) hk; rw [hnn] at this; exact this, by have := hw'.2 x.2 k (by rw [hnn']; exact hx.2) hk; rw [hnn'] at this; exact this⟩
  obtain ⟨N, hN, hE⟩ := ends_some (s0 := (0, 0)) (g := pairT (auD d) (auD d')) (M := n * n') (λ t => (ords_pairs h00 hTT t).2)
  obtain ⟨m, m1, m2, -⟩ := exists_min (hE.wf λ x => f ((auD d).A x.1) ((auD d').A x.2))
  have HM : Hid (Canon m /\ Eqv m 0 (prd (auD d) (auD d') f) 0) := Lib.hid ⟨m1, m2.trans (found_prd (f := f) hw' hE)⟩
  have HEx : Hid (Calls Tryz.prog 119 #[.agg #[.int .i64 0, .int .i64 0], .func (.func 120) #[.agg #[.slice (some ad) n c, .slice (some aN) n c', .slice (some ad') n' cc, .slice (some aN') n' cc']] #[], .func (.func g2) #[] lb2, .int .i64 1600] W0 (CopyDB (fitD m) (decide (m.n <= 40)) W0)) := Lib.hid (by
    refine implMdP_any _ g2 _ _ lb2 enters_step eg2 (pairT (auD d) (auD d')) (λ x => f ((auD d).A x.1) ((auD d').A x.2)) n n' 1600 (0, 0) W0 (by omega) (by omega) (by omega) (by omega) h00 hTT (λ U x k hU hx hk => ?_) (λ U x hU hx => ?_) _ _ (.inl ⟨N, by omega, hE, m, m1, m2, rfl, rfl⟩)
    . have hb : Below w.heap.size w U := HB0.out.trans (hU.mono HB0.out.size)
      obtain ⟨r1, q1, a1, a2⟩ := hT x.1 hx.1
      obtain ⟨r2, q2, b1, b2⟩ := hT' x.2 hx.2
      have a3 := a2 k hk
      have b3 := b2 k hk
      exact implStepP_any (.slice (some ad) n c) (.slice (some ad') n' cc) aN aN' n n' c' cc' x.1 x.2 k r1 r2 q1 q2 _ _ U hx.1 hx.2 hk ((hb.cell (cell_in a1)).trans a1) ((hb.cell (cell_in a3)).trans a3) ((hb.cell (cell_in b1)).trans b1) ((hb.cell (cell_in b3)).trans b3)
    . exact H2 U x (HB0.out.trans (hU.mono HB0.out.size)) hx)
  clear h h' hA hT hA' hT' H2 hw hne hne' hl hl' hv hv' hn40 hnn hn40' hnn' hw' h00 hTT hN hE m1 m2
  go_enter Tryz.func86, Tryz.ntmps86
  go_wp2_with fail
  go_at_call 119
  rw [<- hW0]
  refine HEx.out.mono ?_
  rintro e w3 hcd
  obtain ⟨A1, p1, A2, p2, rfl, hoo, hb3⟩ := hcd.shape
  obtain ⟨x1, hx1⟩ : ∃ x, x = (fitD m).acc.length := ⟨_, rfl⟩
  obtain ⟨x2, hx2⟩ : ∃ x, x = (fitD m).nxt.length := ⟨_, rfl⟩
  obtain ⟨ok, hok⟩ : ∃ b, b = decide (m.n <= 40) := ⟨_, rfl⟩
  rw [<- hx1, <- hx2] at hoo ⊢
  rw [<- hok]
  have HO3 := Lib.hid hoo
  have HOk := Lib.hid hok
  have HB3 := Lib.hid hb3
  have hz3 := hb3.size
  have hyl := blk_lt HY.out
  obtain ⟨c0, c1, k0, k1⟩ := box2_facts ((HB3.out.block _ hyl).trans HY.out)
  obtain ⟨hcl, hsz, hot, hBl⟩ := put2 (k := .slice A1 x1 p1) (l := .slice A2 x2 p2) c0 c1
  obtain ⟨hc0, hc1⟩ := hcl
  have HOt := Lib.hid (And.intro hsz (And.intro hot hBl))
  clear hsz hot hBl hoo hb3 hcd hx1 hx2 hok hW0
  go_wp2_with fail
  refine bodyPost_ret (v := .tuple #[.agg #[.slice A1 x1 p1, .slice A2 x2 p2], .bool ok]) (by simp [results, Tryz.results86, go_sem, hc0, hc1]) rfl ?_
  have h0 := HB0.out.size
  refine ⟨m, HM.out.1, HM.out.2, ?_⟩
  rw [<- HOk.out]
  exact ⟨_, _, rfl, HO3.out.mono (λ g hg => HOt.out.2.1 g (by have := hg.1; omega)) (λ g hg => ⟨by have := hg.1; omega, by rw [HOt.out.1]; exact hg.2⟩) (by rw [HOt.out.1]; exact Nat.le_refl _), HOt.out.2.2 _ _ (HB0.out.trans (HB3.out.mono h0)) (by omega)⟩
end Go.Proofs.YtiijlpmdnokjfaaGreatDoor
namespace Go.Proofs.YtiijlpmdnokjfaaGreatDoor
open Go.RowKit
theorem implPro_any (va vn va' vn' : Value) (d d' : Dx) (S S' : Nat -> Prop) (kind : Int) (y : Dx) (ok : Bool) (w : World) (h : DfaV w S va vn d) (h' : DfaV w S' va' vn' d') (hy : proR d d' kind y ok) :
    Calls Tryz.prog 44 #[.agg #[va, vn], .agg #[va', vn'], .int .i64 kind] w (CopyDB y ok w) := by
  have hmf : ∀ (fn : Fn) (first cap : Array Value) (w : World), (Instr.makeFunc fn first cap).run Tryz.prog w = .ok (.func fn first cap) w := λ _ _ _ _ => rfl
  obtain ⟨W0, hW0⟩ : ∃ W0, W0 = ((w.alloc (.cells #[va, vn] 31)).alloc (.cells #[va', vn'] 31)).alloc (.cells #[.slice none 0 0, .slice none 0 0] 31) := ⟨_, rfl⟩
  have h3 := three_box w (.cells #[va, vn] 31) (.cells #[va', vn'] 31) (.cells #[.slice none 0 0, .slice none 0 0] 31)
  rw [<- hW0] at h3
  have HB0 : Hid (Below w.heap.size w W0) := Lib.hid h3.2.2.2
  have HX := Lib.hid h3.1
  have HX' := Lib.hid h3.2.1
  have HY := Lib.hid h3.2.2.1
  clear h3
  have HV := Lib.hid (implValidD_any va vn d S W0 (h.kept HB0.out))
  have HV' := Lib.hid (λ (V : World) (hV : Below w.heap.size w V) => implValidD_any va' vn' d' S' V (h'.kept hV))
  have HPr : Hid (validD d = true -> validD d' = true -> ∀ (f : Bool -> Bool -> Bool) (g : Nat) (eg : ∀ args w, (callFunc g args).run Tryz.prog w = .ok (.enter g args) w) (V : World), Below W0.heap.size W0 V -> (∀ (U : World) (p q : Nat) (ad ad' : Addr) (c c' : Nat) (x z : Bool), p < d.acc.length -> q < d'.acc.length -> U.cell? ⟨w.heap.size, 0, none⟩ = some (.slice (some ad) d.acc.length c) -> U.cell? (ad.add p) = some (.bool x) -> U.cell? ⟨w.heap.size + 1, 0, none⟩ = some (.slice (some ad') d'.acc.length c') -> U.cell? (ad'.add q) = some (.bool z) -> Calls Tryz.prog g #[.agg #[.int .i64 (p : Int), .int .i64 (q : Int)], .pointer (some ⟨w.heap.size, 0, none⟩), .pointer (some ⟨w.heap.size + 1, 0, none⟩)] U λ e w' => e = .returned (.bool (f x z)) /\ Below U.heap.size U w') ->
      Calls Tryz.prog 86 #[.agg #[va, vn], .agg #[va', vn'], .func (.func g) #[] #[.pointer (some ⟨w.heap.size, 0, none⟩), .pointer (some ⟨w.heap.size + 1, 0, none⟩)]] V (PrdPost (auD d) (auD d') f V)) := Lib.hid (λ hv hv' f g eg V hV hc => by
    have hb : Below w.heap.size w V := HB0.out.trans (hV.mono HB0.out.size)
    refine implPrd_any va vn va' vn' d d' S S' f g _ eg V (h.kept hb) (h'.kept hb) hv hv' (λ U x hU hx => ?_)
    have hbU : Below w.heap.size w U := hb.trans (hU.mono hb.size)
    have hbW : Below W0.heap.size W0 U := hV.trans (hU.mono hV.size)
    obtain ⟨-, -, -, -, ad, c, aN, c', hva, hvn, hA, -⟩ := h.au hv
    obtain ⟨-, -, -, -, ad', cc, aN', cc', hva', hvn', hA', -⟩ := h'.au hv'
    have a1 := hA x.1 hx.1
    have b1 := hA' x.2 hx.2
    refine hc U x.1 x.2 ad ad' c cc _ _ hx.1 hx.2 ?_ ((hbU.cell (cell_in a1)).trans a1) ?_ ((hbU.cell (cell_in b1)).trans b1)
    . rw [<- hva]
      exact (box2_facts ((hbW.block _ (blk_lt HX.out)).trans HX.out)).1
    . rw [<- hva']
      exact (box2_facts ((hbW.block _ (blk_lt HX'.out)).trans HX'.out)).1)
  obtain ⟨⟨A, c, hA⟩, A', c', hA'⟩ := h.shape
  obtain ⟨⟨B, e, hB⟩, B', e', hB'⟩ := h'.shape
  subst hA
  subst hA'
  subst hB
  subst hB'
  obtain ⟨hc0, hc1, -, -⟩ := box2_facts HX.out
  obtain ⟨hd0, hd1, -, -⟩ := box2_facts HX'.out
  rw [hW0] at hc0 hc1 hd0 hd1
  have HYy := Lib.hid hy
  obtain ⟨v, hv⟩ : ∃ v, v = validD d := ⟨_, rfl⟩
  obtain ⟨v', hv'⟩ : ∃ v, v = validD d' := ⟨_, rfl⟩
  rw [<- hv] at HV
  rw [<- hv'] at HV'
  have HVe := Lib.hid (And.intro hv hv')
  clear h h' hy hv hv'
  go_enter Tryz.func44, Tryz.ntmps44
  go_wp2_with fail
  go_at_call 32
  rw [<- hW0]
  refine HV.out.mono ?_
  rintro e1 w1 ⟨rfl, hb1⟩
  have HB1 := Lib.hid hb1
  clear hc0 hc1 hd0 hd1 hW0 hb1
  have hw1 := Lib.hid (HB0.out.trans (HB1.out.mono HB0.out.size))
  obtain ⟨hc0, hc1, -, -⟩ := box2_facts ((HB1.out.block _ (blk_lt HX.out)).trans HX.out)
  obtain ⟨hd0, hd1, -, -⟩ := box2_facts ((HB1.out.block _ (blk_lt HX'.out)).trans HX'.out)
  cases v with
  | false =>
    obtain ⟨rfl, rfl⟩ := proR_no HYy.out (λ hh => by have := HVe.out.1; rw [hh.1] at this; cases this)
    obtain ⟨c0, c1, k0, k1⟩ := box2_facts ((HB1.out.block _ (blk_lt HY.out)).trans HY.out)
    obtain ⟨hcl, hsz, hot, hBl⟩ := put2 (k := .slice none 0 0) (l := .slice none 0 0) c0 c1
    obtain ⟨hr0, hr1⟩ := hcl
    have HOt := Lib.hid hBl
    clear hsz hot hBl
    go_wp2_with fail
    refine bodyPost_ret (v := .tuple #[.agg #[.slice none 0 0, .slice none 0 0], .bool false]) (by simp [results, Tryz.results44, go_sem, hr0, hr1]) rfl ?_
    exact ⟨_, _, rfl, DfaO.empty _ _, HOt.out _ _ (HB0.out.trans (HB1.out.mono HB0.out.size)) (by omega)⟩
  | true =>
    go_wp2_with fail
    go_at_call 32
    refine (HV'.out w1 hw1.out).mono ?_
    rintro e2 w2 ⟨rfl, hb2⟩
    have HB2 := Lib.hid (HB1.out.trans (hb2.mono HB1.out.size))
    clear hc0 hc1 hd0 hd1 hb2
    obtain ⟨hc0, hc1, -, -⟩ := box2_facts ((HB2.out.block _ (blk_lt HX.out)).trans HX.out)
    obtain ⟨hd0, hd1, -, -⟩ := box2_facts ((HB2.out.block _ (blk_lt HX'.out)).trans HX'.out)
    cases v' with
    | false =>
      obtain ⟨rfl, rfl⟩ := proR_no HYy.out (λ hh => by have := HVe.out.2; rw [hh.2.1] at this; cases this)
      obtain ⟨c0, c1, k0, k1⟩ := box2_facts ((HB2.out.block _ (blk_lt HY.out)).trans HY.out)
      obtain ⟨hcl, hsz, hot, hBl⟩ := put2 (k := .slice none 0 0) (l := .slice none 0 0) c0 c1
      obtain ⟨hr0, hr1⟩ := hcl
      have HOt := Lib.hid hBl
      clear hsz hot hBl
      go_wp2_with fail
      refine bodyPost_ret (v := .tuple #[.agg #[.slice none 0 0, .slice none 0 0], .bool false]) (by simp [results, Tryz.results44, go_sem, hr0, hr1]) rfl ?_
      exact ⟨_, _, rfl, DfaO.empty _ _, HOt.out _ _ (HB0.out.trans (HB2.out.mono HB0.out.size)) (by omega)⟩
    | true =>
      by_cases h6 : kind = 6
      . subst h6
        have HP := Lib.hid (HPr.out HVe.out.1.symm HVe.out.2.symm (· || ·) _ enters_or w2 HB2.out (λ U p q ad ad' c c' x z hp hq a0 a1 b0 b1 => implOrP_any _ _ ad ad' _ _ c c' p q x z U hp hq a0 a1 b0 b1))
        go_wp2_with fail
        go_at_call 86
        refine HP.out.mono ?_
        rintro e3 w3 ⟨m, m1, m2, hcd⟩
        obtain ⟨rfl, rfl⟩ := proR_yes HYy.out HVe.out.1.symm HVe.out.2.symm (by simp) m1 m2
        obtain ⟨A1, p1, A2, p2, rfl, hoo, hb3⟩ := hcd.shape
        obtain ⟨x1, hx1⟩ : ∃ x, x = (fitD m).acc.length := ⟨_, rfl⟩
        obtain ⟨x2, hx2⟩ : ∃ x, x = (fitD m).nxt.length := ⟨_, rfl⟩
        obtain ⟨ok, hok⟩ : ∃ b, b = decide (m.n <= 40) := ⟨_, rfl⟩
        rw [<- hx1, <- hx2] at hoo ⊢
        rw [<- hok]
        have HOk := Lib.hid hok
        have HO3 := Lib.hid hoo
        have HB3 := Lib.hid (HB2.out.trans (hb3.mono HB2.out.size))
        have hz2 := HB2.out.size
        have hz3 := hb3.size
        have hyl := blk_lt HY.out
        obtain ⟨c0, c1, k0, k1⟩ := box2_facts ((HB3.out.block _ hyl).trans HY.out)
        obtain ⟨hcl, hsz, hot, hBl⟩ := put2 (k := .slice A1 x1 p1) (l := .slice A2 x2 p2) c0 c1
        obtain ⟨hr0, hr1⟩ := hcl
        have HOt := Lib.hid (And.intro hsz (And.intro hot hBl))
        clear hsz hot hBl hoo hb3 hcd hx1 hx2 m1 m2 hok hc0 hc1 hd0 hd1
        go_wp2_with fail
        refine bodyPost_ret (v := .tuple #[.agg #[.slice A1 x1 p1, .slice A2 x2 p2], .bool ok]) (by simp [results, Tryz.results44, go_sem, hr0, hr1]) rfl ?_
        have h0 := HB0.out.size
        rw [<- HOk.out]
        exact ⟨_, _, rfl, HO3.out.mono (λ g hg => HOt.out.2.1 g (by have := hg.1; omega)) (λ g hg => ⟨by have := hg.1; omega, by rw [HOt.out.1]; exact hg.2⟩) (by rw [HOt.out.1]; exact Nat.le_refl _), HOt.out.2.2 _ _ (HB0.out.trans (HB3.out.mono h0)) (by omega)⟩
      . by_cases h7 : kind = 7
        . subst h7
          have HP := Lib.hid (HPr.out HVe.out.1.symm HVe.out.2.symm (· && ·) _ enters_and w2 HB2.out (λ U p q ad ad' c c' x z hp hq a0 a1 b0 b1 => implAndP_any _ _ ad ad' _ _ c c' p q x z U hp hq a0 a1 b0 b1))
          go_wp2_with fail
          go_at_call 86
          refine HP.out.mono ?_
          rintro e3 w3 ⟨m, m1, m2, hcd⟩
          obtain ⟨rfl, rfl⟩ := proR_yes HYy.out HVe.out.1.symm HVe.out.2.symm (by simp) m1 m2
          obtain ⟨A1, p1, A2, p2, rfl, hoo, hb3⟩ := hcd.shape
          obtain ⟨x1, hx1⟩ : ∃ x, x = (fitD m).acc.length := ⟨_, rfl⟩
          obtain ⟨x2, hx2⟩ : ∃ x, x = (fitD m).nxt.length := ⟨_, rfl⟩
          obtain ⟨ok, hok⟩ : ∃ b, b = decide (m.n <= 40) := ⟨_, rfl⟩
          rw [<- hx1, <- hx2] at hoo ⊢
          rw [<- hok]
          have HOk := Lib.hid hok
          have HO3 := Lib.hid hoo
          have HB3 := Lib.hid (HB2.out.trans (hb3.mono HB2.out.size))
          have hz2 := HB2.out.size
          have hz3 := hb3.size
          have hyl := blk_lt HY.out
          obtain ⟨c0, c1, k0, k1⟩ := box2_facts ((HB3.out.block _ hyl).trans HY.out)
          obtain ⟨hcl, hsz, hot, hBl⟩ := put2 (k := .slice A1 x1 p1) (l := .slice A2 x2 p2) c0 c1
          obtain ⟨hr0, hr1⟩ := hcl
          have HOt := Lib.hid (And.intro hsz (And.intro hot hBl))
          clear hsz hot hBl hoo hb3 hcd hx1 hx2 m1 m2 hok hc0 hc1 hd0 hd1
          go_wp2_with fail
          refine bodyPost_ret (v := .tuple #[.agg #[.slice A1 x1 p1, .slice A2 x2 p2], .bool ok]) (by simp [results, Tryz.results44, go_sem, hr0, hr1]) rfl ?_
          have h0 := HB0.out.size
          rw [<- HOk.out]
          exact ⟨_, _, rfl, HO3.out.mono (λ g hg => HOt.out.2.1 g (by have := hg.1; omega)) (λ g hg => ⟨by have := hg.1; omega, by rw [HOt.out.1]; exact hg.2⟩) (by rw [HOt.out.1]; exact Nat.le_refl _), HOt.out.2.2 _ _ (HB0.out.trans (HB3.out.mono h0)) (by omega)⟩
        . have k6 : (kind == 6) = false := by simpa using h6
          have k7 : (kind == 7) = false := by simpa using h7
          obtain ⟨rfl, rfl⟩ := proR_no HYy.out (λ hh => by rcases hh.2.2 with e | e; exact h6 e; exact h7 e)
          clear h6 h7
          obtain ⟨c0, c1, k0, k1⟩ := box2_facts ((HB2.out.block _ (blk_lt HY.out)).trans HY.out)
          obtain ⟨hcl, hsz, hot, hBl⟩ := put2 (k := .slice none 0 0) (l := .slice none 0 0) c0 c1
          obtain ⟨hr0, hr1⟩ := hcl
          have HOt := Lib.hid hBl
          clear hsz hot hBl
          go_wp2_with fail
          refine bodyPost_ret (v := .tuple #[.agg #[.slice none 0 0, .slice none 0 0], .bool false]) (by simp [results, Tryz.results44, go_sem, hr0, hr1]) rfl ?_
          exact ⟨_, _, rfl, DfaO.empty _ _, HOt.out _ _ (HB0.out.trans (HB2.out.mono HB0.out.size)) (by omega)⟩
end Go.Proofs.YtiijlpmdnokjfaaGreatDoor
namespace Go.Proofs.YtiijlpmdnokjfaaGreatDoor
open Go.RowKit
theorem accA_run (a : Au) (acc : Nat -> Bool) : ∀ (w : List Nat) (q : Nat), (accA a acc).run q w = a.run q w
  | [], _ => rfl
  | k :: w, q => accA_run a acc w (a.T q k)
theorem accA_cnt (a : Au) (acc : Nat -> Bool) : ∀ t, (accA a acc).cnt t = a.cnt t
  | 0 => rfl
  | t + 1 => by simp only [Au.cnt, accA_cnt a acc t]; rfl
def negA (a : Au) : Au := accA a λ q => !a.A q
theorem negA_canon {m : Au} (h : Canon m) : Canon (negA m) where
  pos := h.pos
  lt := h.lt
  sep := λ i j hi hj he => h.sep i j hi hj (λ w hw => by
    have h1 := he w hw
    rw [negA, accA_run, accA_run] at h1
    have h2 : (!m.A (m.run i w)) = (!m.A (m.run j w)) := h1
    simpa using h2)
  next := λ t ht => by
    rw [negA, accA_cnt]
    exact h.next t ht
  seen := λ i hi => by
    rw [negA, accA_cnt]
    exact h.seen i hi
  all := by
    rw [negA, accA_cnt]
    exact h.all
theorem negA_eqv {m a : Au} (h : Eqv m 0 a 0) : Eqv (negA m) 0 (negA a) 0 := λ w hw => by
  rw [negA, negA, accA_run, accA_run]
  show (!m.A (m.run 0 w)) = (!a.A (a.run 0 w))
  rw [h w hw]
theorem negA_fields (m : Au) : fieldsOf (negA m) = comD (fieldsOf m) := by
  unfold fieldsOf comD
  simp [accOf, nxtOf, negA, accA, Function.comp_def]
theorem implCom_any (va vn : Value) (d y : Dx) (S : Nat -> Prop) (w : World) (h : DfaV w S va vn d) (hy : minR d y) :
    Calls Tryz.prog 46 #[.agg #[va, vn]] w (CopyD (comD y) w) := by
  have hmf : ∀ (fn : Fn) (first cap : Array Value) (w : World), (Instr.makeFunc fn first cap).run Tryz.prog w = .ok (.func fn first cap) w := λ _ _ _ _ => rfl
  obtain ⟨W0, hW0⟩ : ∃ W0, W0 = (w.alloc (.cells #[va, vn] 31)).alloc (.cells #[.slice none 0 0, .slice none 0 0] 31) := ⟨_, rfl⟩
  have HB0 : Hid (Below w.heap.size w W0) := Lib.hid (by rw [hW0]; exact ((Below.refl _ _).alloc (Nat.le_refl _) _).alloc (by simp) _)
  have HX : Hid (Bx2 W0 w.heap.size va vn) := Lib.hid (by
    have k := box2_kept (w := w) (w1 := W0) (a := va) (b := vn) (t := 31) (by rw [hW0]; exact (Below.refl _ _).alloc (by simp) _)
    exact ⟨k.2.1, k.2.2.1⟩)
  have HY : Hid (W0.heap[w.heap.size + 1]? = some (.cells #[.slice none 0 0, .slice none 0 0] 31 (0, 0))) := Lib.hid (by rw [hW0]; exact three2 w _ _ _ _)
  have HM : Hid (Calls Tryz.prog 92 #[.agg #[va, vn], .func (.func 93) #[] #[.pointer (some ⟨w.heap.size, 0, none⟩)]] W0 (CopyD (comD y) W0)) := Lib.hid (by
    unfold minR at hy
    by_cases hv : validD d = true
    . simp only [hv, if_true] at hy
      obtain ⟨m0, n1, n2, rfl⟩ := hy
      obtain ⟨hw, hn40, hnn, hl, ad, c, ad', c', hva, hvn, hA, hT⟩ := h.au hv
      refine (implMinSt_yes va vn d S _ _ enters_rej (λ q => !(auD d).A q) W0 (h.kept HB0.out) hv (λ V x hV hx => ?_)).mono ?_
      . have h1 := hA x hx
        have hb := HB0.out.trans (hV.mono HB0.out.size)
        exact (implRejQ_any w.heap.size ad _ c x _ V hx (by rw [<- hva]; exact (HX.out.kept hV).1) ((hb.cell (cell_in h1)).trans h1)).mono (λ e w' he => ⟨he.1, by rw [<- he.2]; exact Below.refl _ _⟩)
      . rintro e w' ⟨m, m1, m2, hcd⟩
        have m2' : Eqv m 0 (negA (auD d)) 0 := m2
        rw [<- negA_fields, fields_one (negA_canon n1) m1 ((negA_eqv n2).swap m2')]
        exact hcd
    . simp only [hv] at hy
      obtain rfl : y = ⟨[], []⟩ := by simpa using hy
      exact implMinSt_no va vn d S _ _ W0 (h.kept HB0.out) (by simpa using hv))
  obtain ⟨⟨A, c, rfl⟩, A', c', rfl⟩ := h.shape
  obtain ⟨hc00, hc01⟩ := HX.out
  rw [hW0] at hc00 hc01
  clear h hy
  go_enter Tryz.func46, Tryz.ntmps46
  go_wp2_with fail
  go_at_call 92
  rw [<- hW0]
  refine HM.out.mono ?_
  rintro e w3 hcd
  obtain ⟨A1, p1, A2, p2, rfl, hoo, hb3⟩ := hcd.shape
  obtain ⟨x1, hx1⟩ : ∃ x, x = (comD y).acc.length := ⟨_, rfl⟩
  obtain ⟨x2, hx2⟩ : ∃ x, x = (comD y).nxt.length := ⟨_, rfl⟩
  rw [<- hx1, <- hx2] at hoo ⊢
  have HO3 := Lib.hid hoo
  have HB3 := Lib.hid hb3
  obtain ⟨c0, c1, k0, k1⟩ := box2_facts ((hb3.block _ (blk_lt HY.out)).trans HY.out)
  obtain ⟨hcl, hsz, hot, hBl⟩ := put2 (k := .slice A1 x1 p1) (l := .slice A2 x2 p2) c0 c1
  obtain ⟨hc0, hc1⟩ := hcl
  have HOt := Lib.hid (And.intro hsz (And.intro hot hBl))
  clear hsz hot hBl hoo hb3 hcd hx1 hx2 hc00 hc01 hW0
  go_wp2_with fail
  refine bodyPost_ret (v := .agg #[.slice A1 x1 p1, .slice A2 x2 p2]) (by simp [results, Tryz.results46, go_sem, hc0, hc1]) rfl ?_
  have hyl := blk_lt HY.out
  have h0 := HB0.out.size
  exact ⟨_, _, rfl, HO3.out.mono (λ g hg => HOt.out.2.1 g (by have := hg.1; omega)) (λ g hg => ⟨by have := hg.1; omega, by rw [HOt.out.1]; exact hg.2⟩) (by rw [HOt.out.1]; exact Nat.le_refl _), HOt.out.2.2 _ _ (HB0.out.trans (HB3.out.mono h0)) (Nat.le_succ _)⟩
theorem implWd1_any (bs bo i k : Nat) (s : ByteArray) (w : World) (hs : s.size <= 30) (hi : i < s.size + 2) (c0 : w.cell? ⟨bs, 0, none⟩ = some (.string s)) (c1 : w.cell? ⟨bo, 0, none⟩ = some (.int .i64 ((s.size : Int) + 1))) :
    Calls Tryz.prog 28 #[.int .i64 (i : Int), .int .i64 (k : Int), .pointer (some ⟨bs, 0, none⟩), .pointer (some ⟨bo, 0, none⟩)] w λ e w' => e = .returned (.int .i64 ((wdT s.data.toList i k : Nat) : Int)) /\ w = w' := by
  have hl : s.data.toList.length = s.size := by simp
  by_cases hlt : i < s.size
  . have e1 : decide ((i : Int) < (s.size : Int)) = true := by simp; omega
    have e2 : (0 : Int) <= (i : Int) := by omega
    have e3 : (i : Int) < (s.size : Int) := by omega
    have hg : s.data.toList.getD i 0 = s[i] := by
      rw [List.getD_eq_getElem?_getD, List.getElem?_eq_getElem (by omega)]
      rfl
    by_cases hy : letIdx s[i] = (k : Int)
    . have HR : Hid (((wdT s.data.toList i k : Nat) : Int) = (i : Int) + 1) := Lib.hid (by rw [wdT_yes (by omega) (by rw [hg]; exact hy)]; rfl)
      have e4 : (letIdx s[i] == (k : Int)) = true := by simp [hy]
      clear hy hg hl
      go_enter Tryz.func28, Tryz.ntmps28
      go_wp2_with (go_at_call 29; refine (implLet_any _ _).mono ?_; rintro e w' ⟨rfl, rfl⟩)
      go_ret
      exact ⟨congrArg (λ z : Int => Ending.returned (.int .i64 z)) HR.out.symm, rfl⟩
    . have HR : Hid (((wdT s.data.toList i k : Nat) : Int) = (s.size : Int) + 1) := Lib.hid (by rw [wdT_no (by rw [hg]; exact λ h => hy h.2), hl]; rfl)
      have e4 : (letIdx s[i] == (k : Int)) = false := by simp [hy]
      clear hy hg hl
      go_enter Tryz.func28, Tryz.ntmps28
      go_wp2_with (go_at_call 29; refine (implLet_any _ _).mono ?_; rintro e w' ⟨rfl, rfl⟩)
      go_ret
      exact ⟨congrArg (λ z : Int => Ending.returned (.int .i64 z)) HR.out.symm, rfl⟩
  . have e1 : decide ((i : Int) < (s.size : Int)) = false := by simp; omega
    have HR : Hid (((wdT s.data.toList i k : Nat) : Int) = (s.size : Int) + 1) := Lib.hid (by rw [wdT_no (by omega), hl]; rfl)
    clear hl
    go_enter Tryz.func28, Tryz.ntmps28
    go_wp2_with fail
    go_ret
    exact ⟨congrArg (λ z : Int => Ending.returned (.int .i64 z)) HR.out.symm, rfl⟩
theorem implWd2_any (bs i : Nat) (s : ByteArray) (w : World) (c0 : w.cell? ⟨bs, 0, none⟩ = some (.string s)) :
    Calls Tryz.prog 31 #[.int .i64 (i : Int), .pointer (some ⟨bs, 0, none⟩)] w λ e w' => e = .returned (.bool (decide (i = s.data.toList.length))) /\ w = w' := by
  have HR : Hid (decide (i = s.data.toList.length) = ((i : Int) == (s.size : Int))) := Lib.hid (by
    have hl : s.data.toList.length = s.size := by simp
    rw [hl]
    by_cases h : i = s.size
    . simp [h]
    . have h' : ¬ ((i : Int) = (s.size : Int)) := by omega
      simp [h, h'])
  go_enter Tryz.func31, Tryz.ntmps31
  go_wp2_with fail
  go_ret
  exact ⟨congrArg (λ b : Bool => Ending.returned (.bool b)) HR.out.symm, rfl⟩
theorem enters_wd1 (args : Array Value) (w : World) : (callFunc 28 args).run Tryz.prog w = .ok (.enter 28 args) w := enters_of Tryz.func28 (by kernel_rfl) rfl args w
theorem enters_wd2 (args : Array Value) (w : World) : (callFunc 31 args).run Tryz.prog w = .ok (.enter 31 args) w := enters_of Tryz.func31 (by kernel_rfl) rfl args w
theorem implWd_any (s : ByteArray) (hss : s.size <= maxLen) (y : Dx) (ok : Bool) (hy : wordR s.data.toList y ok) (w : World) :
    Calls Tryz.prog 13 #[.string s] w (CopyDB y ok w) := by
  have hmf : ∀ (fn : Fn) (first cap : Array Value) (w : World), (Instr.makeFunc fn first cap).run Tryz.prog w = .ok (.func fn first cap) w := λ _ _ _ _ => rfl
  have HV := Lib.hid (λ V => implIsWord_any s V hss)
  obtain ⟨W0, hW0⟩ : ∃ W0, W0 = (w.alloc (.cells #[.string s] 9)).alloc (.cells #[.slice none 0 0, .slice none 0 0] 31) := ⟨_, rfl⟩
  have HB0 : Hid (Below w.heap.size w W0) := Lib.hid (by rw [hW0]; exact ((Below.refl _ _).alloc (Nat.le_refl _) _).alloc (by simp) _)
  have HX : Hid (W0.heap[w.heap.size]? = some (.cells #[.string s] 9 (0, 0))) := Lib.hid (by rw [hW0]; exact (Below.heap_alloc _ _ _ (by simp)).trans (heap_alloc_new w _))
  have HY : Hid (W0.heap[w.heap.size + 1]? = some (.cells #[.slice none 0 0, .slice none 0 0] 31 (0, 0))) := Lib.hid (by rw [hW0]; exact three2 w _ _ _ _)
  have hc := (cell_of_row W0 w.heap.size 0 _ _ (0, 0) HX.out).trans rfl
  have HYy := Lib.hid hy
  rw [hW0] at hc
  cases hw : isW s.data.toList with
  | false =>
    obtain ⟨rfl, rfl⟩ := wordR_no hy hw
    rw [hw] at HV
    have hz : W0.cell? ⟨w.heap.size + 1, 0, none⟩ = some (.slice none 0 0) /\ W0.cell? ⟨w.heap.size + 1, 1, none⟩ = some (.slice none 0 0) := ⟨(box2_facts HY.out).1, (box2_facts HY.out).2.1⟩
    obtain ⟨z0, z1⟩ := hz
    clear hy hw
    go_enter Tryz.func13, Tryz.ntmps13
    go_wp2_with (go_at_call 25; refine (HV.out _).mono ?_; rintro e w' ⟨rfl, rfl⟩)
    rw [<- hW0]
    refine bodyPost_ret (v := .tuple #[.agg #[.slice none 0 0, .slice none 0 0], .bool false]) (by simp [results, Tryz.results13, go_sem, z0, z1]) rfl ?_
    exact ⟨_, _, rfl, DfaO.empty _ _, HB0.out⟩
  | true =>
    rw [hw] at HV
    have h30 : s.size <= 30 := by
      have := isW_len hw
      simpa using this
    have hl : s.data.toList.length = s.size := by simp
    obtain ⟨N, hN, hE⟩ := ends_some (s0 := 0) (g := (wdA s.data.toList).T) (M := s.data.toList.length + 2) (λ t => (own_keys (wdA_wf _) t).2)
    obtain ⟨f1, f2, f3⟩ := own_found (wdA_wf s.data.toList) hE
    obtain ⟨m, m1, m2, m3⟩ := exists_min (hE.wf (wdA s.data.toList).A)
    have m4 := m2.trans f2
    obtain ⟨rfl, rfl⟩ := wordR_yes hy hw m1 m4
    have hm40 := wd_small hw m1 m4
    have hsr : srchR 40 0 (wdT s.data.toList) (λ i => decide (i = s.data.toList.length)) (fieldsOf m) true := .inl ⟨N, by omega, hE, m, m1, m2, by unfold fitD; rw [if_pos hm40], by simp [hm40]⟩
    obtain ⟨W2, hW2⟩ : ∃ W2, W2 = W0.alloc (.cells #[.int .i64 ((s.size : Int) + 1)] 3) := ⟨_, rfl⟩
    have HB2 : Hid (Below W0.heap.size W0 W2) := Lib.hid (by rw [hW2]; exact (Below.refl _ _).alloc (Nat.le_refl _) _)
    have HX2 : Hid (W2.heap[W0.heap.size]? = some (.cells #[.int .i64 ((s.size : Int) + 1)] 3 (0, 0))) := Lib.hid (by rw [hW2]; exact heap_alloc_new W0 _)
    have hz0 : W0.heap.size = w.heap.size + 1 + 1 := by rw [hW0]; simp
    have HMd : Hid (Calls Tryz.prog 30 #[.int .i64 0, .func (.func 28) #[] #[.pointer (some ⟨w.heap.size, 0, none⟩), .pointer (some ⟨W0.heap.size, 0, none⟩)], .func (.func 31) #[] #[.pointer (some ⟨w.heap.size, 0, none⟩)], .int .i64 40] W2 (CopyDB (fieldsOf m) true W2)) := Lib.hid (by
      refine implMdI_any _ _ _ _ _ enters_wd1 enters_wd2 (wdT s.data.toList) (λ i => decide (i = s.data.toList.length)) (s.data.toList.length + 2) 40 0 W2 (by omega) (by omega) (by omega) (by omega) (λ x k _ _ => wdT_lt _ x k) (λ U x k hU hx hk => ?_) (λ U x hU hx => ?_) _ _ hsr
      . have q0 := (cell_of_row U w.heap.size 0 _ _ (0, 0) ((hU.block _ (Nat.lt_of_lt_of_le (blk_lt HX.out) HB2.out.size)).trans ((HB2.out.block _ (blk_lt HX.out)).trans HX.out))).trans rfl
        have q1 := (cell_of_row U W0.heap.size 0 _ _ (0, 0) ((hU.block _ (blk_lt HX2.out)).trans HX2.out)).trans rfl
        exact (implWd1_any w.heap.size W0.heap.size x k s U h30 (by omega) q0 q1).mono (λ e w' he => ⟨he.1, by rw [<- he.2]; exact Below.refl _ _⟩)
      . have q0 := (cell_of_row U w.heap.size 0 _ _ (0, 0) ((hU.block _ (Nat.lt_of_lt_of_le (blk_lt HX.out) HB2.out.size)).trans ((HB2.out.block _ (blk_lt HX.out)).trans HX.out))).trans rfl
        exact (implWd2_any w.heap.size x s U q0).mono (λ e w' he => ⟨he.1, by rw [<- he.2]; exact Below.refl _ _⟩))
    rw [hz0] at HMd
    clear hy hw hl hN hE f1 f2 f3 m1 m2 m3 m4 hm40 hsr HYy hz0
    go_enter Tryz.func13, Tryz.ntmps13
    go_upto_region 4 with (go_at_call 25; refine (HV.out _).mono ?_; rintro e w' ⟨rfl, rfl⟩)
    rw [<- hW0, <- hW2]
    clear hc hW0 hW2
    go_wp2_with fail
    go_at_call 30
    refine HMd.out.mono ?_
    rintro e w3 hcd
    obtain ⟨A1, p1, A2, p2, rfl, hoo, hb3⟩ := hcd.shape
    obtain ⟨x1, hx1⟩ : ∃ x, x = (fieldsOf m).acc.length := ⟨_, rfl⟩
    obtain ⟨x2, hx2⟩ : ∃ x, x = (fieldsOf m).nxt.length := ⟨_, rfl⟩
    rw [<- hx1, <- hx2] at hoo ⊢
    have HO3 := Lib.hid hoo
    have HB3 := Lib.hid (HB2.out.trans (hb3.mono HB2.out.size))
    have hz2 := HB2.out.size
    have hz3 := hb3.size
    have hyl := blk_lt HY.out
    obtain ⟨c0, c1, k0, k1⟩ := box2_facts ((HB3.out.block _ hyl).trans HY.out)
    obtain ⟨hcl, hsz, hot, hBl⟩ := put2 (k := .slice A1 x1 p1) (l := .slice A2 x2 p2) c0 c1
    obtain ⟨hc0, hc1⟩ := hcl
    have HOt := Lib.hid (And.intro hsz (And.intro hot hBl))
    clear hsz hot hBl hoo hb3 hcd hx1 hx2
    go_wp2_with fail
    refine bodyPost_ret (v := .tuple #[.agg #[.slice A1 x1 p1, .slice A2 x2 p2], .bool true]) (by simp [results, Tryz.results13, go_sem, hc0, hc1]) rfl ?_
    have h0 := HB0.out.size
    exact ⟨_, _, rfl, HO3.out.mono (λ g hg => HOt.out.2.1 g (by have := hg.1; omega)) (λ g hg => ⟨by have := hg.1; omega, by rw [HOt.out.1]; exact hg.2⟩) (by rw [HOt.out.1]; exact Nat.le_refl _), HOt.out.2.2 _ _ (HB0.out.trans (HB3.out.mono h0)) (by omega)⟩
end Go.Proofs.YtiijlpmdnokjfaaGreatDoor
