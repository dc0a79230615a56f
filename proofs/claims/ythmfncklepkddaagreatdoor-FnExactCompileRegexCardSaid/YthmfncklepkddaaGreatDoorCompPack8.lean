/-
  Texts of one proof, one behind the other.
-/
import Derived.StillTailTactics
import Derived.Deep.RegionLaw
import Derived.BigQuiet
import Derived.Below
import Derived.Deep.QuietTactic
import Derived.WalkKit
import Derived.Test.YthmfncklepkddaaGreatDoorCompPack7

/-
  What impl.ProductDfa, impl.product and the closures that they take answer.
  What impl.ProductDfa answers.
-/
namespace Go.Proofs.YthmfncklepkddaaGreatDoor
open Go.RowKit

/-- A search over pairs ends. -/
theorem ords_pairs {s0 : Nat × Nat} {g : Nat × Nat → Nat → Nat × Nat} {Ma Mb : Nat} (h0 : okP Ma Mb s0) (hg : ∀ x k, okP Ma Mb x → k < 3 → okP Ma Mb (g x k)) (t : Nat) : (∀ x ∈ ords s0 g t, okP Ma Mb x) ∧ (ords s0 g t).length ≤ Ma * Mb := by
  have hall : ∀ t, ∀ x ∈ ords s0 g t, okP Ma Mb x := fun t => by
    induction t with
    | zero => intro x hx; simp [ords] at hx; rw [hx]; exact h0
    | succ t ih =>
      intro x hx
      rw [ords] at hx
      have hd : okP Ma Mb ((ords s0 g t).getD (t / 3) default) := by
        by_cases hl : t / 3 < (ords s0 g t).length
        · exact ih _ (getD_mem hl)
        · rw [List.getD_eq_getElem?_getD, List.getElem?_eq_none (by omega)]
          exact ⟨Nat.lt_of_le_of_lt (Nat.zero_le _) h0.1, Nat.lt_of_le_of_lt (Nat.zero_le _) h0.2⟩
      split at hx
      · exact ih x hx
      · rcases List.mem_append.1 hx with hx | hx
        · exact ih x hx
        · rw [List.mem_singleton] at hx
          rw [hx]
          exact hg _ _ hd (by omega)
  refine ⟨hall t, ?_⟩
  have hnd : ((ords s0 g t).map fun x => x.1 * Mb + x.2).Nodup := by
    rw [List.nodup_iff_pairwise_ne, List.pairwise_map]
    refine (ords_nodup (s0 := s0) (g := g) t).imp_of_mem ?_
    intro x y hx hy hne e
    have h1 := (hall t x hx).2
    have h2 := (hall t y hy).2
    apply hne
    have e1 : x.1 = y.1 := by rw [← pair_div (p := x.1) h1, ← pair_div (p := y.1) h2, e]
    have e2 : x.2 = y.2 := by rw [← pair_mod (p := x.1) h1, ← pair_mod (p := y.1) h2, e]
    exact Prod.ext e1 e2
  have := nodup_len (Ma * Mb) _ hnd (fun z hz => by
    obtain ⟨x, hx, rfl⟩ := List.mem_map.1 hz
    exact pair_lt (hall t x hx).1 (hall t x hx).2)
  rwa [List.length_map] at this
theorem implOrP_any (ba bb : Nat) (ad ad' : Addr) (n n' c c' p q : Nat) (x y : Bool) (w : World) (hp : p < n) (hq : q < n') (a0 : w.cell? ⟨ba, 0, none⟩ = some (.slice (some ad) n c)) (a1 : w.cell? (ad.add p) = some (.bool x))
    (b0 : w.cell? ⟨bb, 0, none⟩ = some (.slice (some ad') n' c')) (b1 : w.cell? (ad'.add q) = some (.bool y)) :
    Calls Tryz.prog 109 #[.agg #[.int .i64 (p : Int), .int .i64 (q : Int)], .pointer (some ⟨ba, 0, none⟩), .pointer (some ⟨bb, 0, none⟩)] w fun e w' => e = .returned (.bool (x || y)) ∧ Below w.heap.size w w' := by
  have s0 : (p : Int) < (n : Int) := by omega
  have s1 : (0 : Int) ≤ (p : Int) := by omega
  have s2 : (q : Int) < (n' : Int) := by omega
  have s3 : (0 : Int) ≤ (q : Int) := by omega
  obtain ⟨W0, hW0⟩ : ∃ W0, W0 = w.alloc (.cells #[.int .i64 (p : Int), .int .i64 (q : Int)] 150) := ⟨_, rfl⟩
  have hb0 : Below w.heap.size w W0 := by rw [hW0]; exact (Below.refl _ _).alloc (Nat.le_refl _) _
  have a0' := (hb0.cell (cell_in a0)).trans a0
  have a1' := (hb0.cell (cell_in a1)).trans a1
  have b0' := (hb0.cell (cell_in b0)).trans b0
  have b1' := (hb0.cell (cell_in b1)).trans b1
  obtain ⟨p0, p1, -, -⟩ := box2_facts (show W0.heap[w.heap.size]? = some (.cells #[.int .i64 (p : Int), .int .i64 (q : Int)] 150 (0, 0)) by rw [hW0]; exact heap_alloc_new w _)
  have HB0 := Lib.hid hb0
  clear a0 a1 b0 b1 hb0
  cases x with
  | true =>
    go_enter Tryz.func109, Tryz.ntmps109
    go_upto_region 1 with fail
    rw [← hW0]
    clear hW0
    go_wp2_with fail
    go_ret
    exact ⟨rfl, HB0.out⟩
  | false =>
    go_enter Tryz.func109, Tryz.ntmps109
    go_upto_region 1 with fail
    rw [← hW0]
    clear hW0
    go_wp2_with fail
    go_ret
    exact ⟨by simp, HB0.out⟩
theorem implAndP_any (ba bb : Nat) (ad ad' : Addr) (n n' c c' p q : Nat) (x y : Bool) (w : World) (hp : p < n) (hq : q < n') (a0 : w.cell? ⟨ba, 0, none⟩ = some (.slice (some ad) n c)) (a1 : w.cell? (ad.add p) = some (.bool x))
    (b0 : w.cell? ⟨bb, 0, none⟩ = some (.slice (some ad') n' c')) (b1 : w.cell? (ad'.add q) = some (.bool y)) :
    Calls Tryz.prog 110 #[.agg #[.int .i64 (p : Int), .int .i64 (q : Int)], .pointer (some ⟨ba, 0, none⟩), .pointer (some ⟨bb, 0, none⟩)] w fun e w' => e = .returned (.bool (x && y)) ∧ Below w.heap.size w w' := by
  have s0 : (p : Int) < (n : Int) := by omega
  have s1 : (0 : Int) ≤ (p : Int) := by omega
  have s2 : (q : Int) < (n' : Int) := by omega
  have s3 : (0 : Int) ≤ (q : Int) := by omega
  obtain ⟨W0, hW0⟩ : ∃ W0, W0 = w.alloc (.cells #[.int .i64 (p : Int), .int .i64 (q : Int)] 150) := ⟨_, rfl⟩
  have hb0 : Below w.heap.size w W0 := by rw [hW0]; exact (Below.refl _ _).alloc (Nat.le_refl _) _
  have a0' := (hb0.cell (cell_in a0)).trans a0
  have a1' := (hb0.cell (cell_in a1)).trans a1
  have b0' := (hb0.cell (cell_in b0)).trans b0
  have b1' := (hb0.cell (cell_in b1)).trans b1
  obtain ⟨p0, p1, -, -⟩ := box2_facts (show W0.heap[w.heap.size]? = some (.cells #[.int .i64 (p : Int), .int .i64 (q : Int)] 150 (0, 0)) by rw [hW0]; exact heap_alloc_new w _)
  have HB0 := Lib.hid hb0
  clear a0 a1 b0 b1 hb0
  cases x with
  | true =>
    go_enter Tryz.func110, Tryz.ntmps110
    go_upto_region 1 with fail
    rw [← hW0]
    clear hW0
    go_wp2_with fail
    go_ret
    exact ⟨by simp, HB0.out⟩
  | false =>
    go_enter Tryz.func110, Tryz.ntmps110
    go_upto_region 1 with fail
    rw [← hW0]
    clear hW0
    go_wp2_with fail
    go_ret
    exact ⟨by simp, HB0.out⟩

theorem three_box (w : World) (a b c : Obj) : let W := ((w.alloc a).alloc b).alloc c
    W.heap[w.heap.size]? = some a ∧ W.heap[w.heap.size + 1]? = some b ∧ W.heap[w.heap.size + 1 + 1]? = some c ∧ Below w.heap.size w W := by
  intro W
  have h1 := heap_alloc_new (w.alloc a) b
  have h2 := heap_alloc_new ((w.alloc a).alloc b) c
  rw [World.size_alloc] at h1 h2
  rw [World.size_alloc] at h2
  exact ⟨(Below.heap_alloc _ _ _ (by simp; omega)).trans ((Below.heap_alloc _ _ _ (by simp)).trans (heap_alloc_new w a)), (Below.heap_alloc _ _ _ (by simp)).trans h1, h2, (((Below.refl _ _).alloc (Nat.le_refl _) _).alloc (by simp) _).alloc (by simp; omega) _⟩

set_option maxRecDepth 100000 in
set_option maxHeartbeats 3200000 in
theorem implStepP_any (va va' : Value) (ad ad' : Addr) (n n' c c' p q k : Nat) (ra rb : Addr) (ca cb : Nat) (x y : Int) (w : World) (hp : p < n) (hq : q < n') (hk : k < 3)
    (a1 : w.cell? (ad.add p) = some (.slice (some ra) 3 ca)) (a2 : w.cell? (ra.add k) = some (.int .i64 x))
    (b1 : w.cell? (ad'.add q) = some (.slice (some rb) 3 cb)) (b2 : w.cell? (rb.add k) = some (.int .i64 y)) :
    Calls Tryz.prog 142 #[.agg #[va, .slice (some ad) n c, va', .slice (some ad') n' c'], .agg #[.int .i64 (p : Int), .int .i64 (q : Int)], .int .i64 (k : Int)] w fun e w' => e = .returned (.agg #[.int .i64 x, .int .i64 y]) ∧ Below w.heap.size w w' := by
  obtain ⟨W0, hW0⟩ : ∃ W0, W0 = ((w.alloc (.cells #[va, .slice (some ad) n c, va', .slice (some ad') n' c'] 184)).alloc (.cells #[.int .i64 (p : Int), .int .i64 (q : Int)] 150)).alloc (.cells #[.int .i64 0, .int .i64 0] 150) := ⟨_, rfl⟩
  have h3 := three_box w (.cells #[va, .slice (some ad) n c, va', .slice (some ad') n' c'] 184) (.cells #[.int .i64 (p : Int), .int .i64 (q : Int)] 150) (.cells #[.int .i64 0, .int .i64 0] 150)
  rw [← hW0] at h3
  obtain ⟨i0, i1, i2, hb0⟩ := h3
  have HB0 := Lib.hid hb0
  have HZ := Lib.hid (fun (V : World) (hV : Below W0.heap.size W0 V) => box2_facts ((hV.block _ (blk_lt i2)).trans i2))
  have HA := Lib.hid (fun (V : World) (hV : Below W0.heap.size W0 V) => (have hb := hb0.trans (hV.mono hb0.size); implDfaAfter_any va ad n c p k ra ca x V hp hk ((hb.cell (cell_in a1)).trans a1) ((hb.cell (cell_in a2)).trans a2)))
  have HA' := Lib.hid (fun (V : World) (hV : Below W0.heap.size W0 V) => (have hb := hb0.trans (hV.mono hb0.size); implDfaAfter_any va' ad' n' c' q k rb cb y V hq hk ((hb.cell (cell_in b1)).trans b1) ((hb.cell (cell_in b2)).trans b2)))
  have hz2 : w.heap.size + 1 + 1 ≤ W0.heap.size := Nat.le_of_lt (blk_lt i2)
  have HK := Lib.hid (fun (V : World) (hV : Below (w.heap.size + 1 + 1) W0 V) => (
    have j0 := (hV.block _ (by omega)).trans i0
    have j1 := (hV.block _ (by omega)).trans i1
    ⟨(cell_of_row V _ 0 _ _ (0, 0) j0).trans rfl, (cell_of_row V _ 1 _ _ (0, 0) j0).trans rfl, (cell_of_row V _ 2 _ _ (0, 0) j0).trans rfl, (cell_of_row V _ 3 _ _ (0, 0) j0).trans rfl, (box2_facts j1).1, (box2_facts j1).2.1⟩ :
    V.cell? ⟨w.heap.size, 0, none⟩ = some va ∧ V.cell? ⟨w.heap.size, 1, none⟩ = some (.slice (some ad) n c) ∧ V.cell? ⟨w.heap.size, 2, none⟩ = some va' ∧ V.cell? ⟨w.heap.size, 3, none⟩ = some (.slice (some ad') n' c') ∧ V.cell? ⟨w.heap.size + 1, 0, none⟩ = some (.int .i64 (p : Int)) ∧ V.cell? ⟨w.heap.size + 1, 1, none⟩ = some (.int .i64 (q : Int))))
  have hbw : Below W0.heap.size W0 W0 := Below.refl _ _
  clear a1 a2 b1 b2 hb0 i0 i1 i2
  go_enter Tryz.func142, Tryz.ntmps142
  go_upto_region 1 with fail
  rw [← hW0]
  clear hW0
  go_region_held3 (fun V => V.cell? ⟨w.heap.size, 0, none⟩ = some va ∧ V.cell? ⟨w.heap.size, 1, none⟩ = some (.slice (some ad) n c) ∧ V.cell? ⟨w.heap.size, 2, none⟩ = some va' ∧ V.cell? ⟨w.heap.size, 3, none⟩ = some (.slice (some ad') n' c') ∧ V.cell? ⟨w.heap.size + 1, 0, none⟩ = some (.int .i64 (p : Int)) ∧ V.cell? ⟨w.heap.size + 1, 1, none⟩ = some (.int .i64 (q : Int))) (first | exact HK.out _ (hbw.drew.mono hz2) | exact HK.out _ (hbw.mono hz2) | exact HK.out _ (((hbw.mono hz2).setCell (Nat.le_refl _) _).setCell (Nat.le_refl _) _)) (first | (go_at_call 42; (with_reducible refine (HA.out _ hbw.drew).mono ?_); rintro e wa ⟨rfl, hba⟩; have hbw := hbw.drew.trans (hba.mono hbw.drew.size)) | (go_at_call 42; (with_reducible refine (HA'.out _ hbw).mono ?_); rintro e wb ⟨rfl, hbb⟩; have hbw := hbw.trans (hbb.mono hbw.size); obtain ⟨c0, c1, k0, k1⟩ := HZ.out _ hbw))
  all_goals
    obtain ⟨hcl, hsz, hot, hBl⟩ := put2 (k := .int .i64 x) (l := .int .i64 y) c0 c1
    obtain ⟨hc0, hc1⟩ := hcl
    have HOt := Lib.hid (hBl _ _ (HB0.out.trans (hbw.mono HB0.out.size)) (by omega))
    clear hsz hot hBl hbw hba hbb
    go_wp2_with fail
    refine bodyPost_ret (v := .agg #[.int .i64 x, .int .i64 y]) (by simp [results, Tryz.results142, go_sem, hc0, hc1]) rfl ?_
    exact ⟨rfl, HOt.out⟩

/-- Where letter k leads a pair. -/
def pairT (a b : Au) (x : Nat × Nat) (k : Nat) : Nat × Nat := (a.T x.1 k, b.T x.2 k)
theorem found_prd {a b : Au} {f : Bool → Bool → Bool} (hb : b.wf) {N : Nat} (h : Ends (0, 0) (pairT a b) N) : Eqv (found (0, 0) (pairT a b) (fun x => f (a.A x.1) (b.A x.2)) N) 0 (prd a b f) 0 := fun w hw => by
  rw [prd_lang hb w hw]
  have h1 := h.lang (acc := fun x : Nat × Nat => f (a.A x.1) (b.A x.2)) (L := fun x w => f (a.A (a.run x.1 w)) (b.A (b.run x.2 w))) (fun _ => rfl) (fun _ _ _ _ _ _ => rfl) w 0 hw h.pos
  rw [h1, ords_first]
theorem enters_step (args : Array Value) (w : World) : (callFunc 142 args).run Tryz.prog w = .ok (.enter 142 args) w := enters_of Tryz.func142 (by kernel_rfl) rfl args w
theorem enters_or (args : Array Value) (w : World) : (callFunc 109 args).run Tryz.prog w = .ok (.enter 109 args) w := enters_of Tryz.func109 (by kernel_rfl) rfl args w
theorem enters_and (args : Array Value) (w : World) : (callFunc 110 args).run Tryz.prog w = .ok (.enter 110 args) w := enters_of Tryz.func110 (by kernel_rfl) rfl args w
/-- The minimal automaton of a product, or none. -/
def PrdPost (a b : Au) (f : Bool → Bool → Bool) (w : World) (e : Ending) (w' : World) : Prop := ∃ m, Canon m ∧ Eqv m 0 (prd a b f) 0 ∧ CopyDB (fitD m) (decide (m.n ≤ 40)) w e w'
set_option maxRecDepth 100000 in
set_option maxHeartbeats 3200000 in
theorem implPrd_any (va vn va' vn' : Value) (d d' : Dx) (S S' : Nat → Prop) (f : Bool → Bool → Bool) (g2 : Nat) (lb2 : Array Value) (eg2 : ∀ args w, (callFunc g2 args).run Tryz.prog w = .ok (.enter g2 args) w) (w : World) (h : DfaV w S va vn d) (h' : DfaV w S' va' vn' d') (hv : validD d = true) (hv' : validD d' = true)
    (H2 : ∀ (V : World) (x : Nat × Nat), Below w.heap.size w V → okP d.acc.length d'.acc.length x → Calls Tryz.prog g2 (#[.agg #[.int .i64 (x.1 : Int), .int .i64 (x.2 : Int)]] ++ lb2) V fun e w' => e = .returned (.bool (f ((auD d).A x.1) ((auD d').A x.2))) ∧ Below V.heap.size V w') :
    Calls Tryz.prog 108 #[.agg #[va, vn], .agg #[va', vn'], .func (.func g2) #[] lb2] w (PrdPost (auD d) (auD d') f w) := by
  have hmf : ∀ (fn : Fn) (first cap : Array Value) (w : World), (Instr.makeFunc fn first cap).run Tryz.prog w = .ok (.func fn first cap) w := fun _ _ _ _ => rfl
  obtain ⟨hw, hn40, hnn, hl, ad, c, aN, c', rfl, rfl, hA, hT⟩ := h.au hv
  obtain ⟨hw', hn40', hnn', hl', ad', cc, aN', cc', rfl, rfl, hA', hT'⟩ := h'.au hv'
  obtain ⟨n, hne⟩ : ∃ n, n = d.acc.length := ⟨_, rfl⟩
  obtain ⟨n', hne'⟩ : ∃ n', n' = d'.acc.length := ⟨_, rfl⟩
  rw [← hne] at hT H2 hnn ⊢
  rw [← hne'] at hT' H2 hnn' ⊢
  obtain ⟨W0, hW0⟩ : ∃ W0, W0 = ((w.alloc (.cells #[.slice (some ad) n c, .slice (some aN) n c'] 31)).alloc (.cells #[.slice (some ad') n' cc, .slice (some aN') n' cc'] 31)).alloc (.cells #[.slice none 0 0, .slice none 0 0] 31) := ⟨_, rfl⟩
  have h3 := three_box w (.cells #[.slice (some ad) n c, .slice (some aN) n c'] 31) (.cells #[.slice (some ad') n' cc, .slice (some aN') n' cc'] 31) (.cells #[.slice none 0 0, .slice none 0 0] 31)
  rw [← hW0] at h3
  have HB0 : Hid (Below w.heap.size w W0) := Lib.hid h3.2.2.2
  have HX := Lib.hid h3.1
  have HX' := Lib.hid h3.2.1
  have HY := Lib.hid h3.2.2.1
  clear h3
  have hM : n * n' ≤ 1600 := by
    have := Nat.mul_le_mul (show n ≤ 40 by omega) (show n' ≤ 40 by omega)
    omega
  have h00 : okP n n' (0, 0) := ⟨by rw [← hnn]; exact hw.1, by rw [← hnn']; exact hw'.1⟩
  have hTT : ∀ x k, okP n n' x → k < 3 → okP n n' (pairT (auD d) (auD d') x k) := fun x k hx hk => ⟨by have := hw.2 x.1 k (by rw [hnn]; exact hx.1) hk; rw [hnn] at this; exact this, by have := hw'.2 x.2 k (by rw [hnn']; exact hx.2) hk; rw [hnn'] at this; exact this⟩
  obtain ⟨N, hN, hE⟩ := ends_some (s0 := (0, 0)) (g := pairT (auD d) (auD d')) (M := n * n') (fun t => (ords_pairs h00 hTT t).2)
  obtain ⟨m, m1, m2, -⟩ := exists_min (hE.wf fun x => f ((auD d).A x.1) ((auD d').A x.2))
  have HM : Hid (Canon m ∧ Eqv m 0 (prd (auD d) (auD d') f) 0) := Lib.hid ⟨m1, m2.trans (found_prd (f := f) hw' hE)⟩
  have HEx : Hid (Calls Tryz.prog 141 #[.agg #[.int .i64 0, .int .i64 0], .func (.func 142) #[.agg #[.slice (some ad) n c, .slice (some aN) n c', .slice (some ad') n' cc, .slice (some aN') n' cc']] #[], .func (.func g2) #[] lb2, .int .i64 1600] W0 (CopyDB (fitD m) (decide (m.n ≤ 40)) W0)) := Lib.hid (by
    refine implMdP_any _ g2 _ _ lb2 enters_step eg2 (pairT (auD d) (auD d')) (fun x => f ((auD d).A x.1) ((auD d').A x.2)) n n' 1600 (0, 0) W0 (by omega) (by omega) (by omega) (by omega) h00 hTT (fun U x k hU hx hk => ?_) (fun U x hU hx => ?_) _ _ (.inl ⟨N, by omega, hE, m, m1, m2, rfl, rfl⟩)
    · have hb : Below w.heap.size w U := HB0.out.trans (hU.mono HB0.out.size)
      obtain ⟨r1, q1, a1, a2⟩ := hT x.1 hx.1
      obtain ⟨r2, q2, b1, b2⟩ := hT' x.2 hx.2
      have a3 := a2 k hk
      have b3 := b2 k hk
      exact implStepP_any (.slice (some ad) n c) (.slice (some ad') n' cc) aN aN' n n' c' cc' x.1 x.2 k r1 r2 q1 q2 _ _ U hx.1 hx.2 hk ((hb.cell (cell_in a1)).trans a1) ((hb.cell (cell_in a3)).trans a3) ((hb.cell (cell_in b1)).trans b1) ((hb.cell (cell_in b3)).trans b3)
    · exact H2 U x (HB0.out.trans (hU.mono HB0.out.size)) hx)
  clear h h' hA hT hA' hT' H2 hw hne hne' hl hl' hv hv' hn40 hnn hn40' hnn' hw' h00 hTT hN hE m1 m2
  go_enter Tryz.func108, Tryz.ntmps108
  go_wp2_with fail
  go_at_call 141
  rw [← hW0]
  refine HEx.out.mono ?_
  rintro e w3 hcd
  obtain ⟨A1, p1, A2, p2, rfl, hoo, hb3⟩ := hcd.shape
  obtain ⟨x1, hx1⟩ : ∃ x, x = (fitD m).acc.length := ⟨_, rfl⟩
  obtain ⟨x2, hx2⟩ : ∃ x, x = (fitD m).nxt.length := ⟨_, rfl⟩
  obtain ⟨ok, hok⟩ : ∃ b, b = decide (m.n ≤ 40) := ⟨_, rfl⟩
  rw [← hx1, ← hx2] at hoo ⊢
  rw [← hok]
  have HO3 := Lib.hid hoo
  have HOk := Lib.hid hok
  have HB3 := Lib.hid hb3
  have hz3 := hb3.size
  have hyl := blk_lt HY.out
  obtain ⟨c0, c1, k0, k1⟩ := box2_facts ((HB3.out.block _ hyl).trans HY.out)
  obtain ⟨hcl, hsz, hot, hBl⟩ := put2 (k := .slice A1 x1 p1) (l := .slice A2 x2 p2) c0 c1
  obtain ⟨hc0, hc1⟩ := hcl
  have HOt := Lib.hid (And.intro hsz (And.intro hot hBl))
  clear hsz hot hBl hoo hb3 hcd hx1 hx2 hok hW0
  go_wp2_with fail
  refine bodyPost_ret (v := .tuple #[.agg #[.slice A1 x1 p1, .slice A2 x2 p2], .bool ok]) (by simp [results, Tryz.results108, go_sem, hc0, hc1]) rfl ?_
  have h0 := HB0.out.size
  refine ⟨m, HM.out.1, HM.out.2, ?_⟩
  rw [← HOk.out]
  exact ⟨_, _, rfl, HO3.out.mono (fun g hg => HOt.out.2.1 g (by have := hg.1; omega)) (fun g hg => ⟨by have := hg.1; omega, by rw [HOt.out.1]; exact hg.2⟩) (by rw [HOt.out.1]; exact Nat.le_refl _), HOt.out.2.2 _ _ (HB0.out.trans (HB3.out.mono h0)) (by omega)⟩
end Go.Proofs.YthmfncklepkddaaGreatDoor

namespace Go.Proofs.YthmfncklepkddaaGreatDoor
open Go.RowKit

set_option maxRecDepth 100000 in
set_option maxHeartbeats 6400000 in
theorem implPro_any (va vn va' vn' : Value) (d d' : Dx) (S S' : Nat → Prop) (kind : Int) (y : Dx) (ok : Bool) (w : World) (h : DfaV w S va vn d) (h' : DfaV w S' va' vn' d') (hy : proR d d' kind y ok) :
    Calls Tryz.prog 62 #[.agg #[va, vn], .agg #[va', vn'], .int .i64 kind] w (CopyDB y ok w) := by
  have hmf : ∀ (fn : Fn) (first cap : Array Value) (w : World), (Instr.makeFunc fn first cap).run Tryz.prog w = .ok (.func fn first cap) w := fun _ _ _ _ => rfl
  obtain ⟨W0, hW0⟩ : ∃ W0, W0 = ((w.alloc (.cells #[va, vn] 31)).alloc (.cells #[va', vn'] 31)).alloc (.cells #[.slice none 0 0, .slice none 0 0] 31) := ⟨_, rfl⟩
  have h3 := three_box w (.cells #[va, vn] 31) (.cells #[va', vn'] 31) (.cells #[.slice none 0 0, .slice none 0 0] 31)
  rw [← hW0] at h3
  have HB0 : Hid (Below w.heap.size w W0) := Lib.hid h3.2.2.2
  have HX := Lib.hid h3.1
  have HX' := Lib.hid h3.2.1
  have HY := Lib.hid h3.2.2.1
  clear h3
  have HV := Lib.hid (implValidD_any va vn d S W0 (h.kept HB0.out))
  have HV' := Lib.hid (fun (V : World) (hV : Below w.heap.size w V) => implValidD_any va' vn' d' S' V (h'.kept hV))
  have HPr : Hid (validD d = true → validD d' = true → ∀ (f : Bool → Bool → Bool) (g : Nat) (eg : ∀ args w, (callFunc g args).run Tryz.prog w = .ok (.enter g args) w) (V : World), Below W0.heap.size W0 V → (∀ (U : World) (p q : Nat) (ad ad' : Addr) (c c' : Nat) (x z : Bool), p < d.acc.length → q < d'.acc.length → U.cell? ⟨w.heap.size, 0, none⟩ = some (.slice (some ad) d.acc.length c) → U.cell? (ad.add p) = some (.bool x) → U.cell? ⟨w.heap.size + 1, 0, none⟩ = some (.slice (some ad') d'.acc.length c') → U.cell? (ad'.add q) = some (.bool z) → Calls Tryz.prog g #[.agg #[.int .i64 (p : Int), .int .i64 (q : Int)], .pointer (some ⟨w.heap.size, 0, none⟩), .pointer (some ⟨w.heap.size + 1, 0, none⟩)] U fun e w' => e = .returned (.bool (f x z)) ∧ Below U.heap.size U w') →
      Calls Tryz.prog 108 #[.agg #[va, vn], .agg #[va', vn'], .func (.func g) #[] #[.pointer (some ⟨w.heap.size, 0, none⟩), .pointer (some ⟨w.heap.size + 1, 0, none⟩)]] V (PrdPost (auD d) (auD d') f V)) := Lib.hid (fun hv hv' f g eg V hV hc => by
    have hb : Below w.heap.size w V := HB0.out.trans (hV.mono HB0.out.size)
    refine implPrd_any va vn va' vn' d d' S S' f g _ eg V (h.kept hb) (h'.kept hb) hv hv' (fun U x hU hx => ?_)
    have hbU : Below w.heap.size w U := hb.trans (hU.mono hb.size)
    have hbW : Below W0.heap.size W0 U := hV.trans (hU.mono hV.size)
    obtain ⟨-, -, -, -, ad, c, aN, c', hva, hvn, hA, -⟩ := h.au hv
    obtain ⟨-, -, -, -, ad', cc, aN', cc', hva', hvn', hA', -⟩ := h'.au hv'
    have a1 := hA x.1 hx.1
    have b1 := hA' x.2 hx.2
    refine hc U x.1 x.2 ad ad' c cc _ _ hx.1 hx.2 ?_ ((hbU.cell (cell_in a1)).trans a1) ?_ ((hbU.cell (cell_in b1)).trans b1)
    · rw [← hva]
      exact (box2_facts ((hbW.block _ (blk_lt HX.out)).trans HX.out)).1
    · rw [← hva']
      exact (box2_facts ((hbW.block _ (blk_lt HX'.out)).trans HX'.out)).1)
  obtain ⟨⟨A, c, hA⟩, A', c', hA'⟩ := h.shape
  obtain ⟨⟨B, e, hB⟩, B', e', hB'⟩ := h'.shape
  subst hA
  subst hA'
  subst hB
  subst hB'
  obtain ⟨hc0, hc1, -, -⟩ := box2_facts HX.out
  obtain ⟨hd0, hd1, -, -⟩ := box2_facts HX'.out
  rw [hW0] at hc0 hc1 hd0 hd1
  have HYy := Lib.hid hy
  obtain ⟨v, hv⟩ : ∃ v, v = validD d := ⟨_, rfl⟩
  obtain ⟨v', hv'⟩ : ∃ v, v = validD d' := ⟨_, rfl⟩
  rw [← hv] at HV
  rw [← hv'] at HV'
  have HVe := Lib.hid (And.intro hv hv')
  clear h h' hy hv hv'
  go_enter Tryz.func62, Tryz.ntmps62
  go_wp2_with fail
  go_at_call 40
  rw [← hW0]
  refine HV.out.mono ?_
  rintro e1 w1 ⟨rfl, hb1⟩
  have HB1 := Lib.hid hb1
  clear hc0 hc1 hd0 hd1 hW0 hb1
  have hw1 := Lib.hid (HB0.out.trans (HB1.out.mono HB0.out.size))
  obtain ⟨hc0, hc1, -, -⟩ := box2_facts ((HB1.out.block _ (blk_lt HX.out)).trans HX.out)
  obtain ⟨hd0, hd1, -, -⟩ := box2_facts ((HB1.out.block _ (blk_lt HX'.out)).trans HX'.out)
  cases v with
  | false =>
    obtain ⟨rfl, rfl⟩ := proR_no HYy.out (fun hh => by have := HVe.out.1; rw [hh.1] at this; cases this)
    obtain ⟨c0, c1, k0, k1⟩ := box2_facts ((HB1.out.block _ (blk_lt HY.out)).trans HY.out)
    obtain ⟨hcl, hsz, hot, hBl⟩ := put2 (k := .slice none 0 0) (l := .slice none 0 0) c0 c1
    obtain ⟨hr0, hr1⟩ := hcl
    have HOt := Lib.hid hBl
    clear hsz hot hBl
    go_wp2_with fail
    refine bodyPost_ret (v := .tuple #[.agg #[.slice none 0 0, .slice none 0 0], .bool false]) (by simp [results, Tryz.results62, go_sem, hr0, hr1]) rfl ?_
    exact ⟨_, _, rfl, DfaO.empty _ _, HOt.out _ _ (HB0.out.trans (HB1.out.mono HB0.out.size)) (by omega)⟩
  | true =>
    go_wp2_with fail
    go_at_call 40
    refine (HV'.out w1 hw1.out).mono ?_
    rintro e2 w2 ⟨rfl, hb2⟩
    have HB2 := Lib.hid (HB1.out.trans (hb2.mono HB1.out.size))
    clear hc0 hc1 hd0 hd1 hb2
    obtain ⟨hc0, hc1, -, -⟩ := box2_facts ((HB2.out.block _ (blk_lt HX.out)).trans HX.out)
    obtain ⟨hd0, hd1, -, -⟩ := box2_facts ((HB2.out.block _ (blk_lt HX'.out)).trans HX'.out)
    cases v' with
    | false =>
      obtain ⟨rfl, rfl⟩ := proR_no HYy.out (fun hh => by have := HVe.out.2; rw [hh.2.1] at this; cases this)
      obtain ⟨c0, c1, k0, k1⟩ := box2_facts ((HB2.out.block _ (blk_lt HY.out)).trans HY.out)
      obtain ⟨hcl, hsz, hot, hBl⟩ := put2 (k := .slice none 0 0) (l := .slice none 0 0) c0 c1
      obtain ⟨hr0, hr1⟩ := hcl
      have HOt := Lib.hid hBl
      clear hsz hot hBl
      go_wp2_with fail
      refine bodyPost_ret (v := .tuple #[.agg #[.slice none 0 0, .slice none 0 0], .bool false]) (by simp [results, Tryz.results62, go_sem, hr0, hr1]) rfl ?_
      exact ⟨_, _, rfl, DfaO.empty _ _, HOt.out _ _ (HB0.out.trans (HB2.out.mono HB0.out.size)) (by omega)⟩
    | true =>
      by_cases h6 : kind = 6
      · subst h6
        have HP := Lib.hid (HPr.out HVe.out.1.symm HVe.out.2.symm (· || ·) _ enters_or w2 HB2.out (fun U p q ad ad' c c' x z hp hq a0 a1 b0 b1 => implOrP_any _ _ ad ad' _ _ c c' p q x z U hp hq a0 a1 b0 b1))
        go_wp2_with fail
        go_at_call 108
        refine HP.out.mono ?_
        rintro e3 w3 ⟨m, m1, m2, hcd⟩
        obtain ⟨rfl, rfl⟩ := proR_yes HYy.out HVe.out.1.symm HVe.out.2.symm (by simp) m1 m2
        obtain ⟨A1, p1, A2, p2, rfl, hoo, hb3⟩ := hcd.shape
        obtain ⟨x1, hx1⟩ : ∃ x, x = (fitD m).acc.length := ⟨_, rfl⟩
        obtain ⟨x2, hx2⟩ : ∃ x, x = (fitD m).nxt.length := ⟨_, rfl⟩
        obtain ⟨ok, hok⟩ : ∃ b, b = decide (m.n ≤ 40) := ⟨_, rfl⟩
        rw [← hx1, ← hx2] at hoo ⊢
        rw [← hok]
        have HOk := Lib.hid hok
        have HO3 := Lib.hid hoo
        have HB3 := Lib.hid (HB2.out.trans (hb3.mono HB2.out.size))
        have hz2 := HB2.out.size
        have hz3 := hb3.size
        have hyl := blk_lt HY.out
        obtain ⟨c0, c1, k0, k1⟩ := box2_facts ((HB3.out.block _ hyl).trans HY.out)
        obtain ⟨hcl, hsz, hot, hBl⟩ := put2 (k := .slice A1 x1 p1) (l := .slice A2 x2 p2) c0 c1
        obtain ⟨hr0, hr1⟩ := hcl
        have HOt := Lib.hid (And.intro hsz (And.intro hot hBl))
        clear hsz hot hBl hoo hb3 hcd hx1 hx2 m1 m2 hok hc0 hc1 hd0 hd1
        go_wp2_with fail
        refine bodyPost_ret (v := .tuple #[.agg #[.slice A1 x1 p1, .slice A2 x2 p2], .bool ok]) (by simp [results, Tryz.results62, go_sem, hr0, hr1]) rfl ?_
        have h0 := HB0.out.size
        rw [← HOk.out]
        exact ⟨_, _, rfl, HO3.out.mono (fun g hg => HOt.out.2.1 g (by have := hg.1; omega)) (fun g hg => ⟨by have := hg.1; omega, by rw [HOt.out.1]; exact hg.2⟩) (by rw [HOt.out.1]; exact Nat.le_refl _), HOt.out.2.2 _ _ (HB0.out.trans (HB3.out.mono h0)) (by omega)⟩
      · by_cases h7 : kind = 7
        · subst h7
          have HP := Lib.hid (HPr.out HVe.out.1.symm HVe.out.2.symm (· && ·) _ enters_and w2 HB2.out (fun U p q ad ad' c c' x z hp hq a0 a1 b0 b1 => implAndP_any _ _ ad ad' _ _ c c' p q x z U hp hq a0 a1 b0 b1))
          go_wp2_with fail
          go_at_call 108
          refine HP.out.mono ?_
          rintro e3 w3 ⟨m, m1, m2, hcd⟩
          obtain ⟨rfl, rfl⟩ := proR_yes HYy.out HVe.out.1.symm HVe.out.2.symm (by simp) m1 m2
          obtain ⟨A1, p1, A2, p2, rfl, hoo, hb3⟩ := hcd.shape
          obtain ⟨x1, hx1⟩ : ∃ x, x = (fitD m).acc.length := ⟨_, rfl⟩
          obtain ⟨x2, hx2⟩ : ∃ x, x = (fitD m).nxt.length := ⟨_, rfl⟩
          obtain ⟨ok, hok⟩ : ∃ b, b = decide (m.n ≤ 40) := ⟨_, rfl⟩
          rw [← hx1, ← hx2] at hoo ⊢
          rw [← hok]
          have HOk := Lib.hid hok
          have HO3 := Lib.hid hoo
          have HB3 := Lib.hid (HB2.out.trans (hb3.mono HB2.out.size))
          have hz2 := HB2.out.size
          have hz3 := hb3.size
          have hyl := blk_lt HY.out
          obtain ⟨c0, c1, k0, k1⟩ := box2_facts ((HB3.out.block _ hyl).trans HY.out)
          obtain ⟨hcl, hsz, hot, hBl⟩ := put2 (k := .slice A1 x1 p1) (l := .slice A2 x2 p2) c0 c1
          obtain ⟨hr0, hr1⟩ := hcl
          have HOt := Lib.hid (And.intro hsz (And.intro hot hBl))
          clear hsz hot hBl hoo hb3 hcd hx1 hx2 m1 m2 hok hc0 hc1 hd0 hd1
          go_wp2_with fail
          refine bodyPost_ret (v := .tuple #[.agg #[.slice A1 x1 p1, .slice A2 x2 p2], .bool ok]) (by simp [results, Tryz.results62, go_sem, hr0, hr1]) rfl ?_
          have h0 := HB0.out.size
          rw [← HOk.out]
          exact ⟨_, _, rfl, HO3.out.mono (fun g hg => HOt.out.2.1 g (by have := hg.1; omega)) (fun g hg => ⟨by have := hg.1; omega, by rw [HOt.out.1]; exact hg.2⟩) (by rw [HOt.out.1]; exact Nat.le_refl _), HOt.out.2.2 _ _ (HB0.out.trans (HB3.out.mono h0)) (by omega)⟩
        · have k6 : (kind == 6) = false := by simpa using h6
          have k7 : (kind == 7) = false := by simpa using h7
          obtain ⟨rfl, rfl⟩ := proR_no HYy.out (fun hh => by rcases hh.2.2 with e | e; exact h6 e; exact h7 e)
          clear h6 h7
          obtain ⟨c0, c1, k0, k1⟩ := box2_facts ((HB2.out.block _ (blk_lt HY.out)).trans HY.out)
          obtain ⟨hcl, hsz, hot, hBl⟩ := put2 (k := .slice none 0 0) (l := .slice none 0 0) c0 c1
          obtain ⟨hr0, hr1⟩ := hcl
          have HOt := Lib.hid hBl
          clear hsz hot hBl
          go_wp2_with fail
          refine bodyPost_ret (v := .tuple #[.agg #[.slice none 0 0, .slice none 0 0], .bool false]) (by simp [results, Tryz.results62, go_sem, hr0, hr1]) rfl ?_
          exact ⟨_, _, rfl, DfaO.empty _ _, HOt.out _ _ (HB0.out.trans (HB2.out.mono HB0.out.size)) (by omega)⟩
end Go.Proofs.YthmfncklepkddaaGreatDoor

/-
  What impl.MinimizeDfa and impl.ComplementDfa answer.
-/
namespace Go.Proofs.YthmfncklepkddaaGreatDoor
open Go.RowKit

theorem accA_run (a : Au) (acc : Nat → Bool) : ∀ (w : List Nat) (q : Nat), (accA a acc).run q w = a.run q w
  | [], _ => rfl
  | k :: w, q => accA_run a acc w (a.T q k)
theorem accA_cnt (a : Au) (acc : Nat → Bool) : ∀ t, (accA a acc).cnt t = a.cnt t
  | 0 => rfl
  | t + 1 => by simp only [Au.cnt, accA_cnt a acc t]; rfl
/-- The complement, as an automaton. -/
def negA (a : Au) : Au := accA a fun q => !a.A q
theorem negA_canon {m : Au} (h : Canon m) : Canon (negA m) where
  pos := h.pos
  lt := h.lt
  sep := fun i j hi hj he => h.sep i j hi hj (fun w hw => by
    have h1 := he w hw
    rw [negA, accA_run, accA_run] at h1
    have h2 : (!m.A (m.run i w)) = (!m.A (m.run j w)) := h1
    simpa using h2)
  next := fun t ht => by
    rw [negA, accA_cnt]
    exact h.next t ht
  seen := fun i hi => by
    rw [negA, accA_cnt]
    exact h.seen i hi
  all := by
    rw [negA, accA_cnt]
    exact h.all
theorem negA_eqv {m a : Au} (h : Eqv m 0 a 0) : Eqv (negA m) 0 (negA a) 0 := fun w hw => by
  rw [negA, negA, accA_run, accA_run]
  show (!m.A (m.run 0 w)) = (!a.A (a.run 0 w))
  rw [h w hw]
theorem negA_fields (m : Au) : fieldsOf (negA m) = comD (fieldsOf m) := by
  unfold fieldsOf comD
  simp [accOf, nxtOf, negA, accA, Function.comp_def]

set_option maxRecDepth 100000 in
set_option maxHeartbeats 3200000 in
theorem implCom_any (va vn : Value) (d y : Dx) (S : Nat → Prop) (w : World) (h : DfaV w S va vn d) (hy : minR d y) :
    Calls Tryz.prog 64 #[.agg #[va, vn]] w (CopyD (comD y) w) := by
  have hmf : ∀ (fn : Fn) (first cap : Array Value) (w : World), (Instr.makeFunc fn first cap).run Tryz.prog w = .ok (.func fn first cap) w := fun _ _ _ _ => rfl
  obtain ⟨W0, hW0⟩ : ∃ W0, W0 = (w.alloc (.cells #[va, vn] 31)).alloc (.cells #[.slice none 0 0, .slice none 0 0] 31) := ⟨_, rfl⟩
  have HB0 : Hid (Below w.heap.size w W0) := Lib.hid (by rw [hW0]; exact ((Below.refl _ _).alloc (Nat.le_refl _) _).alloc (by simp) _)
  have HX : Hid (Bx2 W0 w.heap.size va vn) := Lib.hid (by
    have k := box2_kept (w := w) (w1 := W0) (a := va) (b := vn) (t := 31) (by rw [hW0]; exact (Below.refl _ _).alloc (by simp) _)
    exact ⟨k.2.1, k.2.2.1⟩)
  have HY : Hid (W0.heap[w.heap.size + 1]? = some (.cells #[.slice none 0 0, .slice none 0 0] 31 (0, 0))) := Lib.hid (by rw [hW0]; exact three2 w _ _ _ _)
  have HM : Hid (Calls Tryz.prog 114 #[.agg #[va, vn], .func (.func 115) #[] #[.pointer (some ⟨w.heap.size, 0, none⟩)]] W0 (CopyD (comD y) W0)) := Lib.hid (by
    unfold minR at hy
    by_cases hv : validD d = true
    · simp only [hv, if_true] at hy
      obtain ⟨m0, n1, n2, rfl⟩ := hy
      obtain ⟨hw, hn40, hnn, hl, ad, c, ad', c', hva, hvn, hA, hT⟩ := h.au hv
      refine (implMinSt_yes va vn d S _ _ enters_rej (fun q => !(auD d).A q) W0 (h.kept HB0.out) hv (fun V x hV hx => ?_)).mono ?_
      · have h1 := hA x hx
        have hb := HB0.out.trans (hV.mono HB0.out.size)
        exact (implRejQ_any w.heap.size ad _ c x _ V hx (by rw [← hva]; exact (HX.out.kept hV).1) ((hb.cell (cell_in h1)).trans h1)).mono (fun e w' he => ⟨he.1, by rw [← he.2]; exact Below.refl _ _⟩)
      · rintro e w' ⟨m, m1, m2, hcd⟩
        have m2' : Eqv m 0 (negA (auD d)) 0 := m2
        rw [← negA_fields, fields_one (negA_canon n1) m1 ((negA_eqv n2).swap m2')]
        exact hcd
    · simp only [hv] at hy
      obtain rfl : y = ⟨[], []⟩ := by simpa using hy
      exact implMinSt_no va vn d S _ _ W0 (h.kept HB0.out) (by simpa using hv))
  obtain ⟨⟨A, c, rfl⟩, A', c', rfl⟩ := h.shape
  obtain ⟨hc00, hc01⟩ := HX.out
  rw [hW0] at hc00 hc01
  clear h hy
  go_enter Tryz.func64, Tryz.ntmps64
  go_wp2_with fail
  go_at_call 114
  rw [← hW0]
  refine HM.out.mono ?_
  rintro e w3 hcd
  obtain ⟨A1, p1, A2, p2, rfl, hoo, hb3⟩ := hcd.shape
  obtain ⟨x1, hx1⟩ : ∃ x, x = (comD y).acc.length := ⟨_, rfl⟩
  obtain ⟨x2, hx2⟩ : ∃ x, x = (comD y).nxt.length := ⟨_, rfl⟩
  rw [← hx1, ← hx2] at hoo ⊢
  have HO3 := Lib.hid hoo
  have HB3 := Lib.hid hb3
  obtain ⟨c0, c1, k0, k1⟩ := box2_facts ((hb3.block _ (blk_lt HY.out)).trans HY.out)
  obtain ⟨hcl, hsz, hot, hBl⟩ := put2 (k := .slice A1 x1 p1) (l := .slice A2 x2 p2) c0 c1
  obtain ⟨hc0, hc1⟩ := hcl
  have HOt := Lib.hid (And.intro hsz (And.intro hot hBl))
  clear hsz hot hBl hoo hb3 hcd hx1 hx2 hc00 hc01 hW0
  go_wp2_with fail
  refine bodyPost_ret (v := .agg #[.slice A1 x1 p1, .slice A2 x2 p2]) (by simp [results, Tryz.results64, go_sem, hc0, hc1]) rfl ?_
  have hyl := blk_lt HY.out
  have h0 := HB0.out.size
  exact ⟨_, _, rfl, HO3.out.mono (fun g hg => HOt.out.2.1 g (by have := hg.1; omega)) (fun g hg => ⟨by have := hg.1; omega, by rw [HOt.out.1]; exact hg.2⟩) (by rw [HOt.out.1]; exact Nat.le_refl _), HOt.out.2.2 _ _ (HB0.out.trans (HB3.out.mono h0)) (Nat.le_succ _)⟩
end Go.Proofs.YthmfncklepkddaaGreatDoor

/-
  What impl.WordDfa and the closures that it makes answer.
-/
namespace Go.Proofs.YthmfncklepkddaaGreatDoor
open Go.RowKit

set_option maxRecDepth 100000 in
set_option maxHeartbeats 1600000 in
theorem implWd1_any (bs bo i k : Nat) (s : ByteArray) (w : World) (hs : s.size ≤ 30) (hi : i < s.size + 2) (c0 : w.cell? ⟨bs, 0, none⟩ = some (.string s)) (c1 : w.cell? ⟨bo, 0, none⟩ = some (.int .i64 ((s.size : Int) + 1))) :
    Calls Tryz.prog 36 #[.int .i64 (i : Int), .int .i64 (k : Int), .pointer (some ⟨bs, 0, none⟩), .pointer (some ⟨bo, 0, none⟩)] w fun e w' => e = .returned (.int .i64 ((wdT s.data.toList i k : Nat) : Int)) ∧ w = w' := by
  have hl : s.data.toList.length = s.size := by simp
  by_cases hlt : i < s.size
  · have e1 : decide ((i : Int) < (s.size : Int)) = true := by simp; omega
    have e2 : (0 : Int) ≤ (i : Int) := by omega
    have e3 : (i : Int) < (s.size : Int) := by omega
    have hg : s.data.toList.getD i 0 = s[i] := by
      rw [List.getD_eq_getElem?_getD, List.getElem?_eq_getElem (by omega)]
      rfl
    by_cases hy : letIdx s[i] = (k : Int)
    · have HR : Hid (((wdT s.data.toList i k : Nat) : Int) = (i : Int) + 1) := Lib.hid (by rw [wdT_yes (by omega) (by rw [hg]; exact hy)]; rfl)
      have e4 : (letIdx s[i] == (k : Int)) = true := by simp [hy]
      clear hy hg hl
      go_enter Tryz.func36, Tryz.ntmps36
      go_wp2_with (go_at_call 37; refine (implLet_any _ _).mono ?_; rintro e w' ⟨rfl, rfl⟩)
      go_ret
      exact ⟨congrArg (fun z : Int => Ending.returned (.int .i64 z)) HR.out.symm, rfl⟩
    · have HR : Hid (((wdT s.data.toList i k : Nat) : Int) = (s.size : Int) + 1) := Lib.hid (by rw [wdT_no (by rw [hg]; exact fun h => hy h.2), hl]; rfl)
      have e4 : (letIdx s[i] == (k : Int)) = false := by simp [hy]
      clear hy hg hl
      go_enter Tryz.func36, Tryz.ntmps36
      go_wp2_with (go_at_call 37; refine (implLet_any _ _).mono ?_; rintro e w' ⟨rfl, rfl⟩)
      go_ret
      exact ⟨congrArg (fun z : Int => Ending.returned (.int .i64 z)) HR.out.symm, rfl⟩
  · have e1 : decide ((i : Int) < (s.size : Int)) = false := by simp; omega
    have HR : Hid (((wdT s.data.toList i k : Nat) : Int) = (s.size : Int) + 1) := Lib.hid (by rw [wdT_no (by omega), hl]; rfl)
    clear hl
    go_enter Tryz.func36, Tryz.ntmps36
    go_wp2_with fail
    go_ret
    exact ⟨congrArg (fun z : Int => Ending.returned (.int .i64 z)) HR.out.symm, rfl⟩
theorem implWd2_any (bs i : Nat) (s : ByteArray) (w : World) (c0 : w.cell? ⟨bs, 0, none⟩ = some (.string s)) :
    Calls Tryz.prog 39 #[.int .i64 (i : Int), .pointer (some ⟨bs, 0, none⟩)] w fun e w' => e = .returned (.bool (decide (i = s.data.toList.length))) ∧ w = w' := by
  have HR : Hid (decide (i = s.data.toList.length) = ((i : Int) == (s.size : Int))) := Lib.hid (by
    have hl : s.data.toList.length = s.size := by simp
    rw [hl]
    by_cases h : i = s.size
    · simp [h]
    · have h' : ¬ ((i : Int) = (s.size : Int)) := by omega
      simp [h, h'])
  go_enter Tryz.func39, Tryz.ntmps39
  go_wp2_with fail
  go_ret
  exact ⟨congrArg (fun b : Bool => Ending.returned (.bool b)) HR.out.symm, rfl⟩
theorem enters_wd1 (args : Array Value) (w : World) : (callFunc 36 args).run Tryz.prog w = .ok (.enter 36 args) w := enters_of Tryz.func36 (by kernel_rfl) rfl args w
theorem enters_wd2 (args : Array Value) (w : World) : (callFunc 39 args).run Tryz.prog w = .ok (.enter 39 args) w := enters_of Tryz.func39 (by kernel_rfl) rfl args w

set_option maxRecDepth 100000 in
set_option maxHeartbeats 3200000 in
theorem implWd_any (s : ByteArray) (hss : s.size ≤ maxLen) (y : Dx) (ok : Bool) (hy : wordR s.data.toList y ok) (w : World) :
    Calls Tryz.prog 14 #[.string s] w (CopyDB y ok w) := by
  have hmf : ∀ (fn : Fn) (first cap : Array Value) (w : World), (Instr.makeFunc fn first cap).run Tryz.prog w = .ok (.func fn first cap) w := fun _ _ _ _ => rfl
  have HV := Lib.hid (fun V => implIsWord_any s V hss)
  obtain ⟨W0, hW0⟩ : ∃ W0, W0 = (w.alloc (.cells #[.string s] 9)).alloc (.cells #[.slice none 0 0, .slice none 0 0] 31) := ⟨_, rfl⟩
  have HB0 : Hid (Below w.heap.size w W0) := Lib.hid (by rw [hW0]; exact ((Below.refl _ _).alloc (Nat.le_refl _) _).alloc (by simp) _)
  have HX : Hid (W0.heap[w.heap.size]? = some (.cells #[.string s] 9 (0, 0))) := Lib.hid (by rw [hW0]; exact (Below.heap_alloc _ _ _ (by simp)).trans (heap_alloc_new w _))
  have HY : Hid (W0.heap[w.heap.size + 1]? = some (.cells #[.slice none 0 0, .slice none 0 0] 31 (0, 0))) := Lib.hid (by rw [hW0]; exact three2 w _ _ _ _)
  have hc := (cell_of_row W0 w.heap.size 0 _ _ (0, 0) HX.out).trans rfl
  have HYy := Lib.hid hy
  rw [hW0] at hc
  cases hw : isW s.data.toList with
  | false =>
    obtain ⟨rfl, rfl⟩ := wordR_no hy hw
    rw [hw] at HV
    have hz : W0.cell? ⟨w.heap.size + 1, 0, none⟩ = some (.slice none 0 0) ∧ W0.cell? ⟨w.heap.size + 1, 1, none⟩ = some (.slice none 0 0) := ⟨(box2_facts HY.out).1, (box2_facts HY.out).2.1⟩
    obtain ⟨z0, z1⟩ := hz
    clear hy hw
    go_enter Tryz.func14, Tryz.ntmps14
    go_wp2_with (go_at_call 33; refine (HV.out _).mono ?_; rintro e w' ⟨rfl, rfl⟩)
    rw [← hW0]
    refine bodyPost_ret (v := .tuple #[.agg #[.slice none 0 0, .slice none 0 0], .bool false]) (by simp [results, Tryz.results14, go_sem, z0, z1]) rfl ?_
    exact ⟨_, _, rfl, DfaO.empty _ _, HB0.out⟩
  | true =>
    rw [hw] at HV
    have h30 : s.size ≤ 30 := by
      have := isW_len hw
      simpa using this
    have hl : s.data.toList.length = s.size := by simp
    obtain ⟨N, hN, hE⟩ := ends_some (s0 := 0) (g := (wdA s.data.toList).T) (M := s.data.toList.length + 2) (fun t => (own_keys (wdA_wf _) t).2)
    obtain ⟨f1, f2, f3⟩ := own_found (wdA_wf s.data.toList) hE
    obtain ⟨m, m1, m2, m3⟩ := exists_min (hE.wf (wdA s.data.toList).A)
    have m4 := m2.trans f2
    obtain ⟨rfl, rfl⟩ := wordR_yes hy hw m1 m4
    have hm40 := wd_small hw m1 m4
    have hsr : srchR 40 0 (wdT s.data.toList) (fun i => decide (i = s.data.toList.length)) (fieldsOf m) true := .inl ⟨N, by omega, hE, m, m1, m2, by unfold fitD; rw [if_pos hm40], by simp [hm40]⟩
    obtain ⟨W2, hW2⟩ : ∃ W2, W2 = W0.alloc (.cells #[.int .i64 ((s.size : Int) + 1)] 3) := ⟨_, rfl⟩
    have HB2 : Hid (Below W0.heap.size W0 W2) := Lib.hid (by rw [hW2]; exact (Below.refl _ _).alloc (Nat.le_refl _) _)
    have HX2 : Hid (W2.heap[W0.heap.size]? = some (.cells #[.int .i64 ((s.size : Int) + 1)] 3 (0, 0))) := Lib.hid (by rw [hW2]; exact heap_alloc_new W0 _)
    have hz0 : W0.heap.size = w.heap.size + 1 + 1 := by rw [hW0]; simp
    have HMd : Hid (Calls Tryz.prog 38 #[.int .i64 0, .func (.func 36) #[] #[.pointer (some ⟨w.heap.size, 0, none⟩), .pointer (some ⟨W0.heap.size, 0, none⟩)], .func (.func 39) #[] #[.pointer (some ⟨w.heap.size, 0, none⟩)], .int .i64 40] W2 (CopyDB (fieldsOf m) true W2)) := Lib.hid (by
      refine implMdI_any _ _ _ _ _ enters_wd1 enters_wd2 (wdT s.data.toList) (fun i => decide (i = s.data.toList.length)) (s.data.toList.length + 2) 40 0 W2 (by omega) (by omega) (by omega) (by omega) (fun x k _ _ => wdT_lt _ x k) (fun U x k hU hx hk => ?_) (fun U x hU hx => ?_) _ _ hsr
      · have q0 := (cell_of_row U w.heap.size 0 _ _ (0, 0) ((hU.block _ (Nat.lt_of_lt_of_le (blk_lt HX.out) HB2.out.size)).trans ((HB2.out.block _ (blk_lt HX.out)).trans HX.out))).trans rfl
        have q1 := (cell_of_row U W0.heap.size 0 _ _ (0, 0) ((hU.block _ (blk_lt HX2.out)).trans HX2.out)).trans rfl
        exact (implWd1_any w.heap.size W0.heap.size x k s U h30 (by omega) q0 q1).mono (fun e w' he => ⟨he.1, by rw [← he.2]; exact Below.refl _ _⟩)
      · have q0 := (cell_of_row U w.heap.size 0 _ _ (0, 0) ((hU.block _ (Nat.lt_of_lt_of_le (blk_lt HX.out) HB2.out.size)).trans ((HB2.out.block _ (blk_lt HX.out)).trans HX.out))).trans rfl
        exact (implWd2_any w.heap.size x s U q0).mono (fun e w' he => ⟨he.1, by rw [← he.2]; exact Below.refl _ _⟩))
    rw [hz0] at HMd
    clear hy hw hl hN hE f1 f2 f3 m1 m2 m3 m4 hm40 hsr HYy hz0
    go_enter Tryz.func14, Tryz.ntmps14
    go_upto_region 4 with (go_at_call 33; refine (HV.out _).mono ?_; rintro e w' ⟨rfl, rfl⟩)
    rw [← hW0, ← hW2]
    clear hc hW0 hW2
    go_wp2_with fail
    go_at_call 38
    refine HMd.out.mono ?_
    rintro e w3 hcd
    obtain ⟨A1, p1, A2, p2, rfl, hoo, hb3⟩ := hcd.shape
    obtain ⟨x1, hx1⟩ : ∃ x, x = (fieldsOf m).acc.length := ⟨_, rfl⟩
    obtain ⟨x2, hx2⟩ : ∃ x, x = (fieldsOf m).nxt.length := ⟨_, rfl⟩
    rw [← hx1, ← hx2] at hoo ⊢
    have HO3 := Lib.hid hoo
    have HB3 := Lib.hid (HB2.out.trans (hb3.mono HB2.out.size))
    have hz2 := HB2.out.size
    have hz3 := hb3.size
    have hyl := blk_lt HY.out
    obtain ⟨c0, c1, k0, k1⟩ := box2_facts ((HB3.out.block _ hyl).trans HY.out)
    obtain ⟨hcl, hsz, hot, hBl⟩ := put2 (k := .slice A1 x1 p1) (l := .slice A2 x2 p2) c0 c1
    obtain ⟨hc0, hc1⟩ := hcl
    have HOt := Lib.hid (And.intro hsz (And.intro hot hBl))
    clear hsz hot hBl hoo hb3 hcd hx1 hx2
    go_wp2_with fail
    refine bodyPost_ret (v := .tuple #[.agg #[.slice A1 x1 p1, .slice A2 x2 p2], .bool true]) (by simp [results, Tryz.results14, go_sem, hc0, hc1]) rfl ?_
    have h0 := HB0.out.size
    exact ⟨_, _, rfl, HO3.out.mono (fun g hg => HOt.out.2.1 g (by have := hg.1; omega)) (fun g hg => ⟨by have := hg.1; omega, by rw [HOt.out.1]; exact hg.2⟩) (by rw [HOt.out.1]; exact Nat.le_refl _), HOt.out.2.2 _ _ (HB0.out.trans (HB3.out.mono h0)) (by omega)⟩
end Go.Proofs.YthmfncklepkddaaGreatDoor

/-
  What impl.compileAll, impl.compile and impl.CompileRegex answer: the automaton of an expression, and whether there is one.
-/
namespace Go.Proofs.YthmfncklepkddaaGreatDoor
open Go.RowKit

/-- A part of a row, and what its call answers. -/
structure KidC (cp : Nat) (w : World) (A : Option Addr) (j : Nat) (x : Int × ByteArray × Fr) (d : Dx × Bool) (g o : Nat) (A' : Option Addr) (c' : Nat) : Prop where
  at_ : A = some ⟨g, o, none⟩
  lt : g < w.heap.size
  el : ElAt w g (o + j * 3) x.1 x.2.1 (.slice A' x.2.2.items.length c')
  call : ∀ W, Below w.heap.size w W → Calls Tryz.prog cp #[.agg #[.int .i64 x.1, .string x.2.1, .slice A' x.2.2.items.length c']] W (CopyDB d.1 d.2 W)

set_option maxRecDepth 100000 in
set_option maxHeartbeats 3200000 in
theorem compileAll_any (A : Option Addr) (c : Nat) (a : Fr) (L : List (Dx × Bool)) (w0 w : World) (hb0 : Below w0.heap.size w0 w) (hl2 : a.items.length ≤ 2) (hlen : L.length = a.items.length)
    (hkid : ∀ j x d, a.items[j]? = some x → L[j]? = some d → ∃ g o A' c', KidC 27 w0 A j x d g o A' c') :
    Calls Tryz.prog 59 #[.slice A a.items.length c] w fun e w' => ∃ v xs, e = .returned (.tuple #[v, .bool (L.all (·.2))]) ∧ (L.all (·.2) = true → RowX w.heap.size w' v (L.map (·.1)) xs) ∧ Below w.heap.size w w' := by
  obtain ⟨r0, hr0, hrz, hrs, hrb⟩ : ∃ i : TypeInfo, Tryz.prog.info? 31 = some i ∧ i.zero = some (.agg #[.slice none 0 0, .slice none 0 0]) ∧ i.size = 2 ∧ i.bytes = 48 := ⟨(Tryz.prog.info? 31).get!, by kernel_rfl, by kernel_rfl, by kernel_rfl, by kernel_rfl⟩
  have HKID := Lib.hid hkid
  have HB0 := Lib.hid hb0
  have HLen := Lib.hid hlen
  have hz0 := hb0.size
  clear hkid hb0 hlen
  go_enter Tryz.func59, Tryz.ntmps59
  go_wp2_with fail
  go_loopw [4, 11] (fun pv iv wr => ∃ (j : Nat) (xs : List Value), iv = .int .i64 j ∧ j ≤ a.items.length ∧ (L.take j).all (·.2) = true ∧ RowX w.heap.size wr pv ((L.take j).map (·.1)) xs ∧ Below w.heap.size w wr) (fun _ iv _ => a.items.length - (intOf iv).toNat)
  case atStart => exact ⟨0, [], rfl, Nat.zero_le _, rfl, RowX.start _ _, Below.refl _ _⟩
  case round =>
    obtain ⟨j, xs, rfl, hj, hall, hrow, hb⟩ := hrel
    have HB := Lib.hid hb
    have HR := Lib.hid hrow
    have HAll := Lib.hid hall
    have hwz : w.heap.size ≤ wr.heap.size := hb.size
    have hLl : ((L.take j).map (·.1)).length = j := by
      rw [List.length_map, List.length_take, HLen.out]
      omega
    by_cases hlt : j < a.items.length
    · obtain ⟨x, hx⟩ : ∃ x, a.items[j]? = some x := ⟨_, List.getElem?_eq_getElem hlt⟩
      obtain ⟨d, hd⟩ : ∃ d, L[j]? = some d := ⟨_, List.getElem?_eq_getElem (by rw [HLen.out]; exact hlt)⟩
      obtain ⟨g, o, A', c', kid⟩ := HKID.out j x d hx hd
      have hg := kid.lt
      have hA := kid.at_
      subst hA
      have hbw0 : Below w0.heap.size w0 wr := HB0.out.trans (hb.mono hz0)
      obtain ⟨c0, c1, c2⟩ := kid.el.below hbw0 hg
      obtain ⟨o', ho'⟩ : ∃ o', o' = Obj.cells #[.int .i64 x.1, .string x.2.1, .slice A' x.2.2.items.length c'] 26 := ⟨_, rfl⟩
      have HK := Lib.hid (kid.call (wr.alloc o') (hbw0.alloc (by omega) o'))
      have HR1 := Lib.hid (hrow.below ((Below.refl wr.heap.size wr).alloc (Nat.le_refl _) o'))
      have HB1 := Lib.hid (hb.alloc (by omega) o')
      rw [ho'] at HK HR1 HB1
      have HX := Lib.hid hd
      obtain ⟨d1, d2⟩ := d
      clear kid hx hd hrow hb ho' hbw0 hall
      go_wp2_with fail
      refine HK.out.mono ?_
      rintro e w1 hcd
      obtain ⟨A1, m1, A2, m2, rfl, hs1, hb1⟩ := hcd.shape
      have hz1 := hb1.size
      rw [World.size_alloc] at hz1
      have HR2 := Lib.hid (HR1.out.below hb1)
      have hown := HR2.out.own
      rw [hLl] at hown
      have HOWN := Lib.hid hown
      have HS1 := Lib.hid hs1
      have HB2 := Lib.hid (HB1.out.trans (hb1.mono (by simp; omega)))
      have HBB := Lib.hid hb1
      clear hs1 hb1 hown hcd c0 c1 c2
      obtain ⟨Av, cv, hv⟩ := rowt_shape HOWN.out
      subst hv
      cases d2 with
      | false =>
        have HF : Hid (L.all (·.2) = false) := Lib.hid (by
          rw [List.all_eq_false]
          exact ⟨_, List.mem_of_getElem? HX.out, by simp⟩)
        go_wp2_with fail
        refine bodyPost_ret (v := .tuple #[.slice none 0 0, .bool false]) (by simp [results, Tryz.results59, go_sem]) rfl ?_
        exact ⟨_, [], by rw [HF.out], fun h => (by rw [HF.out] at h; cases h), HB2.out.alloc (by omega) _⟩
      | true =>
        obtain ⟨w2, hw2⟩ : ∃ w2, w2 = w1.alloc (.cells #[.slice A1 d1.acc.length m1, .slice A2 d1.nxt.length m2] 31) := ⟨_, rfl⟩
        have hb2 : Below w1.heap.size w1 w2 := by rw [hw2]; exact (Below.refl _ _).alloc (Nat.le_refl _) _
        have hz2 := hb2.size
        have HOW2 : Hid (w2.ownsRow w.heap.size 31 2 (.slice Av j cv) j xs) := Lib.hid (row_same HOWN.out (fun b hb => hb2.block b (HOWN.out.lt b hb).2))
        have HBW2 := Lib.hid hb2
        have HNEW : Hid (∀ (j : Nat) (u : Value), [Value.slice A1 d1.acc.length m1, .slice A2 d1.nxt.length m2][j]? = some u → (w2.alloc (.cells #[.slice A1 d1.acc.length m1, .slice A2 d1.nxt.length m2] 31)).cell? ((⟨w1.heap.size + 1, 0, none⟩ : Addr).add j) = some u) := Lib.hid (by
          have h := new_two w2 (.slice A1 d1.acc.length m1) (.slice A2 d1.nxt.length m2) 31
          have e : w2.heap.size = w1.heap.size + 1 := by rw [hw2]; simp
          rw [e] at h
          exact h)
        rw [hw2] at HOW2 HBW2 HNEW
        clear hb2
        go_wp2_with (at_builtin; refine wpList_append_own_at _ rfl (.tmp 22) (.tmp 24) 85 rfl w.heap.size 31 r0 (.agg #[.slice none 0 0, .slice none 0 0]) 2 48 Tryz.underlying85 hr0 hrz hrs hrb rfl (by decide) _ _ _ rfl (HOW2.out.alloc _) ⟨w1.heap.size + 1, 0, none⟩ 1 1 _ rfl rfl HNEW.out (by simp [Value.oneCell']) (by unfold maxLen; omega) (by omega) (by simp; omega) ?_)
        intro v' w3 hown' hgrow hnil hat
        have hgz := hgrow.size
        simp only [World.size_alloc] at hgz
        have HN := Lib.hid (HR1.out.step (d := d1) (by simp; omega) HBB.out HS1.out.dfa (by rw [hLl]; exact hown') (by omega) (fun g h1 h2 => (hgrow.block g (by simp; omega) (Ne.symm h2)).trans ((Below.heap_alloc _ _ _ (by simp; omega)).trans (Below.heap_alloc _ _ _ h1))) (hat.imp id (fun h => ⟨_, h, by omega⟩)))
        have htk : L.take (j + 1) = L.take j ++ [(d1, true)] := by rw [List.take_add_one, HX.out]; rfl
        rw [show (L.take j).map (·.1) ++ [d1] = (L.take (j + 1)).map (·.1) by rw [htk, List.map_append]; rfl] at HN
        have HA1 : Hid ((L.take (j + 1)).all (·.2) = true) := Lib.hid (by rw [htk, List.all_append, HAll.out]; rfl)
        have HB3 := Lib.hid (((HB2.out.alloc (by omega) _).alloc (by simp; omega) _).grown hgrow (by simp; omega) (fun g hg => (HOWN.out.lt g hg).1))
        clear hown' hgrow hat htk hgz
        go_wp2_with fail
        go_roundw
        case rel => exact ⟨j + 1, _, by go_num, by omega, HA1.out, HN.out, HB3.out⟩
        case measure => simp [intOf]; omega
    · obtain rfl : j = a.items.length := by omega
      have hfull : L.take a.items.length = L := by rw [← HLen.out]; exact List.take_length
      rw [hfull] at HR HAll
      have hL2 : (L.map (·.1)).length = a.items.length := by rw [List.length_map]; exact HLen.out
      obtain ⟨Av, cv, hv⟩ := rowt_shape HR.out.own
      rw [hL2] at hv
      subst hv
      clear hrow hb hall hLl
      go_wp2_with fail
      refine bodyPost_ret (v := .tuple #[.slice Av a.items.length cv, .bool true]) (by simp [results, Tryz.results59, go_sem]) rfl ?_
      exact ⟨_, _, by rw [HAll.out], fun _ => HR.out, HB.out⟩
/-- What compileAll answers. -/
def AllP (L : List (Dx × Bool)) (w : World) (e : Ending) (w' : World) : Prop := ∃ v xs, e = .returned (.tuple #[v, .bool (L.all (·.2))]) ∧ (L.all (·.2) = true → RowX w.heap.size w' v (L.map (·.1)) xs) ∧ Below w.heap.size w w'
set_option maxRecDepth 100000 in
set_option maxHeartbeats 3200000 in
theorem icomp_fail (k : Int) (l : ByteArray) (A : Option Addr) (m c : Nat) (w : World) (L : List (Dx × Bool)) (hL : L.all (·.2) = false)
    (hAll : ∀ W, Below w.heap.size w W → Calls Tryz.prog 59 #[.slice A m c] W (AllP L W)) :
    Calls Tryz.prog 27 #[.agg #[.int .i64 k, .string l, .slice A m c]] w (CopyDB ⟨[], []⟩ false w) := by
  obtain ⟨W0, hW0⟩ : ∃ W0, W0 = (w.alloc (.cells #[.int .i64 k, .string l, .slice A m c] 26)).alloc (.cells #[.slice none 0 0, .slice none 0 0] 31) := ⟨_, rfl⟩
  have HB0 : Hid (Below w.heap.size w W0) := Lib.hid (by rw [hW0]; exact ((Below.refl _ _).alloc (Nat.le_refl _) _).alloc (by simp) _)
  have HP : Hid (W0.heap[w.heap.size]? = some (.cells #[.int .i64 k, .string l, .slice A m c] 26 (0, 0))) := Lib.hid (by rw [hW0]; exact (Below.heap_alloc _ _ _ (by simp)).trans (heap_alloc_new w _))
  have HY : Hid (W0.heap[w.heap.size + 1]? = some (.cells #[.slice none 0 0, .slice none 0 0] 31 (0, 0))) := Lib.hid (by rw [hW0]; exact three2 w _ _ _ _)
  have hyl := blk_lt HY.out
  have hpl := blk_lt HP.out
  have HA := Lib.hid (hAll W0 HB0.out)
  clear hAll
  go_enter Tryz.func27, Tryz.ntmps27
  go_wp2_with fail
  go_at_call 59
  rw [← hW0]
  clear hW0
  refine HA.out.mono ?_
  rintro e w1 ⟨v, xs, rfl, -, hb1⟩
  rw [hL]
  have HF := Lib.hid (res_end (W1 := W0) ((hb1.block _ hyl).trans HY.out) (by omega) hyl (DfaO.empty _ _) (HB0.out.trans (hb1.mono HB0.out.size)))
  obtain ⟨⟨⟨z0, k0⟩, ⟨z1, k1⟩, k2, k3⟩, -⟩ := HF.out
  clear hb1
  go_wp2_with fail
  obtain ⟨-, ⟨hc0, hc1⟩, hd, hb⟩ := HF.out
  refine bodyPost_ret (v := .tuple #[.agg #[.slice none 0 0, .slice none 0 0], .bool false]) (by simp [results, Tryz.results27, go_sem, hc0, hc1]) rfl ?_
  exact ⟨_, _, rfl, hd, hb⟩
theorem enters_icat : ∀ args w, (callFunc 61 args).run Tryz.prog w = .ok (.enter 61 args) w := enters_of Tryz.func61 (by kernel_rfl) rfl
theorem enters_ipro : ∀ args w, (callFunc 62 args).run Tryz.prog w = .ok (.enter 62 args) w := enters_of Tryz.func62 (by kernel_rfl) rfl
set_option maxRecDepth 100000 in
set_option maxHeartbeats 3200000 in
theorem icomp_1 (l : ByteArray) (A : Option Addr) (c : Nat) (w : World) (y : Dx) (ok : Bool) (hy : y = rxNone ∧ ok = true)
    (hAll : ∀ W, Below w.heap.size w W → Calls Tryz.prog 59 #[.slice A 0 c] W (AllP [] W))
    (hF : ∀ W, Below w.heap.size w W → Calls Tryz.prog 60 #[.agg #[.int .i64 1, .string l, .slice A 0 c]] W (FormPost (.iface 94 (.agg #[])) W)) :
    Calls Tryz.prog 27 #[.agg #[.int .i64 1, .string l, .slice A 0 c]] w (CopyDB y ok w) := by
  obtain ⟨W0, hW0⟩ : ∃ W0, W0 = (w.alloc (.cells #[.int .i64 1, .string l, .slice A 0 c] 26)).alloc (.cells #[.slice none 0 0, .slice none 0 0] 31) := ⟨_, rfl⟩
  have HB0 : Hid (Below w.heap.size w W0) := Lib.hid (by rw [hW0]; exact ((Below.refl _ _).alloc (Nat.le_refl _) _).alloc (by simp) _)
  have HP : Hid (W0.heap[w.heap.size]? = some (.cells #[.int .i64 1, .string l, .slice A 0 c] 26 (0, 0))) := Lib.hid (by rw [hW0]; exact (Below.heap_alloc _ _ _ (by simp)).trans (heap_alloc_new w _))
  have HY : Hid (W0.heap[w.heap.size + 1]? = some (.cells #[.slice none 0 0, .slice none 0 0] 31 (0, 0))) := Lib.hid (by rw [hW0]; exact three2 w _ _ _ _)
  have hyl := blk_lt HY.out
  have hpl := blk_lt HP.out
  have HA := Lib.hid (hAll W0 HB0.out)
  have HF := Lib.hid (fun (V : World) (hV : Below W0.heap.size W0 V) => hF V (HB0.out.trans (hV.mono HB0.out.size)))
  have py := yes_noneForm
  clear hAll hF
  go_enter Tryz.func27, Tryz.ntmps27
  go_wp2_with fail
  go_at_call 59
  rw [← hW0]
  clear hW0
  refine HA.out.mono ?_
  rintro e w1 ⟨v, xs, rfl, hrow, hb1⟩
  rw [show ([] : List (Dx × Bool)).all (·.2) = true from rfl]
  have hrow := hrow rfl
  obtain ⟨Av, cv, rfl⟩ := rowt_shape hrow.own
  clear hrow
  have HB1 := Lib.hid hb1
  obtain ⟨q0, q1, q2, -, -, -⟩ := three_at HB1.out hpl HP.out
  clear hb1
  go_wp2_with fail
  go_at_call 60
  refine (HF.out w1 HB1.out).mono ?_
  rintro e w2 ⟨rfl, hb2⟩
  have HB2 := Lib.hid (HB1.out.trans (hb2.mono HB1.out.size))
  clear q0 q1 q2 hb2
  obtain ⟨rfl, rfl⟩ := hy
  obtain ⟨W3, hW3⟩ : ∃ W3, W3 = (((w2.alloc (.cells #[] 94)).alloc (.cells #[.bool false] 4)).alloc (.cells #[.int .i64 0, .int .i64 0, .int .i64 0] 3)).alloc (.cells #[.slice (some ⟨w2.heap.size + 1 + 1, 0, none⟩) 3 3] 58) := ⟨_, rfl⟩
  have hb23 : Below w2.heap.size w2 W3 := by
    rw [hW3]
    refine Below.alloc ?_ (by simp; try omega) _
    refine Below.alloc ?_ (by simp; try omega) _
    refine Below.alloc ?_ (by simp; try omega) _
    exact (Below.refl _ _).alloc (Nat.le_refl _) _
  have hz3 : W3.heap.size = w2.heap.size + 1 + 1 + 1 + 1 := by rw [hW3]; simp
  have hD : DfaO W3 (OwnB w2 W3) (.slice (some ⟨w2.heap.size + 1, 0, none⟩) 1 1) (.slice (some ⟨w2.heap.size + 1 + 1 + 1, 0, none⟩) 1 1) rxNone := by
    refine lit_dfa (ta := 4) (tn := 58) (tr := 3) (gs := [w2.heap.size + 1 + 1]) (by rw [hW3]; simp only [al_at, World.size_alloc, bools]; simp) (by rw [hW3]; simp only [al_at, World.size_alloc]; simp) (fun j g r hg hr => ?_) rfl (fun i j g hi hj => ?_) ?_ ?_ (by omega) (by simp) (by simp)
    · match j, hg, hr with
    | 0, hg, hr =>
      cases hg
      cases hr
      exact ⟨by rw [hW3]; simp only [al_at, World.size_alloc, ints]; simp, rfl, ⟨by omega, by omega⟩, by omega, by omega⟩
    | j + 1, hg, hr => simp at hg
    · have h1 := (List.getElem?_eq_some_iff.1 hi).1
      have h2 := (List.getElem?_eq_some_iff.1 hj).1
      simp only [List.length_cons, List.length_nil] at h1 h2
      omega
    · exact ⟨by omega, by omega⟩
    · exact ⟨by omega, by omega⟩
  have HB3 := Lib.hid (HB2.out.trans (hb23.mono HB2.out.size))
  have HF := Lib.hid (res_end ((HB3.out.block _ hyl).trans HY.out) (by omega) (by have := HB2.out.size; omega) hD (HB0.out.trans (HB3.out.mono HB0.out.size)))
  rw [hW3] at HF
  obtain ⟨⟨⟨z0, k0⟩, ⟨z1, k1⟩, k2, k3⟩, -⟩ := HF.out
  clear hW3 hD hb23 hz3
  go_wp2_with fail
  obtain ⟨-, ⟨hc0, hc1⟩, hd, hb⟩ := HF.out
  refine bodyPost_ret (v := .tuple #[.agg #[.slice (some ⟨w2.heap.size + 1, 0, none⟩) 1 1, .slice (some ⟨w2.heap.size + 1 + 1 + 1, 0, none⟩) 1 1], .bool true]) (by simp [results, Tryz.results27, go_sem, hc0, hc1]) rfl ?_
  exact ⟨_, _, rfl, hd, hb⟩
set_option maxRecDepth 100000 in
set_option maxHeartbeats 3200000 in
theorem icomp_2 (l : ByteArray) (A : Option Addr) (c : Nat) (w : World) (y : Dx) (ok : Bool) (hy : wordR (⟨#[]⟩ : ByteArray).data.toList y ok) (hs : (⟨#[]⟩ : ByteArray).size ≤ 30)
    (hAll : ∀ W, Below w.heap.size w W → Calls Tryz.prog 59 #[.slice A 0 c] W (AllP [] W))
    (hF : ∀ W, Below w.heap.size w W → Calls Tryz.prog 60 #[.agg #[.int .i64 2, .string l, .slice A 0 c]] W (FormPost (.iface 95 (.agg #[])) W)) :
    Calls Tryz.prog 27 #[.agg #[.int .i64 2, .string l, .slice A 0 c]] w (CopyDB y ok w) := by
  obtain ⟨W0, hW0⟩ : ∃ W0, W0 = (w.alloc (.cells #[.int .i64 2, .string l, .slice A 0 c] 26)).alloc (.cells #[.slice none 0 0, .slice none 0 0] 31) := ⟨_, rfl⟩
  have HB0 : Hid (Below w.heap.size w W0) := Lib.hid (by rw [hW0]; exact ((Below.refl _ _).alloc (Nat.le_refl _) _).alloc (by simp) _)
  have HP : Hid (W0.heap[w.heap.size]? = some (.cells #[.int .i64 2, .string l, .slice A 0 c] 26 (0, 0))) := Lib.hid (by rw [hW0]; exact (Below.heap_alloc _ _ _ (by simp)).trans (heap_alloc_new w _))
  have HY : Hid (W0.heap[w.heap.size + 1]? = some (.cells #[.slice none 0 0, .slice none 0 0] 31 (0, 0))) := Lib.hid (by rw [hW0]; exact three2 w _ _ _ _)
  have hyl := blk_lt HY.out
  have hpl := blk_lt HP.out
  have HA := Lib.hid (hAll W0 HB0.out)
  have HF := Lib.hid (fun (V : World) (hV : Below W0.heap.size W0 V) => hF V (HB0.out.trans (hV.mono HB0.out.size)))
  have p0 := no_noneForm
  have py := yes_emptyForm
  clear hAll hF
  go_enter Tryz.func27, Tryz.ntmps27
  go_wp2_with fail
  go_at_call 59
  rw [← hW0]
  clear hW0
  refine HA.out.mono ?_
  rintro e w1 ⟨v, xs, rfl, hrow, hb1⟩
  rw [show ([] : List (Dx × Bool)).all (·.2) = true from rfl]
  have hrow := hrow rfl
  obtain ⟨Av, cv, rfl⟩ := rowt_shape hrow.own
  clear hrow
  have HB1 := Lib.hid hb1
  obtain ⟨q0, q1, q2, -, -, -⟩ := three_at HB1.out hpl HP.out
  clear hb1
  go_wp2_with fail
  go_at_call 60
  refine (HF.out w1 HB1.out).mono ?_
  rintro e w2 ⟨rfl, hb2⟩
  have HB2 := Lib.hid (HB1.out.trans (hb2.mono HB1.out.size))
  clear q0 q1 q2 hb2
  obtain ⟨W3, hW3⟩ : ∃ W3, W3 = w2.alloc (.cells #[] 95) := ⟨_, rfl⟩
  have hb23 : Below w2.heap.size w2 W3 := by rw [hW3]; exact (Below.refl _ _).alloc (Nat.le_refl _) _
  have HB3 := Lib.hid (HB2.out.trans (hb23.mono HB2.out.size))
  have HC := Lib.hid (implWd_any (⟨#[]⟩ : ByteArray) (by unfold maxLen; omega) y ok hy W3)
  have hz3 := HB3.out.size
  clear hb23 hy
  go_wp2_with fail
  go_at_call 14
  rw [← hW3]
  clear hW3
  refine HC.out.mono ?_
  rintro e w4 hcd
  obtain ⟨A5, p5, A6, p6, rfl, hoo, hb4⟩ := hcd.shape
  have HF := Lib.hid (res_end ((hb4.block _ (by omega)).trans ((HB3.out.block _ hyl).trans HY.out)) (by omega) (by omega) hoo (HB0.out.trans ((HB3.out.trans (hb4.mono hz3)).mono HB0.out.size)))
  obtain ⟨⟨⟨z0, k0⟩, ⟨z1, k1⟩, k2, k3⟩, -⟩ := HF.out
  clear hcd hoo hb4
  go_wp2_with fail
  obtain ⟨-, ⟨hc0, hc1⟩, hd, hb⟩ := HF.out
  refine bodyPost_ret (v := .tuple #[.agg #[.slice A5 y.acc.length p5, .slice A6 y.nxt.length p6], .bool ok]) (by simp [results, Tryz.results27, go_sem, hc0, hc1]) rfl ?_
  exact ⟨_, _, rfl, hd, hb⟩
set_option maxRecDepth 100000 in
set_option maxHeartbeats 3200000 in
theorem icomp_3 (l : ByteArray) (A : Option Addr) (c : Nat) (w : World) (y : Dx) (ok : Bool) (hy : wordR l.data.toList y ok) (hs : l.size ≤ 30)
    (hAll : ∀ W, Below w.heap.size w W → Calls Tryz.prog 59 #[.slice A 0 c] W (AllP [] W))
    (hF : ∀ W, Below w.heap.size w W → Calls Tryz.prog 60 #[.agg #[.int .i64 3, .string l, .slice A 0 c]] W (FormPost (.iface 97 (.agg #[.string l])) W)) :
    Calls Tryz.prog 27 #[.agg #[.int .i64 3, .string l, .slice A 0 c]] w (CopyDB y ok w) := by
  obtain ⟨W0, hW0⟩ : ∃ W0, W0 = (w.alloc (.cells #[.int .i64 3, .string l, .slice A 0 c] 26)).alloc (.cells #[.slice none 0 0, .slice none 0 0] 31) := ⟨_, rfl⟩
  have HB0 : Hid (Below w.heap.size w W0) := Lib.hid (by rw [hW0]; exact ((Below.refl _ _).alloc (Nat.le_refl _) _).alloc (by simp) _)
  have HP : Hid (W0.heap[w.heap.size]? = some (.cells #[.int .i64 3, .string l, .slice A 0 c] 26 (0, 0))) := Lib.hid (by rw [hW0]; exact (Below.heap_alloc _ _ _ (by simp)).trans (heap_alloc_new w _))
  have HY : Hid (W0.heap[w.heap.size + 1]? = some (.cells #[.slice none 0 0, .slice none 0 0] 31 (0, 0))) := Lib.hid (by rw [hW0]; exact three2 w _ _ _ _)
  have hyl := blk_lt HY.out
  have hpl := blk_lt HP.out
  have HA := Lib.hid (hAll W0 HB0.out)
  have HF := Lib.hid (fun (V : World) (hV : Below W0.heap.size W0 V) => hF V (HB0.out.trans (hV.mono HB0.out.size)))
  have p0 := no_noneForm
  have p1 := no_emptyForm
  have py := yes_letterForm
  clear hAll hF
  go_enter Tryz.func27, Tryz.ntmps27
  go_wp2_with fail
  go_at_call 59
  rw [← hW0]
  clear hW0
  refine HA.out.mono ?_
  rintro e w1 ⟨v, xs, rfl, hrow, hb1⟩
  rw [show ([] : List (Dx × Bool)).all (·.2) = true from rfl]
  have hrow := hrow rfl
  obtain ⟨Av, cv, rfl⟩ := rowt_shape hrow.own
  clear hrow
  have HB1 := Lib.hid hb1
  obtain ⟨q0, q1, q2, -, -, -⟩ := three_at HB1.out hpl HP.out
  clear hb1
  go_wp2_with fail
  go_at_call 60
  refine (HF.out w1 HB1.out).mono ?_
  rintro e w2 ⟨rfl, hb2⟩
  have HB2 := Lib.hid (HB1.out.trans (hb2.mono HB1.out.size))
  clear q0 q1 q2 hb2
  obtain ⟨W3, hW3⟩ : ∃ W3, W3 = w2.alloc (.cells #[.string l] 97) := ⟨_, rfl⟩
  have hb23 : Below w2.heap.size w2 W3 := by rw [hW3]; exact (Below.refl _ _).alloc (Nat.le_refl _) _
  have HB3 := Lib.hid (HB2.out.trans (hb23.mono HB2.out.size))
  have HC := Lib.hid (implWd_any l (by unfold maxLen; omega) y ok hy W3)
  have hz3 := HB3.out.size
  clear hb23 hy
  go_wp2_with fail
  go_at_call 14
  rw [← hW3]
  clear hW3
  refine HC.out.mono ?_
  rintro e w4 hcd
  obtain ⟨A5, p5, A6, p6, rfl, hoo, hb4⟩ := hcd.shape
  have HF := Lib.hid (res_end ((hb4.block _ (by omega)).trans ((HB3.out.block _ hyl).trans HY.out)) (by omega) (by omega) hoo (HB0.out.trans ((HB3.out.trans (hb4.mono hz3)).mono HB0.out.size)))
  obtain ⟨⟨⟨z0, k0⟩, ⟨z1, k1⟩, k2, k3⟩, -⟩ := HF.out
  clear hcd hoo hb4
  go_wp2_with fail
  obtain ⟨-, ⟨hc0, hc1⟩, hd, hb⟩ := HF.out
  refine bodyPost_ret (v := .tuple #[.agg #[.slice A5 y.acc.length p5, .slice A6 y.nxt.length p6], .bool ok]) (by simp [results, Tryz.results27, go_sem, hc0, hc1]) rfl ?_
  exact ⟨_, _, rfl, hd, hb⟩
set_option maxRecDepth 100000 in
set_option maxHeartbeats 3200000 in
theorem icomp_4 (l : ByteArray) (A : Option Addr) (c : Nat) (w : World) (y : Dx) (ok : Bool) (hy : y = rxAny ∧ ok = true)
    (hAll : ∀ W, Below w.heap.size w W → Calls Tryz.prog 59 #[.slice A 0 c] W (AllP [] W))
    (hF : ∀ W, Below w.heap.size w W → Calls Tryz.prog 60 #[.agg #[.int .i64 4, .string l, .slice A 0 c]] W (FormPost (.iface 98 (.agg #[])) W)) :
    Calls Tryz.prog 27 #[.agg #[.int .i64 4, .string l, .slice A 0 c]] w (CopyDB y ok w) := by
  obtain ⟨W0, hW0⟩ : ∃ W0, W0 = (w.alloc (.cells #[.int .i64 4, .string l, .slice A 0 c] 26)).alloc (.cells #[.slice none 0 0, .slice none 0 0] 31) := ⟨_, rfl⟩
  have HB0 : Hid (Below w.heap.size w W0) := Lib.hid (by rw [hW0]; exact ((Below.refl _ _).alloc (Nat.le_refl _) _).alloc (by simp) _)
  have HP : Hid (W0.heap[w.heap.size]? = some (.cells #[.int .i64 4, .string l, .slice A 0 c] 26 (0, 0))) := Lib.hid (by rw [hW0]; exact (Below.heap_alloc _ _ _ (by simp)).trans (heap_alloc_new w _))
  have HY : Hid (W0.heap[w.heap.size + 1]? = some (.cells #[.slice none 0 0, .slice none 0 0] 31 (0, 0))) := Lib.hid (by rw [hW0]; exact three2 w _ _ _ _)
  have hyl := blk_lt HY.out
  have hpl := blk_lt HP.out
  have HA := Lib.hid (hAll W0 HB0.out)
  have HF := Lib.hid (fun (V : World) (hV : Below W0.heap.size W0 V) => hF V (HB0.out.trans (hV.mono HB0.out.size)))
  have p0 := no_noneForm
  have p1 := no_emptyForm
  have p2 := no_letterForm
  have py := yes_anyForm
  clear hAll hF
  go_enter Tryz.func27, Tryz.ntmps27
  go_wp2_with fail
  go_at_call 59
  rw [← hW0]
  clear hW0
  refine HA.out.mono ?_
  rintro e w1 ⟨v, xs, rfl, hrow, hb1⟩
  rw [show ([] : List (Dx × Bool)).all (·.2) = true from rfl]
  have hrow := hrow rfl
  obtain ⟨Av, cv, rfl⟩ := rowt_shape hrow.own
  clear hrow
  have HB1 := Lib.hid hb1
  obtain ⟨q0, q1, q2, -, -, -⟩ := three_at HB1.out hpl HP.out
  clear hb1
  go_wp2_with fail
  go_at_call 60
  refine (HF.out w1 HB1.out).mono ?_
  rintro e w2 ⟨rfl, hb2⟩
  have HB2 := Lib.hid (HB1.out.trans (hb2.mono HB1.out.size))
  clear q0 q1 q2 hb2
  obtain ⟨rfl, rfl⟩ := hy
  obtain ⟨W3, hW3⟩ : ∃ W3, W3 = (((((w2.alloc (.cells #[] 98)).alloc (.cells #[.bool false, .bool true, .bool false] 4)).alloc (.cells #[.int .i64 1, .int .i64 1, .int .i64 1] 3)).alloc (.cells #[.int .i64 2, .int .i64 2, .int .i64 2] 3)).alloc (.cells #[.int .i64 2, .int .i64 2, .int .i64 2] 3)).alloc (.cells #[.slice (some ⟨w2.heap.size + 1 + 1, 0, none⟩) 3 3, .slice (some ⟨w2.heap.size + 1 + 1 + 1, 0, none⟩) 3 3, .slice (some ⟨w2.heap.size + 1 + 1 + 1 + 1, 0, none⟩) 3 3] 58) := ⟨_, rfl⟩
  have hb23 : Below w2.heap.size w2 W3 := by
    rw [hW3]
    refine Below.alloc ?_ (by simp; try omega) _
    refine Below.alloc ?_ (by simp; try omega) _
    refine Below.alloc ?_ (by simp; try omega) _
    refine Below.alloc ?_ (by simp; try omega) _
    refine Below.alloc ?_ (by simp; try omega) _
    exact (Below.refl _ _).alloc (Nat.le_refl _) _
  have hz3 : W3.heap.size = w2.heap.size + 1 + 1 + 1 + 1 + 1 + 1 := by rw [hW3]; simp
  have hD : DfaO W3 (OwnB w2 W3) (.slice (some ⟨w2.heap.size + 1, 0, none⟩) 3 3) (.slice (some ⟨w2.heap.size + 1 + 1 + 1 + 1 + 1, 0, none⟩) 3 3) rxAny := by
    refine lit_dfa (ta := 4) (tn := 58) (tr := 3) (gs := [w2.heap.size + 1 + 1, w2.heap.size + 1 + 1 + 1, w2.heap.size + 1 + 1 + 1 + 1]) (by rw [hW3]; simp only [al_at, World.size_alloc, bools]; simp) (by rw [hW3]; simp only [al_at, World.size_alloc]; simp) (fun j g r hg hr => ?_) rfl (fun i j g hi hj => ?_) ?_ ?_ (by omega) (by simp) (by simp)
    · match j, hg, hr with
    | 0, hg, hr =>
      cases hg
      cases hr
      exact ⟨by rw [hW3]; simp only [al_at, World.size_alloc, ints]; simp, rfl, ⟨by omega, by omega⟩, by omega, by omega⟩
    | 1, hg, hr =>
      cases hg
      cases hr
      exact ⟨by rw [hW3]; simp only [al_at, World.size_alloc, ints]; simp, rfl, ⟨by omega, by omega⟩, by omega, by omega⟩
    | 2, hg, hr =>
      cases hg
      cases hr
      exact ⟨by rw [hW3]; simp only [al_at, World.size_alloc, ints]; simp, rfl, ⟨by omega, by omega⟩, by omega, by omega⟩
    | j + 3, hg, hr => simp at hg
    · have h1 := (List.getElem?_eq_some_iff.1 hi).1
      have h2 := (List.getElem?_eq_some_iff.1 hj).1
      simp only [List.length_cons, List.length_nil] at h1 h2
      match i, j, h1, h2, hi, hj with
      | 0, 0, _, _, hi, hj => rfl
      | 0, 1, _, _, hi, hj => cases hi; have := Option.some.inj hj; omega
      | 0, 2, _, _, hi, hj => cases hi; have := Option.some.inj hj; omega
      | 1, 0, _, _, hi, hj => cases hi; have := Option.some.inj hj; omega
      | 1, 1, _, _, hi, hj => rfl
      | 1, 2, _, _, hi, hj => cases hi; have := Option.some.inj hj; omega
      | 2, 0, _, _, hi, hj => cases hi; have := Option.some.inj hj; omega
      | 2, 1, _, _, hi, hj => cases hi; have := Option.some.inj hj; omega
      | 2, 2, _, _, hi, hj => rfl
      | i + 3, _, h1, _, _, _ => omega
      | 0, j + 3, _, h2, _, _ => omega
      | 1, j + 3, _, h2, _, _ => omega
      | 2, j + 3, _, h2, _, _ => omega
    · exact ⟨by omega, by omega⟩
    · exact ⟨by omega, by omega⟩
  have HB3 := Lib.hid (HB2.out.trans (hb23.mono HB2.out.size))
  have HF := Lib.hid (res_end ((HB3.out.block _ hyl).trans HY.out) (by omega) (by have := HB2.out.size; omega) hD (HB0.out.trans (HB3.out.mono HB0.out.size)))
  rw [hW3] at HF
  obtain ⟨⟨⟨z0, k0⟩, ⟨z1, k1⟩, k2, k3⟩, -⟩ := HF.out
  clear hW3 hD hb23 hz3
  go_wp2_with fail
  obtain ⟨-, ⟨hc0, hc1⟩, hd, hb⟩ := HF.out
  refine bodyPost_ret (v := .tuple #[.agg #[.slice (some ⟨w2.heap.size + 1, 0, none⟩) 3 3, .slice (some ⟨w2.heap.size + 1 + 1 + 1 + 1 + 1, 0, none⟩) 3 3], .bool true]) (by simp [results, Tryz.results27, go_sem, hc0, hc1]) rfl ?_
  exact ⟨_, _, rfl, hd, hb⟩
set_option maxRecDepth 100000 in
set_option maxHeartbeats 3200000 in
theorem icomp_5 (l : ByteArray) (g o c : Nat) (k1 : Int) (l1 : ByteArray) (B1 : Option Addr) (n1 e1 : Nat) (k2 : Int) (l2 : ByteArray) (B2 : Option Addr) (n2 e2 : Nat) (y1 y2 : Dx) (w : World) (y : Dx) (ok : Bool) (hy : catR y1 y2 y ok) (hTab : ∀ W, Below w.heap.size w W → Tab W)
    (hAll : ∀ W, Below w.heap.size w W → Calls Tryz.prog 59 #[.slice (some ⟨g, o, none⟩) 2 c] W (AllP [(y1, true), (y2, true)] W))
    (hF : ∀ W, Below w.heap.size w W → Calls Tryz.prog 60 #[.agg #[.int .i64 5, .string l, .slice (some ⟨g, o, none⟩) 2 c]] W (FormPost (.iface 102 (.agg #[.int .i64 k1, .string l1, .slice B1 n1 e1, .int .i64 k2, .string l2, .slice B2 n2 e2])) W)) :
    Calls Tryz.prog 27 #[.agg #[.int .i64 5, .string l, .slice (some ⟨g, o, none⟩) 2 c]] w (CopyDB y ok w) := by
  obtain ⟨W0, hW0⟩ : ∃ W0, W0 = (w.alloc (.cells #[.int .i64 5, .string l, .slice (some ⟨g, o, none⟩) 2 c] 26)).alloc (.cells #[.slice none 0 0, .slice none 0 0] 31) := ⟨_, rfl⟩
  have HB0 : Hid (Below w.heap.size w W0) := Lib.hid (by rw [hW0]; exact ((Below.refl _ _).alloc (Nat.le_refl _) _).alloc (by simp) _)
  have HP : Hid (W0.heap[w.heap.size]? = some (.cells #[.int .i64 5, .string l, .slice (some ⟨g, o, none⟩) 2 c] 26 (0, 0))) := Lib.hid (by rw [hW0]; exact (Below.heap_alloc _ _ _ (by simp)).trans (heap_alloc_new w _))
  have HY : Hid (W0.heap[w.heap.size + 1]? = some (.cells #[.slice none 0 0, .slice none 0 0] 31 (0, 0))) := Lib.hid (by rw [hW0]; exact three2 w _ _ _ _)
  have hyl := blk_lt HY.out
  have hpl := blk_lt HP.out
  have HA := Lib.hid (hAll W0 HB0.out)
  have HF := Lib.hid (fun (V : World) (hV : Below W0.heap.size W0 V) => hF V (HB0.out.trans (hV.mono HB0.out.size)))
  have p0 := no_noneForm
  have p1 := no_emptyForm
  have p2 := no_letterForm
  have p3 := no_anyForm
  have py := yes_catForm
  clear hAll hF
  go_enter Tryz.func27, Tryz.ntmps27
  go_wp2_with fail
  go_at_call 59
  rw [← hW0]
  clear hW0
  refine HA.out.mono ?_
  rintro e w1 ⟨v, xs, rfl, hrow, hb1⟩
  rw [show ([(y1, true), (y2, true)] : List (Dx × Bool)).all (·.2) = true from rfl]
  have hrow := hrow rfl
  have HROW := Lib.hid hrow
  obtain ⟨q, cq, -, -, hv, -⟩ := hrow.at (j := 0) rfl
  have hv : v = .slice (some ⟨q, 0, none⟩) 2 cq := hv
  subst hv
  clear hrow
  have HB1 := Lib.hid hb1
  obtain ⟨q0, q1, q2, -, -, -⟩ := three_at HB1.out hpl HP.out
  clear hb1
  go_wp2_with fail
  go_at_call 60
  refine (HF.out w1 HB1.out).mono ?_
  rintro e w2 ⟨rfl, hb2⟩
  have HB2 := Lib.hid (HB1.out.trans (hb2.mono HB1.out.size))
  have HROW := Lib.hid (HROW.out.below hb2)
  clear q0 q1 q2 hb2
  obtain ⟨W3, hW3⟩ : ∃ W3, W3 = w2.alloc (.cells #[.int .i64 k1, .string l1, .slice B1 n1 e1, .int .i64 k2, .string l2, .slice B2 n2 e2] 102) := ⟨_, rfl⟩
  have hb23 : Below w2.heap.size w2 W3 := by rw [hW3]; exact (Below.refl _ _).alloc (Nat.le_refl _) _
  have HB3 := Lib.hid (HB2.out.trans (hb23.mono HB2.out.size))
  have HROW := Lib.hid (HROW.out.below hb23)
  have hz3 := HB3.out.size
  obtain ⟨q0, q1, q2, -, -, -⟩ := three_at HB3.out hpl HP.out
  obtain ⟨q', cq', a0, b0, hq, -, -, c0, d0, hv0⟩ := HROW.out.at (j := 0) rfl
  obtain rfl : q = q' := by injection hq with h1 _ _; injection h1 with h1; injection h1
  obtain ⟨⟨G0, s0, rfl⟩, H0, t0, rfl⟩ := hv0.shape
  clear hq
  have HV0 := Lib.hid hv0
  clear hv0
  have c0 : W3.cell? ⟨q, 0, none⟩ = some (.slice G0 y1.acc.length s0) := c0
  have d0 : W3.cell? ⟨q, 1, none⟩ = some (.slice H0 y1.nxt.length t0) := d0
  obtain ⟨q', cq', a1, b1, hq, -, -, c1, d1, hv1⟩ := HROW.out.at (j := 1) rfl
  obtain rfl : q = q' := by injection hq with h1 _ _; injection h1 with h1; injection h1
  obtain ⟨⟨G1, s1, rfl⟩, H1, t1, rfl⟩ := hv1.shape
  clear hq
  have HV1 := Lib.hid hv1
  clear hv1
  have c1 : W3.cell? ⟨q, 2, none⟩ = some (.slice G1 y2.acc.length s1) := c1
  have d1 : W3.cell? ⟨q, 3, none⟩ = some (.slice H1 y2.nxt.length t1) := d1
  have HC := Lib.hid (implCat_any _ _ _ _ y1 y2 _ _ y ok W3.drew (HV0.out.mono (fun _ _ => rfl) (fun _ h => h)) (HV1.out.mono (fun _ _ => rfl) (fun _ h => h)) hy (hTab W3.drew (HB0.out.trans (HB3.out.mono HB0.out.size)).drew))
  have HB3d := Lib.hid HB3.out.drew
  have hz3d : W3.drew.heap.size = W3.heap.size := rfl
  rw [hW3] at q0 q1 q2 c0 d0 c1 d1
  clear hb23 hy
  go_wp2_with fail
  rw [← hW3]
  rw [← hW3] at q0 q1 q2 c0 d0 c1 d1
  clear hW3
  go_region_law (refine step_call rfl _ _ _ rfl enters_icat #[.agg #[.slice G0 y1.acc.length s0, .slice H0 y1.nxt.length t0], .agg #[.slice G1 y2.acc.length s1, .slice H1 y2.nxt.length t1]] (by simp [Act.eval]) HC.out ?_; rintro e w4 hcd; obtain ⟨A5, p5, A6, p6, rfl, hoo, hb4⟩ := hcd.shape; have HF := Lib.hid (res_end ((hb4.block _ (by omega)).trans ((HB3d.out.block _ hyl).trans HY.out)) (by omega) (by omega) hoo (HB0.out.trans ((HB3d.out.trans (hb4.mono hz3)).mono HB0.out.size))); obtain ⟨⟨⟨z0, k0⟩, ⟨z1, k1⟩, k2, k3⟩, -⟩ := HF.out; clear hcd hoo hb4; refine ⟨_, rfl, ?_⟩)
  all_goals
    go_wp2_with fail
    obtain ⟨-, ⟨hc0, hc1⟩, hd, hb⟩ := HF.out
    refine bodyPost_ret (v := .tuple #[.agg #[.slice A5 y.acc.length p5, .slice A6 y.nxt.length p6], .bool ok]) (by simp [results, Tryz.results27, go_sem, hc0, hc1]) rfl ?_
    first
      | exact ⟨_, _, rfl, hd, hb⟩
      | exact ⟨_, _, rfl, hd.mono (fun _ _ => rfl) (fun _ h => h) (Nat.le_refl _), hb.drew⟩
set_option maxRecDepth 100000 in
set_option maxHeartbeats 3200000 in
theorem icomp_6 (l : ByteArray) (g o c : Nat) (k1 : Int) (l1 : ByteArray) (B1 : Option Addr) (n1 e1 : Nat) (k2 : Int) (l2 : ByteArray) (B2 : Option Addr) (n2 e2 : Nat) (y1 y2 : Dx) (w : World) (y : Dx) (ok : Bool) (hy : proR y1 y2 6 y ok)
    (hAll : ∀ W, Below w.heap.size w W → Calls Tryz.prog 59 #[.slice (some ⟨g, o, none⟩) 2 c] W (AllP [(y1, true), (y2, true)] W))
    (hF : ∀ W, Below w.heap.size w W → Calls Tryz.prog 60 #[.agg #[.int .i64 6, .string l, .slice (some ⟨g, o, none⟩) 2 c]] W (FormPost (.iface 104 (.agg #[.int .i64 k1, .string l1, .slice B1 n1 e1, .int .i64 k2, .string l2, .slice B2 n2 e2])) W)) :
    Calls Tryz.prog 27 #[.agg #[.int .i64 6, .string l, .slice (some ⟨g, o, none⟩) 2 c]] w (CopyDB y ok w) := by
  obtain ⟨W0, hW0⟩ : ∃ W0, W0 = (w.alloc (.cells #[.int .i64 6, .string l, .slice (some ⟨g, o, none⟩) 2 c] 26)).alloc (.cells #[.slice none 0 0, .slice none 0 0] 31) := ⟨_, rfl⟩
  have HB0 : Hid (Below w.heap.size w W0) := Lib.hid (by rw [hW0]; exact ((Below.refl _ _).alloc (Nat.le_refl _) _).alloc (by simp) _)
  have HP : Hid (W0.heap[w.heap.size]? = some (.cells #[.int .i64 6, .string l, .slice (some ⟨g, o, none⟩) 2 c] 26 (0, 0))) := Lib.hid (by rw [hW0]; exact (Below.heap_alloc _ _ _ (by simp)).trans (heap_alloc_new w _))
  have HY : Hid (W0.heap[w.heap.size + 1]? = some (.cells #[.slice none 0 0, .slice none 0 0] 31 (0, 0))) := Lib.hid (by rw [hW0]; exact three2 w _ _ _ _)
  have hyl := blk_lt HY.out
  have hpl := blk_lt HP.out
  have HA := Lib.hid (hAll W0 HB0.out)
  have HF := Lib.hid (fun (V : World) (hV : Below W0.heap.size W0 V) => hF V (HB0.out.trans (hV.mono HB0.out.size)))
  have p0 := no_noneForm
  have p1 := no_emptyForm
  have p2 := no_letterForm
  have p3 := no_anyForm
  have p4 := no_catForm
  have py := yes_orForm
  have pn := no_andForm
  clear hAll hF
  go_enter Tryz.func27, Tryz.ntmps27
  go_wp2_with fail
  go_at_call 59
  rw [← hW0]
  clear hW0
  refine HA.out.mono ?_
  rintro e w1 ⟨v, xs, rfl, hrow, hb1⟩
  rw [show ([(y1, true), (y2, true)] : List (Dx × Bool)).all (·.2) = true from rfl]
  have hrow := hrow rfl
  have HROW := Lib.hid hrow
  obtain ⟨q, cq, -, -, hv, -⟩ := hrow.at (j := 0) rfl
  have hv : v = .slice (some ⟨q, 0, none⟩) 2 cq := hv
  subst hv
  clear hrow
  have HB1 := Lib.hid hb1
  obtain ⟨q0, q1, q2, -, -, -⟩ := three_at HB1.out hpl HP.out
  clear hb1
  go_wp2_with fail
  go_at_call 60
  refine (HF.out w1 HB1.out).mono ?_
  rintro e w2 ⟨rfl, hb2⟩
  have HB2 := Lib.hid (HB1.out.trans (hb2.mono HB1.out.size))
  have HROW := Lib.hid (HROW.out.below hb2)
  clear q0 q1 q2 hb2
  obtain ⟨W3, hW3⟩ : ∃ W3, W3 = w2 := ⟨_, rfl⟩
  have hb23 : Below w2.heap.size w2 W3 := by rw [hW3]; exact Below.refl _ _
  have HB3 := Lib.hid (HB2.out.trans (hb23.mono HB2.out.size))
  have HROW := Lib.hid (HROW.out.below hb23)
  have hz3 := HB3.out.size
  obtain ⟨q0, q1, q2, -, -, -⟩ := three_at HB3.out hpl HP.out
  obtain ⟨q', cq', a0, b0, hq, -, -, c0, d0, hv0⟩ := HROW.out.at (j := 0) rfl
  obtain rfl : q = q' := by injection hq with h1 _ _; injection h1 with h1; injection h1
  obtain ⟨⟨G0, s0, rfl⟩, H0, t0, rfl⟩ := hv0.shape
  clear hq
  have HV0 := Lib.hid hv0
  clear hv0
  have c0 : W3.cell? ⟨q, 0, none⟩ = some (.slice G0 y1.acc.length s0) := c0
  have d0 : W3.cell? ⟨q, 1, none⟩ = some (.slice H0 y1.nxt.length t0) := d0
  obtain ⟨q', cq', a1, b1, hq, -, -, c1, d1, hv1⟩ := HROW.out.at (j := 1) rfl
  obtain rfl : q = q' := by injection hq with h1 _ _; injection h1 with h1; injection h1
  obtain ⟨⟨G1, s1, rfl⟩, H1, t1, rfl⟩ := hv1.shape
  clear hq
  have HV1 := Lib.hid hv1
  clear hv1
  have c1 : W3.cell? ⟨q, 2, none⟩ = some (.slice G1 y2.acc.length s1) := c1
  have d1 : W3.cell? ⟨q, 3, none⟩ = some (.slice H1 y2.nxt.length t1) := d1
  have HC := Lib.hid (implPro_any _ _ _ _ y1 y2 _ _ 6 y ok W3.drew (HV0.out.mono (fun _ _ => rfl) (fun _ h => h)) (HV1.out.mono (fun _ _ => rfl) (fun _ h => h)) hy)
  have HB3d := Lib.hid HB3.out.drew
  have hz3d : W3.drew.heap.size = W3.heap.size := rfl
  rw [hW3] at q0 q1 q2 c0 d0 c1 d1
  clear hb23 hy
  go_wp2_with fail
  rw [← hW3]
  rw [← hW3] at q0 q1 q2 c0 d0 c1 d1
  clear hW3
  go_region_law (refine step_call rfl _ _ _ rfl enters_ipro #[.agg #[.slice G0 y1.acc.length s0, .slice H0 y1.nxt.length t0], .agg #[.slice G1 y2.acc.length s1, .slice H1 y2.nxt.length t1], .int .i64 6] (by simp [Act.eval]) HC.out ?_; rintro e w4 hcd; obtain ⟨A5, p5, A6, p6, rfl, hoo, hb4⟩ := hcd.shape; have HF := Lib.hid (res_end ((hb4.block _ (by omega)).trans ((HB3d.out.block _ hyl).trans HY.out)) (by omega) (by omega) hoo (HB0.out.trans ((HB3d.out.trans (hb4.mono hz3)).mono HB0.out.size))); obtain ⟨⟨⟨z0, k0⟩, ⟨z1, k1⟩, k2, k3⟩, -⟩ := HF.out; clear hcd hoo hb4; refine ⟨_, rfl, ?_⟩)
  all_goals
    go_wp2_with fail
    obtain ⟨-, ⟨hc0, hc1⟩, hd, hb⟩ := HF.out
    refine bodyPost_ret (v := .tuple #[.agg #[.slice A5 y.acc.length p5, .slice A6 y.nxt.length p6], .bool ok]) (by simp [results, Tryz.results27, go_sem, hc0, hc1]) rfl ?_
    first
      | exact ⟨_, _, rfl, hd, hb⟩
      | exact ⟨_, _, rfl, hd.mono (fun _ _ => rfl) (fun _ h => h) (Nat.le_refl _), hb.drew⟩
set_option maxRecDepth 100000 in
set_option maxHeartbeats 3200000 in
theorem icomp_7 (l : ByteArray) (g o c : Nat) (k1 : Int) (l1 : ByteArray) (B1 : Option Addr) (n1 e1 : Nat) (k2 : Int) (l2 : ByteArray) (B2 : Option Addr) (n2 e2 : Nat) (y1 y2 : Dx) (w : World) (y : Dx) (ok : Bool) (hy : proR y1 y2 7 y ok)
    (hAll : ∀ W, Below w.heap.size w W → Calls Tryz.prog 59 #[.slice (some ⟨g, o, none⟩) 2 c] W (AllP [(y1, true), (y2, true)] W))
    (hF : ∀ W, Below w.heap.size w W → Calls Tryz.prog 60 #[.agg #[.int .i64 7, .string l, .slice (some ⟨g, o, none⟩) 2 c]] W (FormPost (.iface 105 (.agg #[.int .i64 k1, .string l1, .slice B1 n1 e1, .int .i64 k2, .string l2, .slice B2 n2 e2])) W)) :
    Calls Tryz.prog 27 #[.agg #[.int .i64 7, .string l, .slice (some ⟨g, o, none⟩) 2 c]] w (CopyDB y ok w) := by
  obtain ⟨W0, hW0⟩ : ∃ W0, W0 = (w.alloc (.cells #[.int .i64 7, .string l, .slice (some ⟨g, o, none⟩) 2 c] 26)).alloc (.cells #[.slice none 0 0, .slice none 0 0] 31) := ⟨_, rfl⟩
  have HB0 : Hid (Below w.heap.size w W0) := Lib.hid (by rw [hW0]; exact ((Below.refl _ _).alloc (Nat.le_refl _) _).alloc (by simp) _)
  have HP : Hid (W0.heap[w.heap.size]? = some (.cells #[.int .i64 7, .string l, .slice (some ⟨g, o, none⟩) 2 c] 26 (0, 0))) := Lib.hid (by rw [hW0]; exact (Below.heap_alloc _ _ _ (by simp)).trans (heap_alloc_new w _))
  have HY : Hid (W0.heap[w.heap.size + 1]? = some (.cells #[.slice none 0 0, .slice none 0 0] 31 (0, 0))) := Lib.hid (by rw [hW0]; exact three2 w _ _ _ _)
  have hyl := blk_lt HY.out
  have hpl := blk_lt HP.out
  have HA := Lib.hid (hAll W0 HB0.out)
  have HF := Lib.hid (fun (V : World) (hV : Below W0.heap.size W0 V) => hF V (HB0.out.trans (hV.mono HB0.out.size)))
  have p0 := no_noneForm
  have p1 := no_emptyForm
  have p2 := no_letterForm
  have p3 := no_anyForm
  have p4 := no_catForm
  have p5 := no_orForm
  have py := yes_andForm
  clear hAll hF
  go_enter Tryz.func27, Tryz.ntmps27
  go_wp2_with fail
  go_at_call 59
  rw [← hW0]
  clear hW0
  refine HA.out.mono ?_
  rintro e w1 ⟨v, xs, rfl, hrow, hb1⟩
  rw [show ([(y1, true), (y2, true)] : List (Dx × Bool)).all (·.2) = true from rfl]
  have hrow := hrow rfl
  have HROW := Lib.hid hrow
  obtain ⟨q, cq, -, -, hv, -⟩ := hrow.at (j := 0) rfl
  have hv : v = .slice (some ⟨q, 0, none⟩) 2 cq := hv
  subst hv
  clear hrow
  have HB1 := Lib.hid hb1
  obtain ⟨q0, q1, q2, -, -, -⟩ := three_at HB1.out hpl HP.out
  clear hb1
  go_wp2_with fail
  go_at_call 60
  refine (HF.out w1 HB1.out).mono ?_
  rintro e w2 ⟨rfl, hb2⟩
  have HB2 := Lib.hid (HB1.out.trans (hb2.mono HB1.out.size))
  have HROW := Lib.hid (HROW.out.below hb2)
  clear q0 q1 q2 hb2
  obtain ⟨W3, hW3⟩ : ∃ W3, W3 = w2 := ⟨_, rfl⟩
  have hb23 : Below w2.heap.size w2 W3 := by rw [hW3]; exact Below.refl _ _
  have HB3 := Lib.hid (HB2.out.trans (hb23.mono HB2.out.size))
  have HROW := Lib.hid (HROW.out.below hb23)
  have hz3 := HB3.out.size
  obtain ⟨q0, q1, q2, -, -, -⟩ := three_at HB3.out hpl HP.out
  obtain ⟨q', cq', a0, b0, hq, -, -, c0, d0, hv0⟩ := HROW.out.at (j := 0) rfl
  obtain rfl : q = q' := by injection hq with h1 _ _; injection h1 with h1; injection h1
  obtain ⟨⟨G0, s0, rfl⟩, H0, t0, rfl⟩ := hv0.shape
  clear hq
  have HV0 := Lib.hid hv0
  clear hv0
  have c0 : W3.cell? ⟨q, 0, none⟩ = some (.slice G0 y1.acc.length s0) := c0
  have d0 : W3.cell? ⟨q, 1, none⟩ = some (.slice H0 y1.nxt.length t0) := d0
  obtain ⟨q', cq', a1, b1, hq, -, -, c1, d1, hv1⟩ := HROW.out.at (j := 1) rfl
  obtain rfl : q = q' := by injection hq with h1 _ _; injection h1 with h1; injection h1
  obtain ⟨⟨G1, s1, rfl⟩, H1, t1, rfl⟩ := hv1.shape
  clear hq
  have HV1 := Lib.hid hv1
  clear hv1
  have c1 : W3.cell? ⟨q, 2, none⟩ = some (.slice G1 y2.acc.length s1) := c1
  have d1 : W3.cell? ⟨q, 3, none⟩ = some (.slice H1 y2.nxt.length t1) := d1
  have HC := Lib.hid (implPro_any _ _ _ _ y1 y2 _ _ 7 y ok W3.drew (HV0.out.mono (fun _ _ => rfl) (fun _ h => h)) (HV1.out.mono (fun _ _ => rfl) (fun _ h => h)) hy)
  have HB3d := Lib.hid HB3.out.drew
  have hz3d : W3.drew.heap.size = W3.heap.size := rfl
  rw [hW3] at q0 q1 q2 c0 d0 c1 d1
  clear hb23 hy
  go_wp2_with fail
  rw [← hW3]
  rw [← hW3] at q0 q1 q2 c0 d0 c1 d1
  clear hW3
  go_region_law (refine step_call rfl _ _ _ rfl enters_ipro #[.agg #[.slice G0 y1.acc.length s0, .slice H0 y1.nxt.length t0], .agg #[.slice G1 y2.acc.length s1, .slice H1 y2.nxt.length t1], .int .i64 7] (by simp [Act.eval]) HC.out ?_; rintro e w4 hcd; obtain ⟨A5, p5, A6, p6, rfl, hoo, hb4⟩ := hcd.shape; have HF := Lib.hid (res_end ((hb4.block _ (by omega)).trans ((HB3d.out.block _ hyl).trans HY.out)) (by omega) (by omega) hoo (HB0.out.trans ((HB3d.out.trans (hb4.mono hz3)).mono HB0.out.size))); obtain ⟨⟨⟨z0, k0⟩, ⟨z1, k1⟩, k2, k3⟩, -⟩ := HF.out; clear hcd hoo hb4; refine ⟨_, rfl, ?_⟩)
  all_goals
    go_wp2_with fail
    obtain ⟨-, ⟨hc0, hc1⟩, hd, hb⟩ := HF.out
    refine bodyPost_ret (v := .tuple #[.agg #[.slice A5 y.acc.length p5, .slice A6 y.nxt.length p6], .bool ok]) (by simp [results, Tryz.results27, go_sem, hc0, hc1]) rfl ?_
    first
      | exact ⟨_, _, rfl, hd, hb⟩
      | exact ⟨_, _, rfl, hd.mono (fun _ _ => rfl) (fun _ h => h) (Nat.le_refl _), hb.drew⟩
set_option maxRecDepth 100000 in
set_option maxHeartbeats 3200000 in
theorem icomp_8 (l : ByteArray) (g o c : Nat) (k1 : Int) (l1 : ByteArray) (B1 : Option Addr) (n1 e1 : Nat) (y1 : Dx) (w : World) (y : Dx) (ok : Bool) (hy : starR y1 y ok) (hTab : ∀ W, Below w.heap.size w W → Tab W)
    (hAll : ∀ W, Below w.heap.size w W → Calls Tryz.prog 59 #[.slice (some ⟨g, o, none⟩) 1 c] W (AllP [(y1, true)] W))
    (hF : ∀ W, Below w.heap.size w W → Calls Tryz.prog 60 #[.agg #[.int .i64 8, .string l, .slice (some ⟨g, o, none⟩) 1 c]] W (FormPost (.iface 110 (.agg #[.int .i64 k1, .string l1, .slice B1 n1 e1])) W)) :
    Calls Tryz.prog 27 #[.agg #[.int .i64 8, .string l, .slice (some ⟨g, o, none⟩) 1 c]] w (CopyDB y ok w) := by
  obtain ⟨W0, hW0⟩ : ∃ W0, W0 = (w.alloc (.cells #[.int .i64 8, .string l, .slice (some ⟨g, o, none⟩) 1 c] 26)).alloc (.cells #[.slice none 0 0, .slice none 0 0] 31) := ⟨_, rfl⟩
  have HB0 : Hid (Below w.heap.size w W0) := Lib.hid (by rw [hW0]; exact ((Below.refl _ _).alloc (Nat.le_refl _) _).alloc (by simp) _)
  have HP : Hid (W0.heap[w.heap.size]? = some (.cells #[.int .i64 8, .string l, .slice (some ⟨g, o, none⟩) 1 c] 26 (0, 0))) := Lib.hid (by rw [hW0]; exact (Below.heap_alloc _ _ _ (by simp)).trans (heap_alloc_new w _))
  have HY : Hid (W0.heap[w.heap.size + 1]? = some (.cells #[.slice none 0 0, .slice none 0 0] 31 (0, 0))) := Lib.hid (by rw [hW0]; exact three2 w _ _ _ _)
  have hyl := blk_lt HY.out
  have hpl := blk_lt HP.out
  have HA := Lib.hid (hAll W0 HB0.out)
  have HF := Lib.hid (fun (V : World) (hV : Below W0.heap.size W0 V) => hF V (HB0.out.trans (hV.mono HB0.out.size)))
  have p0 := no_noneForm
  have p1 := no_emptyForm
  have p2 := no_letterForm
  have p3 := no_anyForm
  have p4 := no_catForm
  have p5 := no_orForm
  have p6 := no_andForm
  have py := yes_starForm
  clear hAll hF
  go_enter Tryz.func27, Tryz.ntmps27
  go_wp2_with fail
  go_at_call 59
  rw [← hW0]
  clear hW0
  refine HA.out.mono ?_
  rintro e w1 ⟨v, xs, rfl, hrow, hb1⟩
  rw [show ([(y1, true)] : List (Dx × Bool)).all (·.2) = true from rfl]
  have hrow := hrow rfl
  have HROW := Lib.hid hrow
  obtain ⟨q, cq, -, -, hv, -⟩ := hrow.at (j := 0) rfl
  have hv : v = .slice (some ⟨q, 0, none⟩) 1 cq := hv
  subst hv
  clear hrow
  have HB1 := Lib.hid hb1
  obtain ⟨q0, q1, q2, -, -, -⟩ := three_at HB1.out hpl HP.out
  clear hb1
  go_wp2_with fail
  go_at_call 60
  refine (HF.out w1 HB1.out).mono ?_
  rintro e w2 ⟨rfl, hb2⟩
  have HB2 := Lib.hid (HB1.out.trans (hb2.mono HB1.out.size))
  have HROW := Lib.hid (HROW.out.below hb2)
  clear q0 q1 q2 hb2
  obtain ⟨W3, hW3⟩ : ∃ W3, W3 = w2.alloc (.cells #[.int .i64 k1, .string l1, .slice B1 n1 e1] 110) := ⟨_, rfl⟩
  have hb23 : Below w2.heap.size w2 W3 := by rw [hW3]; exact (Below.refl _ _).alloc (Nat.le_refl _) _
  have HB3 := Lib.hid (HB2.out.trans (hb23.mono HB2.out.size))
  have HROW := Lib.hid (HROW.out.below hb23)
  have hz3 := HB3.out.size
  obtain ⟨q0, q1, q2, -, -, -⟩ := three_at HB3.out hpl HP.out
  obtain ⟨q', cq', a0, b0, hq, -, -, c0, d0, hv0⟩ := HROW.out.at (j := 0) rfl
  obtain rfl : q = q' := by injection hq with h1 _ _; injection h1 with h1; injection h1
  obtain ⟨⟨G0, s0, rfl⟩, H0, t0, rfl⟩ := hv0.shape
  clear hq
  have HV0 := Lib.hid hv0
  clear hv0
  have c0 : W3.cell? ⟨q, 0, none⟩ = some (.slice G0 y1.acc.length s0) := c0
  have d0 : W3.cell? ⟨q, 1, none⟩ = some (.slice H0 y1.nxt.length t0) := d0
  have HC := Lib.hid (implStar_any _ _ y1 _ y ok W3 HV0.out hy (hTab W3 (HB0.out.trans (HB3.out.mono HB0.out.size))))
  rw [hW3] at q0 q1 q2 c0 d0
  clear hb23 hy
  go_wp2_with fail
  go_at_call 63
  rw [← hW3]
  clear hW3 q0 q1 q2 c0 d0
  refine HC.out.mono ?_
  rintro e w4 hcd
  obtain ⟨A5, p5, A6, p6, rfl, hoo, hb4⟩ := hcd.shape
  have HF := Lib.hid (res_end ((hb4.block _ (by omega)).trans ((HB3.out.block _ hyl).trans HY.out)) (by omega) (by omega) hoo (HB0.out.trans ((HB3.out.trans (hb4.mono hz3)).mono HB0.out.size)))
  obtain ⟨⟨⟨z0, k0⟩, ⟨z1, k1⟩, k2, k3⟩, -⟩ := HF.out
  clear hcd hoo hb4
  go_wp2_with fail
  obtain ⟨-, ⟨hc0, hc1⟩, hd, hb⟩ := HF.out
  refine bodyPost_ret (v := .tuple #[.agg #[.slice A5 y.acc.length p5, .slice A6 y.nxt.length p6], .bool ok]) (by simp [results, Tryz.results27, go_sem, hc0, hc1]) rfl ?_
  exact ⟨_, _, rfl, hd, hb⟩
set_option maxRecDepth 100000 in
set_option maxHeartbeats 3200000 in
theorem icomp_9 (l : ByteArray) (g o c : Nat) (k1 : Int) (l1 : ByteArray) (B1 : Option Addr) (n1 e1 : Nat) (y1 : Dx) (w : World) (y : Dx) (ok : Bool) (z : Dx) (hy : minR y1 z ∧ y = comD z ∧ ok = true)
    (hAll : ∀ W, Below w.heap.size w W → Calls Tryz.prog 59 #[.slice (some ⟨g, o, none⟩) 1 c] W (AllP [(y1, true)] W))
    (hF : ∀ W, Below w.heap.size w W → Calls Tryz.prog 60 #[.agg #[.int .i64 9, .string l, .slice (some ⟨g, o, none⟩) 1 c]] W (FormPost (.iface 112 (.agg #[.int .i64 k1, .string l1, .slice B1 n1 e1])) W)) :
    Calls Tryz.prog 27 #[.agg #[.int .i64 9, .string l, .slice (some ⟨g, o, none⟩) 1 c]] w (CopyDB y ok w) := by
  obtain ⟨W0, hW0⟩ : ∃ W0, W0 = (w.alloc (.cells #[.int .i64 9, .string l, .slice (some ⟨g, o, none⟩) 1 c] 26)).alloc (.cells #[.slice none 0 0, .slice none 0 0] 31) := ⟨_, rfl⟩
  have HB0 : Hid (Below w.heap.size w W0) := Lib.hid (by rw [hW0]; exact ((Below.refl _ _).alloc (Nat.le_refl _) _).alloc (by simp) _)
  have HP : Hid (W0.heap[w.heap.size]? = some (.cells #[.int .i64 9, .string l, .slice (some ⟨g, o, none⟩) 1 c] 26 (0, 0))) := Lib.hid (by rw [hW0]; exact (Below.heap_alloc _ _ _ (by simp)).trans (heap_alloc_new w _))
  have HY : Hid (W0.heap[w.heap.size + 1]? = some (.cells #[.slice none 0 0, .slice none 0 0] 31 (0, 0))) := Lib.hid (by rw [hW0]; exact three2 w _ _ _ _)
  have hyl := blk_lt HY.out
  have hpl := blk_lt HP.out
  have HA := Lib.hid (hAll W0 HB0.out)
  have HF := Lib.hid (fun (V : World) (hV : Below W0.heap.size W0 V) => hF V (HB0.out.trans (hV.mono HB0.out.size)))
  have p0 := no_noneForm
  have p1 := no_emptyForm
  have p2 := no_letterForm
  have p3 := no_anyForm
  have p4 := no_catForm
  have p5 := no_orForm
  have p6 := no_andForm
  have p7 := no_starForm
  have py := yes_notForm
  clear hAll hF
  go_enter Tryz.func27, Tryz.ntmps27
  go_wp2_with fail
  go_at_call 59
  rw [← hW0]
  clear hW0
  refine HA.out.mono ?_
  rintro e w1 ⟨v, xs, rfl, hrow, hb1⟩
  rw [show ([(y1, true)] : List (Dx × Bool)).all (·.2) = true from rfl]
  have hrow := hrow rfl
  have HROW := Lib.hid hrow
  obtain ⟨q, cq, -, -, hv, -⟩ := hrow.at (j := 0) rfl
  have hv : v = .slice (some ⟨q, 0, none⟩) 1 cq := hv
  subst hv
  clear hrow
  have HB1 := Lib.hid hb1
  obtain ⟨q0, q1, q2, -, -, -⟩ := three_at HB1.out hpl HP.out
  clear hb1
  go_wp2_with fail
  go_at_call 60
  refine (HF.out w1 HB1.out).mono ?_
  rintro e w2 ⟨rfl, hb2⟩
  have HB2 := Lib.hid (HB1.out.trans (hb2.mono HB1.out.size))
  have HROW := Lib.hid (HROW.out.below hb2)
  clear q0 q1 q2 hb2
  obtain ⟨W3, hW3⟩ : ∃ W3, W3 = w2.alloc (.cells #[.int .i64 k1, .string l1, .slice B1 n1 e1] 112) := ⟨_, rfl⟩
  have hb23 : Below w2.heap.size w2 W3 := by rw [hW3]; exact (Below.refl _ _).alloc (Nat.le_refl _) _
  have HB3 := Lib.hid (HB2.out.trans (hb23.mono HB2.out.size))
  have HROW := Lib.hid (HROW.out.below hb23)
  have hz3 := HB3.out.size
  obtain ⟨q0, q1, q2, -, -, -⟩ := three_at HB3.out hpl HP.out
  obtain ⟨q', cq', a0, b0, hq, -, -, c0, d0, hv0⟩ := HROW.out.at (j := 0) rfl
  obtain rfl : q = q' := by injection hq with h1 _ _; injection h1 with h1; injection h1
  obtain ⟨⟨G0, s0, rfl⟩, H0, t0, rfl⟩ := hv0.shape
  clear hq
  have HV0 := Lib.hid hv0
  clear hv0
  have c0 : W3.cell? ⟨q, 0, none⟩ = some (.slice G0 y1.acc.length s0) := c0
  have d0 : W3.cell? ⟨q, 1, none⟩ = some (.slice H0 y1.nxt.length t0) := d0
  have HC := Lib.hid (implCom_any _ _ y1 z _ W3 HV0.out hy.1)
  obtain ⟨-, rfl, rfl⟩ := hy
  rw [hW3] at q0 q1 q2 c0 d0
  clear hb23
  go_wp2_with fail
  go_at_call 64
  rw [← hW3]
  clear hW3 q0 q1 q2 c0 d0
  refine HC.out.mono ?_
  rintro e w4 hcd
  obtain ⟨A5, p5, A6, p6, rfl, hoo, hb4⟩ := hcd.shape
  have HF := Lib.hid (res_end ((hb4.block _ (by omega)).trans ((HB3.out.block _ hyl).trans HY.out)) (by omega) (by omega) hoo (HB0.out.trans ((HB3.out.trans (hb4.mono hz3)).mono HB0.out.size)))
  obtain ⟨⟨⟨z0, k0⟩, ⟨z1, k1⟩, k2, k3⟩, -⟩ := HF.out
  clear hcd hoo hb4
  go_wp2_with fail
  obtain ⟨-, ⟨hc0, hc1⟩, hd, hb⟩ := HF.out
  refine bodyPost_ret (v := .tuple #[.agg #[.slice A5 (comD z).acc.length p5, .slice A6 (comD z).nxt.length p6], .bool true]) (by simp [results, Tryz.results27, go_sem, hc0, hc1]) rfl ?_
  exact ⟨_, _, rfl, hd, hb⟩
end Go.Proofs.YthmfncklepkddaaGreatDoor

/-
  What spec.MinimizeDfa answers.
  What spec.ComplementDfa answers.
-/
namespace Go.Proofs.YthmfncklepkddaaGreatDoor
open Go.RowKit

set_option maxRecDepth 100000 in
set_option maxHeartbeats 3200000 in
theorem specMinD_any (va vn : Value) (d y : Dx) (S : Nat → Prop) (w : World) (h : DfaV w S va vn d) (hy : minR d y) :
    Calls Tryz.prog 119 #[.agg #[va, vn]] w (CopyD y w) := by
  obtain ⟨⟨A, c, hA⟩, A', c', hA'⟩ := h.shape
  subst hA
  subst hA'
  obtain ⟨p, hp⟩ : ∃ p, p = d.acc.length := ⟨_, rfl⟩
  obtain ⟨p', hp'⟩ : ∃ p', p' = d.nxt.length := ⟨_, rfl⟩
  rw [← hp, ← hp'] at h ⊢
  obtain ⟨W0, hW0⟩ : ∃ W0, W0 = (w.alloc (.cells #[.slice A p c, .slice A' p' c'] 31)).alloc (.cells #[.slice none 0 0, .slice none 0 0] 31) := ⟨_, rfl⟩
  have HB0 : Hid (Below w.heap.size w W0) := Lib.hid (by rw [hW0]; exact ((Below.refl _ _).alloc (Nat.le_refl _) _).alloc (by simp) _)
  have hx := (by
    have k := box2_kept (w := w) (w1 := W0) (a := .slice A p c) (b := .slice A' p' c') (t := 31) (by rw [hW0]; exact (Below.refl _ _).alloc (by simp) _)
    exact ⟨k.2.1, k.2.2.1⟩ : Bx2 W0 w.heap.size (.slice A p c) (.slice A' p' c'))
  have HX := Lib.hid hx
  have HY : Hid (W0.heap[w.heap.size + 1]? = some (.cells #[.slice none 0 0, .slice none 0 0] 31 (0, 0))) := Lib.hid (by rw [hW0]; exact three2 w _ _ _ _)
  have HV := Lib.hid (specValidD_any (.slice A p c) (.slice A' p' c') d S W0 (h.kept HB0.out))
  obtain ⟨b, hb⟩ : ∃ b, b = validD d := ⟨_, rfl⟩
  rw [← hb] at HV
  obtain ⟨hc00, hc01⟩ := hx
  rw [hW0] at hc00 hc01
  have HH := Lib.hid h
  have HYy := Lib.hid hy
  have HBb := Lib.hid hb
  clear h hy hp hp' hb
  go_enter Tryz.func119, Tryz.ntmps119
  go_wp2_with fail
  go_at_call 120
  rw [← hW0]
  refine HV.out.mono ?_
  rintro e w1 ⟨rfl, hb1⟩
  have HB1 := Lib.hid hb1
  obtain ⟨x0, x1⟩ := HX.out.kept hb1
  obtain ⟨c0, c1, k0, k1⟩ := box2_facts ((hb1.block _ (Array.getElem?_eq_some_iff.1 HY.out).1).trans HY.out)
  clear hc00 hc01 hb1 hW0
  cases b with
  | true =>
    have hv : validD d = true := HBb.out.symm
    obtain ⟨q1, q2, q3⟩ := fieldsOf_au hv
    have hm := HYy.out
    unfold minR at hm
    rw [if_pos hv] at hm
    have HM := Lib.hid (specMin_any (.slice A p c) (.slice A' p' c') (auD d) S w1 q1 (by omega) (by rw [← q3]; exact (HH.out.kept HB0.out).kept HB1.out))
    have HMm := Lib.hid hm
    clear hv q1 q2 q3 hm
    go_wp2_with fail
    refine HM.out.mono ?_
    rintro e w2 ⟨m, m1, m2, m3, hcd⟩
    obtain ⟨m0, n1, n2, n3⟩ := HMm.out
    obtain rfl : y = fieldsOf m := by rw [n3]; exact fields_one n1 m1 (n2.swap m2)
    obtain ⟨A1, q1, A2, q2, rfl, ho, hb2⟩ := hcd.shape
    have HO := Lib.hid ho
    have HB2 := Lib.hid hb2
    have hlt := Nat.lt_of_lt_of_le (Array.getElem?_eq_some_iff.1 HY.out).1 HB1.out.size
    obtain ⟨e0, e1, f0, f1⟩ := box2_facts ((hb2.block _ hlt).trans ((HB1.out.block _ (Array.getElem?_eq_some_iff.1 HY.out).1).trans HY.out))
    obtain ⟨hcl, hsz, hot, hBl⟩ := put2 (k := .slice A1 (fieldsOf m).acc.length q1) (l := .slice A2 (fieldsOf m).nxt.length q2) e0 e1
    obtain ⟨hc0, hc1⟩ := hcl
    have HOt := Lib.hid (And.intro hsz (And.intro hot hBl))
    have HLt := Lib.hid hlt
    clear hsz hot hBl n1 n2 n3 m1 m2 m3 ho hb2 hcd x0 x1 c0 c1 k0 k1 hlt
    go_wp2_with fail
    refine bodyPost_ret (v := .agg #[.slice A1 (fieldsOf m).acc.length q1, .slice A2 (fieldsOf m).nxt.length q2]) (by simp [results, Tryz.results119, go_sem, hc0, hc1]) rfl ?_
    have h0 := HB0.out.size
    have h1 := HB1.out.size
    exact ⟨_, _, rfl, HO.out.mono (fun g hg => HOt.out.2.1 g (by have := hg.1; have := HLt.out; omega)) (fun g hg => ⟨by have := hg.1; omega, by rw [HOt.out.1]; exact hg.2⟩) (by rw [HOt.out.1]; exact Nat.le_refl _), HOt.out.2.2 _ _ (HB0.out.trans ((HB1.out.trans (HB2.out.mono h1)).mono h0)) (Nat.le_succ _)⟩
  | false =>
    have hy := HYy.out
    unfold minR at hy
    rw [← HBb.out, if_neg (by decide)] at hy
    subst hy
    obtain ⟨hcl, hsz, hot, hBl⟩ := put2 (k := .slice none 0 0) (l := .slice none 0 0) c0 c1
    obtain ⟨hc0, hc1⟩ := hcl
    have HOt := Lib.hid hBl
    clear hsz hot hBl x0 x1
    go_wp2_with fail
    refine bodyPost_ret (v := .agg #[.slice none 0 0, .slice none 0 0]) (by simp [results, Tryz.results119, go_sem, hc0, hc1]) rfl ?_
    exact ⟨_, _, rfl, DfaO.empty _ _, HOt.out _ _ (HB0.out.trans (HB1.out.mono HB0.out.size)) (Nat.le_succ _)⟩
end Go.Proofs.YthmfncklepkddaaGreatDoor

namespace Go.Proofs.YthmfncklepkddaaGreatDoor
open Go.RowKit

set_option maxRecDepth 100000 in
set_option maxHeartbeats 3200000 in
theorem specCom_any (va vn : Value) (d y : Dx) (S : Nat → Prop) (w : World) (h : DfaV w S va vn d) (hy : minR d y) :
    Calls Tryz.prog 69 #[.agg #[va, vn]] w (CopyD (comD y) w) := by
  obtain ⟨⟨A, c, hA⟩, A', c', hA'⟩ := h.shape
  subst hA
  subst hA'
  obtain ⟨p, hp⟩ : ∃ p, p = d.acc.length := ⟨_, rfl⟩
  obtain ⟨p', hp'⟩ : ∃ p', p' = d.nxt.length := ⟨_, rfl⟩
  rw [← hp, ← hp'] at h ⊢
  obtain ⟨W0, hW0⟩ : ∃ W0, W0 = (w.alloc (.cells #[.slice A p c, .slice A' p' c'] 31)).alloc (.cells #[.slice none 0 0, .slice none 0 0] 31) := ⟨_, rfl⟩
  have HB0 : Hid (Below w.heap.size w W0) := Lib.hid (by rw [hW0]; exact ((Below.refl _ _).alloc (Nat.le_refl _) _).alloc (by simp) _)
  have hx := (by
    have k := box2_kept (w := w) (w1 := W0) (a := .slice A p c) (b := .slice A' p' c') (t := 31) (by rw [hW0]; exact (Below.refl _ _).alloc (by simp) _)
    exact ⟨k.2.1, k.2.2.1⟩ : Bx2 W0 w.heap.size (.slice A p c) (.slice A' p' c'))
  have HY : Hid (W0.heap[w.heap.size + 1]? = some (.cells #[.slice none 0 0, .slice none 0 0] 31 (0, 0))) := Lib.hid (by rw [hW0]; exact three2 w _ _ _ _)
  have HM := Lib.hid (specMinD_any (.slice A p c) (.slice A' p' c') d y S W0 (h.kept HB0.out) hy)
  obtain ⟨hc00, hc01⟩ := hx
  rw [hW0] at hc00 hc01
  clear h hy hp hp'
  go_enter Tryz.func69, Tryz.ntmps69
  go_wp2_with fail
  go_at_call 119
  rw [← hW0]
  refine HM.out.mono ?_
  rintro e w2 hcd
  obtain ⟨A1, q1, A2, q2, rfl, ⟨Sa, Sn, hoa, hon, hsa, hsn⟩, hb2⟩ := hcd.shape
  clear hc00 hc01 hcd hW0
  obtain ⟨n, hn⟩ : ∃ n, n = y.acc.length := ⟨_, rfl⟩
  obtain ⟨n', hn'⟩ : ∃ n', n' = y.nxt.length := ⟨_, rfl⟩
  have HNn := Lib.hid hn
  have hbn := hoa.1
  rw [bools_length, ← hn] at hbn
  rw [← hn] at hoa ⊢
  rw [← hn'] at hon ⊢
  have h0 := hb2.size
  have h00 := HB0.out.size
  have hlt := (Array.getElem?_eq_some_iff.1 HY.out).1
  have HY2 : Hid (w2.heap[w.heap.size + 1]? = some (.cells #[.slice none 0 0, .slice none 0 0] 31 (0, 0))) := Lib.hid ((hb2.block _ hlt).trans HY.out)
  obtain ⟨Wx, hWx⟩ : ∃ Wx, Wx = w2.alloc (.cells #[.slice A1 n q1, .slice A2 n' q2] 31) := ⟨_, rfl⟩
  have HXB : Hid (Wx.heap[w2.heap.size]? = some (.cells #[.slice A1 n q1, .slice A2 n' q2] 31 (0, 0))) := Lib.hid (by
    rw [hWx]
    exact heap_alloc_new w2 _)
  have HXO : Hid (Below w2.heap.size w2 Wx) := Lib.hid (by
    rw [hWx]
    exact (Below.refl _ _).alloc (Nat.le_refl _) _)
  have HSa := Lib.hid hsa
  have HSn := Lib.hid hsn
  have HOa : Hid (RowO Wx Sa (.slice A1 n q1) (bools (turned y.acc 0))) := Lib.hid (by
    rw [turned_zero]
    exact hoa.mono (fun g hg => HXO.out.block g (hsa g hg).1.2) (fun _ h => h))
  have HOn := Lib.hid hon
  have HB2 := Lib.hid hb2
  clear hoa hon hsa hsn hn hn' hb2 hlt
  go_wp2_with fail
  rw [← hWx]
  clear hWx
  go_loopw [4] (fun iv wr => ∃ i : Nat, iv = .int .i64 i ∧ i ≤ n ∧ Hid (Wx.heap.size = wr.heap.size ∧ (∀ g, ¬ Sa g → wr.heap[g]? = Wx.heap[g]?) ∧ RowO wr Sa (.slice A1 n q1) (bools (turned y.acc i)) ∧ Below w.heap.size w wr)) (fun iv _ => n - (intOf iv).toNat)
  case atStart => exact ⟨0, rfl, Nat.zero_le _, Lib.hid ⟨rfl, fun _ _ => rfl, HOa.out, HB0.out.trans ((HB2.out.trans (HXO.out.mono h0)).mono h00)⟩⟩
  case round =>
    obtain ⟨i, rfl, hi, HR⟩ := hrel
    have hnb : ¬ Sa w2.heap.size := fun e => Nat.lt_irrefl _ (HSa.out _ e).1.2
    obtain ⟨c0, c1, f0, f1⟩ := box2_facts ((HR.out.2.1 _ hnb).trans HXB.out)
    by_cases hlt : i < n
    · have hl : i < y.acc.length := by rw [← HNn.out]; exact hlt
      obtain ⟨g, hg, hsg, hgl, hst⟩ := HR.out.2.2.1.set (j := i) (by rw [bools_length, turned_length]; exact hl)
      subst hg
      obtain ⟨⟨x0, hx0⟩, hf0, hset⟩ := hst wr rfl
      obtain ⟨ad, e, -, hcb⟩ := HR.out.2.2.1.row.boolD (j := i) (by rw [turned_length]; exact hl)
      cases e
      rw [turned_at hl] at hcb
      obtain ⟨b, hb⟩ : ∃ b, b = y.acc.getD i false := ⟨_, rfl⟩
      rw [← hb] at hcb
      have HS := Lib.hid (by
        have k := hset (.bool (!(y.acc.getD i false)))
        rw [turned_step hl, ← hb] at k
        exact k)
      have HG := Lib.hid (And.intro hsg (And.intro (HSa.out g hsg).1.1 hgl))
      rw [show ((⟨g, 0, none⟩ : Addr).add i) = ⟨g, i, none⟩ by rcases i with _ | i <;> simp [Addr.add]] at hcb
      have HL := Lib.hid hlt
      have s1 : (i : Int) < (n : Int) := by omega
      have s2 : (0 : Int) ≤ (i : Int) := by omega
      clear hset hst hx0 hb hsg f0 f1 c1 hl
      go_wp2_with fail
      go_still_tail 10, (by kernel_rfl)
      go_wp2_with fail
      go_roundw
      case rel => exact ⟨i + 1, by go_num, by have := HL.out; omega, Lib.hid ⟨by rw [HR.out.1]; simp [World.setCell], fun h hh => (Below.heap_setCell _ _ _ _ (fun e => hh (by rw [e]; exact HG.out.1))).trans (HR.out.2.1 h hh), HS.out, (HR.out.2.2.2.setCell (p := ⟨g, i, none⟩) (by have := HG.out.2.1; show w.heap.size ≤ g; omega) _).drew⟩⟩
      case measure => have := HL.out; simp [intOf]; omega
    · obtain rfl : i = n := by omega
      have hd : decide ((i : Int) < (i : Int)) = false := by simp
      have hy1 : ¬ Sa (w.heap.size + 1) := fun e => by
        have := (HSa.out _ e).1.1
        have := (Array.getElem?_eq_some_iff.1 HY.out).1
        omega
      obtain ⟨e0, e1, k0, k1⟩ := box2_facts ((HR.out.2.1 _ hy1).trans ((HXO.out.block _ (Array.getElem?_eq_some_iff.1 HY2.out).1).trans HY2.out))
      obtain ⟨hcl, hsz, hot, hBl⟩ := put2 (k := .slice A1 i q1) (l := .slice A2 n' q2) e0 e1
      obtain ⟨hc0, hc1⟩ := hcl
      have HOt := Lib.hid (And.intro hsz (And.intro hot hBl))
      clear hsz hot hBl f0 f1 hnb hy1
      go_wp2_with fail
      refine bodyPost_ret (v := .agg #[.slice A1 i q1, .slice A2 n' q2]) (by simp [results, Tryz.results69, go_sem, hc0, hc1]) rfl ?_
      have hyl := (Array.getElem?_eq_some_iff.1 HY.out).1
      have hWz : w2.heap.size ≤ wr.heap.size := by rw [← HR.out.1]; exact HXO.out.size
      refine ⟨_, _, rfl, ⟨Sa, Sn, ?_, ?_, fun g hg => ⟨⟨by have := (HSa.out g hg).1.1; omega, by rw [HOt.out.1]; have := (HSa.out g hg).1.2; omega⟩, (HSa.out g hg).2⟩, fun g hg => ⟨by have := (HSn.out g hg).1; omega, by rw [HOt.out.1]; have := (HSn.out g hg).2; omega⟩⟩, HOt.out.2.2 _ _ HR.out.2.2.2 (Nat.le_succ _)⟩
      · have k := HR.out.2.2.1.mono (w' := (wr.setCell ⟨w.heap.size + 1, 0, none⟩ (.slice A1 i q1)).setCell ⟨w.heap.size + 1, 1, none⟩ (.slice A2 n' q2)) (S' := Sa) (fun g hg => HOt.out.2.1 g (by have := (HSa.out g hg).1.1; omega)) (fun _ h => h)
        rw [HNn.out, turned_all] at k
        rw [HNn.out]
        exact k
      · exact HOn.out.mono (fun g hg => by
          have h1 := HSn.out g hg
          exact (HOt.out.2.1 g (by have := h1.1; omega)).trans ((HR.out.2.1 g (fun e => (HSa.out g e).2 hg)).trans (HXO.out.block g h1.2))) (fun _ h => h) (by rw [HOt.out.1]; exact hWz)
end Go.Proofs.YthmfncklepkddaaGreatDoor

/-
  What spec.l5Fits answers.
-/
namespace Go.Proofs.YthmfncklepkddaaGreatDoor
open Go.RowKit

set_option maxRecDepth 100000 in
set_option maxHeartbeats 3200000 in
theorem specFits_any (va vn : Value) (a : Au) (S : Nat → Prop) (w : World) (hw : a.wf) (hn : a.n ≤ 2000) (h : DfaV w S va vn (fieldsOf a)) :
    Calls Tryz.prog 125 #[.agg #[va, vn]] w fun e w' => ∃ m, Canon m ∧ Eqv m 0 a 0 ∧ CopyDB (fitD m) (decide (m.n ≤ 40)) w e w' := by
  obtain ⟨⟨A, c, hA⟩, A', c', hA'⟩ := h.shape
  subst hA
  subst hA'
  obtain ⟨p, hp⟩ : ∃ p, p = (fieldsOf a).acc.length := ⟨_, rfl⟩
  obtain ⟨p', hp'⟩ : ∃ p', p' = (fieldsOf a).nxt.length := ⟨_, rfl⟩
  rw [← hp, ← hp'] at h ⊢
  obtain ⟨W0, hW0⟩ : ∃ W0, W0 = (w.alloc (.cells #[.slice A p c, .slice A' p' c'] 31)).alloc (.cells #[.slice none 0 0, .slice none 0 0] 31) := ⟨_, rfl⟩
  have HB0 : Hid (Below w.heap.size w W0) := Lib.hid (by rw [hW0]; exact ((Below.refl _ _).alloc (Nat.le_refl _) _).alloc (by simp) _)
  have hx := (by
    have k := box2_kept (w := w) (w1 := W0) (a := .slice A p c) (b := .slice A' p' c') (t := 31) (by rw [hW0]; exact (Below.refl _ _).alloc (by simp) _)
    exact ⟨k.2.1, k.2.2.1⟩ : Bx2 W0 w.heap.size (.slice A p c) (.slice A' p' c'))
  have HY : Hid (W0.heap[w.heap.size + 1]? = some (.cells #[.slice none 0 0, .slice none 0 0] 31 (0, 0))) := Lib.hid (by rw [hW0]; exact three2 w _ _ _ _)
  have HM := Lib.hid (specMin_any (.slice A p c) (.slice A' p' c') a S W0 hw hn (h.kept HB0.out))
  obtain ⟨hc00, hc01⟩ := hx
  rw [hW0] at hc00 hc01
  clear h hp hp'
  go_enter Tryz.func125, Tryz.ntmps125
  go_wp2_with fail
  go_at_call 144
  rw [← hW0]
  refine HM.out.mono ?_
  rintro e w2 ⟨m, m1, m2, m3, hcd⟩
  obtain ⟨A1, q1, A2, q2, rfl, hoo, hb2⟩ := hcd.shape
  clear hc00 hc01 hcd hW0
  have hv := validD_fields m1.wf
  obtain ⟨n, hn⟩ : ∃ n, n = (fieldsOf m).acc.length := ⟨_, rfl⟩
  obtain ⟨n', hn'⟩ : ∃ n', n' = (fieldsOf m).nxt.length := ⟨_, rfl⟩
  rw [← hn] at hoo ⊢
  rw [← hn'] at hoo ⊢
  have h0 := hb2.size
  have h00 := HB0.out.size
  have hlt := (Array.getElem?_eq_some_iff.1 HY.out).1
  have HY2 : Hid (w2.heap[w.heap.size + 1]? = some (.cells #[.slice none 0 0, .slice none 0 0] 31 (0, 0))) := Lib.hid ((hb2.block _ hlt).trans HY.out)
  obtain ⟨Wx, hWx⟩ : ∃ Wx, Wx = w2.alloc (.cells #[.slice A1 n q1, .slice A2 n' q2] 31) := ⟨_, rfl⟩
  have HXB : Hid (Wx.heap[w2.heap.size]? = some (.cells #[.slice A1 n q1, .slice A2 n' q2] 31 (0, 0))) := Lib.hid (by
    rw [hWx]
    exact heap_alloc_new w2 _)
  have HXO : Hid (Below w2.heap.size w2 Wx) := Lib.hid (by
    rw [hWx]
    exact (Below.refl _ _).alloc (Nat.le_refl _) _)
  obtain ⟨b, hb⟩ : ∃ b, b = decide (m.n ≤ 40) := ⟨_, rfl⟩
  have HV := Lib.hid (specValidD_any (.slice A1 n q1) (.slice A2 n' q2) (fieldsOf m) _ Wx (hoo.dfa.kept HXO.out))
  rw [hv, ← hb] at HV
  have HBb := Lib.hid hb
  have HO := Lib.hid hoo
  have HB2 := Lib.hid hb2
  have HM1 := Lib.hid (And.intro m1 m2)
  obtain ⟨x0, x1, -, -⟩ := box2_facts HXB.out
  rw [hWx] at x0 x1
  clear hoo hn hn' hb2 hlt hb hv m1 m2 m3
  go_wp2_with fail
  go_at_call 120
  rw [← hWx]
  refine HV.out.mono ?_
  rintro e w3 ⟨rfl, hb3⟩
  clear x0 x1 hWx
  have HB3 := Lib.hid hb3
  have hxl := (Array.getElem?_eq_some_iff.1 HXB.out).1
  have hyl := (Array.getElem?_eq_some_iff.1 HY2.out).1
  obtain ⟨x0, x1, -, -⟩ := box2_facts ((hb3.block _ hxl).trans HXB.out)
  obtain ⟨e0, e1, k0, k1⟩ := box2_facts ((hb3.block _ (Nat.lt_of_lt_of_le hyl HXO.out.size)).trans ((HXO.out.block _ hyl).trans HY2.out))
  have HBW : Hid (Below w2.heap.size w2 w3) := Lib.hid (HXO.out.trans (hb3.mono HXO.out.size))
  have hyl0 := (Array.getElem?_eq_some_iff.1 HY.out).1
  clear hb3 hxl hyl
  cases b with
  | true =>
    obtain ⟨hcl, hsz, hot, hBl⟩ := put2 (k := .slice A1 n q1) (l := .slice A2 n' q2) e0 e1
    obtain ⟨hc0, hc1⟩ := hcl
    have HOt := Lib.hid (And.intro hsz (And.intro hot hBl))
    clear hsz hot hBl
    go_wp2_with fail
    refine bodyPost_ret (v := .tuple #[.agg #[.slice A1 n q1, .slice A2 n' q2], .bool true]) (by simp [results, Tryz.results125, go_sem, hc0, hc1]) rfl ?_
    have hb : m.n ≤ 40 := of_decide_eq_true HBb.out.symm
    refine ⟨m, HM1.out.1, HM1.out.2, ?_⟩
    rw [decide_eq_true hb, fitD, if_pos hb]
    exact ⟨_, _, rfl, HO.out.mono (fun g hg => (HOt.out.2.1 g (by have := hg.1; omega)).trans (HBW.out.block g hg.2)) (fun g hg => ⟨by have := hg.1; omega, by rw [HOt.out.1]; have := hg.2; have := HBW.out.size; omega⟩) (by rw [HOt.out.1]; exact HBW.out.size), HOt.out.2.2 _ _ (HB0.out.trans ((HB2.out.trans (HBW.out.mono h0)).mono h00)) (Nat.le_succ _)⟩
  | false =>
    obtain ⟨hcl, hsz, hot, hBl⟩ := put2 (k := .slice none 0 0) (l := .slice none 0 0) e0 e1
    obtain ⟨hc0, hc1⟩ := hcl
    have HOt := Lib.hid (And.intro hsz (And.intro hot hBl))
    clear hsz hot hBl
    go_wp2_with fail
    refine bodyPost_ret (v := .tuple #[.agg #[.slice none 0 0, .slice none 0 0], .bool false]) (by simp [results, Tryz.results125, go_sem, hc0, hc1]) rfl ?_
    have hb : ¬ m.n ≤ 40 := of_decide_eq_false HBb.out.symm
    refine ⟨m, HM1.out.1, HM1.out.2, ?_⟩
    rw [decide_eq_false hb, fitD, if_neg hb]
    exact ⟨_, _, rfl, DfaO.empty _ _, HOt.out.2.2 _ _ (HB0.out.trans ((HB2.out.trans (HBW.out.mono h0)).mono h00)) (Nat.le_succ _)⟩
end Go.Proofs.YthmfncklepkddaaGreatDoor

/-
  What spec.l6Put answers: an ascending list with one more.
-/
namespace Go.Proofs.YthmfncklepkddaaGreatDoor
open Go.RowKit

theorem putS_here : ∀ {s : List Nat} {q i : Nat} (h : i < s.length), (∀ j (hj : j < s.length), j < i → s[j] < q) → s[i] = q → putS s q = s
  | x :: s, q, 0, _, _, e => by
    have e : x = q := e
    subst e
    simp [putS]
  | x :: s, q, i + 1, h, hl, e => by
    have hx : x < q := hl 0 (by simp) (by omega)
    unfold putS
    rw [if_pos hx, putS_here (i := i) (by simpa using h) (fun j hj hji => hl (j + 1) (by simpa using hj) (by omega)) e]
theorem putS_new : ∀ {s : List Nat} {q i : Nat}, i ≤ s.length → (∀ j (hj : j < s.length), j < i → s[j] < q) → (∀ h : i < s.length, q < s[i]) → putS s q = s.take i ++ q :: s.drop i
  | [], q, 0, _, _, _ => rfl
  | x :: s, q, 0, _, _, hg => by
    have hx : q < x := hg (by simp)
    unfold putS
    rw [if_neg (by omega), if_neg (by omega)]
    rfl
  | x :: s, q, i + 1, h, hl, hg => by
    have hx : x < q := hl 0 (by simp) (by omega)
    unfold putS
    rw [if_pos hx, putS_new (i := i) (by simpa using h) (fun j hj hji => hl (j + 1) (by simpa using hj) (by omega)) (fun h' => hg (by simpa using h'))]
    rfl
  | [], q, i + 1, h, _, _ => absurd h (by simp)
theorem ir_cells {w : World} {B g cap : Nat} {l : List Int} (h : IR w B (.slice (some ⟨g, 0, none⟩) l.length cap) l) : l.length ≤ cap ∧ cap ≤ maxLen ∧ ∀ j, (hj : j < l.length) → w.cell? ⟨g, j, none⟩ = some (.int .i64 l[j]) := by
  rcases h.2 with ⟨h0, _⟩ | ⟨g', cap', cur, e, _, hh, h1, h2, _, h3⟩
  · cases h0
  · cases e
    refine ⟨h1, h2, fun j hj => ?_⟩
    rw [cell_of_row w g j cur _ (0, 0) hh]
    have h4 : (ints l)[j]? = some (.int .i64 l[j]) := by simp [ints, hj]
    rw [← h3, List.getElem?_take_of_lt (by omega), Array.getElem?_toList] at h4
    exact h4
theorem ir_some {w : World} {B : Nat} {v : Value} {l : List Int} (h : IR w B v l) (hne : v ≠ .slice none 0 0) : ∃ g cap, v = .slice (some ⟨g, 0, none⟩) l.length cap ∧ B ≤ g ∧ g < w.heap.size := by
  rcases h.2 with ⟨h0, _⟩ | ⟨g', cap', cur, e, h1, hh, _⟩
  · exact absurd h0 hne
  · exact ⟨g', cap', e, h1, blk_lt hh⟩

/-- What l6Put answers. -/
def PutPost (B : Nat) (v : Value) (l : List Int) (w : World) (e : Ending) (w' : World) : Prop :=
  ∃ v', e = .returned v' ∧ IR w' B v' l ∧ v' ≠ .slice none 0 0 ∧ (v'.ownBlock = v.ownBlock ∨ ∃ g, v'.ownBlock = some g ∧ w.heap.size ≤ g) ∧ Below w.heap.size w w'

/-- A row of the call's own that has grown. -/
theorem put_grow {w0 w w' : World} {v v' : Value} {n : Nat} {xs ys : List Value} (hb : Below w0.heap.size w0 w) (h : w.ownsRow w0.heap.size 3 1 v n xs) {n' : Nat} (hown : w'.ownsRow w0.heap.size 3 1 v' n' ys) (hg : w.grownBy w' v.ownBlock) :
    Hid (w'.ownsRow w0.heap.size 3 1 v' n' ys) ∧ Hid (Below w0.heap.size w0 w') :=
  ⟨Lib.hid hown, Lib.hid (hb.grown hg hb.size (fun g e => (h.lt g e).1))⟩
theorem ints_take_at {w : World} {g : Nat} {s : List Nat} (h : ∀ j, (hj : j < s.length) → w.cell? ⟨g, j, none⟩ = some (.int .i64 ((s[j] : Nat) : Int))) (i : Nat) : ∀ (j : Nat) (u : Value), (ints (natI (s.take i)))[j]? = some u → w.cell? ((⟨g, 0, none⟩ : Addr).add j) = some u := by
  intro j u hu
  rw [Addr.add_lit, Nat.zero_add]
  simp only [ints, natI, List.map_map, List.getElem?_map] at hu
  rw [List.getElem?_take] at hu
  split at hu
  · obtain ⟨x, hx, rfl⟩ := Option.map_eq_some_iff.1 hu
    obtain ⟨hj, rfl⟩ := List.getElem?_eq_some_iff.1 hx
    exact h j hj
  · simp at hu
theorem ints_drop_at {w : World} {g : Nat} {s : List Nat} (h : ∀ j, (hj : j < s.length) → w.cell? ⟨g, j, none⟩ = some (.int .i64 ((s[j] : Nat) : Int))) (i : Nat) : ∀ (j : Nat) (u : Value), (ints (natI (s.drop i)))[j]? = some u → w.cell? ((⟨g, i, none⟩ : Addr).add j) = some u := by
  intro j u hu
  rw [Addr.add_lit]
  simp only [ints, natI, List.map_map, List.getElem?_map] at hu
  rw [List.getElem?_drop] at hu
  obtain ⟨x, hx, rfl⟩ := Option.map_eq_some_iff.1 hu
  obtain ⟨hj, rfl⟩ := List.getElem?_eq_some_iff.1 hx
  exact h (i + j) hj
theorem ints_one (l : List Int) : ∀ u ∈ ints l, u.oneCell' = true := fun u hu => by
  obtain ⟨x, _, rfl⟩ := List.mem_map.1 hu
  rfl

theorem put_end {w w' : World} {B : Nat} {v v3 : Value} {n : Nat} {xs : List Value} {t : List Nat} (h : w'.ownsRow w.heap.size 3 1 v3 n xs) (hx : xs = ints (natI t)) (hn : n = t.length) (h0 : 0 < n) (hB : B ≤ w.heap.size) (hb : Below w.heap.size w w') : PutPost B v (natI t) w (.returned v3) w' := by
  subst hx
  obtain ⟨k, rfl⟩ : ∃ k, n = k + 1 := ⟨n - 1, by omega⟩
  obtain ⟨g, cap, rfl⟩ := own_succ h
  refine ⟨_, rfl, ?_, by simp, .inr ⟨g, rfl, (h.lt g rfl).1⟩, hb⟩
  have h2 := own_on (w' := w') h (fun _ _ => rfl) hB
  unfold IR
  rw [natI_length, ← hn]
  exact h2

set_option maxRecDepth 100000 in
set_option maxHeartbeats 3200000 in
theorem specPut_any (B : Nat) (v : Value) (s : List Nat) (q : Nat) (w : World) (h : IR w B v (natI s)) (hne : v ≠ .slice none 0 0) (hs : s.length ≤ 2000) :
    Calls Tryz.prog 123 #[v, .int .i64 (q : Int)] w (PutPost B v (natI (putS s q)) w) := by
  obtain ⟨i0, hi, hz0, hz1, hz2⟩ := info_parts intInfo
  obtain ⟨g, cap, rfl, hBg, hgl⟩ := ir_some h hne
  rw [natI_length] at h ⊢
  obtain ⟨hcap, hcm, hcl⟩ := ir_cells (l := natI s) (by rw [natI_length]; exact h)
  rw [natI_length] at hcap
  have HC : Hid (∀ j, (hj : j < s.length) → w.cell? ⟨g, j, none⟩ = some (.int .i64 ((s[j] : Nat) : Int))) := Lib.hid (fun j hj => by rw [hcl j (by rw [natI_length]; exact hj)]; simp [natI])
  have HR := Lib.hid h
  have HN := Lib.hid (IR.none w (B := w.heap.size) (Nat.le_refl _))
  have HN0 := Lib.hid ((Below.refl w.heap.size w).alloc (Nat.le_refl _) (.cells #[] 3))
  have HK := Lib.hid (fun (V : World) (hV : Below w.heap.size w V) => (fun j (hj : j < s.length) => (hV.cell (cell_in (HC.out j hj))).trans (HC.out j hj)))
  clear h hne hcl
  go_enter Tryz.func123, Tryz.ntmps123
  go_wp2_with fail
  go_loopw [5] (fun iv wr => ∃ i : Nat, iv = .int .i64 i ∧ i ≤ s.length ∧ Hid (∀ j (hj : j < s.length), j < i → s[j] < q) ∧ w = wr) (fun iv _ => s.length - (intOf iv).toNat)
  case atStart => exact ⟨0, rfl, Nat.zero_le _, Lib.hid (fun j _ hj => absurd hj (Nat.not_lt_zero _)), rfl⟩
  case round =>
    obtain ⟨i, rfl, hil, HL, rfl⟩ := hrel
    by_cases hlt : i < s.length
    · have hc := HC.out i hlt
      obtain ⟨x, hx⟩ : ∃ x, x = s[i] := ⟨_, rfl⟩
      rw [← hx] at hc
      have e1 : decide ((i : Int) < (s.length : Int)) = true := by simp; omega
      have e2 : (0 : Int) ≤ (i : Int) := by omega
      have e3 : (i : Int) < (s.length : Int) := by omega
      rcases Nat.lt_trichotomy x q with hxq | hxq | hxq
      · have e4 : decide ((x : Int) < (q : Int)) = true := by simp; omega
        have HL2 : Hid (∀ j (hj : j < s.length), j < i + 1 → s[j] < q) := Lib.hid (fun j hj hji => by
          rcases Nat.lt_or_eq_of_le (Nat.le_of_lt_succ hji) with h | h
          · exact HL.out j hj h
          · subst h; rw [← hx]; exact hxq)
        clear hx
        go_wp2_with fail
        go_round
        case rel => exact ⟨i + 1, by go_num, by omega, HL2, trivial⟩
        case measure => simp [intOf]; omega
      · have e4 : decide ((x : Int) < (q : Int)) = false := by simp; omega
        have e5 : ((x : Int) == (q : Int)) = true := by simp; omega
        have HP := Lib.hid (putS_here hlt HL.out (by rw [← hx]; exact hxq))
        clear hx
        go_wp2_with fail
        go_ret
        exact ⟨_, rfl, by rw [HP.out]; exact HR.out, by simp, .inl rfl, Below.refl _ _⟩
      · have e4 : decide ((x : Int) < (q : Int)) = false := by simp; omega
        have e5 : ((x : Int) == (q : Int)) = false := by simp; omega
        have HP := Lib.hid (putS_new hil HL.out (fun _ => by rw [← hx]; exact hxq))
        clear hx
        have e6 : (i : Int) ≤ (cap : Int) := by omega
        have HT1 : Hid ((ints (natI (s.take i))).length = i * 1) := Lib.hid (by simp [ints, natI]; omega)
        have HT2 := Lib.hid (ints_take_at (HK.out _ HN0.out) i)
        have HT3 := Lib.hid (ints_one (natI (s.take i)))
        go_wp2_with (at_builtin; refine wpList_append_own_at _ rfl (.tmp 34) (.tmp 37) 58 rfl w.heap.size 3 i0 (.int .i64 0) 1 8 Tryz.underlying58 hi hz0 hz1 hz2 rfl (by decide) _ 0 [] rfl HN.out ⟨g, 0, none⟩ i cap (ints (natI (s.take i))) rfl HT1.out HT2.out HT3.out (by unfold maxLen; omega) (by omega) (by simp) ?_)
        intro v1 w1 hown1 hgrow1 hnil1 hat1
        obtain ⟨Q1, HB1⟩ := put_grow HN0.out HN.out hown1 hgrow1
        clear hown1 hgrow1 hnil1 hat1
        go_wp2_with (at_builtin; refine wpList_append_own_at _ rfl (.tmp 39) (.tmp 41) 58 rfl w.heap.size 3 i0 (.int .i64 0) 1 8 Tryz.underlying58 hi hz0 hz1 hz2 rfl (by decide) _ _ _ rfl (Q1.out.alloc _) ⟨w1.heap.size, 0, none⟩ 1 1 [.int .i64 (q : Int)] rfl rfl (cell_one_new _ _ _) (by simp [Value.oneCell']) (by unfold maxLen; omega) (by omega) (by have := HB1.out.size; simp; omega) ?_)
        intro v2 w2 hown2 hgrow2 hnil2 hat2
        obtain ⟨Q2, HB2⟩ := put_grow (HB1.out.alloc HB1.out.size _) (Q1.out.alloc _) hown2 hgrow2
        have HT4 := Lib.hid (ints_drop_at (HK.out _ HB2.out) i)
        clear hown2 hgrow2 hnil2 hat2
        have e7 : (i : Int) ≤ (s.length : Int) := by omega
        have e8 : (s.length : Int) ≤ (cap : Int) := by omega
        have HT5 : Hid ((ints (natI (s.drop i))).length = (s.length - i) * 1) := Lib.hid (by simp [ints, natI])
        have HT6 := Lib.hid (ints_one (natI (s.drop i)))
        go_wp2_with (at_builtin; refine wpList_append_own_at _ rfl (.tmp 43) (.tmp 46) 58 rfl w.heap.size 3 i0 (.int .i64 0) 1 8 Tryz.underlying58 hi hz0 hz1 hz2 rfl (by decide) _ _ _ rfl Q2.out ⟨g, i, none⟩ (s.length - i) (cap - i) (ints (natI (s.drop i))) rfl HT5.out HT4.out HT6.out (by unfold maxLen; omega) (by omega) HB2.out.size ?_)
        intro v3 w3 hown3 hgrow3 hnil3 hat3
        obtain ⟨Q3, HB3⟩ := put_grow HB2.out Q2.out hown3 hgrow3
        clear hown3 hgrow3 hnil3 hat3
        go_wp2_with fail
        go_ret
        exact put_end Q3.out (by rw [HP.out]; simp [ints, natI]) (by rw [HP.out]; simp; omega) (by omega) (by omega) HB3.out
    · have hie : i = s.length := by omega
      have e1 : decide ((i : Int) < (s.length : Int)) = false := by simp; omega
      have e2 : (0 : Int) ≤ (i : Int) := by omega
      have HP := Lib.hid (putS_new hil HL.out (fun h => absurd h hlt))
      have HD0 : Hid (s.drop i = []) := Lib.hid (by rw [hie]; simp)
      clear hie
      by_cases hci : cap = i
      · have HCi := Lib.hid hci
        clear hci
        have e6 : (i : Int) ≤ (cap : Int) := by omega
        have HT1 : Hid ((ints (natI (s.take i))).length = i * 1) := Lib.hid (by simp [ints, natI]; omega)
        have HT2 := Lib.hid (ints_take_at (HK.out _ HN0.out) i)
        have HT3 := Lib.hid (ints_one (natI (s.take i)))
        go_upto_region 6 with fail
        clear hlt
        go_wp2_with (at_builtin; refine wpList_append_own_at _ rfl (.tmp 34) (.tmp 37) 58 rfl w.heap.size 3 i0 (.int .i64 0) 1 8 Tryz.underlying58 hi hz0 hz1 hz2 rfl (by decide) _ 0 [] rfl HN.out ⟨g, 0, none⟩ i cap (ints (natI (s.take i))) rfl HT1.out HT2.out HT3.out (by unfold maxLen; omega) (by omega) (by simp) ?_)
        intro v1 w1 hown1 hgrow1 hnil1 hat1
        obtain ⟨Q1, HB1⟩ := put_grow HN0.out HN.out hown1 hgrow1
        clear hown1 hgrow1 hnil1 hat1
        go_wp2_with (at_builtin; refine wpList_append_own_at _ rfl (.tmp 39) (.tmp 41) 58 rfl w.heap.size 3 i0 (.int .i64 0) 1 8 Tryz.underlying58 hi hz0 hz1 hz2 rfl (by decide) _ _ _ rfl (Q1.out.alloc _) ⟨w1.heap.size, 0, none⟩ 1 1 [.int .i64 (q : Int)] rfl rfl (cell_one_new _ _ _) (by simp [Value.oneCell']) (by unfold maxLen; omega) (by omega) (by have := HB1.out.size; simp; omega) ?_)
        intro v2 w2 hown2 hgrow2 hnil2 hat2
        obtain ⟨Q2, HB2⟩ := put_grow (HB1.out.alloc HB1.out.size _) (Q1.out.alloc _) hown2 hgrow2
        have HT4 : Hid (∀ (j : Nat) (u : Value), (ints (natI (s.drop i)))[j]? = some u → w2.cell? ((⟨g, 0, none⟩ : Addr).add j) = some u) := Lib.hid (fun j u hu => by rw [HD0.out] at hu; simp [ints, natI] at hu)
        clear hown2 hgrow2 hnil2 hat2
        have hci := HCi.out
        have e7 : (i : Int) ≤ (s.length : Int) := by omega
        have e8 : (s.length : Int) ≤ (cap : Int) := by omega
        have HT5 : Hid ((ints (natI (s.drop i))).length = (s.length - i) * 1) := Lib.hid (by simp [ints, natI])
        have HT6 := Lib.hid (ints_one (natI (s.drop i)))
        go_wp2_with (at_builtin; refine wpList_append_own_at _ rfl (.tmp 43) (.tmp 46) 58 rfl w.heap.size 3 i0 (.int .i64 0) 1 8 Tryz.underlying58 hi hz0 hz1 hz2 rfl (by decide) _ _ _ rfl Q2.out ⟨g, 0, none⟩ (s.length - i) 0 (ints (natI (s.drop i))) rfl HT5.out HT4.out HT6.out (by unfold maxLen; omega) (by omega) HB2.out.size ?_)
        intro v3 w3 hown3 hgrow3 hnil3 hat3
        obtain ⟨Q3, HB3⟩ := put_grow HB2.out Q2.out hown3 hgrow3
        clear hown3 hgrow3 hnil3 hat3
        go_wp2_with fail
        go_ret
        exact put_end Q3.out (by rw [HP.out]; simp [ints, natI]) (by rw [HP.out]; simp; omega) (by omega) (by omega) HB3.out
      · have e6 : (i : Int) ≤ (cap : Int) := by omega
        have HT1 : Hid ((ints (natI (s.take i))).length = i * 1) := Lib.hid (by simp [ints, natI]; omega)
        have HT2 := Lib.hid (ints_take_at (HK.out _ HN0.out) i)
        have HT3 := Lib.hid (ints_one (natI (s.take i)))
        go_upto_region 6 with fail
        clear hlt
        go_wp2_with (at_builtin; refine wpList_append_own_at _ rfl (.tmp 34) (.tmp 37) 58 rfl w.heap.size 3 i0 (.int .i64 0) 1 8 Tryz.underlying58 hi hz0 hz1 hz2 rfl (by decide) _ 0 [] rfl HN.out ⟨g, 0, none⟩ i cap (ints (natI (s.take i))) rfl HT1.out HT2.out HT3.out (by unfold maxLen; omega) (by omega) (by simp) ?_)
        intro v1 w1 hown1 hgrow1 hnil1 hat1
        obtain ⟨Q1, HB1⟩ := put_grow HN0.out HN.out hown1 hgrow1
        clear hown1 hgrow1 hnil1 hat1
        go_wp2_with (at_builtin; refine wpList_append_own_at _ rfl (.tmp 39) (.tmp 41) 58 rfl w.heap.size 3 i0 (.int .i64 0) 1 8 Tryz.underlying58 hi hz0 hz1 hz2 rfl (by decide) _ _ _ rfl (Q1.out.alloc _) ⟨w1.heap.size, 0, none⟩ 1 1 [.int .i64 (q : Int)] rfl rfl (cell_one_new _ _ _) (by simp [Value.oneCell']) (by unfold maxLen; omega) (by omega) (by have := HB1.out.size; simp; omega) ?_)
        intro v2 w2 hown2 hgrow2 hnil2 hat2
        obtain ⟨Q2, HB2⟩ := put_grow (HB1.out.alloc HB1.out.size _) (Q1.out.alloc _) hown2 hgrow2
        have HT4 := Lib.hid (ints_drop_at (HK.out _ HB2.out) i)
        clear hown2 hgrow2 hnil2 hat2
        have e7 : (i : Int) ≤ (s.length : Int) := by omega
        have e8 : (s.length : Int) ≤ (cap : Int) := by omega
        have HT5 : Hid ((ints (natI (s.drop i))).length = (s.length - i) * 1) := Lib.hid (by simp [ints, natI])
        have HT6 := Lib.hid (ints_one (natI (s.drop i)))
        go_wp2_with (at_builtin; refine wpList_append_own_at _ rfl (.tmp 43) (.tmp 46) 58 rfl w.heap.size 3 i0 (.int .i64 0) 1 8 Tryz.underlying58 hi hz0 hz1 hz2 rfl (by decide) _ _ _ rfl Q2.out ⟨g, i, none⟩ (s.length - i) (cap - i) (ints (natI (s.drop i))) rfl HT5.out HT4.out HT6.out (by unfold maxLen; omega) (by omega) HB2.out.size ?_)
        intro v3 w3 hown3 hgrow3 hnil3 hat3
        obtain ⟨Q3, HB3⟩ := put_grow HB2.out Q2.out hown3 hgrow3
        clear hown3 hgrow3 hnil3 hat3
        go_wp2_with fail
        go_ret
        exact put_end Q3.out (by rw [HP.out]; simp [ints, natI]) (by rw [HP.out]; simp; omega) (by omega) (by omega) HB3.out
end Go.Proofs.YthmfncklepkddaaGreatDoor

/-
  A region that draws its order, over calls that make memory and turn nothing old: one walk. Of no function of the program.
-/
namespace Go.Proofs.YthmfncklepkddaaGreatDoor
open Go.RowKit

/-- The worlds that turn nothing of W. -/
structure UpW (W : World) where
  w : World
  up : Below W.heap.size W w
instance upW_some (W : World) : Nonempty (UpW W) := ⟨⟨W, Below.refl _ _⟩⟩
/-- A region that draws, over calls that turn nothing old: one walk, in the order of the text. -/
theorem wp_region_up {P : Program} {W : World} {id : Nat} {Q : Exit → Act → World → Prop} {a : Act} {l : List Oper} (hm : P.follows .mixedOrders = true) (hB : Region.lexB .any l.toArray = true)
    (h : wpQuiet P l.toArray (fun w' => ∃ n : UpW W, w' = n.w) (fun a' => ∀ w', (∃ n : UpW W, w' = n.w) → Q .normal a' w') l a) : (Code.region id l.toArray true).wp P Q a W :=
  wp_region_quiet (C := fun w' => ∃ n : UpW W, w' = n.w) hm hB ⟨⟨_, (Below.refl W.heap.size W).drew⟩, rfl⟩ (by simpa using h)
theorem up_call {P : Program} {f : FuncId} {args : Array Value} {W : World} {n : UpW W} {v : Value} (h : Calls P f args n.w fun e w' => e = .returned v ∧ Below n.w.heap.size n.w w') : Calls P f args n.w fun e w'' => e = .returned v ∧ ∃ m : UpW W, w'' = m.w :=
  h.mono fun _ w' ⟨he, hb⟩ => ⟨he, ⟨w', n.up.trans (hb.mono n.up.size)⟩, rfl⟩
end Go.Proofs.YthmfncklepkddaaGreatDoor
