/-
  What impl.DifferWord and impl.IsIncluded answer.
-/
import Derived.Test.YthmfncklepkddaaFwP
import Derived.Test.YthmfncklepkddaaPrII
import Derived.Test.YthmfncklepkddaaIncM
namespace Go.Proofs.Ythmfncklepkddaa
open Go.RowKit

set_option maxRecDepth 100000 in
set_option maxHeartbeats 1600000 in
theorem implDifQ (ba bb : Nat) (ad ad' : Addr) (n n' c c' p q : Nat) (x y : Bool) (w : World) (hp : p < n) (hq : q < n') (a0 : w.cell? ⟨ba, 0, none⟩ = some (.slice (some ad) n c)) (a1 : w.cell? (ad.add p) = some (.bool x))
    (b0 : w.cell? ⟨bb, 0, none⟩ = some (.slice (some ad') n' c')) (b1 : w.cell? (ad'.add q) = some (.bool y)) :
    Calls Try.prog 51 #[.agg #[.int .i64 (p : Int), .int .i64 (q : Int)], .pointer (some ⟨ba, 0, none⟩), .pointer (some ⟨bb, 0, none⟩)] w fun e w' => e = .returned (.bool (x != y)) ∧ Below w.heap.size w w' := by
  have s0 : (p : Int) < (n : Int) := by omega
  have s1 : (0 : Int) ≤ (p : Int) := by omega
  have s2 : (q : Int) < (n' : Int) := by omega
  have s3 : (0 : Int) ≤ (q : Int) := by omega
  obtain ⟨W0, hW0⟩ : ∃ W0, W0 = w.alloc (.cells #[.int .i64 (p : Int), .int .i64 (q : Int)] 64) := ⟨_, rfl⟩
  have hb0 : Below w.heap.size w W0 := by rw [hW0]; exact (Below.refl _ _).alloc (Nat.le_refl _) _
  have a0' := (hb0.cell (cell_in a0)).trans a0
  have a1' := (hb0.cell (cell_in a1)).trans a1
  have b0' := (hb0.cell (cell_in b0)).trans b0
  have b1' := (hb0.cell (cell_in b1)).trans b1
  obtain ⟨p0, p1, -, -⟩ := box2_facts (show W0.heap[w.heap.size]? = some (.cells #[.int .i64 (p : Int), .int .i64 (q : Int)] 64 (0, 0)) by rw [hW0]; exact heap_alloc_new w _)
  have HB0 := Lib.hid hb0
  clear a0 a1 b0 b1 hb0
  cases x <;> cases y
  all_goals
    go_enter Try.func51, Try.ntmps51
    go_upto_region 1 with fail
    rw [← hW0]
    clear hW0
    go_quiet (fail)
    go_wp2_with fail
    go_ret
    exact ⟨rfl, below_draws HB0.out _⟩
theorem enters_implDifQ (args : Array Value) (w : World) : (callFunc 51 args).run Try.prog w = .ok (.enter 51 args) w := enters_of Try.func51 (by kernel_rfl) rfl args w

set_option maxRecDepth 100000 in
set_option maxHeartbeats 1600000 in
theorem implIncQ (ba bb : Nat) (ad ad' : Addr) (n n' c c' p q : Nat) (x y : Bool) (w : World) (hp : p < n) (hq : q < n') (a0 : w.cell? ⟨ba, 0, none⟩ = some (.slice (some ad) n c)) (a1 : w.cell? (ad.add p) = some (.bool x))
    (b0 : w.cell? ⟨bb, 0, none⟩ = some (.slice (some ad') n' c')) (b1 : w.cell? (ad'.add q) = some (.bool y)) :
    Calls Try.prog 84 #[.agg #[.int .i64 (p : Int), .int .i64 (q : Int)], .pointer (some ⟨ba, 0, none⟩), .pointer (some ⟨bb, 0, none⟩)] w fun e w' => e = .returned (.bool (x && !y)) ∧ Below w.heap.size w w' := by
  have s0 : (p : Int) < (n : Int) := by omega
  have s1 : (0 : Int) ≤ (p : Int) := by omega
  have s2 : (q : Int) < (n' : Int) := by omega
  have s3 : (0 : Int) ≤ (q : Int) := by omega
  obtain ⟨W0, hW0⟩ : ∃ W0, W0 = w.alloc (.cells #[.int .i64 (p : Int), .int .i64 (q : Int)] 64) := ⟨_, rfl⟩
  have hb0 : Below w.heap.size w W0 := by rw [hW0]; exact (Below.refl _ _).alloc (Nat.le_refl _) _
  have a0' := (hb0.cell (cell_in a0)).trans a0
  have a1' := (hb0.cell (cell_in a1)).trans a1
  have b0' := (hb0.cell (cell_in b0)).trans b0
  have b1' := (hb0.cell (cell_in b1)).trans b1
  obtain ⟨p0, p1, -, -⟩ := box2_facts (show W0.heap[w.heap.size]? = some (.cells #[.int .i64 (p : Int), .int .i64 (q : Int)] 64 (0, 0)) by rw [hW0]; exact heap_alloc_new w _)
  have HB0 := Lib.hid hb0
  clear a0 a1 b0 b1 hb0
  cases x <;> cases y
  all_goals
    go_enter Try.func84, Try.ntmps84
    go_upto_region 1 with fail
    rw [← hW0]
    clear hW0
    go_wp2_with fail
    go_ret
    exact ⟨rfl, HB0.out⟩
theorem enters_implIncQ (args : Array Value) (w : World) : (callFunc 84 args).run Try.prog w = .ok (.enter 84 args) w := enters_of Try.func84 (by kernel_rfl) rfl args w

theorem runG_pair (a b : Au) : ∀ (u : List Nat) (x : Nat × Nat), (runG (pairT a b) x u).1 = a.run x.1 u ∧ (runG (pairT a b) x u).2 = b.run x.2 u
  | [], _ => ⟨rfl, rfl⟩
  | k :: u, x => runG_pair a b u (pairT a b x k)
set_option maxRecDepth 100000 in
set_option maxHeartbeats 6400000 in
theorem implDif_any (va vn va' vn' : Value) (d d' : Dx) (S S' : Nat → Prop) (s : ByteArray) (ok : Bool) (w : World) (h : DfaV w S va vn d) (h' : DfaV w S' va' vn' d') (hy : tellR true d d' s ok) :
    Calls Try.prog 15 #[.agg #[va, vn], .agg #[va', vn']] w fun e w' => e = .returned (.tuple #[.string s, .bool ok]) ∧ Below w.heap.size w w' := by
  have hmf : ∀ (fn : Fn) (first cap : Array Value) (w : World), (Instr.makeFunc fn first cap).run Try.prog w = .ok (.func fn first cap) w := fun _ _ _ _ => rfl
  obtain ⟨W0, hW0⟩ : ∃ W0, W0 = (w.alloc (.cells #[va, vn] 27)).alloc (.cells #[va', vn'] 27) := ⟨_, rfl⟩
  have HB0 : Hid (Below w.heap.size w W0) := Lib.hid (by rw [hW0]; exact ((Below.refl _ _).alloc (Nat.le_refl _) _).alloc (by simp) _)
  have HX : Hid (W0.heap[w.heap.size]? = some (.cells #[va, vn] 27 (0, 0))) := Lib.hid (by rw [hW0]; exact (Below.heap_alloc _ _ _ (by simp)).trans (heap_alloc_new w _))
  have HX' : Hid (W0.heap[w.heap.size + 1]? = some (.cells #[va', vn'] 27 (0, 0))) := Lib.hid (by
    have h := heap_alloc_new (w.alloc (.cells #[va, vn] 27)) (.cells #[va', vn'] 27)
    rw [World.size_alloc, ← hW0] at h
    exact h)
  have hz0 : w.heap.size + 2 ≤ W0.heap.size := by rw [hW0]; simp
  have HV := Lib.hid (implValidD_any va vn d S W0 (h.kept HB0.out))
  have HV' := Lib.hid (fun (V : World) (hV : Below w.heap.size w V) => implValidD_any va' vn' d' S' V (h'.kept hV))
  cases hv : validD d with
  | false =>
    rw [hv] at HV
    obtain ⟨rfl, rfl⟩ := tellR_no hy (fun hh => by rw [hv] at hh; cases hh.1)
    obtain ⟨⟨A, c, hva⟩, A', c', hvn⟩ := h.shape
    obtain ⟨⟨A2, c2, hva'⟩, A2', c2', hvn'⟩ := h'.shape
    subst hva
    subst hvn
    subst hva'
    subst hvn'
    clear h h' hv hy
    go_enter Try.func15, Try.ntmps15
    obtain ⟨c0, c1, -, -⟩ := box2_facts HX.out
    rw [hW0] at c0 c1
    go_wp2_with fail
    go_at_call 28
    rw [← hW0]
    clear hW0 c0 c1
    refine HV.out.mono ?_
    rintro e w1 ⟨rfl, hb1⟩
    have HB1 := Lib.hid (HB0.out.trans (hb1.mono HB0.out.size))
    have HX1 := Lib.hid ((hb1.block _ (by omega)).trans HX.out)
    have HX1' := Lib.hid ((hb1.block _ (by omega)).trans HX'.out)
    have hz1 := hb1.size
    clear hb1
    go_wp2_with fail
    refine bodyPost_ret (v := .tuple #[.string ⟨#[]⟩, .bool false]) (by simp [results, Try.results15, go_sem]) rfl ?_
    exact ⟨rfl, HB1.out⟩
  | true =>
    rw [hv] at HV
    cases hv' : validD d' with
    | false =>
      rw [hv'] at HV'
      obtain ⟨rfl, rfl⟩ := tellR_no hy (fun hh => by rw [hv'] at hh; cases hh.2)
      obtain ⟨⟨A, c, hva⟩, A', c', hvn⟩ := h.shape
      obtain ⟨⟨A2, c2, hva'⟩, A2', c2', hvn'⟩ := h'.shape
      subst hva
      subst hvn
      subst hva'
      subst hvn'
      clear h h' hv hv' hy
      go_enter Try.func15, Try.ntmps15
      obtain ⟨c0, c1, -, -⟩ := box2_facts HX.out
      rw [hW0] at c0 c1
      go_wp2_with fail
      go_at_call 28
      rw [← hW0]
      clear hW0 c0 c1
      refine HV.out.mono ?_
      rintro e w1 ⟨rfl, hb1⟩
      have HB1 := Lib.hid (HB0.out.trans (hb1.mono HB0.out.size))
      have HW1 := Lib.hid hb1
      have HX1 := Lib.hid ((hb1.block _ (by omega)).trans HX.out)
      have HX1' := Lib.hid ((hb1.block _ (by omega)).trans HX'.out)
      have hz1 := hb1.size
      clear hb1
      obtain ⟨c0, c1, -, -⟩ := box2_facts HX1'.out
      go_wp2_with fail
      go_at_call 28
      refine (HV'.out _ HB1.out).mono ?_
      rintro e w2 ⟨rfl, hb2⟩
      have HB2 := Lib.hid (HB1.out.trans (hb2.mono HB1.out.size))
      have HW2 := Lib.hid (HW1.out.trans (hb2.mono HW1.out.size))
      have HX2 := Lib.hid ((hb2.block _ (by omega)).trans HX1.out)
      have HX2' := Lib.hid ((hb2.block _ (by omega)).trans HX1'.out)
      have hz2 := hb2.size
      clear hb2 c0 c1
      go_wp2_with fail
      refine bodyPost_ret (v := .tuple #[.string ⟨#[]⟩, .bool false]) (by simp [results, Try.results15, go_sem]) rfl ?_
      exact ⟨rfl, HB2.out⟩
    | true =>
      rw [hv'] at HV'
      obtain ⟨hw, hn40, hnn, hl, ad, c, aN, c', hva, hvn, hA, hT⟩ := h.au hv
      obtain ⟨hw', hn40', hnn', hl', ad', cc, aN', cc', hva', hvn', hA', hT'⟩ := h'.au hv'
      subst hva
      subst hvn
      subst hva'
      subst hvn'
      have HY := Lib.hid (fun r (hr : FirstR (fun u => pairF true ((auD d).A ((auD d).run 0 u)) ((auD d').A ((auD d').run 0 u)) = true) r) => tellR_yes (r := r) hy hv hv' hr)
      obtain ⟨n, hne⟩ : ∃ n, n = d.acc.length := ⟨_, rfl⟩
      obtain ⟨n', hne'⟩ : ∃ n', n' = d'.acc.length := ⟨_, rfl⟩
      rw [← hne] at hA hT hnn HV HX hW0 ⊢
      rw [← hne'] at hA' hT' hnn' HV' HX' hW0 ⊢
      have hM : n * n' ≤ 1600 := by
        have := Nat.mul_le_mul (show n ≤ 40 by omega) (show n' ≤ 40 by omega)
        omega
      have h00 : okP n n' (0, 0) := ⟨by rw [← hnn]; exact hw.1, by rw [← hnn']; exact hw'.1⟩
      have hTT : ∀ x k, okP n n' x → k < 3 → okP n n' (pairT (auD d) (auD d') x k) := fun x k hx hk => ⟨by have := hw.2 x.1 k (by rw [hnn]; exact hx.1) hk; rw [hnn] at this; exact this, by have := hw'.2 x.2 k (by rw [hnn']; exact hx.2) hk; rw [hnn'] at this; exact this⟩
      obtain ⟨N, hN, hE⟩ := ends_some (s0 := (0, 0)) (g := pairT (auD d) (auD d')) (M := n * n') (fun t => (ords_pairs h00 hTT t).2)
      have HF : Hid (∀ V : World, Below W0.heap.size W0 V → Calls Try.prog 52 #[.agg #[.int .i64 0, .int .i64 0], .func (.func 53) #[.agg #[.slice (some ad) n c, .slice (some aN) n c', .slice (some ad') n' cc, .slice (some aN') n' cc']] #[], .func (.func 51) #[] #[.pointer (some ⟨w.heap.size, 0, none⟩), .pointer (some ⟨w.heap.size + 1, 0, none⟩)]] V (FwPost (fun u => pairF true ((auD d).A (runG (pairT (auD d) (auD d')) (0, 0) u).1) ((auD d').A (runG (pairT (auD d) (auD d')) (0, 0) u).2) = true) V)) := Lib.hid (fun V hV => by
        refine implFwP_any _ _ _ _ _ enters_step enters_implDifQ (pairT (auD d) (auD d')) (fun x => pairF true ((auD d).A x.1) ((auD d').A x.2)) n n' (0, 0) V (by omega) (by omega) h00 hTT ⟨N, by omega, hE⟩ (fun U x k hU hx hk => ?_) (fun U x hU hx => ?_)
        · have hb : Below w.heap.size w U := HB0.out.trans ((hV.trans (hU.mono hV.size)).mono HB0.out.size)
          obtain ⟨r1, q1, a1, a2⟩ := hT x.1 hx.1
          obtain ⟨r2, q2, b1, b2⟩ := hT' x.2 hx.2
          have a3 := a2 k hk
          have b3 := b2 k hk
          exact implStepP_any (.slice (some ad) n c) (.slice (some ad') n' cc) aN aN' n n' c' cc' x.1 x.2 k r1 r2 q1 q2 _ _ U hx.1 hx.2 hk ((hb.cell (cell_in a1)).trans a1) ((hb.cell (cell_in a3)).trans a3) ((hb.cell (cell_in b1)).trans b1) ((hb.cell (cell_in b3)).trans b3)
        · have hb : Below w.heap.size w U := HB0.out.trans ((hV.trans (hU.mono hV.size)).mono HB0.out.size)
          have hbW : Below W0.heap.size W0 U := hV.trans (hU.mono hV.size)
          have h1 := hA x.1 hx.1
          have h2 := hA' x.2 hx.2
          rw [pairF_differ]
          exact implDifQ w.heap.size (w.heap.size + 1) ad ad' n n' c cc x.1 x.2 _ _ U hx.1 hx.2 (box2_facts ((hbW.block _ (by omega)).trans HX.out)).1 ((hb.cell (cell_in h1)).trans h1) (box2_facts ((hbW.block _ (by omega)).trans HX'.out)).1 ((hb.cell (cell_in h2)).trans h2))
      have HR := Lib.hid (fun r (hr : FirstR (fun u => pairF true ((auD d).A (runG (pairT (auD d) (auD d')) (0, 0) u).1) ((auD d').A (runG (pairT (auD d) (auD d')) (0, 0) u).2) = true) r) => HY.out r (firstR_congr (fun u hu => by rw [(runG_pair (auD d) (auD d') u (0, 0)).1, (runG_pair (auD d) (auD d') u (0, 0)).2]) hr))
      clear h h' hy hv hv' hA hT hA' hT' hw hw' hne hne' hl hl' hn40 hn40' hnn hnn' hN hE HY h00 hTT hM
      go_enter Try.func15, Try.ntmps15
      obtain ⟨c0, c1, -, -⟩ := box2_facts HX.out
      rw [hW0] at c0 c1
      go_wp2_with fail
      go_at_call 28
      rw [← hW0]
      clear hW0 c0 c1
      refine HV.out.mono ?_
      rintro e w1 ⟨rfl, hb1⟩
      have HB1 := Lib.hid (HB0.out.trans (hb1.mono HB0.out.size))
      have HW1 := Lib.hid hb1
      have HX1 := Lib.hid ((hb1.block _ (by omega)).trans HX.out)
      have HX1' := Lib.hid ((hb1.block _ (by omega)).trans HX'.out)
      have hz1 := hb1.size
      clear hb1
      obtain ⟨c0, c1, -, -⟩ := box2_facts HX1'.out
      go_wp2_with fail
      go_at_call 28
      refine (HV'.out _ HB1.out).mono ?_
      rintro e w2 ⟨rfl, hb2⟩
      have HB2 := Lib.hid (HB1.out.trans (hb2.mono HB1.out.size))
      have HW2 := Lib.hid (HW1.out.trans (hb2.mono HW1.out.size))
      have HX2 := Lib.hid ((hb2.block _ (by omega)).trans HX1.out)
      have HX2' := Lib.hid ((hb2.block _ (by omega)).trans HX1'.out)
      have hz2 := hb2.size
      clear hb2 c0 c1
      obtain ⟨c0, c1, -, -⟩ := box2_facts HX2.out
      obtain ⟨k0, k1, -, -⟩ := box2_facts HX2'.out
      go_wp2_with fail
      go_at_call 52
      refine (HF.out w2 HW2.out).mono ?_
      rintro e w3 ⟨r, hr, rfl, hb3⟩
      obtain ⟨rfl, rfl⟩ := HR.out r hr
      have HB3 := Lib.hid (HB2.out.trans (hb3.mono HB2.out.size))
      clear hb3 hr c0 c1 k0 k1
      go_wp2_with fail
      refine bodyPost_ret (v := .tuple #[.string (wO r), .bool r.isSome]) (by simp [results, Try.results15, go_sem]) rfl ?_
      exact ⟨rfl, HB3.out⟩

set_option maxRecDepth 100000 in
set_option maxHeartbeats 6400000 in
theorem implInc_any (va vn va' vn' : Value) (d d' : Dx) (S S' : Nat → Prop) (b : Bool) (w : World) (h : DfaV w S va vn d) (h' : DfaV w S' va' vn' d') (hy : incR d d' b) :
    Calls Try.prog 38 #[.agg #[va, vn], .agg #[va', vn']] w fun e w' => e = .returned (.bool b) ∧ Below w.heap.size w w' := by
  have hmf : ∀ (fn : Fn) (first cap : Array Value) (w : World), (Instr.makeFunc fn first cap).run Try.prog w = .ok (.func fn first cap) w := fun _ _ _ _ => rfl
  obtain ⟨W0, hW0⟩ : ∃ W0, W0 = (w.alloc (.cells #[va, vn] 27)).alloc (.cells #[va', vn'] 27) := ⟨_, rfl⟩
  have HB0 : Hid (Below w.heap.size w W0) := Lib.hid (by rw [hW0]; exact ((Below.refl _ _).alloc (Nat.le_refl _) _).alloc (by simp) _)
  have HX : Hid (W0.heap[w.heap.size]? = some (.cells #[va, vn] 27 (0, 0))) := Lib.hid (by rw [hW0]; exact (Below.heap_alloc _ _ _ (by simp)).trans (heap_alloc_new w _))
  have HX' : Hid (W0.heap[w.heap.size + 1]? = some (.cells #[va', vn'] 27 (0, 0))) := Lib.hid (by
    have h := heap_alloc_new (w.alloc (.cells #[va, vn] 27)) (.cells #[va', vn'] 27)
    rw [World.size_alloc, ← hW0] at h
    exact h)
  have hz0 : w.heap.size + 2 ≤ W0.heap.size := by rw [hW0]; simp
  have HV := Lib.hid (implValidD_any va vn d S W0 (h.kept HB0.out))
  have HV' := Lib.hid (fun (V : World) (hV : Below w.heap.size w V) => implValidD_any va' vn' d' S' V (h'.kept hV))
  cases hv : validD d with
  | false =>
    rw [hv] at HV
    obtain rfl := incR_no hy (fun hh => by rw [hv] at hh; cases hh.1)
    obtain ⟨⟨A, c, hva⟩, A', c', hvn⟩ := h.shape
    obtain ⟨⟨A2, c2, hva'⟩, A2', c2', hvn'⟩ := h'.shape
    subst hva
    subst hvn
    subst hva'
    subst hvn'
    clear h h' hv hy
    go_enter Try.func38, Try.ntmps38
    obtain ⟨c0, c1, -, -⟩ := box2_facts HX.out
    rw [hW0] at c0 c1
    go_wp2_with fail
    go_at_call 28
    rw [← hW0]
    clear hW0 c0 c1
    refine HV.out.mono ?_
    rintro e w1 ⟨rfl, hb1⟩
    have HB1 := Lib.hid (HB0.out.trans (hb1.mono HB0.out.size))
    have HX1 := Lib.hid ((hb1.block _ (by omega)).trans HX.out)
    have HX1' := Lib.hid ((hb1.block _ (by omega)).trans HX'.out)
    have hz1 := hb1.size
    clear hb1
    go_wp2_with fail
    go_ret
    exact ⟨rfl, HB1.out⟩
  | true =>
    rw [hv] at HV
    cases hv' : validD d' with
    | false =>
      rw [hv'] at HV'
      obtain rfl := incR_no hy (fun hh => by rw [hv'] at hh; cases hh.2)
      obtain ⟨⟨A, c, hva⟩, A', c', hvn⟩ := h.shape
      obtain ⟨⟨A2, c2, hva'⟩, A2', c2', hvn'⟩ := h'.shape
      subst hva
      subst hvn
      subst hva'
      subst hvn'
      clear h h' hv hv' hy
      go_enter Try.func38, Try.ntmps38
      obtain ⟨c0, c1, -, -⟩ := box2_facts HX.out
      rw [hW0] at c0 c1
      go_wp2_with fail
      go_at_call 28
      rw [← hW0]
      clear hW0 c0 c1
      refine HV.out.mono ?_
      rintro e w1 ⟨rfl, hb1⟩
      have HB1 := Lib.hid (HB0.out.trans (hb1.mono HB0.out.size))
      have HW1 := Lib.hid hb1
      have HX1 := Lib.hid ((hb1.block _ (by omega)).trans HX.out)
      have HX1' := Lib.hid ((hb1.block _ (by omega)).trans HX'.out)
      have hz1 := hb1.size
      clear hb1
      obtain ⟨c0, c1, -, -⟩ := box2_facts HX1'.out
      go_wp2_with fail
      go_at_call 28
      refine (HV'.out _ HB1.out).mono ?_
      rintro e w2 ⟨rfl, hb2⟩
      have HB2 := Lib.hid (HB1.out.trans (hb2.mono HB1.out.size))
      have HW2 := Lib.hid (HW1.out.trans (hb2.mono HW1.out.size))
      have HX2 := Lib.hid ((hb2.block _ (by omega)).trans HX1.out)
      have HX2' := Lib.hid ((hb2.block _ (by omega)).trans HX1'.out)
      have hz2 := hb2.size
      clear hb2 c0 c1
      go_wp2_with fail
      go_ret
      exact ⟨rfl, HB2.out⟩
    | true =>
      rw [hv'] at HV'
      obtain ⟨hw, hn40, hnn, hl, ad, c, aN, c', hva, hvn, hA, hT⟩ := h.au hv
      obtain ⟨hw', hn40', hnn', hl', ad', cc, aN', cc', hva', hvn', hA', hT'⟩ := h'.au hv'
      subst hva
      subst hvn
      subst hva'
      subst hvn'
      have HY := Lib.hid (fun r (hr : FirstR (fun u => pairF false ((auD d).A ((auD d).run 0 u)) ((auD d').A ((auD d').run 0 u)) = true) r) => incR_yes (r := r) hy hv hv' hr)
      obtain ⟨n, hne⟩ : ∃ n, n = d.acc.length := ⟨_, rfl⟩
      obtain ⟨n', hne'⟩ : ∃ n', n' = d'.acc.length := ⟨_, rfl⟩
      rw [← hne] at hA hT hnn HV HX hW0 ⊢
      rw [← hne'] at hA' hT' hnn' HV' HX' hW0 ⊢
      have hM : n * n' ≤ 1600 := by
        have := Nat.mul_le_mul (show n ≤ 40 by omega) (show n' ≤ 40 by omega)
        omega
      have h00 : okP n n' (0, 0) := ⟨by rw [← hnn]; exact hw.1, by rw [← hnn']; exact hw'.1⟩
      have hTT : ∀ x k, okP n n' x → k < 3 → okP n n' (pairT (auD d) (auD d') x k) := fun x k hx hk => ⟨by have := hw.2 x.1 k (by rw [hnn]; exact hx.1) hk; rw [hnn] at this; exact this, by have := hw'.2 x.2 k (by rw [hnn']; exact hx.2) hk; rw [hnn'] at this; exact this⟩
      obtain ⟨N, hN, hE⟩ := ends_some (s0 := (0, 0)) (g := pairT (auD d) (auD d')) (M := n * n') (fun t => (ords_pairs h00 hTT t).2)
      have HF : Hid (∀ V : World, Below W0.heap.size W0 V → Calls Try.prog 52 #[.agg #[.int .i64 0, .int .i64 0], .func (.func 53) #[.agg #[.slice (some ad) n c, .slice (some aN) n c', .slice (some ad') n' cc, .slice (some aN') n' cc']] #[], .func (.func 84) #[] #[.pointer (some ⟨w.heap.size, 0, none⟩), .pointer (some ⟨w.heap.size + 1, 0, none⟩)]] V (FwPost (fun u => pairF false ((auD d).A (runG (pairT (auD d) (auD d')) (0, 0) u).1) ((auD d').A (runG (pairT (auD d) (auD d')) (0, 0) u).2) = true) V)) := Lib.hid (fun V hV => by
        refine implFwP_any _ _ _ _ _ enters_step enters_implIncQ (pairT (auD d) (auD d')) (fun x => pairF false ((auD d).A x.1) ((auD d').A x.2)) n n' (0, 0) V (by omega) (by omega) h00 hTT ⟨N, by omega, hE⟩ (fun U x k hU hx hk => ?_) (fun U x hU hx => ?_)
        · have hb : Below w.heap.size w U := HB0.out.trans ((hV.trans (hU.mono hV.size)).mono HB0.out.size)
          obtain ⟨r1, q1, a1, a2⟩ := hT x.1 hx.1
          obtain ⟨r2, q2, b1, b2⟩ := hT' x.2 hx.2
          have a3 := a2 k hk
          have b3 := b2 k hk
          exact implStepP_any (.slice (some ad) n c) (.slice (some ad') n' cc) aN aN' n n' c' cc' x.1 x.2 k r1 r2 q1 q2 _ _ U hx.1 hx.2 hk ((hb.cell (cell_in a1)).trans a1) ((hb.cell (cell_in a3)).trans a3) ((hb.cell (cell_in b1)).trans b1) ((hb.cell (cell_in b3)).trans b3)
        · have hb : Below w.heap.size w U := HB0.out.trans ((hV.trans (hU.mono hV.size)).mono HB0.out.size)
          have hbW : Below W0.heap.size W0 U := hV.trans (hU.mono hV.size)
          have h1 := hA x.1 hx.1
          have h2 := hA' x.2 hx.2
          rw [pairF_less]
          exact implIncQ w.heap.size (w.heap.size + 1) ad ad' n n' c cc x.1 x.2 _ _ U hx.1 hx.2 (box2_facts ((hbW.block _ (by omega)).trans HX.out)).1 ((hb.cell (cell_in h1)).trans h1) (box2_facts ((hbW.block _ (by omega)).trans HX'.out)).1 ((hb.cell (cell_in h2)).trans h2))
      have HR := Lib.hid (fun r (hr : FirstR (fun u => pairF false ((auD d).A (runG (pairT (auD d) (auD d')) (0, 0) u).1) ((auD d').A (runG (pairT (auD d) (auD d')) (0, 0) u).2) = true) r) => HY.out r (firstR_congr (fun u hu => by rw [(runG_pair (auD d) (auD d') u (0, 0)).1, (runG_pair (auD d) (auD d') u (0, 0)).2]) hr))
      clear h h' hy hv hv' hA hT hA' hT' hw hw' hne hne' hl hl' hn40 hn40' hnn hnn' hN hE HY h00 hTT hM
      go_enter Try.func38, Try.ntmps38
      obtain ⟨c0, c1, -, -⟩ := box2_facts HX.out
      rw [hW0] at c0 c1
      go_wp2_with fail
      go_at_call 28
      rw [← hW0]
      clear hW0 c0 c1
      refine HV.out.mono ?_
      rintro e w1 ⟨rfl, hb1⟩
      have HB1 := Lib.hid (HB0.out.trans (hb1.mono HB0.out.size))
      have HW1 := Lib.hid hb1
      have HX1 := Lib.hid ((hb1.block _ (by omega)).trans HX.out)
      have HX1' := Lib.hid ((hb1.block _ (by omega)).trans HX'.out)
      have hz1 := hb1.size
      clear hb1
      obtain ⟨c0, c1, -, -⟩ := box2_facts HX1'.out
      go_wp2_with fail
      go_at_call 28
      refine (HV'.out _ HB1.out).mono ?_
      rintro e w2 ⟨rfl, hb2⟩
      have HB2 := Lib.hid (HB1.out.trans (hb2.mono HB1.out.size))
      have HW2 := Lib.hid (HW1.out.trans (hb2.mono HW1.out.size))
      have HX2 := Lib.hid ((hb2.block _ (by omega)).trans HX1.out)
      have HX2' := Lib.hid ((hb2.block _ (by omega)).trans HX1'.out)
      have hz2 := hb2.size
      clear hb2 c0 c1
      obtain ⟨c0, c1, -, -⟩ := box2_facts HX2.out
      obtain ⟨k0, k1, -, -⟩ := box2_facts HX2'.out
      go_wp2_with fail
      go_at_call 52
      refine (HF.out w2 HW2.out).mono ?_
      rintro e w3 ⟨r, hr, rfl, hb3⟩
      obtain rfl := HR.out r hr
      have HB3 := Lib.hid (HB2.out.trans (hb3.mono HB2.out.size))
      clear hb3 hr c0 c1 k0 k1
      go_wp2_with fail
      go_ret
      exact ⟨by cases r <;> rfl, HB3.out⟩

end Go.Proofs.Ythmfncklepkddaa
