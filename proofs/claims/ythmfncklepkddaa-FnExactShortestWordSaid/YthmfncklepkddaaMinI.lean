/-
  What impl.minimizeStates, impl.MinimizeDfa and the closures that they take answer.
-/
import Derived.Test.YthmfncklepkddaaExpI
import Derived.Test.YthmfncklepkddaaMinzI
import Derived.Test.YthmfncklepkddaaVDfaI
import Derived.Test.YthmfncklepkddaaMinW
namespace Go.Proofs.Ythmfncklepkddaa
open Go.RowKit

theorem implRejQ_any (bd : Nat) (ad : Addr) (n c q : Nat) (b : Bool) (w : World) (hq : q < n) (c0 : w.cell? ⟨bd, 0, none⟩ = some (.slice (some ad) n c)) (c1 : w.cell? (ad.add q) = some (.bool b)) :
    Calls Try.prog 68 #[.int .i64 (q : Int), .pointer (some ⟨bd, 0, none⟩)] w fun e w' => e = .returned (.bool (!b)) ∧ w = w' := by
  have s0 : (q : Int) < (n : Int) := by omega
  have s1 : (0 : Int) ≤ (q : Int) := by omega
  go_enter Try.func68, Try.ntmps68
  go_wp2_with fail
  go_ret
  exact ⟨rfl, rfl⟩
theorem implDfaAfter_any (va : Value) (ad' : Addr) (n c' q k : Nat) (ad2 : Addr) (c2 : Nat) (x : Int) (w : World) (hq : q < n) (hk : k < 3) (c1 : w.cell? (ad'.add q) = some (.slice (some ad2) 3 c2)) (h2 : w.cell? (ad2.add k) = some (.int .i64 x)) :
    Calls Try.prog 80 #[.agg #[va, .slice (some ad') n c'], .int .i64 (q : Int), .int .i64 (k : Int)] w fun e w' => e = .returned (.int .i64 x) ∧ Below w.heap.size w w' := by
  have s0 : (q : Int) < (n : Int) := by omega
  have s1 : (0 : Int) ≤ (q : Int) := by omega
  have s2 : (k : Int) < 3 := by omega
  have s3 : (0 : Int) ≤ (k : Int) := by omega
  have hb0 : Below w.heap.size w (w.alloc (.cells #[va, .slice (some ad') n c'] 27)) := (Below.refl _ _).alloc (Nat.le_refl _) _
  have c1' := (hb0.cell (cell_in c1)).trans c1
  have h2' := (hb0.cell (cell_in h2)).trans h2
  have HB0 := Lib.hid hb0
  clear c1 h2 hb0
  go_enter Try.func80, Try.ntmps80
  go_wp2_with fail
  go_ret
  exact ⟨rfl, HB0.out⟩

theorem enters_rej (args : Array Value) (w : World) : (callFunc 68 args).run Try.prog w = .ok (.enter 68 args) w := enters_of Try.func68 (by kernel_rfl) rfl args w
theorem enters_dfaAfter (args : Array Value) (w : World) : (callFunc 80 args).run Try.prog w = .ok (.enter 80 args) w := enters_of Try.func80 (by kernel_rfl) rfl args w

/-- An automaton with other accepting states. -/
def accA (a : Au) (acc : Nat → Bool) : Au := ⟨a.n, acc, a.T⟩
theorem accA_wf {a : Au} (h : a.wf) (acc : Nat → Bool) : (accA a acc).wf := h
/-- The minimal automaton of a valid one under other accepting states. -/
def MinStY (d : Dx) (acc : Nat → Bool) (w : World) (e : Ending) (w' : World) : Prop := ∃ m, Canon m ∧ Eqv m 0 (accA (auD d) acc) 0 ∧ CopyD (fieldsOf m) w e w'

set_option maxRecDepth 100000 in
set_option maxHeartbeats 3200000 in
theorem implMinSt_yes (va vn : Value) (d : Dx) (S : Nat → Prop) (g2 : Nat) (lb2 : Array Value) (eg2 : ∀ args w, (callFunc g2 args).run Try.prog w = .ok (.enter g2 args) w) (acc : Nat → Bool) (w : World) (h : DfaV w S va vn d) (hv : validD d = true)
    (H2 : ∀ (V : World) (x : Nat), Below w.heap.size w V → x < d.acc.length → Calls Try.prog g2 (#[.int .i64 (x : Int)] ++ lb2) V fun e w' => e = .returned (.bool (acc x)) ∧ Below V.heap.size V w') :
    Calls Try.prog 49 #[.agg #[va, vn], .func (.func g2) #[] lb2] w (MinStY d acc w) := by
  have hmf : ∀ (fn : Fn) (first cap : Array Value) (w : World), (Instr.makeFunc fn first cap).run Try.prog w = .ok (.func fn first cap) w := fun _ _ _ _ => rfl
  obtain ⟨hw, hn40, hnn, hl, ad, c, ad', c', rfl, rfl, hA, hT⟩ := h.au hv
  obtain ⟨n, hne⟩ : ∃ n, n = d.acc.length := ⟨_, rfl⟩
  rw [← hne] at hA hT H2 hnn ⊢
  obtain ⟨W0, hW0⟩ : ∃ W0, W0 = (w.alloc (.cells #[.slice (some ad) n c, .slice (some ad') n c'] 27)).alloc (.cells #[.slice none 0 0, .slice none 0 0] 27) := ⟨_, rfl⟩
  have HB0 : Hid (Below w.heap.size w W0) := Lib.hid (by rw [hW0]; exact ((Below.refl _ _).alloc (Nat.le_refl _) _).alloc (by simp) _)
  have HX : Hid (Bx2 W0 w.heap.size (.slice (some ad) n c) (.slice (some ad') n c')) := Lib.hid (by
    have k := box2_kept (w := w) (w1 := W0) (a := .slice (some ad) n c) (b := .slice (some ad') n c') (t := 27) (by rw [hW0]; exact (Below.refl _ _).alloc (by simp) _)
    exact ⟨k.2.1, k.2.2.1⟩)
  have HY : Hid (W0.heap[w.heap.size + 1]? = some (.cells #[.slice none 0 0, .slice none 0 0] 27 (0, 0))) := Lib.hid (by rw [hW0]; exact three2 w _ _ _ _)
  have HV := Lib.hid (implValidD_any (.slice (some ad) n c) (.slice (some ad') n c') d S W0 (by rw [hne]; exact h.kept HB0.out))
  rw [hv] at HV
  obtain ⟨N, hN, hE⟩ := ends_some (s0 := 0) (g := (auD d).T) (M := (auD d).n) (fun t => (own_keys hw t).2)
  have hEa : Ends 0 (accA (auD d) acc).T N := hE
  obtain ⟨f1, f2, f3⟩ := own_found (accA_wf hw acc) hEa
  obtain ⟨m, m1, m2, m3⟩ := exists_min (hE.wf acc)
  have hm40 : m.n ≤ 40 := by
    have h5 : m.n ≤ N := m3
    omega
  have hsr : srchR 40 0 (auD d).T acc (fieldsOf m) true := .inl ⟨N, by omega, hE, m, m1, m2, by unfold fitD; rw [if_pos hm40], by simp [hm40]⟩
  have HM : Hid (Canon m ∧ Eqv m 0 (accA (auD d) acc) 0) := Lib.hid ⟨m1, Eqv.trans m2 f2⟩
  have HEx : Hid (∀ V : World, Below W0.heap.size W0 V → Calls Try.prog 95 #[.int .i64 0, .func (.func 80) #[.agg #[.slice (some ad) n c, .slice (some ad') n c']] #[], .func (.func g2) #[] lb2, .int .i64 40] V (CopyDB (fieldsOf m) true V)) := Lib.hid (fun V hV => by
    refine implMdI_any _ g2 _ _ lb2 enters_dfaAfter eg2 (auD d).T acc n 40 0 V (by omega) (by omega) (by omega) (by rw [← hnn]; exact hw.1) (fun x k hx hk => by rw [← hnn] at hx ⊢; exact hw.2 x k hx hk) (fun U x k hU hx hk => ?_) (fun U x hU hx => ?_) _ _ hsr
    · have hb : Below w.heap.size w U := HB0.out.trans ((hV.trans (hU.mono hV.size)).mono HB0.out.size)
      obtain ⟨ad2, c2, h1, h2⟩ := hT x hx
      have h3 := h2 k hk
      exact implDfaAfter_any (.slice (some ad) n c) ad' n c' x k ad2 c2 _ U hx hk ((hb.cell (cell_in h1)).trans h1) ((hb.cell (cell_in h3)).trans h3)
    · exact H2 U x (HB0.out.trans ((hV.trans (hU.mono hV.size)).mono HB0.out.size)) hx)
  obtain ⟨hc00, hc01⟩ := HX.out
  rw [hW0] at hc00 hc01
  clear h hA hT H2 hw hne hl hv hn40 hnn hN hE hEa f1 f2 f3 m1 m2 m3 hm40 hsr
  go_enter Try.func49, Try.ntmps49
  go_wp2_with fail
  go_at_call 28
  rw [← hW0]
  refine HV.out.mono ?_
  rintro e w1 ⟨rfl, hb1⟩
  have HB1 := Lib.hid hb1
  have HE1 := Lib.hid (HEx.out w1 hb1)
  obtain ⟨hd00, hd01⟩ := HX.out.kept hb1
  clear hc00 hc01 hW0 hb1
  go_wp2_with fail
  go_at_call 95
  refine HE1.out.mono ?_
  rintro e w3 hcd
  clear hd00 hd01
  obtain ⟨A1, p1, A2, p2, rfl, hoo, hb3⟩ := hcd.shape
  obtain ⟨x1, hx1⟩ : ∃ x, x = (fieldsOf m).acc.length := ⟨_, rfl⟩
  obtain ⟨x2, hx2⟩ : ∃ x, x = (fieldsOf m).nxt.length := ⟨_, rfl⟩
  rw [← hx1, ← hx2] at hoo ⊢
  have HO3 := Lib.hid hoo
  have HB3 := Lib.hid (HB1.out.trans (hb3.mono HB1.out.size))
  have hz1 := HB1.out.size
  have hz3 := hb3.size
  have hyl := blk_lt HY.out
  obtain ⟨W4, hW4⟩ : ∃ W4, W4 = w3.alloc (.cells #[.slice A1 x1 p1, .slice A2 x2 p2] 27) := ⟨_, rfl⟩
  have HX4 : Hid (W4.heap[w3.heap.size]? = some (.cells #[.slice A1 x1 p1, .slice A2 x2 p2] 27 (0, 0)) ∧ Below w3.heap.size w3 W4) := Lib.hid (by
    rw [hW4]
    exact ⟨heap_alloc_new w3 _, (Below.refl _ _).alloc (Nat.le_refl _) _⟩)
  obtain ⟨g0, g1, -, -⟩ := box2_facts HX4.out.1
  obtain ⟨c0, c1, k0, k1⟩ := box2_facts ((HX4.out.2.block _ (by omega)).trans ((HB3.out.block _ hyl).trans HY.out))
  obtain ⟨hcl, hsz, hot, hBl⟩ := put2 (k := .slice A1 x1 p1) (l := .slice A2 x2 p2) c0 c1
  obtain ⟨hc0, hc1⟩ := hcl
  have HOt := Lib.hid (And.intro hsz (And.intro hot hBl))
  have HW4 := Lib.hid hW4
  rw [hW4] at g0 g1 c0 c1 k0 k1 hc0 hc1
  clear hsz hot hBl hoo hb3 hcd hx1 hx2 hW4
  go_wp2_with fail
  refine bodyPost_ret (v := .agg #[.slice A1 x1 p1, .slice A2 x2 p2]) (by simp [results, Try.results49, go_sem, hc0, hc1]) rfl ?_
  rw [← HW4.out]
  have h0 := HB0.out.size
  have hz4 := HX4.out.2.size
  exact ⟨m, HM.out.1, HM.out.2, _, _, rfl, HO3.out.mono (fun g hg => (HOt.out.2.1 g (by have := hg.1; omega)).trans (HX4.out.2.block g hg.2)) (fun g hg => ⟨by have := hg.1; omega, by rw [HOt.out.1]; have := hg.2; omega⟩) (by rw [HOt.out.1]; exact hz4), HOt.out.2.2 _ _ (HB0.out.trans ((HB3.out.trans (HX4.out.2.mono HB3.out.size)).mono h0)) (Nat.le_succ _)⟩

set_option maxRecDepth 100000 in
set_option maxHeartbeats 3200000 in
theorem implMinSt_no (va vn : Value) (d : Dx) (S : Nat → Prop) (g2 : Nat) (lb2 : Array Value) (w : World) (h : DfaV w S va vn d) (hv : validD d = false) :
    Calls Try.prog 49 #[.agg #[va, vn], .func (.func g2) #[] lb2] w (CopyD ⟨[], []⟩ w) := by
  obtain ⟨W0, hW0⟩ : ∃ W0, W0 = (w.alloc (.cells #[va, vn] 27)).alloc (.cells #[.slice none 0 0, .slice none 0 0] 27) := ⟨_, rfl⟩
  have HB0 : Hid (Below w.heap.size w W0) := Lib.hid (by rw [hW0]; exact ((Below.refl _ _).alloc (Nat.le_refl _) _).alloc (by simp) _)
  have hx := (by
    have k := box2_kept (w := w) (w1 := W0) (a := va) (b := vn) (t := 27) (by rw [hW0]; exact (Below.refl _ _).alloc (by simp) _)
    exact ⟨k.2.1, k.2.2.1⟩ : Bx2 W0 w.heap.size va vn)
  have HY : Hid (W0.heap[w.heap.size + 1]? = some (.cells #[.slice none 0 0, .slice none 0 0] 27 (0, 0))) := Lib.hid (by rw [hW0]; exact three2 w _ _ _ _)
  have HV := Lib.hid (implValidD_any va vn d S W0 (h.kept HB0.out))
  rw [hv] at HV
  obtain ⟨⟨A, c, rfl⟩, A', c', rfl⟩ := h.shape
  obtain ⟨hc00, hc01⟩ := hx
  rw [hW0] at hc00 hc01
  clear h hv
  go_enter Try.func49, Try.ntmps49
  go_wp2_with fail
  go_at_call 28
  rw [← hW0]
  refine HV.out.mono ?_
  rintro e w1 ⟨rfl, hb1⟩
  obtain ⟨c0, c1, k0, k1⟩ := box2_facts ((hb1.block _ (blk_lt HY.out)).trans HY.out)
  obtain ⟨hcl, hsz, hot, hBl⟩ := put2 (k := .slice none 0 0) (l := .slice none 0 0) c0 c1
  obtain ⟨hc0, hc1⟩ := hcl
  have HOt := Lib.hid hBl
  have HB1 := Lib.hid hb1
  clear hc00 hc01 hW0 hb1 hsz hot hBl
  go_wp2_with fail
  refine bodyPost_ret (v := .agg #[.slice none 0 0, .slice none 0 0]) (by simp [results, Try.results49, go_sem, hc0, hc1]) rfl ?_
  exact ⟨_, _, rfl, DfaO.empty _ _, HOt.out _ _ (HB0.out.trans (HB1.out.mono HB0.out.size)) (Nat.le_succ _)⟩
end Go.Proofs.Ythmfncklepkddaa
