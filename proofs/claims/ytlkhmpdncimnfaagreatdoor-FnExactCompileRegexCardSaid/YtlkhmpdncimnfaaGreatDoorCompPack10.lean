/-
  Texts of one proof, one behind the other.
-/
import Derived.Deep.RegionLaw
import Derived.StillTailTactics
import Derived.BigQuiet
import Derived.Below
import Derived.Deep.QuietTactic
import Derived.WalkKit
import Derived.Deep.RegionHeld3
import Derived.Test.YtlkhmpdncimnfaaGreatDoorCompPack9

/-
  What impl.MinimizeDfa and impl.ComplementDfa answer.
-/
namespace Go.Proofs.YtlkhmpdncimnfaaGreatDoor
open Go.RowKit

theorem accA_run (a : Au) (acc : Nat → Bool) : ∀ (w : List Nat) (q : Nat), (accA a acc).run q w = a.run q w
  | [], _ => rfl
  | k :: w, q => accA_run a acc w (a.T q k)
theorem accA_cnt (a : Au) (acc : Nat → Bool) : ∀ t, (accA a acc).cnt t = a.cnt t
  | 0 => rfl
  | t + 1 => by simp only [Au.cnt, accA_cnt a acc t]; rfl
/-- The complement, as an automaton. -/
def negA (a : Au) : Au := accA a fun q => !a.A q
theorem negA_canon {m : Au} (h : Canon m) : Canon (negA m) where
  pos := h.pos
  lt := h.lt
  sep := fun i j hi hj he => h.sep i j hi hj (fun w hw => by
    have h1 := he w hw
    rw [negA, accA_run, accA_run] at h1
    have h2 : (!m.A (m.run i w)) = (!m.A (m.run j w)) := h1
    simpa using h2)
  next := fun t ht => by
    rw [negA, accA_cnt]
    exact h.next t ht
  seen := fun i hi => by
    rw [negA, accA_cnt]
    exact h.seen i hi
  all := by
    rw [negA, accA_cnt]
    exact h.all
theorem negA_eqv {m a : Au} (h : Eqv m 0 a 0) : Eqv (negA m) 0 (negA a) 0 := fun w hw => by
  rw [negA, negA, accA_run, accA_run]
  show (!m.A (m.run 0 w)) = (!a.A (a.run 0 w))
  rw [h w hw]
theorem negA_fields (m : Au) : fieldsOf (negA m) = comD (fieldsOf m) := by
  unfold fieldsOf comD
  simp [accOf, nxtOf, negA, accA, Function.comp_def]

set_option maxRecDepth 100000 in
set_option maxHeartbeats 3200000 in
theorem implCom_any (va vn : Value) (d y : Dx) (S : Nat → Prop) (w : World) (h : DfaV w S va vn d) (hy : minR d y) :
    Calls Tryz.prog 42 #[.agg #[va, vn]] w (CopyD (comD y) w) := by
  have hmf : ∀ (fn : Fn) (first cap : Array Value) (w : World), (Instr.makeFunc fn first cap).run Tryz.prog w = .ok (.func fn first cap) w := fun _ _ _ _ => rfl
  obtain ⟨W0, hW0⟩ : ∃ W0, W0 = (w.alloc (.cells #[va, vn] 29)).alloc (.cells #[.slice none 0 0, .slice none 0 0] 29) := ⟨_, rfl⟩
  have HB0 : Hid (Below w.heap.size w W0) := Lib.hid (by rw [hW0]; exact ((Below.refl _ _).alloc (Nat.le_refl _) _).alloc (by simp) _)
  have HX : Hid (Bx2 W0 w.heap.size va vn) := Lib.hid (by
    have k := box2_kept (w := w) (w1 := W0) (a := va) (b := vn) (t := 29) (by rw [hW0]; exact (Below.refl _ _).alloc (by simp) _)
    exact ⟨k.2.1, k.2.2.1⟩)
  have HY : Hid (W0.heap[w.heap.size + 1]? = some (.cells #[.slice none 0 0, .slice none 0 0] 29 (0, 0))) := Lib.hid (by rw [hW0]; exact three2 w _ _ _ _)
  have HM : Hid (Calls Tryz.prog 83 #[.agg #[va, vn], .func (.func 84) #[] #[.pointer (some ⟨w.heap.size, 0, none⟩)]] W0 (CopyD (comD y) W0)) := Lib.hid (by
    unfold minR at hy
    by_cases hv : validD d = true
    · simp only [hv, if_true] at hy
      obtain ⟨m0, n1, n2, rfl⟩ := hy
      obtain ⟨hw, hn40, hnn, hl, ad, c, ad', c', hva, hvn, hA, hT⟩ := h.au hv
      refine (implMinSt_yes va vn d S _ _ enters_rej (fun q => !(auD d).A q) W0 (h.kept HB0.out) hv (fun V x hV hx => ?_)).mono ?_
      · have h1 := hA x hx
        have hb := HB0.out.trans (hV.mono HB0.out.size)
        exact (implRejQ_any w.heap.size ad _ c x _ V hx (by rw [← hva]; exact (HX.out.kept hV).1) ((hb.cell (cell_in h1)).trans h1)).mono (fun e w' he => ⟨he.1, by rw [← he.2]; exact Below.refl _ _⟩)
      · rintro e w' ⟨m, m1, m2, hcd⟩
        have m2' : Eqv m 0 (negA (auD d)) 0 := m2
        rw [← negA_fields, fields_one (negA_canon n1) m1 ((negA_eqv n2).swap m2')]
        exact hcd
    · simp only [hv] at hy
      obtain rfl : y = ⟨[], []⟩ := by simpa using hy
      exact implMinSt_no va vn d S _ _ W0 (h.kept HB0.out) (by simpa using hv))
  obtain ⟨⟨A, c, rfl⟩, A', c', rfl⟩ := h.shape
  obtain ⟨hc00, hc01⟩ := HX.out
  rw [hW0] at hc00 hc01
  clear h hy
  go_enter Tryz.func42, Tryz.ntmps42
  go_wp2_with fail
  go_at_call 83
  rw [← hW0]
  refine HM.out.mono ?_
  rintro e w3 hcd
  obtain ⟨A1, p1, A2, p2, rfl, hoo, hb3⟩ := hcd.shape
  obtain ⟨x1, hx1⟩ : ∃ x, x = (comD y).acc.length := ⟨_, rfl⟩
  obtain ⟨x2, hx2⟩ : ∃ x, x = (comD y).nxt.length := ⟨_, rfl⟩
  rw [← hx1, ← hx2] at hoo ⊢
  have HO3 := Lib.hid hoo
  have HB3 := Lib.hid hb3
  obtain ⟨c0, c1, k0, k1⟩ := box2_facts ((hb3.block _ (blk_lt HY.out)).trans HY.out)
  obtain ⟨hcl, hsz, hot, hBl⟩ := put2 (k := .slice A1 x1 p1) (l := .slice A2 x2 p2) c0 c1
  obtain ⟨hc0, hc1⟩ := hcl
  have HOt := Lib.hid (And.intro hsz (And.intro hot hBl))
  clear hsz hot hBl hoo hb3 hcd hx1 hx2 hc00 hc01 hW0
  go_wp2_with fail
  refine bodyPost_ret (v := .agg #[.slice A1 x1 p1, .slice A2 x2 p2]) (by simp [results, Tryz.results42, go_sem, hc0, hc1]) rfl ?_
  have hyl := blk_lt HY.out
  have h0 := HB0.out.size
  exact ⟨_, _, rfl, HO3.out.mono (fun g hg => HOt.out.2.1 g (by have := hg.1; omega)) (fun g hg => ⟨by have := hg.1; omega, by rw [HOt.out.1]; exact hg.2⟩) (by rw [HOt.out.1]; exact Nat.le_refl _), HOt.out.2.2 _ _ (HB0.out.trans (HB3.out.mono h0)) (Nat.le_succ _)⟩
end Go.Proofs.YtlkhmpdncimnfaaGreatDoor

/-
  What impl.WordDfa and the closures that it makes answer.
-/
namespace Go.Proofs.YtlkhmpdncimnfaaGreatDoor
open Go.RowKit

set_option maxRecDepth 100000 in
set_option maxHeartbeats 1600000 in
theorem implWd1_any (bs bo i k : Nat) (s : ByteArray) (w : World) (hs : s.size ≤ 30) (hi : i < s.size + 2) (c0 : w.cell? ⟨bs, 0, none⟩ = some (.string s)) (c1 : w.cell? ⟨bo, 0, none⟩ = some (.int .i64 ((s.size : Int) + 1))) :
    Calls Tryz.prog 65 #[.int .i64 (i : Int), .int .i64 (k : Int), .pointer (some ⟨bs, 0, none⟩), .pointer (some ⟨bo, 0, none⟩)] w fun e w' => e = .returned (.int .i64 ((wdT s.data.toList i k : Nat) : Int)) ∧ w = w' := by
  have hl : s.data.toList.length = s.size := by simp
  by_cases hlt : i < s.size
  · have e1 : decide ((i : Int) < (s.size : Int)) = true := by simp; omega
    have e2 : (0 : Int) ≤ (i : Int) := by omega
    have e3 : (i : Int) < (s.size : Int) := by omega
    have hg : s.data.toList.getD i 0 = s[i] := by
      rw [List.getD_eq_getElem?_getD, List.getElem?_eq_getElem (by omega)]
      rfl
    by_cases hy : letIdx s[i] = (k : Int)
    · have HR : Hid (((wdT s.data.toList i k : Nat) : Int) = (i : Int) + 1) := Lib.hid (by rw [wdT_yes (by omega) (by rw [hg]; exact hy)]; rfl)
      have e4 : (letIdx s[i] == (k : Int)) = true := by simp [hy]
      clear hy hg hl
      go_enter Tryz.func65, Tryz.ntmps65
      go_wp2_with (go_at_call 66; refine (implLet_any _ _).mono ?_; rintro e w' ⟨rfl, rfl⟩)
      go_ret
      exact ⟨congrArg (fun z : Int => Ending.returned (.int .i64 z)) HR.out.symm, rfl⟩
    · have HR : Hid (((wdT s.data.toList i k : Nat) : Int) = (s.size : Int) + 1) := Lib.hid (by rw [wdT_no (by rw [hg]; exact fun h => hy h.2), hl]; rfl)
      have e4 : (letIdx s[i] == (k : Int)) = false := by simp [hy]
      clear hy hg hl
      go_enter Tryz.func65, Tryz.ntmps65
      go_wp2_with (go_at_call 66; refine (implLet_any _ _).mono ?_; rintro e w' ⟨rfl, rfl⟩)
      go_ret
      exact ⟨congrArg (fun z : Int => Ending.returned (.int .i64 z)) HR.out.symm, rfl⟩
  · have e1 : decide ((i : Int) < (s.size : Int)) = false := by simp; omega
    have HR : Hid (((wdT s.data.toList i k : Nat) : Int) = (s.size : Int) + 1) := Lib.hid (by rw [wdT_no (by omega), hl]; rfl)
    clear hl
    go_enter Tryz.func65, Tryz.ntmps65
    go_wp2_with fail
    go_ret
    exact ⟨congrArg (fun z : Int => Ending.returned (.int .i64 z)) HR.out.symm, rfl⟩
theorem implWd2_any (bs i : Nat) (s : ByteArray) (w : World) (c0 : w.cell? ⟨bs, 0, none⟩ = some (.string s)) :
    Calls Tryz.prog 68 #[.int .i64 (i : Int), .pointer (some ⟨bs, 0, none⟩)] w fun e w' => e = .returned (.bool (decide (i = s.data.toList.length))) ∧ w = w' := by
  have HR : Hid (decide (i = s.data.toList.length) = ((i : Int) == (s.size : Int))) := Lib.hid (by
    have hl : s.data.toList.length = s.size := by simp
    rw [hl]
    by_cases h : i = s.size
    · simp [h]
    · have h' : ¬ ((i : Int) = (s.size : Int)) := by omega
      simp [h, h'])
  go_enter Tryz.func68, Tryz.ntmps68
  go_wp2_with fail
  go_ret
  exact ⟨congrArg (fun b : Bool => Ending.returned (.bool b)) HR.out.symm, rfl⟩
theorem enters_wd1 (args : Array Value) (w : World) : (callFunc 65 args).run Tryz.prog w = .ok (.enter 65 args) w := enters_of Tryz.func65 (by kernel_rfl) rfl args w
theorem enters_wd2 (args : Array Value) (w : World) : (callFunc 68 args).run Tryz.prog w = .ok (.enter 68 args) w := enters_of Tryz.func68 (by kernel_rfl) rfl args w

set_option maxRecDepth 100000 in
set_option maxHeartbeats 3200000 in
theorem implWd_any (s : ByteArray) (hss : s.size ≤ maxLen) (y : Dx) (ok : Bool) (hy : wordR s.data.toList y ok) (w : World) :
    Calls Tryz.prog 38 #[.string s] w (CopyDB y ok w) := by
  have hmf : ∀ (fn : Fn) (first cap : Array Value) (w : World), (Instr.makeFunc fn first cap).run Tryz.prog w = .ok (.func fn first cap) w := fun _ _ _ _ => rfl
  have HV := Lib.hid (fun V => implIsWord_any s V hss)
  obtain ⟨W0, hW0⟩ : ∃ W0, W0 = (w.alloc (.cells #[.string s] 9)).alloc (.cells #[.slice none 0 0, .slice none 0 0] 29) := ⟨_, rfl⟩
  have HB0 : Hid (Below w.heap.size w W0) := Lib.hid (by rw [hW0]; exact ((Below.refl _ _).alloc (Nat.le_refl _) _).alloc (by simp) _)
  have HX : Hid (W0.heap[w.heap.size]? = some (.cells #[.string s] 9 (0, 0))) := Lib.hid (by rw [hW0]; exact (Below.heap_alloc _ _ _ (by simp)).trans (heap_alloc_new w _))
  have HY : Hid (W0.heap[w.heap.size + 1]? = some (.cells #[.slice none 0 0, .slice none 0 0] 29 (0, 0))) := Lib.hid (by rw [hW0]; exact three2 w _ _ _ _)
  have hc := (cell_of_row W0 w.heap.size 0 _ _ (0, 0) HX.out).trans rfl
  have HYy := Lib.hid hy
  rw [hW0] at hc
  cases hw : isW s.data.toList with
  | false =>
    obtain ⟨rfl, rfl⟩ := wordR_no hy hw
    rw [hw] at HV
    have hz : W0.cell? ⟨w.heap.size + 1, 0, none⟩ = some (.slice none 0 0) ∧ W0.cell? ⟨w.heap.size + 1, 1, none⟩ = some (.slice none 0 0) := ⟨(box2_facts HY.out).1, (box2_facts HY.out).2.1⟩
    obtain ⟨z0, z1⟩ := hz
    clear hy hw
    go_enter Tryz.func38, Tryz.ntmps38
    go_wp2_with (go_at_call 64; refine (HV.out _).mono ?_; rintro e w' ⟨rfl, rfl⟩)
    rw [← hW0]
    refine bodyPost_ret (v := .tuple #[.agg #[.slice none 0 0, .slice none 0 0], .bool false]) (by simp [results, Tryz.results38, go_sem, z0, z1]) rfl ?_
    exact ⟨_, _, rfl, DfaO.empty _ _, HB0.out⟩
  | true =>
    rw [hw] at HV
    have h30 : s.size ≤ 30 := by
      have := isW_len hw
      simpa using this
    have hl : s.data.toList.length = s.size := by simp
    obtain ⟨N, hN, hE⟩ := ends_some (s0 := 0) (g := (wdA s.data.toList).T) (M := s.data.toList.length + 2) (fun t => (own_keys (wdA_wf _) t).2)
    obtain ⟨f1, f2, f3⟩ := own_found (wdA_wf s.data.toList) hE
    obtain ⟨m, m1, m2, m3⟩ := exists_min (hE.wf (wdA s.data.toList).A)
    have m4 := m2.trans f2
    obtain ⟨rfl, rfl⟩ := wordR_yes hy hw m1 m4
    have hm40 := wd_small hw m1 m4
    have hsr : srchR 40 0 (wdT s.data.toList) (fun i => decide (i = s.data.toList.length)) (fieldsOf m) true := .inl ⟨N, by omega, hE, m, m1, m2, by unfold fitD; rw [if_pos hm40], by simp [hm40]⟩
    obtain ⟨W2, hW2⟩ : ∃ W2, W2 = W0.alloc (.cells #[.int .i64 ((s.size : Int) + 1)] 3) := ⟨_, rfl⟩
    have HB2 : Hid (Below W0.heap.size W0 W2) := Lib.hid (by rw [hW2]; exact (Below.refl _ _).alloc (Nat.le_refl _) _)
    have HX2 : Hid (W2.heap[W0.heap.size]? = some (.cells #[.int .i64 ((s.size : Int) + 1)] 3 (0, 0))) := Lib.hid (by rw [hW2]; exact heap_alloc_new W0 _)
    have hz0 : W0.heap.size = w.heap.size + 1 + 1 := by rw [hW0]; simp
    have HMd : Hid (Calls Tryz.prog 67 #[.int .i64 0, .func (.func 65) #[] #[.pointer (some ⟨w.heap.size, 0, none⟩), .pointer (some ⟨W0.heap.size, 0, none⟩)], .func (.func 68) #[] #[.pointer (some ⟨w.heap.size, 0, none⟩)], .int .i64 40] W2 (CopyDB (fieldsOf m) true W2)) := Lib.hid (by
      refine implMdI_any _ _ _ _ enters_wd1 enters_wd2 (wdT s.data.toList) (fun i => decide (i = s.data.toList.length)) (s.data.toList.length + 2) 40 0 W2 (by omega) (by omega) (by omega) (by omega) (fun x k _ _ => wdT_lt _ x k) (fun U x k hU hx hk => ?_) (fun U x hU hx => ?_) _ _ hsr
      · have q0 := (cell_of_row U w.heap.size 0 _ _ (0, 0) ((hU.block _ (Nat.lt_of_lt_of_le (blk_lt HX.out) HB2.out.size)).trans ((HB2.out.block _ (blk_lt HX.out)).trans HX.out))).trans rfl
        have q1 := (cell_of_row U W0.heap.size 0 _ _ (0, 0) ((hU.block _ (blk_lt HX2.out)).trans HX2.out)).trans rfl
        exact (implWd1_any w.heap.size W0.heap.size x k s U h30 (by omega) q0 q1).mono (fun e w' he => ⟨he.1, by rw [← he.2]; exact Below.refl _ _⟩)
      · have q0 := (cell_of_row U w.heap.size 0 _ _ (0, 0) ((hU.block _ (Nat.lt_of_lt_of_le (blk_lt HX.out) HB2.out.size)).trans ((HB2.out.block _ (blk_lt HX.out)).trans HX.out))).trans rfl
        exact (implWd2_any w.heap.size x s U q0).mono (fun e w' he => ⟨he.1, by rw [← he.2]; exact Below.refl _ _⟩))
    rw [hz0] at HMd
    clear hy hw hl hN hE f1 f2 f3 m1 m2 m3 m4 hm40 hsr HYy hz0
    go_enter Tryz.func38, Tryz.ntmps38
    go_upto_region 4 with (go_at_call 64; refine (HV.out _).mono ?_; rintro e w' ⟨rfl, rfl⟩)
    rw [← hW0, ← hW2]
    clear hc hW0 hW2
    go_wp2_with fail
    go_at_call 67
    refine HMd.out.mono ?_
    rintro e w3 hcd
    obtain ⟨A1, p1, A2, p2, rfl, hoo, hb3⟩ := hcd.shape
    obtain ⟨x1, hx1⟩ : ∃ x, x = (fieldsOf m).acc.length := ⟨_, rfl⟩
    obtain ⟨x2, hx2⟩ : ∃ x, x = (fieldsOf m).nxt.length := ⟨_, rfl⟩
    rw [← hx1, ← hx2] at hoo ⊢
    have HO3 := Lib.hid hoo
    have HB3 := Lib.hid (HB2.out.trans (hb3.mono HB2.out.size))
    have hz2 := HB2.out.size
    have hz3 := hb3.size
    have hyl := blk_lt HY.out
    obtain ⟨c0, c1, k0, k1⟩ := box2_facts ((HB3.out.block _ hyl).trans HY.out)
    obtain ⟨hcl, hsz, hot, hBl⟩ := put2 (k := .slice A1 x1 p1) (l := .slice A2 x2 p2) c0 c1
    obtain ⟨hc0, hc1⟩ := hcl
    have HOt := Lib.hid (And.intro hsz (And.intro hot hBl))
    clear hsz hot hBl hoo hb3 hcd hx1 hx2
    go_wp2_with fail
    refine bodyPost_ret (v := .tuple #[.agg #[.slice A1 x1 p1, .slice A2 x2 p2], .bool true]) (by simp [results, Tryz.results38, go_sem, hc0, hc1]) rfl ?_
    have h0 := HB0.out.size
    exact ⟨_, _, rfl, HO3.out.mono (fun g hg => HOt.out.2.1 g (by have := hg.1; omega)) (fun g hg => ⟨by have := hg.1; omega, by rw [HOt.out.1]; exact hg.2⟩) (by rw [HOt.out.1]; exact Nat.le_refl _), HOt.out.2.2 _ _ (HB0.out.trans (HB3.out.mono h0)) (by omega)⟩
end Go.Proofs.YtlkhmpdncimnfaaGreatDoor

/-
  What impl.compileAll, impl.compile and impl.CompileRegex answer: the automaton of an expression, and whether there is one.
-/
namespace Go.Proofs.YtlkhmpdncimnfaaGreatDoor
open Go.RowKit

/-- A part of a row, and what its call answers. -/
structure KidC (cp : Nat) (w : World) (A : Option Addr) (j : Nat) (x : Int × ByteArray × Fr) (d : Dx × Bool) (g o : Nat) (A' : Option Addr) (c' : Nat) : Prop where
  at_ : A = some ⟨g, o, none⟩
  lt : g < w.heap.size
  el : ElAt w g (o + j * 3) x.1 x.2.1 (.slice A' x.2.2.items.length c')
  call : ∀ W, Below w.heap.size w W → Calls Tryz.prog cp #[.agg #[.int .i64 x.1, .string x.2.1, .slice A' x.2.2.items.length c']] W (CopyDB d.1 d.2 W)

set_option maxRecDepth 100000 in
set_option maxHeartbeats 3200000 in
theorem compileAll_any (A : Option Addr) (c : Nat) (a : Fr) (L : List (Dx × Bool)) (w0 w : World) (hb0 : Below w0.heap.size w0 w) (hl2 : a.items.length ≤ 2) (hlen : L.length = a.items.length)
    (hkid : ∀ j x d, a.items[j]? = some x → L[j]? = some d → ∃ g o A' c', KidC 18 w0 A j x d g o A' c') :
    Calls Tryz.prog 36 #[.slice A a.items.length c] w fun e w' => ∃ v xs, e = .returned (.tuple #[v, .bool (L.all (·.2))]) ∧ (L.all (·.2) = true → RowX w.heap.size w' v (L.map (·.1)) xs) ∧ Below w.heap.size w w' := by
  obtain ⟨r0, hr0, hrz, hrs, hrb⟩ : ∃ i : TypeInfo, Tryz.prog.info? 29 = some i ∧ i.zero = some (.agg #[.slice none 0 0, .slice none 0 0]) ∧ i.size = 2 ∧ i.bytes = 48 := ⟨(Tryz.prog.info? 29).get!, by kernel_rfl, by kernel_rfl, by kernel_rfl, by kernel_rfl⟩
  have HKID := Lib.hid hkid
  have HB0 := Lib.hid hb0
  have HLen := Lib.hid hlen
  have hz0 := hb0.size
  clear hkid hb0 hlen
  go_enter Tryz.func36, Tryz.ntmps36
  go_wp2_with fail
  go_loopw [4, 11] (fun pv iv wr => ∃ (j : Nat) (xs : List Value), iv = .int .i64 j ∧ j ≤ a.items.length ∧ (L.take j).all (·.2) = true ∧ RowX w.heap.size wr pv ((L.take j).map (·.1)) xs ∧ Below w.heap.size w wr) (fun _ iv _ => a.items.length - (intOf iv).toNat)
  case atStart => exact ⟨0, [], rfl, Nat.zero_le _, rfl, RowX.start _ _, Below.refl _ _⟩
  case round =>
    obtain ⟨j, xs, rfl, hj, hall, hrow, hb⟩ := hrel
    have HB := Lib.hid hb
    have HR := Lib.hid hrow
    have HAll := Lib.hid hall
    have hwz : w.heap.size ≤ wr.heap.size := hb.size
    have hLl : ((L.take j).map (·.1)).length = j := by
      rw [List.length_map, List.length_take, HLen.out]
      omega
    by_cases hlt : j < a.items.length
    · obtain ⟨x, hx⟩ : ∃ x, a.items[j]? = some x := ⟨_, List.getElem?_eq_getElem hlt⟩
      obtain ⟨d, hd⟩ : ∃ d, L[j]? = some d := ⟨_, List.getElem?_eq_getElem (by rw [HLen.out]; exact hlt)⟩
      obtain ⟨g, o, A', c', kid⟩ := HKID.out j x d hx hd
      have hg := kid.lt
      have hA := kid.at_
      subst hA
      have hbw0 : Below w0.heap.size w0 wr := HB0.out.trans (hb.mono hz0)
      obtain ⟨c0, c1, c2⟩ := kid.el.below hbw0 hg
      obtain ⟨o', ho'⟩ : ∃ o', o' = Obj.cells #[.int .i64 x.1, .string x.2.1, .slice A' x.2.2.items.length c'] 34 := ⟨_, rfl⟩
      have HK := Lib.hid (kid.call (wr.alloc o') (hbw0.alloc (by omega) o'))
      have HR1 := Lib.hid (hrow.below ((Below.refl wr.heap.size wr).alloc (Nat.le_refl _) o'))
      have HB1 := Lib.hid (hb.alloc (by omega) o')
      rw [ho'] at HK HR1 HB1
      have HX := Lib.hid hd
      obtain ⟨d1, d2⟩ := d
      clear kid hx hd hrow hb ho' hbw0 hall
      go_wp2_with fail
      refine HK.out.mono ?_
      rintro e w1 hcd
      obtain ⟨A1, m1, A2, m2, rfl, hs1, hb1⟩ := hcd.shape
      have hz1 := hb1.size
      rw [World.size_alloc] at hz1
      have HR2 := Lib.hid (HR1.out.below hb1)
      have hown := HR2.out.own
      rw [hLl] at hown
      have HOWN := Lib.hid hown
      have HS1 := Lib.hid hs1
      have HB2 := Lib.hid (HB1.out.trans (hb1.mono (by simp; omega)))
      have HBB := Lib.hid hb1
      clear hs1 hb1 hown hcd c0 c1 c2
      obtain ⟨Av, cv, hv⟩ := rowt_shape HOWN.out
      subst hv
      cases d2 with
      | false =>
        have HF : Hid (L.all (·.2) = false) := Lib.hid (by
          rw [List.all_eq_false]
          exact ⟨_, List.mem_of_getElem? HX.out, by simp⟩)
        go_wp2_with fail
        refine bodyPost_ret (v := .tuple #[.slice none 0 0, .bool false]) (by simp [results, Tryz.results36, go_sem]) rfl ?_
        exact ⟨_, [], by rw [HF.out], fun h => (by rw [HF.out] at h; cases h), HB2.out.alloc (by omega) _⟩
      | true =>
        obtain ⟨w2, hw2⟩ : ∃ w2, w2 = w1.alloc (.cells #[.slice A1 d1.acc.length m1, .slice A2 d1.nxt.length m2] 29) := ⟨_, rfl⟩
        have hb2 : Below w1.heap.size w1 w2 := by rw [hw2]; exact (Below.refl _ _).alloc (Nat.le_refl _) _
        have hz2 := hb2.size
        have HOW2 : Hid (w2.ownsRow w.heap.size 29 2 (.slice Av j cv) j xs) := Lib.hid (row_same HOWN.out (fun b hb => hb2.block b (HOWN.out.lt b hb).2))
        have HBW2 := Lib.hid hb2
        have HNEW : Hid (∀ (j : Nat) (u : Value), [Value.slice A1 d1.acc.length m1, .slice A2 d1.nxt.length m2][j]? = some u → (w2.alloc (.cells #[.slice A1 d1.acc.length m1, .slice A2 d1.nxt.length m2] 29)).cell? ((⟨w1.heap.size + 1, 0, none⟩ : Addr).add j) = some u) := Lib.hid (by
          have h := new_two w2 (.slice A1 d1.acc.length m1) (.slice A2 d1.nxt.length m2) 29
          have e : w2.heap.size = w1.heap.size + 1 := by rw [hw2]; simp
          rw [e] at h
          exact h)
        rw [hw2] at HOW2 HBW2 HNEW
        clear hb2
        go_wp2_with (at_builtin; refine wpList_append_own_at _ rfl (.tmp 22) (.tmp 24) 58 rfl w.heap.size 29 r0 (.agg #[.slice none 0 0, .slice none 0 0]) 2 48 Tryz.underlying58 hr0 hrz hrs hrb rfl (by decide) _ _ _ rfl (HOW2.out.alloc _) ⟨w1.heap.size + 1, 0, none⟩ 1 1 _ rfl rfl HNEW.out (by simp [Value.oneCell']) (by unfold maxLen; omega) (by omega) (by simp; omega) ?_)
        intro v' w3 hown' hgrow hnil hat
        have hgz := hgrow.size
        simp only [World.size_alloc] at hgz
        have HN := Lib.hid (HR1.out.step (d := d1) (by simp; omega) HBB.out HS1.out.dfa (by rw [hLl]; exact hown') (by omega) (fun g h1 h2 => (hgrow.block g (by simp; omega) (Ne.symm h2)).trans ((Below.heap_alloc _ _ _ (by simp; omega)).trans (Below.heap_alloc _ _ _ h1))) (hat.imp id (fun h => ⟨_, h, by omega⟩)))
        have htk : L.take (j + 1) = L.take j ++ [(d1, true)] := by rw [List.take_add_one, HX.out]; rfl
        rw [show (L.take j).map (·.1) ++ [d1] = (L.take (j + 1)).map (·.1) by rw [htk, List.map_append]; rfl] at HN
        have HA1 : Hid ((L.take (j + 1)).all (·.2) = true) := Lib.hid (by rw [htk, List.all_append, HAll.out]; rfl)
        have HB3 := Lib.hid (((HB2.out.alloc (by omega) _).alloc (by simp; omega) _).grown hgrow (by simp; omega) (fun g hg => (HOWN.out.lt g hg).1))
        clear hown' hgrow hat htk hgz
        go_wp2_with fail
        go_roundw
        case rel => exact ⟨j + 1, _, by go_num, by omega, HA1.out, HN.out, HB3.out⟩
        case measure => simp [intOf]; omega
    · obtain rfl : j = a.items.length := by omega
      have hfull : L.take a.items.length = L := by rw [← HLen.out]; exact List.take_length
      rw [hfull] at HR HAll
      have hL2 : (L.map (·.1)).length = a.items.length := by rw [List.length_map]; exact HLen.out
      obtain ⟨Av, cv, hv⟩ := rowt_shape HR.out.own
      rw [hL2] at hv
      subst hv
      clear hrow hb hall hLl
      go_wp2_with fail
      refine bodyPost_ret (v := .tuple #[.slice Av a.items.length cv, .bool true]) (by simp [results, Tryz.results36, go_sem]) rfl ?_
      exact ⟨_, _, by rw [HAll.out], fun _ => HR.out, HB.out⟩
/-- What compileAll answers. -/
def AllP (L : List (Dx × Bool)) (w : World) (e : Ending) (w' : World) : Prop := ∃ v xs, e = .returned (.tuple #[v, .bool (L.all (·.2))]) ∧ (L.all (·.2) = true → RowX w.heap.size w' v (L.map (·.1)) xs) ∧ Below w.heap.size w w'
set_option maxRecDepth 100000 in
set_option maxHeartbeats 3200000 in
theorem icomp_fail (k : Int) (l : ByteArray) (A : Option Addr) (m c : Nat) (w : World) (L : List (Dx × Bool)) (hL : L.all (·.2) = false)
    (hAll : ∀ W, Below w.heap.size w W → Calls Tryz.prog 36 #[.slice A m c] W (AllP L W)) :
    Calls Tryz.prog 18 #[.agg #[.int .i64 k, .string l, .slice A m c]] w (CopyDB ⟨[], []⟩ false w) := by
  obtain ⟨W0, hW0⟩ : ∃ W0, W0 = (w.alloc (.cells #[.int .i64 k, .string l, .slice A m c] 34)).alloc (.cells #[.slice none 0 0, .slice none 0 0] 29) := ⟨_, rfl⟩
  have HB0 : Hid (Below w.heap.size w W0) := Lib.hid (by rw [hW0]; exact ((Below.refl _ _).alloc (Nat.le_refl _) _).alloc (by simp) _)
  have HP : Hid (W0.heap[w.heap.size]? = some (.cells #[.int .i64 k, .string l, .slice A m c] 34 (0, 0))) := Lib.hid (by rw [hW0]; exact (Below.heap_alloc _ _ _ (by simp)).trans (heap_alloc_new w _))
  have HY : Hid (W0.heap[w.heap.size + 1]? = some (.cells #[.slice none 0 0, .slice none 0 0] 29 (0, 0))) := Lib.hid (by rw [hW0]; exact three2 w _ _ _ _)
  have hyl := blk_lt HY.out
  have hpl := blk_lt HP.out
  have HA := Lib.hid (hAll W0 HB0.out)
  clear hAll
  go_enter Tryz.func18, Tryz.ntmps18
  go_wp2_with fail
  go_at_call 36
  rw [← hW0]
  clear hW0
  refine HA.out.mono ?_
  rintro e w1 ⟨v, xs, rfl, -, hb1⟩
  rw [hL]
  have HF := Lib.hid (res_end (W1 := W0) ((hb1.block _ hyl).trans HY.out) (by omega) hyl (DfaO.empty _ _) (HB0.out.trans (hb1.mono HB0.out.size)))
  obtain ⟨⟨⟨z0, k0⟩, ⟨z1, k1⟩, k2, k3⟩, -⟩ := HF.out
  clear hb1
  go_wp2_with fail
  obtain ⟨-, ⟨hc0, hc1⟩, hd, hb⟩ := HF.out
  refine bodyPost_ret (v := .tuple #[.agg #[.slice none 0 0, .slice none 0 0], .bool false]) (by simp [results, Tryz.results18, go_sem, hc0, hc1]) rfl ?_
  exact ⟨_, _, rfl, hd, hb⟩
theorem enters_icat : ∀ args w, (callFunc 39 args).run Tryz.prog w = .ok (.enter 39 args) w := enters_of Tryz.func39 (by kernel_rfl) rfl
theorem enters_ipro : ∀ args w, (callFunc 40 args).run Tryz.prog w = .ok (.enter 40 args) w := enters_of Tryz.func40 (by kernel_rfl) rfl
set_option maxRecDepth 100000 in
set_option maxHeartbeats 3200000 in
theorem icomp_1 (l : ByteArray) (A : Option Addr) (c : Nat) (w : World) (y : Dx) (ok : Bool) (hy : y = rxNone ∧ ok = true)
    (hAll : ∀ W, Below w.heap.size w W → Calls Tryz.prog 36 #[.slice A 0 c] W (AllP [] W))
    (hF : ∀ W, Below w.heap.size w W → Calls Tryz.prog 37 #[.agg #[.int .i64 1, .string l, .slice A 0 c]] W (FormPost (.iface 67 (.agg #[])) W)) :
    Calls Tryz.prog 18 #[.agg #[.int .i64 1, .string l, .slice A 0 c]] w (CopyDB y ok w) := by
  obtain ⟨W0, hW0⟩ : ∃ W0, W0 = (w.alloc (.cells #[.int .i64 1, .string l, .slice A 0 c] 34)).alloc (.cells #[.slice none 0 0, .slice none 0 0] 29) := ⟨_, rfl⟩
  have HB0 : Hid (Below w.heap.size w W0) := Lib.hid (by rw [hW0]; exact ((Below.refl _ _).alloc (Nat.le_refl _) _).alloc (by simp) _)
  have HP : Hid (W0.heap[w.heap.size]? = some (.cells #[.int .i64 1, .string l, .slice A 0 c] 34 (0, 0))) := Lib.hid (by rw [hW0]; exact (Below.heap_alloc _ _ _ (by simp)).trans (heap_alloc_new w _))
  have HY : Hid (W0.heap[w.heap.size + 1]? = some (.cells #[.slice none 0 0, .slice none 0 0] 29 (0, 0))) := Lib.hid (by rw [hW0]; exact three2 w _ _ _ _)
  have hyl := blk_lt HY.out
  have hpl := blk_lt HP.out
  have HA := Lib.hid (hAll W0 HB0.out)
  have HF := Lib.hid (fun (V : World) (hV : Below W0.heap.size W0 V) => hF V (HB0.out.trans (hV.mono HB0.out.size)))
  have py := yes_noneForm
  clear hAll hF
  go_enter Tryz.func18, Tryz.ntmps18
  go_wp2_with fail
  go_at_call 36
  rw [← hW0]
  clear hW0
  refine HA.out.mono ?_
  rintro e w1 ⟨v, xs, rfl, hrow, hb1⟩
  rw [show ([] : List (Dx × Bool)).all (·.2) = true from rfl]
  have hrow := hrow rfl
  obtain ⟨Av, cv, rfl⟩ := rowt_shape hrow.own
  clear hrow
  have HB1 := Lib.hid hb1
  obtain ⟨q0, q1, q2, -, -, -⟩ := three_at HB1.out hpl HP.out
  clear hb1
  go_wp2_with fail
  go_at_call 37
  refine (HF.out w1 HB1.out).mono ?_
  rintro e w2 ⟨rfl, hb2⟩
  have HB2 := Lib.hid (HB1.out.trans (hb2.mono HB1.out.size))
  clear q0 q1 q2 hb2
  obtain ⟨rfl, rfl⟩ := hy
  obtain ⟨W3, hW3⟩ : ∃ W3, W3 = (((w2.alloc (.cells #[] 67)).alloc (.cells #[.bool false] 4)).alloc (.cells #[.int .i64 0, .int .i64 0, .int .i64 0] 3)).alloc (.cells #[.slice (some ⟨w2.heap.size + 1 + 1, 0, none⟩) 3 3] 68) := ⟨_, rfl⟩
  have hb23 : Below w2.heap.size w2 W3 := by
    rw [hW3]
    refine Below.alloc ?_ (by simp; try omega) _
    refine Below.alloc ?_ (by simp; try omega) _
    refine Below.alloc ?_ (by simp; try omega) _
    exact (Below.refl _ _).alloc (Nat.le_refl _) _
  have hz3 : W3.heap.size = w2.heap.size + 1 + 1 + 1 + 1 := by rw [hW3]; simp
  have hD : DfaO W3 (OwnB w2 W3) (.slice (some ⟨w2.heap.size + 1, 0, none⟩) 1 1) (.slice (some ⟨w2.heap.size + 1 + 1 + 1, 0, none⟩) 1 1) rxNone := by
    refine lit_dfa (ta := 4) (tn := 68) (tr := 3) (gs := [w2.heap.size + 1 + 1]) (by rw [hW3]; simp only [al_at, World.size_alloc, bools]; simp) (by rw [hW3]; simp only [al_at, World.size_alloc]; simp) (fun j g r hg hr => ?_) rfl (fun i j g hi hj => ?_) ?_ ?_ (by omega) (by simp) (by simp)
    · match j, hg, hr with
    | 0, hg, hr =>
      cases hg
      cases hr
      exact ⟨by rw [hW3]; simp only [al_at, World.size_alloc, ints]; simp, rfl, ⟨by omega, by omega⟩, by omega, by omega⟩
    | j + 1, hg, hr => simp at hg
    · have h1 := (List.getElem?_eq_some_iff.1 hi).1
      have h2 := (List.getElem?_eq_some_iff.1 hj).1
      simp only [List.length_cons, List.length_nil] at h1 h2
      omega
    · exact ⟨by omega, by omega⟩
    · exact ⟨by omega, by omega⟩
  have HB3 := Lib.hid (HB2.out.trans (hb23.mono HB2.out.size))
  have HF := Lib.hid (res_end ((HB3.out.block _ hyl).trans HY.out) (by omega) (by have := HB2.out.size; omega) hD (HB0.out.trans (HB3.out.mono HB0.out.size)))
  rw [hW3] at HF
  obtain ⟨⟨⟨z0, k0⟩, ⟨z1, k1⟩, k2, k3⟩, -⟩ := HF.out
  clear hW3 hD hb23 hz3
  go_wp2_with fail
  obtain ⟨-, ⟨hc0, hc1⟩, hd, hb⟩ := HF.out
  refine bodyPost_ret (v := .tuple #[.agg #[.slice (some ⟨w2.heap.size + 1, 0, none⟩) 1 1, .slice (some ⟨w2.heap.size + 1 + 1 + 1, 0, none⟩) 1 1], .bool true]) (by simp [results, Tryz.results18, go_sem, hc0, hc1]) rfl ?_
  exact ⟨_, _, rfl, hd, hb⟩
set_option maxRecDepth 100000 in
set_option maxHeartbeats 3200000 in
theorem icomp_2 (l : ByteArray) (A : Option Addr) (c : Nat) (w : World) (y : Dx) (ok : Bool) (hy : wordR (⟨#[]⟩ : ByteArray).data.toList y ok) (hs : (⟨#[]⟩ : ByteArray).size ≤ 30)
    (hAll : ∀ W, Below w.heap.size w W → Calls Tryz.prog 36 #[.slice A 0 c] W (AllP [] W))
    (hF : ∀ W, Below w.heap.size w W → Calls Tryz.prog 37 #[.agg #[.int .i64 2, .string l, .slice A 0 c]] W (FormPost (.iface 69 (.agg #[])) W)) :
    Calls Tryz.prog 18 #[.agg #[.int .i64 2, .string l, .slice A 0 c]] w (CopyDB y ok w) := by
  obtain ⟨W0, hW0⟩ : ∃ W0, W0 = (w.alloc (.cells #[.int .i64 2, .string l, .slice A 0 c] 34)).alloc (.cells #[.slice none 0 0, .slice none 0 0] 29) := ⟨_, rfl⟩
  have HB0 : Hid (Below w.heap.size w W0) := Lib.hid (by rw [hW0]; exact ((Below.refl _ _).alloc (Nat.le_refl _) _).alloc (by simp) _)
  have HP : Hid (W0.heap[w.heap.size]? = some (.cells #[.int .i64 2, .string l, .slice A 0 c] 34 (0, 0))) := Lib.hid (by rw [hW0]; exact (Below.heap_alloc _ _ _ (by simp)).trans (heap_alloc_new w _))
  have HY : Hid (W0.heap[w.heap.size + 1]? = some (.cells #[.slice none 0 0, .slice none 0 0] 29 (0, 0))) := Lib.hid (by rw [hW0]; exact three2 w _ _ _ _)
  have hyl := blk_lt HY.out
  have hpl := blk_lt HP.out
  have HA := Lib.hid (hAll W0 HB0.out)
  have HF := Lib.hid (fun (V : World) (hV : Below W0.heap.size W0 V) => hF V (HB0.out.trans (hV.mono HB0.out.size)))
  have p0 := no_noneForm
  have py := yes_emptyForm
  clear hAll hF
  go_enter Tryz.func18, Tryz.ntmps18
  go_wp2_with fail
  go_at_call 36
  rw [← hW0]
  clear hW0
  refine HA.out.mono ?_
  rintro e w1 ⟨v, xs, rfl, hrow, hb1⟩
  rw [show ([] : List (Dx × Bool)).all (·.2) = true from rfl]
  have hrow := hrow rfl
  obtain ⟨Av, cv, rfl⟩ := rowt_shape hrow.own
  clear hrow
  have HB1 := Lib.hid hb1
  obtain ⟨q0, q1, q2, -, -, -⟩ := three_at HB1.out hpl HP.out
  clear hb1
  go_wp2_with fail
  go_at_call 37
  refine (HF.out w1 HB1.out).mono ?_
  rintro e w2 ⟨rfl, hb2⟩
  have HB2 := Lib.hid (HB1.out.trans (hb2.mono HB1.out.size))
  clear q0 q1 q2 hb2
  obtain ⟨W3, hW3⟩ : ∃ W3, W3 = w2.alloc (.cells #[] 69) := ⟨_, rfl⟩
  have hb23 : Below w2.heap.size w2 W3 := by rw [hW3]; exact (Below.refl _ _).alloc (Nat.le_refl _) _
  have HB3 := Lib.hid (HB2.out.trans (hb23.mono HB2.out.size))
  have HC := Lib.hid (implWd_any (⟨#[]⟩ : ByteArray) (by unfold maxLen; omega) y ok hy W3)
  have hz3 := HB3.out.size
  clear hb23 hy
  go_wp2_with fail
  go_at_call 38
  rw [← hW3]
  clear hW3
  refine HC.out.mono ?_
  rintro e w4 hcd
  obtain ⟨A5, p5, A6, p6, rfl, hoo, hb4⟩ := hcd.shape
  have HF := Lib.hid (res_end ((hb4.block _ (by omega)).trans ((HB3.out.block _ hyl).trans HY.out)) (by omega) (by omega) hoo (HB0.out.trans ((HB3.out.trans (hb4.mono hz3)).mono HB0.out.size)))
  obtain ⟨⟨⟨z0, k0⟩, ⟨z1, k1⟩, k2, k3⟩, -⟩ := HF.out
  clear hcd hoo hb4
  go_wp2_with fail
  obtain ⟨-, ⟨hc0, hc1⟩, hd, hb⟩ := HF.out
  refine bodyPost_ret (v := .tuple #[.agg #[.slice A5 y.acc.length p5, .slice A6 y.nxt.length p6], .bool ok]) (by simp [results, Tryz.results18, go_sem, hc0, hc1]) rfl ?_
  exact ⟨_, _, rfl, hd, hb⟩
set_option maxRecDepth 100000 in
set_option maxHeartbeats 3200000 in
theorem icomp_3 (l : ByteArray) (A : Option Addr) (c : Nat) (w : World) (y : Dx) (ok : Bool) (hy : wordR l.data.toList y ok) (hs : l.size ≤ 30)
    (hAll : ∀ W, Below w.heap.size w W → Calls Tryz.prog 36 #[.slice A 0 c] W (AllP [] W))
    (hF : ∀ W, Below w.heap.size w W → Calls Tryz.prog 37 #[.agg #[.int .i64 3, .string l, .slice A 0 c]] W (FormPost (.iface 72 (.agg #[.string l])) W)) :
    Calls Tryz.prog 18 #[.agg #[.int .i64 3, .string l, .slice A 0 c]] w (CopyDB y ok w) := by
  obtain ⟨W0, hW0⟩ : ∃ W0, W0 = (w.alloc (.cells #[.int .i64 3, .string l, .slice A 0 c] 34)).alloc (.cells #[.slice none 0 0, .slice none 0 0] 29) := ⟨_, rfl⟩
  have HB0 : Hid (Below w.heap.size w W0) := Lib.hid (by rw [hW0]; exact ((Below.refl _ _).alloc (Nat.le_refl _) _).alloc (by simp) _)
  have HP : Hid (W0.heap[w.heap.size]? = some (.cells #[.int .i64 3, .string l, .slice A 0 c] 34 (0, 0))) := Lib.hid (by rw [hW0]; exact (Below.heap_alloc _ _ _ (by simp)).trans (heap_alloc_new w _))
  have HY : Hid (W0.heap[w.heap.size + 1]? = some (.cells #[.slice none 0 0, .slice none 0 0] 29 (0, 0))) := Lib.hid (by rw [hW0]; exact three2 w _ _ _ _)
  have hyl := blk_lt HY.out
  have hpl := blk_lt HP.out
  have HA := Lib.hid (hAll W0 HB0.out)
  have HF := Lib.hid (fun (V : World) (hV : Below W0.heap.size W0 V) => hF V (HB0.out.trans (hV.mono HB0.out.size)))
  have p0 := no_noneForm
  have p1 := no_emptyForm
  have py := yes_letterForm
  clear hAll hF
  go_enter Tryz.func18, Tryz.ntmps18
  go_wp2_with fail
  go_at_call 36
  rw [← hW0]
  clear hW0
  refine HA.out.mono ?_
  rintro e w1 ⟨v, xs, rfl, hrow, hb1⟩
  rw [show ([] : List (Dx × Bool)).all (·.2) = true from rfl]
  have hrow := hrow rfl
  obtain ⟨Av, cv, rfl⟩ := rowt_shape hrow.own
  clear hrow
  have HB1 := Lib.hid hb1
  obtain ⟨q0, q1, q2, -, -, -⟩ := three_at HB1.out hpl HP.out
  clear hb1
  go_wp2_with fail
  go_at_call 37
  refine (HF.out w1 HB1.out).mono ?_
  rintro e w2 ⟨rfl, hb2⟩
  have HB2 := Lib.hid (HB1.out.trans (hb2.mono HB1.out.size))
  clear q0 q1 q2 hb2
  obtain ⟨W3, hW3⟩ : ∃ W3, W3 = w2.alloc (.cells #[.string l] 72) := ⟨_, rfl⟩
  have hb23 : Below w2.heap.size w2 W3 := by rw [hW3]; exact (Below.refl _ _).alloc (Nat.le_refl _) _
  have HB3 := Lib.hid (HB2.out.trans (hb23.mono HB2.out.size))
  have HC := Lib.hid (implWd_any l (by unfold maxLen; omega) y ok hy W3)
  have hz3 := HB3.out.size
  clear hb23 hy
  go_wp2_with fail
  go_at_call 38
  rw [← hW3]
  clear hW3
  refine HC.out.mono ?_
  rintro e w4 hcd
  obtain ⟨A5, p5, A6, p6, rfl, hoo, hb4⟩ := hcd.shape
  have HF := Lib.hid (res_end ((hb4.block _ (by omega)).trans ((HB3.out.block _ hyl).trans HY.out)) (by omega) (by omega) hoo (HB0.out.trans ((HB3.out.trans (hb4.mono hz3)).mono HB0.out.size)))
  obtain ⟨⟨⟨z0, k0⟩, ⟨z1, k1⟩, k2, k3⟩, -⟩ := HF.out
  clear hcd hoo hb4
  go_wp2_with fail
  obtain ⟨-, ⟨hc0, hc1⟩, hd, hb⟩ := HF.out
  refine bodyPost_ret (v := .tuple #[.agg #[.slice A5 y.acc.length p5, .slice A6 y.nxt.length p6], .bool ok]) (by simp [results, Tryz.results18, go_sem, hc0, hc1]) rfl ?_
  exact ⟨_, _, rfl, hd, hb⟩
set_option maxRecDepth 100000 in
set_option maxHeartbeats 3200000 in
theorem icomp_4 (l : ByteArray) (A : Option Addr) (c : Nat) (w : World) (y : Dx) (ok : Bool) (hy : y = rxAny ∧ ok = true)
    (hAll : ∀ W, Below w.heap.size w W → Calls Tryz.prog 36 #[.slice A 0 c] W (AllP [] W))
    (hF : ∀ W, Below w.heap.size w W → Calls Tryz.prog 37 #[.agg #[.int .i64 4, .string l, .slice A 0 c]] W (FormPost (.iface 73 (.agg #[])) W)) :
    Calls Tryz.prog 18 #[.agg #[.int .i64 4, .string l, .slice A 0 c]] w (CopyDB y ok w) := by
  obtain ⟨W0, hW0⟩ : ∃ W0, W0 = (w.alloc (.cells #[.int .i64 4, .string l, .slice A 0 c] 34)).alloc (.cells #[.slice none 0 0, .slice none 0 0] 29) := ⟨_, rfl⟩
  have HB0 : Hid (Below w.heap.size w W0) := Lib.hid (by rw [hW0]; exact ((Below.refl _ _).alloc (Nat.le_refl _) _).alloc (by simp) _)
  have HP : Hid (W0.heap[w.heap.size]? = some (.cells #[.int .i64 4, .string l, .slice A 0 c] 34 (0, 0))) := Lib.hid (by rw [hW0]; exact (Below.heap_alloc _ _ _ (by simp)).trans (heap_alloc_new w _))
  have HY : Hid (W0.heap[w.heap.size + 1]? = some (.cells #[.slice none 0 0, .slice none 0 0] 29 (0, 0))) := Lib.hid (by rw [hW0]; exact three2 w _ _ _ _)
  have hyl := blk_lt HY.out
  have hpl := blk_lt HP.out
  have HA := Lib.hid (hAll W0 HB0.out)
  have HF := Lib.hid (fun (V : World) (hV : Below W0.heap.size W0 V) => hF V (HB0.out.trans (hV.mono HB0.out.size)))
  have p0 := no_noneForm
  have p1 := no_emptyForm
  have p2 := no_letterForm
  have py := yes_anyForm
  clear hAll hF
  go_enter Tryz.func18, Tryz.ntmps18
  go_wp2_with fail
  go_at_call 36
  rw [← hW0]
  clear hW0
  refine HA.out.mono ?_
  rintro e w1 ⟨v, xs, rfl, hrow, hb1⟩
  rw [show ([] : List (Dx × Bool)).all (·.2) = true from rfl]
  have hrow := hrow rfl
  obtain ⟨Av, cv, rfl⟩ := rowt_shape hrow.own
  clear hrow
  have HB1 := Lib.hid hb1
  obtain ⟨q0, q1, q2, -, -, -⟩ := three_at HB1.out hpl HP.out
  clear hb1
  go_wp2_with fail
  go_at_call 37
  refine (HF.out w1 HB1.out).mono ?_
  rintro e w2 ⟨rfl, hb2⟩
  have HB2 := Lib.hid (HB1.out.trans (hb2.mono HB1.out.size))
  clear q0 q1 q2 hb2
  obtain ⟨rfl, rfl⟩ := hy
  obtain ⟨W3, hW3⟩ : ∃ W3, W3 = (((((w2.alloc (.cells #[] 73)).alloc (.cells #[.bool false, .bool true, .bool false] 4)).alloc (.cells #[.int .i64 1, .int .i64 1, .int .i64 1] 3)).alloc (.cells #[.int .i64 2, .int .i64 2, .int .i64 2] 3)).alloc (.cells #[.int .i64 2, .int .i64 2, .int .i64 2] 3)).alloc (.cells #[.slice (some ⟨w2.heap.size + 1 + 1, 0, none⟩) 3 3, .slice (some ⟨w2.heap.size + 1 + 1 + 1, 0, none⟩) 3 3, .slice (some ⟨w2.heap.size + 1 + 1 + 1 + 1, 0, none⟩) 3 3] 68) := ⟨_, rfl⟩
  have hb23 : Below w2.heap.size w2 W3 := by
    rw [hW3]
    refine Below.alloc ?_ (by simp; try omega) _
    refine Below.alloc ?_ (by simp; try omega) _
    refine Below.alloc ?_ (by simp; try omega) _
    refine Below.alloc ?_ (by simp; try omega) _
    refine Below.alloc ?_ (by simp; try omega) _
    exact (Below.refl _ _).alloc (Nat.le_refl _) _
  have hz3 : W3.heap.size = w2.heap.size + 1 + 1 + 1 + 1 + 1 + 1 := by rw [hW3]; simp
  have hD : DfaO W3 (OwnB w2 W3) (.slice (some ⟨w2.heap.size + 1, 0, none⟩) 3 3) (.slice (some ⟨w2.heap.size + 1 + 1 + 1 + 1 + 1, 0, none⟩) 3 3) rxAny := by
    refine lit_dfa (ta := 4) (tn := 68) (tr := 3) (gs := [w2.heap.size + 1 + 1, w2.heap.size + 1 + 1 + 1, w2.heap.size + 1 + 1 + 1 + 1]) (by rw [hW3]; simp only [al_at, World.size_alloc, bools]; simp) (by rw [hW3]; simp only [al_at, World.size_alloc]; simp) (fun j g r hg hr => ?_) rfl (fun i j g hi hj => ?_) ?_ ?_ (by omega) (by simp) (by simp)
    · match j, hg, hr with
    | 0, hg, hr =>
      cases hg
      cases hr
      exact ⟨by rw [hW3]; simp only [al_at, World.size_alloc, ints]; simp, rfl, ⟨by omega, by omega⟩, by omega, by omega⟩
    | 1, hg, hr =>
      cases hg
      cases hr
      exact ⟨by rw [hW3]; simp only [al_at, World.size_alloc, ints]; simp, rfl, ⟨by omega, by omega⟩, by omega, by omega⟩
    | 2, hg, hr =>
      cases hg
      cases hr
      exact ⟨by rw [hW3]; simp only [al_at, World.size_alloc, ints]; simp, rfl, ⟨by omega, by omega⟩, by omega, by omega⟩
    | j + 3, hg, hr => simp at hg
    · have h1 := (List.getElem?_eq_some_iff.1 hi).1
      have h2 := (List.getElem?_eq_some_iff.1 hj).1
      simp only [List.length_cons, List.length_nil] at h1 h2
      match i, j, h1, h2, hi, hj with
      | 0, 0, _, _, hi, hj => rfl
      | 0, 1, _, _, hi, hj => cases hi; have := Option.some.inj hj; omega
      | 0, 2, _, _, hi, hj => cases hi; have := Option.some.inj hj; omega
      | 1, 0, _, _, hi, hj => cases hi; have := Option.some.inj hj; omega
      | 1, 1, _, _, hi, hj => rfl
      | 1, 2, _, _, hi, hj => cases hi; have := Option.some.inj hj; omega
      | 2, 0, _, _, hi, hj => cases hi; have := Option.some.inj hj; omega
      | 2, 1, _, _, hi, hj => cases hi; have := Option.some.inj hj; omega
      | 2, 2, _, _, hi, hj => rfl
      | i + 3, _, h1, _, _, _ => omega
      | 0, j + 3, _, h2, _, _ => omega
      | 1, j + 3, _, h2, _, _ => omega
      | 2, j + 3, _, h2, _, _ => omega
    · exact ⟨by omega, by omega⟩
    · exact ⟨by omega, by omega⟩
  have HB3 := Lib.hid (HB2.out.trans (hb23.mono HB2.out.size))
  have HF := Lib.hid (res_end ((HB3.out.block _ hyl).trans HY.out) (by omega) (by have := HB2.out.size; omega) hD (HB0.out.trans (HB3.out.mono HB0.out.size)))
  rw [hW3] at HF
  obtain ⟨⟨⟨z0, k0⟩, ⟨z1, k1⟩, k2, k3⟩, -⟩ := HF.out
  clear hW3 hD hb23 hz3
  go_wp2_with fail
  obtain ⟨-, ⟨hc0, hc1⟩, hd, hb⟩ := HF.out
  refine bodyPost_ret (v := .tuple #[.agg #[.slice (some ⟨w2.heap.size + 1, 0, none⟩) 3 3, .slice (some ⟨w2.heap.size + 1 + 1 + 1 + 1 + 1, 0, none⟩) 3 3], .bool true]) (by simp [results, Tryz.results18, go_sem, hc0, hc1]) rfl ?_
  exact ⟨_, _, rfl, hd, hb⟩
set_option maxRecDepth 100000 in
set_option maxHeartbeats 3200000 in
theorem icomp_5 (l : ByteArray) (g o c : Nat) (k1 : Int) (l1 : ByteArray) (B1 : Option Addr) (n1 e1 : Nat) (k2 : Int) (l2 : ByteArray) (B2 : Option Addr) (n2 e2 : Nat) (y1 y2 : Dx) (w : World) (y : Dx) (ok : Bool) (hy : catR y1 y2 y ok) (hTab : ∀ W, Below w.heap.size w W → Tab W)
    (hAll : ∀ W, Below w.heap.size w W → Calls Tryz.prog 36 #[.slice (some ⟨g, o, none⟩) 2 c] W (AllP [(y1, true), (y2, true)] W))
    (hF : ∀ W, Below w.heap.size w W → Calls Tryz.prog 37 #[.agg #[.int .i64 5, .string l, .slice (some ⟨g, o, none⟩) 2 c]] W (FormPost (.iface 77 (.agg #[.int .i64 k1, .string l1, .slice B1 n1 e1, .int .i64 k2, .string l2, .slice B2 n2 e2])) W)) :
    Calls Tryz.prog 18 #[.agg #[.int .i64 5, .string l, .slice (some ⟨g, o, none⟩) 2 c]] w (CopyDB y ok w) := by
  obtain ⟨W0, hW0⟩ : ∃ W0, W0 = (w.alloc (.cells #[.int .i64 5, .string l, .slice (some ⟨g, o, none⟩) 2 c] 34)).alloc (.cells #[.slice none 0 0, .slice none 0 0] 29) := ⟨_, rfl⟩
  have HB0 : Hid (Below w.heap.size w W0) := Lib.hid (by rw [hW0]; exact ((Below.refl _ _).alloc (Nat.le_refl _) _).alloc (by simp) _)
  have HP : Hid (W0.heap[w.heap.size]? = some (.cells #[.int .i64 5, .string l, .slice (some ⟨g, o, none⟩) 2 c] 34 (0, 0))) := Lib.hid (by rw [hW0]; exact (Below.heap_alloc _ _ _ (by simp)).trans (heap_alloc_new w _))
  have HY : Hid (W0.heap[w.heap.size + 1]? = some (.cells #[.slice none 0 0, .slice none 0 0] 29 (0, 0))) := Lib.hid (by rw [hW0]; exact three2 w _ _ _ _)
  have hyl := blk_lt HY.out
  have hpl := blk_lt HP.out
  have HA := Lib.hid (hAll W0 HB0.out)
  have HF := Lib.hid (fun (V : World) (hV : Below W0.heap.size W0 V) => hF V (HB0.out.trans (hV.mono HB0.out.size)))
  have p0 := no_noneForm
  have p1 := no_emptyForm
  have p2 := no_letterForm
  have p3 := no_anyForm
  have py := yes_catForm
  clear hAll hF
  go_enter Tryz.func18, Tryz.ntmps18
  go_wp2_with fail
  go_at_call 36
  rw [← hW0]
  clear hW0
  refine HA.out.mono ?_
  rintro e w1 ⟨v, xs, rfl, hrow, hb1⟩
  rw [show ([(y1, true), (y2, true)] : List (Dx × Bool)).all (·.2) = true from rfl]
  have hrow := hrow rfl
  have HROW := Lib.hid hrow
  obtain ⟨q, cq, -, -, hv, -⟩ := hrow.at (j := 0) rfl
  have hv : v = .slice (some ⟨q, 0, none⟩) 2 cq := hv
  subst hv
  clear hrow
  have HB1 := Lib.hid hb1
  obtain ⟨q0, q1, q2, -, -, -⟩ := three_at HB1.out hpl HP.out
  clear hb1
  go_wp2_with fail
  go_at_call 37
  refine (HF.out w1 HB1.out).mono ?_
  rintro e w2 ⟨rfl, hb2⟩
  have HB2 := Lib.hid (HB1.out.trans (hb2.mono HB1.out.size))
  have HROW := Lib.hid (HROW.out.below hb2)
  clear q0 q1 q2 hb2
  obtain ⟨W3, hW3⟩ : ∃ W3, W3 = w2.alloc (.cells #[.int .i64 k1, .string l1, .slice B1 n1 e1, .int .i64 k2, .string l2, .slice B2 n2 e2] 77) := ⟨_, rfl⟩
  have hb23 : Below w2.heap.size w2 W3 := by rw [hW3]; exact (Below.refl _ _).alloc (Nat.le_refl _) _
  have HB3 := Lib.hid (HB2.out.trans (hb23.mono HB2.out.size))
  have HROW := Lib.hid (HROW.out.below hb23)
  have hz3 := HB3.out.size
  obtain ⟨q0, q1, q2, -, -, -⟩ := three_at HB3.out hpl HP.out
  obtain ⟨q', cq', a0, b0, hq, -, -, c0, d0, hv0⟩ := HROW.out.at (j := 0) rfl
  obtain rfl : q = q' := by injection hq with h1 _ _; injection h1 with h1; injection h1
  obtain ⟨⟨G0, s0, rfl⟩, H0, t0, rfl⟩ := hv0.shape
  clear hq
  have HV0 := Lib.hid hv0
  clear hv0
  have c0 : W3.cell? ⟨q, 0, none⟩ = some (.slice G0 y1.acc.length s0) := c0
  have d0 : W3.cell? ⟨q, 1, none⟩ = some (.slice H0 y1.nxt.length t0) := d0
  obtain ⟨q', cq', a1, b1, hq, -, -, c1, d1, hv1⟩ := HROW.out.at (j := 1) rfl
  obtain rfl : q = q' := by injection hq with h1 _ _; injection h1 with h1; injection h1
  obtain ⟨⟨G1, s1, rfl⟩, H1, t1, rfl⟩ := hv1.shape
  clear hq
  have HV1 := Lib.hid hv1
  clear hv1
  have c1 : W3.cell? ⟨q, 2, none⟩ = some (.slice G1 y2.acc.length s1) := c1
  have d1 : W3.cell? ⟨q, 3, none⟩ = some (.slice H1 y2.nxt.length t1) := d1
  have HC := Lib.hid (implCat_any _ _ _ _ y1 y2 _ _ y ok W3.drew (HV0.out.mono (fun _ _ => rfl) (fun _ h => h)) (HV1.out.mono (fun _ _ => rfl) (fun _ h => h)) hy (hTab W3.drew (HB0.out.trans (HB3.out.mono HB0.out.size)).drew))
  have HB3d := Lib.hid HB3.out.drew
  have hz3d : W3.drew.heap.size = W3.heap.size := rfl
  rw [hW3] at q0 q1 q2 c0 d0 c1 d1
  clear hb23 hy
  go_wp2_with fail
  rw [← hW3]
  rw [← hW3] at q0 q1 q2 c0 d0 c1 d1
  clear hW3
  go_region_law (refine step_call rfl _ _ _ rfl enters_icat #[.agg #[.slice G0 y1.acc.length s0, .slice H0 y1.nxt.length t0], .agg #[.slice G1 y2.acc.length s1, .slice H1 y2.nxt.length t1]] (by simp [Act.eval]) HC.out ?_; rintro e w4 hcd; obtain ⟨A5, p5, A6, p6, rfl, hoo, hb4⟩ := hcd.shape; have HF := Lib.hid (res_end ((hb4.block _ (by omega)).trans ((HB3d.out.block _ hyl).trans HY.out)) (by omega) (by omega) hoo (HB0.out.trans ((HB3d.out.trans (hb4.mono hz3)).mono HB0.out.size))); obtain ⟨⟨⟨z0, k0⟩, ⟨z1, k1⟩, k2, k3⟩, -⟩ := HF.out; clear hcd hoo hb4; refine ⟨_, rfl, ?_⟩)
  all_goals
    go_wp2_with fail
    obtain ⟨-, ⟨hc0, hc1⟩, hd, hb⟩ := HF.out
    refine bodyPost_ret (v := .tuple #[.agg #[.slice A5 y.acc.length p5, .slice A6 y.nxt.length p6], .bool ok]) (by simp [results, Tryz.results18, go_sem, hc0, hc1]) rfl ?_
    first
      | exact ⟨_, _, rfl, hd, hb⟩
      | exact ⟨_, _, rfl, hd.mono (fun _ _ => rfl) (fun _ h => h) (Nat.le_refl _), hb.drew⟩
set_option maxRecDepth 100000 in
set_option maxHeartbeats 3200000 in
theorem icomp_6 (l : ByteArray) (g o c : Nat) (k1 : Int) (l1 : ByteArray) (B1 : Option Addr) (n1 e1 : Nat) (k2 : Int) (l2 : ByteArray) (B2 : Option Addr) (n2 e2 : Nat) (y1 y2 : Dx) (w : World) (y : Dx) (ok : Bool) (hy : proR y1 y2 6 y ok)
    (hAll : ∀ W, Below w.heap.size w W → Calls Tryz.prog 36 #[.slice (some ⟨g, o, none⟩) 2 c] W (AllP [(y1, true), (y2, true)] W))
    (hF : ∀ W, Below w.heap.size w W → Calls Tryz.prog 37 #[.agg #[.int .i64 6, .string l, .slice (some ⟨g, o, none⟩) 2 c]] W (FormPost (.iface 78 (.agg #[.int .i64 k1, .string l1, .slice B1 n1 e1, .int .i64 k2, .string l2, .slice B2 n2 e2])) W)) :
    Calls Tryz.prog 18 #[.agg #[.int .i64 6, .string l, .slice (some ⟨g, o, none⟩) 2 c]] w (CopyDB y ok w) := by
  obtain ⟨W0, hW0⟩ : ∃ W0, W0 = (w.alloc (.cells #[.int .i64 6, .string l, .slice (some ⟨g, o, none⟩) 2 c] 34)).alloc (.cells #[.slice none 0 0, .slice none 0 0] 29) := ⟨_, rfl⟩
  have HB0 : Hid (Below w.heap.size w W0) := Lib.hid (by rw [hW0]; exact ((Below.refl _ _).alloc (Nat.le_refl _) _).alloc (by simp) _)
  have HP : Hid (W0.heap[w.heap.size]? = some (.cells #[.int .i64 6, .string l, .slice (some ⟨g, o, none⟩) 2 c] 34 (0, 0))) := Lib.hid (by rw [hW0]; exact (Below.heap_alloc _ _ _ (by simp)).trans (heap_alloc_new w _))
  have HY : Hid (W0.heap[w.heap.size + 1]? = some (.cells #[.slice none 0 0, .slice none 0 0] 29 (0, 0))) := Lib.hid (by rw [hW0]; exact three2 w _ _ _ _)
  have hyl := blk_lt HY.out
  have hpl := blk_lt HP.out
  have HA := Lib.hid (hAll W0 HB0.out)
  have HF := Lib.hid (fun (V : World) (hV : Below W0.heap.size W0 V) => hF V (HB0.out.trans (hV.mono HB0.out.size)))
  have p0 := no_noneForm
  have p1 := no_emptyForm
  have p2 := no_letterForm
  have p3 := no_anyForm
  have p4 := no_catForm
  have py := yes_orForm
  have pn := no_andForm
  clear hAll hF
  go_enter Tryz.func18, Tryz.ntmps18
  go_wp2_with fail
  go_at_call 36
  rw [← hW0]
  clear hW0
  refine HA.out.mono ?_
  rintro e w1 ⟨v, xs, rfl, hrow, hb1⟩
  rw [show ([(y1, true), (y2, true)] : List (Dx × Bool)).all (·.2) = true from rfl]
  have hrow := hrow rfl
  have HROW := Lib.hid hrow
  obtain ⟨q, cq, -, -, hv, -⟩ := hrow.at (j := 0) rfl
  have hv : v = .slice (some ⟨q, 0, none⟩) 2 cq := hv
  subst hv
  clear hrow
  have HB1 := Lib.hid hb1
  obtain ⟨q0, q1, q2, -, -, -⟩ := three_at HB1.out hpl HP.out
  clear hb1
  go_wp2_with fail
  go_at_call 37
  refine (HF.out w1 HB1.out).mono ?_
  rintro e w2 ⟨rfl, hb2⟩
  have HB2 := Lib.hid (HB1.out.trans (hb2.mono HB1.out.size))
  have HROW := Lib.hid (HROW.out.below hb2)
  clear q0 q1 q2 hb2
  obtain ⟨W3, hW3⟩ : ∃ W3, W3 = w2 := ⟨_, rfl⟩
  have hb23 : Below w2.heap.size w2 W3 := by rw [hW3]; exact Below.refl _ _
  have HB3 := Lib.hid (HB2.out.trans (hb23.mono HB2.out.size))
  have HROW := Lib.hid (HROW.out.below hb23)
  have hz3 := HB3.out.size
  obtain ⟨q0, q1, q2, -, -, -⟩ := three_at HB3.out hpl HP.out
  obtain ⟨q', cq', a0, b0, hq, -, -, c0, d0, hv0⟩ := HROW.out.at (j := 0) rfl
  obtain rfl : q = q' := by injection hq with h1 _ _; injection h1 with h1; injection h1
  obtain ⟨⟨G0, s0, rfl⟩, H0, t0, rfl⟩ := hv0.shape
  clear hq
  have HV0 := Lib.hid hv0
  clear hv0
  have c0 : W3.cell? ⟨q, 0, none⟩ = some (.slice G0 y1.acc.length s0) := c0
  have d0 : W3.cell? ⟨q, 1, none⟩ = some (.slice H0 y1.nxt.length t0) := d0
  obtain ⟨q', cq', a1, b1, hq, -, -, c1, d1, hv1⟩ := HROW.out.at (j := 1) rfl
  obtain rfl : q = q' := by injection hq with h1 _ _; injection h1 with h1; injection h1
  obtain ⟨⟨G1, s1, rfl⟩, H1, t1, rfl⟩ := hv1.shape
  clear hq
  have HV1 := Lib.hid hv1
  clear hv1
  have c1 : W3.cell? ⟨q, 2, none⟩ = some (.slice G1 y2.acc.length s1) := c1
  have d1 : W3.cell? ⟨q, 3, none⟩ = some (.slice H1 y2.nxt.length t1) := d1
  have HC := Lib.hid (implPro_any _ _ _ _ y1 y2 _ _ 6 y ok W3.drew (HV0.out.mono (fun _ _ => rfl) (fun _ h => h)) (HV1.out.mono (fun _ _ => rfl) (fun _ h => h)) hy)
  have HB3d := Lib.hid HB3.out.drew
  have hz3d : W3.drew.heap.size = W3.heap.size := rfl
  rw [hW3] at q0 q1 q2 c0 d0 c1 d1
  clear hb23 hy
  go_wp2_with fail
  rw [← hW3]
  rw [← hW3] at q0 q1 q2 c0 d0 c1 d1
  clear hW3
  go_region_law (refine step_call rfl _ _ _ rfl enters_ipro #[.agg #[.slice G0 y1.acc.length s0, .slice H0 y1.nxt.length t0], .agg #[.slice G1 y2.acc.length s1, .slice H1 y2.nxt.length t1], .int .i64 6] (by simp [Act.eval]) HC.out ?_; rintro e w4 hcd; obtain ⟨A5, p5, A6, p6, rfl, hoo, hb4⟩ := hcd.shape; have HF := Lib.hid (res_end ((hb4.block _ (by omega)).trans ((HB3d.out.block _ hyl).trans HY.out)) (by omega) (by omega) hoo (HB0.out.trans ((HB3d.out.trans (hb4.mono hz3)).mono HB0.out.size))); obtain ⟨⟨⟨z0, k0⟩, ⟨z1, k1⟩, k2, k3⟩, -⟩ := HF.out; clear hcd hoo hb4; refine ⟨_, rfl, ?_⟩)
  all_goals
    go_wp2_with fail
    obtain ⟨-, ⟨hc0, hc1⟩, hd, hb⟩ := HF.out
    refine bodyPost_ret (v := .tuple #[.agg #[.slice A5 y.acc.length p5, .slice A6 y.nxt.length p6], .bool ok]) (by simp [results, Tryz.results18, go_sem, hc0, hc1]) rfl ?_
    first
      | exact ⟨_, _, rfl, hd, hb⟩
      | exact ⟨_, _, rfl, hd.mono (fun _ _ => rfl) (fun _ h => h) (Nat.le_refl _), hb.drew⟩
set_option maxRecDepth 100000 in
set_option maxHeartbeats 3200000 in
theorem icomp_7 (l : ByteArray) (g o c : Nat) (k1 : Int) (l1 : ByteArray) (B1 : Option Addr) (n1 e1 : Nat) (k2 : Int) (l2 : ByteArray) (B2 : Option Addr) (n2 e2 : Nat) (y1 y2 : Dx) (w : World) (y : Dx) (ok : Bool) (hy : proR y1 y2 7 y ok)
    (hAll : ∀ W, Below w.heap.size w W → Calls Tryz.prog 36 #[.slice (some ⟨g, o, none⟩) 2 c] W (AllP [(y1, true), (y2, true)] W))
    (hF : ∀ W, Below w.heap.size w W → Calls Tryz.prog 37 #[.agg #[.int .i64 7, .string l, .slice (some ⟨g, o, none⟩) 2 c]] W (FormPost (.iface 79 (.agg #[.int .i64 k1, .string l1, .slice B1 n1 e1, .int .i64 k2, .string l2, .slice B2 n2 e2])) W)) :
    Calls Tryz.prog 18 #[.agg #[.int .i64 7, .string l, .slice (some ⟨g, o, none⟩) 2 c]] w (CopyDB y ok w) := by
  obtain ⟨W0, hW0⟩ : ∃ W0, W0 = (w.alloc (.cells #[.int .i64 7, .string l, .slice (some ⟨g, o, none⟩) 2 c] 34)).alloc (.cells #[.slice none 0 0, .slice none 0 0] 29) := ⟨_, rfl⟩
  have HB0 : Hid (Below w.heap.size w W0) := Lib.hid (by rw [hW0]; exact ((Below.refl _ _).alloc (Nat.le_refl _) _).alloc (by simp) _)
  have HP : Hid (W0.heap[w.heap.size]? = some (.cells #[.int .i64 7, .string l, .slice (some ⟨g, o, none⟩) 2 c] 34 (0, 0))) := Lib.hid (by rw [hW0]; exact (Below.heap_alloc _ _ _ (by simp)).trans (heap_alloc_new w _))
  have HY : Hid (W0.heap[w.heap.size + 1]? = some (.cells #[.slice none 0 0, .slice none 0 0] 29 (0, 0))) := Lib.hid (by rw [hW0]; exact three2 w _ _ _ _)
  have hyl := blk_lt HY.out
  have hpl := blk_lt HP.out
  have HA := Lib.hid (hAll W0 HB0.out)
  have HF := Lib.hid (fun (V : World) (hV : Below W0.heap.size W0 V) => hF V (HB0.out.trans (hV.mono HB0.out.size)))
  have p0 := no_noneForm
  have p1 := no_emptyForm
  have p2 := no_letterForm
  have p3 := no_anyForm
  have p4 := no_catForm
  have p5 := no_orForm
  have py := yes_andForm
  clear hAll hF
  go_enter Tryz.func18, Tryz.ntmps18
  go_wp2_with fail
  go_at_call 36
  rw [← hW0]
  clear hW0
  refine HA.out.mono ?_
  rintro e w1 ⟨v, xs, rfl, hrow, hb1⟩
  rw [show ([(y1, true), (y2, true)] : List (Dx × Bool)).all (·.2) = true from rfl]
  have hrow := hrow rfl
  have HROW := Lib.hid hrow
  obtain ⟨q, cq, -, -, hv, -⟩ := hrow.at (j := 0) rfl
  have hv : v = .slice (some ⟨q, 0, none⟩) 2 cq := hv
  subst hv
  clear hrow
  have HB1 := Lib.hid hb1
  obtain ⟨q0, q1, q2, -, -, -⟩ := three_at HB1.out hpl HP.out
  clear hb1
  go_wp2_with fail
  go_at_call 37
  refine (HF.out w1 HB1.out).mono ?_
  rintro e w2 ⟨rfl, hb2⟩
  have HB2 := Lib.hid (HB1.out.trans (hb2.mono HB1.out.size))
  have HROW := Lib.hid (HROW.out.below hb2)
  clear q0 q1 q2 hb2
  obtain ⟨W3, hW3⟩ : ∃ W3, W3 = w2 := ⟨_, rfl⟩
  have hb23 : Below w2.heap.size w2 W3 := by rw [hW3]; exact Below.refl _ _
  have HB3 := Lib.hid (HB2.out.trans (hb23.mono HB2.out.size))
  have HROW := Lib.hid (HROW.out.below hb23)
  have hz3 := HB3.out.size
  obtain ⟨q0, q1, q2, -, -, -⟩ := three_at HB3.out hpl HP.out
  obtain ⟨q', cq', a0, b0, hq, -, -, c0, d0, hv0⟩ := HROW.out.at (j := 0) rfl
  obtain rfl : q = q' := by injection hq with h1 _ _; injection h1 with h1; injection h1
  obtain ⟨⟨G0, s0, rfl⟩, H0, t0, rfl⟩ := hv0.shape
  clear hq
  have HV0 := Lib.hid hv0
  clear hv0
  have c0 : W3.cell? ⟨q, 0, none⟩ = some (.slice G0 y1.acc.length s0) := c0
  have d0 : W3.cell? ⟨q, 1, none⟩ = some (.slice H0 y1.nxt.length t0) := d0
  obtain ⟨q', cq', a1, b1, hq, -, -, c1, d1, hv1⟩ := HROW.out.at (j := 1) rfl
  obtain rfl : q = q' := by injection hq with h1 _ _; injection h1 with h1; injection h1
  obtain ⟨⟨G1, s1, rfl⟩, H1, t1, rfl⟩ := hv1.shape
  clear hq
  have HV1 := Lib.hid hv1
  clear hv1
  have c1 : W3.cell? ⟨q, 2, none⟩ = some (.slice G1 y2.acc.length s1) := c1
  have d1 : W3.cell? ⟨q, 3, none⟩ = some (.slice H1 y2.nxt.length t1) := d1
  have HC := Lib.hid (implPro_any _ _ _ _ y1 y2 _ _ 7 y ok W3.drew (HV0.out.mono (fun _ _ => rfl) (fun _ h => h)) (HV1.out.mono (fun _ _ => rfl) (fun _ h => h)) hy)
  have HB3d := Lib.hid HB3.out.drew
  have hz3d : W3.drew.heap.size = W3.heap.size := rfl
  rw [hW3] at q0 q1 q2 c0 d0 c1 d1
  clear hb23 hy
  go_wp2_with fail
  rw [← hW3]
  rw [← hW3] at q0 q1 q2 c0 d0 c1 d1
  clear hW3
  go_region_law (refine step_call rfl _ _ _ rfl enters_ipro #[.agg #[.slice G0 y1.acc.length s0, .slice H0 y1.nxt.length t0], .agg #[.slice G1 y2.acc.length s1, .slice H1 y2.nxt.length t1], .int .i64 7] (by simp [Act.eval]) HC.out ?_; rintro e w4 hcd; obtain ⟨A5, p5, A6, p6, rfl, hoo, hb4⟩ := hcd.shape; have HF := Lib.hid (res_end ((hb4.block _ (by omega)).trans ((HB3d.out.block _ hyl).trans HY.out)) (by omega) (by omega) hoo (HB0.out.trans ((HB3d.out.trans (hb4.mono hz3)).mono HB0.out.size))); obtain ⟨⟨⟨z0, k0⟩, ⟨z1, k1⟩, k2, k3⟩, -⟩ := HF.out; clear hcd hoo hb4; refine ⟨_, rfl, ?_⟩)
  all_goals
    go_wp2_with fail
    obtain ⟨-, ⟨hc0, hc1⟩, hd, hb⟩ := HF.out
    refine bodyPost_ret (v := .tuple #[.agg #[.slice A5 y.acc.length p5, .slice A6 y.nxt.length p6], .bool ok]) (by simp [results, Tryz.results18, go_sem, hc0, hc1]) rfl ?_
    first
      | exact ⟨_, _, rfl, hd, hb⟩
      | exact ⟨_, _, rfl, hd.mono (fun _ _ => rfl) (fun _ h => h) (Nat.le_refl _), hb.drew⟩
set_option maxRecDepth 100000 in
set_option maxHeartbeats 3200000 in
theorem icomp_8 (l : ByteArray) (g o c : Nat) (k1 : Int) (l1 : ByteArray) (B1 : Option Addr) (n1 e1 : Nat) (y1 : Dx) (w : World) (y : Dx) (ok : Bool) (hy : starR y1 y ok) (hTab : ∀ W, Below w.heap.size w W → Tab W)
    (hAll : ∀ W, Below w.heap.size w W → Calls Tryz.prog 36 #[.slice (some ⟨g, o, none⟩) 1 c] W (AllP [(y1, true)] W))
    (hF : ∀ W, Below w.heap.size w W → Calls Tryz.prog 37 #[.agg #[.int .i64 8, .string l, .slice (some ⟨g, o, none⟩) 1 c]] W (FormPost (.iface 83 (.agg #[.int .i64 k1, .string l1, .slice B1 n1 e1])) W)) :
    Calls Tryz.prog 18 #[.agg #[.int .i64 8, .string l, .slice (some ⟨g, o, none⟩) 1 c]] w (CopyDB y ok w) := by
  obtain ⟨W0, hW0⟩ : ∃ W0, W0 = (w.alloc (.cells #[.int .i64 8, .string l, .slice (some ⟨g, o, none⟩) 1 c] 34)).alloc (.cells #[.slice none 0 0, .slice none 0 0] 29) := ⟨_, rfl⟩
  have HB0 : Hid (Below w.heap.size w W0) := Lib.hid (by rw [hW0]; exact ((Below.refl _ _).alloc (Nat.le_refl _) _).alloc (by simp) _)
  have HP : Hid (W0.heap[w.heap.size]? = some (.cells #[.int .i64 8, .string l, .slice (some ⟨g, o, none⟩) 1 c] 34 (0, 0))) := Lib.hid (by rw [hW0]; exact (Below.heap_alloc _ _ _ (by simp)).trans (heap_alloc_new w _))
  have HY : Hid (W0.heap[w.heap.size + 1]? = some (.cells #[.slice none 0 0, .slice none 0 0] 29 (0, 0))) := Lib.hid (by rw [hW0]; exact three2 w _ _ _ _)
  have hyl := blk_lt HY.out
  have hpl := blk_lt HP.out
  have HA := Lib.hid (hAll W0 HB0.out)
  have HF := Lib.hid (fun (V : World) (hV : Below W0.heap.size W0 V) => hF V (HB0.out.trans (hV.mono HB0.out.size)))
  have p0 := no_noneForm
  have p1 := no_emptyForm
  have p2 := no_letterForm
  have p3 := no_anyForm
  have p4 := no_catForm
  have p5 := no_orForm
  have p6 := no_andForm
  have py := yes_starForm
  clear hAll hF
  go_enter Tryz.func18, Tryz.ntmps18
  go_wp2_with fail
  go_at_call 36
  rw [← hW0]
  clear hW0
  refine HA.out.mono ?_
  rintro e w1 ⟨v, xs, rfl, hrow, hb1⟩
  rw [show ([(y1, true)] : List (Dx × Bool)).all (·.2) = true from rfl]
  have hrow := hrow rfl
  have HROW := Lib.hid hrow
  obtain ⟨q, cq, -, -, hv, -⟩ := hrow.at (j := 0) rfl
  have hv : v = .slice (some ⟨q, 0, none⟩) 1 cq := hv
  subst hv
  clear hrow
  have HB1 := Lib.hid hb1
  obtain ⟨q0, q1, q2, -, -, -⟩ := three_at HB1.out hpl HP.out
  clear hb1
  go_wp2_with fail
  go_at_call 37
  refine (HF.out w1 HB1.out).mono ?_
  rintro e w2 ⟨rfl, hb2⟩
  have HB2 := Lib.hid (HB1.out.trans (hb2.mono HB1.out.size))
  have HROW := Lib.hid (HROW.out.below hb2)
  clear q0 q1 q2 hb2
  obtain ⟨W3, hW3⟩ : ∃ W3, W3 = w2.alloc (.cells #[.int .i64 k1, .string l1, .slice B1 n1 e1] 83) := ⟨_, rfl⟩
  have hb23 : Below w2.heap.size w2 W3 := by rw [hW3]; exact (Below.refl _ _).alloc (Nat.le_refl _) _
  have HB3 := Lib.hid (HB2.out.trans (hb23.mono HB2.out.size))
  have HROW := Lib.hid (HROW.out.below hb23)
  have hz3 := HB3.out.size
  obtain ⟨q0, q1, q2, -, -, -⟩ := three_at HB3.out hpl HP.out
  obtain ⟨q', cq', a0, b0, hq, -, -, c0, d0, hv0⟩ := HROW.out.at (j := 0) rfl
  obtain rfl : q = q' := by injection hq with h1 _ _; injection h1 with h1; injection h1
  obtain ⟨⟨G0, s0, rfl⟩, H0, t0, rfl⟩ := hv0.shape
  clear hq
  have HV0 := Lib.hid hv0
  clear hv0
  have c0 : W3.cell? ⟨q, 0, none⟩ = some (.slice G0 y1.acc.length s0) := c0
  have d0 : W3.cell? ⟨q, 1, none⟩ = some (.slice H0 y1.nxt.length t0) := d0
  have HC := Lib.hid (implStar_any _ _ y1 _ y ok W3 HV0.out hy (hTab W3 (HB0.out.trans (HB3.out.mono HB0.out.size))))
  rw [hW3] at q0 q1 q2 c0 d0
  clear hb23 hy
  go_wp2_with fail
  go_at_call 41
  rw [← hW3]
  clear hW3 q0 q1 q2 c0 d0
  refine HC.out.mono ?_
  rintro e w4 hcd
  obtain ⟨A5, p5, A6, p6, rfl, hoo, hb4⟩ := hcd.shape
  have HF := Lib.hid (res_end ((hb4.block _ (by omega)).trans ((HB3.out.block _ hyl).trans HY.out)) (by omega) (by omega) hoo (HB0.out.trans ((HB3.out.trans (hb4.mono hz3)).mono HB0.out.size)))
  obtain ⟨⟨⟨z0, k0⟩, ⟨z1, k1⟩, k2, k3⟩, -⟩ := HF.out
  clear hcd hoo hb4
  go_wp2_with fail
  obtain ⟨-, ⟨hc0, hc1⟩, hd, hb⟩ := HF.out
  refine bodyPost_ret (v := .tuple #[.agg #[.slice A5 y.acc.length p5, .slice A6 y.nxt.length p6], .bool ok]) (by simp [results, Tryz.results18, go_sem, hc0, hc1]) rfl ?_
  exact ⟨_, _, rfl, hd, hb⟩
set_option maxRecDepth 100000 in
set_option maxHeartbeats 3200000 in
theorem icomp_9 (l : ByteArray) (g o c : Nat) (k1 : Int) (l1 : ByteArray) (B1 : Option Addr) (n1 e1 : Nat) (y1 : Dx) (w : World) (y : Dx) (ok : Bool) (z : Dx) (hy : minR y1 z ∧ y = comD z ∧ ok = true)
    (hAll : ∀ W, Below w.heap.size w W → Calls Tryz.prog 36 #[.slice (some ⟨g, o, none⟩) 1 c] W (AllP [(y1, true)] W))
    (hF : ∀ W, Below w.heap.size w W → Calls Tryz.prog 37 #[.agg #[.int .i64 9, .string l, .slice (some ⟨g, o, none⟩) 1 c]] W (FormPost (.iface 84 (.agg #[.int .i64 k1, .string l1, .slice B1 n1 e1])) W)) :
    Calls Tryz.prog 18 #[.agg #[.int .i64 9, .string l, .slice (some ⟨g, o, none⟩) 1 c]] w (CopyDB y ok w) := by
  obtain ⟨W0, hW0⟩ : ∃ W0, W0 = (w.alloc (.cells #[.int .i64 9, .string l, .slice (some ⟨g, o, none⟩) 1 c] 34)).alloc (.cells #[.slice none 0 0, .slice none 0 0] 29) := ⟨_, rfl⟩
  have HB0 : Hid (Below w.heap.size w W0) := Lib.hid (by rw [hW0]; exact ((Below.refl _ _).alloc (Nat.le_refl _) _).alloc (by simp) _)
  have HP : Hid (W0.heap[w.heap.size]? = some (.cells #[.int .i64 9, .string l, .slice (some ⟨g, o, none⟩) 1 c] 34 (0, 0))) := Lib.hid (by rw [hW0]; exact (Below.heap_alloc _ _ _ (by simp)).trans (heap_alloc_new w _))
  have HY : Hid (W0.heap[w.heap.size + 1]? = some (.cells #[.slice none 0 0, .slice none 0 0] 29 (0, 0))) := Lib.hid (by rw [hW0]; exact three2 w _ _ _ _)
  have hyl := blk_lt HY.out
  have hpl := blk_lt HP.out
  have HA := Lib.hid (hAll W0 HB0.out)
  have HF := Lib.hid (fun (V : World) (hV : Below W0.heap.size W0 V) => hF V (HB0.out.trans (hV.mono HB0.out.size)))
  have p0 := no_noneForm
  have p1 := no_emptyForm
  have p2 := no_letterForm
  have p3 := no_anyForm
  have p4 := no_catForm
  have p5 := no_orForm
  have p6 := no_andForm
  have p7 := no_starForm
  have py := yes_notForm
  clear hAll hF
  go_enter Tryz.func18, Tryz.ntmps18
  go_wp2_with fail
  go_at_call 36
  rw [← hW0]
  clear hW0
  refine HA.out.mono ?_
  rintro e w1 ⟨v, xs, rfl, hrow, hb1⟩
  rw [show ([(y1, true)] : List (Dx × Bool)).all (·.2) = true from rfl]
  have hrow := hrow rfl
  have HROW := Lib.hid hrow
  obtain ⟨q, cq, -, -, hv, -⟩ := hrow.at (j := 0) rfl
  have hv : v = .slice (some ⟨q, 0, none⟩) 1 cq := hv
  subst hv
  clear hrow
  have HB1 := Lib.hid hb1
  obtain ⟨q0, q1, q2, -, -, -⟩ := three_at HB1.out hpl HP.out
  clear hb1
  go_wp2_with fail
  go_at_call 37
  refine (HF.out w1 HB1.out).mono ?_
  rintro e w2 ⟨rfl, hb2⟩
  have HB2 := Lib.hid (HB1.out.trans (hb2.mono HB1.out.size))
  have HROW := Lib.hid (HROW.out.below hb2)
  clear q0 q1 q2 hb2
  obtain ⟨W3, hW3⟩ : ∃ W3, W3 = w2.alloc (.cells #[.int .i64 k1, .string l1, .slice B1 n1 e1] 84) := ⟨_, rfl⟩
  have hb23 : Below w2.heap.size w2 W3 := by rw [hW3]; exact (Below.refl _ _).alloc (Nat.le_refl _) _
  have HB3 := Lib.hid (HB2.out.trans (hb23.mono HB2.out.size))
  have HROW := Lib.hid (HROW.out.below hb23)
  have hz3 := HB3.out.size
  obtain ⟨q0, q1, q2, -, -, -⟩ := three_at HB3.out hpl HP.out
  obtain ⟨q', cq', a0, b0, hq, -, -, c0, d0, hv0⟩ := HROW.out.at (j := 0) rfl
  obtain rfl : q = q' := by injection hq with h1 _ _; injection h1 with h1; injection h1
  obtain ⟨⟨G0, s0, rfl⟩, H0, t0, rfl⟩ := hv0.shape
  clear hq
  have HV0 := Lib.hid hv0
  clear hv0
  have c0 : W3.cell? ⟨q, 0, none⟩ = some (.slice G0 y1.acc.length s0) := c0
  have d0 : W3.cell? ⟨q, 1, none⟩ = some (.slice H0 y1.nxt.length t0) := d0
  have HC := Lib.hid (implCom_any _ _ y1 z _ W3 HV0.out hy.1)
  obtain ⟨-, rfl, rfl⟩ := hy
  rw [hW3] at q0 q1 q2 c0 d0
  clear hb23
  go_wp2_with fail
  go_at_call 42
  rw [← hW3]
  clear hW3 q0 q1 q2 c0 d0
  refine HC.out.mono ?_
  rintro e w4 hcd
  obtain ⟨A5, p5, A6, p6, rfl, hoo, hb4⟩ := hcd.shape
  have HF := Lib.hid (res_end ((hb4.block _ (by omega)).trans ((HB3.out.block _ hyl).trans HY.out)) (by omega) (by omega) hoo (HB0.out.trans ((HB3.out.trans (hb4.mono hz3)).mono HB0.out.size)))
  obtain ⟨⟨⟨z0, k0⟩, ⟨z1, k1⟩, k2, k3⟩, -⟩ := HF.out
  clear hcd hoo hb4
  go_wp2_with fail
  obtain ⟨-, ⟨hc0, hc1⟩, hd, hb⟩ := HF.out
  refine bodyPost_ret (v := .tuple #[.agg #[.slice A5 (comD z).acc.length p5, .slice A6 (comD z).nxt.length p6], .bool true]) (by simp [results, Tryz.results18, go_sem, hc0, hc1]) rfl ?_
  exact ⟨_, _, rfl, hd, hb⟩
end Go.Proofs.YtlkhmpdncimnfaaGreatDoor

/-
  What spec.MinimizeDfa answers.
  What spec.ComplementDfa answers.
-/
namespace Go.Proofs.YtlkhmpdncimnfaaGreatDoor
open Go.RowKit

set_option maxRecDepth 100000 in
set_option maxHeartbeats 3200000 in
theorem specMinD_any (va vn : Value) (d y : Dx) (S : Nat → Prop) (w : World) (h : DfaV w S va vn d) (hy : minR d y) :
    Calls Tryz.prog 52 #[.agg #[va, vn]] w (CopyD y w) := by
  obtain ⟨⟨A, c, hA⟩, A', c', hA'⟩ := h.shape
  subst hA
  subst hA'
  obtain ⟨p, hp⟩ : ∃ p, p = d.acc.length := ⟨_, rfl⟩
  obtain ⟨p', hp'⟩ : ∃ p', p' = d.nxt.length := ⟨_, rfl⟩
  rw [← hp, ← hp'] at h ⊢
  obtain ⟨W0, hW0⟩ : ∃ W0, W0 = (w.alloc (.cells #[.slice A p c, .slice A' p' c'] 29)).alloc (.cells #[.slice none 0 0, .slice none 0 0] 29) := ⟨_, rfl⟩
  have HB0 : Hid (Below w.heap.size w W0) := Lib.hid (by rw [hW0]; exact ((Below.refl _ _).alloc (Nat.le_refl _) _).alloc (by simp) _)
  have hx := (by
    have k := box2_kept (w := w) (w1 := W0) (a := .slice A p c) (b := .slice A' p' c') (t := 29) (by rw [hW0]; exact (Below.refl _ _).alloc (by simp) _)
    exact ⟨k.2.1, k.2.2.1⟩ : Bx2 W0 w.heap.size (.slice A p c) (.slice A' p' c'))
  have HX := Lib.hid hx
  have HY : Hid (W0.heap[w.heap.size + 1]? = some (.cells #[.slice none 0 0, .slice none 0 0] 29 (0, 0))) := Lib.hid (by rw [hW0]; exact three2 w _ _ _ _)
  have HV := Lib.hid (specValidD_any (.slice A p c) (.slice A' p' c') d S W0 (h.kept HB0.out))
  obtain ⟨b, hb⟩ : ∃ b, b = validD d := ⟨_, rfl⟩
  rw [← hb] at HV
  obtain ⟨hc00, hc01⟩ := hx
  rw [hW0] at hc00 hc01
  have HH := Lib.hid h
  have HYy := Lib.hid hy
  have HBb := Lib.hid hb
  clear h hy hp hp' hb
  go_enter Tryz.func52, Tryz.ntmps52
  go_wp2_with fail
  go_at_call 53
  rw [← hW0]
  refine HV.out.mono ?_
  rintro e w1 ⟨rfl, hb1⟩
  have HB1 := Lib.hid hb1
  obtain ⟨x0, x1⟩ := HX.out.kept hb1
  obtain ⟨c0, c1, k0, k1⟩ := box2_facts ((hb1.block _ (Array.getElem?_eq_some_iff.1 HY.out).1).trans HY.out)
  clear hc00 hc01 hb1 hW0
  cases b with
  | true =>
    have hv : validD d = true := HBb.out.symm
    obtain ⟨q1, q2, q3⟩ := fieldsOf_au hv
    have hm := HYy.out
    unfold minR at hm
    rw [if_pos hv] at hm
    have HM := Lib.hid (specMin_any (.slice A p c) (.slice A' p' c') (auD d) S w1 q1 (by omega) (by rw [← q3]; exact (HH.out.kept HB0.out).kept HB1.out))
    have HMm := Lib.hid hm
    clear hv q1 q2 q3 hm
    go_wp2_with fail
    refine HM.out.mono ?_
    rintro e w2 ⟨m, m1, m2, m3, hcd⟩
    obtain ⟨m0, n1, n2, n3⟩ := HMm.out
    obtain rfl : y = fieldsOf m := by rw [n3]; exact fields_one n1 m1 (n2.swap m2)
    obtain ⟨A1, q1, A2, q2, rfl, ho, hb2⟩ := hcd.shape
    have HO := Lib.hid ho
    have HB2 := Lib.hid hb2
    have hlt := Nat.lt_of_lt_of_le (Array.getElem?_eq_some_iff.1 HY.out).1 HB1.out.size
    obtain ⟨e0, e1, f0, f1⟩ := box2_facts ((hb2.block _ hlt).trans ((HB1.out.block _ (Array.getElem?_eq_some_iff.1 HY.out).1).trans HY.out))
    obtain ⟨hcl, hsz, hot, hBl⟩ := put2 (k := .slice A1 (fieldsOf m).acc.length q1) (l := .slice A2 (fieldsOf m).nxt.length q2) e0 e1
    obtain ⟨hc0, hc1⟩ := hcl
    have HOt := Lib.hid (And.intro hsz (And.intro hot hBl))
    have HLt := Lib.hid hlt
    clear hsz hot hBl n1 n2 n3 m1 m2 m3 ho hb2 hcd x0 x1 c0 c1 k0 k1 hlt
    go_wp2_with fail
    refine bodyPost_ret (v := .agg #[.slice A1 (fieldsOf m).acc.length q1, .slice A2 (fieldsOf m).nxt.length q2]) (by simp [results, Tryz.results52, go_sem, hc0, hc1]) rfl ?_
    have h0 := HB0.out.size
    have h1 := HB1.out.size
    exact ⟨_, _, rfl, HO.out.mono (fun g hg => HOt.out.2.1 g (by have := hg.1; have := HLt.out; omega)) (fun g hg => ⟨by have := hg.1; omega, by rw [HOt.out.1]; exact hg.2⟩) (by rw [HOt.out.1]; exact Nat.le_refl _), HOt.out.2.2 _ _ (HB0.out.trans ((HB1.out.trans (HB2.out.mono h1)).mono h0)) (Nat.le_succ _)⟩
  | false =>
    have hy := HYy.out
    unfold minR at hy
    rw [← HBb.out, if_neg (by decide)] at hy
    subst hy
    obtain ⟨hcl, hsz, hot, hBl⟩ := put2 (k := .slice none 0 0) (l := .slice none 0 0) c0 c1
    obtain ⟨hc0, hc1⟩ := hcl
    have HOt := Lib.hid hBl
    clear hsz hot hBl x0 x1
    go_wp2_with fail
    refine bodyPost_ret (v := .agg #[.slice none 0 0, .slice none 0 0]) (by simp [results, Tryz.results52, go_sem, hc0, hc1]) rfl ?_
    exact ⟨_, _, rfl, DfaO.empty _ _, HOt.out _ _ (HB0.out.trans (HB1.out.mono HB0.out.size)) (Nat.le_succ _)⟩
end Go.Proofs.YtlkhmpdncimnfaaGreatDoor

namespace Go.Proofs.YtlkhmpdncimnfaaGreatDoor
open Go.RowKit

set_option maxRecDepth 100000 in
set_option maxHeartbeats 3200000 in
theorem specCom_any (va vn : Value) (d y : Dx) (S : Nat → Prop) (w : World) (h : DfaV w S va vn d) (hy : minR d y) :
    Calls Tryz.prog 31 #[.agg #[va, vn]] w (CopyD (comD y) w) := by
  obtain ⟨⟨A, c, hA⟩, A', c', hA'⟩ := h.shape
  subst hA
  subst hA'
  obtain ⟨p, hp⟩ : ∃ p, p = d.acc.length := ⟨_, rfl⟩
  obtain ⟨p', hp'⟩ : ∃ p', p' = d.nxt.length := ⟨_, rfl⟩
  rw [← hp, ← hp'] at h ⊢
  obtain ⟨W0, hW0⟩ : ∃ W0, W0 = (w.alloc (.cells #[.slice A p c, .slice A' p' c'] 29)).alloc (.cells #[.slice none 0 0, .slice none 0 0] 29) := ⟨_, rfl⟩
  have HB0 : Hid (Below w.heap.size w W0) := Lib.hid (by rw [hW0]; exact ((Below.refl _ _).alloc (Nat.le_refl _) _).alloc (by simp) _)
  have hx := (by
    have k := box2_kept (w := w) (w1 := W0) (a := .slice A p c) (b := .slice A' p' c') (t := 29) (by rw [hW0]; exact (Below.refl _ _).alloc (by simp) _)
    exact ⟨k.2.1, k.2.2.1⟩ : Bx2 W0 w.heap.size (.slice A p c) (.slice A' p' c'))
  have HY : Hid (W0.heap[w.heap.size + 1]? = some (.cells #[.slice none 0 0, .slice none 0 0] 29 (0, 0))) := Lib.hid (by rw [hW0]; exact three2 w _ _ _ _)
  have HM := Lib.hid (specMinD_any (.slice A p c) (.slice A' p' c') d y S W0 (h.kept HB0.out) hy)
  obtain ⟨hc00, hc01⟩ := hx
  rw [hW0] at hc00 hc01
  clear h hy hp hp'
  go_enter Tryz.func31, Tryz.ntmps31
  go_wp2_with fail
  go_at_call 52
  rw [← hW0]
  refine HM.out.mono ?_
  rintro e w2 hcd
  obtain ⟨A1, q1, A2, q2, rfl, ⟨Sa, Sn, hoa, hon, hsa, hsn⟩, hb2⟩ := hcd.shape
  clear hc00 hc01 hcd hW0
  obtain ⟨n, hn⟩ : ∃ n, n = y.acc.length := ⟨_, rfl⟩
  obtain ⟨n', hn'⟩ : ∃ n', n' = y.nxt.length := ⟨_, rfl⟩
  have HNn := Lib.hid hn
  have hbn := hoa.1
  rw [bools_length, ← hn] at hbn
  rw [← hn] at hoa ⊢
  rw [← hn'] at hon ⊢
  have h0 := hb2.size
  have h00 := HB0.out.size
  have hlt := (Array.getElem?_eq_some_iff.1 HY.out).1
  have HY2 : Hid (w2.heap[w.heap.size + 1]? = some (.cells #[.slice none 0 0, .slice none 0 0] 29 (0, 0))) := Lib.hid ((hb2.block _ hlt).trans HY.out)
  obtain ⟨Wx, hWx⟩ : ∃ Wx, Wx = w2.alloc (.cells #[.slice A1 n q1, .slice A2 n' q2] 29) := ⟨_, rfl⟩
  have HXB : Hid (Wx.heap[w2.heap.size]? = some (.cells #[.slice A1 n q1, .slice A2 n' q2] 29 (0, 0))) := Lib.hid (by
    rw [hWx]
    exact heap_alloc_new w2 _)
  have HXO : Hid (Below w2.heap.size w2 Wx) := Lib.hid (by
    rw [hWx]
    exact (Below.refl _ _).alloc (Nat.le_refl _) _)
  have HSa := Lib.hid hsa
  have HSn := Lib.hid hsn
  have HOa : Hid (RowO Wx Sa (.slice A1 n q1) (bools (turned y.acc 0))) := Lib.hid (by
    rw [turned_zero]
    exact hoa.mono (fun g hg => HXO.out.block g (hsa g hg).1.2) (fun _ h => h))
  have HOn := Lib.hid hon
  have HB2 := Lib.hid hb2
  clear hoa hon hsa hsn hn hn' hb2 hlt
  go_wp2_with fail
  rw [← hWx]
  clear hWx
  go_loopw [4] (fun iv wr => ∃ i : Nat, iv = .int .i64 i ∧ i ≤ n ∧ Hid (Wx.heap.size = wr.heap.size ∧ (∀ g, ¬ Sa g → wr.heap[g]? = Wx.heap[g]?) ∧ RowO wr Sa (.slice A1 n q1) (bools (turned y.acc i)) ∧ Below w.heap.size w wr)) (fun iv _ => n - (intOf iv).toNat)
  case atStart => exact ⟨0, rfl, Nat.zero_le _, Lib.hid ⟨rfl, fun _ _ => rfl, HOa.out, HB0.out.trans ((HB2.out.trans (HXO.out.mono h0)).mono h00)⟩⟩
  case round =>
    obtain ⟨i, rfl, hi, HR⟩ := hrel
    have hnb : ¬ Sa w2.heap.size := fun e => Nat.lt_irrefl _ (HSa.out _ e).1.2
    obtain ⟨c0, c1, f0, f1⟩ := box2_facts ((HR.out.2.1 _ hnb).trans HXB.out)
    by_cases hlt : i < n
    · have hl : i < y.acc.length := by rw [← HNn.out]; exact hlt
      obtain ⟨g, hg, hsg, hgl, hst⟩ := HR.out.2.2.1.set (j := i) (by rw [bools_length, turned_length]; exact hl)
      subst hg
      obtain ⟨⟨x0, hx0⟩, hf0, hset⟩ := hst wr rfl
      obtain ⟨ad, e, -, hcb⟩ := HR.out.2.2.1.row.boolD (j := i) (by rw [turned_length]; exact hl)
      cases e
      rw [turned_at hl] at hcb
      obtain ⟨b, hb⟩ : ∃ b, b = y.acc.getD i false := ⟨_, rfl⟩
      rw [← hb] at hcb
      have HS := Lib.hid (by
        have k := hset (.bool (!(y.acc.getD i false)))
        rw [turned_step hl, ← hb] at k
        exact k)
      have HG := Lib.hid (And.intro hsg (And.intro (HSa.out g hsg).1.1 hgl))
      rw [show ((⟨g, 0, none⟩ : Addr).add i) = ⟨g, i, none⟩ by rcases i with _ | i <;> simp [Addr.add]] at hcb
      have HL := Lib.hid hlt
      have s1 : (i : Int) < (n : Int) := by omega
      have s2 : (0 : Int) ≤ (i : Int) := by omega
      clear hset hst hx0 hb hsg f0 f1 c1 hl
      go_wp2_with fail
      go_still_tail 10, (by kernel_rfl)
      go_wp2_with fail
      go_roundw
      case rel => exact ⟨i + 1, by go_num, by have := HL.out; omega, Lib.hid ⟨by rw [HR.out.1]; simp [World.setCell], fun h hh => (Below.heap_setCell _ _ _ _ (fun e => hh (by rw [e]; exact HG.out.1))).trans (HR.out.2.1 h hh), HS.out, (HR.out.2.2.2.setCell (p := ⟨g, i, none⟩) (by have := HG.out.2.1; show w.heap.size ≤ g; omega) _).drew⟩⟩
      case measure => have := HL.out; simp [intOf]; omega
    · obtain rfl : i = n := by omega
      have hd : decide ((i : Int) < (i : Int)) = false := by simp
      have hy1 : ¬ Sa (w.heap.size + 1) := fun e => by
        have := (HSa.out _ e).1.1
        have := (Array.getElem?_eq_some_iff.1 HY.out).1
        omega
      obtain ⟨e0, e1, k0, k1⟩ := box2_facts ((HR.out.2.1 _ hy1).trans ((HXO.out.block _ (Array.getElem?_eq_some_iff.1 HY2.out).1).trans HY2.out))
      obtain ⟨hcl, hsz, hot, hBl⟩ := put2 (k := .slice A1 i q1) (l := .slice A2 n' q2) e0 e1
      obtain ⟨hc0, hc1⟩ := hcl
      have HOt := Lib.hid (And.intro hsz (And.intro hot hBl))
      clear hsz hot hBl f0 f1 hnb hy1
      go_wp2_with fail
      refine bodyPost_ret (v := .agg #[.slice A1 i q1, .slice A2 n' q2]) (by simp [results, Tryz.results31, go_sem, hc0, hc1]) rfl ?_
      have hyl := (Array.getElem?_eq_some_iff.1 HY.out).1
      have hWz : w2.heap.size ≤ wr.heap.size := by rw [← HR.out.1]; exact HXO.out.size
      refine ⟨_, _, rfl, ⟨Sa, Sn, ?_, ?_, fun g hg => ⟨⟨by have := (HSa.out g hg).1.1; omega, by rw [HOt.out.1]; have := (HSa.out g hg).1.2; omega⟩, (HSa.out g hg).2⟩, fun g hg => ⟨by have := (HSn.out g hg).1; omega, by rw [HOt.out.1]; have := (HSn.out g hg).2; omega⟩⟩, HOt.out.2.2 _ _ HR.out.2.2.2 (Nat.le_succ _)⟩
      · have k := HR.out.2.2.1.mono (w' := (wr.setCell ⟨w.heap.size + 1, 0, none⟩ (.slice A1 i q1)).setCell ⟨w.heap.size + 1, 1, none⟩ (.slice A2 n' q2)) (S' := Sa) (fun g hg => HOt.out.2.1 g (by have := (HSa.out g hg).1.1; omega)) (fun _ h => h)
        rw [HNn.out, turned_all] at k
        rw [HNn.out]
        exact k
      · exact HOn.out.mono (fun g hg => by
          have h1 := HSn.out g hg
          exact (HOt.out.2.1 g (by have := h1.1; omega)).trans ((HR.out.2.1 g (fun e => (HSa.out g e).2 hg)).trans (HXO.out.block g h1.2))) (fun _ h => h) (by rw [HOt.out.1]; exact hWz)
end Go.Proofs.YtlkhmpdncimnfaaGreatDoor

/-
  What spec.l6Put answers: an ascending list with one more.
-/
namespace Go.Proofs.YtlkhmpdncimnfaaGreatDoor
open Go.RowKit

theorem putS_here : ∀ {s : List Nat} {q i : Nat} (h : i < s.length), (∀ j (hj : j < s.length), j < i → s[j] < q) → s[i] = q → putS s q = s
  | x :: s, q, 0, _, _, e => by
    have e : x = q := e
    subst e
    simp [putS]
  | x :: s, q, i + 1, h, hl, e => by
    have hx : x < q := hl 0 (by simp) (by omega)
    unfold putS
    rw [if_pos hx, putS_here (i := i) (by simpa using h) (fun j hj hji => hl (j + 1) (by simpa using hj) (by omega)) e]
theorem putS_new : ∀ {s : List Nat} {q i : Nat}, i ≤ s.length → (∀ j (hj : j < s.length), j < i → s[j] < q) → (∀ h : i < s.length, q < s[i]) → putS s q = s.take i ++ q :: s.drop i
  | [], q, 0, _, _, _ => rfl
  | x :: s, q, 0, _, _, hg => by
    have hx : q < x := hg (by simp)
    unfold putS
    rw [if_neg (by omega), if_neg (by omega)]
    rfl
  | x :: s, q, i + 1, h, hl, hg => by
    have hx : x < q := hl 0 (by simp) (by omega)
    unfold putS
    rw [if_pos hx, putS_new (i := i) (by simpa using h) (fun j hj hji => hl (j + 1) (by simpa using hj) (by omega)) (fun h' => hg (by simpa using h'))]
    rfl
  | [], q, i + 1, h, _, _ => absurd h (by simp)
theorem ir_cells {w : World} {B g cap : Nat} {l : List Int} (h : IR w B (.slice (some ⟨g, 0, none⟩) l.length cap) l) : l.length ≤ cap ∧ cap ≤ maxLen ∧ ∀ j, (hj : j < l.length) → w.cell? ⟨g, j, none⟩ = some (.int .i64 l[j]) := by
  rcases h.2 with ⟨h0, _⟩ | ⟨g', cap', cur, e, _, hh, h1, h2, _, h3⟩
  · cases h0
  · cases e
    refine ⟨h1, h2, fun j hj => ?_⟩
    rw [cell_of_row w g j cur _ (0, 0) hh]
    have h4 : (ints l)[j]? = some (.int .i64 l[j]) := by simp [ints, hj]
    rw [← h3, List.getElem?_take_of_lt (by omega), Array.getElem?_toList] at h4
    exact h4
theorem ir_some {w : World} {B : Nat} {v : Value} {l : List Int} (h : IR w B v l) (hne : v ≠ .slice none 0 0) : ∃ g cap, v = .slice (some ⟨g, 0, none⟩) l.length cap ∧ B ≤ g ∧ g < w.heap.size := by
  rcases h.2 with ⟨h0, _⟩ | ⟨g', cap', cur, e, h1, hh, _⟩
  · exact absurd h0 hne
  · exact ⟨g', cap', e, h1, blk_lt hh⟩

/-- What l6Put answers. -/
def PutPost (B : Nat) (v : Value) (l : List Int) (w : World) (e : Ending) (w' : World) : Prop :=
  ∃ v', e = .returned v' ∧ IR w' B v' l ∧ v' ≠ .slice none 0 0 ∧ (v'.ownBlock = v.ownBlock ∨ ∃ g, v'.ownBlock = some g ∧ w.heap.size ≤ g) ∧ Below w.heap.size w w'

/-- A row of the call's own that has grown. -/
theorem put_grow {w0 w w' : World} {v v' : Value} {n : Nat} {xs ys : List Value} (hb : Below w0.heap.size w0 w) (h : w.ownsRow w0.heap.size 3 1 v n xs) {n' : Nat} (hown : w'.ownsRow w0.heap.size 3 1 v' n' ys) (hg : w.grownBy w' v.ownBlock) :
    Hid (w'.ownsRow w0.heap.size 3 1 v' n' ys) ∧ Hid (Below w0.heap.size w0 w') :=
  ⟨Lib.hid hown, Lib.hid (hb.grown hg hb.size (fun g e => (h.lt g e).1))⟩
theorem ints_take_at {w : World} {g : Nat} {s : List Nat} (h : ∀ j, (hj : j < s.length) → w.cell? ⟨g, j, none⟩ = some (.int .i64 ((s[j] : Nat) : Int))) (i : Nat) : ∀ (j : Nat) (u : Value), (ints (natI (s.take i)))[j]? = some u → w.cell? ((⟨g, 0, none⟩ : Addr).add j) = some u := by
  intro j u hu
  rw [Addr.add_lit, Nat.zero_add]
  simp only [ints, natI, List.map_map, List.getElem?_map] at hu
  rw [List.getElem?_take] at hu
  split at hu
  · obtain ⟨x, hx, rfl⟩ := Option.map_eq_some_iff.1 hu
    obtain ⟨hj, rfl⟩ := List.getElem?_eq_some_iff.1 hx
    exact h j hj
  · simp at hu
theorem ints_drop_at {w : World} {g : Nat} {s : List Nat} (h : ∀ j, (hj : j < s.length) → w.cell? ⟨g, j, none⟩ = some (.int .i64 ((s[j] : Nat) : Int))) (i : Nat) : ∀ (j : Nat) (u : Value), (ints (natI (s.drop i)))[j]? = some u → w.cell? ((⟨g, i, none⟩ : Addr).add j) = some u := by
  intro j u hu
  rw [Addr.add_lit]
  simp only [ints, natI, List.map_map, List.getElem?_map] at hu
  rw [List.getElem?_drop] at hu
  obtain ⟨x, hx, rfl⟩ := Option.map_eq_some_iff.1 hu
  obtain ⟨hj, rfl⟩ := List.getElem?_eq_some_iff.1 hx
  exact h (i + j) hj
theorem ints_one (l : List Int) : ∀ u ∈ ints l, u.oneCell' = true := fun u hu => by
  obtain ⟨x, _, rfl⟩ := List.mem_map.1 hu
  rfl

theorem put_end {w w' : World} {B : Nat} {v v3 : Value} {n : Nat} {xs : List Value} {t : List Nat} (h : w'.ownsRow w.heap.size 3 1 v3 n xs) (hx : xs = ints (natI t)) (hn : n = t.length) (h0 : 0 < n) (hB : B ≤ w.heap.size) (hb : Below w.heap.size w w') : PutPost B v (natI t) w (.returned v3) w' := by
  subst hx
  obtain ⟨k, rfl⟩ : ∃ k, n = k + 1 := ⟨n - 1, by omega⟩
  obtain ⟨g, cap, rfl⟩ := own_succ h
  refine ⟨_, rfl, ?_, by simp, .inr ⟨g, rfl, (h.lt g rfl).1⟩, hb⟩
  have h2 := own_on (w' := w') h (fun _ _ => rfl) hB
  unfold IR
  rw [natI_length, ← hn]
  exact h2

set_option maxRecDepth 100000 in
set_option maxHeartbeats 3200000 in
theorem specPut_any (B : Nat) (v : Value) (s : List Nat) (q : Nat) (w : World) (h : IR w B v (natI s)) (hne : v ≠ .slice none 0 0) (hs : s.length ≤ 2000) :
    Calls Tryz.prog 56 #[v, .int .i64 (q : Int)] w (PutPost B v (natI (putS s q)) w) := by
  obtain ⟨i0, hi, hz0, hz1, hz2⟩ := info_parts intInfo
  obtain ⟨g, cap, rfl, hBg, hgl⟩ := ir_some h hne
  rw [natI_length] at h ⊢
  obtain ⟨hcap, hcm, hcl⟩ := ir_cells (l := natI s) (by rw [natI_length]; exact h)
  rw [natI_length] at hcap
  have HC : Hid (∀ j, (hj : j < s.length) → w.cell? ⟨g, j, none⟩ = some (.int .i64 ((s[j] : Nat) : Int))) := Lib.hid (fun j hj => by rw [hcl j (by rw [natI_length]; exact hj)]; simp [natI])
  have HR := Lib.hid h
  have HN := Lib.hid (IR.none w (B := w.heap.size) (Nat.le_refl _))
  have HN0 := Lib.hid ((Below.refl w.heap.size w).alloc (Nat.le_refl _) (.cells #[] 3))
  have HK := Lib.hid (fun (V : World) (hV : Below w.heap.size w V) => (fun j (hj : j < s.length) => (hV.cell (cell_in (HC.out j hj))).trans (HC.out j hj)))
  clear h hne hcl
  go_enter Tryz.func56, Tryz.ntmps56
  go_wp2_with fail
  go_loopw [5] (fun iv wr => ∃ i : Nat, iv = .int .i64 i ∧ i ≤ s.length ∧ Hid (∀ j (hj : j < s.length), j < i → s[j] < q) ∧ w = wr) (fun iv _ => s.length - (intOf iv).toNat)
  case atStart => exact ⟨0, rfl, Nat.zero_le _, Lib.hid (fun j _ hj => absurd hj (Nat.not_lt_zero _)), rfl⟩
  case round =>
    obtain ⟨i, rfl, hil, HL, rfl⟩ := hrel
    by_cases hlt : i < s.length
    · have hc := HC.out i hlt
      obtain ⟨x, hx⟩ : ∃ x, x = s[i] := ⟨_, rfl⟩
      rw [← hx] at hc
      have e1 : decide ((i : Int) < (s.length : Int)) = true := by simp; omega
      have e2 : (0 : Int) ≤ (i : Int) := by omega
      have e3 : (i : Int) < (s.length : Int) := by omega
      rcases Nat.lt_trichotomy x q with hxq | hxq | hxq
      · have e4 : decide ((x : Int) < (q : Int)) = true := by simp; omega
        have HL2 : Hid (∀ j (hj : j < s.length), j < i + 1 → s[j] < q) := Lib.hid (fun j hj hji => by
          rcases Nat.lt_or_eq_of_le (Nat.le_of_lt_succ hji) with h | h
          · exact HL.out j hj h
          · subst h; rw [← hx]; exact hxq)
        clear hx
        go_wp2_with fail
        go_round
        case rel => exact ⟨i + 1, by go_num, by omega, HL2, trivial⟩
        case measure => simp [intOf]; omega
      · have e4 : decide ((x : Int) < (q : Int)) = false := by simp; omega
        have e5 : ((x : Int) == (q : Int)) = true := by simp; omega
        have HP := Lib.hid (putS_here hlt HL.out (by rw [← hx]; exact hxq))
        clear hx
        go_wp2_with fail
        go_ret
        exact ⟨_, rfl, by rw [HP.out]; exact HR.out, by simp, .inl rfl, Below.refl _ _⟩
      · have e4 : decide ((x : Int) < (q : Int)) = false := by simp; omega
        have e5 : ((x : Int) == (q : Int)) = false := by simp; omega
        have HP := Lib.hid (putS_new hil HL.out (fun _ => by rw [← hx]; exact hxq))
        clear hx
        have e6 : (i : Int) ≤ (cap : Int) := by omega
        have HT1 : Hid ((ints (natI (s.take i))).length = i * 1) := Lib.hid (by simp [ints, natI]; omega)
        have HT2 := Lib.hid (ints_take_at (HK.out _ HN0.out) i)
        have HT3 := Lib.hid (ints_one (natI (s.take i)))
        go_wp2_with (at_builtin; refine wpList_append_own_at _ rfl (.tmp 34) (.tmp 37) 68 rfl w.heap.size 3 i0 (.int .i64 0) 1 8 Tryz.underlying68 hi hz0 hz1 hz2 rfl (by decide) _ 0 [] rfl HN.out ⟨g, 0, none⟩ i cap (ints (natI (s.take i))) rfl HT1.out HT2.out HT3.out (by unfold maxLen; omega) (by omega) (by simp) ?_)
        intro v1 w1 hown1 hgrow1 hnil1 hat1
        obtain ⟨Q1, HB1⟩ := put_grow HN0.out HN.out hown1 hgrow1
        clear hown1 hgrow1 hnil1 hat1
        go_wp2_with (at_builtin; refine wpList_append_own_at _ rfl (.tmp 39) (.tmp 41) 68 rfl w.heap.size 3 i0 (.int .i64 0) 1 8 Tryz.underlying68 hi hz0 hz1 hz2 rfl (by decide) _ _ _ rfl (Q1.out.alloc _) ⟨w1.heap.size, 0, none⟩ 1 1 [.int .i64 (q : Int)] rfl rfl (cell_one_new _ _ _) (by simp [Value.oneCell']) (by unfold maxLen; omega) (by omega) (by have := HB1.out.size; simp; omega) ?_)
        intro v2 w2 hown2 hgrow2 hnil2 hat2
        obtain ⟨Q2, HB2⟩ := put_grow (HB1.out.alloc HB1.out.size _) (Q1.out.alloc _) hown2 hgrow2
        have HT4 := Lib.hid (ints_drop_at (HK.out _ HB2.out) i)
        clear hown2 hgrow2 hnil2 hat2
        have e7 : (i : Int) ≤ (s.length : Int) := by omega
        have e8 : (s.length : Int) ≤ (cap : Int) := by omega
        have HT5 : Hid ((ints (natI (s.drop i))).length = (s.length - i) * 1) := Lib.hid (by simp [ints, natI])
        have HT6 := Lib.hid (ints_one (natI (s.drop i)))
        go_wp2_with (at_builtin; refine wpList_append_own_at _ rfl (.tmp 43) (.tmp 46) 68 rfl w.heap.size 3 i0 (.int .i64 0) 1 8 Tryz.underlying68 hi hz0 hz1 hz2 rfl (by decide) _ _ _ rfl Q2.out ⟨g, i, none⟩ (s.length - i) (cap - i) (ints (natI (s.drop i))) rfl HT5.out HT4.out HT6.out (by unfold maxLen; omega) (by omega) HB2.out.size ?_)
        intro v3 w3 hown3 hgrow3 hnil3 hat3
        obtain ⟨Q3, HB3⟩ := put_grow HB2.out Q2.out hown3 hgrow3
        clear hown3 hgrow3 hnil3 hat3
        go_wp2_with fail
        go_ret
        exact put_end Q3.out (by rw [HP.out]; simp [ints, natI]) (by rw [HP.out]; simp; omega) (by omega) (by omega) HB3.out
    · have hie : i = s.length := by omega
      have e1 : decide ((i : Int) < (s.length : Int)) = false := by simp; omega
      have e2 : (0 : Int) ≤ (i : Int) := by omega
      have HP := Lib.hid (putS_new hil HL.out (fun h => absurd h hlt))
      have HD0 : Hid (s.drop i = []) := Lib.hid (by rw [hie]; simp)
      clear hie
      by_cases hci : cap = i
      · have HCi := Lib.hid hci
        clear hci
        have e6 : (i : Int) ≤ (cap : Int) := by omega
        have HT1 : Hid ((ints (natI (s.take i))).length = i * 1) := Lib.hid (by simp [ints, natI]; omega)
        have HT2 := Lib.hid (ints_take_at (HK.out _ HN0.out) i)
        have HT3 := Lib.hid (ints_one (natI (s.take i)))
        go_upto_region 6 with fail
        clear hlt
        go_wp2_with (at_builtin; refine wpList_append_own_at _ rfl (.tmp 34) (.tmp 37) 68 rfl w.heap.size 3 i0 (.int .i64 0) 1 8 Tryz.underlying68 hi hz0 hz1 hz2 rfl (by decide) _ 0 [] rfl HN.out ⟨g, 0, none⟩ i cap (ints (natI (s.take i))) rfl HT1.out HT2.out HT3.out (by unfold maxLen; omega) (by omega) (by simp) ?_)
        intro v1 w1 hown1 hgrow1 hnil1 hat1
        obtain ⟨Q1, HB1⟩ := put_grow HN0.out HN.out hown1 hgrow1
        clear hown1 hgrow1 hnil1 hat1
        go_wp2_with (at_builtin; refine wpList_append_own_at _ rfl (.tmp 39) (.tmp 41) 68 rfl w.heap.size 3 i0 (.int .i64 0) 1 8 Tryz.underlying68 hi hz0 hz1 hz2 rfl (by decide) _ _ _ rfl (Q1.out.alloc _) ⟨w1.heap.size, 0, none⟩ 1 1 [.int .i64 (q : Int)] rfl rfl (cell_one_new _ _ _) (by simp [Value.oneCell']) (by unfold maxLen; omega) (by omega) (by have := HB1.out.size; simp; omega) ?_)
        intro v2 w2 hown2 hgrow2 hnil2 hat2
        obtain ⟨Q2, HB2⟩ := put_grow (HB1.out.alloc HB1.out.size _) (Q1.out.alloc _) hown2 hgrow2
        have HT4 : Hid (∀ (j : Nat) (u : Value), (ints (natI (s.drop i)))[j]? = some u → w2.cell? ((⟨g, 0, none⟩ : Addr).add j) = some u) := Lib.hid (fun j u hu => by rw [HD0.out] at hu; simp [ints, natI] at hu)
        clear hown2 hgrow2 hnil2 hat2
        have hci := HCi.out
        have e7 : (i : Int) ≤ (s.length : Int) := by omega
        have e8 : (s.length : Int) ≤ (cap : Int) := by omega
        have HT5 : Hid ((ints (natI (s.drop i))).length = (s.length - i) * 1) := Lib.hid (by simp [ints, natI])
        have HT6 := Lib.hid (ints_one (natI (s.drop i)))
        go_wp2_with (at_builtin; refine wpList_append_own_at _ rfl (.tmp 43) (.tmp 46) 68 rfl w.heap.size 3 i0 (.int .i64 0) 1 8 Tryz.underlying68 hi hz0 hz1 hz2 rfl (by decide) _ _ _ rfl Q2.out ⟨g, 0, none⟩ (s.length - i) 0 (ints (natI (s.drop i))) rfl HT5.out HT4.out HT6.out (by unfold maxLen; omega) (by omega) HB2.out.size ?_)
        intro v3 w3 hown3 hgrow3 hnil3 hat3
        obtain ⟨Q3, HB3⟩ := put_grow HB2.out Q2.out hown3 hgrow3
        clear hown3 hgrow3 hnil3 hat3
        go_wp2_with fail
        go_ret
        exact put_end Q3.out (by rw [HP.out]; simp [ints, natI]) (by rw [HP.out]; simp; omega) (by omega) (by omega) HB3.out
      · have e6 : (i : Int) ≤ (cap : Int) := by omega
        have HT1 : Hid ((ints (natI (s.take i))).length = i * 1) := Lib.hid (by simp [ints, natI]; omega)
        have HT2 := Lib.hid (ints_take_at (HK.out _ HN0.out) i)
        have HT3 := Lib.hid (ints_one (natI (s.take i)))
        go_upto_region 6 with fail
        clear hlt
        go_wp2_with (at_builtin; refine wpList_append_own_at _ rfl (.tmp 34) (.tmp 37) 68 rfl w.heap.size 3 i0 (.int .i64 0) 1 8 Tryz.underlying68 hi hz0 hz1 hz2 rfl (by decide) _ 0 [] rfl HN.out ⟨g, 0, none⟩ i cap (ints (natI (s.take i))) rfl HT1.out HT2.out HT3.out (by unfold maxLen; omega) (by omega) (by simp) ?_)
        intro v1 w1 hown1 hgrow1 hnil1 hat1
        obtain ⟨Q1, HB1⟩ := put_grow HN0.out HN.out hown1 hgrow1
        clear hown1 hgrow1 hnil1 hat1
        go_wp2_with (at_builtin; refine wpList_append_own_at _ rfl (.tmp 39) (.tmp 41) 68 rfl w.heap.size 3 i0 (.int .i64 0) 1 8 Tryz.underlying68 hi hz0 hz1 hz2 rfl (by decide) _ _ _ rfl (Q1.out.alloc _) ⟨w1.heap.size, 0, none⟩ 1 1 [.int .i64 (q : Int)] rfl rfl (cell_one_new _ _ _) (by simp [Value.oneCell']) (by unfold maxLen; omega) (by omega) (by have := HB1.out.size; simp; omega) ?_)
        intro v2 w2 hown2 hgrow2 hnil2 hat2
        obtain ⟨Q2, HB2⟩ := put_grow (HB1.out.alloc HB1.out.size _) (Q1.out.alloc _) hown2 hgrow2
        have HT4 := Lib.hid (ints_drop_at (HK.out _ HB2.out) i)
        clear hown2 hgrow2 hnil2 hat2
        have e7 : (i : Int) ≤ (s.length : Int) := by omega
        have e8 : (s.length : Int) ≤ (cap : Int) := by omega
        have HT5 : Hid ((ints (natI (s.drop i))).length = (s.length - i) * 1) := Lib.hid (by simp [ints, natI])
        have HT6 := Lib.hid (ints_one (natI (s.drop i)))
        go_wp2_with (at_builtin; refine wpList_append_own_at _ rfl (.tmp 43) (.tmp 46) 68 rfl w.heap.size 3 i0 (.int .i64 0) 1 8 Tryz.underlying68 hi hz0 hz1 hz2 rfl (by decide) _ _ _ rfl Q2.out ⟨g, i, none⟩ (s.length - i) (cap - i) (ints (natI (s.drop i))) rfl HT5.out HT4.out HT6.out (by unfold maxLen; omega) (by omega) HB2.out.size ?_)
        intro v3 w3 hown3 hgrow3 hnil3 hat3
        obtain ⟨Q3, HB3⟩ := put_grow HB2.out Q2.out hown3 hgrow3
        clear hown3 hgrow3 hnil3 hat3
        go_wp2_with fail
        go_ret
        exact put_end Q3.out (by rw [HP.out]; simp [ints, natI]) (by rw [HP.out]; simp; omega) (by omega) (by omega) HB3.out
end Go.Proofs.YtlkhmpdncimnfaaGreatDoor

/-
  A region that draws its order, over calls that make memory and turn nothing old: one walk. Of no function of the program.
-/
namespace Go.Proofs.YtlkhmpdncimnfaaGreatDoor
open Go.RowKit

/-- The worlds that turn nothing of W. -/
structure UpW (W : World) where
  w : World
  up : Below W.heap.size W w
instance upW_some (W : World) : Nonempty (UpW W) := ⟨⟨W, Below.refl _ _⟩⟩
/-- A region that draws, over calls that turn nothing old: one walk, in the order of the text. -/
theorem wp_region_up {P : Program} {W : World} {id : Nat} {Q : Exit → Act → World → Prop} {a : Act} {l : List Oper} (hm : P.follows .mixedOrders = true) (hB : Region.lexB .any l.toArray = true)
    (h : wpQuiet P l.toArray (fun w' => ∃ n : UpW W, w' = n.w) (fun a' => ∀ w', (∃ n : UpW W, w' = n.w) → Q .normal a' w') l a) : (Code.region id l.toArray true).wp P Q a W :=
  wp_region_quiet (C := fun w' => ∃ n : UpW W, w' = n.w) hm hB ⟨⟨_, (Below.refl W.heap.size W).drew⟩, rfl⟩ (by simpa using h)
theorem up_call {P : Program} {f : FuncId} {args : Array Value} {W : World} {n : UpW W} {v : Value} (h : Calls P f args n.w fun e w' => e = .returned v ∧ Below n.w.heap.size n.w w') : Calls P f args n.w fun e w'' => e = .returned v ∧ ∃ m : UpW W, w'' = m.w :=
  h.mono fun _ w' ⟨he, hb⟩ => ⟨he, ⟨w', n.up.trans (hb.mono n.up.size)⟩, rfl⟩
end Go.Proofs.YtlkhmpdncimnfaaGreatDoor

/-
  What spec.l6Any and spec.l6Move answer.
-/
namespace Go.Proofs.YtlkhmpdncimnfaaGreatDoor
open Go.RowKit

theorem asc_len {s : List Nat} {n : Nat} (h : s.Pairwise (· < ·)) (hn : ∀ q ∈ s, q < n) : s.length ≤ n :=
  nodup_len n s (h.imp (fun h => Nat.ne_of_lt h)) hn
theorem row_at {w : World} {S : Nat → Prop} {v : Value} {s : List Nat} (h : RowV w S v (ints (natI s))) {j : Nat} (hj : j < s.length) : ∃ ad c, v = .slice (some ad) s.length c ∧ w.cell? (ad.add j) = some (.int .i64 ((s[j] : Nat) : Int)) := by
  obtain ⟨hl, A, c, rfl, hc⟩ := h
  obtain ⟨ad, rfl, -, hce⟩ := hc j (.int .i64 ((s[j] : Nat) : Int)) (by simp [ints, natI, hj])
  exact ⟨ad, c, by simp [ints, natI], hce⟩
theorem row_shape {w : World} {S : Nat → Prop} {v : Value} {s : List Nat} (h : RowV w S v (ints (natI s))) : ∃ A c, v = .slice A s.length c := by
  obtain ⟨hl, A, c, rfl, hc⟩ := h
  exact ⟨A, c, by simp [ints, natI]⟩
theorem IR.rowV {w : World} {B : Nat} {v : Value} {s : List Nat} (h : IR w B v (natI s)) (hl : s.length ≤ 9223372036854775807) : RowV w (fun g => v.ownBlock = some g) v (ints (natI s)) := (h.row (by rw [natI_length]; exact hl)).row
theorem IR.nat {w : World} {B : Nat} {v : Value} {s : List Nat} (h : IR w B v (natI s)) (hl : s.length ≤ 9223372036854775807) : RowV w (fun g => v.ownBlock = some g) v (ints (natI s)) := h.rowV hl

set_option maxRecDepth 100000 in
set_option maxHeartbeats 3200000 in
theorem specAny_any (ad : Addr) (n c : Nat) (vn : Value) (a : Au) (v : Value) (s : List Nat) (S : Nat → Prop) (w : World) (hA : ∀ q, q < n → w.cell? (ad.add q) = some (.bool (a.A q))) (hs : ∀ q ∈ s, q < n) (hl : s.length ≤ 2000) (h : RowV w S v (ints (natI s))) :
    Calls Tryz.prog 55 #[.agg #[.slice (some ad) n c, vn], v] w fun e w' => e = .returned (.bool (anyS a s)) ∧ Below w.heap.size w w' := by
  obtain ⟨A, cs, rfl⟩ := row_shape h
  obtain ⟨W0, hW0⟩ : ∃ W0, W0 = w.alloc (.cells #[.slice (some ad) n c, vn] 29) := ⟨_, rfl⟩
  have HB0 : Hid (Below w.heap.size w W0) := Lib.hid (by rw [hW0]; exact (Below.refl _ _).alloc (Nat.le_refl _) _)
  have HX : Hid (W0.heap[w.heap.size]? = some (.cells #[.slice (some ad) n c, vn] 29 (0, 0))) := Lib.hid (by rw [hW0]; exact heap_alloc_new w _)
  have HA := Lib.hid (fun (V : World) (hV : Below W0.heap.size W0 V) q (hq : q < n) => (HB0.out.trans (hV.mono HB0.out.size)).cell (cell_in (hA q hq)) |>.trans (hA q hq))
  have HR := Lib.hid (fun j (hj : j < s.length) => row_at h hj)
  have HK := Lib.hid (fun (V : World) (hV : Below W0.heap.size W0 V) {p : Addr} {u : Value} (hc : w.cell? p = some u) => ((HB0.out.trans (hV.mono HB0.out.size)).cell (cell_in hc)).trans hc)
  have HS := Lib.hid hs
  clear hA h hs
  go_enter Tryz.func55, Tryz.ntmps55
  go_upto_region 1 with fail
  rw [← hW0]
  clear hW0
  go_wp2_with fail
  go_loopw [5] (fun iv wr => ∃ i : Nat, iv = .int .i64 i ∧ i ≤ s.length ∧ Hid (∀ j (hj : j < s.length), j < i → a.A s[j] = false) ∧ Hid (Below W0.heap.size W0 wr)) (fun iv _ => s.length - (intOf iv).toNat)
  case atStart => exact ⟨0, rfl, Nat.zero_le _, Lib.hid (fun j _ hj => absurd hj (Nat.not_lt_zero _)), Lib.hid (Below.refl _ _)⟩
  case round =>
    obtain ⟨i, rfl, hil, HL, HBr⟩ := hrel
    by_cases hlt : i < s.length
    · have hd : decide ((i : Int) < (s.length : Int)) = true := by simp; omega
      obtain ⟨ad2, c2, hv, hc⟩ := HR.out i hlt
      injection hv with hv1 _ hv3
      subst hv1
      have hc2 := HK.out wr HBr.out hc
      obtain ⟨x, hx⟩ : ∃ x, x = s[i] := ⟨_, rfl⟩
      have hxn : x < n := by rw [hx]; exact HS.out _ (List.getElem_mem hlt)
      have hca := HA.out wr HBr.out x hxn
      obtain ⟨c0, -, -, -⟩ := box2_facts ((HBr.out.block _ (blk_lt HX.out)).trans HX.out)
      rw [← hx] at hc2
      obtain ⟨b, hb⟩ : ∃ b, b = a.A x := ⟨_, rfl⟩
      rw [← hb] at hca
      have HXe := Lib.hid hx
      have HBe := Lib.hid hb
      have s1 : (0 : Int) ≤ (i : Int) := by omega
      have s2 : (i : Int) < (s.length : Int) := by omega
      have s3 : (0 : Int) ≤ (x : Int) := by omega
      have s4 : (x : Int) < (n : Int) := by omega
      clear hc hx hb hv3
      go_wp2_with fail
      go_quiet (fail)
      clear hc2 hca c0
      cases b with
      | true =>
        have HE : Hid (anyS a s = true) := Lib.hid (anyS_iff.2 ⟨x, by rw [HXe.out]; exact List.getElem_mem hlt, HBe.out.symm⟩)
        go_wp2_with fail
        go_ret
        exact ⟨congrArg (fun b : Bool => Ending.returned (.bool b)) HE.out.symm, below_draws (HB0.out.trans (HBr.out.mono HB0.out.size)) _⟩
      | false =>
        have HL2 : Hid (∀ j (hj : j < s.length), j < i + 1 → a.A s[j] = false) := Lib.hid (fun j hj hji => by
          rcases Nat.lt_or_eq_of_le (Nat.le_of_lt_succ hji) with h | h
          · exact HL.out j hj h
          · subst h; rw [← HXe.out]; exact HBe.out.symm)
        have HB2 := Lib.hid (fun k => below_draws HBr.out k)
        go_wp2_with fail
        go_roundw
        case rel => exact ⟨i + 1, by go_num, by omega, HL2, Lib.hid (HB2.out _)⟩
        case measure => simp [intOf]; omega
    · have HE : Hid (anyS a s = false) := Lib.hid (by
        cases h : anyS a s with
        | false => rfl
        | true =>
          obtain ⟨q, hq, h2⟩ := anyS_iff.1 h
          obtain ⟨j, hj, rfl⟩ := List.getElem_of_mem hq
          have := HL.out j hj (by omega)
          rw [this] at h2
          cases h2)
      have hd : decide ((i : Int) < (s.length : Int)) = false := by simp; omega
      go_wp2_with fail
      go_ret
      exact ⟨congrArg (fun b : Bool => Ending.returned (.bool b)) HE.out.symm, HB0.out.trans (HBr.out.mono HB0.out.size)⟩

/-- What l6Move answers: a row of its own. -/
def MovPost (l : List Int) (w : World) (e : Ending) (w' : World) : Prop := ∃ v', e = .returned v' ∧ IR w' w.heap.size v' l ∧ v' ≠ .slice none 0 0 ∧ Below w.heap.size w w'
/-- The set after the first states. -/
def movT (a : Au) (s : List Nat) (k j : Nat) : List Nat := moveS a (s.take j) k
theorem movT_succ {a : Au} {s : List Nat} {k j : Nat} (hj : j < s.length) : movT a s k (j + 1) = putS (movT a s k j) (a.T s[j] k) := by
  unfold movT moveS
  rw [List.take_succ_eq_append_getElem hj, List.foldl_append]
  rfl
theorem movT_len {a : Au} {s : List Nat} {k j n : Nat} (hs : ∀ q ∈ s, a.T q k < n) : (movT a s k j).length ≤ n := asc_len (move_asc _ _ _) (fun q hq => by
  obtain ⟨p, hp, rfl⟩ := mem_move.1 hq
  exact hs p (List.mem_of_mem_take hp))

set_option maxRecDepth 100000 in
set_option maxHeartbeats 3200000 in
theorem specMove_any (va : Value) (aN : Addr) (n c k : Nat) (a : Au) (v : Value) (s : List Nat) (S : Nat → Prop) (w : World) (hn : n ≤ 40) (hk : k < 3) (hs : ∀ q ∈ s, q < n) (hw : ∀ q, q < n → a.T q k < n)
    (hT : ∀ q, q < n → ∃ r q', w.cell? (aN.add q) = some (.slice (some r) 3 q') ∧ w.cell? (r.add k) = some (.int .i64 ((a.T q k : Nat) : Int))) (hl : s.length ≤ 2000) (h : RowV w S v (ints (natI s))) :
    Calls Tryz.prog 54 #[.agg #[va, .slice (some aN) n c], v, .int .i64 (k : Int)] w (MovPost (natI (moveS a s k)) w) := by
  obtain ⟨A, cs, rfl⟩ := row_shape h
  obtain ⟨W0, hW0⟩ : ∃ W0, W0 = (w.alloc (.cells #[va, .slice (some aN) n c] 29)).alloc (.cells #[] 3) := ⟨_, rfl⟩
  have HB0 : Hid (Below w.heap.size w W0) := Lib.hid (by rw [hW0]; exact ((Below.refl _ _).alloc (Nat.le_refl _) _).alloc (by simp) _)
  have HX : Hid (W0.heap[w.heap.size]? = some (.cells #[va, .slice (some aN) n c] 29 (0, 0))) := Lib.hid (by rw [hW0]; exact (Below.heap_alloc _ _ _ (by simp)).trans (heap_alloc_new w _))
  have HN : Hid (IR W0 w.heap.size (.slice (some ⟨w.heap.size + 1, 0, none⟩) 0 0) []) := Lib.hid (by
    have h := IR.none (w.alloc (.cells #[va, .slice (some aN) n c] 29)) (B := w.heap.size) (by simp)
    rw [World.size_alloc, ← hW0] at h
    exact h)
  have HT := Lib.hid hT
  have HR := Lib.hid (fun j (hj : j < s.length) => row_at h hj)
  have HK := Lib.hid (fun (V : World) (hV : Below w.heap.size w V) {p : Addr} {u : Value} (hc : w.cell? p = some u) => (hV.cell (cell_in hc)).trans hc)
  have HS := Lib.hid hs
  have HW := Lib.hid hw
  have HLn := Lib.hid (fun j => movT_len (a := a) (s := s) (k := k) (j := j) (n := n) (fun q hq => hw q (hs q hq)))
  clear hT h hs hw
  go_enter Tryz.func54, Tryz.ntmps54
  go_upto_region 2 with fail
  rw [← hW0]
  clear hW0
  go_wp2_with fail
  go_loopw [7, 8] (fun ov iv wr => ∃ i : Nat, iv = .int .i64 i ∧ i ≤ s.length ∧ ov ≠ .slice none 0 0 ∧ Hid (IR wr w.heap.size ov (natI (movT a s k i))) ∧ Hid (Below w.heap.size w wr ∧ wr.heap[w.heap.size]? = some (.cells #[va, .slice (some aN) n c] 29 (0, 0)))) (fun _ iv _ => s.length - (intOf iv).toNat)
  case atStart => exact ⟨0, rfl, Nat.zero_le _, by simp, HN, Lib.hid ⟨HB0.out, HX.out⟩⟩
  case round =>
    obtain ⟨i, rfl, hil, hne, HO, HBr⟩ := hrel
    by_cases hlt : i < s.length
    · have hd : decide ((i : Int) < (s.length : Int)) = true := by simp; omega
      obtain ⟨ad2, c2, hv, hc⟩ := HR.out i hlt
      injection hv with hv1 _ hv3
      subst hv1
      obtain ⟨x, hx⟩ : ∃ x, x = s[i] := ⟨_, rfl⟩
      have hxn : x < n := by rw [hx]; exact HS.out _ (List.getElem_mem hlt)
      obtain ⟨r, q', h1, h2⟩ := HT.out x hxn
      rw [← hx] at hc
      obtain ⟨y, hy⟩ : ∃ y, y = a.T x k := ⟨_, rfl⟩
      rw [← hy] at h2
      have HSu : Hid (movT a s k (i + 1) = putS (movT a s k i) y) := Lib.hid (by rw [movT_succ hlt, hy, hx])
      have hll := HLn.out i
      obtain ⟨g, cap, rfl, -, -⟩ := ir_some HO.out hne
      rw [natI_length] at HO ⊢
      have HPu := Lib.hid (fun (V : World) (hV : Below wr.heap.size wr V) => specPut_any w.heap.size (.slice (some ⟨g, 0, none⟩) (movT a s k i).length cap) (movT a s k i) y V (by
        have h := HO.out.below hV
        exact h) (by simp) (by omega))
      obtain ⟨m, hm⟩ : ∃ m, m = (movT a s k i).length := ⟨_, rfl⟩
      rw [← hm] at HO HPu ⊢
      have HKe := Lib.hid (fun (V : World) (hV : Below wr.heap.size wr V) => (by
        have hb := HBr.out.1.trans (hV.mono HBr.out.1.size)
        obtain ⟨-, x1, -, -⟩ := box2_facts ((hV.block _ (blk_lt HBr.out.2)).trans HBr.out.2)
        exact ⟨x1, HK.out V hb hc, HK.out V hb h1, HK.out V hb h2⟩ :
        V.cell? ⟨w.heap.size, 1, none⟩ = some (.slice (some aN) n c) ∧ V.cell? (ad2.add i) = some (.int .i64 (x : Int)) ∧ V.cell? (aN.add x) = some (.slice (some r) 3 q') ∧ V.cell? (r.add k) = some (.int .i64 (y : Int))))
      have hbw : Below wr.heap.size wr wr := Below.refl _ _
      have s1 : (0 : Int) ≤ (i : Int) := by omega
      have s2 : (i : Int) < (s.length : Int) := by omega
      have s3 : (0 : Int) ≤ (x : Int) := by omega
      have s4 : (x : Int) < (n : Int) := by omega
      have s5 : (0 : Int) ≤ (k : Int) := by omega
      have s6 : (k : Int) < 3 := by omega
      clear hc hx hy hv3 h1 h2 hm hll
      go_wp2_with fail
      go_region_held3 (fun V => V.cell? ⟨w.heap.size, 1, none⟩ = some (.slice (some aN) n c) ∧ V.cell? (ad2.add i) = some (.int .i64 (x : Int)) ∧ V.cell? (aN.add x) = some (.slice (some r) 3 q') ∧ V.cell? (r.add k) = some (.int .i64 (y : Int))) (first | exact HKe.out _ hbw.drew | exact HKe.out _ hbw) (first | (go_at_call 56; (with_reducible refine (HPu.out _ hbw.drew).mono ?_); rintro e1 w1 ⟨v1, rfl, hi1, hn1, ho1, hb1⟩; have hbw := hbw.drew.trans (hb1.mono hbw.drew.size)))
      have HO2 := Lib.hid hi1
      rw [← HSu.out] at HO2
      have HB2 : Hid (Below w.heap.size w w1 ∧ w1.heap[w.heap.size]? = some (.cells #[va, .slice (some aN) n c] 29 (0, 0))) := Lib.hid ⟨HBr.out.1.trans (hbw.mono HBr.out.1.size), (hbw.block _ (blk_lt HBr.out.2)).trans HBr.out.2⟩
      clear hi1 ho1 hb1 hbw
      go_wp2_with fail
      go_roundw
      case rel => exact ⟨i + 1, by go_num, by omega, hn1, HO2, HB2⟩
      case measure => simp [intOf]; omega
    · have hd : decide ((i : Int) < (s.length : Int)) = false := by simp; omega
      have HE : Hid (movT a s k i = moveS a s k) := Lib.hid (by unfold movT; rw [List.take_of_length_le (by omega)])
      rw [HE.out] at HO
      obtain ⟨g, cap, rfl, -, -⟩ := ir_some HO.out hne
      go_wp2_with fail
      go_ret
      exact ⟨_, rfl, HO.out, hne, HBr.out.1⟩
end Go.Proofs.YtlkhmpdncimnfaaGreatDoor

/-
  What spec.EqualDfa answers: whether two automata are the same, field by field.
  What slices.Equal answers over rows of ints and of bools, slices.EqualFunc over rows of rows of ints, and impl.EqualDfa.
-/
namespace Go.Proofs.YtlkhmpdncimnfaaGreatDoor
open Go.RowKit

theorem list_eq_of {α : Type} (x : α) {l l' : List α} (hl : l.length = l'.length) (h : ∀ i, i < l.length → l.getD i x = l'.getD i x) : l = l' := by
  apply List.ext_getElem hl
  intro i h1 h2
  have := h i h1
  rwa [getD_at h1, getD_at h2] at this

set_option maxRecDepth 100000 in
set_option maxHeartbeats 1600000 in
theorem specInts_any (v v' : Value) (l l' : List Int) (S S' : Nat → Prop) (w : World) (h : RowV w S v (ints l)) (h' : RowV w S' v' (ints l')) :
    Calls Tryz.prog 87 #[v, v'] w fun e w' => e = .returned (.bool (decide (l = l'))) ∧ Below w.heap.size w w' := by
  obtain ⟨hl, A, c, rfl⟩ := h.ints_shape
  obtain ⟨hl', A', c', rfl⟩ := h'.ints_shape
  have HE := Lib.hid (fun j (hj : j < l.length) => h.intD hj)
  have HE' := Lib.hid (fun j (hj : j < l'.length) => h'.intD hj)
  clear h h'
  by_cases hlen : l.length = l'.length
  · have HLen := Lib.hid hlen
    have HYes : Hid ((∀ i, i < l.length → l.getD i 0 = l'.getD i 0) → decide (l = l') = true) := Lib.hid (fun h => decide_eq_true (list_eq_of 0 HLen.out h))
    have HNo : Hid (∀ i, l.getD i 0 ≠ l'.getD i 0 → decide (l = l') = false) := Lib.hid (fun i h => decide_eq_false (fun e => h (by rw [e])))
    obtain ⟨b, hb⟩ : ∃ b, b = decide (l = l') := ⟨_, rfl⟩
    rw [← hb] at HYes HNo ⊢
    obtain ⟨n, hn⟩ : ∃ n, n = l.length := ⟨_, rfl⟩
    rw [← hlen] at HE' hl' ⊢
    rw [← hn] at HE HE' hl HYes ⊢
    have HR : Hid (∀ j, j < n → ∃ ad ad', A = some ad ∧ A' = some ad' ∧ w.cell? (ad.add j) = some (.int .i64 (l.getD j 0)) ∧ w.cell? (ad'.add j) = some (.int .i64 (l'.getD j 0))) := Lib.hid (fun j hj => by
      obtain ⟨ad, e, -, hc⟩ := HE.out j hj
      obtain ⟨ad', e', -, hc'⟩ := HE'.out j hj
      exact ⟨ad, ad', e, e', hc, hc'⟩)
    clear hb hn hlen HE HE'
    have hne : ((n : Int) != (n : Int)) = false := by simp
    go_enter Tryz.func87, Tryz.ntmps87
    go_wp2_with fail
    clear hne
    go_loopw [5] (fun i wr => ∃ j m : Nat, i = .int .i64 j ∧ j ≤ n ∧ wr = w.drewN m ∧ Hid (∀ i, i < j → l.getD i 0 = l'.getD i 0)) (fun i _ => n - (intOf i).toNat)
    case atStart => exact ⟨0, 0, rfl, Nat.zero_le _, rfl, Lib.hid (fun i hi => absurd hi (Nat.not_lt_zero _))⟩
    case round =>
      obtain ⟨j, m, rfl, hj, rfl, hall⟩ := hrel
      by_cases hlt : j < n
      · obtain ⟨ad, ad', rfl, rfl, hc1, hc2⟩ := HR.out j hlt
        obtain ⟨x, hx⟩ : ∃ x, x = l.getD j 0 := ⟨_, rfl⟩
        obtain ⟨x', hx'⟩ : ∃ x', x' = l'.getD j 0 := ⟨_, rfl⟩
        rw [← hx] at hc1
        rw [← hx'] at hc2
        by_cases hxx : x = x'
        · subst hxx
          have HX : Hid (l.getD j 0 = l'.getD j 0) := Lib.hid (by rw [← hx, ← hx'])
          have hne : (x != x) = false := by simp
          clear hx hx'
          go_wp2_with fail
          go_quiet (fail)
          all_goals go_wp2
          all_goals
            go_roundw
            case rel => exact ⟨j + 1, _, by go_num, by omega, rfl, Lib.hid (fun i hi => by
              by_cases e : i = j
              · rw [e]; exact HX.out
              · exact hall.out i (by omega))⟩
            case measure => simp [intOf]; omega
        · have hne : (x != x') = true := by simpa using hxx
          have HF : Hid (b = false) := Lib.hid (HNo.out j (by rw [← hx, ← hx']; exact hxx))
          clear hx hx' hxx
          go_wp2_with fail
          go_quiet (fail)
          all_goals go_wp2
          all_goals
            go_ret
            exact ⟨congrArg (fun b : Bool => Ending.returned (.bool b)) HF.out.symm, below_draws (below_draws (Below.refl _ _) _) _⟩
      · obtain rfl : j = n := by omega
        have HF : Hid (b = true) := Lib.hid (HYes.out hall.out)
        go_wp2_with fail
        go_ret
        exact ⟨congrArg (fun b : Bool => Ending.returned (.bool b)) HF.out.symm, below_draws (Below.refl _ _) m⟩
  · have HF : Hid (decide (l = l') = false) := Lib.hid (decide_eq_false (fun e => hlen (by rw [e])))
    have hne : ((l.length : Int) != (l'.length : Int)) = true := by simp; omega
    clear hlen
    go_enter Tryz.func87, Tryz.ntmps87
    go_wp2_with fail
    go_ret
    exact ⟨congrArg (fun b : Bool => Ending.returned (.bool b)) HF.out.symm, Below.refl _ _⟩
theorem bool_ne {x y : Bool} (h : ¬ x = y) : (x = true ∧ y = false) ∨ (x = false ∧ y = true) := by cases x <;> cases y <;> simp at h ⊢
end Go.Proofs.YtlkhmpdncimnfaaGreatDoor

/-
  Elements of a subset construction as the model lays them: a number, a set, a mark. What spec.l6Find answers.
-/
namespace Go.Proofs.YtlkhmpdncimnfaaGreatDoor
open Go.RowKit

abbrev K6 := Nat × List Nat × Bool
/-- The cells of the elements, their sets' slices beside. -/
def k6C : List Value → List K6 → List Value
  | u :: us, x :: l => .int .i64 (x.1 : Int) :: u :: .bool x.2.2 :: k6C us l
  | _, _ => []
theorem k6C_at : ∀ (us : List Value) (l : List K6) (j : Nat) (x : K6) (u : Value), us[j]? = some u → l[j]? = some x →
    (k6C us l)[j * 3]? = some (.int .i64 (x.1 : Int)) ∧ (k6C us l)[j * 3 + 1]? = some u ∧ (k6C us l)[j * 3 + 2]? = some (.bool x.2.2)
  | [], _, _, _, _, h, _ => by simp at h
  | _ :: _, [], _, _, _, _, h => by simp at h
  | u :: us, x :: l, 0, y, v, h1, h2 => by
    cases h1
    cases h2
    exact ⟨rfl, rfl, rfl⟩
  | u :: us, x :: l, j + 1, y, v, h1, h2 => by
    have ih := k6C_at us l j y v (by simpa using h1) (by simpa using h2)
    rw [show (j + 1) * 3 = j * 3 + 1 + 1 + 1 by omega]
    simpa [k6C] using ih
theorem k6C_snoc : ∀ (us : List Value) (l : List K6) (u : Value) (x : K6), us.length = l.length → k6C (us ++ [u]) (l ++ [x]) = k6C us l ++ [.int .i64 (x.1 : Int), u, .bool x.2.2]
  | [], [], u, x, _ => rfl
  | [], _ :: _, _, _, h => by simp at h
  | _ :: _, [], _, _, h => by simp at h
  | v :: us, y :: l, u, x, h => by
    have ih := k6C_snoc us l u x (by simpa using h)
    simp [k6C, ih]
/-- The sets of the elements. -/
def Sets (w : World) (B : Nat) (us : List Value) (l : List K6) : Prop := us.length = l.length ∧ ∀ (j : Nat) (u : Value) (x : K6), us[j]? = some u → l[j]? = some x → IR w B u (natI x.2.1)
theorem Sets.snoc {w : World} {B : Nat} {us : List Value} {l : List K6} (h : Sets w B us l) {u : Value} {x : K6} (hu : IR w B u (natI x.2.1)) : Sets w B (us ++ [u]) (l ++ [x]) := by
  refine ⟨by simp [h.1], fun j v y hv hy => ?_⟩
  by_cases hj : j < us.length
  · rw [List.getElem?_append_left hj] at hv
    rw [List.getElem?_append_left (by rw [← h.1]; exact hj)] at hy
    exact h.2 j v y hv hy
  · have e : j = us.length := by
      have := (List.getElem?_eq_some_iff.1 hv).1
      simp at this
      omega
    subst e
    rw [List.getElem?_append_right (Nat.le_refl _), Nat.sub_self] at hv
    rw [List.getElem?_append_right (by rw [h.1]; exact Nat.le_refl _), h.1, Nat.sub_self] at hy
    cases hv
    cases hy
    exact hu
theorem Sets.kept {w w' : World} {B : Nat} {us : List Value} {l : List K6} {row : Option Nat} (h : Sets w B us l) (hg : w.grownBy w' row) (hne : ∀ g u, u ∈ us → u.ownBlock = some g → row ≠ some g) : Sets w' B us l :=
  ⟨h.1, fun j u x hu hx => (h.2 j u x hu hx).kept hg (fun g e => hne g u (List.mem_of_getElem? hu) e)⟩
theorem Sets.below {w w' : World} {B : Nat} {us : List Value} {l : List K6} (h : Sets w B us l) (hb : Below w.heap.size w w') : Sets w' B us l := h.kept (grown_of hb) (fun g u _ _ e => by cases e)

theorem set6Info : (Tryz.prog.info? 95).map (fun i => (i.zero, i.size, i.bytes)) = some (some (.agg #[.int .i64 0, .slice none 0 0, .bool false]), 3, 40) := by kernel_rfl

/-- What l6Find answers. -/
def fndV (l : List K6) (x : K6) : Int := if x ∈ l then (l.idxOf x : Int) else -1
theorem fndV_here {l : List K6} {x : K6} {i : Nat} (hi : l[i]? = some x) (hl : ∀ (j : Nat) (y : K6), j < i → l[j]? = some y → y ≠ x) : fndV l x = (i : Int) := by
  have hm : x ∈ l := List.mem_of_getElem? hi
  have hlt : l.idxOf x < l.length := List.idxOf_lt_length_of_mem hm
  have h1 : l[l.idxOf x]? = some x := by rw [List.getElem?_eq_getElem hlt, List.getElem_idxOf]
  unfold fndV
  rw [if_pos hm]
  rcases Nat.lt_trichotomy (l.idxOf x) i with h | h | h
  · exact absurd rfl (hl _ x h h1)
  · rw [h]
  · exfalso
    have h2 := List.not_of_lt_findIdx (p := (· == x)) (xs := l) (i := i) h
    obtain ⟨hi', e⟩ := List.getElem?_eq_some_iff.1 hi
    simp [e] at h2
theorem natI_inj {s t : List Nat} (h : natI s = natI t) : s = t := by
  unfold natI at h
  exact (List.map_inj_right (fun a b e => by omega)).1 h
theorem fndV_none {l : List K6} {x : K6} (hl : ∀ (j : Nat) (y : K6), l[j]? = some y → y ≠ x) : fndV l x = -1 := by
  unfold fndV
  rw [if_neg]
  intro hm
  obtain ⟨j, hj⟩ := List.getElem?_of_mem hm
  exact hl j x hj rfl

set_option maxRecDepth 100000 in
set_option maxHeartbeats 6400000 in
theorem specFnd_any (B B' B2 : Nat) (v vx : Value) (us : List Value) (l : List K6) (x : K6) (w : World) (hown : w.ownsRow B 95 3 v l.length (k6C us l)) (hset : Sets w B' us l) (hx : IR w B2 vx (natI x.2.1)) (hl : l.length ≤ 2000) (hll : ∀ y ∈ l, y.2.1.length ≤ 2000) (hxl : x.2.1.length ≤ 2000) :
    Calls Tryz.prog 57 #[v, .agg #[.int .i64 (x.1 : Int), vx, .bool x.2.2]] w fun e w' => e = .returned (.int .i64 (fndV l x)) ∧ Below w.heap.size w w' := by
  obtain ⟨W0, hW0⟩ : ∃ W0, W0 = w.alloc (.cells #[.int .i64 (x.1 : Int), vx, .bool x.2.2] 95) := ⟨_, rfl⟩
  have HB0 : Hid (Below w.heap.size w W0) := Lib.hid (by rw [hW0]; exact (Below.refl _ _).alloc (Nat.le_refl _) _)
  have HX : Hid (W0.heap[w.heap.size]? = some (.cells #[.int .i64 (x.1 : Int), vx, .bool x.2.2] 95 (0, 0))) := Lib.hid (by rw [hW0]; exact heap_alloc_new w _)
  have HI := Lib.hid (fun (V : World) (hV : Below w.heap.size w V) (j : Nat) (u : Value) (y : K6) (hu : us[j]? = some u) (hy : l[j]? = some y) => specInts_any u vx (natI y.2.1) (natI x.2.1) _ _ V (((hset.2 j u y hu hy).below hV).nat (by have := hll y (List.mem_of_getElem? hy); omega)) ((hx.below hV).nat (by omega)))
  have HKc := Lib.hid (fun (V : World) (hV : Below w.heap.size w V) {p : Addr} {u : Value} (hc : w.cell? p = some u) => (hV.cell (cell_in hc)).trans hc)
  have HOw := Lib.hid hown
  have HUl := Lib.hid hset.1
  obtain ⟨Ax, cx, rfl⟩ : ∃ A c, vx = .slice A x.2.1.length c := row_shape (hx.nat (by omega))
  have HUs : Hid (∀ (j : Nat) (u : Value) (y : K6), us[j]? = some u → l[j]? = some y → ∃ A c, u = .slice A y.2.1.length c) := Lib.hid (fun j u y hu hy => row_shape ((hset.2 j u y hu hy).nat (by have := hll y (List.mem_of_getElem? hy); omega)))
  obtain ⟨n, hn⟩ : ∃ n, n = l.length := ⟨_, rfl⟩
  have HN := Lib.hid hn
  have hsh : ∃ A c, v = .slice A n c := by
    rcases hown.2 with ⟨rfl, h0⟩ | ⟨g, cap, cur, rfl, _⟩
    · exact ⟨none, 0, by rw [hn, h0]⟩
    · exact ⟨_, _, by rw [hn]⟩
  obtain ⟨A, cv, rfl⟩ := hsh
  rw [← hn] at hl
  clear hown hset hx hll hxl hn
  go_enter Tryz.func57, Tryz.ntmps57
  go_upto_region 1 with fail
  rw [← hW0]
  clear hW0
  go_wp2_with fail
  go_loopw [5] (fun iv wr => ∃ i : Nat, iv = .int .i64 i ∧ i ≤ n ∧ Hid (∀ (j : Nat) (y : K6), j < i → l[j]? = some y → y ≠ x) ∧ Hid (Below W0.heap.size W0 wr)) (fun iv _ => n - (intOf iv).toNat)
  case atStart => exact ⟨0, rfl, Nat.zero_le _, Lib.hid (fun j _ hj => absurd hj (Nat.not_lt_zero _)), Lib.hid (Below.refl _ _)⟩
  case round =>
    obtain ⟨i, rfl, hil, HL, HBr⟩ := hrel
    by_cases hlt : i < n
    · have hd : decide ((i : Int) < (n : Int)) = true := by simp; omega
      obtain ⟨y, hy⟩ : ∃ y, l[i]? = some y := ⟨_, List.getElem?_eq_getElem (by rw [← HN.out]; exact hlt)⟩
      obtain ⟨u, hu⟩ : ∃ u, us[i]? = some u := ⟨_, List.getElem?_eq_getElem (by rw [HUl.out, ← HN.out]; exact hlt)⟩
      obtain ⟨g, cg, hvg, -, hcg⟩ := own_cell HOw.out (by rw [← HN.out]; omega)
      injection hvg with hA _ hcv
      subst hA
      subst hcv
      obtain ⟨p1, p2, p3⟩ := k6C_at us l i y u hu hy
      have q1 := (hcg (i * 3) (by rw [← HN.out]; omega)).trans p1
      have q2 := (hcg (i * 3 + 1) (by rw [← HN.out]; omega)).trans p2
      have q3 := (hcg (i * 3 + 2) (by rw [← HN.out]; omega)).trans p3
      obtain ⟨Au, cu, hush⟩ := HUs.out i u y hu hy
      subst hush
      have HL1 := Lib.hid (fun (V : World) (hV : Below wr.heap.size wr V) => HB0.out.trans ((HBr.out.trans (hV.mono HBr.out.size)).mono HB0.out.size))
      have HIi := Lib.hid (fun (m : UpW wr) => up_call (HI.out m.w (HL1.out m.w m.up) i _ y hu hy))
      have k1 := fun (m : UpW wr) => HKc.out m.w (HL1.out m.w m.up) q1
      have k2 := fun (m : UpW wr) => HKc.out m.w (HL1.out m.w m.up) q2
      have k3 := fun (m : UpW wr) => HKc.out m.w (HL1.out m.w m.up) q3
      have hx3 : ∀ V, Below wr.heap.size wr V → Bx3 V w.heap.size (.int .i64 (x.1 : Int)) (.slice Ax x.2.1.length cx) (.bool x.2.2) 95 := fun V hV => (hV.block _ (Nat.lt_of_lt_of_le (blk_lt HX.out) HBr.out.size)).trans ((HBr.out.block _ (blk_lt HX.out)).trans HX.out)
      have k4 := fun (m : UpW wr) => (hx3 m.w m.up).facts.1.1
      have k5 := fun (m : UpW wr) => (hx3 m.w m.up).facts.1.2.1
      have k6 := fun (m : UpW wr) => (hx3 m.w m.up).facts.1.2.2
      have s1 : (0 : Int) ≤ (i : Int) := by omega
      have s2 : (i : Int) < (n : Int) := by omega
      have HY := Lib.hid hy
      obtain ⟨xs, hxs⟩ : ∃ b, b = decide (natI y.2.1 = natI x.2.1) := ⟨_, rfl⟩
      rw [← hxs] at HIi
      obtain ⟨ly, hly⟩ : ∃ z, z = y.2.1.length := ⟨_, rfl⟩
      obtain ⟨lx, hlx⟩ : ∃ z, z = x.2.1.length := ⟨_, rfl⟩
      rw [← hly] at k2 HIi
      rw [← hlx] at k5 HIi
      have HXs := Lib.hid hxs
      obtain ⟨y1, hy1⟩ : ∃ z, z = y.1 := ⟨_, rfl⟩
      obtain ⟨y3, hy3⟩ : ∃ z, z = y.2.2 := ⟨_, rfl⟩
      obtain ⟨x1, hx1⟩ : ∃ z, z = x.1 := ⟨_, rfl⟩
      obtain ⟨x3, hx3'⟩ : ∃ z, z = x.2.2 := ⟨_, rfl⟩
      rw [← hy1] at k1
      rw [← hy3] at k3
      rw [← hx1] at k4
      rw [← hx3'] at k6
      have HE := Lib.hid (And.intro hy1 (And.intro hy3 (And.intro hx1 hx3')))
      clear hy hu p1 p2 p3 q1 q2 q3 hcg hx3 hxs hly hlx hy1 hy3 hx1 hx3'
      have goOn : Hid (y ≠ x) → Hid (∀ (j : Nat) (z : K6), j < i + 1 → l[j]? = some z → z ≠ x) := fun h => Lib.hid (fun j z hj hz => by
        rcases Nat.lt_or_eq_of_le (Nat.le_of_lt_succ hj) with h2 | h2
        · exact HL.out j z h2 hz
        · subst h2
          rw [HY.out] at hz
          cases hz
          exact h.out)
      by_cases h1 : y1 = x1
      · have e1 : ((y1 : Int) == (x1 : Int)) = true := by simp; omega
        by_cases h3 : y3 = x3
        · subst h3
          have e3 : (y3 == y3) = true := by simp
          cases xs with
          | true =>
            have HEq : Hid (y = x) := Lib.hid (by
              have h4 : natI y.2.1 = natI x.2.1 := by simpa using HXs.out.symm
              have h5 : y.2.1 = x.2.1 := natI_inj h4
              have h6 := HE.out
              exact Prod.ext (by omega) (Prod.ext h5 (h6.2.1.symm.trans h6.2.2.2)))
            have HF : Hid (fndV l x = (i : Int)) := Lib.hid (fndV_here (by rw [HY.out, HEq.out]) HL.out)
            clear h1 goOn
            go_wp2_with fail
            refine wp_region_up (by kernel_rfl) (by kernel_rfl) ?_
            repeat (go_big_quiet_step (with_reducible exact HIi.out _))
            refine wpQuiet_nil ?_
            rintro _ ⟨⟨wd, hbw⟩, rfl⟩
            have HBd := Lib.hid (HBr.out.trans (hbw.mono HBr.out.size))
            clear hbw k1 k2 k3 k4 k5 k6
            go_wp2_with fail
            go_ret
            exact ⟨congrArg (fun z : Int => Ending.returned (.int .i64 z)) HF.out.symm, HB0.out.trans (HBd.out.mono HB0.out.size)⟩
          | false =>
            have HG := goOn (Lib.hid (fun h => by
              have h4 : ¬ natI y.2.1 = natI x.2.1 := by simpa using HXs.out.symm
              exact h4 (by rw [h])))
            clear h1 goOn
            go_wp2_with fail
            refine wp_region_up (by kernel_rfl) (by kernel_rfl) ?_
            repeat (go_big_quiet_step (with_reducible exact HIi.out _))
            refine wpQuiet_nil ?_
            rintro _ ⟨⟨wd, hbw⟩, rfl⟩
            have HBd := Lib.hid (HBr.out.trans (hbw.mono HBr.out.size))
            clear hbw k1 k2 k3 k4 k5 k6
            go_wp2_with fail
            go_roundw
            case rel => exact ⟨i + 1, by go_num, by omega, HG, HBd⟩
            case measure => simp [intOf]; omega
        · have HG := goOn (Lib.hid (fun h => by
            have h6 := HE.out
            exact h3 (by rw [h6.2.1, h6.2.2.2, h])))
          have e3 : (y3 == x3) = false := by simp [h3]
          clear h1 h3 goOn
          go_wp2_with fail
          refine wp_region_up (by kernel_rfl) (by kernel_rfl) ?_
          repeat (go_big_quiet_step (with_reducible exact HIi.out _))
          refine wpQuiet_nil ?_
          rintro _ ⟨⟨wd, hbw⟩, rfl⟩
          have HBd := Lib.hid (HBr.out.trans (hbw.mono HBr.out.size))
          clear hbw k1 k2 k3 k4 k5 k6
          go_wp2_with fail
          go_roundw
          case rel => exact ⟨i + 1, by go_num, by omega, HG, HBd⟩
          case measure => simp [intOf]; omega
      · have HG := goOn (Lib.hid (fun h => by
          have h6 := HE.out
          exact h1 (by rw [h6.1, h6.2.2.1, h])))
        have e1 : ((y1 : Int) == (x1 : Int)) = false := by simp; omega
        clear h1 goOn
        go_wp2_with fail
        refine wp_region_up (by kernel_rfl) (by kernel_rfl) ?_
        repeat (go_big_quiet_step (with_reducible exact HIi.out _))
        refine wpQuiet_nil ?_
        rintro _ ⟨⟨wd, hbw⟩, rfl⟩
        have HBd := Lib.hid (HBr.out.trans (hbw.mono HBr.out.size))
        clear hbw k1 k2 k3 k4 k5 k6
        go_wp2_with fail
        go_roundw
        case rel => exact ⟨i + 1, by go_num, by omega, HG, HBd⟩
        case measure => simp [intOf]; omega
    · have HE : Hid (fndV l x = -1) := Lib.hid (fndV_none (fun j y hy => HL.out j y (by have := (List.getElem?_eq_some_iff.1 hy).1; rw [← HN.out] at this; omega) hy))
      have hd : decide ((i : Int) < (n : Int)) = false := by simp; omega
      go_wp2_with fail
      go_ret
      exact ⟨congrArg (fun z : Int => Ending.returned (.int .i64 z)) HE.out.symm, HB0.out.trans (HBr.out.mono HB0.out.size)⟩
end Go.Proofs.YtlkhmpdncimnfaaGreatDoor
