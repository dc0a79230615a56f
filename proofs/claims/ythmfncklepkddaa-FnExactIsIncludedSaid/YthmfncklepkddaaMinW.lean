/-
  The minimal automaton of a valid one, as an answer; its complement. Of no function of the program.
  What spec.l5Fits answers: the minimal automaton, where it has not too many states.
  How large a minimal automaton and its complement are.
-/
import Derived.Test.YthmfncklepkddaaMinS
import Derived.Test.YthmfncklepkddaaAuD
import Derived.StillTailTactics
namespace Go.Proofs.Ythmfncklepkddaa
open Go.RowKit

/-- The minimal automaton, or none. -/
def minR (d y : Dx) : Prop := if validD d = true then ∃ m, Canon m ∧ Eqv m 0 (auD d) 0 ∧ y = fieldsOf m else y = ⟨[], []⟩
theorem fieldsOf_au {d : Dx} (h : validD d = true) : (auD d).wf ∧ (auD d).n ≤ 40 ∧ d = fieldsOf (auD d) := by
  obtain ⟨h1, h2, h3, h4⟩ := of_validF h
  refine ⟨h1, h2, ?_⟩
  cases d
  simp only [fieldsOf, auD] at *
  rw [← h3, ← h4]
theorem minR_some (d : Dx) : ∃ y, minR d y := by
  unfold minR
  by_cases h : validD d = true
  · simp only [h, if_true]
    obtain ⟨m, h1, h2, _⟩ := exists_min (fieldsOf_au h).1
    exact ⟨_, m, h1, h2, rfl⟩
  · simp only [h]
    exact ⟨_, rfl⟩
theorem Eqv.swap {a b c : Au} {p q r : Nat} (h : Eqv a p c r) (h' : Eqv b q c r) : Eqv a p b q := fun w hw => (h w hw).trans (h' w hw).symm
theorem fields_one {m m' : Au} (h : Canon m) (h' : Canon m') (he : Eqv m 0 m' 0) : fieldsOf m = fieldsOf m' := by
  obtain ⟨h1, h2⟩ := min_fields h h' he
  unfold fieldsOf
  rw [h1, h2]
theorem minR_one {d y y' : Dx} (h : minR d y) (h' : minR d y') : y = y' := by
  unfold minR at h h'
  by_cases hv : validD d = true
  · simp only [hv, if_true] at h h'
    obtain ⟨m, h1, h2, rfl⟩ := h
    obtain ⟨m', h1', h2', rfl⟩ := h'
    exact fields_one h1 h1' (h2.swap h2')
  · simp only [hv] at h h'
    exact h.trans h'.symm
theorem RowO.empty (w : World) (S : Nat → Prop) : RowO w S (.slice none 0 0) [] :=
  (RowO.of_owns (base := 0) (e := 3) (n := 0) (xs := []) (v := .slice none 0 0) ⟨rfl, .inl ⟨rfl, rfl⟩⟩ (by omega)).mono (fun _ _ => rfl) (fun g hg => by simp [Value.ownBlock] at hg)
theorem DfaO.empty (w : World) (S : Nat → Prop) : DfaO w S (.slice none 0 0) (.slice none 0 0) ⟨[], []⟩ :=
  ⟨fun _ => False, fun _ => False, RowO.empty w _, ⟨[], fun _ => False, fun _ _ => False, RowO.empty w _, RowsP.nil _ _, fun _ h => h.elim⟩, fun _ h => h.elim, fun _ h => h.elim⟩
/-- The complement of an automaton's fields. -/
def comD (y : Dx) : Dx := ⟨y.acc.map (!·), y.nxt⟩
/-- Turned up to place i. -/
def turned (l : List Bool) (i : Nat) : List Bool := (l.take i).map (!·) ++ l.drop i
theorem turned_length (l : List Bool) (i : Nat) : (turned l i).length = l.length := by
  simp [turned]
  omega
theorem turned_at {l : List Bool} {i : Nat} (hi : i < l.length) : (turned l i).getD i false = l.getD i false := by
  have h1 : ((l.take i).map (!·)).length = i := by simp; omega
  rw [turned, List.getD_eq_getElem?_getD, List.getElem?_append_right (by omega), h1, Nat.sub_self, List.getElem?_drop, List.getD_eq_getElem?_getD, Nat.add_zero]
theorem turned_step {l : List Bool} {i : Nat} (hi : i < l.length) : (bools (turned l i)).set i (.bool (!(l.getD i false))) = bools (turned l (i + 1)) := by
  have e : l.drop i = l[i] :: l.drop (i + 1) := List.drop_eq_getElem_cons hi
  have h1 : ((l.take i).map (!·)).length = i := by simp; omega
  have h2 : turned l (i + 1) = (l.take i).map (!·) ++ (!l[i]) :: l.drop (i + 1) := by
    rw [turned, List.take_succ_eq_append_getElem hi, List.map_append, List.append_assoc]
    rfl
  rw [h2, turned, e, show l.getD i false = l[i] by rw [List.getD_eq_getElem?_getD, List.getElem?_eq_getElem hi]; rfl]
  simp only [bools, List.map_append, List.map_cons]
  rw [List.set_append_right _ _ (by simp; omega)]
  simp
  have : i - min i l.length = 0 := by omega
  rw [this]
  rfl
theorem turned_all (l : List Bool) : turned l l.length = l.map (!·) := by simp [turned]
theorem turned_zero (l : List Bool) : turned l 0 = l := by simp [turned]
end Go.Proofs.Ythmfncklepkddaa

namespace Go.Proofs.Ythmfncklepkddaa
open Go.RowKit

theorem validD_fields {m : Au} (h : m.wf) : validD (fieldsOf m) = decide (m.n ≤ 40) := by
  by_cases hn : m.n ≤ 40
  · rw [decide_eq_true hn]
    exact validF_of h hn
  · rw [decide_eq_false hn]
    exact validF_big (by omega)
/-- What fits. -/
def fitD (m : Au) : Dx := if m.n ≤ 40 then fieldsOf m else ⟨[], []⟩

set_option maxRecDepth 100000 in
set_option maxHeartbeats 3200000 in
theorem specFits_any (va vn : Value) (a : Au) (S : Nat → Prop) (w : World) (hw : a.wf) (hn : a.n ≤ 2000) (h : DfaV w S va vn (fieldsOf a)) :
    Calls Try.prog 67 #[.agg #[va, vn]] w fun e w' => ∃ m, Canon m ∧ Eqv m 0 a 0 ∧ CopyDB (fitD m) (decide (m.n ≤ 40)) w e w' := by
  obtain ⟨⟨A, c, hA⟩, A', c', hA'⟩ := h.shape
  subst hA
  subst hA'
  obtain ⟨p, hp⟩ : ∃ p, p = (fieldsOf a).acc.length := ⟨_, rfl⟩
  obtain ⟨p', hp'⟩ : ∃ p', p' = (fieldsOf a).nxt.length := ⟨_, rfl⟩
  rw [← hp, ← hp'] at h ⊢
  obtain ⟨W0, hW0⟩ : ∃ W0, W0 = (w.alloc (.cells #[.slice A p c, .slice A' p' c'] 27)).alloc (.cells #[.slice none 0 0, .slice none 0 0] 27) := ⟨_, rfl⟩
  have HB0 : Hid (Below w.heap.size w W0) := Lib.hid (by rw [hW0]; exact ((Below.refl _ _).alloc (Nat.le_refl _) _).alloc (by simp) _)
  have hx := (by
    have k := box2_kept (w := w) (w1 := W0) (a := .slice A p c) (b := .slice A' p' c') (t := 27) (by rw [hW0]; exact (Below.refl _ _).alloc (by simp) _)
    exact ⟨k.2.1, k.2.2.1⟩ : Bx2 W0 w.heap.size (.slice A p c) (.slice A' p' c'))
  have HY : Hid (W0.heap[w.heap.size + 1]? = some (.cells #[.slice none 0 0, .slice none 0 0] 27 (0, 0))) := Lib.hid (by rw [hW0]; exact three2 w _ _ _ _)
  have HM := Lib.hid (specMin_any (.slice A p c) (.slice A' p' c') a S W0 hw hn (h.kept HB0.out))
  obtain ⟨hc00, hc01⟩ := hx
  rw [hW0] at hc00 hc01
  clear h hp hp'
  go_enter Try.func67, Try.ntmps67
  go_wp2_with fail
  go_at_call 57
  rw [← hW0]
  refine HM.out.mono ?_
  rintro e w2 ⟨m, m1, m2, m3, hcd⟩
  obtain ⟨A1, q1, A2, q2, rfl, hoo, hb2⟩ := hcd.shape
  clear hc00 hc01 hcd hW0
  have hv := validD_fields m1.wf
  obtain ⟨n, hn⟩ : ∃ n, n = (fieldsOf m).acc.length := ⟨_, rfl⟩
  obtain ⟨n', hn'⟩ : ∃ n', n' = (fieldsOf m).nxt.length := ⟨_, rfl⟩
  rw [← hn] at hoo ⊢
  rw [← hn'] at hoo ⊢
  have h0 := hb2.size
  have h00 := HB0.out.size
  have hlt := (Array.getElem?_eq_some_iff.1 HY.out).1
  have HY2 : Hid (w2.heap[w.heap.size + 1]? = some (.cells #[.slice none 0 0, .slice none 0 0] 27 (0, 0))) := Lib.hid ((hb2.block _ hlt).trans HY.out)
  obtain ⟨Wx, hWx⟩ : ∃ Wx, Wx = w2.alloc (.cells #[.slice A1 n q1, .slice A2 n' q2] 27) := ⟨_, rfl⟩
  have HXB : Hid (Wx.heap[w2.heap.size]? = some (.cells #[.slice A1 n q1, .slice A2 n' q2] 27 (0, 0))) := Lib.hid (by
    rw [hWx]
    exact heap_alloc_new w2 _)
  have HXO : Hid (Below w2.heap.size w2 Wx) := Lib.hid (by
    rw [hWx]
    exact (Below.refl _ _).alloc (Nat.le_refl _) _)
  obtain ⟨b, hb⟩ : ∃ b, b = decide (m.n ≤ 40) := ⟨_, rfl⟩
  have HV := Lib.hid (specValidD_any (.slice A1 n q1) (.slice A2 n' q2) (fieldsOf m) _ Wx (hoo.dfa.kept HXO.out))
  rw [hv, ← hb] at HV
  have HBb := Lib.hid hb
  have HO := Lib.hid hoo
  have HB2 := Lib.hid hb2
  have HM1 := Lib.hid (And.intro m1 m2)
  obtain ⟨x0, x1, -, -⟩ := box2_facts HXB.out
  rw [hWx] at x0 x1
  clear hoo hn hn' hb2 hlt hb hv m1 m2 m3
  go_wp2_with fail
  go_at_call 20
  rw [← hWx]
  refine HV.out.mono ?_
  rintro e w3 ⟨rfl, hb3⟩
  clear x0 x1 hWx
  have HB3 := Lib.hid hb3
  have hxl := (Array.getElem?_eq_some_iff.1 HXB.out).1
  have hyl := (Array.getElem?_eq_some_iff.1 HY2.out).1
  obtain ⟨x0, x1, -, -⟩ := box2_facts ((hb3.block _ hxl).trans HXB.out)
  obtain ⟨e0, e1, k0, k1⟩ := box2_facts ((hb3.block _ (Nat.lt_of_lt_of_le hyl HXO.out.size)).trans ((HXO.out.block _ hyl).trans HY2.out))
  have HBW : Hid (Below w2.heap.size w2 w3) := Lib.hid (HXO.out.trans (hb3.mono HXO.out.size))
  have hyl0 := (Array.getElem?_eq_some_iff.1 HY.out).1
  clear hb3 hxl hyl
  cases b with
  | true =>
    obtain ⟨hcl, hsz, hot, hBl⟩ := put2 (k := .slice A1 n q1) (l := .slice A2 n' q2) e0 e1
    obtain ⟨hc0, hc1⟩ := hcl
    have HOt := Lib.hid (And.intro hsz (And.intro hot hBl))
    clear hsz hot hBl
    go_wp2_with fail
    refine bodyPost_ret (v := .tuple #[.agg #[.slice A1 n q1, .slice A2 n' q2], .bool true]) (by simp [results, Try.results67, go_sem, hc0, hc1]) rfl ?_
    have hb : m.n ≤ 40 := of_decide_eq_true HBb.out.symm
    refine ⟨m, HM1.out.1, HM1.out.2, ?_⟩
    rw [decide_eq_true hb, fitD, if_pos hb]
    exact ⟨_, _, rfl, HO.out.mono (fun g hg => (HOt.out.2.1 g (by have := hg.1; omega)).trans (HBW.out.block g hg.2)) (fun g hg => ⟨by have := hg.1; omega, by rw [HOt.out.1]; have := hg.2; have := HBW.out.size; omega⟩) (by rw [HOt.out.1]; exact HBW.out.size), HOt.out.2.2 _ _ (HB0.out.trans ((HB2.out.trans (HBW.out.mono h0)).mono h00)) (Nat.le_succ _)⟩
  | false =>
    obtain ⟨hcl, hsz, hot, hBl⟩ := put2 (k := .slice none 0 0) (l := .slice none 0 0) e0 e1
    obtain ⟨hc0, hc1⟩ := hcl
    have HOt := Lib.hid (And.intro hsz (And.intro hot hBl))
    clear hsz hot hBl
    go_wp2_with fail
    refine bodyPost_ret (v := .tuple #[.agg #[.slice none 0 0, .slice none 0 0], .bool false]) (by simp [results, Try.results67, go_sem, hc0, hc1]) rfl ?_
    have hb : ¬ m.n ≤ 40 := of_decide_eq_false HBb.out.symm
    refine ⟨m, HM1.out.1, HM1.out.2, ?_⟩
    rw [decide_eq_false hb, fitD, if_neg hb]
    exact ⟨_, _, rfl, DfaO.empty _ _, HOt.out.2.2 _ _ (HB0.out.trans ((HB2.out.trans (HBW.out.mono h0)).mono h00)) (Nat.le_succ _)⟩
end Go.Proofs.Ythmfncklepkddaa

namespace Go.Proofs.Ythmfncklepkddaa
open Go.RowKit

theorem tot_rows (f : Nat → List Int) (h : ∀ i, (f i).length = 3) : ∀ n, totR ((List.range n).map f) = n * 3
  | 0 => rfl
  | n + 1 => by
    have ih := tot_rows f h n
    unfold totR at ih ⊢
    rw [List.range_succ, List.map_append, List.map_append, List.sum_append, ih]
    simp [h]
    omega
theorem fieldsOf_wt {m : Au} (h : m.n ≤ 40) : wtD (fieldsOf m) ≤ 1048576 := by
  have h1 : (fieldsOf m).acc.length = m.n := accOf_length m
  have h2 : (fieldsOf m).nxt.length = m.n := nxtOf_length m
  have h3 : totR (fieldsOf m).nxt = m.n * 3 := tot_rows _ (fun i => by simp) m.n
  unfold wtD
  omega
theorem minR_au {d y : Dx} (h : minR d y) (hv : validD d = true) : ∃ m, Canon m ∧ Eqv m 0 (auD d) 0 ∧ y = fieldsOf m ∧ m.n ≤ 40 := by
  obtain ⟨q1, q2, _⟩ := fieldsOf_au hv
  obtain ⟨m', h1, h2, h3⟩ := exists_min q1
  have h' : minR d (fieldsOf m') := by
    unfold minR
    rw [if_pos hv]
    exact ⟨m', h1, h2, rfl⟩
  exact ⟨m', h1, h2, minR_one h h', by omega⟩
theorem minR_wt {d y : Dx} (h : minR d y) : wtD y ≤ 1048576 := by
  by_cases hv : validD d = true
  · obtain ⟨m, _, _, rfl, hm⟩ := minR_au h hv
    exact fieldsOf_wt hm
  · unfold minR at h
    rw [if_neg hv] at h
    subst h
    decide
theorem comD_wt {y : Dx} (h : wtD y ≤ 1048576) : wtD (comD y) ≤ 1048576 := by
  unfold wtD comD at *
  simpa using h
end Go.Proofs.Ythmfncklepkddaa
