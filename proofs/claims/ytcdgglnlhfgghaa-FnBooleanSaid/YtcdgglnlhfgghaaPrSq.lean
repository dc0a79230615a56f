/-
  What spec.ProductDfa answers.
-/
import Derived.Test.YtcdgglnlhfgghaaPrSo
import Derived.Test.YtcdgglnlhfgghaaPrSa
namespace Go.Proofs.Ytcdgglnlhfgghaa
open Go.RowKit

set_option maxRecDepth 100000 in
set_option maxHeartbeats 3200000 in
theorem specPro_no (va vn va' vn' : Value) (d d' : Dx) (S S' : Nat → Prop) (kind : Int) (w : World) (h : DfaV w S va vn d) (h' : DfaV w S' va' vn' d') (hno : ¬ (validD d = true ∧ validD d' = true ∧ (kind = 6 ∨ kind = 7))) :
    Calls Try.prog 14 #[.agg #[va, vn], .agg #[va', vn'], .int .i64 kind] w (CopyDB ⟨[], []⟩ false w) := by
  obtain ⟨W0, hW0⟩ : ∃ W0, W0 = ((w.alloc (.cells #[va, vn] 27)).alloc (.cells #[va', vn'] 27)).alloc (.cells #[.slice none 0 0, .slice none 0 0] 27) := ⟨_, rfl⟩
  have h3 := three_box' w (.cells #[va, vn] 27) (.cells #[va', vn'] 27) (.cells #[.slice none 0 0, .slice none 0 0] 27)
  rw [← hW0] at h3
  have HB0 : Hid (Below w.heap.size w W0) := Lib.hid h3.2.2.2
  have HX := Lib.hid h3.1
  have HX' := Lib.hid h3.2.1
  have HY := Lib.hid h3.2.2.1
  clear h3
  have HV := Lib.hid (specValidD_any va vn d S W0 (h.kept HB0.out))
  have HV' := Lib.hid (fun (V : World) (hV : Below w.heap.size w V) => specValidD_any va' vn' d' S' V (h'.kept hV))
  obtain ⟨⟨A, c, hA⟩, A', c', hA'⟩ := h.shape
  obtain ⟨⟨B, e, hB⟩, B', e', hB'⟩ := h'.shape
  subst hA
  subst hA'
  subst hB
  subst hB'
  obtain ⟨hc0, hc1, -, -⟩ := box2_facts HX.out
  obtain ⟨hd0, hd1, -, -⟩ := box2_facts HX'.out
  rw [hW0] at hc0 hc1 hd0 hd1
  obtain ⟨v, hv⟩ : ∃ v, v = validD d := ⟨_, rfl⟩
  obtain ⟨v', hv'⟩ : ∃ v, v = validD d' := ⟨_, rfl⟩
  rw [← hv] at HV hno
  rw [← hv'] at HV' hno
  clear h h' hv hv'
  go_enter Try.func14, Try.ntmps14
  go_wp2_with fail
  go_at_call 20
  rw [← hW0]
  refine HV.out.mono ?_
  rintro e1 w1 ⟨rfl, hb1⟩
  have HB1 := Lib.hid hb1
  clear hc0 hc1 hd0 hd1 hW0 hb1
  obtain ⟨hd0, hd1, -, -⟩ := box2_facts ((HB1.out.block _ (blk_lt HX'.out)).trans HX'.out)
  cases v with
  | false =>
    clear hno
    obtain ⟨c0, c1, k0, k1⟩ := box2_facts ((HB1.out.block _ (blk_lt HY.out)).trans HY.out)
    obtain ⟨hcl, hsz, hot, hBl⟩ := put2 (k := .slice none 0 0) (l := .slice none 0 0) c0 c1
    obtain ⟨hr0, hr1⟩ := hcl
    have HOt := Lib.hid hBl
    clear hsz hot hBl
    go_wp2_with fail
    refine bodyPost_ret (v := .tuple #[.agg #[.slice none 0 0, .slice none 0 0], .bool false]) (by simp [results, Try.results14, go_sem, hr0, hr1]) rfl ?_
    exact ⟨_, _, rfl, DfaO.empty _ _, HOt.out _ _ (HB0.out.trans (HB1.out.mono HB0.out.size)) (by omega)⟩
  | true =>
    go_wp2_with fail
    go_at_call 20
    refine (HV'.out w1 (HB0.out.trans (HB1.out.mono HB0.out.size))).mono ?_
    rintro e2 w2 ⟨rfl, hb2⟩
    have HB2 := Lib.hid (HB1.out.trans (hb2.mono HB1.out.size))
    clear hd0 hd1 hb2
    cases v' with
    | false =>
      clear hno
      obtain ⟨c0, c1, k0, k1⟩ := box2_facts ((HB2.out.block _ (blk_lt HY.out)).trans HY.out)
      obtain ⟨hcl, hsz, hot, hBl⟩ := put2 (k := .slice none 0 0) (l := .slice none 0 0) c0 c1
      obtain ⟨hr0, hr1⟩ := hcl
      have HOt := Lib.hid hBl
      clear hsz hot hBl
      go_wp2_with fail
      refine bodyPost_ret (v := .tuple #[.agg #[.slice none 0 0, .slice none 0 0], .bool false]) (by simp [results, Try.results14, go_sem, hr0, hr1]) rfl ?_
      exact ⟨_, _, rfl, DfaO.empty _ _, HOt.out _ _ (HB0.out.trans (HB2.out.mono HB0.out.size)) (by omega)⟩
    | true =>
      have h6 : kind ≠ 6 := fun e => hno (by simp [e])
      have h7 : kind ≠ 7 := fun e => hno (by simp [e])
      have k6 : (kind != 6) = true := by simpa using h6
      have k7 : (kind != 7) = true := by simpa using h7
      clear hno h6 h7
      obtain ⟨c0, c1, k0, k1⟩ := box2_facts ((HB2.out.block _ (blk_lt HY.out)).trans HY.out)
      obtain ⟨hcl, hsz, hot, hBl⟩ := put2 (k := .slice none 0 0) (l := .slice none 0 0) c0 c1
      obtain ⟨hr0, hr1⟩ := hcl
      have HOt := Lib.hid hBl
      clear hsz hot hBl
      go_wp2_with fail
      refine bodyPost_ret (v := .tuple #[.agg #[.slice none 0 0, .slice none 0 0], .bool false]) (by simp [results, Try.results14, go_sem, hr0, hr1]) rfl ?_
      exact ⟨_, _, rfl, DfaO.empty _ _, HOt.out _ _ (HB0.out.trans (HB2.out.mono HB0.out.size)) (by omega)⟩
/-- What ProductDfa answers. -/
theorem specPro_any (va vn va' vn' : Value) (d d' : Dx) (S S' : Nat → Prop) (kind : Int) (y : Dx) (ok : Bool) (w : World) (h : DfaV w S va vn d) (h' : DfaV w S' va' vn' d') (hy : proR d d' kind y ok) :
    Calls Try.prog 14 #[.agg #[va, vn], .agg #[va', vn'], .int .i64 kind] w (CopyDB y ok w) := by
  by_cases hc : validD d = true ∧ validD d' = true ∧ (kind = 6 ∨ kind = 7)
  · obtain ⟨hv, hv', hk⟩ := hc
    rcases hk with rfl | rfl
    · refine (specPrd_or va vn va' vn' d d' S S' w h h' hv hv').mono ?_
      rintro e w' ⟨m, m1, m2, hcd⟩
      obtain ⟨rfl, rfl⟩ := proR_yes hy hv hv' (.inl rfl) m1 m2
      exact hcd
    · refine (specPrd_and va vn va' vn' d d' S S' w h h' hv hv').mono ?_
      rintro e w' ⟨m, m1, m2, hcd⟩
      obtain ⟨rfl, rfl⟩ := proR_yes hy hv hv' (.inr rfl) m1 m2
      exact hcd
  · obtain ⟨rfl, rfl⟩ := proR_no hy hc
    exact specPro_no va vn va' vn' d d' S S' kind w h h' hc
end Go.Proofs.Ytcdgglnlhfgghaa
