/- Texts of one proof. -/
import Derived.Test.YtiijlpmdnokjfaaDoorCountsZPack12
set_option maxRecDepth 100000
set_option maxHeartbeats 20000000
namespace Go.Proofs.YtiijlpmdnokjfaaDoor
open Go.RowKit
theorem specCat_any (va vn va' vn' : Value) (d d' : Dx) (S S' : Nat -> Prop) (y : Dx) (ok : Bool) (w : World) (h : DfaV w S va vn d) (h' : DfaV w S' va' vn' d') (hy : catR d d' y ok) :
    Calls Tryd.prog 104 #[.agg #[va, vn], .agg #[va', vn']] w (CopyDB y ok w) := by
  obtain ⟨W0, hW0⟩ : ∃ W0, W0 = ((w.alloc (.cells #[va, vn] 27)).alloc (.cells #[va', vn'] 27)).alloc (.cells #[.slice none 0 0, .slice none 0 0] 27) := ⟨_, rfl⟩
  have h3 := three_box' w (.cells #[va, vn] 27) (.cells #[va', vn'] 27) (.cells #[.slice none 0 0, .slice none 0 0] 27)
  rw [<- hW0] at h3
  have HB0 : Hid (Below w.heap.size w W0) := Lib.hid h3.2.2.2
  have HX := Lib.hid h3.1
  have HX' := Lib.hid h3.2.1
  have HY := Lib.hid h3.2.2.1
  clear h3
  have HV := Lib.hid (specValidD_any va vn d S W0 (h.kept HB0.out))
  have HV' := Lib.hid (λ (V : World) (hV : Below w.heap.size w V) => specValidD_any va' vn' d' S' V (h'.kept hV))
  obtain ⟨⟨A, c, rfl⟩, A', c', rfl⟩ := h.shape
  obtain ⟨⟨B, e, rfl⟩, B', e', rfl⟩ := h'.shape
  obtain ⟨hc0, hc1, -, -⟩ := box2_facts HX.out
  obtain ⟨hd0, hd1, -, -⟩ := box2_facts HX'.out
  rw [hW0] at hc0 hc1 hd0 hd1
  cases hv : validD d with
  | false =>
    rw [hv] at HV
    unfold catR at hy
    rw [if_neg (by rw [hv]; simp)] at hy
    obtain ⟨rfl, rfl⟩ := hy
    clear h h' hv
    go_enter Tryd.func104, Tryd.ntmps104
    go_wp2_with fail
    go_at_call 13
    rw [<- hW0]
    refine HV.out.mono ?_
    rintro e1 w1 ⟨rfl, hb1⟩
    obtain ⟨c0, c1, k0, k1⟩ := box2_facts ((hb1.block _ (blk_lt HY.out)).trans HY.out)
    obtain ⟨hcl, hsz, hot, hBl⟩ := put2 (k := .slice none 0 0) (l := .slice none 0 0) c0 c1
    obtain ⟨hr0, hr1⟩ := hcl
    have HOt := Lib.hid hBl
    have HB1 := Lib.hid hb1
    clear hc0 hc1 hd0 hd1 hW0 hb1 hsz hot hBl
    go_wp2_with fail
    refine bodyPost_ret (v := .tuple #[.agg #[.slice none 0 0, .slice none 0 0], .bool false]) (by simp [results, Tryd.results104, go_sem, hr0, hr1]) rfl ?_
    exact ⟨_, _, rfl, DfaO.empty _ _, HOt.out _ _ (HB0.out.trans (HB1.out.mono HB0.out.size)) (by omega)⟩
  | true =>
  rw [hv] at HV
  cases hv' : validD d' with
  | false =>
    rw [hv'] at HV'
    unfold catR at hy
    rw [if_neg (by rw [hv']; simp)] at hy
    obtain ⟨rfl, rfl⟩ := hy
    clear h h' hv hv'
    go_enter Tryd.func104, Tryd.ntmps104
    go_wp2_with fail
    go_at_call 13
    rw [<- hW0]
    refine HV.out.mono ?_
    rintro e1 w1 ⟨rfl, hb1⟩
    have HB1 := Lib.hid hb1
    clear hc0 hc1 hd0 hd1 hW0 hb1
    obtain ⟨hd0, hd1, -, -⟩ := box2_facts ((HB1.out.block _ (blk_lt HX'.out)).trans HX'.out)
    go_wp2_with fail
    go_at_call 13
    refine (HV'.out w1 (HB0.out.trans (HB1.out.mono HB0.out.size))).mono ?_
    rintro e2 w2 ⟨rfl, hb2⟩
    have HB2 := Lib.hid (HB1.out.trans (hb2.mono HB1.out.size))
    obtain ⟨c0, c1, k0, k1⟩ := box2_facts ((HB2.out.block _ (blk_lt HY.out)).trans HY.out)
    obtain ⟨hcl, hsz, hot, hBl⟩ := put2 (k := .slice none 0 0) (l := .slice none 0 0) c0 c1
    obtain ⟨hr0, hr1⟩ := hcl
    have HOt := Lib.hid hBl
    clear hd0 hd1 hb2 hsz hot hBl
    go_wp2_with fail
    refine bodyPost_ret (v := .tuple #[.agg #[.slice none 0 0, .slice none 0 0], .bool false]) (by simp [results, Tryd.results104, go_sem, hr0, hr1]) rfl ?_
    exact ⟨_, _, rfl, DfaO.empty _ _, HOt.out _ _ (HB0.out.trans (HB2.out.mono HB0.out.size)) (by omega)⟩
  | true =>
    rw [hv'] at HV'
    unfold catR at hy
    rw [if_pos ⟨hv, hv'⟩] at hy
    obtain ⟨hw, hn40, hnn, hl, ad, cc, aN, cN, hva, hvn, hA, hT⟩ := h.au hv
    obtain ⟨hw', hn40', hnn', hl', ad', cc', aN', cN', hva', hvn', hA', hT'⟩ := h'.au hv'
    injection hva with e1 e2 e3
    injection hvn with e4 e5 e6
    injection hva' with e1' e2' e3'
    injection hvn' with e4' e5' e6'
    subst e1
    subst e3
    subst e4
    subst e6
    subst e1'
    subst e3'
    subst e4'
    subst e6'
    rw [e5] at h
    rw [e5'] at h'
    rw [e5, e5']
    exact specCatV_any ad d.acc.length c aN c' (auD d) ad' d'.acc.length e aN' e' (auD d') d d' S S' y ok w h h' hv hv' ⟨hA, hT⟩ ⟨hA', hT'⟩ hw hw' hnn hnn' (by omega) (by omega) hy
end Go.Proofs.YtiijlpmdnokjfaaDoor
