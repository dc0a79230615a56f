/-
  What spec.MinimizeDfa answers.
  What spec.ComplementDfa answers.
-/
import Derived.Test.YthmfncklepkddaaMinW
import Derived.StillTailTactics
namespace Go.Proofs.Ythmfncklepkddaa
open Go.RowKit

set_option maxRecDepth 100000 in
set_option maxHeartbeats 3200000 in
theorem specMinD_any (va vn : Value) (d y : Dx) (S : Nat → Prop) (w : World) (h : DfaV w S va vn d) (hy : minR d y) :
    Calls Try.prog 18 #[.agg #[va, vn]] w (CopyD y w) := by
  obtain ⟨⟨A, c, hA⟩, A', c', hA'⟩ := h.shape
  subst hA
  subst hA'
  obtain ⟨p, hp⟩ : ∃ p, p = d.acc.length := ⟨_, rfl⟩
  obtain ⟨p', hp'⟩ : ∃ p', p' = d.nxt.length := ⟨_, rfl⟩
  rw [← hp, ← hp'] at h ⊢
  obtain ⟨W0, hW0⟩ : ∃ W0, W0 = (w.alloc (.cells #[.slice A p c, .slice A' p' c'] 27)).alloc (.cells #[.slice none 0 0, .slice none 0 0] 27) := ⟨_, rfl⟩
  have HB0 : Hid (Below w.heap.size w W0) := Lib.hid (by rw [hW0]; exact ((Below.refl _ _).alloc (Nat.le_refl _) _).alloc (by simp) _)
  have hx := (by
    have k := box2_kept (w := w) (w1 := W0) (a := .slice A p c) (b := .slice A' p' c') (t := 27) (by rw [hW0]; exact (Below.refl _ _).alloc (by simp) _)
    exact ⟨k.2.1, k.2.2.1⟩ : Bx2 W0 w.heap.size (.slice A p c) (.slice A' p' c'))
  have HX := Lib.hid hx
  have HY : Hid (W0.heap[w.heap.size + 1]? = some (.cells #[.slice none 0 0, .slice none 0 0] 27 (0, 0))) := Lib.hid (by rw [hW0]; exact three2 w _ _ _ _)
  have HV := Lib.hid (specValidD_any (.slice A p c) (.slice A' p' c') d S W0 (h.kept HB0.out))
  obtain ⟨b, hb⟩ : ∃ b, b = validD d := ⟨_, rfl⟩
  rw [← hb] at HV
  obtain ⟨hc00, hc01⟩ := hx
  rw [hW0] at hc00 hc01
  have HH := Lib.hid h
  have HYy := Lib.hid hy
  have HBb := Lib.hid hb
  clear h hy hp hp' hb
  go_enter Try.func18, Try.ntmps18
  go_wp2_with fail
  go_at_call 20
  rw [← hW0]
  refine HV.out.mono ?_
  rintro e w1 ⟨rfl, hb1⟩
  have HB1 := Lib.hid hb1
  obtain ⟨x0, x1⟩ := HX.out.kept hb1
  obtain ⟨c0, c1, k0, k1⟩ := box2_facts ((hb1.block _ (Array.getElem?_eq_some_iff.1 HY.out).1).trans HY.out)
  clear hc00 hc01 hb1 hW0
  cases b with
  | true =>
    have hv : validD d = true := HBb.out.symm
    obtain ⟨q1, q2, q3⟩ := fieldsOf_au hv
    have hm := HYy.out
    unfold minR at hm
    rw [if_pos hv] at hm
    have HM := Lib.hid (specMin_any (.slice A p c) (.slice A' p' c') (auD d) S w1 q1 (by omega) (by rw [← q3]; exact (HH.out.kept HB0.out).kept HB1.out))
    have HMm := Lib.hid hm
    clear hv q1 q2 q3 hm
    go_wp2_with fail
    refine HM.out.mono ?_
    rintro e w2 ⟨m, m1, m2, m3, hcd⟩
    obtain ⟨m0, n1, n2, n3⟩ := HMm.out
    obtain rfl : y = fieldsOf m := by rw [n3]; exact fields_one n1 m1 (n2.swap m2)
    obtain ⟨A1, q1, A2, q2, rfl, ho, hb2⟩ := hcd.shape
    have HO := Lib.hid ho
    have HB2 := Lib.hid hb2
    have hlt := Nat.lt_of_lt_of_le (Array.getElem?_eq_some_iff.1 HY.out).1 HB1.out.size
    obtain ⟨e0, e1, f0, f1⟩ := box2_facts ((hb2.block _ hlt).trans ((HB1.out.block _ (Array.getElem?_eq_some_iff.1 HY.out).1).trans HY.out))
    obtain ⟨hcl, hsz, hot, hBl⟩ := put2 (k := .slice A1 (fieldsOf m).acc.length q1) (l := .slice A2 (fieldsOf m).nxt.length q2) e0 e1
    obtain ⟨hc0, hc1⟩ := hcl
    have HOt := Lib.hid (And.intro hsz (And.intro hot hBl))
    have HLt := Lib.hid hlt
    clear hsz hot hBl n1 n2 n3 m1 m2 m3 ho hb2 hcd x0 x1 c0 c1 k0 k1 hlt
    go_wp2_with fail
    refine bodyPost_ret (v := .agg #[.slice A1 (fieldsOf m).acc.length q1, .slice A2 (fieldsOf m).nxt.length q2]) (by simp [results, Try.results18, go_sem, hc0, hc1]) rfl ?_
    have h0 := HB0.out.size
    have h1 := HB1.out.size
    exact ⟨_, _, rfl, HO.out.mono (fun g hg => HOt.out.2.1 g (by have := hg.1; have := HLt.out; omega)) (fun g hg => ⟨by have := hg.1; omega, by rw [HOt.out.1]; exact hg.2⟩) (by rw [HOt.out.1]; exact Nat.le_refl _), HOt.out.2.2 _ _ (HB0.out.trans ((HB1.out.trans (HB2.out.mono h1)).mono h0)) (Nat.le_succ _)⟩
  | false =>
    have hy := HYy.out
    unfold minR at hy
    rw [← HBb.out, if_neg (by decide)] at hy
    subst hy
    obtain ⟨hcl, hsz, hot, hBl⟩ := put2 (k := .slice none 0 0) (l := .slice none 0 0) c0 c1
    obtain ⟨hc0, hc1⟩ := hcl
    have HOt := Lib.hid hBl
    clear hsz hot hBl x0 x1
    go_wp2_with fail
    refine bodyPost_ret (v := .agg #[.slice none 0 0, .slice none 0 0]) (by simp [results, Try.results18, go_sem, hc0, hc1]) rfl ?_
    exact ⟨_, _, rfl, DfaO.empty _ _, HOt.out _ _ (HB0.out.trans (HB1.out.mono HB0.out.size)) (Nat.le_succ _)⟩
end Go.Proofs.Ythmfncklepkddaa

namespace Go.Proofs.Ythmfncklepkddaa
open Go.RowKit

set_option maxRecDepth 100000 in
set_option maxHeartbeats 3200000 in
theorem specCom_any (va vn : Value) (d y : Dx) (S : Nat → Prop) (w : World) (h : DfaV w S va vn d) (hy : minR d y) :
    Calls Try.prog 27 #[.agg #[va, vn]] w (CopyD (comD y) w) := by
  obtain ⟨⟨A, c, hA⟩, A', c', hA'⟩ := h.shape
  subst hA
  subst hA'
  obtain ⟨p, hp⟩ : ∃ p, p = d.acc.length := ⟨_, rfl⟩
  obtain ⟨p', hp'⟩ : ∃ p', p' = d.nxt.length := ⟨_, rfl⟩
  rw [← hp, ← hp'] at h ⊢
  obtain ⟨W0, hW0⟩ : ∃ W0, W0 = (w.alloc (.cells #[.slice A p c, .slice A' p' c'] 27)).alloc (.cells #[.slice none 0 0, .slice none 0 0] 27) := ⟨_, rfl⟩
  have HB0 : Hid (Below w.heap.size w W0) := Lib.hid (by rw [hW0]; exact ((Below.refl _ _).alloc (Nat.le_refl _) _).alloc (by simp) _)
  have hx := (by
    have k := box2_kept (w := w) (w1 := W0) (a := .slice A p c) (b := .slice A' p' c') (t := 27) (by rw [hW0]; exact (Below.refl _ _).alloc (by simp) _)
    exact ⟨k.2.1, k.2.2.1⟩ : Bx2 W0 w.heap.size (.slice A p c) (.slice A' p' c'))
  have HY : Hid (W0.heap[w.heap.size + 1]? = some (.cells #[.slice none 0 0, .slice none 0 0] 27 (0, 0))) := Lib.hid (by rw [hW0]; exact three2 w _ _ _ _)
  have HM := Lib.hid (specMinD_any (.slice A p c) (.slice A' p' c') d y S W0 (h.kept HB0.out) hy)
  obtain ⟨hc00, hc01⟩ := hx
  rw [hW0] at hc00 hc01
  clear h hy hp hp'
  go_enter Try.func27, Try.ntmps27
  go_wp2_with fail
  go_at_call 18
  rw [← hW0]
  refine HM.out.mono ?_
  rintro e w2 hcd
  obtain ⟨A1, q1, A2, q2, rfl, ⟨Sa, Sn, hoa, hon, hsa, hsn⟩, hb2⟩ := hcd.shape
  clear hc00 hc01 hcd hW0
  obtain ⟨n, hn⟩ : ∃ n, n = y.acc.length := ⟨_, rfl⟩
  obtain ⟨n', hn'⟩ : ∃ n', n' = y.nxt.length := ⟨_, rfl⟩
  have HNn := Lib.hid hn
  have hbn := hoa.1
  rw [bools_length, ← hn] at hbn
  rw [← hn] at hoa ⊢
  rw [← hn'] at hon ⊢
  have h0 := hb2.size
  have h00 := HB0.out.size
  have hlt := (Array.getElem?_eq_some_iff.1 HY.out).1
  have HY2 : Hid (w2.heap[w.heap.size + 1]? = some (.cells #[.slice none 0 0, .slice none 0 0] 27 (0, 0))) := Lib.hid ((hb2.block _ hlt).trans HY.out)
  obtain ⟨Wx, hWx⟩ : ∃ Wx, Wx = w2.alloc (.cells #[.slice A1 n q1, .slice A2 n' q2] 27) := ⟨_, rfl⟩
  have HXB : Hid (Wx.heap[w2.heap.size]? = some (.cells #[.slice A1 n q1, .slice A2 n' q2] 27 (0, 0))) := Lib.hid (by
    rw [hWx]
    exact heap_alloc_new w2 _)
  have HXO : Hid (Below w2.heap.size w2 Wx) := Lib.hid (by
    rw [hWx]
    exact (Below.refl _ _).alloc (Nat.le_refl _) _)
  have HSa := Lib.hid hsa
  have HSn := Lib.hid hsn
  have HOa : Hid (RowO Wx Sa (.slice A1 n q1) (bools (turned y.acc 0))) := Lib.hid (by
    rw [turned_zero]
    exact hoa.mono (fun g hg => HXO.out.block g (hsa g hg).1.2) (fun _ h => h))
  have HOn := Lib.hid hon
  have HB2 := Lib.hid hb2
  clear hoa hon hsa hsn hn hn' hb2 hlt
  go_wp2_with fail
  rw [← hWx]
  clear hWx
  go_loopw [4] (fun iv wr => ∃ i : Nat, iv = .int .i64 i ∧ i ≤ n ∧ Hid (Wx.heap.size = wr.heap.size ∧ (∀ g, ¬ Sa g → wr.heap[g]? = Wx.heap[g]?) ∧ RowO wr Sa (.slice A1 n q1) (bools (turned y.acc i)) ∧ Below w.heap.size w wr)) (fun iv _ => n - (intOf iv).toNat)
  case atStart => exact ⟨0, rfl, Nat.zero_le _, Lib.hid ⟨rfl, fun _ _ => rfl, HOa.out, HB0.out.trans ((HB2.out.trans (HXO.out.mono h0)).mono h00)⟩⟩
  case round =>
    obtain ⟨i, rfl, hi, HR⟩ := hrel
    have hnb : ¬ Sa w2.heap.size := fun e => Nat.lt_irrefl _ (HSa.out _ e).1.2
    obtain ⟨c0, c1, f0, f1⟩ := box2_facts ((HR.out.2.1 _ hnb).trans HXB.out)
    by_cases hlt : i < n
    · have hl : i < y.acc.length := by rw [← HNn.out]; exact hlt
      obtain ⟨g, hg, hsg, hgl, hst⟩ := HR.out.2.2.1.set (j := i) (by rw [bools_length, turned_length]; exact hl)
      subst hg
      obtain ⟨⟨x0, hx0⟩, hf0, hset⟩ := hst wr rfl
      obtain ⟨ad, e, -, hcb⟩ := HR.out.2.2.1.row.boolD (j := i) (by rw [turned_length]; exact hl)
      cases e
      rw [turned_at hl] at hcb
      obtain ⟨b, hb⟩ : ∃ b, b = y.acc.getD i false := ⟨_, rfl⟩
      rw [← hb] at hcb
      have HS := Lib.hid (by
        have k := hset (.bool (!(y.acc.getD i false)))
        rw [turned_step hl, ← hb] at k
        exact k)
      have HG := Lib.hid (And.intro hsg (And.intro (HSa.out g hsg).1.1 hgl))
      rw [show ((⟨g, 0, none⟩ : Addr).add i) = ⟨g, i, none⟩ by rcases i with _ | i <;> simp [Addr.add]] at hcb
      have HL := Lib.hid hlt
      have s1 : (i : Int) < (n : Int) := by omega
      have s2 : (0 : Int) ≤ (i : Int) := by omega
      clear hset hst hx0 hb hsg f0 f1 c1 hl
      go_wp2_with fail
      go_still_tail 10, (by kernel_rfl)
      go_wp2_with fail
      go_roundw
      case rel => exact ⟨i + 1, by go_num, by have := HL.out; omega, Lib.hid ⟨by rw [HR.out.1]; simp [World.setCell], fun h hh => (Below.heap_setCell _ _ _ _ (fun e => hh (by rw [e]; exact HG.out.1))).trans (HR.out.2.1 h hh), HS.out, (HR.out.2.2.2.setCell (p := ⟨g, i, none⟩) (by have := HG.out.2.1; show w.heap.size ≤ g; omega) _).drew⟩⟩
      case measure => have := HL.out; simp [intOf]; omega
    · obtain rfl : i = n := by omega
      have hd : decide ((i : Int) < (i : Int)) = false := by simp
      have hy1 : ¬ Sa (w.heap.size + 1) := fun e => by
        have := (HSa.out _ e).1.1
        have := (Array.getElem?_eq_some_iff.1 HY.out).1
        omega
      obtain ⟨e0, e1, k0, k1⟩ := box2_facts ((HR.out.2.1 _ hy1).trans ((HXO.out.block _ (Array.getElem?_eq_some_iff.1 HY2.out).1).trans HY2.out))
      obtain ⟨hcl, hsz, hot, hBl⟩ := put2 (k := .slice A1 i q1) (l := .slice A2 n' q2) e0 e1
      obtain ⟨hc0, hc1⟩ := hcl
      have HOt := Lib.hid (And.intro hsz (And.intro hot hBl))
      clear hsz hot hBl f0 f1 hnb hy1
      go_wp2_with fail
      refine bodyPost_ret (v := .agg #[.slice A1 i q1, .slice A2 n' q2]) (by simp [results, Try.results27, go_sem, hc0, hc1]) rfl ?_
      have hyl := (Array.getElem?_eq_some_iff.1 HY.out).1
      have hWz : w2.heap.size ≤ wr.heap.size := by rw [← HR.out.1]; exact HXO.out.size
      refine ⟨_, _, rfl, ⟨Sa, Sn, ?_, ?_, fun g hg => ⟨⟨by have := (HSa.out g hg).1.1; omega, by rw [HOt.out.1]; have := (HSa.out g hg).1.2; omega⟩, (HSa.out g hg).2⟩, fun g hg => ⟨by have := (HSn.out g hg).1; omega, by rw [HOt.out.1]; have := (HSn.out g hg).2; omega⟩⟩, HOt.out.2.2 _ _ HR.out.2.2.2 (Nat.le_succ _)⟩
      · have k := HR.out.2.2.1.mono (w' := (wr.setCell ⟨w.heap.size + 1, 0, none⟩ (.slice A1 i q1)).setCell ⟨w.heap.size + 1, 1, none⟩ (.slice A2 n' q2)) (S' := Sa) (fun g hg => HOt.out.2.1 g (by have := (HSa.out g hg).1.1; omega)) (fun _ h => h)
        rw [HNn.out, turned_all] at k
        rw [HNn.out]
        exact k
      · exact HOn.out.mono (fun g hg => by
          have h1 := HSn.out g hg
          exact (HOt.out.2.1 g (by have := h1.1; omega)).trans ((HR.out.2.1 g (fun e => (HSa.out g e).2 hg)).trans (HXO.out.block g h1.2))) (fun _ h => h) (by rw [HOt.out.1]; exact hWz)
end Go.Proofs.Ythmfncklepkddaa
