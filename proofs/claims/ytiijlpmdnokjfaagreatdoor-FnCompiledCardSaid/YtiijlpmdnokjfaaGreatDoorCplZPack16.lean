/- Texts of one proof. -/
import Derived.Test.YtiijlpmdnokjfaaGreatDoorCplZPack9
set_option maxRecDepth 100000
set_option maxHeartbeats 20000000
namespace Go.Proofs.YtiijlpmdnokjfaaGreatDoor
open Go.RowKit
theorem specMinD_any (va vn : Value) (d y : Dx) (S : Nat -> Prop) (w : World) (h : DfaV w S va vn d) (hy : minR d y) :
    Calls Tryz.prog 97 #[.agg #[va, vn]] w (CopyD y w) := by
  obtain ⟨⟨A, c, hA⟩, A', c', hA'⟩ := h.shape
  subst hA
  subst hA'
  obtain ⟨p, hp⟩ : ∃ p, p = d.acc.length := ⟨_, rfl⟩
  obtain ⟨p', hp'⟩ : ∃ p', p' = d.nxt.length := ⟨_, rfl⟩
  rw [<- hp, <- hp'] at h ⊢
  obtain ⟨W0, hW0⟩ : ∃ W0, W0 = (w.alloc (.cells #[.slice A p c, .slice A' p' c'] 31)).alloc (.cells #[.slice none 0 0, .slice none 0 0] 31) := ⟨_, rfl⟩
  have HB0 : Hid (Below w.heap.size w W0) := Lib.hid (by rw [hW0]; exact ((Below.refl _ _).alloc (Nat.le_refl _) _).alloc (by simp) _)
  have hx := (by
    have k := box2_kept (w := w) (w1 := W0) (a := .slice A p c) (b := .slice A' p' c') (t := 31) (by rw [hW0]; exact (Below.refl _ _).alloc (by simp) _)
    exact ⟨k.2.1, k.2.2.1⟩ : Bx2 W0 w.heap.size (.slice A p c) (.slice A' p' c'))
  have HX := Lib.hid hx
  have HY : Hid (W0.heap[w.heap.size + 1]? = some (.cells #[.slice none 0 0, .slice none 0 0] 31 (0, 0))) := Lib.hid (by rw [hW0]; exact three2 w _ _ _ _)
  have HV := Lib.hid (specValidD_any (.slice A p c) (.slice A' p' c') d S W0 (h.kept HB0.out))
  obtain ⟨b, hb⟩ : ∃ b, b = validD d := ⟨_, rfl⟩
  rw [<- hb] at HV
  obtain ⟨hc00, hc01⟩ := hx
  rw [hW0] at hc00 hc01
  have HH := Lib.hid h
  have HYy := Lib.hid hy
  have HBb := Lib.hid hb
  clear h hy hp hp' hb
  go_enter Tryz.func97, Tryz.ntmps97
  go_wp2_with fail
  go_at_call 98
  rw [<- hW0]
  refine HV.out.mono ?_
  rintro e w1 ⟨rfl, hb1⟩
  have HB1 := Lib.hid hb1
  obtain ⟨x0, x1⟩ := HX.out.kept hb1
  obtain ⟨c0, c1, k0, k1⟩ := box2_facts ((hb1.block _ (Array.getElem?_eq_some_iff.1 HY.out).1).trans HY.out)
  clear hc00 hc01 hb1 hW0
  cases b with
  | true =>
    have hv : validD d = true := HBb.out.symm
    obtain ⟨q1, q2, q3⟩ := fieldsOf_au hv
    have hm := HYy.out
    unfold minR at hm
    rw [if_pos hv] at hm
    have HM := Lib.hid (specMin_any (.slice A p c) (.slice A' p' c') (auD d) S w1 q1 (by omega) (by rw [<- q3]; exact (HH.out.kept HB0.out).kept HB1.out))
    have HMm := Lib.hid hm
    clear hv q1 q2 q3 hm
    go_wp2_with fail
    refine HM.out.mono ?_
    rintro e w2 ⟨m, m1, m2, m3, hcd⟩
    obtain ⟨m0, n1, n2, n3⟩ := HMm.out
    obtain rfl : y = fieldsOf m := by rw [n3]; exact fields_one n1 m1 (n2.swap m2)
    obtain ⟨A1, q1, A2, q2, rfl, ho, hb2⟩ := hcd.shape
    have HO := Lib.hid ho
    have HB2 := Lib.hid hb2
    have hlt := Nat.lt_of_lt_of_le (Array.getElem?_eq_some_iff.1 HY.out).1 HB1.out.size
    obtain ⟨e0, e1, f0, f1⟩ := box2_facts ((hb2.block _ hlt).trans ((HB1.out.block _ (Array.getElem?_eq_some_iff.1 HY.out).1).trans HY.out))
    obtain ⟨hcl, hsz, hot, hBl⟩ := put2 (k := .slice A1 (fieldsOf m).acc.length q1) (l := .slice A2 (fieldsOf m).nxt.length q2) e0 e1
    obtain ⟨hc0, hc1⟩ := hcl
    have HOt := Lib.hid (And.intro hsz (And.intro hot hBl))
    have HLt := Lib.hid hlt
    clear hsz hot hBl n1 n2 n3 m1 m2 m3 ho hb2 hcd x0 x1 c0 c1 k0 k1 hlt
    go_wp2_with fail
    refine bodyPost_ret (v := .agg #[.slice A1 (fieldsOf m).acc.length q1, .slice A2 (fieldsOf m).nxt.length q2]) (by simp [results, Tryz.results97, go_sem, hc0, hc1]) rfl ?_
    have h0 := HB0.out.size
    have h1 := HB1.out.size
    exact ⟨_, _, rfl, HO.out.mono (λ g hg => HOt.out.2.1 g (by have := hg.1; have := HLt.out; omega)) (λ g hg => ⟨by have := hg.1; omega, by rw [HOt.out.1]; exact hg.2⟩) (by rw [HOt.out.1]; exact Nat.le_refl _), HOt.out.2.2 _ _ (HB0.out.trans ((HB1.out.trans (HB2.out.mono h1)).mono h0)) (Nat.le_succ _)⟩
  | false =>
    have hy := HYy.out
    unfold minR at hy
    rw [<- HBb.out, if_neg (by decide)] at hy
    subst hy
    obtain ⟨hcl, hsz, hot, hBl⟩ := put2 (k := .slice none 0 0) (l := .slice none 0 0) c0 c1
    obtain ⟨hc0, hc1⟩ := hcl
    have HOt := Lib.hid hBl
    clear hsz hot hBl x0 x1
    go_wp2_with fail
    refine bodyPost_ret (v := .agg #[.slice none 0 0, .slice none 0 0]) (by simp [results, Tryz.results97, go_sem, hc0, hc1]) rfl ?_
    exact ⟨_, _, rfl, DfaO.empty _ _, HOt.out _ _ (HB0.out.trans (HB1.out.mono HB0.out.size)) (Nat.le_succ _)⟩
end Go.Proofs.YtiijlpmdnokjfaaGreatDoor
namespace Go.Proofs.YtiijlpmdnokjfaaGreatDoor
open Go.RowKit
theorem specCom_any (va vn : Value) (d y : Dx) (S : Nat -> Prop) (w : World) (h : DfaV w S va vn d) (hy : minR d y) :
    Calls Tryz.prog 51 #[.agg #[va, vn]] w (CopyD (comD y) w) := by
  obtain ⟨⟨A, c, hA⟩, A', c', hA'⟩ := h.shape
  subst hA
  subst hA'
  obtain ⟨p, hp⟩ : ∃ p, p = d.acc.length := ⟨_, rfl⟩
  obtain ⟨p', hp'⟩ : ∃ p', p' = d.nxt.length := ⟨_, rfl⟩
  rw [<- hp, <- hp'] at h ⊢
  obtain ⟨W0, hW0⟩ : ∃ W0, W0 = (w.alloc (.cells #[.slice A p c, .slice A' p' c'] 31)).alloc (.cells #[.slice none 0 0, .slice none 0 0] 31) := ⟨_, rfl⟩
  have HB0 : Hid (Below w.heap.size w W0) := Lib.hid (by rw [hW0]; exact ((Below.refl _ _).alloc (Nat.le_refl _) _).alloc (by simp) _)
  have hx := (by
    have k := box2_kept (w := w) (w1 := W0) (a := .slice A p c) (b := .slice A' p' c') (t := 31) (by rw [hW0]; exact (Below.refl _ _).alloc (by simp) _)
    exact ⟨k.2.1, k.2.2.1⟩ : Bx2 W0 w.heap.size (.slice A p c) (.slice A' p' c'))
  have HY : Hid (W0.heap[w.heap.size + 1]? = some (.cells #[.slice none 0 0, .slice none 0 0] 31 (0, 0))) := Lib.hid (by rw [hW0]; exact three2 w _ _ _ _)
  have HM := Lib.hid (specMinD_any (.slice A p c) (.slice A' p' c') d y S W0 (h.kept HB0.out) hy)
  obtain ⟨hc00, hc01⟩ := hx
  rw [hW0] at hc00 hc01
  clear h hy hp hp'
  go_enter Tryz.func51, Tryz.ntmps51
  go_wp2_with fail
  go_at_call 97
  rw [<- hW0]
  refine HM.out.mono ?_
  rintro e w2 hcd
  obtain ⟨A1, q1, A2, q2, rfl, ⟨Sa, Sn, hoa, hon, hsa, hsn⟩, hb2⟩ := hcd.shape
  clear hc00 hc01 hcd hW0
  obtain ⟨n, hn⟩ : ∃ n, n = y.acc.length := ⟨_, rfl⟩
  obtain ⟨n', hn'⟩ : ∃ n', n' = y.nxt.length := ⟨_, rfl⟩
  have HNn := Lib.hid hn
  have hbn := hoa.1
  rw [bools_length, <- hn] at hbn
  rw [<- hn] at hoa ⊢
  rw [<- hn'] at hon ⊢
  have h0 := hb2.size
  have h00 := HB0.out.size
  have hlt := (Array.getElem?_eq_some_iff.1 HY.out).1
  have HY2 : Hid (w2.heap[w.heap.size + 1]? = some (.cells #[.slice none 0 0, .slice none 0 0] 31 (0, 0))) := Lib.hid ((hb2.block _ hlt).trans HY.out)
  obtain ⟨Wx, hWx⟩ : ∃ Wx, Wx = w2.alloc (.cells #[.slice A1 n q1, .slice A2 n' q2] 31) := ⟨_, rfl⟩
  have HXB : Hid (Wx.heap[w2.heap.size]? = some (.cells #[.slice A1 n q1, .slice A2 n' q2] 31 (0, 0))) := Lib.hid (by
    rw [hWx]
    exact heap_alloc_new w2 _)
  have HXO : Hid (Below w2.heap.size w2 Wx) := Lib.hid (by
    rw [hWx]
    exact (Below.refl _ _).alloc (Nat.le_refl _) _)
  have HSa := Lib.hid hsa
  have HSn := Lib.hid hsn
  have HOa : Hid (RowO Wx Sa (.slice A1 n q1) (bools (turned y.acc 0))) := Lib.hid (by
    rw [turned_zero]
    exact hoa.mono (λ g hg => HXO.out.block g (hsa g hg).1.2) (λ _ h => h))
  have HOn := Lib.hid hon
  have HB2 := Lib.hid hb2
  clear hoa hon hsa hsn hn hn' hb2 hlt
  go_wp2_with fail
  rw [<- hWx]
  clear hWx
  go_loopw [4] (λ iv wr => ∃ i : Nat, iv = .int .i64 i /\ i <= n /\ Hid (Wx.heap.size = wr.heap.size /\ (∀ g, ¬ Sa g -> wr.heap[g]? = Wx.heap[g]?) /\ RowO wr Sa (.slice A1 n q1) (bools (turned y.acc i)) /\ Below w.heap.size w wr)) (λ iv _ => n - (intOf iv).toNat)
  case atStart => exact ⟨0, rfl, Nat.zero_le _, Lib.hid ⟨rfl, λ _ _ => rfl, HOa.out, HB0.out.trans ((HB2.out.trans (HXO.out.mono h0)).mono h00)⟩⟩
  case round =>
    obtain ⟨i, rfl, hi, HR⟩ := hrel
    have hnb : ¬ Sa w2.heap.size := λ e => Nat.lt_irrefl _ (HSa.out _ e).1.2
    obtain ⟨c0, c1, f0, f1⟩ := box2_facts ((HR.out.2.1 _ hnb).trans HXB.out)
    by_cases hlt : i < n
    . have hl : i < y.acc.length := by rw [<- HNn.out]; exact hlt
      obtain ⟨g, hg, hsg, hgl, hst⟩ := HR.out.2.2.1.set (j := i) (by rw [bools_length, turned_length]; exact hl)
      subst hg
      obtain ⟨⟨x0, hx0⟩, hf0, hset⟩ := hst wr rfl
      obtain ⟨ad, e, -, hcb⟩ := HR.out.2.2.1.row.boolD (j := i) (by rw [turned_length]; exact hl)
      cases e
      rw [turned_at hl] at hcb
      obtain ⟨b, hb⟩ : ∃ b, b = y.acc.getD i false := ⟨_, rfl⟩
      rw [<- hb] at hcb
      have HS := Lib.hid (by
        have k := hset (.bool (!(y.acc.getD i false)))
        rw [turned_step hl, <- hb] at k
        exact k)
      have HG := Lib.hid (And.intro hsg (And.intro (HSa.out g hsg).1.1 hgl))
      rw [show ((⟨g, 0, none⟩ : Addr).add i) = ⟨g, i, none⟩ by rcases i with _ | i <;> simp [Addr.add]] at hcb
      have HL := Lib.hid hlt
      have s1 : (i : Int) < (n : Int) := by omega
      have s2 : (0 : Int) <= (i : Int) := by omega
      clear hset hst hx0 hb hsg f0 f1 c1 hl
      go_wp2_with fail
      go_still_tail 10, (by kernel_rfl)
      go_wp2_with fail
      go_roundw
      case rel => exact ⟨i + 1, by go_num, by have := HL.out; omega, Lib.hid ⟨by rw [HR.out.1]; simp [World.setCell], λ h hh => (Below.heap_setCell _ _ _ _ (λ e => hh (by rw [e]; exact HG.out.1))).trans (HR.out.2.1 h hh), HS.out, (HR.out.2.2.2.setCell (p := ⟨g, i, none⟩) (by have := HG.out.2.1; show w.heap.size <= g; omega) _).drew⟩⟩
      case measure => have := HL.out; simp [intOf]; omega
    . obtain rfl : i = n := by omega
      have hd : decide ((i : Int) < (i : Int)) = false := by simp
      have hy1 : ¬ Sa (w.heap.size + 1) := λ e => by
        have := (HSa.out _ e).1.1
        have := (Array.getElem?_eq_some_iff.1 HY.out).1
        omega
      obtain ⟨e0, e1, k0, k1⟩ := box2_facts ((HR.out.2.1 _ hy1).trans ((HXO.out.block _ (Array.getElem?_eq_some_iff.1 HY2.out).1).trans HY2.out))
      obtain ⟨hcl, hsz, hot, hBl⟩ := put2 (k := .slice A1 i q1) (l := .slice A2 n' q2) e0 e1
      obtain ⟨hc0, hc1⟩ := hcl
      have HOt := Lib.hid (And.intro hsz (And.intro hot hBl))
      clear hsz hot hBl f0 f1 hnb hy1
      go_wp2_with fail
      refine bodyPost_ret (v := .agg #[.slice A1 i q1, .slice A2 n' q2]) (by simp [results, Tryz.results51, go_sem, hc0, hc1]) rfl ?_
      have hyl := (Array.getElem?_eq_some_iff.1 HY.out).1
      have hWz : w2.heap.size <= wr.heap.size := by rw [<- HR.out.1]; exact HXO.out.size
      refine ⟨_, _, rfl, ⟨Sa, Sn, ?_, ?_, λ g hg => ⟨⟨by have := (HSa.out g hg).1.1; omega, by rw [HOt.out.1]; have := (HSa.out g hg).1.2; omega⟩, (HSa.out g hg).2⟩, λ g hg => ⟨by have := (HSn.out g hg).1; omega, by rw [HOt.out.1]; have := (HSn.out g hg).2; omega⟩⟩, HOt.out.2.2 _ _ HR.out.2.2.2 (Nat.le_succ _)⟩
      . have k := HR.out.2.2.1.mono (w' := (wr.setCell ⟨w.heap.size + 1, 0, none⟩ (.slice A1 i q1)).setCell ⟨w.heap.size + 1, 1, none⟩ (.slice A2 n' q2)) (S' := Sa) (λ g hg => HOt.out.2.1 g (by have := (HSa.out g hg).1.1; omega)) (λ _ h => h)
        rw [HNn.out, turned_all] at k
        rw [HNn.out]
        exact k
      . exact HOn.out.mono (λ g hg => by
          have h1 := HSn.out g hg
          exact (HOt.out.2.1 g (by have := h1.1; omega)).trans ((HR.out.2.1 g (λ e => (HSa.out g e).2 hg)).trans (HXO.out.block g h1.2))) (λ _ h => h) (by rw [HOt.out.1]; exact hWz)
end Go.Proofs.YtiijlpmdnokjfaaGreatDoor
namespace Go.Proofs.YtiijlpmdnokjfaaGreatDoor
open Go.RowKit
theorem specFits_any (va vn : Value) (a : Au) (S : Nat -> Prop) (w : World) (hw : a.wf) (hn : a.n <= 2000) (h : DfaV w S va vn (fieldsOf a)) :
    Calls Tryz.prog 103 #[.agg #[va, vn]] w λ e w' => ∃ m, Canon m /\ Eqv m 0 a 0 /\ CopyDB (fitD m) (decide (m.n <= 40)) w e w' := by
  obtain ⟨⟨A, c, hA⟩, A', c', hA'⟩ := h.shape
  subst hA
  subst hA'
  obtain ⟨p, hp⟩ : ∃ p, p = (fieldsOf a).acc.length := ⟨_, rfl⟩
  obtain ⟨p', hp'⟩ : ∃ p', p' = (fieldsOf a).nxt.length := ⟨_, rfl⟩
  rw [<- hp, <- hp'] at h ⊢
  obtain ⟨W0, hW0⟩ : ∃ W0, W0 = (w.alloc (.cells #[.slice A p c, .slice A' p' c'] 31)).alloc (.cells #[.slice none 0 0, .slice none 0 0] 31) := ⟨_, rfl⟩
  have HB0 : Hid (Below w.heap.size w W0) := Lib.hid (by rw [hW0]; exact ((Below.refl _ _).alloc (Nat.le_refl _) _).alloc (by simp) _)
  have hx := (by
    have k := box2_kept (w := w) (w1 := W0) (a := .slice A p c) (b := .slice A' p' c') (t := 31) (by rw [hW0]; exact (Below.refl _ _).alloc (by simp) _)
    exact ⟨k.2.1, k.2.2.1⟩ : Bx2 W0 w.heap.size (.slice A p c) (.slice A' p' c'))
  have HY : Hid (W0.heap[w.heap.size + 1]? = some (.cells #[.slice none 0 0, .slice none 0 0] 31 (0, 0))) := Lib.hid (by rw [hW0]; exact three2 w _ _ _ _)
  have HM := Lib.hid (specMin_any (.slice A p c) (.slice A' p' c') a S W0 hw hn (h.kept HB0.out))
  obtain ⟨hc00, hc01⟩ := hx
  rw [hW0] at hc00 hc01
  clear h hp hp'
  go_enter Tryz.func103, Tryz.ntmps103
  go_wp2_with fail
  go_at_call 122
  rw [<- hW0]
  refine HM.out.mono ?_
  rintro e w2 ⟨m, m1, m2, m3, hcd⟩
  obtain ⟨A1, q1, A2, q2, rfl, hoo, hb2⟩ := hcd.shape
  clear hc00 hc01 hcd hW0
  have hv := validD_fields m1.wf
  obtain ⟨n, hn⟩ : ∃ n, n = (fieldsOf m).acc.length := ⟨_, rfl⟩
  obtain ⟨n', hn'⟩ : ∃ n', n' = (fieldsOf m).nxt.length := ⟨_, rfl⟩
  rw [<- hn] at hoo ⊢
  rw [<- hn'] at hoo ⊢
  have h0 := hb2.size
  have h00 := HB0.out.size
  have hlt := (Array.getElem?_eq_some_iff.1 HY.out).1
  have HY2 : Hid (w2.heap[w.heap.size + 1]? = some (.cells #[.slice none 0 0, .slice none 0 0] 31 (0, 0))) := Lib.hid ((hb2.block _ hlt).trans HY.out)
  obtain ⟨Wx, hWx⟩ : ∃ Wx, Wx = w2.alloc (.cells #[.slice A1 n q1, .slice A2 n' q2] 31) := ⟨_, rfl⟩
  have HXB : Hid (Wx.heap[w2.heap.size]? = some (.cells #[.slice A1 n q1, .slice A2 n' q2] 31 (0, 0))) := Lib.hid (by
    rw [hWx]
    exact heap_alloc_new w2 _)
  have HXO : Hid (Below w2.heap.size w2 Wx) := Lib.hid (by
    rw [hWx]
    exact (Below.refl _ _).alloc (Nat.le_refl _) _)
  obtain ⟨b, hb⟩ : ∃ b, b = decide (m.n <= 40) := ⟨_, rfl⟩
  have HV := Lib.hid (specValidD_any (.slice A1 n q1) (.slice A2 n' q2) (fieldsOf m) _ Wx (hoo.dfa.kept HXO.out))
  rw [hv, <- hb] at HV
  have HBb := Lib.hid hb
  have HO := Lib.hid hoo
  have HB2 := Lib.hid hb2
  have HM1 := Lib.hid (And.intro m1 m2)
  obtain ⟨x0, x1, -, -⟩ := box2_facts HXB.out
  rw [hWx] at x0 x1
  clear hoo hn hn' hb2 hlt hb hv m1 m2 m3
  go_wp2_with fail
  go_at_call 98
  rw [<- hWx]
  refine HV.out.mono ?_
  rintro e w3 ⟨rfl, hb3⟩
  clear x0 x1 hWx
  have HB3 := Lib.hid hb3
  have hxl := (Array.getElem?_eq_some_iff.1 HXB.out).1
  have hyl := (Array.getElem?_eq_some_iff.1 HY2.out).1
  obtain ⟨x0, x1, -, -⟩ := box2_facts ((hb3.block _ hxl).trans HXB.out)
  obtain ⟨e0, e1, k0, k1⟩ := box2_facts ((hb3.block _ (Nat.lt_of_lt_of_le hyl HXO.out.size)).trans ((HXO.out.block _ hyl).trans HY2.out))
  have HBW : Hid (Below w2.heap.size w2 w3) := Lib.hid (HXO.out.trans (hb3.mono HXO.out.size))
  have hyl0 := (Array.getElem?_eq_some_iff.1 HY.out).1
  clear hb3 hxl hyl
  cases b with
  | true =>
    obtain ⟨hcl, hsz, hot, hBl⟩ := put2 (k := .slice A1 n q1) (l := .slice A2 n' q2) e0 e1
    obtain ⟨hc0, hc1⟩ := hcl
    have HOt := Lib.hid (And.intro hsz (And.intro hot hBl))
    clear hsz hot hBl
    go_wp2_with fail
    refine bodyPost_ret (v := .tuple #[.agg #[.slice A1 n q1, .slice A2 n' q2], .bool true]) (by simp [results, Tryz.results103, go_sem, hc0, hc1]) rfl ?_
    have hb : m.n <= 40 := of_decide_eq_true HBb.out.symm
    refine ⟨m, HM1.out.1, HM1.out.2, ?_⟩
    rw [decide_eq_true hb, fitD, if_pos hb]
    exact ⟨_, _, rfl, HO.out.mono (λ g hg => (HOt.out.2.1 g (by have := hg.1; omega)).trans (HBW.out.block g hg.2)) (λ g hg => ⟨by have := hg.1; omega, by rw [HOt.out.1]; have := hg.2; have := HBW.out.size; omega⟩) (by rw [HOt.out.1]; exact HBW.out.size), HOt.out.2.2 _ _ (HB0.out.trans ((HB2.out.trans (HBW.out.mono h0)).mono h00)) (Nat.le_succ _)⟩
  | false =>
    obtain ⟨hcl, hsz, hot, hBl⟩ := put2 (k := .slice none 0 0) (l := .slice none 0 0) e0 e1
    obtain ⟨hc0, hc1⟩ := hcl
    have HOt := Lib.hid (And.intro hsz (And.intro hot hBl))
    clear hsz hot hBl
    go_wp2_with fail
    refine bodyPost_ret (v := .tuple #[.agg #[.slice none 0 0, .slice none 0 0], .bool false]) (by simp [results, Tryz.results103, go_sem, hc0, hc1]) rfl ?_
    have hb : ¬ m.n <= 40 := of_decide_eq_false HBb.out.symm
    refine ⟨m, HM1.out.1, HM1.out.2, ?_⟩
    rw [decide_eq_false hb, fitD, if_neg hb]
    exact ⟨_, _, rfl, DfaO.empty _ _, HOt.out.2.2 _ _ (HB0.out.trans ((HB2.out.trans (HBW.out.mono h0)).mono h00)) (Nat.le_succ _)⟩
theorem putS_here : ∀ {s : List Nat} {q i : Nat} (h : i < s.length), (∀ j (hj : j < s.length), j < i -> s[j] < q) -> s[i] = q -> putS s q = s
  | x :: s, q, 0, _, _, e => by
    have e : x = q := e
    subst e
    simp [putS]
  | x :: s, q, i + 1, h, hl, e => by
    have hx : x < q := hl 0 (by simp) (by omega)
    unfold putS
    rw [if_pos hx, putS_here (i := i) (by simpa using h) (λ j hj hji => hl (j + 1) (by simpa using hj) (by omega)) e]
theorem putS_new : ∀ {s : List Nat} {q i : Nat}, i <= s.length -> (∀ j (hj : j < s.length), j < i -> s[j] < q) -> (∀ h : i < s.length, q < s[i]) -> putS s q = s.take i ++ q :: s.drop i
  | [], q, 0, _, _, _ => rfl
  | x :: s, q, 0, _, _, hg => by
    have hx : q < x := hg (by simp)
    unfold putS
    rw [if_neg (by omega), if_neg (by omega)]
    rfl
  | x :: s, q, i + 1, h, hl, hg => by
    have hx : x < q := hl 0 (by simp) (by omega)
    unfold putS
    rw [if_pos hx, putS_new (i := i) (by simpa using h) (λ j hj hji => hl (j + 1) (by simpa using hj) (by omega)) (λ h' => hg (by simpa using h'))]
    rfl
  | [], q, i + 1, h, _, _ => absurd h (by simp)
theorem ir_cells {w : World} {B g cap : Nat} {l : List Int} (h : IR w B (.slice (some ⟨g, 0, none⟩) l.length cap) l) : l.length <= cap /\ cap <= maxLen /\ ∀ j, (hj : j < l.length) -> w.cell? ⟨g, j, none⟩ = some (.int .i64 l[j]) := by
  rcases h.2 with ⟨h0, _⟩ | ⟨g', cap', cur, e, _, hh, h1, h2, _, h3⟩
  . cases h0
  . cases e
    refine ⟨h1, h2, λ j hj => ?_⟩
    rw [cell_of_row w g j cur _ (0, 0) hh]
    have h4 : (ints l)[j]? = some (.int .i64 l[j]) := by simp [ints, hj]
    rw [<- h3, List.getElem?_take_of_lt (by omega), Array.getElem?_toList] at h4
    exact h4
theorem ir_some {w : World} {B : Nat} {v : Value} {l : List Int} (h : IR w B v l) (hne : v ≠ .slice none 0 0) : ∃ g cap, v = .slice (some ⟨g, 0, none⟩) l.length cap /\ B <= g /\ g < w.heap.size := by
  rcases h.2 with ⟨h0, _⟩ | ⟨g', cap', cur, e, h1, hh, _⟩
  . exact absurd h0 hne
  . exact ⟨g', cap', e, h1, blk_lt hh⟩
def PutPost (B : Nat) (v : Value) (l : List Int) (w : World) (e : Ending) (w' : World) : Prop :=
  ∃ v', e = .returned v' /\ IR w' B v' l /\ v' ≠ .slice none 0 0 /\ (v'.ownBlock = v.ownBlock \/ ∃ g, v'.ownBlock = some g /\ w.heap.size <= g) /\ Below w.heap.size w w'
theorem put_grow {w0 w w' : World} {v v' : Value} {n : Nat} {xs ys : List Value} (hb : Below w0.heap.size w0 w) (h : w.ownsRow w0.heap.size 3 1 v n xs) {n' : Nat} (hown : w'.ownsRow w0.heap.size 3 1 v' n' ys) (hg : w.grownBy w' v.ownBlock) :
    Hid (w'.ownsRow w0.heap.size 3 1 v' n' ys) /\ Hid (Below w0.heap.size w0 w') :=
  ⟨Lib.hid hown, Lib.hid (hb.grown hg hb.size (λ g e => (h.lt g e).1))⟩
theorem ints_take_at {w : World} {g : Nat} {s : List Nat} (h : ∀ j, (hj : j < s.length) -> w.cell? ⟨g, j, none⟩ = some (.int .i64 ((s[j] : Nat) : Int))) (i : Nat) : ∀ (j : Nat) (u : Value), (ints (natI (s.take i)))[j]? = some u -> w.cell? ((⟨g, 0, none⟩ : Addr).add j) = some u := by
  intro j u hu
  rw [Addr.add_lit, Nat.zero_add]
  simp only [ints, natI, List.map_map, List.getElem?_map] at hu
  rw [List.getElem?_take] at hu
  split at hu
  . obtain ⟨x, hx, rfl⟩ := Option.map_eq_some_iff.1 hu
    obtain ⟨hj, rfl⟩ := List.getElem?_eq_some_iff.1 hx
    exact h j hj
  . simp at hu
theorem ints_drop_at {w : World} {g : Nat} {s : List Nat} (h : ∀ j, (hj : j < s.length) -> w.cell? ⟨g, j, none⟩ = some (.int .i64 ((s[j] : Nat) : Int))) (i : Nat) : ∀ (j : Nat) (u : Value), (ints (natI (s.drop i)))[j]? = some u -> w.cell? ((⟨g, i, none⟩ : Addr).add j) = some u := by
  intro j u hu
  rw [Addr.add_lit]
  simp only [ints, natI, List.map_map, List.getElem?_map] at hu
  rw [List.getElem?_drop] at hu
  obtain ⟨x, hx, rfl⟩ := Option.map_eq_some_iff.1 hu
  obtain ⟨hj, rfl⟩ := List.getElem?_eq_some_iff.1 hx
  exact h (i + j) hj
theorem ints_one (l : List Int) : ∀ u ∈ ints l, u.oneCell' = true := λ u hu => by
  obtain ⟨x, _, rfl⟩ := List.mem_map.1 hu
  rfl
theorem put_end {w w' : World} {B : Nat} {v v3 : Value} {n : Nat} {xs : List Value} {t : List Nat} (h : w'.ownsRow w.heap.size 3 1 v3 n xs) (hx : xs = ints (natI t)) (hn : n = t.length) (h0 : 0 < n) (hB : B <= w.heap.size) (hb : Below w.heap.size w w') : PutPost B v (natI t) w (.returned v3) w' := by
  subst hx
  obtain ⟨k, rfl⟩ : ∃ k, n = k + 1 := ⟨n - 1, by omega⟩
  obtain ⟨g, cap, rfl⟩ := own_succ h
  refine ⟨_, rfl, ?_, by simp, .inr ⟨g, rfl, (h.lt g rfl).1⟩, hb⟩
  have h2 := own_on (w' := w') h (λ _ _ => rfl) hB
  unfold IR
  rw [natI_length, <- hn]
  exact h2
theorem specPut_any (B : Nat) (v : Value) (s : List Nat) (q : Nat) (w : World) (h : IR w B v (natI s)) (hne : v ≠ .slice none 0 0) (hs : s.length <= 2000) :
    Calls Tryz.prog 101 #[v, .int .i64 (q : Int)] w (PutPost B v (natI (putS s q)) w) := by
  obtain ⟨i0, hi, hz0, hz1, hz2⟩ := info_parts intInfo
  obtain ⟨g, cap, rfl, hBg, hgl⟩ := ir_some h hne
  rw [natI_length] at h ⊢
  obtain ⟨hcap, hcm, hcl⟩ := ir_cells (l := natI s) (by rw [natI_length]; exact h)
  rw [natI_length] at hcap
  have HC : Hid (∀ j, (hj : j < s.length) -> w.cell? ⟨g, j, none⟩ = some (.int .i64 ((s[j] : Nat) : Int))) := Lib.hid (λ j hj => by rw [hcl j (by rw [natI_length]; exact hj)]; simp [natI])
  have HR := Lib.hid h
  have HN := Lib.hid (IR.none w (B := w.heap.size) (Nat.le_refl _))
  have HN0 := Lib.hid ((Below.refl w.heap.size w).alloc (Nat.le_refl _) (.cells #[] 3))
  have HK := Lib.hid (λ (V : World) (hV : Below w.heap.size w V) => (λ j (hj : j < s.length) => (hV.cell (cell_in (HC.out j hj))).trans (HC.out j hj)))
  clear h hne hcl
  go_enter Tryz.func101, Tryz.ntmps101
  go_wp2_with fail
  go_loopw [5] (λ iv wr => ∃ i : Nat, iv = .int .i64 i /\ i <= s.length /\ Hid (∀ j (hj : j < s.length), j < i -> s[j] < q) /\ w = wr) (λ iv _ => s.length - (intOf iv).toNat)
  case atStart => exact ⟨0, rfl, Nat.zero_le _, Lib.hid (λ j _ hj => absurd hj (Nat.not_lt_zero _)), rfl⟩
  case round =>
    obtain ⟨i, rfl, hil, HL, rfl⟩ := hrel
    by_cases hlt : i < s.length
    . have hc := HC.out i hlt
      obtain ⟨x, hx⟩ : ∃ x, x = s[i] := ⟨_, rfl⟩
      rw [<- hx] at hc
      have e1 : decide ((i : Int) < (s.length : Int)) = true := by simp; omega
      have e2 : (0 : Int) <= (i : Int) := by omega
      have e3 : (i : Int) < (s.length : Int) := by omega
      rcases Nat.lt_trichotomy x q with hxq | hxq | hxq
      . have e4 : decide ((x : Int) < (q : Int)) = true := by simp; omega
        have HL2 : Hid (∀ j (hj : j < s.length), j < i + 1 -> s[j] < q) := Lib.hid (λ j hj hji => by
          rcases Nat.lt_or_eq_of_le (Nat.le_of_lt_succ hji) with h | h
          . exact HL.out j hj h
          . subst h; rw [<- hx]; exact hxq)
        clear hx
        go_wp2_with fail
        go_round
        case rel => exact ⟨i + 1, by go_num, by omega, HL2, trivial⟩
        case measure => simp [intOf]; omega
      . have e4 : decide ((x : Int) < (q : Int)) = false := by simp; omega
        have e5 : ((x : Int) == (q : Int)) = true := by simp; omega
        have HP := Lib.hid (putS_here hlt HL.out (by rw [<- hx]; exact hxq))
        clear hx
        go_wp2_with fail
        go_ret
        exact ⟨_, rfl, by rw [HP.out]; exact HR.out, by simp, .inl rfl, Below.refl _ _⟩
      . have e4 : decide ((x : Int) < (q : Int)) = false := by simp; omega
        have e5 : ((x : Int) == (q : Int)) = false := by simp; omega
        have HP := Lib.hid (putS_new hil HL.out (λ _ => by rw [<- hx]; exact hxq))
        clear hx
        have e6 : (i : Int) <= (cap : Int) := by omega
        have HT1 : Hid ((ints (natI (s.take i))).length = i * 1) := Lib.hid (by simp [ints, natI]; omega)
        have HT2 := Lib.hid (ints_take_at (HK.out _ HN0.out) i)
        have HT3 := Lib.hid (ints_one (natI (s.take i)))
        go_wp2_with (at_builtin; refine wpList_append_own_at _ rfl (.tmp 34) (.tmp 37) 49 rfl w.heap.size 3 i0 (.int .i64 0) 1 8 Tryz.underlying49 hi hz0 hz1 hz2 rfl (by decide) _ 0 [] rfl HN.out ⟨g, 0, none⟩ i cap (ints (natI (s.take i))) rfl HT1.out HT2.out HT3.out (by unfold maxLen; omega) (by omega) (by simp) ?_)
        intro v1 w1 hown1 hgrow1 hnil1 hat1
        obtain ⟨Q1, HB1⟩ := put_grow HN0.out HN.out hown1 hgrow1
        clear hown1 hgrow1 hnil1 hat1
        go_wp2_with (at_builtin; refine wpList_append_own_at _ rfl (.tmp 39) (.tmp 41) 49 rfl w.heap.size 3 i0 (.int .i64 0) 1 8 Tryz.underlying49 hi hz0 hz1 hz2 rfl (by decide) _ _ _ rfl (Q1.out.alloc _) ⟨w1.heap.size, 0, none⟩ 1 1 [.int .i64 (q : Int)] rfl rfl (cell_one_new _ _ _) (by simp [Value.oneCell']) (by unfold maxLen; omega) (by omega) (by have := HB1.out.size; simp; omega) ?_)
        intro v2 w2 hown2 hgrow2 hnil2 hat2
        obtain ⟨Q2, HB2⟩ := put_grow (HB1.out.alloc HB1.out.size _) (Q1.out.alloc _) hown2 hgrow2
        have HT4 := Lib.hid (ints_drop_at (HK.out _ HB2.out) i)
        clear hown2 hgrow2 hnil2 hat2
        have e7 : (i : Int) <= (s.length : Int) := by omega
        have e8 : (s.length : Int) <= (cap : Int) := by omega
        have HT5 : Hid ((ints (natI (s.drop i))).length = (s.length - i) * 1) := Lib.hid (by simp [ints, natI])
        have HT6 := Lib.hid (ints_one (natI (s.drop i)))
        go_wp2_with (at_builtin; refine wpList_append_own_at _ rfl (.tmp 43) (.tmp 46) 49 rfl w.heap.size 3 i0 (.int .i64 0) 1 8 Tryz.underlying49 hi hz0 hz1 hz2 rfl (by decide) _ _ _ rfl Q2.out ⟨g, i, none⟩ (s.length - i) (cap - i) (ints (natI (s.drop i))) rfl HT5.out HT4.out HT6.out (by unfold maxLen; omega) (by omega) HB2.out.size ?_)
        intro v3 w3 hown3 hgrow3 hnil3 hat3
        obtain ⟨Q3, HB3⟩ := put_grow HB2.out Q2.out hown3 hgrow3
        clear hown3 hgrow3 hnil3 hat3
        go_wp2_with fail
        go_ret
        exact put_end Q3.out (by rw [HP.out]; simp [ints, natI]) (by rw [HP.out]; simp; omega) (by omega) (by omega) HB3.out
    . have hie : i = s.length := by omega
      have e1 : decide ((i : Int) < (s.length : Int)) = false := by simp; omega
      have e2 : (0 : Int) <= (i : Int) := by omega
      have HP := Lib.hid (putS_new hil HL.out (λ h => absurd h hlt))
      have HD0 : Hid (s.drop i = []) := Lib.hid (by rw [hie]; simp)
      clear hie
      by_cases hci : cap = i
      . have HCi := Lib.hid hci
        clear hci
        have e6 : (i : Int) <= (cap : Int) := by omega
        have HT1 : Hid ((ints (natI (s.take i))).length = i * 1) := Lib.hid (by simp [ints, natI]; omega)
        have HT2 := Lib.hid (ints_take_at (HK.out _ HN0.out) i)
        have HT3 := Lib.hid (ints_one (natI (s.take i)))
        go_upto_region 6 with fail
        clear hlt
        go_wp2_with (at_builtin; refine wpList_append_own_at _ rfl (.tmp 34) (.tmp 37) 49 rfl w.heap.size 3 i0 (.int .i64 0) 1 8 Tryz.underlying49 hi hz0 hz1 hz2 rfl (by decide) _ 0 [] rfl HN.out ⟨g, 0, none⟩ i cap (ints (natI (s.take i))) rfl HT1.out HT2.out HT3.out (by unfold maxLen; omega) (by omega) (by simp) ?_)
        intro v1 w1 hown1 hgrow1 hnil1 hat1
        obtain ⟨Q1, HB1⟩ := put_grow HN0.out HN.out hown1 hgrow1
        clear hown1 hgrow1 hnil1 hat1
        go_wp2_with (at_builtin; refine wpList_append_own_at _ rfl (.tmp 39) (.tmp 41) 49 rfl w.heap.size 3 i0 (.int .i64 0) 1 8 Tryz.underlying49 hi hz0 hz1 hz2 rfl (by decide) _ _ _ rfl (Q1.out.alloc _) ⟨w1.heap.size, 0, none⟩ 1 1 [.int .i64 (q : Int)] rfl rfl (cell_one_new _ _ _) (by simp [Value.oneCell']) (by unfold maxLen; omega) (by omega) (by have := HB1.out.size; simp; omega) ?_)
        intro v2 w2 hown2 hgrow2 hnil2 hat2
        obtain ⟨Q2, HB2⟩ := put_grow (HB1.out.alloc HB1.out.size _) (Q1.out.alloc _) hown2 hgrow2
        have HT4 : Hid (∀ (j : Nat) (u : Value), (ints (natI (s.drop i)))[j]? = some u -> w2.cell? ((⟨g, 0, none⟩ : Addr).add j) = some u) := Lib.hid (λ j u hu => by rw [HD0.out] at hu; simp [ints, natI] at hu)
        clear hown2 hgrow2 hnil2 hat2
        have hci := HCi.out
        have e7 : (i : Int) <= (s.length : Int) := by omega
        have e8 : (s.length : Int) <= (cap : Int) := by omega
        have HT5 : Hid ((ints (natI (s.drop i))).length = (s.length - i) * 1) := Lib.hid (by simp [ints, natI])
        have HT6 := Lib.hid (ints_one (natI (s.drop i)))
        go_wp2_with (at_builtin; refine wpList_append_own_at _ rfl (.tmp 43) (.tmp 46) 49 rfl w.heap.size 3 i0 (.int .i64 0) 1 8 Tryz.underlying49 hi hz0 hz1 hz2 rfl (by decide) _ _ _ rfl Q2.out ⟨g, 0, none⟩ (s.length - i) 0 (ints (natI (s.drop i))) rfl HT5.out HT4.out HT6.out (by unfold maxLen; omega) (by omega) HB2.out.size ?_)
        intro v3 w3 hown3 hgrow3 hnil3 hat3
        obtain ⟨Q3, HB3⟩ := put_grow HB2.out Q2.out hown3 hgrow3
        clear hown3 hgrow3 hnil3 hat3
        go_wp2_with fail
        go_ret
        exact put_end Q3.out (by rw [HP.out]; simp [ints, natI]) (by rw [HP.out]; simp; omega) (by omega) (by omega) HB3.out
      . have e6 : (i : Int) <= (cap : Int) := by omega
        have HT1 : Hid ((ints (natI (s.take i))).length = i * 1) := Lib.hid (by simp [ints, natI]; omega)
        have HT2 := Lib.hid (ints_take_at (HK.out _ HN0.out) i)
        have HT3 := Lib.hid (ints_one (natI (s.take i)))
        go_upto_region 6 with fail
        clear hlt
        go_wp2_with (at_builtin; refine wpList_append_own_at _ rfl (.tmp 34) (.tmp 37) 49 rfl w.heap.size 3 i0 (.int .i64 0) 1 8 Tryz.underlying49 hi hz0 hz1 hz2 rfl (by decide) _ 0 [] rfl HN.out ⟨g, 0, none⟩ i cap (ints (natI (s.take i))) rfl HT1.out HT2.out HT3.out (by unfold maxLen; omega) (by omega) (by simp) ?_)
        intro v1 w1 hown1 hgrow1 hnil1 hat1
        obtain ⟨Q1, HB1⟩ := put_grow HN0.out HN.out hown1 hgrow1
        clear hown1 hgrow1 hnil1 hat1
        go_wp2_with (at_builtin; refine wpList_append_own_at _ rfl (.tmp 39) (.tmp 41) 49 rfl w.heap.size 3 i0 (.int .i64 0) 1 8 Tryz.underlying49 hi hz0 hz1 hz2 rfl (by decide) _ _ _ rfl (Q1.out.alloc _) ⟨w1.heap.size, 0, none⟩ 1 1 [.int .i64 (q : Int)] rfl rfl (cell_one_new _ _ _) (by simp [Value.oneCell']) (by unfold maxLen; omega) (by omega) (by have := HB1.out.size; simp; omega) ?_)
        intro v2 w2 hown2 hgrow2 hnil2 hat2
        obtain ⟨Q2, HB2⟩ := put_grow (HB1.out.alloc HB1.out.size _) (Q1.out.alloc _) hown2 hgrow2
        have HT4 := Lib.hid (ints_drop_at (HK.out _ HB2.out) i)
        clear hown2 hgrow2 hnil2 hat2
        have e7 : (i : Int) <= (s.length : Int) := by omega
        have e8 : (s.length : Int) <= (cap : Int) := by omega
        have HT5 : Hid ((ints (natI (s.drop i))).length = (s.length - i) * 1) := Lib.hid (by simp [ints, natI])
        have HT6 := Lib.hid (ints_one (natI (s.drop i)))
        go_wp2_with (at_builtin; refine wpList_append_own_at _ rfl (.tmp 43) (.tmp 46) 49 rfl w.heap.size 3 i0 (.int .i64 0) 1 8 Tryz.underlying49 hi hz0 hz1 hz2 rfl (by decide) _ _ _ rfl Q2.out ⟨g, i, none⟩ (s.length - i) (cap - i) (ints (natI (s.drop i))) rfl HT5.out HT4.out HT6.out (by unfold maxLen; omega) (by omega) HB2.out.size ?_)
        intro v3 w3 hown3 hgrow3 hnil3 hat3
        obtain ⟨Q3, HB3⟩ := put_grow HB2.out Q2.out hown3 hgrow3
        clear hown3 hgrow3 hnil3 hat3
        go_wp2_with fail
        go_ret
        exact put_end Q3.out (by rw [HP.out]; simp [ints, natI]) (by rw [HP.out]; simp; omega) (by omega) (by omega) HB3.out
structure UpW (W : World) where
  w : World
  up : Below W.heap.size W w
instance upW_some (W : World) : Nonempty (UpW W) := ⟨⟨W, Below.refl _ _⟩⟩
theorem wp_region_up {P : Program} {W : World} {id : Nat} {Q : Exit -> Act -> World -> Prop} {a : Act} {l : List Oper} (hm : P.follows .mixedOrders = true) (hB : Region.lexB .any l.toArray = true)
    (h : wpQuiet P l.toArray (λ w' => ∃ n : UpW W, w' = n.w) (λ a' => ∀ w', (∃ n : UpW W, w' = n.w) -> Q .normal a' w') l a) : (Code.region id l.toArray true).wp P Q a W :=
  wp_region_quiet (C := λ w' => ∃ n : UpW W, w' = n.w) hm hB ⟨⟨_, (Below.refl W.heap.size W).drew⟩, rfl⟩ (by simpa using h)
theorem up_call {P : Program} {f : FuncId} {args : Array Value} {W : World} {n : UpW W} {v : Value} (h : Calls P f args n.w λ e w' => e = .returned v /\ Below n.w.heap.size n.w w') : Calls P f args n.w λ e w'' => e = .returned v /\ ∃ m : UpW W, w'' = m.w :=
  h.mono λ _ w' ⟨he, hb⟩ => ⟨he, ⟨w', n.up.trans (hb.mono n.up.size)⟩, rfl⟩
theorem asc_len {s : List Nat} {n : Nat} (h : s.Pairwise (· < ·)) (hn : ∀ q ∈ s, q < n) : s.length <= n :=
  nodup_len n s (h.imp (λ h => Nat.ne_of_lt h)) hn
theorem row_at {w : World} {S : Nat -> Prop} {v : Value} {s : List Nat} (h : RowV w S v (ints (natI s))) {j : Nat} (hj : j < s.length) : ∃ ad c, v = .slice (some ad) s.length c /\ w.cell? (ad.add j) = some (.int .i64 ((s[j] : Nat) : Int)) := by
  obtain ⟨hl, A, c, rfl, hc⟩ := h
  obtain ⟨ad, rfl, -, hce⟩ := hc j (.int .i64 ((s[j] : Nat) : Int)) (by simp [ints, natI, hj])
  exact ⟨ad, c, by simp [ints, natI], hce⟩
theorem row_shape {w : World} {S : Nat -> Prop} {v : Value} {s : List Nat} (h : RowV w S v (ints (natI s))) : ∃ A c, v = .slice A s.length c := by
  obtain ⟨hl, A, c, rfl, hc⟩ := h
  exact ⟨A, c, by simp [ints, natI]⟩
theorem IR.rowV {w : World} {B : Nat} {v : Value} {s : List Nat} (h : IR w B v (natI s)) (hl : s.length <= 9223372036854775807) : RowV w (λ g => v.ownBlock = some g) v (ints (natI s)) := (h.row (by rw [natI_length]; exact hl)).row
theorem IR.nat {w : World} {B : Nat} {v : Value} {s : List Nat} (h : IR w B v (natI s)) (hl : s.length <= 9223372036854775807) : RowV w (λ g => v.ownBlock = some g) v (ints (natI s)) := h.rowV hl
theorem specAny_any (ad : Addr) (n c : Nat) (vn : Value) (a : Au) (v : Value) (s : List Nat) (S : Nat -> Prop) (w : World) (hA : ∀ q, q < n -> w.cell? (ad.add q) = some (.bool (a.A q))) (hs : ∀ q ∈ s, q < n) (hl : s.length <= 2000) (h : RowV w S v (ints (natI s))) :
    Calls Tryz.prog 100 #[.agg #[.slice (some ad) n c, vn], v] w λ e w' => e = .returned (.bool (anyS a s)) /\ Below w.heap.size w w' := by
  obtain ⟨A, cs, rfl⟩ := row_shape h
  obtain ⟨W0, hW0⟩ : ∃ W0, W0 = w.alloc (.cells #[.slice (some ad) n c, vn] 31) := ⟨_, rfl⟩
  have HB0 : Hid (Below w.heap.size w W0) := Lib.hid (by rw [hW0]; exact (Below.refl _ _).alloc (Nat.le_refl _) _)
  have HX : Hid (W0.heap[w.heap.size]? = some (.cells #[.slice (some ad) n c, vn] 31 (0, 0))) := Lib.hid (by rw [hW0]; exact heap_alloc_new w _)
  have HA := Lib.hid (λ (V : World) (hV : Below W0.heap.size W0 V) q (hq : q < n) => (HB0.out.trans (hV.mono HB0.out.size)).cell (cell_in (hA q hq)) |>.trans (hA q hq))
  have HR := Lib.hid (λ j (hj : j < s.length) => row_at h hj)
  have HK := Lib.hid (λ (V : World) (hV : Below W0.heap.size W0 V) {p : Addr} {u : Value} (hc : w.cell? p = some u) => ((HB0.out.trans (hV.mono HB0.out.size)).cell (cell_in hc)).trans hc)
  have HS := Lib.hid hs
  clear hA h hs
  go_enter Tryz.func100, Tryz.ntmps100
  go_upto_region 1 with fail
  rw [<- hW0]
  clear hW0
  go_wp2_with fail
  go_loopw [5] (λ iv wr => ∃ i : Nat, iv = .int .i64 i /\ i <= s.length /\ Hid (∀ j (hj : j < s.length), j < i -> a.A s[j] = false) /\ Hid (Below W0.heap.size W0 wr)) (λ iv _ => s.length - (intOf iv).toNat)
  case atStart => exact ⟨0, rfl, Nat.zero_le _, Lib.hid (λ j _ hj => absurd hj (Nat.not_lt_zero _)), Lib.hid (Below.refl _ _)⟩
  case round =>
    obtain ⟨i, rfl, hil, HL, HBr⟩ := hrel
    by_cases hlt : i < s.length
    . have hd : decide ((i : Int) < (s.length : Int)) = true := by simp; omega
      obtain ⟨ad2, c2, hv, hc⟩ := HR.out i hlt
      injection hv with hv1 _ hv3
      subst hv1
      have hc2 := HK.out wr HBr.out hc
      obtain ⟨x, hx⟩ : ∃ x, x = s[i] := ⟨_, rfl⟩
      have hxn : x < n := by rw [hx]; exact HS.out _ (List.getElem_mem hlt)
      have hca := HA.out wr HBr.out x hxn
      obtain ⟨c0, -, -, -⟩ := box2_facts ((HBr.out.block _ (blk_lt HX.out)).trans HX.out)
      rw [<- hx] at hc2
      obtain ⟨b, hb⟩ : ∃ b, b = a.A x := ⟨_, rfl⟩
      rw [<- hb] at hca
      have HXe := Lib.hid hx
      have HBe := Lib.hid hb
      have s1 : (0 : Int) <= (i : Int) := by omega
      have s2 : (i : Int) < (s.length : Int) := by omega
      have s3 : (0 : Int) <= (x : Int) := by omega
      have s4 : (x : Int) < (n : Int) := by omega
      clear hc hx hb hv3
      go_wp2_with fail
      go_quiet (fail)
      clear hc2 hca c0
      cases b with
      | true =>
        have HE : Hid (anyS a s = true) := Lib.hid (anyS_iff.2 ⟨x, by rw [HXe.out]; exact List.getElem_mem hlt, HBe.out.symm⟩)
        go_wp2_with fail
        go_ret
        exact ⟨congrArg (λ b : Bool => Ending.returned (.bool b)) HE.out.symm, below_draws (HB0.out.trans (HBr.out.mono HB0.out.size)) _⟩
      | false =>
        have HL2 : Hid (∀ j (hj : j < s.length), j < i + 1 -> a.A s[j] = false) := Lib.hid (λ j hj hji => by
          rcases Nat.lt_or_eq_of_le (Nat.le_of_lt_succ hji) with h | h
          . exact HL.out j hj h
          . subst h; rw [<- HXe.out]; exact HBe.out.symm)
        have HB2 := Lib.hid (λ k => below_draws HBr.out k)
        go_wp2_with fail
        go_roundw
        case rel => exact ⟨i + 1, by go_num, by omega, HL2, Lib.hid (HB2.out _)⟩
        case measure => simp [intOf]; omega
    . have HE : Hid (anyS a s = false) := Lib.hid (by
        cases h : anyS a s with
        | false => rfl
        | true =>
          obtain ⟨q, hq, h2⟩ := anyS_iff.1 h
          obtain ⟨j, hj, rfl⟩ := List.getElem_of_mem hq
          have := HL.out j hj (by omega)
          rw [this] at h2
          cases h2)
      have hd : decide ((i : Int) < (s.length : Int)) = false := by simp; omega
      go_wp2_with fail
      go_ret
      exact ⟨congrArg (λ b : Bool => Ending.returned (.bool b)) HE.out.symm, HB0.out.trans (HBr.out.mono HB0.out.size)⟩
def MovPost (l : List Int) (w : World) (e : Ending) (w' : World) : Prop := ∃ v', e = .returned v' /\ IR w' w.heap.size v' l /\ v' ≠ .slice none 0 0 /\ Below w.heap.size w w'
def movT (a : Au) (s : List Nat) (k j : Nat) : List Nat := moveS a (s.take j) k
theorem movT_succ {a : Au} {s : List Nat} {k j : Nat} (hj : j < s.length) : movT a s k (j + 1) = putS (movT a s k j) (a.T s[j] k) := by
  unfold movT moveS
  rw [List.take_succ_eq_append_getElem hj, List.foldl_append]
  rfl
theorem movT_len {a : Au} {s : List Nat} {k j n : Nat} (hs : ∀ q ∈ s, a.T q k < n) : (movT a s k j).length <= n := asc_len (move_asc _ _ _) (λ q hq => by
  obtain ⟨p, hp, rfl⟩ := mem_move.1 hq
  exact hs p (List.mem_of_mem_take hp))
theorem specMove_any (va : Value) (aN : Addr) (n c k : Nat) (a : Au) (v : Value) (s : List Nat) (S : Nat -> Prop) (w : World) (hn : n <= 40) (hk : k < 3) (hs : ∀ q ∈ s, q < n) (hw : ∀ q, q < n -> a.T q k < n)
    (hT : ∀ q, q < n -> ∃ r q', w.cell? (aN.add q) = some (.slice (some r) 3 q') /\ w.cell? (r.add k) = some (.int .i64 ((a.T q k : Nat) : Int))) (hl : s.length <= 2000) (h : RowV w S v (ints (natI s))) :
    Calls Tryz.prog 99 #[.agg #[va, .slice (some aN) n c], v, .int .i64 (k : Int)] w (MovPost (natI (moveS a s k)) w) := by
  obtain ⟨A, cs, rfl⟩ := row_shape h
  obtain ⟨W0, hW0⟩ : ∃ W0, W0 = (w.alloc (.cells #[va, .slice (some aN) n c] 31)).alloc (.cells #[] 3) := ⟨_, rfl⟩
  have HB0 : Hid (Below w.heap.size w W0) := Lib.hid (by rw [hW0]; exact ((Below.refl _ _).alloc (Nat.le_refl _) _).alloc (by simp) _)
  have HX : Hid (W0.heap[w.heap.size]? = some (.cells #[va, .slice (some aN) n c] 31 (0, 0))) := Lib.hid (by rw [hW0]; exact (Below.heap_alloc _ _ _ (by simp)).trans (heap_alloc_new w _))
  have HN : Hid (IR W0 w.heap.size (.slice (some ⟨w.heap.size + 1, 0, none⟩) 0 0) []) := Lib.hid (by
    have h := IR.none (w.alloc (.cells #[va, .slice (some aN) n c] 31)) (B := w.heap.size) (by simp)
    rw [World.size_alloc, <- hW0] at h
    exact h)
  have HT := Lib.hid hT
  have HR := Lib.hid (λ j (hj : j < s.length) => row_at h hj)
  have HK := Lib.hid (λ (V : World) (hV : Below w.heap.size w V) {p : Addr} {u : Value} (hc : w.cell? p = some u) => (hV.cell (cell_in hc)).trans hc)
  have HS := Lib.hid hs
  have HW := Lib.hid hw
  have HLn := Lib.hid (λ j => movT_len (a := a) (s := s) (k := k) (j := j) (n := n) (λ q hq => hw q (hs q hq)))
  clear hT h hs hw
  go_enter Tryz.func99, Tryz.ntmps99
  go_upto_region 2 with fail
  rw [<- hW0]
  clear hW0
  go_wp2_with fail
  go_loopw [7, 8] (λ ov iv wr => ∃ i : Nat, iv = .int .i64 i /\ i <= s.length /\ ov ≠ .slice none 0 0 /\ Hid (IR wr w.heap.size ov (natI (movT a s k i))) /\ Hid (Below w.heap.size w wr /\ wr.heap[w.heap.size]? = some (.cells #[va, .slice (some aN) n c] 31 (0, 0)))) (λ _ iv _ => s.length - (intOf iv).toNat)
  case atStart => exact ⟨0, rfl, Nat.zero_le _, by simp, HN, Lib.hid ⟨HB0.out, HX.out⟩⟩
  case round =>
    obtain ⟨i, rfl, hil, hne, HO, HBr⟩ := hrel
    by_cases hlt : i < s.length
    . have hd : decide ((i : Int) < (s.length : Int)) = true := by simp; omega
      obtain ⟨ad2, c2, hv, hc⟩ := HR.out i hlt
      injection hv with hv1 _ hv3
      subst hv1
      obtain ⟨x, hx⟩ : ∃ x, x = s[i] := ⟨_, rfl⟩
      have hxn : x < n := by rw [hx]; exact HS.out _ (List.getElem_mem hlt)
      obtain ⟨r, q', h1, h2⟩ := HT.out x hxn
      rw [<- hx] at hc
      obtain ⟨y, hy⟩ : ∃ y, y = a.T x k := ⟨_, rfl⟩
      rw [<- hy] at h2
      have HSu : Hid (movT a s k (i + 1) = putS (movT a s k i) y) := Lib.hid (by rw [movT_succ hlt, hy, hx])
      have hll := HLn.out i
      obtain ⟨g, cap, rfl, -, -⟩ := ir_some HO.out hne
      rw [natI_length] at HO ⊢
      have HPu := Lib.hid (λ (V : World) (hV : Below wr.heap.size wr V) => specPut_any w.heap.size (.slice (some ⟨g, 0, none⟩) (movT a s k i).length cap) (movT a s k i) y V (by
        have h := HO.out.below hV
        exact h) (by simp) (by omega))
      obtain ⟨m, hm⟩ : ∃ m, m = (movT a s k i).length := ⟨_, rfl⟩
      rw [<- hm] at HO HPu ⊢
      have HKe := Lib.hid (λ (V : World) (hV : Below wr.heap.size wr V) => (by
        have hb := HBr.out.1.trans (hV.mono HBr.out.1.size)
        obtain ⟨-, x1, -, -⟩ := box2_facts ((hV.block _ (blk_lt HBr.out.2)).trans HBr.out.2)
        exact ⟨x1, HK.out V hb hc, HK.out V hb h1, HK.out V hb h2⟩ :
        V.cell? ⟨w.heap.size, 1, none⟩ = some (.slice (some aN) n c) /\ V.cell? (ad2.add i) = some (.int .i64 (x : Int)) /\ V.cell? (aN.add x) = some (.slice (some r) 3 q') /\ V.cell? (r.add k) = some (.int .i64 (y : Int))))
      have hbw : Below wr.heap.size wr wr := Below.refl _ _
      have s1 : (0 : Int) <= (i : Int) := by omega
      have s2 : (i : Int) < (s.length : Int) := by omega
      have s3 : (0 : Int) <= (x : Int) := by omega
      have s4 : (x : Int) < (n : Int) := by omega
      have s5 : (0 : Int) <= (k : Int) := by omega
      have s6 : (k : Int) < 3 := by omega
      clear hc hx hy hv3 h1 h2 hm hll
      go_wp2_with fail
      go_region_held3 (λ V => V.cell? ⟨w.heap.size, 1, none⟩ = some (.slice (some aN) n c) /\ V.cell? (ad2.add i) = some (.int .i64 (x : Int)) /\ V.cell? (aN.add x) = some (.slice (some r) 3 q') /\ V.cell? (r.add k) = some (.int .i64 (y : Int))) (first | exact HKe.out _ hbw.drew | exact HKe.out _ hbw) (first | (go_at_call 101; (with_reducible refine (HPu.out _ hbw.drew).mono ?_); rintro e1 w1 ⟨v1, rfl, hi1, hn1, ho1, hb1⟩; have hbw := hbw.drew.trans (hb1.mono hbw.drew.size)))
      have HO2 := Lib.hid hi1
      rw [<- HSu.out] at HO2
      have HB2 : Hid (Below w.heap.size w w1 /\ w1.heap[w.heap.size]? = some (.cells #[va, .slice (some aN) n c] 31 (0, 0))) := Lib.hid ⟨HBr.out.1.trans (hbw.mono HBr.out.1.size), (hbw.block _ (blk_lt HBr.out.2)).trans HBr.out.2⟩
      clear hi1 ho1 hb1 hbw
      go_wp2_with fail
      go_roundw
      case rel => exact ⟨i + 1, by go_num, by omega, hn1, HO2, HB2⟩
      case measure => simp [intOf]; omega
    . have hd : decide ((i : Int) < (s.length : Int)) = false := by simp; omega
      have HE : Hid (movT a s k i = moveS a s k) := Lib.hid (by unfold movT; rw [List.take_of_length_le (by omega)])
      rw [HE.out] at HO
      obtain ⟨g, cap, rfl, -, -⟩ := ir_some HO.out hne
      go_wp2_with fail
      go_ret
      exact ⟨_, rfl, HO.out, hne, HBr.out.1⟩
theorem list_eq_of {α : Type} (x : α) {l l' : List α} (hl : l.length = l'.length) (h : ∀ i, i < l.length -> l.getD i x = l'.getD i x) : l = l' := by
  apply List.ext_getElem hl
  intro i h1 h2
  have := h i h1
  rwa [getD_at h1, getD_at h2] at this
theorem specInts_any (v v' : Value) (l l' : List Int) (S S' : Nat -> Prop) (w : World) (h : RowV w S v (ints l)) (h' : RowV w S' v' (ints l')) :
    Calls Tryz.prog 22 #[v, v'] w λ e w' => e = .returned (.bool (decide (l = l'))) /\ Below w.heap.size w w' := by
  obtain ⟨hl, A, c, rfl⟩ := h.ints_shape
  obtain ⟨hl', A', c', rfl⟩ := h'.ints_shape
  have HE := Lib.hid (λ j (hj : j < l.length) => h.intD hj)
  have HE' := Lib.hid (λ j (hj : j < l'.length) => h'.intD hj)
  clear h h'
  by_cases hlen : l.length = l'.length
  . have HLen := Lib.hid hlen
    have HYes : Hid ((∀ i, i < l.length -> l.getD i 0 = l'.getD i 0) -> decide (l = l') = true) := Lib.hid (λ h => decide_eq_true (list_eq_of 0 HLen.out h))
    have HNo : Hid (∀ i, l.getD i 0 ≠ l'.getD i 0 -> decide (l = l') = false) := Lib.hid (λ i h => decide_eq_false (λ e => h (by rw [e])))
    obtain ⟨b, hb⟩ : ∃ b, b = decide (l = l') := ⟨_, rfl⟩
    rw [<- hb] at HYes HNo ⊢
    obtain ⟨n, hn⟩ : ∃ n, n = l.length := ⟨_, rfl⟩
    rw [<- hlen] at HE' hl' ⊢
    rw [<- hn] at HE HE' hl HYes ⊢
    have HR : Hid (∀ j, j < n -> ∃ ad ad', A = some ad /\ A' = some ad' /\ w.cell? (ad.add j) = some (.int .i64 (l.getD j 0)) /\ w.cell? (ad'.add j) = some (.int .i64 (l'.getD j 0))) := Lib.hid (λ j hj => by
      obtain ⟨ad, e, -, hc⟩ := HE.out j hj
      obtain ⟨ad', e', -, hc'⟩ := HE'.out j hj
      exact ⟨ad, ad', e, e', hc, hc'⟩)
    clear hb hn hlen HE HE'
    have hne : ((n : Int) != (n : Int)) = false := by simp
    go_enter Tryz.func22, Tryz.ntmps22
    go_wp2_with fail
    clear hne
    go_loopw [5] (λ i wr => ∃ j m : Nat, i = .int .i64 j /\ j <= n /\ wr = w.drewN m /\ Hid (∀ i, i < j -> l.getD i 0 = l'.getD i 0)) (λ i _ => n - (intOf i).toNat)
    case atStart => exact ⟨0, 0, rfl, Nat.zero_le _, rfl, Lib.hid (λ i hi => absurd hi (Nat.not_lt_zero _))⟩
    case round =>
      obtain ⟨j, m, rfl, hj, rfl, hall⟩ := hrel
      by_cases hlt : j < n
      . obtain ⟨ad, ad', rfl, rfl, hc1, hc2⟩ := HR.out j hlt
        obtain ⟨x, hx⟩ : ∃ x, x = l.getD j 0 := ⟨_, rfl⟩
        obtain ⟨x', hx'⟩ : ∃ x', x' = l'.getD j 0 := ⟨_, rfl⟩
        rw [<- hx] at hc1
        rw [<- hx'] at hc2
        by_cases hxx : x = x'
        . subst hxx
          have HX : Hid (l.getD j 0 = l'.getD j 0) := Lib.hid (by rw [<- hx, <- hx'])
          have hne : (x != x) = false := by simp
          clear hx hx'
          go_wp2_with fail
          go_quiet (fail)
          all_goals go_wp2
          all_goals
            go_roundw
            case rel => exact ⟨j + 1, _, by go_num, by omega, rfl, Lib.hid (λ i hi => by
              by_cases e : i = j
              . rw [e]; exact HX.out
              . exact hall.out i (by omega))⟩
            case measure => simp [intOf]; omega
        . have hne : (x != x') = true := by simpa using hxx
          have HF : Hid (b = false) := Lib.hid (HNo.out j (by rw [<- hx, <- hx']; exact hxx))
          clear hx hx' hxx
          go_wp2_with fail
          go_quiet (fail)
          all_goals go_wp2
          all_goals
            go_ret
            exact ⟨congrArg (λ b : Bool => Ending.returned (.bool b)) HF.out.symm, below_draws (below_draws (Below.refl _ _) _) _⟩
      . obtain rfl : j = n := by omega
        have HF : Hid (b = true) := Lib.hid (HYes.out hall.out)
        go_wp2_with fail
        go_ret
        exact ⟨congrArg (λ b : Bool => Ending.returned (.bool b)) HF.out.symm, below_draws (Below.refl _ _) m⟩
  . have HF : Hid (decide (l = l') = false) := Lib.hid (decide_eq_false (λ e => hlen (by rw [e])))
    have hne : ((l.length : Int) != (l'.length : Int)) = true := by simp; omega
    clear hlen
    go_enter Tryz.func22, Tryz.ntmps22
    go_wp2_with fail
    go_ret
    exact ⟨congrArg (λ b : Bool => Ending.returned (.bool b)) HF.out.symm, Below.refl _ _⟩
theorem bool_ne {x y : Bool} (h : ¬ x = y) : (x = true /\ y = false) \/ (x = false /\ y = true) := by cases x <;> cases y <;> simp at h ⊢
abbrev K6 := Nat × List Nat × Bool
def k6C : List Value -> List K6 -> List Value
  | u :: us, x :: l => .int .i64 (x.1 : Int) :: u :: .bool x.2.2 :: k6C us l
  | _, _ => []
theorem k6C_at : ∀ (us : List Value) (l : List K6) (j : Nat) (x : K6) (u : Value), us[j]? = some u -> l[j]? = some x ->
    (k6C us l)[j * 3]? = some (.int .i64 (x.1 : Int)) /\ (k6C us l)[j * 3 + 1]? = some u /\ (k6C us l)[j * 3 + 2]? = some (.bool x.2.2)
  | [], _, _, _, _, h, _ => by simp at h
  | _ :: _, [], _, _, _, _, h => by simp at h
  | u :: us, x :: l, 0, y, v, h1, h2 => by
    cases h1
    cases h2
    exact ⟨rfl, rfl, rfl⟩
  | u :: us, x :: l, j + 1, y, v, h1, h2 => by
    have ih := k6C_at us l j y v (by simpa using h1) (by simpa using h2)
    rw [show (j + 1) * 3 = j * 3 + 1 + 1 + 1 by omega]
    simpa [k6C] using ih
theorem k6C_snoc : ∀ (us : List Value) (l : List K6) (u : Value) (x : K6), us.length = l.length -> k6C (us ++ [u]) (l ++ [x]) = k6C us l ++ [.int .i64 (x.1 : Int), u, .bool x.2.2]
  | [], [], u, x, _ => rfl
  | [], _ :: _, _, _, h => by simp at h
  | _ :: _, [], _, _, h => by simp at h
  | v :: us, y :: l, u, x, h => by
    have ih := k6C_snoc us l u x (by simpa using h)
    simp [k6C, ih]
def Sets (w : World) (B : Nat) (us : List Value) (l : List K6) : Prop := us.length = l.length /\ ∀ (j : Nat) (u : Value) (x : K6), us[j]? = some u -> l[j]? = some x -> IR w B u (natI x.2.1)
theorem Sets.snoc {w : World} {B : Nat} {us : List Value} {l : List K6} (h : Sets w B us l) {u : Value} {x : K6} (hu : IR w B u (natI x.2.1)) : Sets w B (us ++ [u]) (l ++ [x]) := by
  refine ⟨by simp [h.1], λ j v y hv hy => ?_⟩
  by_cases hj : j < us.length
  . rw [List.getElem?_append_left hj] at hv
    rw [List.getElem?_append_left (by rw [<- h.1]; exact hj)] at hy
    exact h.2 j v y hv hy
  . have e : j = us.length := by
      have := (List.getElem?_eq_some_iff.1 hv).1
      simp at this
      omega
    subst e
    rw [List.getElem?_append_right (Nat.le_refl _), Nat.sub_self] at hv
    rw [List.getElem?_append_right (by rw [h.1]; exact Nat.le_refl _), h.1, Nat.sub_self] at hy
    cases hv
    cases hy
    exact hu
theorem Sets.kept {w w' : World} {B : Nat} {us : List Value} {l : List K6} {row : Option Nat} (h : Sets w B us l) (hg : w.grownBy w' row) (hne : ∀ g u, u ∈ us -> u.ownBlock = some g -> row ≠ some g) : Sets w' B us l :=
  ⟨h.1, λ j u x hu hx => (h.2 j u x hu hx).kept hg (λ g e => hne g u (List.mem_of_getElem? hu) e)⟩
theorem Sets.below {w w' : World} {B : Nat} {us : List Value} {l : List K6} (h : Sets w B us l) (hb : Below w.heap.size w w') : Sets w' B us l := h.kept (grown_of hb) (λ g u _ _ e => by cases e)
theorem set6Info : (Tryz.prog.info? 144).map (λ i => (i.zero, i.size, i.bytes)) = some (some (.agg #[.int .i64 0, .slice none 0 0, .bool false]), 3, 40) := by kernel_rfl
def fndV (l : List K6) (x : K6) : Int := if x ∈ l then (l.idxOf x : Int) else -1
theorem fndV_here {l : List K6} {x : K6} {i : Nat} (hi : l[i]? = some x) (hl : ∀ (j : Nat) (y : K6), j < i -> l[j]? = some y -> y ≠ x) : fndV l x = (i : Int) := by
  have hm : x ∈ l := List.mem_of_getElem? hi
  have hlt : l.idxOf x < l.length := List.idxOf_lt_length_of_mem hm
  have h1 : l[l.idxOf x]? = some x := by rw [List.getElem?_eq_getElem hlt, List.getElem_idxOf]
  unfold fndV
  rw [if_pos hm]
  rcases Nat.lt_trichotomy (l.idxOf x) i with h | h | h
  . exact absurd rfl (hl _ x h h1)
  . rw [h]
  . exfalso
    have h2 := List.not_of_lt_findIdx (p := (· == x)) (xs := l) (i := i) h
    obtain ⟨hi', e⟩ := List.getElem?_eq_some_iff.1 hi
    simp [e] at h2
theorem natI_inj {s t : List Nat} (h : natI s = natI t) : s = t := by
  unfold natI at h
  exact (List.map_inj_right (λ a b e => by omega)).1 h
theorem fndV_none {l : List K6} {x : K6} (hl : ∀ (j : Nat) (y : K6), l[j]? = some y -> y ≠ x) : fndV l x = -1 := by
  unfold fndV
  rw [if_neg]
  intro hm
  obtain ⟨j, hj⟩ := List.getElem?_of_mem hm
  exact hl j x hj rfl
theorem specFnd_any (B B' B2 : Nat) (v vx : Value) (us : List Value) (l : List K6) (x : K6) (w : World) (hown : w.ownsRow B 144 3 v l.length (k6C us l)) (hset : Sets w B' us l) (hx : IR w B2 vx (natI x.2.1)) (hl : l.length <= 2000) (hll : ∀ y ∈ l, y.2.1.length <= 2000) (hxl : x.2.1.length <= 2000) :
    Calls Tryz.prog 102 #[v, .agg #[.int .i64 (x.1 : Int), vx, .bool x.2.2]] w λ e w' => e = .returned (.int .i64 (fndV l x)) /\ Below w.heap.size w w' := by
  obtain ⟨W0, hW0⟩ : ∃ W0, W0 = w.alloc (.cells #[.int .i64 (x.1 : Int), vx, .bool x.2.2] 144) := ⟨_, rfl⟩
  have HB0 : Hid (Below w.heap.size w W0) := Lib.hid (by rw [hW0]; exact (Below.refl _ _).alloc (Nat.le_refl _) _)
  have HX : Hid (W0.heap[w.heap.size]? = some (.cells #[.int .i64 (x.1 : Int), vx, .bool x.2.2] 144 (0, 0))) := Lib.hid (by rw [hW0]; exact heap_alloc_new w _)
  have HI := Lib.hid (λ (V : World) (hV : Below w.heap.size w V) (j : Nat) (u : Value) (y : K6) (hu : us[j]? = some u) (hy : l[j]? = some y) => specInts_any u vx (natI y.2.1) (natI x.2.1) _ _ V (((hset.2 j u y hu hy).below hV).nat (by have := hll y (List.mem_of_getElem? hy); omega)) ((hx.below hV).nat (by omega)))
  have HKc := Lib.hid (λ (V : World) (hV : Below w.heap.size w V) {p : Addr} {u : Value} (hc : w.cell? p = some u) => (hV.cell (cell_in hc)).trans hc)
  have HOw := Lib.hid hown
  have HUl := Lib.hid hset.1
  obtain ⟨Ax, cx, rfl⟩ : ∃ A c, vx = .slice A x.2.1.length c := row_shape (hx.nat (by omega))
  have HUs : Hid (∀ (j : Nat) (u : Value) (y : K6), us[j]? = some u -> l[j]? = some y -> ∃ A c, u = .slice A y.2.1.length c) := Lib.hid (λ j u y hu hy => row_shape ((hset.2 j u y hu hy).nat (by have := hll y (List.mem_of_getElem? hy); omega)))
  obtain ⟨n, hn⟩ : ∃ n, n = l.length := ⟨_, rfl⟩
  have HN := Lib.hid hn
  have hsh : ∃ A c, v = .slice A n c := by
    rcases hown.2 with ⟨rfl, h0⟩ | ⟨g, cap, cur, rfl, _⟩
    . exact ⟨none, 0, by rw [hn, h0]⟩
    . exact ⟨_, _, by rw [hn]⟩
  obtain ⟨A, cv, rfl⟩ := hsh
  rw [<- hn] at hl
  clear hown hset hx hll hxl hn
  go_enter Tryz.func102, Tryz.ntmps102
  go_upto_region 1 with fail
  rw [<- hW0]
  clear hW0
  go_wp2_with fail
  go_loopw [5] (λ iv wr => ∃ i : Nat, iv = .int .i64 i /\ i <= n /\ Hid (∀ (j : Nat) (y : K6), j < i -> l[j]? = some y -> y ≠ x) /\ Hid (Below W0.heap.size W0 wr)) (λ iv _ => n - (intOf iv).toNat)
  case atStart => exact ⟨0, rfl, Nat.zero_le _, Lib.hid (λ j _ hj => absurd hj (Nat.not_lt_zero _)), Lib.hid (Below.refl _ _)⟩
  case round =>
    obtain ⟨i, rfl, hil, HL, HBr⟩ := hrel
    by_cases hlt : i < n
    . have hd : decide ((i : Int) < (n : Int)) = true := by simp; omega
      obtain ⟨y, hy⟩ : ∃ y, l[i]? = some y := ⟨_, List.getElem?_eq_getElem (by rw [<- HN.out]; exact hlt)⟩
      obtain ⟨u, hu⟩ : ∃ u, us[i]? = some u := ⟨_, List.getElem?_eq_getElem (by rw [HUl.out, <- HN.out]; exact hlt)⟩
      obtain ⟨g, cg, hvg, -, hcg⟩ := own_cell HOw.out (by rw [<- HN.out]; omega)
      injection hvg with hA _ hcv
      subst hA
      subst hcv
      obtain ⟨p1, p2, p3⟩ := k6C_at us l i y u hu hy
      have q1 := (hcg (i * 3) (by rw [<- HN.out]; omega)).trans p1
      have q2 := (hcg (i * 3 + 1) (by rw [<- HN.out]; omega)).trans p2
      have q3 := (hcg (i * 3 + 2) (by rw [<- HN.out]; omega)).trans p3
      obtain ⟨Au, cu, hush⟩ := HUs.out i u y hu hy
      subst hush
      have HL1 := Lib.hid (λ (V : World) (hV : Below wr.heap.size wr V) => HB0.out.trans ((HBr.out.trans (hV.mono HBr.out.size)).mono HB0.out.size))
      have HIi := Lib.hid (λ (m : UpW wr) => up_call (HI.out m.w (HL1.out m.w m.up) i _ y hu hy))
      have k1 := λ (m : UpW wr) => HKc.out m.w (HL1.out m.w m.up) q1
      have k2 := λ (m : UpW wr) => HKc.out m.w (HL1.out m.w m.up) q2
      have k3 := λ (m : UpW wr) => HKc.out m.w (HL1.out m.w m.up) q3
      have hx3 : ∀ V, Below wr.heap.size wr V -> Bx3 V w.heap.size (.int .i64 (x.1 : Int)) (.slice Ax x.2.1.length cx) (.bool x.2.2) 144 := λ V hV => (hV.block _ (Nat.lt_of_lt_of_le (blk_lt HX.out) HBr.out.size)).trans ((HBr.out.block _ (blk_lt HX.out)).trans HX.out)
      have k4 := λ (m : UpW wr) => (hx3 m.w m.up).facts.1.1
      have k5 := λ (m : UpW wr) => (hx3 m.w m.up).facts.1.2.1
      have k6 := λ (m : UpW wr) => (hx3 m.w m.up).facts.1.2.2
      have s1 : (0 : Int) <= (i : Int) := by omega
      have s2 : (i : Int) < (n : Int) := by omega
      have HY := Lib.hid hy
      obtain ⟨xs, hxs⟩ : ∃ b, b = decide (natI y.2.1 = natI x.2.1) := ⟨_, rfl⟩
      rw [<- hxs] at HIi
      obtain ⟨ly, hly⟩ : ∃ z, z = y.2.1.length := ⟨_, rfl⟩
      obtain ⟨lx, hlx⟩ : ∃ z, z = x.2.1.length := ⟨_, rfl⟩
      rw [<- hly] at k2 HIi
      rw [<- hlx] at k5 HIi
      have HXs := Lib.hid hxs
      obtain ⟨y1, hy1⟩ : ∃ z, z = y.1 := ⟨_, rfl⟩
      obtain ⟨y3, hy3⟩ : ∃ z, z = y.2.2 := ⟨_, rfl⟩
      obtain ⟨x1, hx1⟩ : ∃ z, z = x.1 := ⟨_, rfl⟩
      obtain ⟨x3, hx3'⟩ : ∃ z, z = x.2.2 := ⟨_, rfl⟩
      rw [<- hy1] at k1
      rw [<- hy3] at k3
      rw [<- hx1] at k4
      rw [<- hx3'] at k6
      have HE := Lib.hid (And.intro hy1 (And.intro hy3 (And.intro hx1 hx3')))
      clear hy hu p1 p2 p3 q1 q2 q3 hcg hx3 hxs hly hlx hy1 hy3 hx1 hx3'
      have goOn : Hid (y ≠ x) -> Hid (∀ (j : Nat) (z : K6), j < i + 1 -> l[j]? = some z -> z ≠ x) := λ h => Lib.hid (λ j z hj hz => by
        rcases Nat.lt_or_eq_of_le (Nat.le_of_lt_succ hj) with h2 | h2
        . exact HL.out j z h2 hz
        . subst h2
          rw [HY.out] at hz
          cases hz
          exact h.out)
      by_cases h1 : y1 = x1
      . have e1 : ((y1 : Int) == (x1 : Int)) = true := by simp; omega
        by_cases h3 : y3 = x3
        . subst h3
          have e3 : (y3 == y3) = true := by simp
          cases xs with
          | true =>
            have HEq : Hid (y = x) := Lib.hid (by
              have h4 : natI y.2.1 = natI x.2.1 := by simpa using HXs.out.symm
              have h5 : y.2.1 = x.2.1 := natI_inj h4
              have h6 := HE.out
              exact Prod.ext (by omega) (Prod.ext h5 (h6.2.1.symm.trans h6.2.2.2)))
            have HF : Hid (fndV l x = (i : Int)) := Lib.hid (fndV_here (by rw [HY.out, HEq.out]) HL.out)
            clear h1 goOn
            go_wp2_with fail
            refine wp_region_up (by kernel_rfl) (by kernel_rfl) ?_
            repeat (go_big_quiet_step (with_reducible exact HIi.out _))
            refine wpQuiet_nil ?_
            rintro _ ⟨⟨wd, hbw⟩, rfl⟩
            have HBd := Lib.hid (HBr.out.trans (hbw.mono HBr.out.size))
            clear hbw k1 k2 k3 k4 k5 k6
            go_wp2_with fail
            go_ret
            exact ⟨congrArg (λ z : Int => Ending.returned (.int .i64 z)) HF.out.symm, HB0.out.trans (HBd.out.mono HB0.out.size)⟩
          | false =>
            have HG := goOn (Lib.hid (λ h => by
              have h4 : ¬ natI y.2.1 = natI x.2.1 := by simpa using HXs.out.symm
              exact h4 (by rw [h])))
            clear h1 goOn
            go_wp2_with fail
            refine wp_region_up (by kernel_rfl) (by kernel_rfl) ?_
            repeat (go_big_quiet_step (with_reducible exact HIi.out _))
            refine wpQuiet_nil ?_
            rintro _ ⟨⟨wd, hbw⟩, rfl⟩
            have HBd := Lib.hid (HBr.out.trans (hbw.mono HBr.out.size))
            clear hbw k1 k2 k3 k4 k5 k6
            go_wp2_with fail
            go_roundw
            case rel => exact ⟨i + 1, by go_num, by omega, HG, HBd⟩
            case measure => simp [intOf]; omega
        . have HG := goOn (Lib.hid (λ h => by
            have h6 := HE.out
            exact h3 (by rw [h6.2.1, h6.2.2.2, h])))
          have e3 : (y3 == x3) = false := by simp [h3]
          clear h1 h3 goOn
          go_wp2_with fail
          refine wp_region_up (by kernel_rfl) (by kernel_rfl) ?_
          repeat (go_big_quiet_step (with_reducible exact HIi.out _))
          refine wpQuiet_nil ?_
          rintro _ ⟨⟨wd, hbw⟩, rfl⟩
          have HBd := Lib.hid (HBr.out.trans (hbw.mono HBr.out.size))
          clear hbw k1 k2 k3 k4 k5 k6
          go_wp2_with fail
          go_roundw
          case rel => exact ⟨i + 1, by go_num, by omega, HG, HBd⟩
          case measure => simp [intOf]; omega
      . have HG := goOn (Lib.hid (λ h => by
          have h6 := HE.out
          exact h1 (by rw [h6.1, h6.2.2.1, h])))
        have e1 : ((y1 : Int) == (x1 : Int)) = false := by simp; omega
        clear h1 goOn
        go_wp2_with fail
        refine wp_region_up (by kernel_rfl) (by kernel_rfl) ?_
        repeat (go_big_quiet_step (with_reducible exact HIi.out _))
        refine wpQuiet_nil ?_
        rintro _ ⟨⟨wd, hbw⟩, rfl⟩
        have HBd := Lib.hid (HBr.out.trans (hbw.mono HBr.out.size))
        clear hbw k1 k2 k3 k4 k5 k6
        go_wp2_with fail
        go_roundw
        case rel => exact ⟨i + 1, by go_num, by omega, HG, HBd⟩
        case measure => simp [intOf]; omega
    . have HE : Hid (fndV l x = -1) := Lib.hid (fndV_none (λ j y hy => HL.out j y (by have := (List.getElem?_eq_some_iff.1 hy).1; rw [<- HN.out] at this; omega) hy))
      have hd : decide ((i : Int) < (n : Int)) = false := by simp; omega
      go_wp2_with fail
      go_ret
      exact ⟨congrArg (λ z : Int => Ending.returned (.int .i64 z)) HE.out.symm, HB0.out.trans (HBr.out.mono HB0.out.size)⟩
end Go.Proofs.YtiijlpmdnokjfaaGreatDoor
