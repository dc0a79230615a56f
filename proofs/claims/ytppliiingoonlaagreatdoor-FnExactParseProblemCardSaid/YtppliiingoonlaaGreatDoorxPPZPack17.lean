/- Texts of one proof. -/
import Derived.Test.YtppliiingoonlaaGreatDoorxPPZPack16
set_option maxRecDepth 100000
set_option maxHeartbeats 20000000
namespace Go.Proofs.YtppliiingoonlaaGreatDoor
open Go.RowKit
theorem join3 (p q r s : List UInt8) : Lib.join [p, q, r] s = p ++ (s ++ (q ++ (s ++ r))) := by
  simp [Lib.join, List.intercalate, List.intersperse]
theorem join5 (p q r t u s : List UInt8) : Lib.join [p, q, r, t, u] s = p ++ (s ++ (q ++ (s ++ (r ++ (s ++ (t ++ (s ++ u))))))) := by
  simp [Lib.join, List.intercalate, List.intersperse]
theorem lens3 (p q r : List UInt8) : Lib.lens [p, q, r] = p.length + (q.length + r.length) := by simp [Lib.lens]
theorem lens5 (p q r t u : List UInt8) : Lib.lens [p, q, r, t, u] = p.length + (q.length + (r.length + (t.length + u.length))) := by simp [Lib.lens]
theorem termT_le {l : List UInt8} (h : l.length <= 12) : (termT l).length <= 12 := by
  unfold termT
  split
  . simp
  . exact h
theorem implFmtC_any (c : Cx) (xu vc : Value) (w : World) (h : CnO w xu vc c) (hsz : c.xa.size <= 2097152) (hlaid : Pow10 w) :
    Calls Tryz.prog 13 #[.agg #[.int .i64 c.k, .string c.l, .string c.r, .int .i64 c.xk, .string c.xl, xu, vc, .int .i64 c.b]] w λ e w' => e = .returned (.string (strL (fmtX c))) /\ Below w.heap.size w w' := by
  obtain ⟨A, m, B, r, rfl, rfl⟩ := h.shape
  obtain ⟨W, hW⟩ : ∃ W, W = w.alloc (.cells #[.int .i64 c.k, .string c.l, .string c.r, .int .i64 c.xk, .string c.xl, .slice A c.xa.items.length m, .slice B c.cs.length r, .int .i64 c.b] 29) := ⟨_, rfl⟩
  have hb0 : Below w.heap.size w W := by rw [hW]; exact (Below.refl _ _).alloc (Nat.le_refl _) _
  have hbx : BoxC W w.heap.size c (.slice A c.xa.items.length m) (.slice B c.cs.length r) := by rw [hW]; exact boxC_new w c _ _ _
  have HWE := Lib.hid hW
  have HB0 := Lib.hid hb0
  have HCX := Lib.hid (λ (V : World) (hb : Below W.heap.size W V) => (hbx.kept hb).cells)
  have HCN := Lib.hid (λ (V : World) (hb : Below W.heap.size W V) => h.kept (hb0.trans (hb.mono hb0.size)))
  have HFO := Lib.hid (formOf9_any c _ _ W (h.kept hb0) hsz)
  have HP := Lib.hid (λ (V : World) (hb : Below W.heap.size W V) => hlaid.below (hb0.trans (hb.mono hb0.size)))
  have hzW : W.heap.size = w.heap.size + 1 := by rw [hW]; simp
  have HZW := Lib.hid hzW
  have HPT := Lib.hid (λ (V : World) (sg : ByteArray) (hb : Below W.heap.size W V) => partsTerms_any c _ _ sg V (HCN.out V hb))
  have HPR := Lib.hid (λ (V : World) (sg : ByteArray) (hb : Below W.heap.size W V) => partsRegex_any c _ _ sg V (HCN.out V hb) hsz)
  have hcW := hbx.cells
  rw [hW] at hcW
  obtain ⟨c0, c1, c2, c3, c4, c5, c6, c7⟩ := hcW
  clear hW hb0 hbx h hzW
  cases hv : validX c with
  | false =>
    have HR := Lib.hid (show fmtX c = [] from if_neg (by rw [show validC c.cn = validX c from rfl, hv]; simp))
    unfold FoPost at HFO
    rw [hv] at HFO
    clear hv hsz
    rcases kinds6 c.k with hk | hk | hk | hk | hk | hk
    . have HA : Hid (∀ s, formArr s c.k.toNat = #[.int .i64 1, .string ⟨#[61]⟩, .func (.func 101) #[] #[], .func (.func 102) #[] #[], .func (.func 103) #[] #[], .func (.func 104) #[] #[]]) := Lib.hid (λ s => by rw [hk]; rfl)
      clear hk
      go_enter Tryz.func13, Tryz.ntmps13
      go_wp2_with fail
      rw [<- HWE.out]
      refine HFO.out.mono ?_
      rintro e w1 ⟨s, hs, hf, rfl, hb1⟩
      rw [HA.out]
      have HB1 := Lib.hid hb1
      clear hf hb1 hs c0 c1 c2 c3 c4 c5 c6 c7
      go_wp2_with fail
      go_ret
      exact ⟨by rw [HR.out]; rfl, HB0.out.trans ((HB1.out.alloc HB1.out.size _).mono HB0.out.size)⟩
    . have HA : Hid (∀ s, formArr s c.k.toNat = #[.int .i64 2, .string ⟨#[33, 61]⟩, .func (.func 101) #[] #[], .func (.func 164) #[] #[.pointer (some ⟨s, 0, none⟩)], .func (.func 103) #[] #[], .func (.func 104) #[] #[]]) := Lib.hid (λ s => by rw [hk]; rfl)
      clear hk
      go_enter Tryz.func13, Tryz.ntmps13
      go_wp2_with fail
      rw [<- HWE.out]
      refine HFO.out.mono ?_
      rintro e w1 ⟨s, hs, hf, rfl, hb1⟩
      rw [HA.out]
      have HB1 := Lib.hid hb1
      clear hf hb1 hs c0 c1 c2 c3 c4 c5 c6 c7
      go_wp2_with fail
      go_ret
      exact ⟨by rw [HR.out]; rfl, HB0.out.trans ((HB1.out.alloc HB1.out.size _).mono HB0.out.size)⟩
    . have HA : Hid (∀ s, formArr s c.k.toNat = #[.int .i64 3, .string ⟨#[105, 110]⟩, .func (.func 106) #[] #[], .func (.func 107) #[] #[], .func (.func 108) #[] #[], .func (.func 109) #[] #[]]) := Lib.hid (λ s => by rw [hk]; rfl)
      clear hk
      go_enter Tryz.func13, Tryz.ntmps13
      go_wp2_with fail
      rw [<- HWE.out]
      refine HFO.out.mono ?_
      rintro e w1 ⟨s, hs, hf, rfl, hb1⟩
      rw [HA.out]
      have HB1 := Lib.hid hb1
      clear hf hb1 hs c0 c1 c2 c3 c4 c5 c6 c7
      go_wp2_with fail
      go_ret
      exact ⟨by rw [HR.out]; rfl, HB0.out.trans ((HB1.out.alloc HB1.out.size _).mono HB0.out.size)⟩
    . have HA : Hid (∀ s, formArr s c.k.toNat = #[.int .i64 4, .string ⟨#[111, 117, 116]⟩, .func (.func 106) #[] #[], .func (.func 164) #[] #[.pointer (some ⟨s + 1, 0, none⟩)], .func (.func 108) #[] #[], .func (.func 109) #[] #[]]) := Lib.hid (λ s => by rw [hk]; rfl)
      clear hk
      go_enter Tryz.func13, Tryz.ntmps13
      go_wp2_with fail
      rw [<- HWE.out]
      refine HFO.out.mono ?_
      rintro e w1 ⟨s, hs, hf, rfl, hb1⟩
      rw [HA.out]
      have HB1 := Lib.hid hb1
      clear hf hb1 hs c0 c1 c2 c3 c4 c5 c6 c7
      go_wp2_with fail
      go_ret
      exact ⟨by rw [HR.out]; rfl, HB0.out.trans ((HB1.out.alloc HB1.out.size _).mono HB0.out.size)⟩
    . have HA : Hid (∀ s, formArr s c.k.toNat = #[.int .i64 5, .string ⟨#[108, 101, 110]⟩, .func (.func 110) #[] #[], .func (.func 111) #[] #[], .func (.func 112) #[] #[], .func (.func 113) #[] #[]]) := Lib.hid (λ s => by rw [hk]; rfl)
      clear hk
      go_enter Tryz.func13, Tryz.ntmps13
      go_wp2_with fail
      rw [<- HWE.out]
      refine HFO.out.mono ?_
      rintro e w1 ⟨s, hs, hf, rfl, hb1⟩
      rw [HA.out]
      have HB1 := Lib.hid hb1
      clear hf hb1 hs c0 c1 c2 c3 c4 c5 c6 c7
      go_wp2_with fail
      go_ret
      exact ⟨by rw [HR.out]; rfl, HB0.out.trans ((HB1.out.alloc HB1.out.size _).mono HB0.out.size)⟩
    . have HA : Hid (∀ s, formArr s c.k.toNat = #[.int .i64 0, .string ⟨#[]⟩, .nilFunc, .nilFunc, .nilFunc, .nilFunc]) := Lib.hid (λ s => formArr_none (by omega) (by omega) (by omega) (by omega) (by omega))
      clear hk
      go_enter Tryz.func13, Tryz.ntmps13
      go_wp2_with fail
      rw [<- HWE.out]
      refine HFO.out.mono ?_
      rintro e w1 ⟨s, hs, hf, rfl, hb1⟩
      rw [HA.out]
      have HB1 := Lib.hid hb1
      clear hf hb1 hs c0 c1 c2 c3 c4 c5 c6 c7
      go_wp2_with fail
      go_ret
      exact ⟨by rw [HR.out]; rfl, HB0.out.trans ((HB1.out.alloc HB1.out.size _).mono HB0.out.size)⟩
  | true =>
    unfold FoPost at HFO
    rw [hv] at HFO
    have hbody := fmtX_of hv
    obtain ⟨hsl, hsr⟩ := valid_strs hv
    have hkk := valid_kinds (c := c.cn) hv
    have HVA := Lib.hid hv
    clear hv
    rcases hkk with hk | hk | hk | hk | hk
    all_goals (have hk : c.k = _ := hk)
    . have HJB : Hid (fmtX c = Lib.join [termT c.l.data.toList, [61], termT c.r.data.toList] [32]) := Lib.hid (by rw [hbody, join3]; simp [bodyT, Cx.cn, hk])
      have hln : Lib.lens [termT c.l.data.toList, [61], termT c.r.data.toList] <= 1048576 := by rw [lens3]; have := termT_le (l := c.l.data.toList) (by simpa using hsl); have := termT_le (l := c.r.data.toList) (by simpa using hsr); simp only [List.length_cons, List.length_nil]; omega
      have hjl : (Lib.join [termT c.l.data.toList, [61], termT c.r.data.toList] [32]).length <= 1048576 := by
        rw [join3]
        have := hln
        rw [lens3] at this
        have hq : Lib.lens [termT c.l.data.toList, [61], termT c.r.data.toList] <= 200 := by rw [lens3]; have := termT_le (l := c.l.data.toList) (by simpa using hsl); have := termT_le (l := c.r.data.toList) (by simpa using hsr); simp only [List.length_cons, List.length_nil]; omega
        rw [lens3] at hq
        simp only [List.length_append, List.length_cons, List.length_nil] at hq ⊢
        omega
      have HJN := Lib.hid (joined_yes hjl)
      have HLN := Lib.hid hln
      clear hln hjl hbody
      have HA : Hid (∀ s, formArr s c.k.toNat = #[.int .i64 1, .string ⟨#[61]⟩, .func (.func 101) #[] #[], .func (.func 102) #[] #[], .func (.func 103) #[] #[], .func (.func 104) #[] #[]]) := Lib.hid (λ s => by rw [hk]; rfl)
      clear hk
      go_enter Tryz.func13, Tryz.ntmps13
      go_wp2_with fail
      rw [<- HWE.out]
      refine HFO.out.mono ?_
      rintro e w1 ⟨s, hs, hf, rfl, hb1⟩
      rw [HA.out]
      have HB1 := Lib.hid hb1
      clear hf hb1 hs c0 c1 c2 c3 c4 c5 c6 c7
      have hlt1 : w.heap.size < w1.heap.size := by have := HB1.out.size; have := HZW.out; omega
      have hne1 : w.heap.size ≠ w1.heap.size := by omega
      obtain ⟨c0, c1, c2, c3, c4, c5, c6, c7⟩ := HCX.out w1 HB1.out
      go_wp2_with fail
      obtain ⟨V, hVe⟩ : ∃ V, V = w1.alloc (.cells #[.int .i64 1, .string ⟨#[61]⟩, .func (.func 101) #[] #[], .func (.func 102) #[] #[], .func (.func 103) #[] #[], .func (.func 104) #[] #[]] 75) := ⟨_, rfl⟩
      have hbV : Below w1.heap.size w1 V := by rw [hVe]; exact (Below.refl _ _).alloc (Nat.le_refl _) _
      rw [<- hVe]
      have HBV := Lib.hid (HB1.out.trans (hbV.mono HB1.out.size))
      clear hVe hbV
      refine (HPT.out V ⟨#[61]⟩ HBV.out).mono ?_
      rintro e w2 ⟨v, rfl, hown, hb2⟩
      obtain ⟨g, cv, rfl, _⟩ := strRow_at (ps := [termT c.l.data.toList, [61], termT c.r.data.toList]) hown (by simp)
      have HOW := Lib.hid hown
      have HB2 := Lib.hid (HBV.out.trans (hb2.mono HBV.out.size))
      clear hown hb2
      go_wp2_with fail
      refine (implJoin_any g cv V.heap.size [termT c.l.data.toList, [61], termT c.r.data.toList] ⟨#[32]⟩ w2 HOW.out (by simp) HLN.out (by decide)).mono ?_
      rintro e w3 ⟨rfl, hb3⟩
      have HB3 := Lib.hid (HB2.out.trans (hb3.mono HB2.out.size))
      clear hb3
      go_wp2_with fail
      go_ret
      exact ⟨congrArg (λ z => Ending.returned (.string z)) (by rw [HJB.out]; exact congrArg strL HJN.out), HB0.out.trans (HB3.out.mono HB0.out.size)⟩
    . have HJB : Hid (fmtX c = Lib.join [termT c.l.data.toList, [33, 61], termT c.r.data.toList] [32]) := Lib.hid (by rw [hbody, join3]; simp [bodyT, Cx.cn, hk])
      have hln : Lib.lens [termT c.l.data.toList, [33, 61], termT c.r.data.toList] <= 1048576 := by rw [lens3]; have := termT_le (l := c.l.data.toList) (by simpa using hsl); have := termT_le (l := c.r.data.toList) (by simpa using hsr); simp only [List.length_cons, List.length_nil]; omega
      have hjl : (Lib.join [termT c.l.data.toList, [33, 61], termT c.r.data.toList] [32]).length <= 1048576 := by
        rw [join3]
        have := hln
        rw [lens3] at this
        have hq : Lib.lens [termT c.l.data.toList, [33, 61], termT c.r.data.toList] <= 200 := by rw [lens3]; have := termT_le (l := c.l.data.toList) (by simpa using hsl); have := termT_le (l := c.r.data.toList) (by simpa using hsr); simp only [List.length_cons, List.length_nil]; omega
        rw [lens3] at hq
        simp only [List.length_append, List.length_cons, List.length_nil] at hq ⊢
        omega
      have HJN := Lib.hid (joined_yes hjl)
      have HLN := Lib.hid hln
      clear hln hjl hbody
      have HA : Hid (∀ s, formArr s c.k.toNat = #[.int .i64 2, .string ⟨#[33, 61]⟩, .func (.func 101) #[] #[], .func (.func 164) #[] #[.pointer (some ⟨s, 0, none⟩)], .func (.func 103) #[] #[], .func (.func 104) #[] #[]]) := Lib.hid (λ s => by rw [hk]; rfl)
      clear hk
      go_enter Tryz.func13, Tryz.ntmps13
      go_wp2_with fail
      rw [<- HWE.out]
      refine HFO.out.mono ?_
      rintro e w1 ⟨s, hs, hf, rfl, hb1⟩
      rw [HA.out]
      have HB1 := Lib.hid hb1
      clear hf hb1 hs c0 c1 c2 c3 c4 c5 c6 c7
      have hlt1 : w.heap.size < w1.heap.size := by have := HB1.out.size; have := HZW.out; omega
      have hne1 : w.heap.size ≠ w1.heap.size := by omega
      obtain ⟨c0, c1, c2, c3, c4, c5, c6, c7⟩ := HCX.out w1 HB1.out
      go_wp2_with fail
      obtain ⟨V, hVe⟩ : ∃ V, V = w1.alloc (.cells #[.int .i64 2, .string ⟨#[33, 61]⟩, .func (.func 101) #[] #[], .func (.func 164) #[] #[.pointer (some ⟨s, 0, none⟩)], .func (.func 103) #[] #[], .func (.func 104) #[] #[]] 75) := ⟨_, rfl⟩
      have hbV : Below w1.heap.size w1 V := by rw [hVe]; exact (Below.refl _ _).alloc (Nat.le_refl _) _
      rw [<- hVe]
      have HBV := Lib.hid (HB1.out.trans (hbV.mono HB1.out.size))
      clear hVe hbV
      refine (HPT.out V ⟨#[33, 61]⟩ HBV.out).mono ?_
      rintro e w2 ⟨v, rfl, hown, hb2⟩
      obtain ⟨g, cv, rfl, _⟩ := strRow_at (ps := [termT c.l.data.toList, [33, 61], termT c.r.data.toList]) hown (by simp)
      have HOW := Lib.hid hown
      have HB2 := Lib.hid (HBV.out.trans (hb2.mono HBV.out.size))
      clear hown hb2
      go_wp2_with fail
      refine (implJoin_any g cv V.heap.size [termT c.l.data.toList, [33, 61], termT c.r.data.toList] ⟨#[32]⟩ w2 HOW.out (by simp) HLN.out (by decide)).mono ?_
      rintro e w3 ⟨rfl, hb3⟩
      have HB3 := Lib.hid (HB2.out.trans (hb3.mono HB2.out.size))
      clear hb3
      go_wp2_with fail
      go_ret
      exact ⟨congrArg (λ z => Ending.returned (.string z)) (by rw [HJB.out]; exact congrArg strL HJN.out), HB0.out.trans (HB3.out.mono HB0.out.size)⟩
    . obtain ⟨_, _, tx, _⟩ := valid_lang HVA.out (.inl hk)
      simp only [Cx.cn] at tx
      have hfl := format_len c.xk c.xl c.xa (by have := valid_size9 tx; omega)
      have HTX := Lib.hid (show formatRx c.xk c.xl c.xa = ndTxt (c.xk, c.xl, c.xa) from if_pos tx)
      have HJB : Hid (fmtX c = Lib.join [termT c.l.data.toList, [105, 110], formatRx c.xk c.xl c.xa] [32]) := Lib.hid (by rw [hbody, join3]; simp [bodyT, Cx.cn, hk, HTX.out])
      have hln : Lib.lens [termT c.l.data.toList, [105, 110], formatRx c.xk c.xl c.xa] <= 1048576 := by rw [lens3]; have := termT_le (l := c.l.data.toList) (by simpa using hsl); simp only [List.length_cons, List.length_nil]; omega
      have hjl : (Lib.join [termT c.l.data.toList, [105, 110], formatRx c.xk c.xl c.xa] [32]).length <= 1048576 := by
        rw [join3]
        have := hln
        rw [lens3] at this
        have hq : Lib.lens [termT c.l.data.toList, [105, 110], formatRx c.xk c.xl c.xa] <= 200 := by rw [lens3]; have := termT_le (l := c.l.data.toList) (by simpa using hsl); simp only [List.length_cons, List.length_nil]; omega
        rw [lens3] at hq
        simp only [List.length_append, List.length_cons, List.length_nil] at hq ⊢
        omega
      have HJN := Lib.hid (joined_yes hjl)
      have HLN := Lib.hid hln
      clear hln hjl hbody hfl tx
      have HA : Hid (∀ s, formArr s c.k.toNat = #[.int .i64 3, .string ⟨#[105, 110]⟩, .func (.func 106) #[] #[], .func (.func 107) #[] #[], .func (.func 108) #[] #[], .func (.func 109) #[] #[]]) := Lib.hid (λ s => by rw [hk]; rfl)
      clear hk
      go_enter Tryz.func13, Tryz.ntmps13
      go_wp2_with fail
      rw [<- HWE.out]
      refine HFO.out.mono ?_
      rintro e w1 ⟨s, hs, hf, rfl, hb1⟩
      rw [HA.out]
      have HB1 := Lib.hid hb1
      clear hf hb1 hs c0 c1 c2 c3 c4 c5 c6 c7
      have hlt1 : w.heap.size < w1.heap.size := by have := HB1.out.size; have := HZW.out; omega
      have hne1 : w.heap.size ≠ w1.heap.size := by omega
      obtain ⟨c0, c1, c2, c3, c4, c5, c6, c7⟩ := HCX.out w1 HB1.out
      go_wp2_with fail
      obtain ⟨V, hVe⟩ : ∃ V, V = w1.alloc (.cells #[.int .i64 3, .string ⟨#[105, 110]⟩, .func (.func 106) #[] #[], .func (.func 107) #[] #[], .func (.func 108) #[] #[], .func (.func 109) #[] #[]] 75) := ⟨_, rfl⟩
      have hbV : Below w1.heap.size w1 V := by rw [hVe]; exact (Below.refl _ _).alloc (Nat.le_refl _) _
      rw [<- hVe]
      have HBV := Lib.hid (HB1.out.trans (hbV.mono HB1.out.size))
      clear hVe hbV
      refine (HPR.out V ⟨#[105, 110]⟩ HBV.out).mono ?_
      rintro e w2 ⟨v, rfl, hown, hb2⟩
      obtain ⟨g, cv, rfl, _⟩ := strRow_at (ps := [termT c.l.data.toList, [105, 110], formatRx c.xk c.xl c.xa]) hown (by simp)
      have HOW := Lib.hid hown
      have HB2 := Lib.hid (HBV.out.trans (hb2.mono HBV.out.size))
      clear hown hb2
      go_wp2_with fail
      refine (implJoin_any g cv V.heap.size [termT c.l.data.toList, [105, 110], formatRx c.xk c.xl c.xa] ⟨#[32]⟩ w2 HOW.out (by simp) HLN.out (by decide)).mono ?_
      rintro e w3 ⟨rfl, hb3⟩
      have HB3 := Lib.hid (HB2.out.trans (hb3.mono HB2.out.size))
      clear hb3
      go_wp2_with fail
      go_ret
      exact ⟨congrArg (λ z => Ending.returned (.string z)) (by rw [HJB.out]; exact congrArg strL HJN.out), HB0.out.trans (HB3.out.mono HB0.out.size)⟩
    . obtain ⟨_, _, tx, _⟩ := valid_lang HVA.out (.inr hk)
      simp only [Cx.cn] at tx
      have hfl := format_len c.xk c.xl c.xa (by have := valid_size9 tx; omega)
      have HTX := Lib.hid (show formatRx c.xk c.xl c.xa = ndTxt (c.xk, c.xl, c.xa) from if_pos tx)
      have HJB : Hid (fmtX c = Lib.join [termT c.l.data.toList, [111, 117, 116], formatRx c.xk c.xl c.xa] [32]) := Lib.hid (by rw [hbody, join3]; simp [bodyT, Cx.cn, hk, HTX.out])
      have hln : Lib.lens [termT c.l.data.toList, [111, 117, 116], formatRx c.xk c.xl c.xa] <= 1048576 := by rw [lens3]; have := termT_le (l := c.l.data.toList) (by simpa using hsl); simp only [List.length_cons, List.length_nil]; omega
      have hjl : (Lib.join [termT c.l.data.toList, [111, 117, 116], formatRx c.xk c.xl c.xa] [32]).length <= 1048576 := by
        rw [join3]
        have := hln
        rw [lens3] at this
        have hq : Lib.lens [termT c.l.data.toList, [111, 117, 116], formatRx c.xk c.xl c.xa] <= 200 := by rw [lens3]; have := termT_le (l := c.l.data.toList) (by simpa using hsl); simp only [List.length_cons, List.length_nil]; omega
        rw [lens3] at hq
        simp only [List.length_append, List.length_cons, List.length_nil] at hq ⊢
        omega
      have HJN := Lib.hid (joined_yes hjl)
      have HLN := Lib.hid hln
      clear hln hjl hbody hfl tx
      have HA : Hid (∀ s, formArr s c.k.toNat = #[.int .i64 4, .string ⟨#[111, 117, 116]⟩, .func (.func 106) #[] #[], .func (.func 164) #[] #[.pointer (some ⟨s + 1, 0, none⟩)], .func (.func 108) #[] #[], .func (.func 109) #[] #[]]) := Lib.hid (λ s => by rw [hk]; rfl)
      clear hk
      go_enter Tryz.func13, Tryz.ntmps13
      go_wp2_with fail
      rw [<- HWE.out]
      refine HFO.out.mono ?_
      rintro e w1 ⟨s, hs, hf, rfl, hb1⟩
      rw [HA.out]
      have HB1 := Lib.hid hb1
      clear hf hb1 hs c0 c1 c2 c3 c4 c5 c6 c7
      have hlt1 : w.heap.size < w1.heap.size := by have := HB1.out.size; have := HZW.out; omega
      have hne1 : w.heap.size ≠ w1.heap.size := by omega
      obtain ⟨c0, c1, c2, c3, c4, c5, c6, c7⟩ := HCX.out w1 HB1.out
      go_wp2_with fail
      obtain ⟨V, hVe⟩ : ∃ V, V = w1.alloc (.cells #[.int .i64 4, .string ⟨#[111, 117, 116]⟩, .func (.func 106) #[] #[], .func (.func 164) #[] #[.pointer (some ⟨s + 1, 0, none⟩)], .func (.func 108) #[] #[], .func (.func 109) #[] #[]] 75) := ⟨_, rfl⟩
      have hbV : Below w1.heap.size w1 V := by rw [hVe]; exact (Below.refl _ _).alloc (Nat.le_refl _) _
      rw [<- hVe]
      have HBV := Lib.hid (HB1.out.trans (hbV.mono HB1.out.size))
      clear hVe hbV
      refine (HPR.out V ⟨#[111, 117, 116]⟩ HBV.out).mono ?_
      rintro e w2 ⟨v, rfl, hown, hb2⟩
      obtain ⟨g, cv, rfl, _⟩ := strRow_at (ps := [termT c.l.data.toList, [111, 117, 116], formatRx c.xk c.xl c.xa]) hown (by simp)
      have HOW := Lib.hid hown
      have HB2 := Lib.hid (HBV.out.trans (hb2.mono HBV.out.size))
      clear hown hb2
      go_wp2_with fail
      refine (implJoin_any g cv V.heap.size [termT c.l.data.toList, [111, 117, 116], formatRx c.xk c.xl c.xa] ⟨#[32]⟩ w2 HOW.out (by simp) HLN.out (by decide)).mono ?_
      rintro e w3 ⟨rfl, hb3⟩
      have HB3 := Lib.hid (HB2.out.trans (hb3.mono HB2.out.size))
      clear hb3
      go_wp2_with fail
      go_ret
      exact ⟨congrArg (λ z => Ending.returned (.string z)) (by rw [HJB.out]; exact congrArg strL HJN.out), HB0.out.trans (HB3.out.mono HB0.out.size)⟩
    . obtain ⟨_, _, _, ⟨na, nd, ne, hcs, ha, hd, he⟩, hb1, hb2⟩ := valid_len HVA.out hk
      simp only [Cx.cn] at hcs hb1 hb2
      have HPL := Lib.hid (λ (V : World) (hb : Below W.heap.size W V) => (partsLen_any c _ _ ⟨#[108, 101, 110]⟩ na nd ne V (HCN.out V hb) hcs ha hd he ⟨hb1, hb2⟩ (HP.out V hb)))
      have i1 := small_itoa (n := na) (by omega) (by omega)
      have i2 := small_itoa (n := nd) (by omega) (by omega)
      have i3 := small_itoa (n := ne) (by omega) (by omega)
      have i4 := small_itoa (n := c.b) (by omega) (by omega)
      have HJB : Hid (fmtX c = Lib.join [[108, 101, 110], Lib.itoa na, Lib.itoa nd, Lib.itoa ne, Lib.itoa c.b] [32]) := Lib.hid (by rw [hbody, join5]; simp [bodyT, Cx.cn, hk, hcs, numsT])
      have hln : Lib.lens [[108, 101, 110], Lib.itoa na, Lib.itoa nd, Lib.itoa ne, Lib.itoa c.b] <= 1048576 := by rw [lens5]; simp only [List.length_cons, List.length_nil]; omega
      have hjl : (Lib.join [[108, 101, 110], Lib.itoa na, Lib.itoa nd, Lib.itoa ne, Lib.itoa c.b] [32]).length <= 1048576 := by
        rw [join5]
        have := hln
        rw [lens5] at this
        have hq : Lib.lens [[108, 101, 110], Lib.itoa na, Lib.itoa nd, Lib.itoa ne, Lib.itoa c.b] <= 200 := by rw [lens5]; simp only [List.length_cons, List.length_nil]; omega
        rw [lens5] at hq
        simp only [List.length_append, List.length_cons, List.length_nil] at hq ⊢
        omega
      have HJN := Lib.hid (joined_yes hjl)
      have HLN := Lib.hid hln
      clear hln hjl hbody hcs ha hd he hb1 hb2 i1 i2 i3 i4
      have HA : Hid (∀ s, formArr s c.k.toNat = #[.int .i64 5, .string ⟨#[108, 101, 110]⟩, .func (.func 110) #[] #[], .func (.func 111) #[] #[], .func (.func 112) #[] #[], .func (.func 113) #[] #[]]) := Lib.hid (λ s => by rw [hk]; rfl)
      clear hk
      go_enter Tryz.func13, Tryz.ntmps13
      go_wp2_with fail
      rw [<- HWE.out]
      refine HFO.out.mono ?_
      rintro e w1 ⟨s, hs, hf, rfl, hb1⟩
      rw [HA.out]
      have HB1 := Lib.hid hb1
      clear hf hb1 hs c0 c1 c2 c3 c4 c5 c6 c7
      have hlt1 : w.heap.size < w1.heap.size := by have := HB1.out.size; have := HZW.out; omega
      have hne1 : w.heap.size ≠ w1.heap.size := by omega
      obtain ⟨c0, c1, c2, c3, c4, c5, c6, c7⟩ := HCX.out w1 HB1.out
      go_wp2_with fail
      obtain ⟨V, hVe⟩ : ∃ V, V = w1.alloc (.cells #[.int .i64 5, .string ⟨#[108, 101, 110]⟩, .func (.func 110) #[] #[], .func (.func 111) #[] #[], .func (.func 112) #[] #[], .func (.func 113) #[] #[]] 75) := ⟨_, rfl⟩
      have hbV : Below w1.heap.size w1 V := by rw [hVe]; exact (Below.refl _ _).alloc (Nat.le_refl _) _
      rw [<- hVe]
      have HBV := Lib.hid (HB1.out.trans (hbV.mono HB1.out.size))
      clear hVe hbV
      refine (HPL.out V HBV.out).mono ?_
      rintro e w2 ⟨v, rfl, hown, hb2⟩
      obtain ⟨g, cv, rfl, _⟩ := strRow_at (ps := [[108, 101, 110], Lib.itoa na, Lib.itoa nd, Lib.itoa ne, Lib.itoa c.b]) hown (by simp)
      have HOW := Lib.hid hown
      have HB2 := Lib.hid (HBV.out.trans (hb2.mono HBV.out.size))
      clear hown hb2
      go_wp2_with fail
      refine (implJoin_any g cv V.heap.size [[108, 101, 110], Lib.itoa na, Lib.itoa nd, Lib.itoa ne, Lib.itoa c.b] ⟨#[32]⟩ w2 HOW.out (by simp) HLN.out (by decide)).mono ?_
      rintro e w3 ⟨rfl, hb3⟩
      have HB3 := Lib.hid (HB2.out.trans (hb3.mono HB2.out.size))
      clear hb3
      go_wp2_with fail
      go_ret
      exact ⟨congrArg (λ z => Ending.returned (.string z)) (by rw [HJB.out]; exact congrArg strL HJN.out), HB0.out.trans (HB3.out.mono HB0.out.size)⟩
end Go.Proofs.YtppliiingoonlaaGreatDoor
