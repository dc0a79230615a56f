/- Texts of one proof. -/
import Derived.Test.YtppliiingoonlaaGreatDoorxPPZPack12
import Derived.Test.YtppliiingoonlaaGreatDoorxPPZPack17
set_option maxRecDepth 100000
set_option maxHeartbeats 20000000
namespace Go.Proofs.YtppliiingoonlaaGreatDoor
open Go.RowKit
def NoForm (ps : List (List UInt8)) (s : List UInt8) (q : Int) : Prop := ¬ (validX (rdX q ps) = true /\ fmtX (rdX q ps) = s)
theorem no_form {s : List UInt8} (h1 : NoForm (spl 32 s) s 1) (h2 : NoForm (spl 32 s) s 2) (h3 : NoForm (spl 32 s) s 3) (h4 : NoForm (spl 32 s) s 4) (h5 : NoForm (spl 32 s) s 5) : ParsedX s false zeroX := .inr ⟨rfl, rfl, λ d hd e => by
  have hr : rdX d.k (spl 32 s) = d := Cx.cn_inj ((rdX_cn _ _).trans (by rw [<- e]; exact read_fmt (c := d.cn) hd))
  rcases valid_kinds (c := d.cn) hd with hk | hk | hk | hk | hk
  all_goals
    rw [show d.k = _ from hk] at hr
  . exact h1 ⟨by rw [hr]; exact hd, by rw [hr]; exact e⟩
  . exact h2 ⟨by rw [hr]; exact hd, by rw [hr]; exact e⟩
  . exact h3 ⟨by rw [hr]; exact hd, by rw [hr]; exact e⟩
  . exact h4 ⟨by rw [hr]; exact hd, by rw [hr]; exact e⟩
  . exact h5 ⟨by rw [hr]; exact hd, by rw [hr]; exact e⟩⟩
theorem rdX_size (q : Int) (ps : List (List UInt8)) (hz : ∀ p ∈ ps, p.length <= 1048576) : (rdX q ps).xa.size <= 64 := by
  have k : (readX (ps.getD 2 [])).2.2.size <= 64 := (readX_size _ (by
    rw [List.getD_eq_getElem?_getD]
    cases hp : ps[2]? with
    | none => simp
    | some x => exact hz x (List.mem_of_getElem? hp))).2
  unfold rdX
  repeat' split
  all_goals first | exact k | exact Nat.zero_le _
theorem implParseC_any (s : ByteArray) (w : World) (hs : s.size <= 1048576) (hlaid : Laid5 w) : Calls Tryz.prog 14 #[.string s] w (PcPost s.data.toList w) := by
  obtain ⟨W, hW⟩ : ∃ W, W = w.alloc (.cells #[.int .i64 0, .string ⟨#[]⟩, .string ⟨#[]⟩, .int .i64 0, .string ⟨#[]⟩, .slice none 0 0, .slice none 0 0, .int .i64 0] 29) := ⟨_, rfl⟩
  have hbW : Below w.heap.size w W := by rw [hW]; exact (Below.refl _ _).alloc (Nat.le_refl _) _
  have hzW : W.heap.size = w.heap.size + 1 := by rw [hW]; simp
  have hrW : W.heap[w.heap.size]? = some (.cells (cxA zeroX (.slice none 0 0) (.slice none 0 0)) 29 (0, 0)) := by rw [hW]; exact heap_alloc_new w _
  have HSP := Lib.hid (implSplit_any s 32 W (by omega))
  obtain ⟨ps, hps⟩ : ∃ ps, ps = spl 32 s.data.toList := ⟨_, rfl⟩
  have hz : ∀ p ∈ ps, p.length <= 1048576 := λ p hp => by
    rw [hps] at hp
    have := spl_part 32 _ p hp
    rw [show s.data.toList.length = s.size by simp] at this
    omega
  have hn : 1 <= ps.length := by
    rw [hps]
    have := spl_ne 32 s.data.toList
    cases hq : spl 32 s.data.toList with
    | nil => exact absurd hq this
    | cons _ _ => simp
  have hn2 : ps.length <= 1048577 := by
    rw [hps]
    have := spl_length 32 s.data.toList
    rw [show s.data.toList.length = s.size by simp] at this
    omega
  have HL := Lib.hid (λ (V : World) (hb : Below W.heap.size W V) => hlaid.below (hbW.trans (hb.mono hbW.size)))
  have HNF := Lib.hid (λ h1 h2 h3 h4 h5 => no_form (s := s.data.toList) (by rw [<- hps]; exact h1) (by rw [<- hps]; exact h2) (by rw [<- hps]; exact h3) (by rw [<- hps]; exact h4) (by rw [<- hps]; exact h5))
  have HSZ := Lib.hid (λ q => rdX_size q ps hz)
  have HR1 := Lib.hid (λ v B V h => readTerms_any 1 (.inl rfl) ps v B V h hn hn2 hz)
  have HR2 := Lib.hid (λ v B V h => readTerms_any 2 (.inr rfl) ps v B V h hn hn2 hz)
  have HR3 := Lib.hid (λ v B V h => readRegex_any 3 (.inl rfl) ps v B V h hn hn2 hz)
  have HR4 := Lib.hid (λ v B V h => readRegex_any 4 (.inr rfl) ps v B V h hn hn2 hz)
  have HR5 := Lib.hid (λ v B V h (hl : Laid5 V) => readLen_any ps v B V hl h hn hz)
  rw [<- hps] at HSP
  have HWE := Lib.hid hW
  have HBW := Lib.hid hbW
  have HZW := Lib.hid hzW
  have HRW := Lib.hid hrW
  clear hW hbW hzW hrW hps hz hn hn2 hlaid hs
  go_enter Tryz.func14, Tryz.ntmps14
  go_wp2_with fail
  rw [<- HWE.out]
  refine HSP.out.mono ?_
  rintro e w0 ⟨v, rfl, hown, hb0⟩
  have HB0 := Lib.hid hb0
  have HOW := Lib.hid hown
  clear hb0 hown
  go_wp2_with fail
  refine (forms_any w0).mono ?_
  rintro e w1 ⟨rfl, hf1, hb1⟩
  have HF1 := Lib.hid hf1
  have HB1 := Lib.hid (HB0.out.trans (hb1.mono HB0.out.size))
  have HB01 := Lib.hid hb1
  clear hf1 hb1
  go_wp2_with fail
  go_loopw [12] (λ i wr => ∃ j : Nat, j <= 5 /\ (i = .int .i64 0 /\ j = 0 \/ i = .int .i64 1 /\ j = 1 \/ i = .int .i64 2 /\ j = 2 \/ i = .int .i64 3 /\ j = 3 \/ i = .int .i64 4 /\ j = 4 \/ i = .int .i64 5 /\ j = 5) /\ (∀ q : Nat, 1 <= q -> q <= j -> NoForm ps s.data.toList (q : Int)) /\ Below w1.heap.size w1 wr) (λ i _ => 5 - (intOf i).toNat)
  case atStart => exact ⟨0, Nat.zero_le _, Or.inl ⟨rfl, rfl⟩, λ q h1 h2 => by omega, Below.refl _ _⟩
  case round =>
    obtain ⟨j, hj, hij, hno, hb⟩ := hrel
    have HB := Lib.hid hb
    have HNO := Lib.hid hno
    have HBV := Lib.hid (HB1.out.trans (hb.mono HB1.out.size))
    have hF := HF1.out.below hb
    have hown : wr.ownsRow W.heap.size 9 1 v ps.length (strs ps) := owns_below HOW.out (HB01.out.trans (hb.mono HB01.out.size))
    have HOR := Lib.hid hown
    clear hno hb hown
    rcases hij with ⟨rfl, rfl⟩ | ⟨rfl, rfl⟩ | ⟨rfl, rfl⟩ | ⟨rfl, rfl⟩ | ⟨rfl, rfl⟩ | ⟨rfl, rfl⟩
    . have f0 := hF.cell 0
      have f1 := hF.cell 1
      have f2 := hF.cell 2
      have f3 := hF.cell 3
      have f4 := hF.cell 4
      have f5 := hF.cell 5
      simp only [List.getElem?_toArray, List.getElem?_cons_succ, List.getElem?_cons_zero] at f0 f1 f2 f3 f4 f5
      clear hF
      have hv := HOR.out.alloc (.cells #[.int .i64 1, .string ⟨#[61]⟩, .func (.func 101) #[] #[], .func (.func 102) #[] #[], .func (.func 103) #[] #[], .func (.func 104) #[] #[]] 75)
      have HRD := Lib.hid (HR1.out v W.heap.size (wr.alloc (.cells #[.int .i64 1, .string ⟨#[61]⟩, .func (.func 101) #[] #[], .func (.func 102) #[] #[], .func (.func 103) #[] #[], .func (.func 104) #[] #[]] 75)) hv)
      have hsz := HSZ.out 1
      obtain ⟨c, hc⟩ : ∃ c, c = rdX 1 ps := ⟨_, rfl⟩
      rw [<- hc] at HRD hsz
      have HSC := Lib.hid hsz
      have HCE := Lib.hid hc
      clear hc hsz hv
      go_wp2_with fail
      refine HRD.out.mono ?_
      rintro e w2 hp
      obtain ⟨A, m, B, r, rfl, ht, hb2⟩ := hp.shape
      have hbr2 : Below wr.heap.size wr w2 := ((Below.refl _ _).alloc (Nat.le_refl _) _).trans (hb2.mono (by simp))
      have HBR2 := Lib.hid hbr2
      have HB2 := Lib.hid (HBV.out.trans (hbr2.mono HBV.out.size))
      have HT := Lib.hid ht
      have HCO := Lib.hid (ht.con.kept (w' := w2.alloc (.cells #[.int .i64 c.k, .string c.l, .string c.r, .int .i64 c.xk, .string c.xl, .slice A c.xa.items.length m, .slice B c.cs.length r, .int .i64 c.b] 29)) ((Below.refl _ _).alloc (Nat.le_refl _) _))
      have hz2 : w.heap.size + 1 <= w2.heap.size := by have := HZW.out; have := HB2.out.size; omega
      have HLW := Lib.hid (show w.heap.size < wr.heap.size by have := HZW.out; have := HBV.out.size; omega)
      clear hp ht hb2 hbr2 f0 f1 f2 f3 f4 f5
      go_wp2_with fail
      obtain ⟨W3, hW3⟩ : ∃ W3, W3 = w2.alloc (.cells #[.int .i64 c.k, .string c.l, .string c.r, .int .i64 c.xk, .string c.xl, .slice A c.xa.items.length m, .slice B c.cs.length r, .int .i64 c.b] 29) := ⟨_, rfl⟩
      have hbx3 : BoxC W3 w2.heap.size c (.slice A c.xa.items.length m) (.slice B c.cs.length r) := by rw [hW3]; exact boxC_new w2 c _ _ _
      have hb23 : Below w2.heap.size w2 W3 := by rw [hW3]; exact (Below.refl _ _).alloc (Nat.le_refl _) _
      rw [<- hW3] at HCO ⊢
      refine (implVC_any c _ _ W3 HCO.out (by have := HSC.out; omega)).mono ?_
      rintro e w4 ⟨rfl, hb4⟩
      have HB34 := Lib.hid hb4
      have HB23 := Lib.hid hb23
      have HX3 := Lib.hid (λ (V : World) (hb : Below W3.heap.size W3 V) => (hbx3.kept hb).cells)
      obtain ⟨b0, b1, b2, b3, b4, b5, b6, b7⟩ := (hbx3.kept hb4).cells
      clear hW3 hb23 hb4 hbx3
      cases hv : validX c with
      | false =>
        have hnf : NoForm ps s.data.toList ((1 : Nat) : Int) := λ h => by
          have h1 := h.1
          rw [show ((1 : Nat) : Int) = 1 from rfl, <- HCE.out, hv] at h1
          cases h1
        go_wp2_with fail
        go_roundw
        case rel => exact ⟨1, by omega, Or.inr (Or.inl ⟨rfl, rfl⟩), λ q h1 h2 => by
          rcases Nat.lt_or_ge q 1 with h | h
          . exact HNO.out q h1 (by omega)
          . obtain rfl : q = 1 := by omega
            exact hnf, HB.out.trans ((HBR2.out.trans ((HB23.out.trans (HB34.out.mono HB23.out.size)).mono HBR2.out.size)).mono HB.out.size)⟩
        case measure => simp [intOf]
      | true =>
        go_wp2_with fail
        have HLD := Lib.hid (HL.out w4 (HB2.out.trans ((HB23.out.trans (HB34.out.mono HB23.out.size)).mono HB2.out.size)))
        refine (implFmtC_any c _ _ w4 (HCO.out.kept HB34.out) (by have := HSC.out; omega) HLD.out.1).mono ?_
        rintro e w5 ⟨rfl, hb5⟩
        have HB35 := Lib.hid (HB34.out.trans (hb5.mono HB34.out.size))
        have HB25 := Lib.hid (HB23.out.trans (HB35.out.mono HB23.out.size))
        obtain ⟨ft, hft⟩ : ∃ ft, ft = strL (fmtX c) := ⟨_, rfl⟩
        have hfl : ft.toList = fmtX c := by rw [ByteArray.toList_eq, hft, strL_list]
        have HFL := Lib.hid hfl
        rw [<- hft]
        clear hft hfl hb5 b0 b1 b2 b3 b4 b5 b6 b7
        by_cases hq : ft.toList = s.toList
        . have hq1 : (ft.toList == s.toList) = true := by rw [hq]; exact beq_self_eq_true _
          have HEQ := Lib.hid (show fmtX c = s.data.toList by rw [<- HFL.out, hq, ByteArray.toList_eq])
          have HVT := Lib.hid hv
          have HB5 := Lib.hid (HB2.out.trans (HB25.out.mono HB2.out.size))
          have HT5 := Lib.hid (HT.out.kept (w' := w5) (λ g hg => hg.2) HB25.out)
          have hz25 : w2.heap.size <= w5.heap.size := HB25.out.size
          obtain ⟨b0, b1, b2, b3, b4, b5, b6, b7⟩ := HX3.out w5 HB35.out
          have hrb := (HB5.out.block w.heap.size (by have := HZW.out; omega)).trans HRW.out
          obtain ⟨r0, r1, r2, r3, r4, r5, r6, r7⟩ := BoxC.cells (c := zeroX) ⟨_, hrb⟩
          have fr := BoxC.frozen (c := zeroX) ⟨_, hrb⟩
          have hlt : w.heap.size < w5.heap.size := by omega
          have hne : w2.heap.size ≠ w.heap.size := by omega
          have HRB := Lib.hid hrb
          have f00 := fr 0
          have f01 := fr 1
          have f02 := fr 2
          have f03 := fr 3
          have f04 := fr 4
          have f05 := fr 5
          have f06 := fr 6
          have f07 := fr 7
          clear hrb fr hq hv
          go_wp2_with fail
          obtain ⟨⟨k0, k1, k2, k3, k4, k5, k6, k7⟩, hcp⟩ := copyCB_end (w := w) (c := c) (b := true) HRB.out rfl (HT5.out.mono (λ _ _ => rfl) (λ g hg => ⟨by have := hg.1; simp at this; have := HLW.out; omega, Nat.lt_of_lt_of_le hg.2 hz25⟩)) (HBW.out.trans (HB5.out.mono HBW.out.size))
          unfold put8 at k0 k1 k2 k3 k4 k5 k6 k7 hcp
          exact bodyPost_ret (v := .tuple #[.agg #[.int .i64 c.k, .string c.l, .string c.r, .int .i64 c.xk, .string c.xl, .slice A c.xa.items.length m, .slice B c.cs.length r, .int .i64 c.b], .bool true]) (by simp [results, Tryz.results14, go_sem, k0, k1, k2, k3, k4, k5, k6, k7]) rfl ⟨true, c, hcp, .inl ⟨rfl, HVT.out, HEQ.out⟩⟩
        . have hq1 : (ft.toList == s.toList) = false := beq_eq_false_iff_ne.2 hq
          have hnf : NoForm ps s.data.toList ((1 : Nat) : Int) := λ h => by
            have h1 := h.2
            rw [show ((1 : Nat) : Int) = 1 from rfl, <- HCE.out, <- HFL.out, <- ByteArray.toList_eq] at h1
            exact hq h1
          go_wp2_with fail
          go_roundw
          case rel => exact ⟨1, by omega, Or.inr (Or.inl ⟨rfl, rfl⟩), λ q h1 h2 => by
            rcases Nat.lt_or_ge q 1 with h | h
            . exact HNO.out q h1 (by omega)
            . obtain rfl : q = 1 := by omega
              exact hnf, HB.out.trans ((HBR2.out.trans (HB25.out.mono HBR2.out.size)).mono HB.out.size)⟩
          case measure => simp [intOf]
    . have f0 := hF.cell 6
      have f1 := hF.cell 7
      have f2 := hF.cell 8
      have f3 := hF.cell 9
      have f4 := hF.cell 10
      have f5 := hF.cell 11
      simp only [List.getElem?_toArray, List.getElem?_cons_succ, List.getElem?_cons_zero] at f0 f1 f2 f3 f4 f5
      clear hF
      have hv := HOR.out.alloc (.cells #[.int .i64 2, .string ⟨#[33, 61]⟩, .func (.func 101) #[] #[], .func (.func 164) #[] #[.pointer (some ⟨w0.heap.size, 0, none⟩)], .func (.func 103) #[] #[], .func (.func 104) #[] #[]] 75)
      have HRD := Lib.hid (HR2.out v W.heap.size (wr.alloc (.cells #[.int .i64 2, .string ⟨#[33, 61]⟩, .func (.func 101) #[] #[], .func (.func 164) #[] #[.pointer (some ⟨w0.heap.size, 0, none⟩)], .func (.func 103) #[] #[], .func (.func 104) #[] #[]] 75)) hv)
      have hsz := HSZ.out 2
      obtain ⟨c, hc⟩ : ∃ c, c = rdX 2 ps := ⟨_, rfl⟩
      rw [<- hc] at HRD hsz
      have HSC := Lib.hid hsz
      have HCE := Lib.hid hc
      clear hc hsz hv
      go_wp2_with fail
      refine HRD.out.mono ?_
      rintro e w2 hp
      obtain ⟨A, m, B, r, rfl, ht, hb2⟩ := hp.shape
      have hbr2 : Below wr.heap.size wr w2 := ((Below.refl _ _).alloc (Nat.le_refl _) _).trans (hb2.mono (by simp))
      have HBR2 := Lib.hid hbr2
      have HB2 := Lib.hid (HBV.out.trans (hbr2.mono HBV.out.size))
      have HT := Lib.hid ht
      have HCO := Lib.hid (ht.con.kept (w' := w2.alloc (.cells #[.int .i64 c.k, .string c.l, .string c.r, .int .i64 c.xk, .string c.xl, .slice A c.xa.items.length m, .slice B c.cs.length r, .int .i64 c.b] 29)) ((Below.refl _ _).alloc (Nat.le_refl _) _))
      have hz2 : w.heap.size + 1 <= w2.heap.size := by have := HZW.out; have := HB2.out.size; omega
      have HLW := Lib.hid (show w.heap.size < wr.heap.size by have := HZW.out; have := HBV.out.size; omega)
      clear hp ht hb2 hbr2 f0 f1 f2 f3 f4 f5
      go_wp2_with fail
      obtain ⟨W3, hW3⟩ : ∃ W3, W3 = w2.alloc (.cells #[.int .i64 c.k, .string c.l, .string c.r, .int .i64 c.xk, .string c.xl, .slice A c.xa.items.length m, .slice B c.cs.length r, .int .i64 c.b] 29) := ⟨_, rfl⟩
      have hbx3 : BoxC W3 w2.heap.size c (.slice A c.xa.items.length m) (.slice B c.cs.length r) := by rw [hW3]; exact boxC_new w2 c _ _ _
      have hb23 : Below w2.heap.size w2 W3 := by rw [hW3]; exact (Below.refl _ _).alloc (Nat.le_refl _) _
      rw [<- hW3] at HCO ⊢
      refine (implVC_any c _ _ W3 HCO.out (by have := HSC.out; omega)).mono ?_
      rintro e w4 ⟨rfl, hb4⟩
      have HB34 := Lib.hid hb4
      have HB23 := Lib.hid hb23
      have HX3 := Lib.hid (λ (V : World) (hb : Below W3.heap.size W3 V) => (hbx3.kept hb).cells)
      obtain ⟨b0, b1, b2, b3, b4, b5, b6, b7⟩ := (hbx3.kept hb4).cells
      clear hW3 hb23 hb4 hbx3
      cases hv : validX c with
      | false =>
        have hnf : NoForm ps s.data.toList ((2 : Nat) : Int) := λ h => by
          have h1 := h.1
          rw [show ((2 : Nat) : Int) = 2 from rfl, <- HCE.out, hv] at h1
          cases h1
        go_wp2_with fail
        go_roundw
        case rel => exact ⟨2, by omega, Or.inr (Or.inr (Or.inl ⟨rfl, rfl⟩)), λ q h1 h2 => by
          rcases Nat.lt_or_ge q 2 with h | h
          . exact HNO.out q h1 (by omega)
          . obtain rfl : q = 2 := by omega
            exact hnf, HB.out.trans ((HBR2.out.trans ((HB23.out.trans (HB34.out.mono HB23.out.size)).mono HBR2.out.size)).mono HB.out.size)⟩
        case measure => simp [intOf]
      | true =>
        go_wp2_with fail
        have HLD := Lib.hid (HL.out w4 (HB2.out.trans ((HB23.out.trans (HB34.out.mono HB23.out.size)).mono HB2.out.size)))
        refine (implFmtC_any c _ _ w4 (HCO.out.kept HB34.out) (by have := HSC.out; omega) HLD.out.1).mono ?_
        rintro e w5 ⟨rfl, hb5⟩
        have HB35 := Lib.hid (HB34.out.trans (hb5.mono HB34.out.size))
        have HB25 := Lib.hid (HB23.out.trans (HB35.out.mono HB23.out.size))
        obtain ⟨ft, hft⟩ : ∃ ft, ft = strL (fmtX c) := ⟨_, rfl⟩
        have hfl : ft.toList = fmtX c := by rw [ByteArray.toList_eq, hft, strL_list]
        have HFL := Lib.hid hfl
        rw [<- hft]
        clear hft hfl hb5 b0 b1 b2 b3 b4 b5 b6 b7
        by_cases hq : ft.toList = s.toList
        . have hq1 : (ft.toList == s.toList) = true := by rw [hq]; exact beq_self_eq_true _
          have HEQ := Lib.hid (show fmtX c = s.data.toList by rw [<- HFL.out, hq, ByteArray.toList_eq])
          have HVT := Lib.hid hv
          have HB5 := Lib.hid (HB2.out.trans (HB25.out.mono HB2.out.size))
          have HT5 := Lib.hid (HT.out.kept (w' := w5) (λ g hg => hg.2) HB25.out)
          have hz25 : w2.heap.size <= w5.heap.size := HB25.out.size
          obtain ⟨b0, b1, b2, b3, b4, b5, b6, b7⟩ := HX3.out w5 HB35.out
          have hrb := (HB5.out.block w.heap.size (by have := HZW.out; omega)).trans HRW.out
          obtain ⟨r0, r1, r2, r3, r4, r5, r6, r7⟩ := BoxC.cells (c := zeroX) ⟨_, hrb⟩
          have fr := BoxC.frozen (c := zeroX) ⟨_, hrb⟩
          have hlt : w.heap.size < w5.heap.size := by omega
          have hne : w2.heap.size ≠ w.heap.size := by omega
          have HRB := Lib.hid hrb
          have f00 := fr 0
          have f01 := fr 1
          have f02 := fr 2
          have f03 := fr 3
          have f04 := fr 4
          have f05 := fr 5
          have f06 := fr 6
          have f07 := fr 7
          clear hrb fr hq hv
          go_wp2_with fail
          obtain ⟨⟨k0, k1, k2, k3, k4, k5, k6, k7⟩, hcp⟩ := copyCB_end (w := w) (c := c) (b := true) HRB.out rfl (HT5.out.mono (λ _ _ => rfl) (λ g hg => ⟨by have := hg.1; simp at this; have := HLW.out; omega, Nat.lt_of_lt_of_le hg.2 hz25⟩)) (HBW.out.trans (HB5.out.mono HBW.out.size))
          unfold put8 at k0 k1 k2 k3 k4 k5 k6 k7 hcp
          exact bodyPost_ret (v := .tuple #[.agg #[.int .i64 c.k, .string c.l, .string c.r, .int .i64 c.xk, .string c.xl, .slice A c.xa.items.length m, .slice B c.cs.length r, .int .i64 c.b], .bool true]) (by simp [results, Tryz.results14, go_sem, k0, k1, k2, k3, k4, k5, k6, k7]) rfl ⟨true, c, hcp, .inl ⟨rfl, HVT.out, HEQ.out⟩⟩
        . have hq1 : (ft.toList == s.toList) = false := beq_eq_false_iff_ne.2 hq
          have hnf : NoForm ps s.data.toList ((2 : Nat) : Int) := λ h => by
            have h1 := h.2
            rw [show ((2 : Nat) : Int) = 2 from rfl, <- HCE.out, <- HFL.out, <- ByteArray.toList_eq] at h1
            exact hq h1
          go_wp2_with fail
          go_roundw
          case rel => exact ⟨2, by omega, Or.inr (Or.inr (Or.inl ⟨rfl, rfl⟩)), λ q h1 h2 => by
            rcases Nat.lt_or_ge q 2 with h | h
            . exact HNO.out q h1 (by omega)
            . obtain rfl : q = 2 := by omega
              exact hnf, HB.out.trans ((HBR2.out.trans (HB25.out.mono HBR2.out.size)).mono HB.out.size)⟩
          case measure => simp [intOf]
    . have f0 := hF.cell 12
      have f1 := hF.cell 13
      have f2 := hF.cell 14
      have f3 := hF.cell 15
      have f4 := hF.cell 16
      have f5 := hF.cell 17
      simp only [List.getElem?_toArray, List.getElem?_cons_succ, List.getElem?_cons_zero] at f0 f1 f2 f3 f4 f5
      clear hF
      have hv := HOR.out.alloc (.cells #[.int .i64 3, .string ⟨#[105, 110]⟩, .func (.func 106) #[] #[], .func (.func 107) #[] #[], .func (.func 108) #[] #[], .func (.func 109) #[] #[]] 75)
      have HRD := Lib.hid (HR3.out v W.heap.size (wr.alloc (.cells #[.int .i64 3, .string ⟨#[105, 110]⟩, .func (.func 106) #[] #[], .func (.func 107) #[] #[], .func (.func 108) #[] #[], .func (.func 109) #[] #[]] 75)) hv)
      have hsz := HSZ.out 3
      obtain ⟨c, hc⟩ : ∃ c, c = rdX 3 ps := ⟨_, rfl⟩
      rw [<- hc] at HRD hsz
      have HSC := Lib.hid hsz
      have HCE := Lib.hid hc
      clear hc hsz hv
      go_wp2_with fail
      refine HRD.out.mono ?_
      rintro e w2 hp
      obtain ⟨A, m, B, r, rfl, ht, hb2⟩ := hp.shape
      have hbr2 : Below wr.heap.size wr w2 := ((Below.refl _ _).alloc (Nat.le_refl _) _).trans (hb2.mono (by simp))
      have HBR2 := Lib.hid hbr2
      have HB2 := Lib.hid (HBV.out.trans (hbr2.mono HBV.out.size))
      have HT := Lib.hid ht
      have HCO := Lib.hid (ht.con.kept (w' := w2.alloc (.cells #[.int .i64 c.k, .string c.l, .string c.r, .int .i64 c.xk, .string c.xl, .slice A c.xa.items.length m, .slice B c.cs.length r, .int .i64 c.b] 29)) ((Below.refl _ _).alloc (Nat.le_refl _) _))
      have hz2 : w.heap.size + 1 <= w2.heap.size := by have := HZW.out; have := HB2.out.size; omega
      have HLW := Lib.hid (show w.heap.size < wr.heap.size by have := HZW.out; have := HBV.out.size; omega)
      clear hp ht hb2 hbr2 f0 f1 f2 f3 f4 f5
      go_wp2_with fail
      obtain ⟨W3, hW3⟩ : ∃ W3, W3 = w2.alloc (.cells #[.int .i64 c.k, .string c.l, .string c.r, .int .i64 c.xk, .string c.xl, .slice A c.xa.items.length m, .slice B c.cs.length r, .int .i64 c.b] 29) := ⟨_, rfl⟩
      have hbx3 : BoxC W3 w2.heap.size c (.slice A c.xa.items.length m) (.slice B c.cs.length r) := by rw [hW3]; exact boxC_new w2 c _ _ _
      have hb23 : Below w2.heap.size w2 W3 := by rw [hW3]; exact (Below.refl _ _).alloc (Nat.le_refl _) _
      rw [<- hW3] at HCO ⊢
      refine (implVC_any c _ _ W3 HCO.out (by have := HSC.out; omega)).mono ?_
      rintro e w4 ⟨rfl, hb4⟩
      have HB34 := Lib.hid hb4
      have HB23 := Lib.hid hb23
      have HX3 := Lib.hid (λ (V : World) (hb : Below W3.heap.size W3 V) => (hbx3.kept hb).cells)
      obtain ⟨b0, b1, b2, b3, b4, b5, b6, b7⟩ := (hbx3.kept hb4).cells
      clear hW3 hb23 hb4 hbx3
      cases hv : validX c with
      | false =>
        have hnf : NoForm ps s.data.toList ((3 : Nat) : Int) := λ h => by
          have h1 := h.1
          rw [show ((3 : Nat) : Int) = 3 from rfl, <- HCE.out, hv] at h1
          cases h1
        go_wp2_with fail
        go_roundw
        case rel => exact ⟨3, by omega, Or.inr (Or.inr (Or.inr (Or.inl ⟨rfl, rfl⟩))), λ q h1 h2 => by
          rcases Nat.lt_or_ge q 3 with h | h
          . exact HNO.out q h1 (by omega)
          . obtain rfl : q = 3 := by omega
            exact hnf, HB.out.trans ((HBR2.out.trans ((HB23.out.trans (HB34.out.mono HB23.out.size)).mono HBR2.out.size)).mono HB.out.size)⟩
        case measure => simp [intOf]
      | true =>
        go_wp2_with fail
        have HLD := Lib.hid (HL.out w4 (HB2.out.trans ((HB23.out.trans (HB34.out.mono HB23.out.size)).mono HB2.out.size)))
        refine (implFmtC_any c _ _ w4 (HCO.out.kept HB34.out) (by have := HSC.out; omega) HLD.out.1).mono ?_
        rintro e w5 ⟨rfl, hb5⟩
        have HB35 := Lib.hid (HB34.out.trans (hb5.mono HB34.out.size))
        have HB25 := Lib.hid (HB23.out.trans (HB35.out.mono HB23.out.size))
        obtain ⟨ft, hft⟩ : ∃ ft, ft = strL (fmtX c) := ⟨_, rfl⟩
        have hfl : ft.toList = fmtX c := by rw [ByteArray.toList_eq, hft, strL_list]
        have HFL := Lib.hid hfl
        rw [<- hft]
        clear hft hfl hb5 b0 b1 b2 b3 b4 b5 b6 b7
        by_cases hq : ft.toList = s.toList
        . have hq1 : (ft.toList == s.toList) = true := by rw [hq]; exact beq_self_eq_true _
          have HEQ := Lib.hid (show fmtX c = s.data.toList by rw [<- HFL.out, hq, ByteArray.toList_eq])
          have HVT := Lib.hid hv
          have HB5 := Lib.hid (HB2.out.trans (HB25.out.mono HB2.out.size))
          have HT5 := Lib.hid (HT.out.kept (w' := w5) (λ g hg => hg.2) HB25.out)
          have hz25 : w2.heap.size <= w5.heap.size := HB25.out.size
          obtain ⟨b0, b1, b2, b3, b4, b5, b6, b7⟩ := HX3.out w5 HB35.out
          have hrb := (HB5.out.block w.heap.size (by have := HZW.out; omega)).trans HRW.out
          obtain ⟨r0, r1, r2, r3, r4, r5, r6, r7⟩ := BoxC.cells (c := zeroX) ⟨_, hrb⟩
          have fr := BoxC.frozen (c := zeroX) ⟨_, hrb⟩
          have hlt : w.heap.size < w5.heap.size := by omega
          have hne : w2.heap.size ≠ w.heap.size := by omega
          have HRB := Lib.hid hrb
          have f00 := fr 0
          have f01 := fr 1
          have f02 := fr 2
          have f03 := fr 3
          have f04 := fr 4
          have f05 := fr 5
          have f06 := fr 6
          have f07 := fr 7
          clear hrb fr hq hv
          go_wp2_with fail
          obtain ⟨⟨k0, k1, k2, k3, k4, k5, k6, k7⟩, hcp⟩ := copyCB_end (w := w) (c := c) (b := true) HRB.out rfl (HT5.out.mono (λ _ _ => rfl) (λ g hg => ⟨by have := hg.1; simp at this; have := HLW.out; omega, Nat.lt_of_lt_of_le hg.2 hz25⟩)) (HBW.out.trans (HB5.out.mono HBW.out.size))
          unfold put8 at k0 k1 k2 k3 k4 k5 k6 k7 hcp
          exact bodyPost_ret (v := .tuple #[.agg #[.int .i64 c.k, .string c.l, .string c.r, .int .i64 c.xk, .string c.xl, .slice A c.xa.items.length m, .slice B c.cs.length r, .int .i64 c.b], .bool true]) (by simp [results, Tryz.results14, go_sem, k0, k1, k2, k3, k4, k5, k6, k7]) rfl ⟨true, c, hcp, .inl ⟨rfl, HVT.out, HEQ.out⟩⟩
        . have hq1 : (ft.toList == s.toList) = false := beq_eq_false_iff_ne.2 hq
          have hnf : NoForm ps s.data.toList ((3 : Nat) : Int) := λ h => by
            have h1 := h.2
            rw [show ((3 : Nat) : Int) = 3 from rfl, <- HCE.out, <- HFL.out, <- ByteArray.toList_eq] at h1
            exact hq h1
          go_wp2_with fail
          go_roundw
          case rel => exact ⟨3, by omega, Or.inr (Or.inr (Or.inr (Or.inl ⟨rfl, rfl⟩))), λ q h1 h2 => by
            rcases Nat.lt_or_ge q 3 with h | h
            . exact HNO.out q h1 (by omega)
            . obtain rfl : q = 3 := by omega
              exact hnf, HB.out.trans ((HBR2.out.trans (HB25.out.mono HBR2.out.size)).mono HB.out.size)⟩
          case measure => simp [intOf]
    . have f0 := hF.cell 18
      have f1 := hF.cell 19
      have f2 := hF.cell 20
      have f3 := hF.cell 21
      have f4 := hF.cell 22
      have f5 := hF.cell 23
      simp only [List.getElem?_toArray, List.getElem?_cons_succ, List.getElem?_cons_zero] at f0 f1 f2 f3 f4 f5
      clear hF
      have hv := HOR.out.alloc (.cells #[.int .i64 4, .string ⟨#[111, 117, 116]⟩, .func (.func 106) #[] #[], .func (.func 164) #[] #[.pointer (some ⟨w0.heap.size + 1, 0, none⟩)], .func (.func 108) #[] #[], .func (.func 109) #[] #[]] 75)
      have HRD := Lib.hid (HR4.out v W.heap.size (wr.alloc (.cells #[.int .i64 4, .string ⟨#[111, 117, 116]⟩, .func (.func 106) #[] #[], .func (.func 164) #[] #[.pointer (some ⟨w0.heap.size + 1, 0, none⟩)], .func (.func 108) #[] #[], .func (.func 109) #[] #[]] 75)) hv)
      have hsz := HSZ.out 4
      obtain ⟨c, hc⟩ : ∃ c, c = rdX 4 ps := ⟨_, rfl⟩
      rw [<- hc] at HRD hsz
      have HSC := Lib.hid hsz
      have HCE := Lib.hid hc
      clear hc hsz hv
      go_wp2_with fail
      refine HRD.out.mono ?_
      rintro e w2 hp
      obtain ⟨A, m, B, r, rfl, ht, hb2⟩ := hp.shape
      have hbr2 : Below wr.heap.size wr w2 := ((Below.refl _ _).alloc (Nat.le_refl _) _).trans (hb2.mono (by simp))
      have HBR2 := Lib.hid hbr2
      have HB2 := Lib.hid (HBV.out.trans (hbr2.mono HBV.out.size))
      have HT := Lib.hid ht
      have HCO := Lib.hid (ht.con.kept (w' := w2.alloc (.cells #[.int .i64 c.k, .string c.l, .string c.r, .int .i64 c.xk, .string c.xl, .slice A c.xa.items.length m, .slice B c.cs.length r, .int .i64 c.b] 29)) ((Below.refl _ _).alloc (Nat.le_refl _) _))
      have hz2 : w.heap.size + 1 <= w2.heap.size := by have := HZW.out; have := HB2.out.size; omega
      have HLW := Lib.hid (show w.heap.size < wr.heap.size by have := HZW.out; have := HBV.out.size; omega)
      clear hp ht hb2 hbr2 f0 f1 f2 f3 f4 f5
      go_wp2_with fail
      obtain ⟨W3, hW3⟩ : ∃ W3, W3 = w2.alloc (.cells #[.int .i64 c.k, .string c.l, .string c.r, .int .i64 c.xk, .string c.xl, .slice A c.xa.items.length m, .slice B c.cs.length r, .int .i64 c.b] 29) := ⟨_, rfl⟩
      have hbx3 : BoxC W3 w2.heap.size c (.slice A c.xa.items.length m) (.slice B c.cs.length r) := by rw [hW3]; exact boxC_new w2 c _ _ _
      have hb23 : Below w2.heap.size w2 W3 := by rw [hW3]; exact (Below.refl _ _).alloc (Nat.le_refl _) _
      rw [<- hW3] at HCO ⊢
      refine (implVC_any c _ _ W3 HCO.out (by have := HSC.out; omega)).mono ?_
      rintro e w4 ⟨rfl, hb4⟩
      have HB34 := Lib.hid hb4
      have HB23 := Lib.hid hb23
      have HX3 := Lib.hid (λ (V : World) (hb : Below W3.heap.size W3 V) => (hbx3.kept hb).cells)
      obtain ⟨b0, b1, b2, b3, b4, b5, b6, b7⟩ := (hbx3.kept hb4).cells
      clear hW3 hb23 hb4 hbx3
      cases hv : validX c with
      | false =>
        have hnf : NoForm ps s.data.toList ((4 : Nat) : Int) := λ h => by
          have h1 := h.1
          rw [show ((4 : Nat) : Int) = 4 from rfl, <- HCE.out, hv] at h1
          cases h1
        go_wp2_with fail
        go_roundw
        case rel => exact ⟨4, by omega, Or.inr (Or.inr (Or.inr (Or.inr (Or.inl ⟨rfl, rfl⟩)))), λ q h1 h2 => by
          rcases Nat.lt_or_ge q 4 with h | h
          . exact HNO.out q h1 (by omega)
          . obtain rfl : q = 4 := by omega
            exact hnf, HB.out.trans ((HBR2.out.trans ((HB23.out.trans (HB34.out.mono HB23.out.size)).mono HBR2.out.size)).mono HB.out.size)⟩
        case measure => simp [intOf]
      | true =>
        go_wp2_with fail
        have HLD := Lib.hid (HL.out w4 (HB2.out.trans ((HB23.out.trans (HB34.out.mono HB23.out.size)).mono HB2.out.size)))
        refine (implFmtC_any c _ _ w4 (HCO.out.kept HB34.out) (by have := HSC.out; omega) HLD.out.1).mono ?_
        rintro e w5 ⟨rfl, hb5⟩
        have HB35 := Lib.hid (HB34.out.trans (hb5.mono HB34.out.size))
        have HB25 := Lib.hid (HB23.out.trans (HB35.out.mono HB23.out.size))
        obtain ⟨ft, hft⟩ : ∃ ft, ft = strL (fmtX c) := ⟨_, rfl⟩
        have hfl : ft.toList = fmtX c := by rw [ByteArray.toList_eq, hft, strL_list]
        have HFL := Lib.hid hfl
        rw [<- hft]
        clear hft hfl hb5 b0 b1 b2 b3 b4 b5 b6 b7
        by_cases hq : ft.toList = s.toList
        . have hq1 : (ft.toList == s.toList) = true := by rw [hq]; exact beq_self_eq_true _
          have HEQ := Lib.hid (show fmtX c = s.data.toList by rw [<- HFL.out, hq, ByteArray.toList_eq])
          have HVT := Lib.hid hv
          have HB5 := Lib.hid (HB2.out.trans (HB25.out.mono HB2.out.size))
          have HT5 := Lib.hid (HT.out.kept (w' := w5) (λ g hg => hg.2) HB25.out)
          have hz25 : w2.heap.size <= w5.heap.size := HB25.out.size
          obtain ⟨b0, b1, b2, b3, b4, b5, b6, b7⟩ := HX3.out w5 HB35.out
          have hrb := (HB5.out.block w.heap.size (by have := HZW.out; omega)).trans HRW.out
          obtain ⟨r0, r1, r2, r3, r4, r5, r6, r7⟩ := BoxC.cells (c := zeroX) ⟨_, hrb⟩
          have fr := BoxC.frozen (c := zeroX) ⟨_, hrb⟩
          have hlt : w.heap.size < w5.heap.size := by omega
          have hne : w2.heap.size ≠ w.heap.size := by omega
          have HRB := Lib.hid hrb
          have f00 := fr 0
          have f01 := fr 1
          have f02 := fr 2
          have f03 := fr 3
          have f04 := fr 4
          have f05 := fr 5
          have f06 := fr 6
          have f07 := fr 7
          clear hrb fr hq hv
          go_wp2_with fail
          obtain ⟨⟨k0, k1, k2, k3, k4, k5, k6, k7⟩, hcp⟩ := copyCB_end (w := w) (c := c) (b := true) HRB.out rfl (HT5.out.mono (λ _ _ => rfl) (λ g hg => ⟨by have := hg.1; simp at this; have := HLW.out; omega, Nat.lt_of_lt_of_le hg.2 hz25⟩)) (HBW.out.trans (HB5.out.mono HBW.out.size))
          unfold put8 at k0 k1 k2 k3 k4 k5 k6 k7 hcp
          exact bodyPost_ret (v := .tuple #[.agg #[.int .i64 c.k, .string c.l, .string c.r, .int .i64 c.xk, .string c.xl, .slice A c.xa.items.length m, .slice B c.cs.length r, .int .i64 c.b], .bool true]) (by simp [results, Tryz.results14, go_sem, k0, k1, k2, k3, k4, k5, k6, k7]) rfl ⟨true, c, hcp, .inl ⟨rfl, HVT.out, HEQ.out⟩⟩
        . have hq1 : (ft.toList == s.toList) = false := beq_eq_false_iff_ne.2 hq
          have hnf : NoForm ps s.data.toList ((4 : Nat) : Int) := λ h => by
            have h1 := h.2
            rw [show ((4 : Nat) : Int) = 4 from rfl, <- HCE.out, <- HFL.out, <- ByteArray.toList_eq] at h1
            exact hq h1
          go_wp2_with fail
          go_roundw
          case rel => exact ⟨4, by omega, Or.inr (Or.inr (Or.inr (Or.inr (Or.inl ⟨rfl, rfl⟩)))), λ q h1 h2 => by
            rcases Nat.lt_or_ge q 4 with h | h
            . exact HNO.out q h1 (by omega)
            . obtain rfl : q = 4 := by omega
              exact hnf, HB.out.trans ((HBR2.out.trans (HB25.out.mono HBR2.out.size)).mono HB.out.size)⟩
          case measure => simp [intOf]
    . have f0 := hF.cell 24
      have f1 := hF.cell 25
      have f2 := hF.cell 26
      have f3 := hF.cell 27
      have f4 := hF.cell 28
      have f5 := hF.cell 29
      simp only [List.getElem?_toArray, List.getElem?_cons_succ, List.getElem?_cons_zero] at f0 f1 f2 f3 f4 f5
      clear hF
      have hv := HOR.out.alloc (.cells #[.int .i64 5, .string ⟨#[108, 101, 110]⟩, .func (.func 110) #[] #[], .func (.func 111) #[] #[], .func (.func 112) #[] #[], .func (.func 113) #[] #[]] 75)
      have HRD := Lib.hid (HR5.out v W.heap.size (wr.alloc (.cells #[.int .i64 5, .string ⟨#[108, 101, 110]⟩, .func (.func 110) #[] #[], .func (.func 111) #[] #[], .func (.func 112) #[] #[], .func (.func 113) #[] #[]] 75)) hv (HL.out _ (HBV.out.alloc HBV.out.size _)))
      have hsz := HSZ.out 5
      obtain ⟨c, hc⟩ : ∃ c, c = rdX 5 ps := ⟨_, rfl⟩
      rw [<- hc] at HRD hsz
      have HSC := Lib.hid hsz
      have HCE := Lib.hid hc
      clear hc hsz hv
      go_wp2_with fail
      refine HRD.out.mono ?_
      rintro e w2 hp
      obtain ⟨A, m, B, r, rfl, ht, hb2⟩ := hp.shape
      have hbr2 : Below wr.heap.size wr w2 := ((Below.refl _ _).alloc (Nat.le_refl _) _).trans (hb2.mono (by simp))
      have HBR2 := Lib.hid hbr2
      have HB2 := Lib.hid (HBV.out.trans (hbr2.mono HBV.out.size))
      have HT := Lib.hid ht
      have HCO := Lib.hid (ht.con.kept (w' := w2.alloc (.cells #[.int .i64 c.k, .string c.l, .string c.r, .int .i64 c.xk, .string c.xl, .slice A c.xa.items.length m, .slice B c.cs.length r, .int .i64 c.b] 29)) ((Below.refl _ _).alloc (Nat.le_refl _) _))
      have hz2 : w.heap.size + 1 <= w2.heap.size := by have := HZW.out; have := HB2.out.size; omega
      have HLW := Lib.hid (show w.heap.size < wr.heap.size by have := HZW.out; have := HBV.out.size; omega)
      clear hp ht hb2 hbr2 f0 f1 f2 f3 f4 f5
      go_wp2_with fail
      obtain ⟨W3, hW3⟩ : ∃ W3, W3 = w2.alloc (.cells #[.int .i64 c.k, .string c.l, .string c.r, .int .i64 c.xk, .string c.xl, .slice A c.xa.items.length m, .slice B c.cs.length r, .int .i64 c.b] 29) := ⟨_, rfl⟩
      have hbx3 : BoxC W3 w2.heap.size c (.slice A c.xa.items.length m) (.slice B c.cs.length r) := by rw [hW3]; exact boxC_new w2 c _ _ _
      have hb23 : Below w2.heap.size w2 W3 := by rw [hW3]; exact (Below.refl _ _).alloc (Nat.le_refl _) _
      rw [<- hW3] at HCO ⊢
      refine (implVC_any c _ _ W3 HCO.out (by have := HSC.out; omega)).mono ?_
      rintro e w4 ⟨rfl, hb4⟩
      have HB34 := Lib.hid hb4
      have HB23 := Lib.hid hb23
      have HX3 := Lib.hid (λ (V : World) (hb : Below W3.heap.size W3 V) => (hbx3.kept hb).cells)
      obtain ⟨b0, b1, b2, b3, b4, b5, b6, b7⟩ := (hbx3.kept hb4).cells
      clear hW3 hb23 hb4 hbx3
      cases hv : validX c with
      | false =>
        have hnf : NoForm ps s.data.toList ((5 : Nat) : Int) := λ h => by
          have h1 := h.1
          rw [show ((5 : Nat) : Int) = 5 from rfl, <- HCE.out, hv] at h1
          cases h1
        go_wp2_with fail
        go_roundw
        case rel => exact ⟨5, by omega, Or.inr (Or.inr (Or.inr (Or.inr (Or.inr (⟨rfl, rfl⟩))))), λ q h1 h2 => by
          rcases Nat.lt_or_ge q 5 with h | h
          . exact HNO.out q h1 (by omega)
          . obtain rfl : q = 5 := by omega
            exact hnf, HB.out.trans ((HBR2.out.trans ((HB23.out.trans (HB34.out.mono HB23.out.size)).mono HBR2.out.size)).mono HB.out.size)⟩
        case measure => simp [intOf]
      | true =>
        go_wp2_with fail
        have HLD := Lib.hid (HL.out w4 (HB2.out.trans ((HB23.out.trans (HB34.out.mono HB23.out.size)).mono HB2.out.size)))
        refine (implFmtC_any c _ _ w4 (HCO.out.kept HB34.out) (by have := HSC.out; omega) HLD.out.1).mono ?_
        rintro e w5 ⟨rfl, hb5⟩
        have HB35 := Lib.hid (HB34.out.trans (hb5.mono HB34.out.size))
        have HB25 := Lib.hid (HB23.out.trans (HB35.out.mono HB23.out.size))
        obtain ⟨ft, hft⟩ : ∃ ft, ft = strL (fmtX c) := ⟨_, rfl⟩
        have hfl : ft.toList = fmtX c := by rw [ByteArray.toList_eq, hft, strL_list]
        have HFL := Lib.hid hfl
        rw [<- hft]
        clear hft hfl hb5 b0 b1 b2 b3 b4 b5 b6 b7
        by_cases hq : ft.toList = s.toList
        . have hq1 : (ft.toList == s.toList) = true := by rw [hq]; exact beq_self_eq_true _
          have HEQ := Lib.hid (show fmtX c = s.data.toList by rw [<- HFL.out, hq, ByteArray.toList_eq])
          have HVT := Lib.hid hv
          have HB5 := Lib.hid (HB2.out.trans (HB25.out.mono HB2.out.size))
          have HT5 := Lib.hid (HT.out.kept (w' := w5) (λ g hg => hg.2) HB25.out)
          have hz25 : w2.heap.size <= w5.heap.size := HB25.out.size
          obtain ⟨b0, b1, b2, b3, b4, b5, b6, b7⟩ := HX3.out w5 HB35.out
          have hrb := (HB5.out.block w.heap.size (by have := HZW.out; omega)).trans HRW.out
          obtain ⟨r0, r1, r2, r3, r4, r5, r6, r7⟩ := BoxC.cells (c := zeroX) ⟨_, hrb⟩
          have fr := BoxC.frozen (c := zeroX) ⟨_, hrb⟩
          have hlt : w.heap.size < w5.heap.size := by omega
          have hne : w2.heap.size ≠ w.heap.size := by omega
          have HRB := Lib.hid hrb
          have f00 := fr 0
          have f01 := fr 1
          have f02 := fr 2
          have f03 := fr 3
          have f04 := fr 4
          have f05 := fr 5
          have f06 := fr 6
          have f07 := fr 7
          clear hrb fr hq hv
          go_wp2_with fail
          obtain ⟨⟨k0, k1, k2, k3, k4, k5, k6, k7⟩, hcp⟩ := copyCB_end (w := w) (c := c) (b := true) HRB.out rfl (HT5.out.mono (λ _ _ => rfl) (λ g hg => ⟨by have := hg.1; simp at this; have := HLW.out; omega, Nat.lt_of_lt_of_le hg.2 hz25⟩)) (HBW.out.trans (HB5.out.mono HBW.out.size))
          unfold put8 at k0 k1 k2 k3 k4 k5 k6 k7 hcp
          exact bodyPost_ret (v := .tuple #[.agg #[.int .i64 c.k, .string c.l, .string c.r, .int .i64 c.xk, .string c.xl, .slice A c.xa.items.length m, .slice B c.cs.length r, .int .i64 c.b], .bool true]) (by simp [results, Tryz.results14, go_sem, k0, k1, k2, k3, k4, k5, k6, k7]) rfl ⟨true, c, hcp, .inl ⟨rfl, HVT.out, HEQ.out⟩⟩
        . have hq1 : (ft.toList == s.toList) = false := beq_eq_false_iff_ne.2 hq
          have hnf : NoForm ps s.data.toList ((5 : Nat) : Int) := λ h => by
            have h1 := h.2
            rw [show ((5 : Nat) : Int) = 5 from rfl, <- HCE.out, <- HFL.out, <- ByteArray.toList_eq] at h1
            exact hq h1
          go_wp2_with fail
          go_roundw
          case rel => exact ⟨5, by omega, Or.inr (Or.inr (Or.inr (Or.inr (Or.inr (⟨rfl, rfl⟩))))), λ q h1 h2 => by
            rcases Nat.lt_or_ge q 5 with h | h
            . exact HNO.out q h1 (by omega)
            . obtain rfl : q = 5 := by omega
              exact hnf, HB.out.trans ((HBR2.out.trans (HB25.out.mono HBR2.out.size)).mono HB.out.size)⟩
          case measure => simp [intOf]
    . clear hF
      have HN5 := Lib.hid (HNF.out (HNO.out 1 (by omega) (by omega)) (HNO.out 2 (by omega) (by omega)) (HNO.out 3 (by omega) (by omega)) (HNO.out 4 (by omega) (by omega)) (HNO.out 5 (by omega) (by omega)))
      have hrb := (HBV.out.block w.heap.size (by have := HZW.out; omega)).trans HRW.out
      obtain ⟨r0, r1, r2, r3, r4, r5, r6, r7⟩ := BoxC.cells (c := zeroX) ⟨_, hrb⟩
      have fr := BoxC.frozen (c := zeroX) ⟨_, hrb⟩
      have hlt : w.heap.size < wr.heap.size := by have := HZW.out; have := HBV.out.size; omega
      have HRB := Lib.hid hrb
      have f00 := fr 0
      have f01 := fr 1
      have f02 := fr 2
      have f03 := fr 3
      have f04 := fr 4
      have f05 := fr 5
      have f06 := fr 6
      have f07 := fr 7
      clear hrb fr
      go_wp2_with fail
      obtain ⟨⟨k0, k1, k2, k3, k4, k5, k6, k7⟩, hcp⟩ := copyCB_end (w := w) (c := zeroX) (b := false) HRB.out rfl (CnT.leaf wr _ none none 0 0 zeroX (Nat.zero_le _) (Nat.zero_le _) (Nat.zero_le _) rfl rfl) (HBW.out.trans (HBV.out.mono HBW.out.size))
      unfold put8 at k0 k1 k2 k3 k4 k5 k6 k7 hcp
      simp only [zeroX] at k0 k1 k2 k3 k4 k5 k6 k7
      exact bodyPost_ret (v := .tuple #[.agg #[.int .i64 0, .string ⟨#[]⟩, .string ⟨#[]⟩, .int .i64 0, .string ⟨#[]⟩, .slice none 0 0, .slice none 0 0, .int .i64 0], .bool false]) (by simp [results, Tryz.results14, go_sem, k0, k1, k2, k3, k4, k5, k6, k7]) rfl ⟨false, zeroX, hcp, HN5.out⟩
end Go.Proofs.YtppliiingoonlaaGreatDoor
