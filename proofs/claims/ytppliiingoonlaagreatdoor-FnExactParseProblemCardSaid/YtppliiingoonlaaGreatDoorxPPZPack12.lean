/- Texts of one proof. -/
import Derived.Test.YtppliiingoonlaaGreatDoorxPPZPack9
set_option maxRecDepth 100000
set_option maxHeartbeats 20000000
namespace Go.Proofs.YtppliiingoonlaaGreatDoor
open Go.RowKit
theorem CopyC.drew {c : Cx} {w w' : World} {e : Ending} (h : CopyC c w e w') : CopyC c w e w'.drew := by
  obtain ⟨xu, vc, rfl, ht, hb⟩ := h
  exact ⟨xu, vc, rfl, ht.mono (λ _ _ => rfl) (λ _ hg => hg), hb.drew⟩
noncomputable def rdX (k : Int) (ps : List (List UInt8)) : Cx :=
  if k = 1 \/ k = 2 then (if ps.length ≠ 3 then zeroX else ⟨k, strL (readT (ps.getD 0 [])), strL (readT (ps.getD 2 [])), 0, ⟨#[]⟩, .nil, [], 0⟩)
  else if k = 3 \/ k = 4 then (if ps.length ≠ 3 then zeroX else ⟨k, strL (readT (ps.getD 0 [])), ⟨#[]⟩, (readX (ps.getD 2 [])).1, (readX (ps.getD 2 [])).2.1, (readX (ps.getD 2 [])).2.2, [], 0⟩)
  else (if ps.length ≠ 5 then zeroX else ⟨k, ⟨#[]⟩, ⟨#[]⟩, 0, ⟨#[]⟩, .nil, [readN (ps.getD 1 []), readN (ps.getD 2 []), readN (ps.getD 3 [])], readN (ps.getD 4 [])⟩)
theorem rdX_cn (k : Int) (ps : List (List UInt8)) : (rdX k ps).cn = readC k ps := by
  unfold rdX readC
  repeat' split
  all_goals first | rfl | (simp only [Cx.cn, strL_list]; rfl)
theorem implRead_any (p : List UInt8) (s : ByteArray) (w : World) (hs : s.data.toList = p) :
    Calls Tryz.prog 163 #[.string s] w λ e w' => e = .returned (.string (strL (readT p))) /\ w' = w := by
  subst hs
  by_cases h : s.data.toList = [45]
  . have HR : Hid (strL (readT s.data.toList) = ⟨#[]⟩) := Lib.hid (by unfold readT; rw [if_pos h]; rfl)
    have e1 : (s.toList == [45]) = true := by rw [ByteArray.toList_eq, h]; rfl
    clear h
    go_enter Tryz.func163, Tryz.ntmps163
    go_wp2
    go_ret
    exact ⟨congrArg (λ z => Ending.returned (.string z)) HR.out.symm, rfl⟩
  . have HR : Hid (strL (readT s.data.toList) = s) := Lib.hid (by unfold readT; rw [if_neg h, strL_self])
    have e1 : (s.toList == [45]) = false := by rw [ByteArray.toList_eq]; exact beq_eq_false_iff_ne.2 h
    clear h
    go_enter Tryz.func163, Tryz.ntmps163
    go_wp2
    go_ret
    exact ⟨congrArg (λ z => Ending.returned (.string z)) HR.out.symm, rfl⟩
theorem readTerms_any (k : Int) (hk : k = 1 \/ k = 2) (ps : List (List UInt8)) (v : Value) (B : Nat) (w : World) (hown : w.ownsRow B 9 1 v ps.length (strs ps)) (hn : 1 <= ps.length) (hn2 : ps.length <= 1048577) (hz : ∀ p ∈ ps, p.length <= 1048576) :
    Calls Tryz.prog 104 #[.int .i64 k, v] w (CopyC (rdX k ps) w) := by
  obtain ⟨g, c, rfl, hg, hc⟩ := strRow_at hown hn
  by_cases h3 : ps.length = 3
  . obtain ⟨a, b, d, rfl⟩ : ∃ a b d, ps = [a, b, d] := by
      match ps, h3 with
      | [a, b, d], _ => exact ⟨a, b, d, rfl⟩
    obtain ⟨pa, hpa⟩ : ∃ pa : ByteArray, pa = ⟨a.toArray⟩ := ⟨_, rfl⟩
    obtain ⟨pd, hpd⟩ : ∃ pd : ByteArray, pd = ⟨d.toArray⟩ := ⟨_, rfl⟩
    have c00 := hc 0 (by simp)
    have c02 := hc 2 (by simp)
    simp only [List.getElem_cons_succ, List.getElem_cons_zero] at c00 c02
    rw [<- hpa] at c00
    rw [<- hpd] at c02
    have HRa := Lib.hid (λ V => implRead_any a pa V (by rw [hpa]))
    have HRd := Lib.hid (λ V => implRead_any d pd V (by rw [hpd]))
    have hza : a.length <= maxI := Nat.le_trans (hz a (by simp)) (by decide)
    have hzd : d.length <= maxI := Nat.le_trans (hz d (by simp)) (by decide)
    obtain ⟨la, hla⟩ : ∃ la, la = strL (readT a) := ⟨_, rfl⟩
    obtain ⟨ld, hld⟩ : ∃ ld, ld = strL (readT d) := ⟨_, rfl⟩
    rw [<- hla] at HRa
    rw [<- hld] at HRd
    have hsa : la.size <= maxI := by rw [hla, strL_size]; exact Nat.le_trans (readT_le a) hza
    have hsd : ld.size <= maxI := by rw [hld, strL_size]; exact Nat.le_trans (readT_le d) hzd
    have HR := Lib.hid (show rdX k [a, b, d] = ⟨k, la, ld, 0, ⟨#[]⟩, .nil, [], 0⟩ by unfold rdX; rw [if_pos hk, if_neg (by simp), hla, hld]; rfl)
    have hlt0 : (0 : Int) < 3 := by omega
    have hlt2 : (2 : Int) < 3 := by omega
    obtain ⟨W, hW⟩ : ∃ W, W = w.alloc (.cells #[.int .i64 0, .string ⟨#[]⟩, .string ⟨#[]⟩, .int .i64 0, .string ⟨#[]⟩, .slice none 0 0, .slice none 0 0, .int .i64 0] 29) := ⟨_, rfl⟩
    have hbW : Below w.heap.size w W := by rw [hW]; exact (Below.refl _ _).alloc (Nat.le_refl _) _
    have hrb : W.heap[w.heap.size]? = some (.cells (cxA zeroX (.slice none 0 0) (.slice none 0 0)) 29 (0, 0)) := by rw [hW]; exact heap_alloc_new w _
    replace c00 := (hbW.cell hg).trans c00
    replace c02 := (hbW.cell hg).trans c02
    obtain ⟨r0, r1, r2, r3, r4, r5, r6, r7⟩ := BoxC.cells (c := zeroX) ⟨_, hrb⟩
    have fr := BoxC.frozen (c := zeroX) ⟨_, hrb⟩
    have f00 := fr 0
    have f01 := fr 1
    have f02 := fr 2
    have f03 := fr 3
    have f04 := fr 4
    have f05 := fr 5
    have f06 := fr 6
    have f07 := fr 7
    have HWE := Lib.hid hW
    have HBW := Lib.hid hbW
    have HRB := Lib.hid hrb
    clear hown hc hz h3 hpa hpd hla hld hn hn2 hza hzd hk hg hW hbW hrb fr
    go_enter Tryz.func104, Tryz.ntmps104
    go_wp2_with fail
    rw [<- HWE.out]
    refine wp_region_still_tail 10 (by kernel_rfl) (by kernel_rfl) ?_
    simp only [List.take_succ_cons, List.take_zero, List.drop_succ_cons, List.drop_zero]
    iterate 4 still_step
    still_call HRa.out _
    iterate 3 still_step
    still_call HRd.out _
    still_step
    refine wpStill_nil ?_
    go_wp2_with fail
    obtain ⟨⟨k0, k1, k2, k3, k4, k5, k6, k7⟩, hcp⟩ := copyC_end (w := w) (c := ⟨k, la, ld, 0, ⟨#[]⟩, .nil, [], 0⟩) HRB.out rfl (CnT.leaf W _ none none 0 0 _ hsa hsd (Nat.zero_le _) rfl rfl) HBW.out
    unfold put8 at k0 k1 k2 k3 k4 k5 k6 k7 hcp
    refine bodyPost_ret (v := .agg #[.int .i64 k, .string la, .string ld, .int .i64 0, .string ⟨#[]⟩, .slice none 0 0, .slice none 0 0, .int .i64 0]) (by simp [results, Tryz.results104, go_sem, k0, k1, k2, k3, k4, k5, k6, k7]) rfl ?_
    rw [HR.out]
    exact hcp.drew
  . have HR := Lib.hid (show rdX k ps = zeroX by unfold rdX; rw [if_pos hk, if_pos h3])
    have hni : ¬ ((ps.length : Int) = 3) := by omega
    clear hown hc hz h3 hn hn2 hk
    go_enter Tryz.func104, Tryz.ntmps104
    go_wp2_with fail
    refine bodyPost_ret (v := .agg #[.int .i64 0, .string ⟨#[]⟩, .string ⟨#[]⟩, .int .i64 0, .string ⟨#[]⟩, .slice none 0 0, .slice none 0 0, .int .i64 0]) (by simp [results, Tryz.results104, go_sem]) rfl ?_
    rw [HR.out]
    exact zero_end w _
theorem readRegex_any (k : Int) (hk : k = 3 \/ k = 4) (ps : List (List UInt8)) (v : Value) (B : Nat) (w : World) (hown : w.ownsRow B 9 1 v ps.length (strs ps)) (hn : 1 <= ps.length) (hn2 : ps.length <= 1048577) (hz : ∀ p ∈ ps, p.length <= 1048576) :
    Calls Tryz.prog 109 #[.int .i64 k, v] w (CopyC (rdX k ps) w) := by
  obtain ⟨g, c, rfl, hg, hc⟩ := strRow_at hown hn
  by_cases h3 : ps.length = 3
  . obtain ⟨a, b, d, rfl⟩ : ∃ a b d, ps = [a, b, d] := by
      match ps, h3 with
      | [a, b, d], _ => exact ⟨a, b, d, rfl⟩
    obtain ⟨pa, hpa⟩ : ∃ pa : ByteArray, pa = ⟨a.toArray⟩ := ⟨_, rfl⟩
    obtain ⟨pd, hpd⟩ : ∃ pd : ByteArray, pd = ⟨d.toArray⟩ := ⟨_, rfl⟩
    have c00 := hc 0 (by simp)
    have c02 := hc 2 (by simp)
    simp only [List.getElem_cons_succ, List.getElem_cons_zero] at c00 c02
    rw [<- hpa] at c00
    rw [<- hpd] at c02
    have HRa := Lib.hid (λ V => implRead_any a pa V (by rw [hpa]))
    have hza : a.length <= maxI := Nat.le_trans (hz a (by simp)) (by decide)
    have hzd2 := hz d (by simp)
    have hzd : pd.size <= 1048576 := by rw [hpd]; show d.toArray.size <= _; rw [List.size_toArray]; exact hzd2
    have HX : Hid (∀ V, Calls Tryz.prog 168 #[.string pd] V (RxRead d V)) := Lib.hid (λ V => (implParse_any pd V hzd).mono λ _ _ h => by have := rx_of_pa h; rw [hpd] at this; exact this)
    obtain ⟨la, hla⟩ : ∃ la, la = strL (readT a) := ⟨_, rfl⟩
    rw [<- hla] at HRa
    have hsa : la.size <= maxI := by rw [hla, strL_size]; exact Nat.le_trans (readT_le a) hza
    obtain ⟨x, hx⟩ : ∃ x, x = readX d := ⟨_, rfl⟩
    have hsx := readX_size d hzd2
    have HR := Lib.hid (show rdX k [a, b, d] = ⟨k, la, ⟨#[]⟩, x.1, x.2.1, x.2.2, [], 0⟩ by unfold rdX; rw [if_neg (by omega), if_pos hk, if_neg (by simp), hla, hx]; rfl)
    rw [<- hx] at hsx
    have HXE := Lib.hid hx
    have hlt0 : (0 : Int) < 3 := by omega
    have hlt2 : (2 : Int) < 3 := by omega
    obtain ⟨W, hW⟩ : ∃ W, W = w.alloc (.cells #[.int .i64 0, .string ⟨#[]⟩, .string ⟨#[]⟩, .int .i64 0, .string ⟨#[]⟩, .slice none 0 0, .slice none 0 0, .int .i64 0] 29) := ⟨_, rfl⟩
    have hbW : Below w.heap.size w W := by rw [hW]; exact (Below.refl _ _).alloc (Nat.le_refl _) _
    have hrb : W.heap[w.heap.size]? = some (.cells (cxA zeroX (.slice none 0 0) (.slice none 0 0)) 29 (0, 0)) := by rw [hW]; exact heap_alloc_new w _
    replace c00 := (hbW.cell hg).trans c00
    replace c02 := (hbW.cell hg).trans c02
    have e02 := c02
    rw [hW] at e02
    have HWE := Lib.hid hW
    have HCW := Lib.hid (λ (V : World) (hb : Below W.heap.size W V) => (hb.cell (Nat.lt_of_lt_of_le hg hbW.size)).trans c00)
    have HRW := Lib.hid (λ (V : World) (hb : Below W.heap.size W V) => (hb.block w.heap.size (by rw [hW]; simp)).trans hrb)
    have HBW := Lib.hid hbW
    have HRB := Lib.hid hrb
    clear hown hc hz h3 hpa hpd hla hn hn2 hza hzd hzd2 hk hg hW hbW hrb hx
    go_enter Tryz.func109, Tryz.ntmps109
    go_wp2_with fail
    rw [<- HWE.out]
    refine (HX.out _).mono ?_
    rintro e w1 ⟨A, m, ok, rfl, ht, hb1⟩
    rw [<- HXE.out] at ht ⊢
    have HB1 := Lib.hid hb1
    have HT1 := Lib.hid ht
    clear hb1 ht e02
    go_wp2_with fail
    obtain ⟨W2, hW2⟩ : ∃ W2, W2 = w1.alloc (.cells #[.int .i64 x.1, .string x.2.1, .slice A x.2.2.items.length m] 26) := ⟨_, rfl⟩
    rw [<- hW2]
    have hb12 : Below w1.heap.size w1 W2 := by rw [hW2]; exact (Below.refl _ _).alloc (Nat.le_refl _) _
    have hbW2 := HB1.out.trans (hb12.mono HB1.out.size)
    have hx2 : W2.heap[w1.heap.size]? = some (.cells #[.int .i64 x.1, .string x.2.1, .slice A x.2.2.items.length m] 26) := by rw [hW2]; exact heap_alloc_new w1 _
    have x0 := cell_of_row W2 w1.heap.size 0 _ _ (0, 0) hx2
    have x1 := cell_of_row W2 w1.heap.size 1 _ _ (0, 0) hx2
    have x2 := cell_of_row W2 w1.heap.size 2 _ _ (0, 0) hx2
    have c00 := HCW.out W2 hbW2
    have hrb1 := HRW.out W2 hbW2
    obtain ⟨r0, r1, r2, r3, r4, r5, r6, r7⟩ := BoxC.cells (c := zeroX) ⟨_, hrb1⟩
    have fr := BoxC.frozen (c := zeroX) ⟨_, hrb1⟩
    have f00 := fr 0
    have f01 := fr 1
    have f02 := fr 2
    have f03 := fr 3
    have f04 := fr 4
    have f05 := fr 5
    have f06 := fr 6
    have f07 := fr 7
    have HRB := Lib.hid hrb1
    have HBX := Lib.hid (HBW.out.trans (hbW2.mono HBW.out.size))
    have hcn : CnT W2 (λ h => w.heap.size < h /\ h < W2.heap.size) (.slice A x.2.2.items.length m) (.slice none 0 0) ⟨k, la, ⟨#[]⟩, x.1, x.2.1, x.2.2, [], 0⟩ :=
      CnT.tree hsa (Nat.zero_le _) hsx.1 (HT1.out.mono (λ g' hg' => hb12.block g' hg'.2) (λ g' hg' => hg')) (λ g' hg' => ⟨by have h1 := hg'.1; rw [HWE.out] at h1; simp at h1; omega, by have h1 := hg'.2; have h2 := hb12.size; omega⟩) rfl
    have HCN := Lib.hid hcn
    clear hW2 hb12 hbW2 hx2 hrb1 fr hcn
    refine wp_region_still_tail 7 (by kernel_rfl) (by kernel_rfl) ?_
    simp only [List.take_succ_cons, List.take_zero, List.drop_succ_cons, List.drop_zero]
    iterate 4 still_step
    still_call HRa.out _
    iterate 2 still_step
    refine wpStill_nil ?_
    go_wp2_with fail
    obtain ⟨⟨k0, k1, k2, k3, k4, k5, k6, k7⟩, hcp⟩ := copyC_end (w := w) (c := ⟨k, la, ⟨#[]⟩, x.1, x.2.1, x.2.2, [], 0⟩) HRB.out rfl HCN.out HBX.out
    unfold put8 at k0 k1 k2 k3 k4 k5 k6 k7 hcp
    refine bodyPost_ret (v := .agg #[.int .i64 k, .string la, .string ⟨#[]⟩, .int .i64 x.1, .string x.2.1, .slice A x.2.2.items.length m, .slice none 0 0, .int .i64 0]) (by simp [results, Tryz.results109, go_sem, k0, k1, k2, k3, k4, k5, k6, k7]) rfl ?_
    rw [HR.out]
    exact hcp.drew
  . have HR := Lib.hid (show rdX k ps = zeroX by unfold rdX; rw [if_neg (by omega), if_pos hk, if_pos h3])
    have hni : ¬ ((ps.length : Int) = 3) := by omega
    clear hown hc hz h3 hn hn2 hk
    go_enter Tryz.func109, Tryz.ntmps109
    go_wp2_with fail
    refine bodyPost_ret (v := .agg #[.int .i64 0, .string ⟨#[]⟩, .string ⟨#[]⟩, .int .i64 0, .string ⟨#[]⟩, .slice none 0 0, .slice none 0 0, .int .i64 0]) (by simp [results, Tryz.results109, go_sem]) rfl ?_
    rw [HR.out]
    exact zero_end w _
theorem implNum_any (s : ByteArray) (w : World) (hl : Laid5 w) (hs : s.size <= 281474976710656) : Calls Tryz.prog 172 #[.string s] w (NumPost s.data.toList w) := by
  by_cases h : ∃ n : Int, -999999999999 <= n /\ n <= 999999999999 /\ s.data.toList = Lib.itoa n
  . obtain ⟨n, h0, h1, hn⟩ := h
    exact (parseInt_yes s n w hs hl hn h0 h1).mono λ _ _ ⟨he, hb⟩ => ⟨true, by rw [he, hn, readN_itoa h0 h1], hb⟩
  . refine (parseInt_no s w hs hl (λ n h0 h1 e => h ⟨n, h0, h1, e⟩)).mono λ _ _ ⟨he, hb⟩ => ⟨false, ?_, hb⟩
    rw [he]
    unfold readN
    rw [dif_neg h]
theorem readLen_any (ps : List (List UInt8)) (v : Value) (B : Nat) (w : World) (hlaid : Laid5 w) (hown : w.ownsRow B 9 1 v ps.length (strs ps)) (hn : 1 <= ps.length) (hz : ∀ p ∈ ps, p.length <= 1048576) :
    Calls Tryz.prog 113 #[.int .i64 5, v] w (CopyC (rdX 5 ps) w) := by
  obtain ⟨g, c, rfl, hg, hc⟩ := strRow_at hown hn
  by_cases h5 : ps.length = 5
  . have HC := Lib.hid (λ (V : World) (hb : Below w.heap.size w V) j (hj : j < ps.length) => (hb.cell (p := ⟨g, j, none⟩) hg).trans (hc j hj))
    have hcap : 5 <= c := by
      obtain ⟨_, h2⟩ := id hown
      rcases h2 with ⟨h2, _⟩ | ⟨g', cap, cur, he, h3, h4, h6⟩
      . cases h2
      . cases he
        omega
    have HP := Lib.hid (λ (j : Nat) (hj : j < ps.length) (V : World) (hb : Below w.heap.size w V) => implNum_any ⟨ps[j].toArray⟩ V (hlaid.below hb) (by have := hz _ (List.getElem_mem hj); show ps[j].toArray.size <= 281474976710656; rw [List.size_toArray]; omega))
    clear hown hc hz hlaid hn
    have ncap : ¬ ((c : Int) < 4) := by omega
    have pcap : (4 : Int) <= (c : Int) := by omega
    rw [h5]
    go_enter Tryz.func113, Tryz.ntmps113
    go_wp2_with fail
    obtain ⟨W1, hW1⟩ : ∃ W1, W1 = (w.alloc (.cells #[.int .i64 0, .string ⟨#[]⟩, .string ⟨#[]⟩, .int .i64 0, .string ⟨#[]⟩, .slice none 0 0, .slice none 0 0, .int .i64 0] 29)).alloc (.cells #[.int .i64 5, .string ⟨#[]⟩, .string ⟨#[]⟩, .int .i64 0, .string ⟨#[]⟩, .slice none 0 0, .slice none 0 0, .int .i64 0] 29) := ⟨_, rfl⟩
    rw [<- hW1]
    have hz1 : W1.heap.size = w.heap.size + 1 + 1 := by rw [hW1]; simp
    have hbw1 : Below w.heap.size w W1 := by rw [hW1]; exact ((Below.refl _ _).alloc (Nat.le_refl _) _).alloc (by simp) _
    have ho1 : OutC (w.heap.size + 1) W1 (w.heap.size + 1) ⟨5, ⟨#[]⟩, ⟨#[]⟩, 0, ⟨#[]⟩, .nil, [], 0⟩ (.slice none 0 0) (.slice none 0 0) [] := by
      refine ⟨?_, Nat.le_refl _, World.ownsRow_nil _ _ _ _⟩
      rw [hW1]
      have := heap_alloc_new (w.alloc (.cells #[.int .i64 0, .string ⟨#[]⟩, .string ⟨#[]⟩, .int .i64 0, .string ⟨#[]⟩, .slice none 0 0, .slice none 0 0, .int .i64 0] 29)) (.cells #[.int .i64 5, .string ⟨#[]⟩, .string ⟨#[]⟩, .int .i64 0, .string ⟨#[]⟩, .slice none 0 0, .slice none 0 0, .int .i64 0] 29)
      rw [World.size_alloc] at this
      exact this
    have hr1 : W1.heap[w.heap.size]? = some (.cells #[.int .i64 0, .string ⟨#[]⟩, .string ⟨#[]⟩, .int .i64 0, .string ⟨#[]⟩, .slice none 0 0, .slice none 0 0, .int .i64 0] 29) := by
      rw [hW1]
      exact (Below.heap_alloc _ _ _ (by simp)).trans (heap_alloc_new w _)
    have HO1 := Lib.hid ho1
    have HR1 := Lib.hid hr1
    have HBW1 := Lib.hid hbw1
    have HZ1 := Lib.hid hz1
    obtain ⟨i0, hi, hi0, hi1, hi2⟩ := info_parts intInfo
    clear hW1 ho1 hr1 hbw1 hz1
    go_loopw [23] (λ i wr => ∃ (k : Nat) (vr : Value), i = .int .i64 k /\ k <= 3 /\ OutC (w.heap.size + 1) wr (w.heap.size + 1) ⟨5, ⟨#[]⟩, ⟨#[]⟩, 0, ⟨#[]⟩, .nil, [], 0⟩ (.slice none 0 0) vr (((ps.drop 1).take k).map readN) /\ Below (w.heap.size + 1) W1 wr) (λ i _ => 4 - (intOf i).toNat)
    case atStart => exact ⟨0, _, rfl, Nat.zero_le _, by simpa using HO1.out, Below.refl _ _⟩
    case round =>
      obtain ⟨k, vr, rfl, hk3, ho, hb⟩ := hrel
      have HO := Lib.hid ho
      have HB := Lib.hid hb
      have hbo := HBW1.out.trans (hb.mono (by omega))
      have HBO := Lib.hid hbo
      obtain ⟨Av, cv, rfl⟩ := nr_any ho.row
      obtain ⟨l, hl⟩ : ∃ l, l = ((ps.drop 1).take k).map readN := ⟨_, rfl⟩
      rw [<- hl] at HO
      have hll : l.length <= 1048577 := by rw [hl, List.length_map, List.length_take]; omega
      have HLL := Lib.hid hl
      clear ho hb hl
      obtain ⟨b0, b1, b2, b3, b4, b5, b6, b7⟩ := HO.out.boxC.cells
      by_cases hlt : k < 3
      . have hk : k + 1 < ps.length := by omega
        have hcell := HC.out _ hbo (k + 1) hk
        have HPk := Lib.hid (HP.out (k + 1) hk _ hbo)
        obtain ⟨px, hpx⟩ : ∃ px : ByteArray, px = ⟨ps[k + 1].toArray⟩ := ⟨_, rfl⟩
        rw [<- hpx] at hcell HPk
        rw [Nat.add_comm k 1] at hcell
        have hkl : ((k : Int) < 3) := by omega
        clear hpx hbo
        go_wp2_with fail
        refine HPk.out.mono ?_
        rintro e' w2 ⟨ok, rfl, hb2⟩
        have HO2 := Lib.hid (HO.out.below hb2)
        have HB2 := Lib.hid (HB.out.trans (hb2.mono (by have := HB.out.size; have := HZ1.out; omega)))
        obtain ⟨x, hx⟩ : ∃ x, x = readN ps[k + 1] := ⟨_, rfl⟩
        have HLN := Lib.hid (show l ++ [x] = ((ps.drop 1).take (k + 1)).map readN by
          rw [HLL.out, hx, <- List.map_singleton, <- List.map_append]
          congr 1
          rw [List.take_succ_eq_append_getElem (by simp; omega)]
          simp)
        rw [<- hx]
        clear hb2 hcell b0 b1 b2 b3 b4 b5 b6 b7 hx
        obtain ⟨b0, b1, b2, b3, b4, b5, b6, b7⟩ := HO2.out.boxC.cells
        have hz2 : w.heap.size + 1 <= w2.heap.size := by have := HB2.out.size; have := HZ1.out; omega
        go_wp2_with (at_builtin; refine wpList_append_own _ rfl (.tmp 33) (.tmp 35) 27 rfl (w.heap.size + 1) 3 i0 (.int .i64 0) 1 8 Tryz.underlying27 hi hi0 hi1 hi2 rfl (by decide) _ _ _ rfl (HO2.out.row.alloc _) ⟨w2.heap.size, 0, none⟩ 1 1 [.int .i64 x] rfl rfl (cell_one_new _ _ _) (by simp [Value.oneCell']) (by unfold maxLen; omega) (by omega) (by simp; omega) ?_)
        intro v' w7 hown' hgrow _
        obtain ⟨gv, cv, rfl⟩ := nr_shape hown'
        obtain ⟨hp1, hp2, hp3, hp4⟩ := HO2.out.push hown' hgrow
        have HP1 := Lib.hid hp1
        have HP2 := Lib.hid (HB2.out.trans (((Below.refl _ _).alloc (Nat.le_refl w2.heap.size) _).mono (by have := HB2.out.size; have := HZ1.out; omega) |>.trans (hp2 _ (Nat.le_refl _))))
        obtain ⟨b0', b1', b2', b3', b4', b5', b6', b7'⟩ := hp3
        clear hown' hgrow hp1 hp2 b0 b1 b2 b3 b4 b5 b6 b7
        go_wp2_with fail
        go_roundw
        case rel => exact ⟨k + 1, _, by go_num, by omega, by rw [<- HLN.out]; exact HP1.out, HP2.out⟩
        case measure => simp [intOf]; omega
      . obtain rfl : k = 3 := by omega
        have hcell := HC.out _ hbo 4 (by omega)
        have HPk := Lib.hid (HP.out 4 (by omega))
        obtain ⟨px, hpx⟩ : ∃ px : ByteArray, px = ⟨ps[4].toArray⟩ := ⟨_, rfl⟩
        rw [<- hpx] at hcell HPk
        obtain ⟨x, hx⟩ : ∃ x, x = readN ps[4] := ⟨_, rfl⟩
        have HX : Hid (rdX 5 ps = ⟨5, ⟨#[]⟩, ⟨#[]⟩, 0, ⟨#[]⟩, .nil, l, x⟩) := Lib.hid (by
          unfold rdX
          rw [if_neg (by omega), if_neg (by omega), if_neg (by omega), HLL.out, hx]
          match ps, h5 with
          | [p0, p1, p2, p3, p4], _ => rfl)
        have HNX := Lib.hid hx
        clear hpx hx hlt hbo
        go_wp2_with fail
        refine (HPk.out wr HBO.out).mono ?_
        rintro e' w2 ⟨ok, rfl, hb2⟩
        have HO2 := Lib.hid (HO.out.below hb2)
        have HB2 := Lib.hid (HB.out.trans (hb2.mono (by have := HB.out.size; have := HZ1.out; omega)))
        rw [<- HNX.out]
        clear hb2 hcell b0 b1 b2 b3 b4 b5 b6 b7
        obtain ⟨b0, b1, b2, b3, b4, b5, b6, b7⟩ := HO2.out.boxC.cells
        have hrb : w2.heap[w.heap.size]? = some (.cells (cxA zeroX (.slice none 0 0) (.slice none 0 0)) 29 (0, 0)) := (HB2.out.block w.heap.size (Nat.lt_succ_self _)).trans HR1.out
        obtain ⟨r0, r1, r2, r3, r4, r5, r6, r7⟩ := BoxC.cells (c := zeroX) ⟨_, hrb⟩
        have HRB := Lib.hid hrb
        have f7 := HO2.out.boxC.frozen 7
        have fr := BoxC.frozen (c := zeroX) ⟨_, hrb⟩
        have f00 := fr 0
        have f01 := fr 1
        have f02 := fr 2
        have f03 := fr 3
        have f04 := fr 4
        have f05 := fr 5
        have f06 := fr 6
        have f07 := fr 7
        clear hrb fr
        go_wp2_with fail
        have hX := HO2.out.row
        obtain ⟨X, hXe⟩ : ∃ X, X = w2.setCell ⟨w.heap.size + 1, 7, none⟩ (.int .i64 x) := ⟨_, rfl⟩
        have hXb : X.heap[w.heap.size]? = some (.cells (cxA zeroX (.slice none 0 0) (.slice none 0 0)) 29 (0, 0)) := by
          rw [hXe, Below.heap_setCell _ _ _ _ (by simp)]
          exact HRB.out
        have hXz : X.heap.size = w2.heap.size := by rw [hXe]; simp [World.setCell]
        have hXo : ∀ g, g ≠ w.heap.size + 1 -> X.heap[g]? = w2.heap[g]? := λ g hg => by rw [hXe, Below.heap_setCell _ _ _ _ hg]
        have hXw : Below w.heap.size w X := by
          rw [hXe]
          exact (HBW1.out.trans (HB2.out.mono (by omega))).setCell (p := ⟨w.heap.size + 1, 7, none⟩) (by simp) _
        rw [<- hXe]
        have hle : l.length <= 9223372036854775807 := by omega
        have hrow : RowO X (λ g => w.heap.size < g /\ g < X.heap.size) (.slice Av l.length cv) (ints l) := by
          refine (RowO.of_owns hX hle).mono (λ g hg => hXo g (outC_ne HO2.out HO2.out.row hg)) (λ g hg => ?_)
          have := HO2.out.row.lt g hg
          omega
        obtain ⟨⟨k0, k1, k2, k3, k4, k5, k6, k7⟩, hcp⟩ := copyC_end (w := w) (c := ⟨5, ⟨#[]⟩, ⟨#[]⟩, 0, ⟨#[]⟩, .nil, l, x⟩) (xu := .slice none 0 0) (vc := .slice Av l.length cv) hXb rfl (CnT.num (Nat.zero_le _) (Nat.zero_le _) (Nat.zero_le _) rfl hrow (λ _ h => h)) hXw
        unfold put8 at k0 k1 k2 k3 k4 k5 k6 k7 hcp
        refine bodyPost_ret (v := .agg #[.int .i64 5, .string ⟨#[]⟩, .string ⟨#[]⟩, .int .i64 0, .string ⟨#[]⟩, .slice none 0 0, .slice Av l.length cv, .int .i64 x]) (by simp [results, Tryz.results113, go_sem, k0, k1, k2, k3, k4, k5, k6, k7]) rfl ?_
        rw [HX.out]
        exact hcp
  . have HR := Lib.hid (show rdX 5 ps = zeroX by unfold rdX; rw [if_neg (by omega), if_neg (by omega), if_pos h5])
    have hni : ¬ ((ps.length : Int) = 5) := by omega
    clear hown hc hz h5 hn hlaid
    go_enter Tryz.func113, Tryz.ntmps113
    go_wp2_with fail
    refine bodyPost_ret (v := .agg #[.int .i64 0, .string ⟨#[]⟩, .string ⟨#[]⟩, .int .i64 0, .string ⟨#[]⟩, .slice none 0 0, .slice none 0 0, .int .i64 0]) (by simp [results, Tryz.results113, go_sem]) rfl ?_
    rw [HR.out]
    exact zero_end w _
end Go.Proofs.YtppliiingoonlaaGreatDoor
