/- Texts of one proof. -/
import Derived.Test.YtiijlpmdnokjfaaDoorCountsZPack19
set_option maxRecDepth 100000
set_option maxHeartbeats 20000000
namespace Go.Proofs.YtiijlpmdnokjfaaDoor
open Go.RowKit
theorem specLen_no (va vn : Value) (d : Dx) (S : Nat -> Prop) (w : World) (h : DfaV w S va vn d) (hv : validD d = false) :
    Calls Tryd.prog 9 #[.agg #[va, vn]] w (LenPost d w) := by
  obtain ⟨W0, hW0⟩ : ∃ W0, W0 = w.alloc (.cells #[va, vn] 27) := ⟨_, rfl⟩
  have HB0 : Hid (Below w.heap.size w W0) := Lib.hid (by rw [hW0]; exact (Below.refl _ _).alloc (Nat.le_refl _) _)
  have HX : Hid (Bx2 W0 w.heap.size va vn) := Lib.hid (by
    have k := box2_kept (w := w) (w1 := W0) (a := va) (b := vn) (t := 27) (by rw [hW0]; exact Below.refl _ _)
    exact ⟨k.2.1, k.2.2.1⟩)
  have HV := Lib.hid (specValidD_any va vn d S W0 (h.kept HB0.out))
  rw [hv] at HV
  have HR : Hid (lenR d [] 0) := Lib.hid (by
    unfold lenR
    rw [if_neg (by rw [hv]; decide)]
    exact ⟨rfl, rfl⟩)
  obtain ⟨⟨A, c, rfl⟩, A', c', rfl⟩ := h.shape
  obtain ⟨c0, c1⟩ := HX.out
  rw [hW0] at c0 c1
  clear h hv
  go_enter Tryd.func9, Tryd.ntmps9
  go_wp2_with fail
  go_at_call 13
  rw [<- hW0]
  clear hW0 c0 c1
  refine HV.out.mono ?_
  rintro e w1 ⟨rfl, hb1⟩
  have HB1 := Lib.hid (HB0.out.trans (hb1.mono HB0.out.size))
  clear hb1
  go_wp2_with fail
  go_ret2
  exact ⟨_, [], 0, HR.out, by simp, rfl, World.ownsRow_made w1 #[] 0 HB1.out.size (by unfold maxLen; omega) rfl, by simp, HB1.out.alloc HB1.out.size _⟩
theorem specLen_yes (va vn : Value) (d : Dx) (S : Nat -> Prop) (w : World) (h : DfaV w S va vn d) (hv : validD d = true) :
    Calls Tryd.prog 9 #[.agg #[va, vn]] w (LenPost d w) := by
  obtain ⟨i0, hi, hz0, hz1, hz2⟩ := info_parts intInfo
  obtain ⟨b0, hbi, hb0, hb1, hb2⟩ := info_parts boolInfo
  obtain ⟨r0, hri, hr0, hr1, hr2⟩ := info_parts rowInfo
  obtain ⟨W0, hW0⟩ : ∃ W0, W0 = w.alloc (.cells #[va, vn] 27) := ⟨_, rfl⟩
  have HB0 : Hid (Below w.heap.size w W0) := Lib.hid (by rw [hW0]; exact (Below.refl _ _).alloc (Nat.le_refl _) _)
  have HX : Hid (Bx2 W0 w.heap.size va vn) := Lib.hid (by
    have k := box2_kept (w := w) (w1 := W0) (a := va) (b := vn) (t := 27) (by rw [hW0]; exact Below.refl _ _)
    exact ⟨k.2.1, k.2.2.1⟩)
  have HV := Lib.hid (specValidD_any va vn d S W0 (h.kept HB0.out))
  obtain ⟨hw, hn, hnn, hl, ad, c, ad', c', rfl, rfl, hA, hT⟩ := h.au hv
  rw [hv] at HV
  obtain ⟨c0, c1⟩ := HX.out
  rw [hW0] at c0 c1
  have HLr : Hid (∀ (o : List Bool) (p : Nat), LenR (auD d) o p -> lenR d o (p : Int)) := Lib.hid (λ o p h => by
    unfold lenR
    rw [if_pos hv]
    exact ⟨p, h, rfl⟩)
  obtain ⟨a, ha⟩ : ∃ a, a = auD d := ⟨_, rfl⟩
  rw [<- ha] at hw hn hnn hA hT HLr
  rw [<- hnn] at hW0 HX HV hA hT c0 c1 ⊢
  have HAn := Lib.hid (λ (V : World) (hV : Below w.heap.size w V) (v : Value) (s : List Nat) (S' : Nat -> Prop) (hs : ∀ q ∈ s, q < a.n) (hl : s.length <= 2000) (hr : RowV V S' v (ints (natI s))) => specAny_any ad a.n c (.slice (some ad') a.n c') a v s S' V (λ q hq => (hV.cell (cell_in (hA q hq))).trans (hA q hq)) hs hl hr)
  have HMo := Lib.hid (λ (V : World) (hV : Below w.heap.size w V) (k : Nat) (hk : k < 3) (v : Value) (s : List Nat) (S' : Nat -> Prop) (hs : ∀ q ∈ s, q < a.n) (hl : s.length <= 2000) (hr : RowV V S' v (ints (natI s))) => specMove_any (.slice (some ad) a.n c) ad' a.n c' k a v s S' V hn hk hs (λ q hq => hw.2 q k hq hk) (λ q hq => by
    obtain ⟨r, q', h1, h2⟩ := hT q hq
    exact ⟨r, q', (hV.cell (cell_in h1)).trans h1, (hV.cell (cell_in (h2 k hk))).trans (h2 k hk)⟩) hl hr)
  have HW := Lib.hid hw
  have HBd := Lib.hid (λ t h => stS_bound (t := t) hw hn h)
  have HSl := Lib.hid (λ t => stS_len hw t)
  have HSm := Lib.hid (λ t x (h : x ∈ stS a t) => stS_lt hw h)
  obtain ⟨n, hne⟩ : ∃ n, n = a.n := ⟨_, rfl⟩
  rw [<- hne] at hW0 HX HV HAn HMo hn c0 c1 HSl HSm ⊢
  have HN := Lib.hid hne
  have hszb : W0.heap.size = w.heap.size + 1 := by rw [hW0]; simp
  clear h hv ha hA hT hw hnn hl hne
  go_enter Tryd.func9, Tryd.ntmps9
  go_wp2_with fail
  go_at_call 13
  rw [<- hW0]
  clear hW0 c0 c1
  refine HV.out.mono ?_
  rintro e w1 ⟨rfl, hb1⟩
  have HB1 := Lib.hid (HB0.out.trans (hb1.mono HB0.out.size))
  have HX1 := Lib.hid (HX.out.kept hb1)
  have hwB : w.heap.size < w1.heap.size := by have := hb1.size; omega
  obtain ⟨W2, hW2⟩ : ∃ W2, W2 = ((w1.alloc (.cells #[] 4)).alloc (.cells #[] 53)).alloc (.cells #[.int .i64 0] 3) := ⟨_, rfl⟩
  have HB2 : Hid (Below w1.heap.size w1 W2) := Lib.hid (by rw [hW2]; exact (((Below.refl _ _).alloc (Nat.le_refl _) _).alloc (by simp) _).alloc (by simp; omega) _)
  have HS0 : Hid (LnS w1.heap.size a W2 (.slice (some ⟨w1.heap.size, 0, none⟩) 0 0) (.slice (some ⟨w1.heap.size + 1, 0, none⟩) 0 0) (.slice (some ⟨w1.heap.size + 2, 0, none⟩) 1 1) [] 0) := Lib.hid (by
    have h1 : (w1.alloc (.cells #[] 4)).ownsRow w1.heap.size 4 1 (.slice (some ⟨w1.heap.size, 0, none⟩) 0 0) 0 [] := World.ownsRow_made w1 #[] 0 (Nat.le_refl _) (by unfold maxLen; omega) rfl
    have h2 : ((w1.alloc (.cells #[] 4)).alloc (.cells #[] 53)).ownsRow w1.heap.size 53 1 (.slice (some ⟨w1.heap.size + 1, 0, none⟩) 0 0) 0 [] := by
      have h := World.ownsRow_made (w1.alloc (.cells #[] 4)) (e := 53) (base := w1.heap.size) (size := 1) #[] 0 (by simp) (by unfold maxLen; omega) rfl
      rw [World.size_alloc] at h
      exact h
    have h3 := IR.one ((w1.alloc (.cells #[] 4)).alloc (.cells #[] 53)) 0 (B := w1.heap.size) (by simp; omega)
    rw [World.size_alloc, World.size_alloc] at h3
    rw [<- hW2] at h3
    refine ⟨?_, ?_, rfl, λ j u hu => by simp at hu, h3, by simp, by simp, by rw [hW2]; simp; omega⟩
    . exact own_on h1 (λ q e => by
        rw [hW2]
        cases e
        rw [Below.heap_alloc _ _ _ (by simp; omega), Below.heap_alloc _ _ _ (by simp)]) (Nat.le_refl _)
    . exact own_on h2 (λ q e => by
        rw [hW2]
        cases e
        rw [Below.heap_alloc _ _ _ (by simp)]) (Nat.le_refl _))
  clear hb1 hszb
  go_wp2_with fail
  rw [<- hW2]
  clear hW2
  obtain ⟨B, hB⟩ : ∃ B, B = w1.heap.size := ⟨_, rfl⟩
  rw [<- hB] at HB2 HS0 hwB ⊢
  have HBe := Lib.hid hB
  clear hB
  go_loopw [4, 5, 6] (λ vo vs vt wr => ∃ (t : Nat) (us : List Value), Hid (LnS B a wr vo vs vt us t) /\ Hid (∀ i j, i < j -> j < t -> stS a i ≠ stS a j) /\ Hid (Below B w1 wr)) (λ _ vs _ _ => 1099511627777 - sliceLen vs)
  case atStart => exact ⟨0, [], HS0, Lib.hid (λ i j _ hj => absurd hj (Nat.not_lt_zero _)), HB2⟩
  clear HS0 HB2
  case round =>
    obtain ⟨t, us, HS, HD, HBr⟩ := hrel
    obtain ⟨wL, rfl⟩ : ∃ x, x = wr := ⟨_, rfl⟩
    have htl : t <= 1099511627776 := HBd.out t HD.out
    obtain ⟨As, cs, rfl⟩ : ∃ A c, u5 = .slice A t c := by
      rcases HS.out.seen.2 with ⟨rfl, h0⟩ | ⟨g, cap, cur, rfl, _⟩
      . exact ⟨none, 0, by rw [h0]⟩
      . exact ⟨_, _, rfl⟩
    obtain ⟨gt, ct, rfl, -, -⟩ := ir_some HS.out.set HS.out.ne
    obtain ⟨Ao, co, rfl⟩ : ∃ A c, u4 = .slice A t c := by
      rcases HS.out.out.2 with ⟨rfl, h0⟩ | ⟨g, cap, cur, rfl, _⟩
      . exact ⟨none, 0, by rw [h0]⟩
      . exact ⟨_, _, rfl⟩
    obtain ⟨nt, hnt⟩ : ∃ x, x = (natI (stS a t)).length := ⟨_, rfl⟩
    rw [<- hnt] at HS ⊢
    have HOn : Hid (Value.slice Ao t co ≠ .slice none 0 0) := Lib.hid (HS.out.one)
    have HNt : Hid (nt = (stS a t).length) := Lib.hid (by rw [hnt, natI_length])
    have hntn : nt <= n := by rw [HNt.out]; exact HSl.out t
    clear hnt
    go_wp2_with fail
    go_loopw [7] (λ iv wr => ∃ m : Nat, iv = .int .i64 m /\ m <= t /\ Hid (∀ j, j < m -> stS a j ≠ stS a t) /\ Hid (Below wL.heap.size wL wr)) (λ iv _ => t - (intOf iv).toNat)
    case atStart => exact ⟨0, rfl, Nat.zero_le _, Lib.hid (λ j hj => absurd hj (Nat.not_lt_zero _)), Lib.hid (Below.refl _ _)⟩
    case round =>
      obtain ⟨m, rfl, hm, HM, HBq⟩ := hrel
      obtain ⟨wq, rfl⟩ : ∃ x, x = wr := ⟨_, rfl⟩
      have HSq := Lib.hid (HS.out.below HBq.out)
      have HBw := Lib.hid (HBr.out.trans (HBq.out.mono HS.out.base))
      by_cases hmt : m < t
      . have hd : decide ((m : Int) < (t : Int)) = true := by simp; omega
        obtain ⟨u, hu⟩ : ∃ u, us[m]? = some u := ⟨_, List.getElem?_eq_getElem (by rw [HSq.out.len]; exact hmt)⟩
        have hml : (stS a m).length <= n := HSl.out m
        obtain ⟨-, A, q, hA2, hc⟩ := (RowO.of_owns HSq.out.seen (by omega)).row
        injection hA2 with e1 e2 e3
        subst e1
        clear e2 e3
        obtain ⟨ad1, had, -, hcu⟩ := hc m u hu
        subst had
        have HIn := Lib.hid (specInts_any u (.slice (some ⟨gt, 0, none⟩) nt ct) (natI (stS a m)) (natI (stS a t)) _ _ wq ((HSq.out.rows m u hu).nat (by omega)) (HSq.out.set.nat (by rw [<- HNt.out]; omega)))
        obtain ⟨Au, cu, rfl⟩ := row_shape ((HSq.out.rows m u hu).nat (by omega))
        obtain ⟨b, hb⟩ : ∃ b, b = decide (natI (stS a m) = natI (stS a t)) := ⟨_, rfl⟩
        rw [<- hb] at HIn
        have HBv : Hid (b = true ↔ stS a m = stS a t) := Lib.hid (by rw [hb, decide_eq_true_iff, natI_same])
        have s1 : (0 : Int) <= (m : Int) := by omega
        have s2 : (m : Int) < (t : Int) := by omega
        clear hb hc hu
        go_wp2_with fail
        go_at_call 33
        refine HIn.out.mono ?_
        rintro e w5 ⟨rfl, hb5⟩
        have HB5 := Lib.hid (HBq.out.trans (hb5.mono HBq.out.size))
        have HSr := Lib.hid (HSq.out.below hb5)
        have HBr5 := Lib.hid (HBw.out.trans (hb5.mono HSq.out.base))
        clear hb5 hcu
        cases b with
        | true =>
          have HLn : Hid (lenR d (outL a t) ((t - m : Nat) : Int)) := Lib.hid (HLr.out _ _ ⟨t, m, hmt, (HBv.out.1 rfl).symm, HD.out, rfl, rfl⟩)
          have hcast : ((t - m : Nat) : Int) = (t : Int) - (m : Int) := by omega
          have HCa := Lib.hid hcast
          clear hcast
          go_wp2_with fail
          go_ret2
          rw [<- HCa.out]
          exact ⟨_, outL a t, _, HLn.out, by rw [outL_length]; omega, rfl, by rw [outL_length]; exact own_on HSr.out.out (λ _ _ => rfl) (by rw [HBe.out]; exact HB1.out.size), HOn.out, HB1.out.trans (by have h := HBr5.out; rw [HBe.out] at h; exact h.mono HB1.out.size)⟩
        | false =>
          have HMn : Hid (∀ j, j < m + 1 -> stS a j ≠ stS a t) := Lib.hid (λ j hj => by
            rcases Nat.lt_or_eq_of_le (Nat.le_of_lt_succ hj) with h | h
            . exact HM.out j h
            . rw [h]
              exact λ e => by have := HBv.out.2 e; cases this)
          go_wp2_with fail
          go_roundw
          case rel => exact ⟨m + 1, by go_num, by omega, HMn, HB5⟩
          case measure => simp [intOf]; omega
      . have hd : decide ((m : Int) < (t : Int)) = false := by simp; omega
        have HDn : Hid (∀ i j, i < j -> j < t + 1 -> stS a i ≠ stS a j) := Lib.hid (λ i j hij hj => by
          rcases Nat.lt_or_eq_of_le (Nat.le_of_lt_succ hj) with h | h
          . exact HD.out i j hij h
          . rw [h]
            exact HM.out i (by omega))
        have htl2 : t + 1 <= 1099511627776 := HBd.out (t + 1) HDn.out
        obtain ⟨m0, rfl⟩ : ∃ x, x = m := ⟨_, rfl⟩
        clear HM HS HBr
        have hbq : B <= wq.heap.size := HSq.out.base
        go_wp2_with (at_builtin; refine wpList_append_own_at _ rfl (.tmp 36) (.tmp 38) 25 rfl B 53 r0 (.slice none 0 0) 1 24 Tryd.underlying25 hri hr0 hr1 hr2 rfl (by decide) _ _ _ rfl (HSq.out.seen.alloc _) ⟨wq.heap.size, 0, none⟩ 1 1 [.slice (some ⟨gt, 0, none⟩) nt ct] rfl rfl (cell_one_new _ _ _) (by simp [Value.oneCell']) (by unfold maxLen; omega) (by omega) (by simp; omega) ?_)
        intro v5 w5 hown5 hgrow5 hnil5 hat5
        have HM5 := Lib.hid ((HSq.out.below ((Below.refl _ _).alloc (Nat.le_refl _) (.cells #[.slice (some ⟨gt, 0, none⟩) nt ct] 53))).seen_push hown5 hgrow5)
        have HB5 := Lib.hid ((HBw.out.alloc hbq (.cells #[.slice (some ⟨gt, 0, none⟩) nt ct] 53)).grown hgrow5 (by simp; omega) (λ g e => (HSq.out.seen.lt g e).1))
        obtain ⟨g5, c5, rfl⟩ := own_succ hown5
        clear hown5 hgrow5 hnil5 hat5
        have HBx := Lib.hid (HB1.out.trans (by have h := HB5.out; rw [HBe.out] at h; exact h.mono HB1.out.size))
        have HX5 := Lib.hid (HX1.out.kept (by have h := HB5.out; rw [HBe.out] at h; exact h))
        obtain ⟨c0, c1⟩ := HX5.out
        have HAy := Lib.hid (HAn.out w5 HBx.out (.slice (some ⟨gt, 0, none⟩) nt ct) (stS a t) _ (λ q hq => HSm.out t q hq) (by rw [<- HNt.out]; omega) (HM5.out.set.rowV (by rw [<- HNt.out]; omega)))
        obtain ⟨y, hy⟩ : ∃ y, y = anyS a (stS a t) := ⟨_, rfl⟩
        rw [<- hy] at HAy
        have HY := Lib.hid hy
        clear hy
        go_wp2_with fail
        go_at_call 34
        refine HAy.out.mono ?_
        rintro e w6 ⟨rfl, hb6⟩
        have HM6 := Lib.hid (HM5.out.below hb6)
        have HB6 := Lib.hid (HB5.out.trans (hb6.mono HM5.out.base))
        clear hb6 c0 c1
        have hbq6 : B <= w6.heap.size := HM6.out.base
        go_wp2_with (at_builtin; refine wpList_append_own_at _ rfl (.tmp 40) (.tmp 44) 24 rfl B 4 b0 (.bool false) 1 1 Tryd.underlying24 hbi hb0 hb1 hb2 rfl (by decide) _ _ _ rfl (HM6.out.out.alloc _) ⟨w6.heap.size, 0, none⟩ 1 1 [.bool y] rfl rfl (cell_one_new _ _ _) (by simp [Value.oneCell']) (by unfold maxLen; omega) (by omega) (by simp; omega) ?_)
        intro v7 w7 hown7 hgrow7 hnil7 hat7
        have HO7 := Lib.hid ((HM6.out.below ((Below.refl _ _).alloc (Nat.le_refl _) (.cells #[.bool y] 4))).out_push (by rw [<- HY.out]; exact hown7) hgrow7)
        have HB7 := Lib.hid ((HB6.out.alloc hbq6 (.cells #[.bool y] 4)).grown hgrow7 (by simp; omega) (λ g e => (HM6.out.out.lt g e).1))
        have hbq7 : B <= w7.heap.size := by have := hgrow7.size; simp at this; omega
        obtain ⟨g7, c7, rfl⟩ := own_succ hown7
        clear hown7 hgrow7 hnil7 hat7
        have HUl := Lib.hid HM6.out.len
        obtain ⟨us2, hus2⟩ : ∃ x, x = us ++ [Value.slice (some ⟨gt, 0, none⟩) nt ct] := ⟨_, rfl⟩
        rw [<- hus2] at HO7 HUl
        clear hus2
        have HBx7 := Lib.hid (HB1.out.trans (by have h := HB7.out; rw [HBe.out] at h; exact h.mono HB1.out.size))
        have HX7 := Lib.hid (HX1.out.kept (by have h := HB7.out; rw [HBe.out] at h; exact h))
        have HN0 : Hid (IR (w7.alloc (.cells #[] 3)) B (.slice (some ⟨w7.heap.size, 0, none⟩) 0 0) (natI (nxK a (stS a t) 0))) := Lib.hid (IR.none w7 hbq7)
        have HBn := Lib.hid ((Below.refl w7.heap.size w7).alloc (Nat.le_refl _) (.cells #[] 3))
        obtain ⟨s, hs⟩ : ∃ s, s = stS a t := ⟨_, rfl⟩
        rw [<- hs] at HN0
        have HSe := Lib.hid hs
        have HIs : Hid (IR w7 B (.slice (some ⟨gt, 0, none⟩) nt ct) (natI s)) := Lib.hid (by rw [hs]; exact HO7.out.2.2.2)
        have HSn : Hid (∀ q ∈ s, q < n) := Lib.hid (by rw [hs]; exact λ q hq => HSm.out t q hq)
        have HSa : Hid (∀ q ∈ s, q < a.n) := Lib.hid (by rw [<- HN.out]; exact HSn.out)
        have HNs : Hid (nt = s.length) := Lib.hid (by rw [hs]; exact HNt.out)
        clear hs
        clear HAy HM5 HM6 HB5 HB6 HX5
        go_wp2_with fail
        go_loopw [8, 9] (λ vn kv wr => ∃ k : Nat, kv = .int .i64 k /\ k <= 3 /\ vn ≠ .slice none 0 0 /\ Hid (IR wr B vn (natI (nxK a s k))) /\ Hid (Below w7.heap.size w7 wr)) (λ _ kv _ => 3 - (intOf kv).toNat)
        case atStart => exact ⟨0, rfl, Nat.zero_le _, by simp, HN0, HBn⟩
        clear HN0 HBn
        case round =>
          obtain ⟨k, rfl, hk, hnk, HK, HBk⟩ := hrel
          obtain ⟨wK, rfl⟩ : ∃ x, x = wr := ⟨_, rfl⟩
          have HBxk := Lib.hid (HBx7.out.trans (HBk.out.mono HBx7.out.size))
          by_cases hk3 : k < 3
          . have hd : decide ((k : Int) < 3) = true := by simp; omega
            obtain ⟨c0, c1⟩ := HX7.out.kept HBk.out
            have HMv := Lib.hid (HMo.out wK HBxk.out k hk3 (.slice (some ⟨gt, 0, none⟩) nt ct) s _ HSn.out (by rw [<- HNs.out]; omega) ((HIs.out.below HBk.out).rowV (by rw [<- HNs.out]; omega)))
            have HMl : Hid (∀ q ∈ moveS a s k, q < a.n) := Lib.hid (move_lt HW.out HSa.out hk3)
            have hml : (moveS a s k).length <= n := by rw [HN.out]; exact nodup_len _ _ ((move_asc a s k).imp (λ h => Nat.ne_of_lt h)) HMl.out
            have HTl : Hid (∀ i, (nxT a s k i).length <= n) := Lib.hid (λ i => by rw [HN.out]; exact nxT_len HW.out HSa.out hk3 i)
            have HK0 : Hid (IR wK B u8 (natI (nxT a s k 0))) := HK
            clear HK
            go_wp2_with fail
            go_at_call 35
            refine HMv.out.mono ?_
            rintro e w8 ⟨v8, rfl, hi8, hn8, hb8⟩
            have HB8 := Lib.hid (HBk.out.trans (hb8.mono HBk.out.size))
            have HI8 := Lib.hid hi8
            have HK8 := Lib.hid (HK0.out.below hb8)
            obtain ⟨g8, c8, rfl, -, -⟩ := ir_some hi8 hn8
            clear hi8 hn8 hb8 HK0 HMv c0 c1
            obtain ⟨M, hM⟩ : ∃ M, M = moveS a s k := ⟨_, rfl⟩
            rw [<- hM] at hml HI8 ⊢
            have HMe := Lib.hid hM
            obtain ⟨nM, hnM⟩ : ∃ x, x = (natI M).length := ⟨_, rfl⟩
            rw [<- hnM] at HI8 ⊢
            have HNm : Hid (nM = M.length) := Lib.hid (by rw [hnM, natI_length])
            rw [<- HNm.out] at hml
            clear hM hnM
            obtain ⟨vN, rfl⟩ : ∃ x, x = u8 := ⟨_, rfl⟩
            go_wp2_with fail
            go_loopw [8, 11] (λ vn iv wr => ∃ i : Nat, iv = .int .i64 i /\ i <= nM /\ vn ≠ .slice none 0 0 /\ Hid (IR wr B vn (natI (nxT a s k i))) /\ Hid (Below w8.heap.size w8 wr)) (λ _ iv _ => nM - (intOf iv).toNat)
            case atStart => exact ⟨0, rfl, Nat.zero_le _, hnk, HK8, Lib.hid (Below.refl _ _)⟩
            clear HK8
            case round =>
              obtain ⟨i, rfl, hin, hni, HI, HBi⟩ := hrel
              by_cases hiM : i < nM
              . have hd : decide ((i : Int) < (nM : Int)) = true := by simp; omega
                have hil : i < M.length := by rw [<- HNm.out]; exact hiM
                obtain ⟨ad2, c2, hv, hc⟩ := row_at ((HI8.out.below HBi.out).rowV (by rw [<- HNm.out]; omega)) hil
                injection hv with hv1 hv2 hv3
                cases hv1
                clear hv2 hv3
                rw [Addr.add_lit, Nat.zero_add] at hc
                obtain ⟨x, hx⟩ : ∃ x, x = M[i] := ⟨_, rfl⟩
                rw [<- hx] at hc
                have HSu : Hid (nxT a s k (i + 1) = putS (nxT a s k i) x) := Lib.hid (nxT_succ (by rw [<- HMe.out, List.getElem?_eq_getElem hil, hx]))
                have hxl := HTl.out i
                obtain ⟨g9, c9, rfl, -, -⟩ := ir_some HI.out hni
                have HPu := Lib.hid (λ (V : World) (hV : Below wr.heap.size wr V) => specPut_any B (.slice (some ⟨g9, 0, none⟩) (natI (nxT a s k i)).length c9) (nxT a s k i) x V (HI.out.below hV) (by simp) (by omega))
                obtain ⟨n9, hn9⟩ : ∃ y, y = (natI (nxT a s k i)).length := ⟨_, rfl⟩
                rw [<- hn9] at HI HPu ⊢
                have s1 : (0 : Int) <= (i : Int) := by omega
                have s2 : (i : Int) < (nM : Int) := by omega
                clear hx hn9
                go_wp2_with fail
                go_at_call 36
                refine (HPu.out _ (Below.refl _ _)).mono ?_
                rintro e w9 ⟨v9, rfl, hi9, hnv9, -, hb9⟩
                rw [<- HSu.out] at hi9
                have HI9 := Lib.hid hi9
                have HB9 := Lib.hid (HBi.out.trans (hb9.mono HBi.out.size))
                obtain ⟨gA, cA, rfl, -, -⟩ := ir_some hi9 hnv9
                clear hi9 hb9 hc
                go_wp2_with fail
                go_roundw
                case rel => exact ⟨i + 1, by go_num, by omega, hnv9, HI9, HB9⟩
                case measure => simp [intOf]; omega
              . have hie : i = nM := by omega
                have hd : decide ((i : Int) < (nM : Int)) = false := by simp; omega
                have HKn : Hid (IR wr B u8 (natI (nxK a s (k + 1)))) := Lib.hid (by
                  have h := HI.out
                  rw [hie, HNm.out, HMe.out, nxT_all] at h
                  exact h)
                have HBn := Lib.hid (HB8.out.trans (HBi.out.mono HB8.out.size))
                clear HI hie
                obtain ⟨g9, c9, rfl, -, -⟩ := ir_some HKn.out hni
                obtain ⟨n9, hn9⟩ : ∃ y, y = (natI (nxK a s (k + 1))).length := ⟨_, rfl⟩
                rw [<- hn9] at HKn ⊢
                clear hn9
                go_wp2_with fail
                go_roundw
                case rel => exact ⟨k + 1, by go_num, by omega, by simp, HKn, HBn⟩
                case measure => simp [intOf]; omega
          . have hke : k = 3 := by omega
            have hd : decide ((k : Int) < 3) = false := by simp; omega
            have HSn2 : Hid (LnS B a wK (.slice (some ⟨g7, 0, none⟩) (t + 1) c7) (.slice (some ⟨g5, 0, none⟩) (t + 1) c5) u8 us2 (t + 1)) := Lib.hid (by
              have h := HK.out
              rw [hke, nxK_three, HSe.out] at h
              exact ⟨own_on HO7.out.1 (λ q e => HBk.out.block q (HO7.out.1.lt q e).2) (Nat.le_refl _), own_on HO7.out.2.1 (λ q e => HBk.out.block q (HO7.out.2.1.lt q e).2) (Nat.le_refl _), HUl.out, λ j u hu => (HO7.out.2.2.1 j u hu).below HBk.out, h, hnk, by simp, Nat.le_trans hbq7 HBk.out.size⟩)
            have HBe2 := Lib.hid (HB7.out.trans (HBk.out.mono hbq7))
            obtain ⟨k0, rfl⟩ : ∃ x, x = k := ⟨_, rfl⟩
            obtain ⟨g8, c8, hv8, -, -⟩ := ir_some HSn2.out.set hnk
            clear HK hke
            subst hv8
            obtain ⟨n8, hn8⟩ : ∃ x, x = (natI (stS a (t + 1))).length := ⟨_, rfl⟩
            rw [<- hn8] at HSn2 ⊢
            clear hn8
            go_wp2_with fail
            go_roundw
            case rel => exact ⟨t + 1, us2, HSn2, HDn, HBe2⟩
            case measure => simp [sliceLen]; omega
theorem specLen_any (va vn : Value) (d : Dx) (S : Nat -> Prop) (w : World) (h : DfaV w S va vn d) :
    Calls Tryd.prog 9 #[.agg #[va, vn]] w (LenPost d w) := by
  cases hv : validD d with
  | false => exact specLen_no va vn d S w h hv
  | true => exact specLen_yes va vn d S w h hv
end Go.Proofs.YtiijlpmdnokjfaaDoor
