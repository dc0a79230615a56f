/- Texts of one proof. -/
import Derived.Test.YtppliiingoonlaaGreatDoorxPPZPack19
set_option maxRecDepth 100000
set_option maxHeartbeats 20000000
namespace Go.Proofs.YtppliiingoonlaaGreatDoor
open Go.RowKit
theorem heldCS_any (ps : List Cx) (v : Value) (k : Nat) (w : World) (h : PrO w v (mkL k ps)) (hk0 : 0 < k) (hk : k + nT ps <= 16777216) (hcl : ∀ c ∈ ps, c.cs.length <= 2097152) :
    Calls Tryz.prog 94 #[v, .int .i64 k] w λ e w' => e = .returned (.int .i64 ((k + nT ps : Nat) : Int)) /\ Below w.heap.size w w' := by
  obtain ⟨hl, A, m, rfl⟩ := h.shape
  unfold maxI at hl
  rw [mkL_length] at hl h ⊢
  have HE := Lib.hid (λ (V : World) (hb : Below w.heap.size w V) (j : Nat) (hj : j < ps.length) => PrR.at (h.kept hb) (j := j) (by rw [mkL_length]; exact hj))
  have HN := Lib.hid hk
  have HCL := Lib.hid hcl
  clear h hk hcl
  go_enter Tryz.func94, Tryz.ntmps94
  go_wp2_with fail
  go_loopw [1, 5] (λ kv i wr => ∃ j q : Nat, i = .int .i64 j /\ kv = .int .i64 (q : Int) /\ Hid (q = k + nT (ps.take j)) /\ j <= ps.length /\ Below w.heap.size w wr) (λ _ i _ => ps.length - (intOf i).toNat)
  case atStart => exact ⟨0, k, rfl, rfl, Lib.hid (by simp [nT]), Nat.zero_le _, Below.refl _ _⟩
  case round =>
    obtain ⟨j, q, rfl, rfl, HQ, hj, hb⟩ := hrel
    have HB := Lib.hid hb
    by_cases hlt : j < ps.length
    . obtain ⟨g, o, rfl, d, xu, vc, hd, ha, hc⟩ := HE.out wr hb j hlt
      obtain ⟨c, hx⟩ : ∃ c, ps[j]? = some c := ⟨_, List.getElem?_eq_getElem hlt⟩
      rw [mkL_at ps k j c hx, <- HQ.out] at hd
      cases hd
      have hst := nT_step hx
      have hle := nT_take ps (j + 1)
      have hqm : q + nX c <= 16777216 := by have := HQ.out; have := HN.out; omega
      have hq0 : 0 < q := by have := HQ.out; omega
      have hqe : nX c = 6 + 2 * c.xa.size + c.cs.length := rfl
      have hcl' := HCL.out c (List.mem_of_getElem? hx)
      have HQ2 := Lib.hid (show q + 6 + 2 * c.xa.size + c.cs.length = k + nT (ps.take (j + 1)) by have := HQ.out; omega)
      obtain ⟨Au, mu, Bu, ru, rfl, rfl⟩ := hc.shape
      have e1 : (mkX q c).xa.items.length = c.xa.items.length := mk_len c.xa (q + 5)
      have e2 : (mkX q c).cs.length = c.cs.length := intMark_length _ _
      rw [e1, e2] at ha hc
      have HA := Lib.hid (λ (V : World) (hv : Below wr.heap.size wr V) => (ha.below hv ha.lt : CxAt V g (o + j * 8) (mkX q c) (.slice Au c.xa.items.length mu) (.slice Bu c.cs.length ru)))
      have A0 : Hid (∀ V, Below wr.heap.size wr V -> V.cell? ⟨g, o + j * 8, none⟩ = some (.int .i64 (q : Int))) := Lib.hid (λ V hv => (HA.out V hv).1)
      have A1 : Hid (∀ V, Below wr.heap.size wr V -> V.cell? ⟨g, o + j * 8 + 1, none⟩ = some (.string ⟨(markB (q + 1)).toArray⟩)) := Lib.hid (λ V hv => (HA.out V hv).2.1)
      have A2 : Hid (∀ V, Below wr.heap.size wr V -> V.cell? ⟨g, o + j * 8 + 2, none⟩ = some (.string ⟨(markB (q + 2)).toArray⟩)) := Lib.hid (λ V hv => (HA.out V hv).2.2.1)
      have A3 : Hid (∀ V, Below wr.heap.size wr V -> V.cell? ⟨g, o + j * 8 + 3, none⟩ = some (.int .i64 ((q : Int) + 1 + 1 + 1))) := Lib.hid (λ V hv => (HA.out V hv).2.2.2.1)
      have A4 : Hid (∀ V, Below wr.heap.size wr V -> V.cell? ⟨g, o + j * 8 + 3 + 1, none⟩ = some (.string ⟨(markB (q + 4)).toArray⟩)) := Lib.hid (λ V hv => (HA.out V hv).2.2.2.2.1)
      have A5 : Hid (∀ V, Below wr.heap.size wr V -> V.cell? ⟨g, o + j * 8 + 3 + 2, none⟩ = some (.slice Au c.xa.items.length mu)) := Lib.hid (λ V hv => (HA.out V hv).2.2.2.2.2.1)
      have A6 : Hid (∀ V, Below wr.heap.size wr V -> V.cell? ⟨g, o + j * 8 + 6, none⟩ = some (.slice Bu c.cs.length ru)) := Lib.hid (λ V hv => (HA.out V hv).2.2.2.2.2.2.1)
      obtain ⟨n1, hn1⟩ : ∃ n1, n1 = q + 5 + 2 * c.xa.size := ⟨_, rfl⟩
      have A7 : Hid (∀ V, Below wr.heap.size wr V -> V.cell? ⟨g, o + j * 8 + 7, none⟩ = some (.int .i64 ((n1 + c.cs.length : Nat) : Int))) := Lib.hid (λ V hv => by rw [hn1]; exact (HA.out V hv).2.2.2.2.2.2.2)
      have HT1 : Hid (∀ V : World, Calls Tryz.prog 146 #[.int .i64 ((q : Int) + 1)] V λ e w' => e = .returned (.string ⟨(markB (q + 1)).toArray⟩) /\ Below V.heap.size V w') := Lib.hid (λ V => markText_any (q + 1) V (by omega) (by omega))
      have HT2 : Hid (∀ V : World, Calls Tryz.prog 146 #[.int .i64 ((q : Int) + 1 + 1)] V λ e w' => e = .returned (.string ⟨(markB (q + 2)).toArray⟩) /\ Below V.heap.size V w') := Lib.hid (λ V => markText_any (q + 2) V (by omega) (by omega))
      have HT4 : Hid (∀ V : World, Calls Tryz.prog 146 #[.int .i64 ((q : Int) + 1 + 1 + 1 + 1)] V λ e w' => e = .returned (.string ⟨(markB (q + 4)).toArray⟩) /\ Below V.heap.size V w') := Lib.hid (λ V => markText_any (q + 4) V (by omega) (by omega))
      have HHX : Hid (∀ V : World, Below wr.heap.size wr V -> Calls Tryz.prog 149 #[.slice Au c.xa.items.length mu, .int .i64 ((q : Int) + 1 + 1 + 1 + 1 + 1)] V λ e w' => e = .returned (.int .i64 (n1 : Int)) /\ Below V.heap.size V w') := Lib.hid (λ V hv => by
        obtain ⟨_, ⟨n, hs⟩, _⟩ := (hc.kept hv).read
        rw [hn1]
        exact heldS_any n (q + 5) V.heap.size _ c.xa V hs (Nat.le_refl _) (by omega) (by omega))
      have HHI := Lib.hid (λ (V : World) (hv : Below wr.heap.size wr V) => heldIntS_b n1 c.cs.length (.slice Bu c.cs.length ru) (λ _ => True) V (by have := (hc.kept hv).2.2.row; rw [hn1]; exact this) hcl' (by omega))
      have HQ3 := Lib.hid (show n1 + c.cs.length + 1 = k + nT (ps.take (j + 1)) by have := HQ2.out; omega)
      have hneg : ¬ ((n1 : Int) < 0) := by omega
      have hneg2 : ¬ (((n1 + c.cs.length : Nat) : Int) < 0) := by omega
      have hbig : n1 + c.cs.length + 1 <= 16777216 := by omega
      have c0 := A0.out wr (Below.refl _ _)
      have s1 : (ByteArray.mk (markB (q + 1)).toArray).toList != (ByteArray.mk (markB (q + 1)).toArray).toList -> False := by simp
      have b1 : ((ByteArray.mk (markB (q + 1)).toArray).toList != (ByteArray.mk (markB (q + 1)).toArray).toList) = false := bne_self_eq_false _
      have b2 : ((ByteArray.mk (markB (q + 2)).toArray).toList != (ByteArray.mk (markB (q + 2)).toArray).toList) = false := bne_self_eq_false _
      have b4 : ((ByteArray.mk (markB (q + 4)).toArray).toList != (ByteArray.mk (markB (q + 4)).toArray).toList) = false := bne_self_eq_false _
      have b7 : (((n1 + c.cs.length : Nat) : Int) != ((n1 + c.cs.length : Nat) : Int)) = false := bne_self_eq_false _
      have j0 : (0 : Int) <= j := by omega
      have j1 : (j : Int) < ps.length := by omega
      clear hx hst hle ha hc hb hqe e1 e2 hn1 s1
      have k1 := λ (n : UpW wr) => A1.out n.w n.up
      have U1 := Lib.hid (λ (n : UpW wr) => up_call (W := wr) (n := n) (HT1.out n.w))
      go_wp2_with fail
      refine wp_region_up (by kernel_rfl) (by kernel_rfl) ?_
      repeat (go_big_quiet_step (with_reducible exact U1.out _))
      refine wpQuiet_nil ?_
      rintro w1 ⟨⟨_, hb1⟩, rfl⟩
      have HB1 := Lib.hid hb1
      clear hb1 k1 c0 U1 b1
      have k2 := λ (n : UpW w1) => A2.out n.w (HB1.out.trans (n.up.mono HB1.out.size))
      have U2 := Lib.hid (λ (n : UpW w1) => up_call (W := w1) (n := n) (HT2.out n.w))
      go_wp2_with fail
      refine wp_region_up (by kernel_rfl) (by kernel_rfl) ?_
      repeat (go_big_quiet_step (with_reducible exact U2.out _))
      refine wpQuiet_nil ?_
      rintro w2 ⟨⟨_, hb2⟩, rfl⟩
      have HB2 := Lib.hid (HB1.out.trans (hb2.mono HB1.out.size))
      clear hb2 k2 U2 b2
      have c3 := A3.out w2 HB2.out
      have k4 := λ (n : UpW w2) => A4.out n.w (HB2.out.trans (n.up.mono HB2.out.size))
      have U4 := Lib.hid (λ (n : UpW w2) => up_call (W := w2) (n := n) (HT4.out n.w))
      go_wp2_with fail
      refine wp_region_up (by kernel_rfl) (by kernel_rfl) ?_
      repeat (go_big_quiet_step (with_reducible exact U4.out _))
      refine wpQuiet_nil ?_
      rintro w4 ⟨⟨_, hb4⟩, rfl⟩
      have HB4 := Lib.hid (HB2.out.trans (hb4.mono HB2.out.size))
      clear hb4 k4 U4 b4 c3
      have c5 := A5.out w4 HB4.out
      go_wp2_with fail
      refine (HHX.out w4 HB4.out).mono ?_
      rintro e w5 ⟨rfl, hb5⟩
      have HB5 := Lib.hid (HB4.out.trans (hb5.mono HB4.out.size))
      clear hb5 c5
      have c6 := A6.out w5 HB5.out
      go_wp2_with fail
      refine (HHI.out w5 HB5.out).mono ?_
      rintro e w6 ⟨rfl, hb6⟩
      have HB6 := Lib.hid (HB5.out.trans (hb6.mono HB5.out.size))
      clear hb6 c6
      have c7 := A7.out w6 HB6.out
      go_wp2_with fail
      go_roundw
      case rel => exact ⟨j + 1, n1 + c.cs.length + 1, by go_num, by go_num, HQ3, by omega, HB.out.trans (HB6.out.mono HB.out.size)⟩
      case measure => simp [intOf]; omega
    . have hje : j = ps.length := by omega
      have hqe : q = k + nT ps := by rw [HQ.out, hje, List.take_length]
      have HQE := Lib.hid hqe
      have hd : decide ((j : Int) < (ps.length : Int)) = false := by simp; omega
      clear hqe hje hb
      go_wp2_with fail
      go_ret
      exact ⟨by rw [HQE.out]; rfl, HB.out⟩
theorem markP_any (ps : List Cx) (v : Value) (S : Nat -> Prop) (k : Nat) (w : World) (h : PrT w S v ps) (hS : ∀ g, S g -> g < w.heap.size) (hk0 : 0 < k) (hk : k + nT ps <= 16777216) (hcl : ∀ c ∈ ps, c.cs.length <= 2097152) :
    Calls Tryz.prog 48 #[.agg #[v], .int .i64 k] w λ e w' => e = .returned (.int .i64 ((k + nT ps : Nat) : Int)) /\ PrT w' S v (mkL k ps) /\ Chg S w w' := by
  obtain ⟨hl, A, m, rfl⟩ := h.shape
  obtain ⟨W, hW⟩ : ∃ W, W = w.alloc (.cells #[.slice A ps.length m] 45) := ⟨_, rfl⟩
  have hb0 : Below w.heap.size w W := by rw [hW]; exact (Below.refl _ _).alloc (Nat.le_refl _) _
  have HM := Lib.hid (markCS_any ps _ S k W (h.kept hS hb0) (λ g hg => Nat.lt_of_lt_of_le (hS g hg) hb0.size) hk0 hk hcl)
  have HWE := Lib.hid hW
  have HB0 := Lib.hid hb0
  obtain ⟨r, hr⟩ : ∃ r, r = k + nT ps := ⟨_, rfl⟩
  rw [<- hr] at HM ⊢
  clear hW hb0 h hS hk hcl hr hl
  go_enter Tryz.func48, Tryz.ntmps48
  go_wp2_with fail
  rw [<- HWE.out]
  refine HM.out.mono ?_
  rintro e w1 ⟨rfl, ht1, hc1⟩
  have HT1 := Lib.hid ht1
  have HC1 := Lib.hid (((Chg.refl S w).below HB0.out).trans hc1)
  clear ht1 hc1
  go_wp2_with fail
  go_ret
  exact ⟨rfl, HT1.out, HC1.out⟩
theorem heldP_any (ps : List Cx) (v : Value) (k : Nat) (w : World) (h : PrO w v (mkL k ps)) (hk0 : 0 < k) (hk : k + nT ps <= 16777216) (hcl : ∀ c ∈ ps, c.cs.length <= 2097152) :
    Calls Tryz.prog 49 #[.agg #[v], .int .i64 k] w λ e w' => e = .returned (.int .i64 ((k + nT ps : Nat) : Int)) /\ Below w.heap.size w w' := by
  obtain ⟨hl, A, m, rfl⟩ := h.shape
  obtain ⟨W, hW⟩ : ∃ W, W = w.alloc (.cells #[.slice A (mkL k ps).length m] 45) := ⟨_, rfl⟩
  have hb0 : Below w.heap.size w W := by rw [hW]; exact (Below.refl _ _).alloc (Nat.le_refl _) _
  have HM := Lib.hid (heldCS_any ps _ k W (h.kept hb0) hk0 hk hcl)
  have HWE := Lib.hid hW
  have HB0 := Lib.hid hb0
  obtain ⟨r, hr⟩ : ∃ r, r = k + nT ps := ⟨_, rfl⟩
  rw [<- hr] at HM ⊢
  have hneg : ¬ ((r : Int) < 0) := by omega
  obtain ⟨n, hn⟩ : ∃ n, n = (mkL k ps).length := ⟨_, rfl⟩
  rw [<- hn] at HM HWE ⊢
  clear hW hb0 h hk hcl hr hl hn
  go_enter Tryz.func49, Tryz.ntmps49
  go_wp2_with fail
  rw [<- HWE.out]
  refine HM.out.mono ?_
  rintro e w1 ⟨rfl, hb1⟩
  have HB1 := Lib.hid (HB0.out.trans (hb1.mono HB0.out.size))
  clear hb1
  go_wp2_with fail
  go_ret
  exact ⟨rfl, HB1.out⟩
theorem eqCS_any (ps : List Cx) (v v' : Value) (w : World) (h : PrO w v ps) (h' : PrO w v' ps) :
    Calls Tryz.prog 88 #[v, v'] w λ e w' => e = .returned (.bool true) /\ Below w.heap.size w w' := by
  obtain ⟨hl, A, m, rfl⟩ := h.shape
  obtain ⟨_, A', m', rfl⟩ := h'.shape
  unfold maxI at hl
  have HE := Lib.hid (λ (V : World) (hb : Below w.heap.size w V) (j : Nat) (hj : j < ps.length) => PrR.at (h.kept hb) hj)
  have HE' := Lib.hid (λ (V : World) (hb : Below w.heap.size w V) (j : Nat) (hj : j < ps.length) => PrR.at (h'.kept hb) hj)
  clear h h'
  go_enter Tryz.func88, Tryz.ntmps88
  go_wp2_with fail
  go_loopw [5] (λ i wr => ∃ j : Nat, i = .int .i64 j /\ j <= ps.length /\ Below w.heap.size w wr) (λ i _ => ps.length - (intOf i).toNat)
  case atStart => exact ⟨0, rfl, Nat.zero_le _, Below.refl _ _⟩
  case round =>
    obtain ⟨j, rfl, hj, hb⟩ := hrel
    have HB := Lib.hid hb
    have hwz := hb.size
    clear hb
    by_cases hlt : j < ps.length
    . obtain ⟨g, o, rfl, c, xu, vc, hx, ha, hc⟩ := HE.out wr HB.out j hlt
      obtain ⟨g', o', rfl, c', xu', vc', hx', ha', hc'⟩ := HE'.out wr HB.out j hlt
      rw [hx] at hx'
      cases hx'
      obtain ⟨A1, m1, B1, r1, rfl, rfl⟩ := hc.shape
      obtain ⟨A2, m2, B2, r2, rfl, rfl⟩ := hc'.shape
      obtain ⟨c0, c1, c2, c3, c4, c5, c6, c7⟩ := ha
      obtain ⟨d0, d1, d2, d3, d4, d5, d6, d7⟩ := ha'
      have HI := Lib.hid (eqC_any c _ _ _ _ wr.drew (hc.kept (Below.refl _ _).drew) (hc'.kept (Below.refl _ _).drew))
      have HBd := Lib.hid HB.out.drew
      clear hc hc' hx
      go_wp2_with fail
      go_still_tail 8, (by kernel_rfl)
      go_wp2_with fail
      refine HI.out.mono ?_
      rintro e w1 ⟨rfl, hb1⟩
      have HB1 := Lib.hid (HBd.out.trans (hb1.mono hwz))
      clear hb1
      go_wp2_with fail
      go_roundw
      case rel => exact ⟨j + 1, by go_num, by omega, HB1.out⟩
      case measure => simp [intOf]; omega
    . have hd : decide ((j : Int) < (ps.length : Int)) = false := by simp; omega
      go_wp2_with fail
      go_ret
      exact ⟨rfl, HB.out⟩
theorem eqP_any (ps : List Cx) (v v' : Value) (w : World) (h : PrO w v ps) (h' : PrO w v' ps) :
    Calls Tryz.prog 43 #[.agg #[v], .agg #[v']] w λ e w' => e = .returned (.bool true) /\ Below w.heap.size w w' := by
  obtain ⟨hl, A, m, rfl⟩ := h.shape
  obtain ⟨_, A', m', rfl⟩ := h'.shape
  obtain ⟨W, hW⟩ : ∃ W, W = (w.alloc (.cells #[.slice A ps.length m] 45)).alloc (.cells #[.slice A' ps.length m'] 45) := ⟨_, rfl⟩
  have hb0 : Below w.heap.size w W := by rw [hW]; exact ((Below.refl _ _).alloc (Nat.le_refl _) _).alloc (by simp) _
  have HWE := Lib.hid hW
  have HB0 := Lib.hid hb0
  have HZ := Lib.hid (eqCS_any ps _ _ W (h.kept hb0) (h'.kept hb0))
  clear hW hb0 h h' hl
  go_enter Tryz.func43, Tryz.ntmps43
  go_wp2_with fail
  rw [<- HWE.out]
  refine HZ.out.mono ?_
  rintro e w1 ⟨rfl, hb1⟩
  have HB1 := Lib.hid (HB0.out.trans (hb1.mono HB0.out.size))
  clear hb1
  go_wp2_with fail
  go_ret
  exact ⟨rfl, HB1.out⟩
theorem parsed_size {s : List UInt8} {ok : Bool} {c : Cx} (h : ParsedX s ok c) : c.xa.size <= 64 /\ c.cs.length <= 3 := by
  rcases h with ⟨_, hv, hf⟩ | ⟨_, rfl, _⟩
  . refine ⟨?_, ?_⟩
    . have hz : c.cn.x = zeroNd -> c.xa.size <= 64 := λ e => by
        have e2 : c.xa = .nil := congrArg (λ x : Nd => x.2.2) e
        rw [e2]
        exact Nat.zero_le _
      rcases valid_kinds (c := c.cn) hv with hk | hk | hk | hk | hk
      . exact hz (valid_terms hv (.inl hk)).2.2.1
      . exact hz (valid_terms hv (.inr hk)).2.2.1
      . exact Nat.le_trans (valid_size9 (valid_lang hv (.inl hk)).2.2.1) (by decide)
      . exact Nat.le_trans (valid_size9 (valid_lang hv (.inr hk)).2.2.1) (by decide)
      . exact hz (valid_len hv hk).2.2.1
    . rcases valid_cs hv with h | ⟨a, d, e, h, _⟩ <;> rw [h] <;> simp
  . exact ⟨Nat.zero_le _, Nat.zero_le _⟩
theorem valid_small {ps : List Cx} (h : validP ps = true) : (∀ c ∈ ps, c.xa.size <= 64 /\ c.cs.length <= 3) /\ nT ps <= 900 := by
  obtain ⟨hv, hl⟩ := validP_iff.1 h
  have h1 : ∀ c ∈ ps, c.xa.size <= 64 /\ c.cs.length <= 3 := λ c hc => parsed_size (s := fmtX c) (ok := true) (.inl ⟨rfl, hv c hc, rfl⟩)
  refine ⟨h1, ?_⟩
  have h2 : ∀ qs : List Cx, (∀ c ∈ qs, c.xa.size <= 64 /\ c.cs.length <= 3) -> nT qs <= qs.length * 150 := by
    intro qs
    induction qs with
    | nil => intro _; simp [nT]
    | cons c r ih =>
      intro hq
      have h3 := ih (λ d hd => hq d (by simp [hd]))
      have h4 := hq c (by simp)
      have h5 : nT (c :: r) = nX c + nT r := by simp [nT]
      have h6 : nX c = 6 + 2 * c.xa.size + c.cs.length := rfl
      rw [List.length_cons, Nat.add_mul]
      omega
  have := h2 ps h1
  omega
theorem qxLP_law (s : ByteArray) (ps : List Cx) (z : Int) (w : World) (_hs : s.size <= maxLen) (hv : validP ps = true) (HS0 : s.size <= 1048576 -> ∀ V : World, Calls Tryz.prog 34 #[.string s] V (CopyPI ps z V)) (HI0 : s.size <= 1048576 -> ∀ V : World, Below w.heap.size w V -> Calls Tryz.prog 29 #[.string s] V (CopyPI ps z V)) :
    Calls Tryz.prog 9 #[.string s] w λ e w' => e = .returned (.bool true) /\ Below w.heap.size w w' := by
  by_cases hfit : s.size <= 1048576
  . have HS := Lib.hid (λ V => HS0 hfit V)
    have HI := Lib.hid (λ V hb => HI0 hfit V hb)
    obtain ⟨hsm, hnt⟩ := valid_small hv
    have hnl : ¬ ((1048576 : Int) < (s.size : Int)) := by omega
    have hno : (z != z) = false := bne_self_eq_false _
    obtain ⟨n, hn⟩ : ∃ n, n = 1 + nT ps := ⟨_, rfl⟩
    have HMK := Lib.hid (λ v S V h hS => markP_any ps v S 1 V h hS (by omega) (by omega) (λ c hc => by have := hsm c hc; omega))
    have HHD := Lib.hid (λ v V h => heldP_any ps v 1 V h (by omega) (by omega) (λ c hc => by have := hsm c hc; omega))
    rw [<- hn] at HMK HHD
    have hnn : ¬ ((n : Int) < 0) := by omega
    have hne : ((n : Int) != (n : Int)) = false := bne_self_eq_false _
    have HML := Lib.hid (mkL_length 1 ps)
    clear HS0 HI0 _hs hfit hsm hnt hn hv
    go_enter Tryz.func9, Tryz.ntmps9
    go_wp2_with fail
    refine (HS.out w).mono ?_
    rintro e w1 ⟨A1, m1, rfl, ht1, hb1⟩
    have HT1 := Lib.hid ht1
    have HB1 := Lib.hid hb1
    clear ht1 hb1
    go_wp2_with fail
    obtain ⟨W1, hW1⟩ : ∃ W1, W1 = w1.alloc (.cells #[.slice A1 ps.length m1] 45) := ⟨_, rfl⟩
    rw [<- hW1]
    have hb11 : Below w1.heap.size w1 W1 := by rw [hW1]; exact (Below.refl _ _).alloc (Nat.le_refl _) _
    have hbx1 : BoxP W1 w1.heap.size (.slice A1 ps.length m1) := by rw [hW1]; exact boxP_new w1 _ _
    have HBW1 := Lib.hid (HB1.out.trans (hb11.mono HB1.out.size))
    have HC1 := Lib.hid (λ (V : World) (hb : Below W1.heap.size W1 V) => HT1.out.own.kept (hb11.trans (hb.mono hb11.size)))
    have HX1 := Lib.hid (λ (V : World) (hb : Below W1.heap.size W1 V) => (hbx1.kept hb).cell)
    clear hW1 hb11 hbx1
    refine (HI.out W1 HBW1.out).mono ?_
    rintro e w2 ⟨A2, m2, rfl, ht2, hb2⟩
    have HT2 := Lib.hid ht2
    have HB2 := Lib.hid hb2
    clear ht2 hb2
    have x0 := HX1.out (w2.alloc (.cells #[.slice A2 ps.length m2] 45)) (HB2.out.alloc HB2.out.size _)
    go_wp2_with fail
    obtain ⟨W2, hW2⟩ : ∃ W2, W2 = w2.alloc (.cells #[.slice A2 ps.length m2] 45) := ⟨_, rfl⟩
    rw [<- hW2]
    have hb22 : Below w2.heap.size w2 W2 := by rw [hW2]; exact (Below.refl _ _).alloc (Nat.le_refl _) _
    have hbx2 : BoxP W2 w2.heap.size (.slice A2 ps.length m2) := by rw [hW2]; exact boxP_new w2 _ _
    have HBX2 := Lib.hid hbx2
    have HB22 := Lib.hid hb22
    have HBW2 := Lib.hid (HB2.out.trans (hb22.mono HB2.out.size))
    have HX2 := Lib.hid (λ (V : World) (hb : Below W2.heap.size W2 V) => (hbx2.kept hb).cell)
    clear hW2 hb22 hbx2 x0
    refine (eqP_any ps _ _ W2 (HT2.out.own.kept HB22.out) (HC1.out W2 HBW2.out)).mono ?_
    rintro e w3 ⟨rfl, hb3⟩
    have HB3 := Lib.hid hb3
    have y0 := HX2.out w3 hb3
    clear hb3
    go_wp2_with fail
    refine (HMK.out _ (OwnB W1 w2) w3 (HT2.out.kept (λ g hg => hg.2) (HB22.out.trans (HB3.out.mono HB22.out.size))) (λ g hg => by have := hg.2; have := HB22.out.size; have := HB3.out.size; omega)).mono ?_
    rintro e w4 ⟨rfl, ht4, hc4⟩
    have HT4 := Lib.hid ht4
    have hbx4 : BoxP w4 w2.heap.size (.slice A2 ps.length m2) := by
      have hlt := (HBX2.out.kept HB3.out).lt
      obtain ⟨t, ht⟩ := HBX2.out.kept HB3.out
      exact ⟨t, (hc4.block _ hlt (λ h => Nat.lt_irrefl _ h.2)).trans ht⟩
    have HX4 := Lib.hid (λ (V : World) (hb : Below w4.heap.size w4 V) => (hbx4.kept hb).cell)
    have HL4 := Lib.hid ((HBW2.out.trans (HB3.out.mono HBW2.out.size)).trans (hc4.old (B := W1.heap.size) (λ g hg => hg.1) (by have := HBW2.out.size; have := HB3.out.size; omega)))
    clear ht4 hc4 hbx4 y0
    have y0 := HX4.out w4 (Below.refl _ _)
    go_wp2_with fail
    refine (HHD.out _ w4 HT4.out.own).mono ?_
    rintro e w5 ⟨rfl, hb5⟩
    have HB5 := Lib.hid hb5
    have HL5 := Lib.hid (HL4.out.trans (hb5.mono HL4.out.size))
    clear hb5 y0
    go_wp2_with fail
    refine (HI.out w5 (HBW1.out.trans (HL5.out.mono HBW1.out.size))).mono ?_
    rintro e w6 ⟨A6, m6, rfl, ht6, hb6⟩
    have HT6 := Lib.hid ht6
    have HB6 := Lib.hid hb6
    have HL6 := Lib.hid (HL5.out.trans (hb6.mono HL5.out.size))
    clear ht6 hb6
    have x0 := HX1.out (w6.alloc (.cells #[.slice A6 ps.length m6] 45)) (HL6.out.alloc HL6.out.size _)
    go_wp2_with fail
    obtain ⟨W6, hW6⟩ : ∃ W6, W6 = w6.alloc (.cells #[.slice A6 ps.length m6] 45) := ⟨_, rfl⟩
    rw [<- hW6]
    have hb66 : Below w6.heap.size w6 W6 := by rw [hW6]; exact (Below.refl _ _).alloc (Nat.le_refl _) _
    have HB66 := Lib.hid hb66
    have HLW6 := Lib.hid (HL6.out.trans (hb66.mono HL6.out.size))
    clear hW6 hb66 x0
    refine (eqP_any ps _ _ W6 (HT6.out.own.kept HB66.out) (HC1.out W6 HLW6.out)).mono ?_
    rintro e w7 ⟨rfl, hb7⟩
    have HB47 := Lib.hid ((HB5.out.trans (HB6.out.mono HB5.out.size)).trans ((HB66.out.trans (hb7.mono HB66.out.size)).mono (Nat.le_trans HB5.out.size HB6.out.size)))
    have y0 := HX4.out w7 HB47.out
    clear hb7
    go_wp2_with fail
    refine (HHD.out _ w7 (HT4.out.own.kept HB47.out)).mono ?_
    rintro e w8 ⟨rfl, hb8⟩
    have HL8 := Lib.hid (HL4.out.trans ((HB47.out.trans (hb8.mono HB47.out.size)).mono HL4.out.size))
    clear hb8 y0
    go_wp2_with fail
    go_ret
    exact ⟨rfl, HBW1.out.trans (HL8.out.mono HBW1.out.size)⟩
  . have hnl : (1048576 : Int) < (s.size : Int) := by omega
    unfold maxLen at _hs
    clear HS0 HI0 hfit
    go_enter Tryz.func9, Tryz.ntmps9
    go_wp2_with fail
    go_ret
    exact ⟨rfl, Below.refl _ _⟩
end Go.Proofs.YtppliiingoonlaaGreatDoor
