/- Texts of one proof. -/
import Derived.Test.YtiijlpmdnokjfaaDoorCountsZPack5
set_option maxRecDepth 100000
set_option maxHeartbeats 20000000
namespace Go.Proofs.YtiijlpmdnokjfaaDoor
open Go.RowKit
theorem specSame_any (va vn vc : Value) (a : Au) (c : Nat -> Nat) (S Sc : Nat -> Prop) (p q : Nat) (w : World) (hw : a.wf) (h : DfaV w S va vn (fieldsOf a)) (hc : RowV w Sc vc (ints (clsRow a.n c))) (hp : p < a.n) (hq : q < a.n) :
    Calls Tryd.prog 115 #[.agg #[va, vn], vc, .int .i64 (p : Int), .int .i64 (q : Int)] w λ e w' => e = .returned (.bool (same a c p q)) /\ Below w.heap.size w w' := by
  obtain ⟨ad, cc, ad', cc', rfl, rfl, hnl, -, hT⟩ := h.cells hw.1
  obtain ⟨adc, mc, rfl, hcl⟩ := hc.cls hw.1
  obtain ⟨W0, hW0⟩ : ∃ W0, W0 = w.alloc (.cells #[.slice (some ad) a.n cc, .slice (some ad') a.n cc'] 27) := ⟨_, rfl⟩
  have HB0 : Hid (Below w.heap.size w W0) := Lib.hid (by rw [hW0]; exact (Below.refl _ _).alloc (Nat.le_refl _) _)
  have HX : Hid (Bx2 W0 w.heap.size (.slice (some ad) a.n cc) (.slice (some ad') a.n cc')) := Lib.hid (by
    have k := box2_kept (w := w) (w1 := W0) (a := .slice (some ad) a.n cc) (b := .slice (some ad') a.n cc') (t := 27) (by rw [hW0]; exact Below.refl _ _)
    exact ⟨k.2.1, k.2.2.1⟩)
  obtain ⟨n, hn⟩ : ∃ n, n = a.n := ⟨_, rfl⟩
  have HT : Hid (∀ x, x < n -> ∃ ad2 c2, w.cell? (ad'.add x) = some (.slice (some ad2) 3 c2) /\ ∀ k, k < 3 -> w.cell? (ad2.add k) = some (.int .i64 ((a.T x k : Nat) : Int))) := Lib.hid (by rw [hn]; exact hT)
  have HC : Hid (∀ x, x < n -> w.cell? (adc.add x) = some (.int .i64 (c x : Int))) := Lib.hid (by rw [hn]; exact hcl)
  have HWf : Hid (∀ x k, x < n -> k < 3 -> a.T x k < n) := Lib.hid (by rw [hn]; exact hw.2)
  rw [<- hn] at hW0 HX hp hq hnl
  rw [<- hn]
  have HS : Hid (same a c p q = sameK a c p q 3) := Lib.hid rfl
  clear h hc hT hcl hw hn
  have g1 := (HB0.out.cell (cell_in (HC.out p hp))).trans (HC.out p hp)
  have g2 := (HB0.out.cell (cell_in (HC.out q hq))).trans (HC.out q hq)
  obtain ⟨b0, hb0⟩ : ∃ b0, b0 = ((c p : Int) == (c q : Int)) := ⟨_, rfl⟩
  have HS0 : Hid (b0 = sameK a c p q 0) := Lib.hid (by rw [hb0, eq_cast, sameK_zero])
  obtain ⟨x0, hx0⟩ : ∃ x0 : Int, x0 = (c p : Int) := ⟨_, rfl⟩
  obtain ⟨y0, hy0⟩ : ∃ y0 : Int, y0 = (c q : Int) := ⟨_, rfl⟩
  rw [<- hx0] at g1 hb0
  rw [<- hy0] at g2 hb0
  have s1 : (p : Int) < (n : Int) := by omega
  have s2 : (0 : Int) <= (p : Int) := by omega
  have s3 : (q : Int) < (n : Int) := by omega
  have s5 : (0 : Int) <= (q : Int) := by omega
  have hbb : (x0 == y0) = b0 := hb0.symm
  clear hb0 hx0 hy0
  rw [hW0] at g1 g2
  go_enter Tryd.func115, Tryd.ntmps115
  go_wp2_with fail
  go_quiet (fail)
  go_wp2_with fail
  rw [<- hW0]
  clear g1 g2 hW0 hbb
  go_loopw [9, 10] (λ y i wr => ∃ (j : Nat) (b : Bool), i = .int .i64 j /\ y = .bool b /\ j <= 3 /\ Hid (b = sameK a c p q j) /\ Below W0.heap.size W0 wr) (λ _ i _ => 3 - (intOf i).toNat)
  case atStart => exact ⟨0, b0, rfl, rfl, Nat.zero_le _, HS0.out, below_draws (Below.refl _ _) _⟩
  case round =>
    obtain ⟨j, b, rfl, rfl, hj, hbs, hb⟩ := hrel
    have HBr := Lib.hid hb
    clear hb
    by_cases hlt : j < 3
    . cases b with
      | false =>
        have HF : Hid (false = sameK a c p q (j + 1)) := Lib.hid (by rw [sameK_succ, <- hbs.out, Bool.false_and])
        go_wp2_with fail
        go_quiet (fail)
        go_wp2_with fail
        go_roundw
        case rel => exact ⟨j + 1, false, by go_num, rfl, by omega, HF.out, below_draws HBr.out _⟩
        case measure => simp [intOf]; omega
      | true =>
        obtain ⟨adp, cp, hrp, hep⟩ := HT.out p hp
        obtain ⟨adq, cq, hrq, heq⟩ := HT.out q hq
        have hep := hep j hlt
        have heq := heq j hlt
        have htp := HWf.out p j hp hlt
        have htq := HWf.out q j hq hlt
        have hcp := HC.out _ htp
        have hcq := HC.out _ htq
        obtain ⟨b2, hb2⟩ : ∃ b2, b2 = ((c (a.T p j) : Int) == (c (a.T q j) : Int)) := ⟨_, rfl⟩
        have HF : Hid (b2 = sameK a c p q (j + 1)) := Lib.hid (by rw [sameK_succ, <- hbs.out, Bool.true_and, hb2, eq_cast])
        obtain ⟨tp, htpe⟩ : ∃ tp, tp = a.T p j := ⟨_, rfl⟩
        obtain ⟨tq, htqe⟩ : ∃ tq, tq = a.T q j := ⟨_, rfl⟩
        rw [<- htpe] at hep htp hcp hb2
        rw [<- htqe] at heq htq hcq hb2
        obtain ⟨x, hx⟩ : ∃ x : Int, x = (c tp : Int) := ⟨_, rfl⟩
        obtain ⟨y, hy⟩ : ∃ y : Int, y = (c tq : Int) := ⟨_, rfl⟩
        rw [<- hx] at hcp hb2
        rw [<- hy] at hcq hb2
        have up := λ {ad : Addr} {u : Value} (hc : w.cell? ad = some u) => ((HB0.out.trans (HBr.out.mono HB0.out.size)).cell (cell_in hc)).trans hc
        have g1 := up hrp
        have g2 := up hrq
        have g3 := up hep
        have g4 := up heq
        have g5 := up hcp
        have g6 := up hcq
        have g7 := (HX.out.kept HBr.out).2
        have s6 : (tp : Int) < (n : Int) := by omega
        have s7 : (0 : Int) <= (tp : Int) := by omega
        have s8 : (tq : Int) < (n : Int) := by omega
        have s9 : (0 : Int) <= (tq : Int) := by omega
        have s10 : (j : Int) < 3 := by omega
        have s11 : (0 : Int) <= (j : Int) := by omega
        have hbb : (x == y) = b2 := hb2.symm
        clear up hrp hrq hep heq hcp hcq hb2 hx hy htpe htqe hbs
        go_wp2_with fail
        go_quiet (fail)
        clear g1 g2 g3 g4 g5 g6 g7 hbb
        go_wp2_with fail
        go_roundw
        case rel => exact ⟨j + 1, b2, by go_num, rfl, by omega, HF.out, below_draws HBr.out _⟩
        case measure => simp [intOf]; omega
    . obtain rfl : j = 3 := by omega
      have HF : Hid (same a c p q = b) := Lib.hid (by rw [HS.out, hbs.out])
      go_wp2_with fail
      go_ret
      exact ⟨congrArg (λ b : Bool => Ending.returned (.bool b)) HF.out.symm, HB0.out.trans (HBr.out.mono HB0.out.size)⟩
theorem specCls_any (va vn : Value) (a : Au) (S : Nat -> Prop) (w : World) (hw : a.wf) (hn : a.n <= 2000) (h : DfaV w S va vn (fieldsOf a)) :
    Calls Tryd.prog 108 #[.agg #[va, vn]] w (Copy (ints (clsRow a.n (cls a (a.n + 1)))) w) := by
  obtain ⟨i0, hi, hz0, hz1, hz2⟩ := info_parts intInfo
  obtain ⟨ad, cc, ad', cc', hva, hvn, hnl, hA, -⟩ := h.cells hw.1
  subst hva
  subst hvn
  obtain ⟨W0, hW0⟩ : ∃ W0, W0 = w.alloc (.cells #[.slice (some ad) a.n cc, .slice (some ad') a.n cc'] 27) := ⟨_, rfl⟩
  have HB0 : Hid (Below w.heap.size w W0) := Lib.hid (by rw [hW0]; exact (Below.refl _ _).alloc (Nat.le_refl _) _)
  have HX : Hid (Bx2 W0 w.heap.size (.slice (some ad) a.n cc) (.slice (some ad') a.n cc')) := Lib.hid (by
    have k := box2_kept (w := w) (w1 := W0) (a := .slice (some ad) a.n cc) (b := .slice (some ad') a.n cc') (t := 27) (by rw [hW0]; exact Below.refl _ _)
    exact ⟨k.2.1, k.2.2.1⟩)
  have HSame := Lib.hid (λ (V : World) (hV : Below w.heap.size w V) r vc Sc p q (hc : RowV V Sc vc (ints (clsRow a.n (cls a r)))) hp hq => specSame_any (.slice (some ad) a.n cc) (.slice (some ad') a.n cc') vc a (cls a r) S Sc p q V hw (h.kept hV) hc hp hq)
  have HFirst := Lib.hid (λ r q => firstOf_spec a (cls a r) q)
  obtain ⟨n, hne⟩ : ∃ n, n = a.n := ⟨_, rfl⟩
  have HA : Hid (∀ q, q < n -> w.cell? (ad.add q) = some (.bool (a.A q))) := Lib.hid (by rw [hne]; exact hA)
  rw [<- hne] at hW0 HX hn hnl HSame
  rw [<- hne]
  have hn0 : 0 < n := by have := hw.1; omega
  clear h hA hne
  have hc00 : (w.alloc (.cells #[.slice (some ad) n cc, .slice (some ad') n cc'] 27)).cell? ⟨w.heap.size, 0, none⟩ = some (.slice (some ad) n cc) := by rw [<- hW0]; exact HX.out.1
  go_enter Tryd.func108, Tryd.ntmps108
  go_upto_region 2 with fail
  rw [<- hW0]
  clear hc00 hW0
  go_wp2_with (at_make; refine wpList_make_full _ rfl _ _ 53 rfl W0.heap.size 3 i0 _ 1 Tryd.underlying53 hi hz0 hz1 _ _ _ _ n rfl rfl rfl rfl (by rw [hz2]; omega) (by unfold maxLen; omega) (Nat.le_refl _) ?_; intro w1 hown hgr)
  obtain ⟨ho, hb, hwl⟩ := made_row_o hown hgr (by omega) (clsV a 0)
  clear hown hgr
  go_loopw [5] (λ i wr => ∃ q : Nat, i = .int .i64 q /\ q <= n /\ RowO wr (λ g => g = W0.heap.size) (.slice (some ⟨W0.heap.size, 0, none⟩) n n) ((List.range q).map (clsV a 0) ++ (List.replicate n (.int .i64 0 : Value)).drop q) /\ Below W0.heap.size W0 wr /\ W0.heap.size < wr.heap.size) (λ i _ => n - (intOf i).toNat)
  case atStart => exact ⟨0, rfl, Nat.zero_le _, ho, hb, hwl⟩
  case round =>
    obtain ⟨q, rfl, hq, ho', hb', hwr⟩ := hrel
    clear ho hb
    have HBr := Lib.hid hb'
    have HO := Lib.hid ho'
    clear hb' ho'
    have c0 := (HX.out.kept HBr.out).1
    by_cases hlt : q < n
    . have hca := (HA.out q hlt)
      have hca2 := ((HB0.out.trans (HBr.out.mono HB0.out.size)).cell (cell_in hca)).trans hca
      obtain ⟨b, hb⟩ : ∃ b, b = a.A q := ⟨_, rfl⟩
      rw [<- hb] at hca2
      clear hca
      cases b with
      | true =>
        have hv : clsV a 0 q = .int .i64 1 := by simp [clsV, cls, <- hb]
        obtain ⟨g, hg, -, hgl, hst⟩ := HO.out.set (j := q) (by simp; omega)
        cases hg
        obtain ⟨⟨x0, hx0⟩, hf0, hset⟩ := hst wr rfl
        have HS : Hid (RowO (wr.setCell ⟨W0.heap.size, q, none⟩ (.int .i64 1)) (λ g => g = W0.heap.size) (.slice (some ⟨W0.heap.size, 0, none⟩) n n) ((List.range (q + 1)).map (clsV a 0) ++ (List.replicate n (.int .i64 0 : Value)).drop (q + 1))) := Lib.hid (by
          have h1 := hset (clsV a 0 q)
          rw [set_zero _ n q hlt, hv] at h1
          exact h1)
        have HB2 := Lib.hid (HBr.out.setCell (p := ⟨W0.heap.size, q, none⟩) (Nat.le_refl _) (.int .i64 1))
        have hz2' : W0.heap.size < (wr.setCell ⟨W0.heap.size, q, none⟩ (.int .i64 1)).heap.size := by simpa [World.setCell] using hwr
        have HZ2 := Lib.hid hz2'
        clear hv hset hst hb hz2'
        go_wp2_with fail
        go_roundw
        case rel => exact ⟨q + 1, by go_num, by omega, HS.out, HB2.out, HZ2.out⟩
        case measure => simp [intOf]; omega
      | false =>
        have hv : clsV a 0 q = .int .i64 0 := by simp [clsV, cls, <- hb]
        have HS : Hid (RowO wr (λ g => g = W0.heap.size) (.slice (some ⟨W0.heap.size, 0, none⟩) n n) ((List.range (q + 1)).map (clsV a 0) ++ (List.replicate n (.int .i64 0 : Value)).drop (q + 1))) := Lib.hid (by
          rw [<- zero_step _ n q hlt hv]
          exact HO.out)
        clear hv hb
        go_wp2_with fail
        go_roundw
        case rel => exact ⟨q + 1, by go_num, by omega, HS.out, HBr.out, hwr⟩
        case measure => simp [intOf]; omega
    . obtain rfl : q = n := by omega
      have HO1 : Hid (RowO wr (λ g => g = W0.heap.size) (.slice (some ⟨W0.heap.size, 0, none⟩) q q) (ints (clsRow q (cls a 0)))) := Lib.hid (by
        have h1 := HO.out
        rw [zero_all] at h1
        rw [ints_cls]
        exact h1)
      have hd : decide ((q : Int) < (q : Int)) = false := by simp
      go_wp2_with fail
      clear hd c0
      go_loopw [4, 6] (λ v i wr' => ∃ (r : Nat) (A : Option Addr) (m : Nat), i = .int .i64 r /\ v = .slice A q m /\ r <= q + 1 /\ Below W0.heap.size W0 wr' /\ Hid (RowO wr' (λ g => W0.heap.size <= g /\ g < wr'.heap.size) (.slice A q m) (ints (clsRow q (cls a r))))) (λ _ i _ => q + 2 - (intOf i).toNat)
      case atStart => exact ⟨0, _, _, rfl, rfl, Nat.zero_le _, HBr.out, Lib.hid (HO1.out.mono (λ _ _ => rfl) (λ g hg => by rw [hg]; exact ⟨Nat.le_refl _, hwr⟩))⟩
      case round =>
        obtain ⟨r, A, m, rfl, rfl, hr, hb2, ho2⟩ := hrel
        have HB2 := Lib.hid hb2
        clear hb2
        have hz2r := HB2.out.size
        by_cases hrl : r <= q
        . have hd : decide ((r : Int) <= (q : Int)) = true := by simp; omega
          go_wp2_with (at_make; refine wpList_make_full _ rfl _ _ 53 rfl wr.heap.size 3 i0 _ 1 Tryd.underlying53 hi hz0 hz1 _ _ _ _ q rfl rfl rfl rfl (by rw [hz2]; omega) (by unfold maxLen; omega) (Nat.le_refl _) ?_; intro w3 hown hgr)
          obtain ⟨ho3, hb3, hwl3⟩ := made_row_o hown hgr (by omega) (clsV a (r + 1))
          clear hown hgr hd
          obtain ⟨V2, hV2⟩ : ∃ V2, V2 = wr := ⟨_, rfl⟩
          rw [<- hV2] at ho3 hb3 hwl3 ho2 HB2 hz2r ⊢
          clear hV2
          have HC2 : Hid (∀ V, Below V2.heap.size V2 V -> RowV V (λ g => W0.heap.size <= g /\ g < V2.heap.size) (.slice A q m) (ints (clsRow q (cls a r)))) := Lib.hid (λ V hV => ho2.out.row.kept hV)
          go_loopw [8] (λ i wq => ∃ p : Nat, i = .int .i64 p /\ p <= q /\ Below V2.heap.size V2 wq /\ V2.heap.size < wq.heap.size /\ Hid (RowO wq (λ g => g = V2.heap.size) (.slice (some ⟨V2.heap.size, 0, none⟩) q q) ((List.range p).map (clsV a (r + 1)) ++ (List.replicate q (.int .i64 0 : Value)).drop p))) (λ i _ => q - (intOf i).toNat)
          case atStart => exact ⟨0, rfl, Nat.zero_le _, hb3, hwl3, Lib.hid ho3⟩
          case round =>
            obtain ⟨p, rfl, hp, hb4, hz4, ho4⟩ := hrel
            have HB4 := Lib.hid hb4
            clear hb4
            have HB5 := Lib.hid (HB2.out.trans (HB4.out.mono HB2.out.size))
            by_cases hpl : p < q
            . -- the state itself first
              obtain ⟨g, hg, -, hgl, hst⟩ := ho4.out.set (j := p) (by simp; omega)
              cases hg
              obtain ⟨⟨x0, hx0⟩, hf0, hset⟩ := hst wr rfl
              obtain ⟨W5, hW5⟩ : ∃ W5, W5 = wr.setCell ⟨V2.heap.size, p, none⟩ (.int .i64 (p : Int)) := ⟨_, rfl⟩
              have HO5 : Hid (RowO W5 (λ g => g = V2.heap.size) (.slice (some ⟨V2.heap.size, 0, none⟩) q q) (((List.range p).map (clsV a (r + 1)) ++ (List.replicate q (.int .i64 0 : Value)).drop p).set p (.int .i64 (p : Int)))) := Lib.hid (by rw [hW5]; exact hset _)
              have HB6 : Hid (Below V2.heap.size V2 W5) := Lib.hid (by rw [hW5]; exact HB4.out.setCell (p := ⟨V2.heap.size, p, none⟩) (Nat.le_refl _) _)
              have hz5 : V2.heap.size < W5.heap.size := by rw [hW5]; simpa [World.setCell] using hz4
              have HW5 := Lib.hid hW5
              clear hset hst hW5
              go_wp2_with fail
              rw [<- HW5.out]
              clear hx0 hf0
              go_loopw [9] (λ i wp => ∃ k : Nat, i = .int .i64 k /\ k <= p /\ Below W5.heap.size W5 wp /\ Hid (∀ k', k' < k -> same a (cls a r) k' p = false)) (λ i _ => p - (intOf i).toNat)
              case atStart => exact ⟨0, rfl, Nat.zero_le _, Below.refl _ _, Lib.hid (λ k' hk => absurd hk (Nat.not_lt_zero _))⟩
              case round =>
                obtain ⟨k, rfl, hk, hb7, hall⟩ := hrel
                have HB7 := Lib.hid hb7
                clear hb7
                have HBV := Lib.hid (HB6.out.trans (HB7.out.mono HB6.out.size))
                have HBW := Lib.hid (HB0.out.trans ((HB2.out.trans (HBV.out.mono HB2.out.size)).mono HB0.out.size))
                by_cases hkp : k < p
                . obtain ⟨bx, hbx⟩ : ∃ bx, bx = same a (cls a r) k p := ⟨_, rfl⟩
                  have HS := Lib.hid (HSame.out wr HBW.out r _ _ k p (HC2.out wr HBV.out) (by omega) hpl)
                  rw [<- hbx] at HS
                  have HBX := Lib.hid hbx
                  obtain ⟨c0, c1⟩ := HX.out.kept (HB2.out.trans (HBV.out.mono HB2.out.size))
                  clear hbx
                  go_wp2_with fail
                  go_at_call 115
                  refine HS.out.mono ?_
                  rintro e w8 ⟨rfl, hb8⟩
                  have HB8 := Lib.hid (HB7.out.trans (hb8.mono HB7.out.size))
                  clear hb8 c0 c1
                  cases bx with
                  | false =>
                    go_wp2_with fail
                    go_roundw
                    case rel => exact ⟨k + 1, by go_num, by omega, HB8.out, Lib.hid (λ k' hk' => by
                      by_cases e : k' = k
                      . rw [e]; exact HBX.out.symm
                      . exact hall.out k' (by omega))⟩
                    case measure => simp [intOf]; omega
                  | true =>
                    have hcl : cls a (r + 1) p = k := by
                      obtain ⟨f1, f2, f3⟩ := HFirst.out r p
                      show firstOf a (cls a r) p = k
                      rcases Nat.lt_trichotomy (firstOf a (cls a r) p) k with hl | he | hl
                      . have := hall.out _ hl
                        rw [f2] at this
                        cases this
                      . exact he
                      . have := f3 k hl
                        rw [<- HBX.out] at this
                        cases this
                    obtain ⟨g9, hg9, -, hgl9, hst9⟩ := (HO5.out.mono (w' := w8) (S' := λ g => g = V2.heap.size) (λ g hg => HB8.out.block g (by rw [hg]; exact hz5)) (λ _ h => h)).set (j := p) (by simp; omega)
                    cases hg9
                    obtain ⟨⟨x9, hx9⟩, hf9, hset9⟩ := hst9 w8 rfl
                    have HO9 : Hid (RowO (w8.setCell ⟨V2.heap.size, p, none⟩ (.int .i64 (k : Int))) (λ g => g = V2.heap.size) (.slice (some ⟨V2.heap.size, 0, none⟩) q q) ((List.range (p + 1)).map (clsV a (r + 1)) ++ (List.replicate q (.int .i64 0 : Value)).drop (p + 1))) := Lib.hid (by
                      have h1 := hset9 (clsV a (r + 1) p)
                      rw [List.set_set, set_zero _ q p hpl] at h1
                      rw [show clsV a (r + 1) p = .int .i64 (k : Int) by simp [clsV, hcl]] at h1
                      exact h1)
                    have HB9 := Lib.hid ((HB6.out.trans (HB8.out.mono HB6.out.size)).setCell (p := ⟨V2.heap.size, p, none⟩) (Nat.le_refl _) (.int .i64 (k : Int)))
                    have hz9 : V2.heap.size < (w8.setCell ⟨V2.heap.size, p, none⟩ (.int .i64 (k : Int))).heap.size := by have := HB8.out.size; simp [World.setCell]; omega
                    have HZ9 := Lib.hid hz9
                    clear hset9 hst9 hz9 hcl
                    go_wp2_with fail
                    go_roundw
                    case rel => exact ⟨p + 1, by go_num, by omega, HB9.out, HZ9.out, HO9.out⟩
                    case measure => simp [intOf]; omega
                . obtain rfl : k = p := by omega
                  have hcl : cls a (r + 1) k = k := by
                    obtain ⟨f1, f2, f3⟩ := HFirst.out r k
                    show firstOf a (cls a r) k = k
                    rcases Nat.lt_or_eq_of_le f1 with hl | he
                    . have := hall.out _ hl
                      rw [f2] at this
                      cases this
                    . exact he
                  have HO9 : Hid (RowO wr (λ g => g = V2.heap.size) (.slice (some ⟨V2.heap.size, 0, none⟩) q q) ((List.range (k + 1)).map (clsV a (r + 1)) ++ (List.replicate q (.int .i64 0 : Value)).drop (k + 1))) := Lib.hid (by
                    have h1 := HO5.out.mono (w' := wr) (S' := λ g => g = V2.heap.size) (λ g hg => HB7.out.block g (by rw [hg]; exact hz5)) (λ _ h => h)
                    rw [show (.int .i64 (k : Int) : Value) = clsV a (r + 1) k by simp [clsV, hcl], set_zero _ q k hpl] at h1
                    exact h1)
                  have hz9 : V2.heap.size < wr.heap.size := Nat.lt_of_lt_of_le hz5 HB7.out.size
                  have hd : decide ((k : Int) < (k : Int)) = false := by simp
                  clear hcl
                  go_wp2_with fail
                  go_roundw
                  case rel => exact ⟨k + 1, by go_num, by omega, HBV.out, hz9, HO9.out⟩
                  case measure => simp [intOf]; omega
            . obtain rfl : p = q := by omega
              have hd : decide ((p : Int) < (p : Int)) = false := by simp
              have HO9 : Hid (RowO wr (λ g => W0.heap.size <= g /\ g < wr.heap.size) (.slice (some ⟨V2.heap.size, 0, none⟩) p p) (ints (clsRow p (cls a (r + 1))))) := Lib.hid (by
                have h1 := ho4.out
                rw [zero_all] at h1
                rw [ints_cls]
                exact h1.mono (λ _ _ => rfl) (λ g hg => by rw [hg]; exact ⟨hz2r, hz4⟩))
              go_wp2_with fail
              go_roundw
              case rel => exact ⟨r + 1, _, _, by go_num, rfl, by omega, HB5.out, HO9.out⟩
              case measure => simp [intOf]; omega
        . obtain rfl : r = q + 1 := by omega
          have hd : decide (((q + 1 : Nat) : Int) <= (q : Int)) = false := by simp; omega
          have HR : Hid (RowO wr (OwnB w wr) (.slice A q m) (ints (clsRow q (cls a (q + 1))))) := Lib.hid (ho2.out.mono (λ _ _ => rfl) (λ g hg => ⟨Nat.le_trans HB0.out.size hg.1, hg.2⟩))
          go_wp2_with fail
          go_ret
          exact ⟨_, rfl, HR.out, HB0.out.trans (HB2.out.mono HB0.out.size)⟩
theorem specMin_any (va vn : Value) (a : Au) (S : Nat -> Prop) (w : World) (hw : a.wf) (hn : a.n <= 2000) (h : DfaV w S va vn (fieldsOf a)) :
    Calls Tryd.prog 90 #[.agg #[va, vn]] w λ e w' => ∃ m, Canon m /\ Eqv m 0 a 0 /\ m.n <= a.n /\ CopyD (fieldsOf m) w e w' := by
  obtain ⟨i0, hi, hz0, hz1, hz2⟩ := info_parts intInfo
  obtain ⟨b0, hbi, hb0, hb1, hb2⟩ := info_parts boolInfo
  obtain ⟨r0, hri, hr0, hr1, hr2⟩ := info_parts rowInfo
  obtain ⟨ad, cc, ad', cc', hva, hvn, hnl, hA, hT⟩ := h.cells hw.1
  subst hva
  subst hvn
  obtain ⟨W0, hW0⟩ : ∃ W0, W0 = (w.alloc (.cells #[.slice (some ad) a.n cc, .slice (some ad') a.n cc'] 27)).alloc (.cells #[.slice none 0 0, .slice none 0 0] 27) := ⟨_, rfl⟩
  have HB0 : Hid (Below w.heap.size w W0) := Lib.hid (by rw [hW0]; exact ((Below.refl _ _).alloc (Nat.le_refl _) _).alloc (by simp) _)
  have HX : Hid (Bx2 W0 w.heap.size (.slice (some ad) a.n cc) (.slice (some ad') a.n cc')) := Lib.hid (by
    have k := box2_kept (w := w) (w1 := W0) (a := .slice (some ad) a.n cc) (b := .slice (some ad') a.n cc') (t := 27) (by rw [hW0]; exact (Below.refl _ _).alloc (by simp) _)
    exact ⟨k.2.1, k.2.2.1⟩)
  have HY : Hid (W0.heap[w.heap.size + 1]? = some (.cells #[.slice none 0 0, .slice none 0 0] 27 (0, 0))) := Lib.hid (by rw [hW0]; exact three2 w _ _ _ _)
  have HCls := Lib.hid (specCls_any (.slice (some ad) a.n cc) (.slice (some ad') a.n cc') a S W0 hw hn (h.kept HB0.out))
  have HMath := Lib.hid hw
  have HKeys : Hid (∀ t, (∀ x ∈ ords (clsS a) (clsG a) t, x < a.n) /\ (ords (clsS a) (clsG a) t).length <= a.n) := Lib.hid (λ t => ⟨λ x hx => (min_keys hw t x hx).1, nodup_len a.n _ (ords_nodup _) (λ x hx => (min_keys hw t x hx).1)⟩)
  obtain ⟨n, hne⟩ : ∃ n, n = a.n := ⟨_, rfl⟩
  have HA : Hid (∀ q, q < n -> w.cell? (ad.add q) = some (.bool (a.A q))) := Lib.hid (by rw [hne]; exact hA)
  have HT : Hid (∀ x, x < n -> ∃ ad2 c2, w.cell? (ad'.add x) = some (.slice (some ad2) 3 c2) /\ ∀ k, k < 3 -> w.cell? (ad2.add k) = some (.int .i64 ((a.T x k : Nat) : Int))) := Lib.hid (by rw [hne]; exact hT)
  have HWf : Hid (∀ x k, x < n -> k < 3 -> a.T x k < n) := Lib.hid (by rw [hne]; exact hw.2)
  have hn0 : 0 < n := by have := hw.1; omega
  rw [<- hne] at hW0 HX hn hnl HCls HKeys
  rw [<- hne]
  have HN := Lib.hid hne
  clear h hA hT hw hne
  have hc00 := (Lib.hid HX.out.1).out
  have hc01 := (Lib.hid HX.out.2).out
  rw [hW0] at hc00 hc01
  go_enter Tryd.func90, Tryd.ntmps90
  go_wp2_with fail
  go_at_call 108
  rw [<- hW0]
  refine HCls.out.mono ?_
  rintro e w1 ⟨vc, rfl, hoc, hbc⟩
  obtain ⟨adc, mc, rfl, hcl⟩ := hoc.row.cls hn0
  have HC : Hid (∀ q, q < n -> w1.cell? (adc.add q) = some (.int .i64 ((cls a (n + 1) q : Nat) : Int))) := Lib.hid hcl
  have HB1 := Lib.hid hbc
  have hcl0 := HC.out 0 hn0
  rw [show adc.add 0 = adc by cases adc; rfl] at hcl0
  obtain ⟨x0, hx0⟩ : ∃ x0 : Int, x0 = ((cls a (n + 1) 0 : Nat) : Int) := ⟨_, rfl⟩
  rw [<- hx0] at hcl0
  have HX0 := Lib.hid hx0
  obtain ⟨HS, HSB⟩ := One.start w1 x0
  have HSt := Lib.hid HS
  have HStB := Lib.hid HSB
  have hs1 : w.heap.size + 1 < w1.heap.size := Nat.lt_of_lt_of_le (Array.getElem?_eq_some_iff.1 HY.out).1 HB1.out.size
  clear hoc hbc hcl hx0 HS HSB hc00 hc01
  go_wp2_with fail
  clear hcl0
  have HE0 : Hid (ordI (clsS a) (clsG a) (3 * 0) = [x0]) := Lib.hid (by rw [HX0.out, HN.out]; rfl)
  have HG : Hid (∀ x k, clsG a x k = cls a (n + 1) (a.T x k)) := Lib.hid (by rw [HN.out]; exact λ _ _ => rfl)
  obtain ⟨B, hBe⟩ : ∃ B, B = w1.heap.size := ⟨_, rfl⟩
  rw [<- hBe] at hs1 HSt HStB
  have HBe := Lib.hid hBe
  go_loopw [4, 6] (λ vo iv wr => ∃ (i : Nat) (va' vn' : Value) (us : List Value) (K : Nat -> Nat -> Prop), iv = .int .i64 i /\ i <= n /\ us.length = i /\ Hid (Below B w1 wr) /\ Hid (∀ j, j < i -> j < (ords (clsS a) (clsG a) (3 * j)).length) /\ Hid (One B wr (B + 1) va' vn' ((List.range i).map λ j => a.A (keyI (clsS a) (clsG a) j)) us ((List.range i).map λ j => ints (rowI (clsS a) (clsG a) j 3)) K vo (ordI (clsS a) (clsG a) (3 * i)))) (λ _ iv _ => n + 1 - (intOf iv).toNat)
  case atStart => exact ⟨0, _, _, [], _, rfl, Nat.zero_le _, rfl, by rw [hBe] at HStB ⊢; exact HStB, Lib.hid (λ j hj => absurd hj (Nat.not_lt_zero _)), by rw [HE0.out]; rw [hBe] at HSt ⊢; exact HSt⟩
  clear HSt HStB hBe
  case round =>
    obtain ⟨i, va', vn', us, K, rfl, hin, hus, HBr, hon, ho⟩ := hrel
    obtain ⟨accs, hacc⟩ : ∃ accs, accs = (List.range i).map λ j => a.A (keyI (clsS a) (clsG a) j) := ⟨_, rfl⟩
    obtain ⟨rss, hrss⟩ : ∃ rss, rss = (List.range i).map λ j => ints (rowI (clsS a) (clsG a) j 3) := ⟨_, rfl⟩
    obtain ⟨lo, hlo⟩ : ∃ lo, lo = ordI (clsS a) (clsG a) (3 * i) := ⟨_, rfl⟩
    rw [<- hacc, <- hrss, <- hlo] at ho
    have HAc := Lib.hid (And.intro hacc hrss)
    have hll : lo.length <= n := by rw [hlo, ordI_length]; exact (HKeys.out _).2
    have HLo := Lib.hid hlo
    clear hacc hrss hlo
    obtain ⟨-, Ao, co, rfl⟩ := (ho.out.ord.row (by omega)).row.ints_shape
    by_cases hlt : i < lo.length
    . have hd : decide ((i : Int) < (lo.length : Int)) = true := by simp; omega
      have HTwo := Lib.hid ho.out.two
      have HTw0 : Hid (Two B (wr.alloc (.cells #[] 3)) (B + 1) va' vn' accs us rss K (.slice Ao lo.length co) (ordI (clsS a) (clsG a) (3 * i + 0)) (.slice (some ⟨wr.heap.size, 0, none⟩) 0 0) (rowI (clsS a) (clsG a) i 0)) := by
        rw [show 3 * i + 0 = 3 * i from rfl, <- HLo.out]
        exact HTwo
      clear HTwo
      have HBa := Lib.hid (HBr.out.alloc (Nat.le_of_lt ho.out.base) (.cells #[] 3))
      go_wp2_with fail
      clear hd ho
      go_loopw [4, 7, 8] (λ vo vr kv wq => ∃ k : Nat, kv = .int .i64 k /\ k <= 3 /\ Hid (Below B w1 wq) /\ Hid (Two B wq (B + 1) va' vn' accs us rss K vo (ordI (clsS a) (clsG a) (3 * i + k)) vr (rowI (clsS a) (clsG a) i k))) (λ _ _ kv _ => 3 - (intOf kv).toNat)
      case atStart => exact ⟨0, rfl, Nat.zero_le _, HBa, HTw0⟩
      case round =>
        obtain ⟨k, rfl, hk, HBq, HQ⟩ := hrel
        clear HTw0 HBa
        by_cases hk3 : k < 3
        . have hi1 : i < (ords (clsS a) (clsG a) (3 * i)).length := by rw [<- ordI_length, <- HLo.out]; exact hlt
          obtain ⟨st1, st2, st3⟩ := ordI_step (s0 := clsS a) (g := clsG a) hi1 hk3
          have hxn : keyI (clsS a) (clsG a) i < n := (HKeys.out (3 * i)).1 _ (getD_mem hi1)
          have hln : (ordI (clsS a) (clsG a) (3 * i + k)).length <= n := by rw [ordI_length]; exact (HKeys.out _).2
          have hln' : (ordI (clsS a) (clsG a) (3 * i + (k + 1))).length <= n := by rw [ordI_length]; exact (HKeys.out _).2
          have hil : i < (ordI (clsS a) (clsG a) (3 * i + k)).length := by rw [ordI_length]; exact Nat.lt_of_lt_of_le hi1 (ords_prefix (by omega)).length_le
          obtain ⟨x, hx⟩ : ∃ x, x = keyI (clsS a) (clsG a) i := ⟨_, rfl⟩
          obtain ⟨lq, hlq⟩ : ∃ lq, lq = ordI (clsS a) (clsG a) (3 * i + k) := ⟨_, rfl⟩
          obtain ⟨lp, hlp⟩ : ∃ lp, lp = ordI (clsS a) (clsG a) (3 * i + (k + 1)) := ⟨_, rfl⟩
          rw [<- hx, <- hlq] at st1
          rw [<- hx, <- hlq, <- hlp, HG.out] at st2
          rw [<- hx, <- hlp, HG.out] at st3
          rw [<- hx] at hxn
          rw [<- hlq] at hln hil HQ
          rw [<- hlp] at hln'
          have HLp := Lib.hid hlp
          clear hx hlq hlp
          obtain ⟨ado, ca, rfl, hco⟩ := Two.cell_row HQ.out.one.ord (by omega) hil
          rw [st1] at hco
          obtain ⟨ad2, c2, hr2, hr3⟩ := HT.out x hxn
          have hr4 := hr3 k hk3
          have htn := HWf.out x k hxn hk3
          obtain ⟨y, hy⟩ : ∃ y, y = a.T x k := ⟨_, rfl⟩
          rw [<- hy] at st2 st3 htn hr4
          have hq0 := HC.out y htn
          obtain ⟨q, hq⟩ : ∃ q : Int, q = ((cls a (n + 1) y : Nat) : Int) := ⟨_, rfl⟩
          rw [<- hq] at st2 st3 hq0
          obtain ⟨z, hz⟩ : ∃ z, z = findV lq q := ⟨_, rfl⟩
          rw [<- hz] at st2
          have HS2 := Lib.hid st2
          obtain ⟨tt, htt⟩ : ∃ tt : Int, tt = (toI (clsS a) (clsG a) i k : Int) := ⟨_, rfl⟩
          rw [<- htt] at st3
          have HTt := Lib.hid htt
          have HS3 := Lib.hid st3
          have hrl : (rowI (clsS a) (clsG a) i k).length <= 3 := by rw [rowI_length]; omega
          have HFind := Lib.hid (λ V (hV : Below wr.heap.size wr V) => specFind_below q HQ.out.one.ord (by omega) hV)
          rw [<- hz] at HFind
          clear hz
          have upw := λ {ad : Addr} {u : Value} (hc : w.cell? ad = some u) => ((HB0.out.trans ((HB1.out.trans (HBq.out.mono (by rw [HBe.out]; exact HB1.out.size))).mono HB0.out.size)).cell (cell_in hc)).trans hc
          have g2 := upw hr2
          have g3 := upw hr4
          have g4 := (HBq.out.cell (by rw [HBe.out]; exact cell_in hq0)).trans hq0
          have g5 := (HX.out.kept (HB1.out.trans (HBq.out.mono (by rw [HBe.out]; exact HB1.out.size)))).2
          have s1 : (x : Int) < (n : Int) := by omega
          have s2 : (0 : Int) <= (x : Int) := by omega
          have s3 : (y : Int) < (n : Int) := by omega
          have s4 : (0 : Int) <= (y : Int) := by omega
          have s5 : (i : Int) < (lq.length : Int) := by omega
          have s6 : (0 : Int) <= (i : Int) := by omega
          have s7 : (k : Int) < 3 := by omega
          have s8 : (0 : Int) <= (k : Int) := by omega
          have hd : decide ((k : Int) < 3) = true := by simp; omega
          clear htt st1 st2 st3 hr2 hr3 hr4 hq0 hq hy upw
          go_wp2_with fail
          go_quiet (fail)
          clear g2 g3 g4 g5 hco
          go_wp2_with fail
          go_at_call 39
          refine (HFind.out _ (below_draws (Below.refl _ _) _)).mono ?_
          rintro e w8 ⟨rfl, hb8⟩
          have HB8 := Lib.hid (HBq.out.grown (grown_of hb8) (Nat.le_of_lt HQ.out.one.base) (λ g e => by cases e))
          have HQ8 := Lib.hid (HQ.out.below hb8)
          clear hb8 hd
          by_cases hzz : z < 0
          . have hd : decide (z < 0) = true := by simp [hzz]
            have hap := HS2.out.1 hzz
            have HAp := Lib.hid hap
            have hbw : B <= w8.heap.size := Nat.le_of_lt HQ8.out.one.base
            clear hap hzz
            go_wp2_with (at_builtin; refine wpList_append_own_at _ rfl (.tmp 46) (.tmp 48) 53 rfl B 3 i0 (.int .i64 0) 1 8 Tryd.underlying53 hi hz0 hz1 hz2 rfl (by decide) _ _ _ rfl (HQ8.out.one.ord.alloc _) ⟨w8.heap.size, 0, none⟩ 1 1 [.int .i64 q] rfl rfl (cell_one_new _ _ _) (by simp [Value.oneCell']) (by unfold maxLen; omega) (by omega) (by simp; omega) ?_)
            intro v' w9 hown' hgrow hnil hat
            have HQ9 := Lib.hid ((HQ8.out.below ((Below.refl _ _).alloc (Nat.le_refl _) (.cells #[.int .i64 q] 3))).ord_push hown' hgrow (by simpa using hat))
            have HB9 := Lib.hid ((HB8.out.alloc hbw (.cells #[.int .i64 q] 3)).grown hgrow (by simp; omega) (λ g e => (HQ8.out.one.ord.lt g e).1))
            rw [<- HAp.out] at HQ9
            clear hown' hgrow hnil hat hd
            have HF2 := Lib.hid (λ V (hV : Below w9.heap.size w9 V) => specFind_below q HQ9.out.one.ord (by omega) hV)
            rw [HS3.out] at HF2
            go_wp2_with fail
            go_at_call 39
            refine (HF2.out _ (Below.refl _ _)).mono ?_
            rintro e wd ⟨rfl, hbd⟩
            have HBd := Lib.hid (HB9.out.grown (grown_of hbd) (Nat.le_of_lt HQ9.out.one.base) (λ g e => by cases e))
            have HQd := Lib.hid (HQ9.out.below hbd)
            have hbw2 : B <= wd.heap.size := Nat.le_of_lt HQd.out.one.base
            clear hbd
            go_wp2_with (at_builtin; refine wpList_append_own_at _ rfl (.tmp 50) (.tmp 54) 53 rfl B 3 i0 (.int .i64 0) 1 8 Tryd.underlying53 hi hz0 hz1 hz2 rfl (by decide) _ _ _ rfl (HQd.out.row.alloc _) ⟨wd.heap.size, 0, none⟩ 1 1 [.int .i64 tt] rfl rfl (cell_one_new _ _ _) (by simp [Value.oneCell']) (by unfold maxLen; omega) (by omega) (by simp; omega) ?_)
            intro v2 wf hown2 hgrow2 hnil2 hat2
            have HQf := Lib.hid ((HQd.out.below ((Below.refl _ _).alloc (Nat.le_refl _) (.cells #[.int .i64 tt] 3))).row_push hown2 hgrow2 (by simpa using hat2))
            have HBf := Lib.hid ((HBd.out.alloc hbw2 (.cells #[.int .i64 tt] 3)).grown hgrow2 (by simp; omega) (λ g e => (HQd.out.row.lt g e).1))
            rw [HTt.out, <- rowI_succ] at HQf
            clear hown2 hgrow2 hnil2 hat2
            go_wp2_with fail
            go_roundw
            case rel => exact ⟨k + 1, by go_num, by omega, HBf, by rw [<- HLp.out]; exact HQf⟩
            case measure => simp [intOf]; omega
          . have hd : decide (z < 0) = false := by simp; omega
            have hap := HS2.out.2 (by omega)
            subst hap
            have HQ9 := Lib.hid HQ8.out
            have HB9 := Lib.hid HB8.out
            clear hzz
            have HF2 := Lib.hid (λ V (hV : Below w8.heap.size w8 V) => specFind_below q HQ9.out.one.ord (by omega) hV)
            rw [HS3.out] at HF2
            go_wp2_with fail
            go_at_call 39
            refine (HF2.out _ (Below.refl _ _)).mono ?_
            rintro e wd ⟨rfl, hbd⟩
            have HBd := Lib.hid (HB9.out.grown (grown_of hbd) (Nat.le_of_lt HQ9.out.one.base) (λ g e => by cases e))
            have HQd := Lib.hid (HQ9.out.below hbd)
            have hbw2 : B <= wd.heap.size := Nat.le_of_lt HQd.out.one.base
            clear hbd
            go_wp2_with (at_builtin; refine wpList_append_own_at _ rfl (.tmp 50) (.tmp 54) 53 rfl B 3 i0 (.int .i64 0) 1 8 Tryd.underlying53 hi hz0 hz1 hz2 rfl (by decide) _ _ _ rfl (HQd.out.row.alloc _) ⟨wd.heap.size, 0, none⟩ 1 1 [.int .i64 tt] rfl rfl (cell_one_new _ _ _) (by simp [Value.oneCell']) (by unfold maxLen; omega) (by omega) (by simp; omega) ?_)
            intro v2 wf hown2 hgrow2 hnil2 hat2
            have HQf := Lib.hid ((HQd.out.below ((Below.refl _ _).alloc (Nat.le_refl _) (.cells #[.int .i64 tt] 3))).row_push hown2 hgrow2 (by simpa using hat2))
            have HBf := Lib.hid ((HBd.out.alloc hbw2 (.cells #[.int .i64 tt] 3)).grown hgrow2 (by simp; omega) (λ g e => (HQd.out.row.lt g e).1))
            rw [HTt.out, <- rowI_succ] at HQf
            clear hown2 hgrow2 hnil2 hat2
            go_wp2_with fail
            go_roundw
            case rel => exact ⟨k + 1, by go_num, by omega, HBf, by rw [<- HLp.out]; exact HQf⟩
            case measure => simp [intOf]; omega
        . obtain rfl : k = 3 := by omega
          obtain ⟨-, Ar, cr, rfl⟩ := (HQ.out.row.row (by rw [rowI_length]; omega)).row.ints_shape
          have hi1 : i < (ords (clsS a) (clsG a) (3 * i)).length := by rw [<- ordI_length, <- HLo.out]; exact hlt
          obtain ⟨hil, st1⟩ := ordI_at (s0 := clsS a) (g := clsG a) (t := 3 * i + 3) hi1 (by omega)
          have hxn : keyI (clsS a) (clsG a) i < n := (HKeys.out (3 * i)).1 _ (getD_mem hi1)
          have hln : (ordI (clsS a) (clsG a) (3 * i + 3)).length <= n := by rw [ordI_length]; exact (HKeys.out _).2
          obtain ⟨x, hx⟩ : ∃ x, x = keyI (clsS a) (clsG a) i := ⟨_, rfl⟩
          obtain ⟨lq, hlq⟩ : ∃ lq, lq = ordI (clsS a) (clsG a) (3 * i + 3) := ⟨_, rfl⟩
          rw [<- hx, <- hlq] at st1
          rw [<- hx] at hxn
          rw [<- hlq] at hln hil HQ
          have HLq := Lib.hid hlq
          have HXx := Lib.hid hx
          clear hlq hx
          obtain ⟨ado, ca, rfl, hco⟩ := Two.cell_row HQ.out.one.ord (by omega) hil
          rw [st1] at hco
          have hax := HA.out x hxn
          obtain ⟨b, hb⟩ : ∃ b, b = a.A x := ⟨_, rfl⟩
          rw [<- hb] at hax
          have HBx := Lib.hid hb
          have upw := λ {ad : Addr} {u : Value} (hc : w.cell? ad = some u) => ((HB0.out.trans ((HB1.out.trans (HBq.out.mono (by rw [HBe.out]; exact HB1.out.size))).mono HB0.out.size)).cell (cell_in hc)).trans hc
          have g2 := upw hax
          have g5 := (HX.out.kept (HB1.out.trans (HBq.out.mono (by rw [HBe.out]; exact HB1.out.size)))).1
          obtain ⟨e0, e1, f0, f1⟩ := box2_facts HQ.out.one.out.box
          rw [HBe.out] at e0 e1 f0 f1
          have HE1 := Lib.hid (And.intro e1 f1)
          have s1 : (x : Int) < (n : Int) := by omega
          have s2 : (0 : Int) <= (x : Int) := by omega
          have s5 : (i : Int) < (lq.length : Int) := by omega
          have s6 : (0 : Int) <= (i : Int) := by omega
          have hbw : B <= wr.heap.size := Nat.le_of_lt HQ.out.one.base
          clear hax hb st1 upw e1 f1
          have HQal := Lib.hid ((HQ.out.below ((Below.refl _ _).alloc (Nat.le_refl _) (.cells #[.bool b] 4))).below (Below.refl _ _).drew)
          have hbl : accs.length <= 2000 := by rw [HAc.out.1]; simp; omega
          obtain ⟨y1, -, y3, -⟩ := box2_facts (HQ.out.below ((Below.refl _ _).alloc (Nat.le_refl _) (.cells #[.bool b] 4))).one.out.box
          obtain ⟨y5, -, y7, -⟩ := box2_facts HQal.out.one.out.box
          rw [HBe.out] at y1 y3 y5 y7
          obtain ⟨Aa, qa, hva⟩ := (RowO.of_owns HQ.out.one.out.acc (by omega)).row.shape
          rw [bools_length] at hva
          subst hva
          go_upto_region 15 with fail
          go_cut [] from 17 to 74 (λ wc => ∃ va2, Hid (Two B wc (B + 1) va2 vn' (accs ++ [b]) us rss K (.slice (some ado) lq.length ca) lq (.slice Ar (rowI (clsS a) (clsG a) i 3).length cr) (rowI (clsS a) (clsG a) i 3)) /\ Hid (Below B w1 wc))
          case first =>
            go_region_law (refine step_append_own_at rfl (.tmp 57) (.tmp 66) 24 rfl B 4 b0 (.bool false) 1 1 Tryd.underlying24 hbi hb0 hb1 hb2 rfl (by decide) _ _ _ rfl (HQ.out.one.out.acc.alloc _).drew ⟨wr.heap.size, 0, none⟩ 1 1 [.bool b] rfl rfl (cell_one_new wr _ _) (by simp [Value.oneCell']) (by unfold maxLen; omega) (by omega) (by simp; omega) ?_; intro v' w9 hown' hgrow hat; obtain ⟨g', cap', rfl⟩ := own_succ hown'; have HB9 := Lib.hid (((HBq.out.alloc hbw (.cells #[.bool b] 4)).drew.grown hgrow (by simp [World.drew]; omega) (λ g e => (HQal.out.one.out.acc.lt g e).1)).setCell (p := ⟨B + 1, 0, none⟩) (Nat.le_succ _) (.slice (some ⟨g', 0, none⟩) (accs.length + 1) cap')); obtain ⟨z1, z2, HQ9⟩ := HQal.out.acc_push hown' hgrow; obtain ⟨z0, z1⟩ := z1; have HQ9 := Lib.hid HQ9; rw [HBe.out] at z1 z2)
            all_goals
              clear hown' hgrow hat z1 z2
              go_wp2_with fail
              go_meet
              rw [<- HBe.out]
              exact ⟨_, HQ9, HB9⟩
          case rest =>
            obtain ⟨va2, HQ9, HB9⟩ := hcut
            clear e0 f0 HE1 y1 y3 y5 y7 g2 g5 hco
            obtain ⟨e0, e1, f0, f1⟩ := box2_facts HQ9.out.one.out.box
            have hbw5 : B <= wc.heap.size := Nat.le_of_lt HQ9.out.one.base
            rw [HBe.out] at e1 f1
            clear e0 f0
            go_wp2_with (at_builtin; refine wpList_append_own_at _ rfl (.tmp 70) (.tmp 72) 25 rfl B 53 r0 (.slice none 0 0) 1 24 Tryd.underlying25 hri hr0 hr1 hr2 rfl (by decide) _ _ _ rfl (HQ9.out.one.out.nxt.alloc _) ⟨wc.heap.size, 0, none⟩ 1 1 [.slice Ar (rowI (clsS a) (clsG a) i 3).length cr] rfl rfl (cell_one_new _ _ _) (by simp [Value.oneCell']) (by unfold maxLen; omega) (by omega) (by simp; omega) ?_)
            intro v' wa hown' hgrow hnil hat
            obtain ⟨gn, capn, rfl⟩ := own_succ hown'
            have HQa := HQ9.out.below ((Below.refl _ _).alloc (Nat.le_refl _) (.cells #[.slice Ar (rowI (clsS a) (clsG a) i 3).length cr] 53))
            obtain ⟨⟨z0, z1⟩, z2, HQb⟩ := HQa.nxt_push (vn' := .slice (some ⟨gn, 0, none⟩) (i + 1) capn) (by rw [rowI_length]; omega) (by rw [hus]; exact hown') hgrow
            rw [HBe.out] at z1 z2
            have HBb := Lib.hid (((HB9.out.alloc hbw5 (.cells #[.slice Ar (rowI (clsS a) (clsG a) i 3).length cr] 53)).grown hgrow (by simp; omega) (λ g e => (HQ9.out.one.out.nxt.lt g e).1)).setCell (p := ⟨B + 1, 1, none⟩) (Nat.le_succ _) (.slice (some ⟨gn, 0, none⟩) (i + 1) capn))
            have HQb := Lib.hid HQb
            have HON : Hid (∀ j, j < i + 1 -> j < (ords (clsS a) (clsG a) (3 * j)).length) := Lib.hid (λ j hj => by
              rcases Nat.lt_or_eq_of_le (Nat.le_of_lt_succ hj) with h | h
              . exact hon.out j h
              . rw [h]; exact hi1)
            have HA1 : Hid (accs ++ [b] = (List.range (i + 1)).map λ j => a.A (keyI (clsS a) (clsG a) j)) := Lib.hid (by rw [List.range_succ, List.map_append, HAc.out.1, HBx.out, HXx.out]; rfl)
            have HR1 : Hid (rss ++ [ints (rowI (clsS a) (clsG a) i 3)] = (List.range (i + 1)).map λ j => ints (rowI (clsS a) (clsG a) j 3)) := Lib.hid (by rw [List.range_succ, List.map_append, HAc.out.2]; rfl)
            have hul : (us ++ [Value.slice Ar (rowI (clsS a) (clsG a) i 3).length cr]).length = i + 1 := by simp [hus]
            rw [HA1.out, HR1.out] at HQb
            have HUl := Lib.hid hul
            clear hown' hgrow hnil hat HQa hul
            go_wp2_with fail
            go_roundw
            case rel => exact ⟨i + 1, _, _, us ++ [Value.slice Ar (rowI (clsS a) (clsG a) i 3).length cr], _, by go_num, by omega, HUl.out, by first | exact HBb | (rw [HBe.out] at HBb ⊢; exact HBb), HON, by rw [show 3 * (i + 1) = 3 * i + 3 by omega, <- HLq.out]; first | exact HQb | (rw [HBe.out] at HQb ⊢; exact HQb)⟩
            case measure => simp [intOf]; omega
    . have hE := ends_intro (s0 := clsS a) (g := clsG a) (N := i) hon.out (by rw [<- HLo.out]; exact hlt)
      obtain ⟨m1, m2, m3⟩ := min_found HMath.out hE
      obtain ⟨f1, f2⟩ := ends_fields hE a.A
      have HM := Lib.hid (And.intro m1 (And.intro m2 m3))
      have hbl : accs.length <= 2000 := by rw [HAc.out.1]; simp; omega
      have HD : Hid (DfaO wr (λ g => B <= g /\ g < wr.heap.size) va' vn' (fieldsOf (found (clsS a) (clsG a) a.A i))) := Lib.hid (ho.out.out.whole (by rw [HAc.out.1]; exact f1) (by
        rw [HAc.out.2]
        show intss (nxtOf (found (clsS a) (clsG a) a.A i)) = _
        rw [f2]
        simp [intss]) (by omega) (by omega))
      have hva := (RowO.of_owns ho.out.out.acc (by omega)).row.shape
      have hvn := (RowO.of_owns ho.out.out.nxt (by omega)).row.shape
      obtain ⟨A1, q1, rfl⟩ := hva
      obtain ⟨A2, q2, hvn2⟩ := hvn
      rw [hus] at hvn2
      subst hvn2
      obtain ⟨e0, e1, f0, f1⟩ := box2_facts ho.out.out.box
      have HBW := Lib.hid (HB1.out.trans (HBr.out.mono (by rw [HBe.out]; exact HB1.out.size)))
      have hyb := (HBW.out.block _ (Array.getElem?_eq_some_iff.1 HY.out).1).trans HY.out
      obtain ⟨c0, c1, k0, k1⟩ := box2_facts hyb
      have hd : decide ((i : Int) < (lo.length : Int)) = false := by simp; omega
      rw [HBe.out] at e0 e1
      obtain ⟨hcl, hsz, hot, hBl⟩ := put2 (k := .slice A1 (bools accs).length q1) (l := .slice A2 i q2) c0 c1
      obtain ⟨hc0, hc1⟩ := hcl
      have HOt := Lib.hid (And.intro hsz (And.intro hot hBl))
      clear m1 m2 m3 f0 f1 f2 hE hsz hot hBl hyb
      go_wp2_with fail
      refine bodyPost_ret (v := .agg #[.slice A1 (bools accs).length q1, .slice A2 i q2]) (by simp [results, Tryd.results90, go_sem, hc0, hc1]) rfl ?_
      exact ⟨_, HM.out.1, HM.out.2.1, by rw [HN.out]; exact HM.out.2.2, _, _, rfl, HD.out.mono (λ g hg => HOt.out.2.1 g (by have := hg.1; omega)) (λ g hg => ⟨by have := hg.1; omega, by rw [HOt.out.1]; exact hg.2⟩) (by rw [HOt.out.1]; exact Nat.le_refl _), HOt.out.2.2 _ _ (HB0.out.trans (HBW.out.mono HB0.out.size)) (Nat.le_succ _)⟩
end Go.Proofs.YtiijlpmdnokjfaaDoor
namespace Go.Proofs.YtiijlpmdnokjfaaDoor
open Go.RowKit
theorem specMinD_any (va vn : Value) (d y : Dx) (S : Nat -> Prop) (w : World) (h : DfaV w S va vn d) (hy : minR d y) :
    Calls Tryd.prog 112 #[.agg #[va, vn]] w (CopyD y w) := by
  obtain ⟨⟨A, c, hA⟩, A', c', hA'⟩ := h.shape
  subst hA
  subst hA'
  obtain ⟨p, hp⟩ : ∃ p, p = d.acc.length := ⟨_, rfl⟩
  obtain ⟨p', hp'⟩ : ∃ p', p' = d.nxt.length := ⟨_, rfl⟩
  rw [<- hp, <- hp'] at h ⊢
  obtain ⟨W0, hW0⟩ : ∃ W0, W0 = (w.alloc (.cells #[.slice A p c, .slice A' p' c'] 27)).alloc (.cells #[.slice none 0 0, .slice none 0 0] 27) := ⟨_, rfl⟩
  have HB0 : Hid (Below w.heap.size w W0) := Lib.hid (by rw [hW0]; exact ((Below.refl _ _).alloc (Nat.le_refl _) _).alloc (by simp) _)
  have hx := (by
    have k := box2_kept (w := w) (w1 := W0) (a := .slice A p c) (b := .slice A' p' c') (t := 27) (by rw [hW0]; exact (Below.refl _ _).alloc (by simp) _)
    exact ⟨k.2.1, k.2.2.1⟩ : Bx2 W0 w.heap.size (.slice A p c) (.slice A' p' c'))
  have HX := Lib.hid hx
  have HY : Hid (W0.heap[w.heap.size + 1]? = some (.cells #[.slice none 0 0, .slice none 0 0] 27 (0, 0))) := Lib.hid (by rw [hW0]; exact three2 w _ _ _ _)
  have HV := Lib.hid (specValidD_any (.slice A p c) (.slice A' p' c') d S W0 (h.kept HB0.out))
  obtain ⟨b, hb⟩ : ∃ b, b = validD d := ⟨_, rfl⟩
  rw [<- hb] at HV
  obtain ⟨hc00, hc01⟩ := hx
  rw [hW0] at hc00 hc01
  have HH := Lib.hid h
  have HYy := Lib.hid hy
  have HBb := Lib.hid hb
  clear h hy hp hp' hb
  go_enter Tryd.func112, Tryd.ntmps112
  go_wp2_with fail
  go_at_call 13
  rw [<- hW0]
  refine HV.out.mono ?_
  rintro e w1 ⟨rfl, hb1⟩
  have HB1 := Lib.hid hb1
  obtain ⟨x0, x1⟩ := HX.out.kept hb1
  obtain ⟨c0, c1, k0, k1⟩ := box2_facts ((hb1.block _ (Array.getElem?_eq_some_iff.1 HY.out).1).trans HY.out)
  clear hc00 hc01 hb1 hW0
  cases b with
  | true =>
    have hv : validD d = true := HBb.out.symm
    obtain ⟨q1, q2, q3⟩ := fieldsOf_au hv
    have hm := HYy.out
    unfold minR at hm
    rw [if_pos hv] at hm
    have HM := Lib.hid (specMin_any (.slice A p c) (.slice A' p' c') (auD d) S w1 q1 (by omega) (by rw [<- q3]; exact (HH.out.kept HB0.out).kept HB1.out))
    have HMm := Lib.hid hm
    clear hv q1 q2 q3 hm
    go_wp2_with fail
    refine HM.out.mono ?_
    rintro e w2 ⟨m, m1, m2, m3, hcd⟩
    obtain ⟨m0, n1, n2, n3⟩ := HMm.out
    obtain rfl : y = fieldsOf m := by rw [n3]; exact fields_one n1 m1 (n2.swap m2)
    obtain ⟨A1, q1, A2, q2, rfl, ho, hb2⟩ := hcd.shape
    have HO := Lib.hid ho
    have HB2 := Lib.hid hb2
    have hlt := Nat.lt_of_lt_of_le (Array.getElem?_eq_some_iff.1 HY.out).1 HB1.out.size
    obtain ⟨e0, e1, f0, f1⟩ := box2_facts ((hb2.block _ hlt).trans ((HB1.out.block _ (Array.getElem?_eq_some_iff.1 HY.out).1).trans HY.out))
    obtain ⟨hcl, hsz, hot, hBl⟩ := put2 (k := .slice A1 (fieldsOf m).acc.length q1) (l := .slice A2 (fieldsOf m).nxt.length q2) e0 e1
    obtain ⟨hc0, hc1⟩ := hcl
    have HOt := Lib.hid (And.intro hsz (And.intro hot hBl))
    have HLt := Lib.hid hlt
    clear hsz hot hBl n1 n2 n3 m1 m2 m3 ho hb2 hcd x0 x1 c0 c1 k0 k1 hlt
    go_wp2_with fail
    refine bodyPost_ret (v := .agg #[.slice A1 (fieldsOf m).acc.length q1, .slice A2 (fieldsOf m).nxt.length q2]) (by simp [results, Tryd.results112, go_sem, hc0, hc1]) rfl ?_
    have h0 := HB0.out.size
    have h1 := HB1.out.size
    exact ⟨_, _, rfl, HO.out.mono (λ g hg => HOt.out.2.1 g (by have := hg.1; have := HLt.out; omega)) (λ g hg => ⟨by have := hg.1; omega, by rw [HOt.out.1]; exact hg.2⟩) (by rw [HOt.out.1]; exact Nat.le_refl _), HOt.out.2.2 _ _ (HB0.out.trans ((HB1.out.trans (HB2.out.mono h1)).mono h0)) (Nat.le_succ _)⟩
  | false =>
    have hy := HYy.out
    unfold minR at hy
    rw [<- HBb.out, if_neg (by decide)] at hy
    subst hy
    obtain ⟨hcl, hsz, hot, hBl⟩ := put2 (k := .slice none 0 0) (l := .slice none 0 0) c0 c1
    obtain ⟨hc0, hc1⟩ := hcl
    have HOt := Lib.hid hBl
    clear hsz hot hBl x0 x1
    go_wp2_with fail
    refine bodyPost_ret (v := .agg #[.slice none 0 0, .slice none 0 0]) (by simp [results, Tryd.results112, go_sem, hc0, hc1]) rfl ?_
    exact ⟨_, _, rfl, DfaO.empty _ _, HOt.out _ _ (HB0.out.trans (HB1.out.mono HB0.out.size)) (Nat.le_succ _)⟩
end Go.Proofs.YtiijlpmdnokjfaaDoor
namespace Go.Proofs.YtiijlpmdnokjfaaDoor
open Go.RowKit
theorem specCom_any (va vn : Value) (d y : Dx) (S : Nat -> Prop) (w : World) (h : DfaV w S va vn d) (hy : minR d y) :
    Calls Tryd.prog 102 #[.agg #[va, vn]] w (CopyD (comD y) w) := by
  obtain ⟨⟨A, c, hA⟩, A', c', hA'⟩ := h.shape
  subst hA
  subst hA'
  obtain ⟨p, hp⟩ : ∃ p, p = d.acc.length := ⟨_, rfl⟩
  obtain ⟨p', hp'⟩ : ∃ p', p' = d.nxt.length := ⟨_, rfl⟩
  rw [<- hp, <- hp'] at h ⊢
  obtain ⟨W0, hW0⟩ : ∃ W0, W0 = (w.alloc (.cells #[.slice A p c, .slice A' p' c'] 27)).alloc (.cells #[.slice none 0 0, .slice none 0 0] 27) := ⟨_, rfl⟩
  have HB0 : Hid (Below w.heap.size w W0) := Lib.hid (by rw [hW0]; exact ((Below.refl _ _).alloc (Nat.le_refl _) _).alloc (by simp) _)
  have hx := (by
    have k := box2_kept (w := w) (w1 := W0) (a := .slice A p c) (b := .slice A' p' c') (t := 27) (by rw [hW0]; exact (Below.refl _ _).alloc (by simp) _)
    exact ⟨k.2.1, k.2.2.1⟩ : Bx2 W0 w.heap.size (.slice A p c) (.slice A' p' c'))
  have HY : Hid (W0.heap[w.heap.size + 1]? = some (.cells #[.slice none 0 0, .slice none 0 0] 27 (0, 0))) := Lib.hid (by rw [hW0]; exact three2 w _ _ _ _)
  have HM := Lib.hid (specMinD_any (.slice A p c) (.slice A' p' c') d y S W0 (h.kept HB0.out) hy)
  obtain ⟨hc00, hc01⟩ := hx
  rw [hW0] at hc00 hc01
  clear h hy hp hp'
  go_enter Tryd.func102, Tryd.ntmps102
  go_wp2_with fail
  go_at_call 112
  rw [<- hW0]
  refine HM.out.mono ?_
  rintro e w2 hcd
  obtain ⟨A1, q1, A2, q2, rfl, ⟨Sa, Sn, hoa, hon, hsa, hsn⟩, hb2⟩ := hcd.shape
  clear hc00 hc01 hcd hW0
  obtain ⟨n, hn⟩ : ∃ n, n = y.acc.length := ⟨_, rfl⟩
  obtain ⟨n', hn'⟩ : ∃ n', n' = y.nxt.length := ⟨_, rfl⟩
  have HNn := Lib.hid hn
  have hbn := hoa.1
  rw [bools_length, <- hn] at hbn
  rw [<- hn] at hoa ⊢
  rw [<- hn'] at hon ⊢
  have h0 := hb2.size
  have h00 := HB0.out.size
  have hlt := (Array.getElem?_eq_some_iff.1 HY.out).1
  have HY2 : Hid (w2.heap[w.heap.size + 1]? = some (.cells #[.slice none 0 0, .slice none 0 0] 27 (0, 0))) := Lib.hid ((hb2.block _ hlt).trans HY.out)
  obtain ⟨Wx, hWx⟩ : ∃ Wx, Wx = w2.alloc (.cells #[.slice A1 n q1, .slice A2 n' q2] 27) := ⟨_, rfl⟩
  have HXB : Hid (Wx.heap[w2.heap.size]? = some (.cells #[.slice A1 n q1, .slice A2 n' q2] 27 (0, 0))) := Lib.hid (by
    rw [hWx]
    exact heap_alloc_new w2 _)
  have HXO : Hid (Below w2.heap.size w2 Wx) := Lib.hid (by
    rw [hWx]
    exact (Below.refl _ _).alloc (Nat.le_refl _) _)
  have HSa := Lib.hid hsa
  have HSn := Lib.hid hsn
  have HOa : Hid (RowO Wx Sa (.slice A1 n q1) (bools (turned y.acc 0))) := Lib.hid (by
    rw [turned_zero]
    exact hoa.mono (λ g hg => HXO.out.block g (hsa g hg).1.2) (λ _ h => h))
  have HOn := Lib.hid hon
  have HB2 := Lib.hid hb2
  clear hoa hon hsa hsn hn hn' hb2 hlt
  go_wp2_with fail
  rw [<- hWx]
  clear hWx
  go_loopw [4] (λ iv wr => ∃ i : Nat, iv = .int .i64 i /\ i <= n /\ Hid (Wx.heap.size = wr.heap.size /\ (∀ g, ¬ Sa g -> wr.heap[g]? = Wx.heap[g]?) /\ RowO wr Sa (.slice A1 n q1) (bools (turned y.acc i)) /\ Below w.heap.size w wr)) (λ iv _ => n - (intOf iv).toNat)
  case atStart => exact ⟨0, rfl, Nat.zero_le _, Lib.hid ⟨rfl, λ _ _ => rfl, HOa.out, HB0.out.trans ((HB2.out.trans (HXO.out.mono h0)).mono h00)⟩⟩
  case round =>
    obtain ⟨i, rfl, hi, HR⟩ := hrel
    have hnb : ¬ Sa w2.heap.size := λ e => Nat.lt_irrefl _ (HSa.out _ e).1.2
    obtain ⟨c0, c1, f0, f1⟩ := box2_facts ((HR.out.2.1 _ hnb).trans HXB.out)
    by_cases hlt : i < n
    . have hl : i < y.acc.length := by rw [<- HNn.out]; exact hlt
      obtain ⟨g, hg, hsg, hgl, hst⟩ := HR.out.2.2.1.set (j := i) (by rw [bools_length, turned_length]; exact hl)
      subst hg
      obtain ⟨⟨x0, hx0⟩, hf0, hset⟩ := hst wr rfl
      obtain ⟨ad, e, -, hcb⟩ := HR.out.2.2.1.row.boolD (j := i) (by rw [turned_length]; exact hl)
      cases e
      rw [turned_at hl] at hcb
      obtain ⟨b, hb⟩ : ∃ b, b = y.acc.getD i false := ⟨_, rfl⟩
      rw [<- hb] at hcb
      have HS := Lib.hid (by
        have k := hset (.bool (!(y.acc.getD i false)))
        rw [turned_step hl, <- hb] at k
        exact k)
      have HG := Lib.hid (And.intro hsg (And.intro (HSa.out g hsg).1.1 hgl))
      rw [show ((⟨g, 0, none⟩ : Addr).add i) = ⟨g, i, none⟩ by rcases i with _ | i <;> simp [Addr.add]] at hcb
      have HL := Lib.hid hlt
      have s1 : (i : Int) < (n : Int) := by omega
      have s2 : (0 : Int) <= (i : Int) := by omega
      clear hset hst hx0 hb hsg f0 f1 c1 hl
      go_wp2_with fail
      go_still_tail 10, (by kernel_rfl)
      go_wp2_with fail
      go_roundw
      case rel => exact ⟨i + 1, by go_num, by have := HL.out; omega, Lib.hid ⟨by rw [HR.out.1]; simp [World.setCell], λ h hh => (Below.heap_setCell _ _ _ _ (λ e => hh (by rw [e]; exact HG.out.1))).trans (HR.out.2.1 h hh), HS.out, (HR.out.2.2.2.setCell (p := ⟨g, i, none⟩) (by have := HG.out.2.1; show w.heap.size <= g; omega) _).drew⟩⟩
      case measure => have := HL.out; simp [intOf]; omega
    . obtain rfl : i = n := by omega
      have hd : decide ((i : Int) < (i : Int)) = false := by simp
      have hy1 : ¬ Sa (w.heap.size + 1) := λ e => by
        have := (HSa.out _ e).1.1
        have := (Array.getElem?_eq_some_iff.1 HY.out).1
        omega
      obtain ⟨e0, e1, k0, k1⟩ := box2_facts ((HR.out.2.1 _ hy1).trans ((HXO.out.block _ (Array.getElem?_eq_some_iff.1 HY2.out).1).trans HY2.out))
      obtain ⟨hcl, hsz, hot, hBl⟩ := put2 (k := .slice A1 i q1) (l := .slice A2 n' q2) e0 e1
      obtain ⟨hc0, hc1⟩ := hcl
      have HOt := Lib.hid (And.intro hsz (And.intro hot hBl))
      clear hsz hot hBl f0 f1 hnb hy1
      go_wp2_with fail
      refine bodyPost_ret (v := .agg #[.slice A1 i q1, .slice A2 n' q2]) (by simp [results, Tryd.results102, go_sem, hc0, hc1]) rfl ?_
      have hyl := (Array.getElem?_eq_some_iff.1 HY.out).1
      have hWz : w2.heap.size <= wr.heap.size := by rw [<- HR.out.1]; exact HXO.out.size
      refine ⟨_, _, rfl, ⟨Sa, Sn, ?_, ?_, λ g hg => ⟨⟨by have := (HSa.out g hg).1.1; omega, by rw [HOt.out.1]; have := (HSa.out g hg).1.2; omega⟩, (HSa.out g hg).2⟩, λ g hg => ⟨by have := (HSn.out g hg).1; omega, by rw [HOt.out.1]; have := (HSn.out g hg).2; omega⟩⟩, HOt.out.2.2 _ _ HR.out.2.2.2 (Nat.le_succ _)⟩
      . have k := HR.out.2.2.1.mono (w' := (wr.setCell ⟨w.heap.size + 1, 0, none⟩ (.slice A1 i q1)).setCell ⟨w.heap.size + 1, 1, none⟩ (.slice A2 n' q2)) (S' := Sa) (λ g hg => HOt.out.2.1 g (by have := (HSa.out g hg).1.1; omega)) (λ _ h => h)
        rw [HNn.out, turned_all] at k
        rw [HNn.out]
        exact k
      . exact HOn.out.mono (λ g hg => by
          have h1 := HSn.out g hg
          exact (HOt.out.2.1 g (by have := h1.1; omega)).trans ((HR.out.2.1 g (λ e => (HSa.out g e).2 hg)).trans (HXO.out.block g h1.2))) (λ _ h => h) (by rw [HOt.out.1]; exact hWz)
end Go.Proofs.YtiijlpmdnokjfaaDoor
namespace Go.Proofs.YtiijlpmdnokjfaaDoor
open Go.RowKit
theorem specFits_any (va vn : Value) (a : Au) (S : Nat -> Prop) (w : World) (hw : a.wf) (hn : a.n <= 2000) (h : DfaV w S va vn (fieldsOf a)) :
    Calls Tryd.prog 73 #[.agg #[va, vn]] w λ e w' => ∃ m, Canon m /\ Eqv m 0 a 0 /\ CopyDB (fitD m) (decide (m.n <= 40)) w e w' := by
  obtain ⟨⟨A, c, hA⟩, A', c', hA'⟩ := h.shape
  subst hA
  subst hA'
  obtain ⟨p, hp⟩ : ∃ p, p = (fieldsOf a).acc.length := ⟨_, rfl⟩
  obtain ⟨p', hp'⟩ : ∃ p', p' = (fieldsOf a).nxt.length := ⟨_, rfl⟩
  rw [<- hp, <- hp'] at h ⊢
  obtain ⟨W0, hW0⟩ : ∃ W0, W0 = (w.alloc (.cells #[.slice A p c, .slice A' p' c'] 27)).alloc (.cells #[.slice none 0 0, .slice none 0 0] 27) := ⟨_, rfl⟩
  have HB0 : Hid (Below w.heap.size w W0) := Lib.hid (by rw [hW0]; exact ((Below.refl _ _).alloc (Nat.le_refl _) _).alloc (by simp) _)
  have hx := (by
    have k := box2_kept (w := w) (w1 := W0) (a := .slice A p c) (b := .slice A' p' c') (t := 27) (by rw [hW0]; exact (Below.refl _ _).alloc (by simp) _)
    exact ⟨k.2.1, k.2.2.1⟩ : Bx2 W0 w.heap.size (.slice A p c) (.slice A' p' c'))
  have HY : Hid (W0.heap[w.heap.size + 1]? = some (.cells #[.slice none 0 0, .slice none 0 0] 27 (0, 0))) := Lib.hid (by rw [hW0]; exact three2 w _ _ _ _)
  have HM := Lib.hid (specMin_any (.slice A p c) (.slice A' p' c') a S W0 hw hn (h.kept HB0.out))
  obtain ⟨hc00, hc01⟩ := hx
  rw [hW0] at hc00 hc01
  clear h hp hp'
  go_enter Tryd.func73, Tryd.ntmps73
  go_wp2_with fail
  go_at_call 90
  rw [<- hW0]
  refine HM.out.mono ?_
  rintro e w2 ⟨m, m1, m2, m3, hcd⟩
  obtain ⟨A1, q1, A2, q2, rfl, hoo, hb2⟩ := hcd.shape
  clear hc00 hc01 hcd hW0
  have hv := validD_fields m1.wf
  obtain ⟨n, hn⟩ : ∃ n, n = (fieldsOf m).acc.length := ⟨_, rfl⟩
  obtain ⟨n', hn'⟩ : ∃ n', n' = (fieldsOf m).nxt.length := ⟨_, rfl⟩
  rw [<- hn] at hoo ⊢
  rw [<- hn'] at hoo ⊢
  have h0 := hb2.size
  have h00 := HB0.out.size
  have hlt := (Array.getElem?_eq_some_iff.1 HY.out).1
  have HY2 : Hid (w2.heap[w.heap.size + 1]? = some (.cells #[.slice none 0 0, .slice none 0 0] 27 (0, 0))) := Lib.hid ((hb2.block _ hlt).trans HY.out)
  obtain ⟨Wx, hWx⟩ : ∃ Wx, Wx = w2.alloc (.cells #[.slice A1 n q1, .slice A2 n' q2] 27) := ⟨_, rfl⟩
  have HXB : Hid (Wx.heap[w2.heap.size]? = some (.cells #[.slice A1 n q1, .slice A2 n' q2] 27 (0, 0))) := Lib.hid (by
    rw [hWx]
    exact heap_alloc_new w2 _)
  have HXO : Hid (Below w2.heap.size w2 Wx) := Lib.hid (by
    rw [hWx]
    exact (Below.refl _ _).alloc (Nat.le_refl _) _)
  obtain ⟨b, hb⟩ : ∃ b, b = decide (m.n <= 40) := ⟨_, rfl⟩
  have HV := Lib.hid (specValidD_any (.slice A1 n q1) (.slice A2 n' q2) (fieldsOf m) _ Wx (hoo.dfa.kept HXO.out))
  rw [hv, <- hb] at HV
  have HBb := Lib.hid hb
  have HO := Lib.hid hoo
  have HB2 := Lib.hid hb2
  have HM1 := Lib.hid (And.intro m1 m2)
  obtain ⟨x0, x1, -, -⟩ := box2_facts HXB.out
  rw [hWx] at x0 x1
  clear hoo hn hn' hb2 hlt hb hv m1 m2 m3
  go_wp2_with fail
  go_at_call 13
  rw [<- hWx]
  refine HV.out.mono ?_
  rintro e w3 ⟨rfl, hb3⟩
  clear x0 x1 hWx
  have HB3 := Lib.hid hb3
  have hxl := (Array.getElem?_eq_some_iff.1 HXB.out).1
  have hyl := (Array.getElem?_eq_some_iff.1 HY2.out).1
  obtain ⟨x0, x1, -, -⟩ := box2_facts ((hb3.block _ hxl).trans HXB.out)
  obtain ⟨e0, e1, k0, k1⟩ := box2_facts ((hb3.block _ (Nat.lt_of_lt_of_le hyl HXO.out.size)).trans ((HXO.out.block _ hyl).trans HY2.out))
  have HBW : Hid (Below w2.heap.size w2 w3) := Lib.hid (HXO.out.trans (hb3.mono HXO.out.size))
  have hyl0 := (Array.getElem?_eq_some_iff.1 HY.out).1
  clear hb3 hxl hyl
  cases b with
  | true =>
    obtain ⟨hcl, hsz, hot, hBl⟩ := put2 (k := .slice A1 n q1) (l := .slice A2 n' q2) e0 e1
    obtain ⟨hc0, hc1⟩ := hcl
    have HOt := Lib.hid (And.intro hsz (And.intro hot hBl))
    clear hsz hot hBl
    go_wp2_with fail
    refine bodyPost_ret (v := .tuple #[.agg #[.slice A1 n q1, .slice A2 n' q2], .bool true]) (by simp [results, Tryd.results73, go_sem, hc0, hc1]) rfl ?_
    have hb : m.n <= 40 := of_decide_eq_true HBb.out.symm
    refine ⟨m, HM1.out.1, HM1.out.2, ?_⟩
    rw [decide_eq_true hb, fitD, if_pos hb]
    exact ⟨_, _, rfl, HO.out.mono (λ g hg => (HOt.out.2.1 g (by have := hg.1; omega)).trans (HBW.out.block g hg.2)) (λ g hg => ⟨by have := hg.1; omega, by rw [HOt.out.1]; have := hg.2; have := HBW.out.size; omega⟩) (by rw [HOt.out.1]; exact HBW.out.size), HOt.out.2.2 _ _ (HB0.out.trans ((HB2.out.trans (HBW.out.mono h0)).mono h00)) (Nat.le_succ _)⟩
  | false =>
    obtain ⟨hcl, hsz, hot, hBl⟩ := put2 (k := .slice none 0 0) (l := .slice none 0 0) e0 e1
    obtain ⟨hc0, hc1⟩ := hcl
    have HOt := Lib.hid (And.intro hsz (And.intro hot hBl))
    clear hsz hot hBl
    go_wp2_with fail
    refine bodyPost_ret (v := .tuple #[.agg #[.slice none 0 0, .slice none 0 0], .bool false]) (by simp [results, Tryd.results73, go_sem, hc0, hc1]) rfl ?_
    have hb : ¬ m.n <= 40 := of_decide_eq_false HBb.out.symm
    refine ⟨m, HM1.out.1, HM1.out.2, ?_⟩
    rw [decide_eq_false hb, fitD, if_neg hb]
    exact ⟨_, _, rfl, DfaO.empty _ _, HOt.out.2.2 _ _ (HB0.out.trans ((HB2.out.trans (HBW.out.mono h0)).mono h00)) (Nat.le_succ _)⟩
end Go.Proofs.YtiijlpmdnokjfaaDoor
