/- Texts of one proof. -/
import Derived.Test.YtiijlpmdnokjfaaGreatDoorCplZPack10
set_option maxRecDepth 100000
set_option maxHeartbeats 20000000
namespace Go.Proofs.YtiijlpmdnokjfaaGreatDoor
open Go.RowKit Go.Maps
theorem implExpI_any (g1 g2 : Nat) (fa1 lb1 lb2 : Array Value) (eg1 : ∀ args w, (callFunc g1 args).run Tryz.prog w = .ok (.enter g1 args) w) (eg2 : ∀ args w, (callFunc g2 args).run Tryz.prog w = .ok (.enter g2 args) w)
    (T : Nat -> Nat -> Nat) (acc : Nat -> Bool) (K M x0 : Nat) (w : World) (hK : K <= 2000) (hM : M <= 2000) (hM1 : 1 <= M) (h0 : x0 < K) (hT : ∀ x k, x < K -> k < 3 -> T x k < K)
    (H1 : ∀ (V : World) (x k : Nat), Below w.heap.size w V -> x < K -> k < 3 -> Calls Tryz.prog g1 (fa1 ++ (#[.int .i64 (x : Int), .int .i64 (k : Int)] ++ lb1)) V λ e w' => e = .returned (.int .i64 ((T x k : Nat) : Int)) /\ Below V.heap.size V w')
    (H2 : ∀ (V : World) (x : Nat), Below w.heap.size w V -> x < K -> Calls Tryz.prog g2 (#[.int .i64 (x : Int)] ++ lb2) V λ e w' => e = .returned (.bool (acc x)) /\ Below V.heap.size V w') :
    Calls Tryz.prog 67 #[.int .i64 (x0 : Int), .func (.func g1) fa1 lb1, .func (.func g2) #[] lb2, .int .i64 (M : Int)] w (ExpPost x0 T acc M w) := by
  obtain ⟨i0, hi, hz0, hz1, hz2⟩ := info_parts intInfo
  obtain ⟨b0, hbi, hb0, hb1, hb2⟩ := info_parts boolInfo
  obtain ⟨r0, hri, hr0, hr1, hr2⟩ := info_parts rowInfo3
  have hmm := @run_makeMap Tryz.prog
  have HKeys : Hid (∀ i, (∀ j, j < i -> j < (ords x0 T (3 * j)).length) -> ∀ t, t <= 3 * i -> ∀ x ∈ ords x0 T t, x < K) := Lib.hid (λ i ha t => ords_ok (Ok := (· < K)) h0 hT ha t)
  have HTT := Lib.hid hT
  have HH1 := Lib.hid H1
  have HH2 := Lib.hid H2
  clear hT H1 H2
  obtain ⟨W2, hW2⟩ : ∃ W2, W2 = (w.alloc (.cells #[.slice none 0 0, .slice none 0 0] 107)).alloc (.cells #[.slice none 0 0, .slice none 0 0] 107) := ⟨_, rfl⟩
  have HB2 : Hid (Below w.heap.size w W2) := Lib.hid (by rw [hW2]; exact ((Below.refl _ _).alloc (Nat.le_refl _) _).alloc (by simp) _)
  have HZ2 : Hid (W2.heap.size = w.heap.size + 1 + 1) := Lib.hid (by rw [hW2]; simp)
  have HX2 : Hid (W2.heap[w.heap.size]? = some (.cells #[.slice none 0 0, .slice none 0 0] 107 (0, 0)) /\ W2.heap[w.heap.size + 1]? = some (.cells #[.slice none 0 0, .slice none 0 0] 107 (0, 0))) := Lib.hid (by
    rw [hW2]
    refine ⟨(Below.heap_alloc _ _ _ (by simp)).trans (heap_alloc_new w _), ?_⟩
    have := heap_alloc_new (w.alloc (.cells #[.slice none 0 0, .slice none 0 0] 107)) (.cells #[.slice none 0 0, .slice none 0 0] 107)
    rwa [World.size_alloc] at this)
  go_enter Tryz.func67, Tryz.ntmps67
  go_upto_region 2 with fail
  rw [<- hW2]
  clear hW2
  have hk0 := klN_key (x := x0) (by omega)
  have hown0 := World.ownsMap_made (H := Unit) W2 Tryz.prog 3 (plainElem Tryz.prog 3)
  go_wp2_with (refine wpList_insert_own _ rfl (.tmp 19) (.tmp 20) _ 151 rfl 3 3 lawInt Tryz.underlying151 _ W2.heap.size 0 _ rfl hown0 (by unfold maxLen; omega) _ _ _ rfl rfl hk0 _ [] (plainElem_int Tryz.underlying3 (a := 0) (by decide)) ?_; intro w3 hown3 hg3)
  obtain ⟨bM, hbM⟩ : ∃ bM, bM = W2.heap.size := ⟨_, rfl⟩
  rw [<- hbM] at hown3 hg3 ⊢
  obtain ⟨W4, hW4⟩ : ∃ W4, W4 = w3.alloc (.cells #[.int .i64 (x0 : Int)] 3) := ⟨_, rfl⟩
  rw [<- hW4]
  obtain ⟨B, hB⟩ : ∃ B, B = w.heap.size + 1 := ⟨_, rfl⟩
  rw [<- hB] at HX2 HZ2 ⊢
  have HBe := Lib.hid hB
  have hmx : MapOf klN (· < K) ((DataW.map []).put (klN x0) (.lit (.int .i64 0))) [x0] := (MapOf.nil klN (· < K)).put (λ x y _ _ h => klN_inj x y h) (λ x _ => by trivial) h0 (by simp)
  have HS4 : Hid (ExpS 3 1 B bM B (.slice none 0 0) (.slice none 0 0) (.slice (some ⟨w3.heap.size, 0, none⟩) 1 1) [] 0 [] 1 (ints (natI [x0])) 1 ((DataW.map []).put (klN x0) (.lit (.int .i64 0))) W4 /\ Below B W2 W4) := Lib.hid (by
    have hg2 : W2.grownBy (W2.alloc (.map #[] 0)) none := World.grownBy_alloc _ _ _
    have hz := HZ2.out
    have hba : Below B W2 (W2.alloc (.map #[] 0)) := (Below.refl _ _).alloc (by omega) _
    have hb3 : Below B W2 w3 := hba.grown hg3 (by simp; omega) (λ k e => by cases e; omega)
    have hb4 : Below B W2 W4 := by rw [hW4]; exact hb3.alloc (by have := hb3.size; omega) _
    refine ⟨⟨⟨rfl, .inl ⟨rfl, rfl⟩⟩, ⟨rfl, .inl ⟨rfl, rfl⟩⟩, ?_, ?_, ?_, ⟨Nat.le_refl _, by omega⟩, by decide, by decide, by decide⟩, hb4⟩
    . rw [hW4]
      exact ⟨rfl, .inr ⟨w3.heap.size, 1, #[.int .i64 (x0 : Int)], rfl, by have := hb3.size; omega, heap_alloc_new w3 _, Nat.le_refl _, by decide, rfl, rfl⟩⟩
    . rw [hW4]
      exact hown3.alloc _
    . rw [hW4]
      have h1 := (hg3.block B (by simp; omega) (λ e => by injection e with e; omega)).trans ((Below.heap_alloc W2 _ B (by omega)).trans HX2.out.2)
      exact (Below.heap_alloc w3 _ B (blk_lt h1)).trans h1)
  have HM4 := Lib.hid hmx
  clear hown0 hown3 hg3 hW4 hmx hB hbM hk0
  have HE0 : Hid (ords x0 T (3 * 0) = [x0]) := Lib.hid rfl
  go_loopw [12, 13] (λ vo iv wr => ∃ (i : Nat) (va vr : Value) (D : DataW Unit), iv = .int .i64 i /\ i <= M /\ Hid ((ords x0 T (3 * i)).length <= M) /\ Hid (Below B W2 wr) /\ Hid (∀ j, j < i -> j < (ords x0 T (3 * j)).length) /\ Hid (ExpS 3 1 B bM B va vr vo ((List.range i).map λ j => acc (keyA x0 T j)) i (rowsC x0 T i) (ords x0 T (3 * i)).length (ints (natI (ords x0 T (3 * i)))) (ords x0 T (3 * i)).length D wr /\ MapOf klN (· < K) D (ords x0 T (3 * i)))) (λ _ iv _ => M + 1 - (intOf iv).toNat)
  case atStart => exact ⟨0, _, _, _, rfl, Nat.zero_le _, Lib.hid hM1, Lib.hid HS4.out.2, Lib.hid (λ j hj => absurd hj (Nat.not_lt_zero _)), Lib.hid ⟨HS4.out.1, HM4.out⟩⟩
  case round =>
    obtain ⟨i, va, vr, D, rfl, hin, HLe, HBr, hon, HS⟩ := hrel
    clear HS4 HM4 HE0
    obtain ⟨l, hl⟩ : ∃ l, l = ords x0 T (3 * i) := ⟨_, rfl⟩
    rw [<- hl] at HS
    have hll : l.length <= M := by rw [hl]; exact HLe.out
    have hl0 : 0 < l.length := by rw [hl]; exact ords_pos _
    obtain ⟨go, co, hvo, -, -⟩ := own_cell HS.out.1.ord hl0
    subst hvo
    have HL := Lib.hid hl
    by_cases hlt : i < l.length
    . have hi1 : i < (ords x0 T (3 * i)).length := by rw [<- hl]; exact hlt
      have HON : Hid (∀ j, j < i + 1 -> j < (ords x0 T (3 * j)).length) := Lib.hid (λ j hj => by
        rcases Nat.lt_or_eq_of_le (Nat.le_of_lt_succ hj) with h | h
        . exact hon.out j h
        . rw [h]; exact hi1)
      clear hl
      have hd : decide ((i : Int) < (l.length : Int)) = true := by simp; omega
      go_upto_region 9 with fail
      obtain ⟨bx, hbx⟩ : ∃ bx, bx = wr.heap.size := ⟨_, rfl⟩
      obtain ⟨V0, hV0⟩ : ∃ V0, V0 = wr.alloc (.cells #[.int .i64 0, .int .i64 0, .int .i64 0] 153) := ⟨_, rfl⟩
      rw [<- hV0, <- hbx]
      obtain ⟨accs, hacc⟩ : ∃ accs, accs = (List.range i).map λ j => acc (keyA x0 T j) := ⟨_, rfl⟩
      obtain ⟨rows, hrows⟩ : ∃ rows, rows = rowsC x0 T i := ⟨_, rfl⟩
      rw [<- hacc, <- hrows] at HS
      have HAc := Lib.hid (And.intro hacc hrows)
      have hal : accs.length = i := by rw [hacc]; simp
      have HAl := Lib.hid hal
      have HNx : Hid (ExpN B bM B va vr (.slice (some ⟨go, 0, none⟩) l.length co) bx) := Lib.hid (HS.out.1.fresh (by rw [hbx]; exact Nat.le_refl _))
      have HS0 : Hid (Below B W2 V0 /\ (ExpS 3 1 B bM B va vr (.slice (some ⟨go, 0, none⟩) l.length co) accs i rows (ords x0 T (3 * i + 0)).length (ints (natI (ords x0 T (3 * i + 0)))) (ords x0 T (3 * i + 0)).length D V0 /\ MapOf klN (· < K) D (ords x0 T (3 * i + 0))) /\ Arr3 V0 bx (cutV (toA x0 T i) 0)) := Lib.hid (by
        rw [Nat.add_zero, <- HL.out]
        refine ⟨by rw [hV0]; exact HBr.out.alloc (Nat.le_of_lt HS.out.1.base) _, ⟨HS.out.1.below (by rw [hV0]; exact (Below.refl _ _).alloc (Nat.le_refl _) _), HS.out.2⟩, ?_⟩
        rw [hV0, hbx]
        exact heap_alloc_new wr _)
      clear hd hV0 hacc hrows hal HS hbx
      go_loopw [12, 30] (λ vo kv wq => ∃ (k : Nat) (D : DataW Unit), kv = .int .i64 k /\ k <= 3 /\ Hid ((ords x0 T (3 * i + k)).length <= M) /\ Hid (Below B W2 wq /\ (ExpS 3 1 B bM B va vr vo accs i rows (ords x0 T (3 * i + k)).length (ints (natI (ords x0 T (3 * i + k)))) (ords x0 T (3 * i + k)).length D wq /\ MapOf klN (· < K) D (ords x0 T (3 * i + k))) /\ Arr3 wq bx (cutV (toA x0 T i) k))) (λ _ kv _ => 3 - (intOf kv).toNat)
      case atStart => exact ⟨0, _, rfl, Nat.zero_le _, HLe, HS0⟩
      case round =>
        obtain ⟨k, Dk, rfl, hk, HLk, HQ⟩ := hrel
        clear HS0
        by_cases hk3 : k < 3
        . obtain ⟨st1, st2⟩ := keyA_step (s0 := x0) (g := T) hi1 hk3
          obtain ⟨hil, hkey⟩ := keyA_at (s0 := x0) (g := T) (t := 3 * i + k) hi1 (by omega)
          have hxM : keyA x0 T i < K := HKeys.out (i + 1) HON.out (3 * i) (by omega) _ (getD_mem hi1)
          obtain ⟨x, hx⟩ : ∃ x, x = keyA x0 T i := ⟨_, rfl⟩
          obtain ⟨lq, hlq⟩ : ∃ lq, lq = ords x0 T (3 * i + k) := ⟨_, rfl⟩
          rw [<- hx, <- hlq] at st1 st2
          rw [<- hlq] at HQ hil hkey
          rw [<- hx] at hkey hxM
          have hlqM : lq.length <= M := by rw [hlq]; exact HLk.out
          have HLq := Lib.hid (And.intro hlq hx)
          have HLe2 := Lib.hid hlqM
          clear hlq hx
          obtain ⟨y, hy⟩ : ∃ y, y = T x k := ⟨_, rfl⟩
          have hyM : y < K := by rw [hy]; exact HTT.out x k hxM hk3
          rw [<- hy] at st1 st2
          obtain ⟨gq, cq, hvq, -, hcq⟩ := own_cell HQ.out.2.1.1.ord (by omega)
          subst hvq
          have hci := hcq i (by omega)
          rw [show (ints (natI lq))[i]? = some (.int .i64 (x : Int)) by
            rw [<- hkey]
            simp [ints, natI, List.getD_eq_getElem?_getD, List.getElem?_eq_getElem hil]] at hci
          have HC1 : Hid (Calls Tryz.prog g1 (fa1 ++ (#[.int .i64 (x : Int), .int .i64 (k : Int)] ++ lb1)) wr λ e w' => e = .returned (.int .i64 (y : Int)) /\ Below wr.heap.size wr w') := Lib.hid (by
            rw [hy]
            refine HH1.out wr x k (HB2.out.trans (HQ.out.1.mono ?_)) hxM hk3
            have := HBe.out
            omega)
          have HSt := Lib.hid (And.intro st1 st2)
          have s1 : (i : Int) < (lq.length : Int) := by omega
          have s2 : (0 : Int) <= (i : Int) := by omega
          have s3 : (k : Int) < 3 := by omega
          have s4 : (0 : Int) <= (k : Int) := by omega
          clear hcq st1 st2 hkey hy
          go_wp2_with fail
          refine HC1.out.mono ?_
          rintro e w5 ⟨rfl, hb5⟩
          have HQ5 := Lib.hid (And.intro (HQ.out.1.trans (hb5.mono (Nat.le_trans (by have := HZ2.out; omega) HQ.out.1.size))) (And.intro (HQ.out.2.1.1.below hb5) (HQ.out.2.2.same (hb5.block _ HQ.out.2.2.lt))))
          have HMo := Lib.hid HQ.out.2.1.2
          obtain ⟨kf1, kf2⟩ := HQ5.out.2.2.facts hk3
          have hky := klN_key (x := y) (by omega)
          clear hci hb5
          by_cases hyl : y ∈ lq
          . have hhas : Maps.has Dk (klN y) = true := by rw [(HMo.out.2 y hyM).1]; simpa using hyl
            have HHit := Lib.hid (And.intro ((HMo.out.2 y hyM).2 hyl) (HSt.out.1 hyl))
            clear hyl
            go_wp2_with (at_lookup; refine wpList_lookup_own_ok_int _ rfl (.tmp 41) (.tmp 42) 151 rfl 3 3 .i64 lawInt Tryz.underlying151 Tryz.underlying3 (zeroInt _) bM _ _ rfl HQ5.out.2.1.map _ _ rfl hky ?_; intro c hat hwc)
            have hc : c = ((toA x0 T i k : Nat) : Int) := by
              have h1 := HHit.out.1 (.lit (.int .i64 0))
              rw [hat] at h1
              rw [HHit.out.2.2]
              injection h1 with h1
              injection h1 with _ h1
            subst hc
            have HQ6 : Hid (Below B W2 (w5.setCell ⟨bx, k, none⟩ (.int .i64 ((toA x0 T i k : Nat) : Int))) /\ (ExpS 3 1 B bM B va vr (.slice (some ⟨gq, 0, none⟩) lq.length cq) accs i rows (ords x0 T (3 * i + (k + 1))).length (ints (natI (ords x0 T (3 * i + (k + 1))))) (ords x0 T (3 * i + (k + 1))).length Dk (w5.setCell ⟨bx, k, none⟩ (.int .i64 ((toA x0 T i k : Nat) : Int))) /\ MapOf klN (· < K) Dk (ords x0 T (3 * i + (k + 1)))) /\ Arr3 (w5.setCell ⟨bx, k, none⟩ (.int .i64 ((toA x0 T i k : Nat) : Int))) bx (cutV (toA x0 T i) (k + 1))) := Lib.hid (by
              have hN := HNx.out
              rw [HHit.out.2.1]
              refine ⟨below_set HQ5.out.1 hN.2.2.2.2.2 _, ⟨HQ5.out.2.1.set ⟨hN.1, hN.2.1, λ e => ?_, hN.2.2.2.1, hN.2.2.2.2.1, hN.2.2.2.2.2⟩ _, HMo.out⟩, HQ5.out.2.2.set hk3 (cutV_step _ k).1 (λ j _ hj => (cutV_step _ k).2 j hj)⟩
              obtain ⟨cur, hh⟩ := blk_ofz HQ5.out.2.1.ord e
              exact blk_ne hh HQ5.out.2.2 (by decide) rfl)
            clear kf1 kf2 hat hhas hwc
            go_wp2_with fail
            go_roundw
            case rel => exact ⟨k + 1, Dk, by go_num, by omega, Lib.hid (by rw [HHit.out.2.1]; exact HLe2.out), HQ6⟩
            case measure => simp [intOf]; omega
          . have hhas : Maps.has Dk (klN y) = false := by rw [(HMo.out.2 y hyM).1]; simpa using hyl
            have HMiss := Lib.hid (And.intro hyl (HSt.out.2 hyl))
            clear hyl
            by_cases hfull : lq.length = M
            . have hcmp : ((lq.length : Int) == (M : Int)) = true := by simp; omega
              have HBig := Lib.hid (exp_big (M := M) HON.out hk3 (by rw [HMiss.out.2.1, List.length_append, hfull]; rfl))
              obtain ⟨c0, c1, k0, k1⟩ := box2_facts ((HQ5.out.1.block _ (by have := HBe.out; omega)).trans HX2.out.1)
              obtain ⟨hcl, hsz, hot, hBl⟩ := put2 (k := .slice none 0 0) (l := .slice none 0 0) c0 c1
              obtain ⟨hc0, hc1⟩ := hcl
              have HOt := Lib.hid (And.intro HQ5.out.1 hBl)
              clear hsz hot hBl kf1 kf2
              go_wp2_with (at_lookup; refine wpList_lookup_own_ok_int _ rfl (.tmp 41) (.tmp 42) 151 rfl 3 3 .i64 lawInt Tryz.underlying151 Tryz.underlying3 (zeroInt _) bM _ _ rfl HQ5.out.2.1.map _ _ rfl hky ?_; intro c hat hwc)
              refine bodyPost_ret (v := .tuple #[.agg #[.slice none 0 0, .slice none 0 0], .bool false]) (by simp [results, Tryz.results67, go_sem, hc0, hc1]) rfl ?_
              exact .inr ⟨HBig.out, rfl, HOt.out.2 _ _ (HB2.out.trans (HOt.out.1.mono (by have := HBe.out; omega))) (Nat.le_refl _)⟩
            have hcmp : ((lq.length : Int) == (M : Int)) = false := by simp; omega
            have hroom : lq.length + 1 <= M := by omega
            have HRoom := Lib.hid hroom
            clear hfull
            go_upto_region 17 with (at_lookup; refine wpList_lookup_own_ok_int _ rfl (.tmp 41) (.tmp 42) 151 rfl 3 3 .i64 lawInt Tryz.underlying151 Tryz.underlying3 (zeroInt _) bM _ _ rfl HQ5.out.2.1.map _ _ rfl hky ?_; intro c hat hwc)
            go_upto_region 18 with (at_mapUpdate; refine wpList_mapUpdate_own _ rfl (.tmp 55) (.tmp 56) (.tmp 57) 151 rfl 3 3 lawInt Tryz.underlying151 _ bM lq.length Dk rfl HQ5.out.2.1.map (by unfold maxLen; omega) _ _ _ rfl rfl hky _ [] (plainElem_int Tryz.underlying3 (klN_wf (x := lq.length) (by omega))) ?_; intro w6 hown6 hg6)
            have HQ6 := Lib.hid (HQ5.out.2.1.map_put hown6 hg6)
            have HA6 : Hid (Below B W2 w6 /\ Arr3 w6 bx (cutV (toA x0 T i) k)) := Lib.hid ⟨HQ5.out.1.grown hg6 (Nat.le_of_lt HQ5.out.2.1.base) (λ j e => by injection e with e; rw [<- e]; exact HQ5.out.2.1.low.2), HQ5.out.2.2.same (hg6.block bx HQ5.out.2.2.lt (λ e => HNx.out.2.2.2.1 (by injection e with e; exact e.symm)))⟩
            have hbw6 : B <= w6.heap.size := Nat.le_of_lt HQ6.out.base
            have HMp := Lib.hid (HMo.out.put (λ x y _ _ h => klN_inj x y h) (λ x _ => by trivial) hyM HMiss.out.1)
            clear hown6 hg6 hat hwc hhas kf1 kf2
            go_wp2_with (at_builtin; refine wpList_append_own_at _ rfl (.tmp 58) (.tmp 60) 49 rfl B 3 i0 (.int .i64 0) 1 8 Tryz.underlying49 hi hz0 hz1 hz2 rfl (by decide) _ _ _ rfl (HQ6.out.ord.alloc _) ⟨w6.heap.size, 0, none⟩ 1 1 [.int .i64 (y : Int)] rfl rfl (cell_one_new _ _ _) (by simp [Value.oneCell']) (by unfold maxLen; omega) (by omega) (by simp; omega) ?_)
            intro v' w7 hown' hgrow hnil hat
            have HQ7 : Hid (ExpS 3 1 B bM B va vr v' accs i rows (ords x0 T (3 * i + (k + 1))).length (ints (natI (ords x0 T (3 * i + (k + 1))))) (ords x0 T (3 * i + (k + 1))).length (Dk.put (klN y) (.lit (.int .i64 ((lq.length : Nat) : Int)))) w7) := Lib.hid (by
              have h1 := (HQ6.out.below ((Below.refl _ _).alloc (Nat.le_refl _) (.cells #[.int .i64 (y : Int)] 3))).ord_push hown' hgrow
              rw [HMiss.out.2.1]
              have e1 : ints (natI (lq ++ [y])) = ints (natI lq) ++ [.int .i64 (y : Int)] := by simp [ints, natI]
              rw [e1, List.length_append]
              exact h1)
            have HA7 : Hid (Below B W2 w7 /\ Arr3 w7 bx (cutV (toA x0 T i) k)) := Lib.hid (by
              refine ⟨(HA6.out.1.alloc hbw6 (.cells #[.int .i64 (y : Int)] 3)).grown hgrow (by simp; omega) (λ j e => (HQ6.out.ord.lt j e).1), ?_⟩
              have h1 : Arr3 (w6.alloc (.cells #[.int .i64 (y : Int)] 3)) bx (cutV (toA x0 T i) k) := HA6.out.2.same (Below.heap_alloc _ _ _ HA6.out.2.lt)
              refine h1.same (hgrow.block bx h1.lt (λ e => ?_))
              obtain ⟨cur, hh⟩ := blk_ofz HQ6.out.ord e.symm
              exact blk_ne hh HA6.out.2 (by decide) rfl)
            obtain ⟨kf1, kf2⟩ := HA7.out.2.facts hk3
            clear hown' hgrow hnil hat
            have HQ8 : Hid (Below B W2 (w7.setCell ⟨bx, k, none⟩ (.int .i64 ((lq.length : Nat) : Int))) /\ (ExpS 3 1 B bM B va vr v' accs i rows (ords x0 T (3 * i + (k + 1))).length (ints (natI (ords x0 T (3 * i + (k + 1))))) (ords x0 T (3 * i + (k + 1))).length (Dk.put (klN y) (.lit (.int .i64 ((lq.length : Nat) : Int)))) (w7.setCell ⟨bx, k, none⟩ (.int .i64 ((lq.length : Nat) : Int))) /\ MapOf klN (· < K) (Dk.put (klN y) (.lit (.int .i64 ((lq.length : Nat) : Int)))) (ords x0 T (3 * i + (k + 1)))) /\ Arr3 (w7.setCell ⟨bx, k, none⟩ (.int .i64 ((lq.length : Nat) : Int))) bx (cutV (toA x0 T i) (k + 1))) := Lib.hid (by
              have hN := HNx.out
              refine ⟨below_set HA7.out.1 hN.2.2.2.2.2 _, ⟨HQ7.out.set ⟨hN.1, hN.2.1, λ e => ?_, hN.2.2.2.1, hN.2.2.2.2.1, hN.2.2.2.2.2⟩ _, by rw [HMiss.out.2.1]; exact HMp.out⟩, HA7.out.2.set hk3 ?_ (λ j _ hj => (cutV_step _ k).2 j hj)⟩
              . obtain ⟨cur, hh⟩ := blk_ofz HQ7.out.ord e
                exact blk_ne hh HA7.out.2 (by decide) rfl
              . rw [(cutV_step _ k).1, HMiss.out.2.2])
            go_wp2_with fail
            go_roundw
            case rel => exact ⟨k + 1, _, by go_num, by omega, Lib.hid (by rw [HMiss.out.2.1, List.length_append]; exact HRoom.out), HQ8⟩
            case measure => simp [intOf]; omega
        . obtain rfl : k = 3 := by omega
          obtain ⟨hil, hkey⟩ := keyA_at (s0 := x0) (g := T) (t := 3 * i + 3) hi1 (by omega)
          have hxM : keyA x0 T i < K := HKeys.out (i + 1) HON.out (3 * i) (by omega) _ (getD_mem hi1)
          obtain ⟨x, hx⟩ : ∃ x, x = keyA x0 T i := ⟨_, rfl⟩
          obtain ⟨lq, hlq⟩ : ∃ lq, lq = ords x0 T (3 * i + 3) := ⟨_, rfl⟩
          rw [<- hlq] at HQ hil hkey
          rw [<- hx] at hkey hxM
          have hlqM : lq.length <= M := by rw [hlq]; exact HLk.out
          have HLq := Lib.hid (And.intro hlq hx)
          have HLe2 := Lib.hid hlqM
          clear hlq hx
          obtain ⟨gq, cq, hvq, -, hcq⟩ := own_cell HQ.out.2.1.1.ord (by omega)
          subst hvq
          have hci := hcq i (by omega)
          rw [show (ints (natI lq))[i]? = some (.int .i64 (x : Int)) by
            rw [<- hkey]
            simp [ints, natI, List.getD_eq_getElem?_getD, List.getElem?_eq_getElem hil]] at hci
          obtain ⟨b, hb⟩ : ∃ b, b = acc x := ⟨_, rfl⟩
          have HC2 : Hid (Calls Tryz.prog g2 (#[.int .i64 (x : Int)] ++ lb2) wr.drew λ e w' => e = .returned (.bool b) /\ Below wr.drew.heap.size wr.drew w') := Lib.hid (by
            rw [hb]
            refine HH2.out wr.drew x ((HB2.out.trans (HQ.out.1.mono ?_)).drew) hxM
            have := HBe.out
            omega)
          have HBb' := Lib.hid hb
          have s1 : (i : Int) < (lq.length : Int) := by omega
          have s2 : (0 : Int) <= (i : Int) := by omega
          have hal : accs.length <= 2000 := by rw [HAl.out]; omega
          have hbwr : B <= wr.heap.size := Nat.le_of_lt HQ.out.2.1.1.base
          have HQd := Lib.hid (HQ.out.2.1.1.below (Below.refl _ _).drew)
          obtain ⟨e0, -, e2, -⟩ := box2_facts HQ.out.2.1.1.box
          obtain ⟨e4, -, e6, -⟩ := box2_facts HQd.out.box
          obtain ⟨Aa, qa, hva⟩ := (RowO.of_owns HQ.out.2.1.1.acc (by omega)).row.shape
          rw [bools_length] at hva
          subst hva
          clear hcq hkey hb
          go_upto_region 21 with fail
          go_cut [] from 66 to 76 (λ wc => ∃ va2, Hid (ExpS 3 1 B bM B va2 vr (.slice (some ⟨gq, 0, none⟩) lq.length cq) (accs ++ [b]) i rows lq.length (ints (natI lq)) lq.length Dk wc) /\ Hid (Below B W2 wc /\ Arr3 wc bx (cutV (toA x0 T i) 3)))
          case first =>
            go_region_law (first
              | (refine step_call_val rfl (.tmp 68) _ _ rfl g2 lb2 (by simp [Act.eval]) eg2 #[.int .i64 (x : Int)] (by simp [Act.eval]) HC2.out ?_; rintro e w1 ⟨rfl, hb1⟩; have HO1 := Lib.hid (HQd.out.below hb1); have HA1 := Lib.hid (And.intro (HQ.out.1.drew.trans (hb1.mono (by show B <= wr.heap.size; omega))) (HQ.out.2.2.same (hb1.block bx HQ.out.2.2.lt))); obtain ⟨l0, -, l2, -⟩ := box2_facts HO1.out.box; have HO1a := Lib.hid (HO1.out.below ((Below.refl _ _).alloc (Nat.le_refl _) (.cells #[.bool b] 4))); obtain ⟨l4, -, l6, -⟩ := box2_facts HO1a.out.box; have hbw1 : B <= w1.heap.size := Nat.le_of_lt HO1.out.base; clear hb1; refine ⟨_, rfl, ?_⟩)
              | (refine step_append_own_at rfl (.tmp 67) (.tmp 74) 28 rfl B 4 b0 (.bool false) 1 1 Tryz.underlying28 hbi hb0 hb1 hb2 rfl (by decide) _ _ _ rfl (HO1.out.acc.alloc _) ⟨w1.heap.size, 0, none⟩ 1 1 [.bool b] rfl rfl (cell_one_new w1 _ _) (by simp [Value.oneCell']) (by unfold maxLen; omega) (by omega) (by simp; omega) ?_; intro v' w9 hown' hgrow hat; obtain ⟨g', cap', rfl⟩ := own_succ hown'; have HB9 := Lib.hid (((HA1.out.1.alloc hbw1 (.cells #[.bool b] 4)).grown hgrow (by simp; omega) (λ g e => (HO1.out.acc.lt g e).1)).setCell (p := ⟨B, 0, none⟩) (Nat.le_refl _) (.slice (some ⟨g', 0, none⟩) (accs.length + 1) cap')); obtain ⟨z1, z2, HQ9⟩ := HO1a.out.acc_push hown' hgrow; obtain ⟨z0, z1⟩ := z1; have HQ9 := Lib.hid HQ9; have HG9 := Lib.hid hgrow))
            all_goals
              have HX9 : Hid (Arr3 (w9.setCell ⟨B, 0, none⟩ (.slice (some ⟨g', 0, none⟩) (accs.length + 1) cap')) bx (cutV (toA x0 T i) 3)) := Lib.hid (by
                have hxa : Arr3 (w1.alloc (.cells #[.bool b] 4)) bx (cutV (toA x0 T i) 3) := HA1.out.2.same (Below.heap_alloc _ _ _ HA1.out.2.lt)
                refine (hxa.same (HG9.out.block bx hxa.lt (λ e => HNx.out.1 ?_))).same (Below.heap_setCell _ _ _ _ (λ e => HNx.out.2.2.2.2.1 (Eq.symm e)))
                exact e.symm)
              clear hown' hgrow hat z1 z2 l0 l2 l4 l6 e0 e2 e4 e6
              go_wp2_with fail
              go_meet
              exact ⟨_, HQ9, Lib.hid ⟨HB9.out, HX9.out⟩⟩
          case rest =>
            obtain ⟨va2, HQ9, HA9⟩ := hcut
            clear e0 e2 e4 e6 hci
            have hbw9 : B <= wc.heap.size := Nat.le_of_lt HQ9.out.base
            obtain ⟨-, e1, -, e3⟩ := box2_facts HQ9.out.box
            have hx3 : Bx3 wc bx (.int .i64 ((toA x0 T i 0 : Nat) : Int)) (.int .i64 ((toA x0 T i 1 : Nat) : Int)) (.int .i64 ((toA x0 T i 2 : Nat) : Int)) 153 := HA9.out.2
            obtain ⟨⟨c0, c1, c2⟩, -⟩ := hx3.facts
            clear hx3
            obtain ⟨t0, ht0⟩ : ∃ y : Int, y = ((toA x0 T i 0 : Nat) : Int) := ⟨_, rfl⟩
            obtain ⟨t1, ht1⟩ : ∃ y : Int, y = ((toA x0 T i 1 : Nat) : Int) := ⟨_, rfl⟩
            obtain ⟨t2, ht2⟩ : ∃ y : Int, y = ((toA x0 T i 2 : Nat) : Int) := ⟨_, rfl⟩
            rw [<- ht0] at c0
            rw [<- ht1] at c1
            rw [<- ht2] at c2
            have HRw : Hid (rows ++ [.int .i64 t0, .int .i64 t1, .int .i64 t2] = rowsC x0 T (i + 1)) := Lib.hid (by rw [rowsC_succ, HAc.out.2, ht0, ht1, ht2]; rfl)
            clear ht0 ht1 ht2
            go_wp2_with (at_builtin; refine wpList_append_own_at _ rfl (.tmp 78) (.tmp 80) 105 rfl B 153 r0 (.agg #[.int .i64 0, .int .i64 0, .int .i64 0]) 3 24 Tryz.underlying105 hri hr0 hr1 hr2 rfl (by decide) _ _ _ rfl (HQ9.out.row.alloc _) ⟨wc.heap.size, 0, none⟩ 1 1 [.int .i64 t0, .int .i64 t1, .int .i64 t2] rfl rfl (newB3 wc _ _ _ _) (by simp [Value.oneCell']) (by unfold maxLen; omega) (by omega) (by simp; omega) ?_)
            intro v' w9 hown' hgrow hnil hat
            obtain ⟨gn, capn, rfl⟩ := own_succ hown'
            obtain ⟨⟨z0, z1⟩, z2, HQb⟩ := (HQ9.out.below ((Below.refl _ _).alloc (Nat.le_refl _) (.cells #[.int .i64 t0, .int .i64 t1, .int .i64 t2] 153))).row_push hown' hgrow
            rw [HRw.out] at HQb
            have HQb := Lib.hid HQb
            have HBb := Lib.hid (((HA9.out.1.alloc hbw9 (.cells #[.int .i64 t0, .int .i64 t1, .int .i64 t2] 153)).grown hgrow (by simp; omega) (λ g e => (HQ9.out.row.lt g e).1)).setCell (p := ⟨B, 1, none⟩) (Nat.le_refl _) (.slice (some ⟨gn, 0, none⟩) (i + 1) capn))
            have HA1 : Hid (accs ++ [b] = (List.range (i + 1)).map λ j => acc (keyA x0 T j)) := Lib.hid (by rw [List.range_succ, List.map_append, HAc.out.1, HBb'.out, HLq.out.2]; rfl)
            rw [HA1.out] at HQb
            have HMk := Lib.hid HQ.out.2.1.2
            clear hown' hgrow hnil hat
            go_wp2_with fail
            go_roundw
            case rel => exact ⟨i + 1, _, _, Dk, by go_num, by omega, Lib.hid (by rw [show 3 * (i + 1) = 3 * i + 3 by omega]; exact HLk.out), HBb, HON, by
              rw [show 3 * (i + 1) = 3 * i + 3 by omega, <- HLq.out.1]
              exact Lib.hid ⟨HQb.out, HMk.out⟩⟩
            case measure => simp [intOf]; omega
    . have hE : Ends x0 T i := ⟨hon.out, by rw [<- hl]; omega⟩
      have hEl := hE.length
      have hiM : i <= M := by rw [<- hEl]; exact HLe.out
      have hi0 := hE.pos
      have HE := Lib.hid hE
      obtain ⟨ga, ca, rfl, hga, hca⟩ := own_cell HS.out.1.acc (by simp; omega)
      obtain ⟨gr, cr, rfl, hgr, hcr⟩ := own_cell HS.out.1.row hi0
      have HAu : Hid (∀ V : World, (∀ g, g ≠ w.heap.size -> V.heap[g]? = wr.heap[g]?) -> AutoV V (.slice (some ⟨ga, 0, none⟩) i ca) (.slice (some ⟨gr, 0, none⟩) i cr) (found x0 T acc i)) := Lib.hid (λ V hV => ⟨ga, ca, gr, cr, rfl, rfl, λ q hq => by
          have hq' : q < i := hq
          have hBe := HBe.out
          rw [World.cell?_of_block (w := wr) (a := ⟨ga, q, none⟩) (hV ga (by omega))]
          rw [hca q (by simp; omega), (found_keyA hE acc hq').1]
          simp [bools, hq'], λ q hq k hk => by
          have hq' : q < i := hq
          have hBe := HBe.out
          rw [World.cell?_of_block (w := wr) (a := ⟨gr, q * 3 + k, none⟩) (hV gr (by omega))]
          rw [hcr (q * 3 + k) (by omega), rowsC_at i q k hq' hk, (found_keyA hE acc hq').2 k hk]⟩)
      obtain ⟨e0, e1, -, -⟩ := box2_facts HS.out.1.box
      have hln : ((List.range i).map λ j => acc (keyA x0 T j)).length = i := by simp
      rw [hln] at e0
      have hyb := (HBr.out.block _ (by have := HBe.out; omega)).trans HX2.out.1
      obtain ⟨c0, c1, k0, k1⟩ := box2_facts hyb
      have hd : decide ((i : Int) < (l.length : Int)) = false := by simp; omega
      obtain ⟨hcl, hsz, hot, hBl⟩ := put2 (k := .slice (some ⟨ga, 0, none⟩) i ca) (l := .slice (some ⟨gr, 0, none⟩) i cr) c0 c1
      obtain ⟨hc0, hc1⟩ := hcl
      have HOt := Lib.hid (And.intro hsz (And.intro hot hBl))
      clear hsz hot hBl hyb hl hca hcr hln hE hEl hga hgr
      go_wp2_with fail
      refine bodyPost_ret (v := .tuple #[.agg #[.slice (some ⟨ga, 0, none⟩) i ca, .slice (some ⟨gr, 0, none⟩) i cr], .bool true]) (by simp [results, Tryz.results67, go_sem, hc0, hc1]) rfl ?_
      exact .inl ⟨i, _, _, HE.out, hiM, rfl, HAu.out _ HOt.out.2.1, HOt.out.2.2 _ _ (HB2.out.trans (HBr.out.mono (by have := HBe.out; omega))) (Nat.le_refl _)⟩
end Go.Proofs.YtiijlpmdnokjfaaGreatDoor
namespace Go.Proofs.YtiijlpmdnokjfaaGreatDoor
open Go.RowKit
theorem implMdI_any (g1 g2 : Nat) (fa1 lb1 lb2 : Array Value) (eg1 : ∀ args w, (callFunc g1 args).run Tryz.prog w = .ok (.enter g1 args) w) (eg2 : ∀ args w, (callFunc g2 args).run Tryz.prog w = .ok (.enter g2 args) w)
    (T : Nat -> Nat -> Nat) (acc : Nat -> Bool) (K : Nat) (M : Nat) (x0 : Nat) (w : World) (hK : K <= 2000) (hM : M <= 2000) (hM1 : 1 <= M) (h0 : x0 < K) (hT : ∀ x k, x < K -> k < 3 -> T x k < K)
    (H1 : ∀ (V : World) (x : Nat) (k : Nat), Below w.heap.size w V -> x < K -> k < 3 -> Calls Tryz.prog g1 (fa1 ++ (#[.int .i64 ((x : Nat) : Int), .int .i64 (k : Int)] ++ lb1)) V λ e w' => e = .returned (.int .i64 (((T x k) : Nat) : Int)) /\ Below V.heap.size V w')
    (H2 : ∀ (V : World) (x : Nat), Below w.heap.size w V -> x < K -> Calls Tryz.prog g2 (#[.int .i64 ((x : Nat) : Int)] ++ lb2) V λ e w' => e = .returned (.bool (acc x)) /\ Below V.heap.size V w')
    (y : Dx) (ok : Bool) (hy : srchR M x0 T acc y ok) :
    Calls Tryz.prog 30 #[.int .i64 ((x0 : Nat) : Int), .func (.func g1) fa1 lb1, .func (.func g2) #[] lb2, .int .i64 (M : Int)] w (CopyDB y ok w) := by
  obtain ⟨W0, hW0⟩ : ∃ W0, W0 = w.alloc (.cells #[.slice none 0 0, .slice none 0 0] 31) := ⟨_, rfl⟩
  have HB0 : Hid (Below w.heap.size w W0) := Lib.hid (by rw [hW0]; exact (Below.refl _ _).alloc (Nat.le_refl _) _)
  have HY : Hid (W0.heap[w.heap.size]? = some (.cells #[.slice none 0 0, .slice none 0 0] 31 (0, 0))) := Lib.hid (by rw [hW0]; exact heap_alloc_new w _)
  have HEx := Lib.hid (implExpI_any g1 g2 fa1 lb1 lb2 eg1 eg2 T acc K M x0 W0 hK hM hM1 h0 hT (λ V x k hV hx hk => H1 V x k (HB0.out.trans (hV.mono HB0.out.size)) hx hk) (λ V x hV hx => H2 V x (HB0.out.trans (hV.mono HB0.out.size)) hx))
  have HYy := Lib.hid hy
  clear hy hT H1 H2 h0 hM1
  go_enter Tryz.func30, Tryz.ntmps30
  go_wp2_with fail
  go_at_call 67
  rw [<- hW0]
  refine HEx.out.mono ?_
  rintro e w1 (⟨N, va2, vr2, hE, hN, rfl, hau, hb1⟩ | ⟨hno, rfl, hb1⟩)
  . have HB1 := Lib.hid hb1
    obtain ⟨W2, hW2⟩ : ∃ W2, W2 = w1.alloc (.cells #[va2, vr2] 107) := ⟨_, rfl⟩
    have HB2 : Hid (Below w1.heap.size w1 W2) := Lib.hid (by rw [hW2]; exact (Below.refl _ _).alloc (Nat.le_refl _) _)
    obtain ⟨a0, a1, -, -⟩ := box2_facts (show W2.heap[w1.heap.size]? = some (.cells #[va2, vr2] 107 (0, 0)) by rw [hW2]; exact heap_alloc_new w1 _)
    have HMn := Lib.hid (implMinz_any va2 vr2 (found x0 T acc N) W2 (hE.num acc) (by show N <= 2000; omega) (hau.kept HB2.out))
    have HE := Lib.hid hE
    obtain ⟨ga, ca, gr, cr, rfl, rfl, -, -⟩ := hau
    clear hb1 hE
    rw [hW2] at a0 a1
    go_wp2_with fail
    go_at_call 68
    rw [<- hW2]
    refine HMn.out.mono ?_
    rintro e w3 ⟨m, m1, m2, hcd⟩
    obtain ⟨rfl, rfl⟩ := srchR_yes HYy.out hN HE.out m1 m2
    obtain ⟨A1, p1, A2, p2, rfl, hoo, hb3⟩ := hcd.shape
    obtain ⟨x1, hx1⟩ : ∃ x, x = (fitD m).acc.length := ⟨_, rfl⟩
    obtain ⟨x2, hx2⟩ : ∃ x, x = (fitD m).nxt.length := ⟨_, rfl⟩
    obtain ⟨ok, hok⟩ : ∃ b, b = decide (m.n <= 40) := ⟨_, rfl⟩
    rw [<- hx1, <- hx2] at hoo ⊢
    rw [<- hok]
    have HOk := Lib.hid hok
    have HO3 := Lib.hid hoo
    have HB3 := Lib.hid (HB1.out.trans ((HB2.out.trans (hb3.mono HB2.out.size)).mono HB1.out.size))
    have hz1 := HB1.out.size
    have hz2 := HB2.out.size
    have hz3 := hb3.size
    have hyl := blk_lt HY.out
    obtain ⟨c0, c1, k0, k1⟩ := box2_facts ((HB3.out.block _ hyl).trans HY.out)
    obtain ⟨hcl, hsz, hot, hBl⟩ := put2 (k := .slice A1 x1 p1) (l := .slice A2 x2 p2) c0 c1
    obtain ⟨hc0, hc1⟩ := hcl
    have HOt := Lib.hid (And.intro hsz (And.intro hot hBl))
    clear hsz hot hBl hoo hb3 hcd hx1 hx2 m1 m2 hok a0 a1 hW2 hW0
    go_wp2_with fail
    refine bodyPost_ret (v := .tuple #[.agg #[.slice A1 x1 p1, .slice A2 x2 p2], .bool ok]) (by simp [results, Tryz.results30, go_sem, hc0, hc1]) rfl ?_
    have h0 := HB0.out.size
    rw [<- HOk.out]
    exact ⟨_, _, rfl, HO3.out.mono (λ g hg => HOt.out.2.1 g (by have := hg.1; omega)) (λ g hg => ⟨by have := hg.1; omega, by rw [HOt.out.1]; exact hg.2⟩) (by rw [HOt.out.1]; exact Nat.le_refl _), HOt.out.2.2 _ _ (HB0.out.trans (HB3.out.mono h0)) (by omega)⟩
  . have HB1 := Lib.hid hb1
    obtain ⟨rfl, rfl⟩ := srchR_no HYy.out hno
    obtain ⟨c0, c1, k0, k1⟩ := box2_facts (((HB1.out.alloc HB1.out.size (.cells #[.slice none 0 0, .slice none 0 0] 107)).block _ (blk_lt HY.out)).trans HY.out)
    obtain ⟨hcl, hsz, hot, hBl⟩ := put2 (k := .slice none 0 0) (l := .slice none 0 0) c0 c1
    obtain ⟨hr0, hr1⟩ := hcl
    have HOt := Lib.hid hBl
    clear hsz hot hBl hb1 hW0
    go_wp2_with fail
    refine bodyPost_ret (v := .tuple #[.agg #[.slice none 0 0, .slice none 0 0], .bool false]) (by simp [results, Tryz.results30, go_sem, hr0, hr1]) rfl ?_
    exact ⟨_, _, rfl, DfaO.empty _ _, HOt.out _ _ (HB0.out.trans ((HB1.out.alloc HB1.out.size _).mono HB0.out.size)) (by omega)⟩
end Go.Proofs.YtiijlpmdnokjfaaGreatDoor
namespace Go.Proofs.YtiijlpmdnokjfaaGreatDoor
open Go.RowKit
theorem implRejQ_any (bd : Nat) (ad : Addr) (n c q : Nat) (b : Bool) (w : World) (hq : q < n) (c0 : w.cell? ⟨bd, 0, none⟩ = some (.slice (some ad) n c)) (c1 : w.cell? (ad.add q) = some (.bool b)) :
    Calls Tryz.prog 93 #[.int .i64 (q : Int), .pointer (some ⟨bd, 0, none⟩)] w λ e w' => e = .returned (.bool (!b)) /\ w = w' := by
  have s0 : (q : Int) < (n : Int) := by omega
  have s1 : (0 : Int) <= (q : Int) := by omega
  go_enter Tryz.func93, Tryz.ntmps93
  go_wp2_with fail
  go_ret
  exact ⟨rfl, rfl⟩
theorem implDfaAfter_any (va : Value) (ad' : Addr) (n c' q k : Nat) (ad2 : Addr) (c2 : Nat) (x : Int) (w : World) (hq : q < n) (hk : k < 3) (c1 : w.cell? (ad'.add q) = some (.slice (some ad2) 3 c2)) (h2 : w.cell? (ad2.add k) = some (.int .i64 x)) :
    Calls Tryz.prog 34 #[.agg #[va, .slice (some ad') n c'], .int .i64 (q : Int), .int .i64 (k : Int)] w λ e w' => e = .returned (.int .i64 x) /\ Below w.heap.size w w' := by
  have s0 : (q : Int) < (n : Int) := by omega
  have s1 : (0 : Int) <= (q : Int) := by omega
  have s2 : (k : Int) < 3 := by omega
  have s3 : (0 : Int) <= (k : Int) := by omega
  have hb0 : Below w.heap.size w (w.alloc (.cells #[va, .slice (some ad') n c'] 31)) := (Below.refl _ _).alloc (Nat.le_refl _) _
  have c1' := (hb0.cell (cell_in c1)).trans c1
  have h2' := (hb0.cell (cell_in h2)).trans h2
  have HB0 := Lib.hid hb0
  clear c1 h2 hb0
  go_enter Tryz.func34, Tryz.ntmps34
  go_wp2_with fail
  go_ret
  exact ⟨rfl, HB0.out⟩
theorem enters_rej (args : Array Value) (w : World) : (callFunc 93 args).run Tryz.prog w = .ok (.enter 93 args) w := enters_of Tryz.func93 (by kernel_rfl) rfl args w
theorem enters_dfaAfter (args : Array Value) (w : World) : (callFunc 34 args).run Tryz.prog w = .ok (.enter 34 args) w := enters_of Tryz.func34 (by kernel_rfl) rfl args w
def accA (a : Au) (acc : Nat -> Bool) : Au := ⟨a.n, acc, a.T⟩
theorem accA_wf {a : Au} (h : a.wf) (acc : Nat -> Bool) : (accA a acc).wf := h
def MinStY (d : Dx) (acc : Nat -> Bool) (w : World) (e : Ending) (w' : World) : Prop := ∃ m, Canon m /\ Eqv m 0 (accA (auD d) acc) 0 /\ CopyD (fieldsOf m) w e w'
theorem implMinSt_yes (va vn : Value) (d : Dx) (S : Nat -> Prop) (g2 : Nat) (lb2 : Array Value) (eg2 : ∀ args w, (callFunc g2 args).run Tryz.prog w = .ok (.enter g2 args) w) (acc : Nat -> Bool) (w : World) (h : DfaV w S va vn d) (hv : validD d = true)
    (H2 : ∀ (V : World) (x : Nat), Below w.heap.size w V -> x < d.acc.length -> Calls Tryz.prog g2 (#[.int .i64 (x : Int)] ++ lb2) V λ e w' => e = .returned (.bool (acc x)) /\ Below V.heap.size V w') :
    Calls Tryz.prog 92 #[.agg #[va, vn], .func (.func g2) #[] lb2] w (MinStY d acc w) := by
  have hmf : ∀ (fn : Fn) (first cap : Array Value) (w : World), (Instr.makeFunc fn first cap).run Tryz.prog w = .ok (.func fn first cap) w := λ _ _ _ _ => rfl
  obtain ⟨hw, hn40, hnn, hl, ad, c, ad', c', rfl, rfl, hA, hT⟩ := h.au hv
  obtain ⟨n, hne⟩ : ∃ n, n = d.acc.length := ⟨_, rfl⟩
  rw [<- hne] at hA hT H2 hnn ⊢
  obtain ⟨W0, hW0⟩ : ∃ W0, W0 = (w.alloc (.cells #[.slice (some ad) n c, .slice (some ad') n c'] 31)).alloc (.cells #[.slice none 0 0, .slice none 0 0] 31) := ⟨_, rfl⟩
  have HB0 : Hid (Below w.heap.size w W0) := Lib.hid (by rw [hW0]; exact ((Below.refl _ _).alloc (Nat.le_refl _) _).alloc (by simp) _)
  have HX : Hid (Bx2 W0 w.heap.size (.slice (some ad) n c) (.slice (some ad') n c')) := Lib.hid (by
    have k := box2_kept (w := w) (w1 := W0) (a := .slice (some ad) n c) (b := .slice (some ad') n c') (t := 31) (by rw [hW0]; exact (Below.refl _ _).alloc (by simp) _)
    exact ⟨k.2.1, k.2.2.1⟩)
  have HY : Hid (W0.heap[w.heap.size + 1]? = some (.cells #[.slice none 0 0, .slice none 0 0] 31 (0, 0))) := Lib.hid (by rw [hW0]; exact three2 w _ _ _ _)
  have HV := Lib.hid (implValidD_any (.slice (some ad) n c) (.slice (some ad') n c') d S W0 (by rw [hne]; exact h.kept HB0.out))
  rw [hv] at HV
  obtain ⟨N, hN, hE⟩ := ends_some (s0 := 0) (g := (auD d).T) (M := (auD d).n) (λ t => (own_keys hw t).2)
  have hEa : Ends 0 (accA (auD d) acc).T N := hE
  obtain ⟨f1, f2, f3⟩ := own_found (accA_wf hw acc) hEa
  obtain ⟨m, m1, m2, m3⟩ := exists_min (hE.wf acc)
  have hm40 : m.n <= 40 := by
    have h5 : m.n <= N := m3
    omega
  have hsr : srchR 40 0 (auD d).T acc (fieldsOf m) true := .inl ⟨N, by omega, hE, m, m1, m2, by unfold fitD; rw [if_pos hm40], by simp [hm40]⟩
  have HM : Hid (Canon m /\ Eqv m 0 (accA (auD d) acc) 0) := Lib.hid ⟨m1, Eqv.trans m2 f2⟩
  have HEx : Hid (∀ V : World, Below W0.heap.size W0 V -> Calls Tryz.prog 30 #[.int .i64 0, .func (.func 34) #[.agg #[.slice (some ad) n c, .slice (some ad') n c']] #[], .func (.func g2) #[] lb2, .int .i64 40] V (CopyDB (fieldsOf m) true V)) := Lib.hid (λ V hV => by
    refine implMdI_any _ g2 _ _ lb2 enters_dfaAfter eg2 (auD d).T acc n 40 0 V (by omega) (by omega) (by omega) (by rw [<- hnn]; exact hw.1) (λ x k hx hk => by rw [<- hnn] at hx ⊢; exact hw.2 x k hx hk) (λ U x k hU hx hk => ?_) (λ U x hU hx => ?_) _ _ hsr
    . have hb : Below w.heap.size w U := HB0.out.trans ((hV.trans (hU.mono hV.size)).mono HB0.out.size)
      obtain ⟨ad2, c2, h1, h2⟩ := hT x hx
      have h3 := h2 k hk
      exact implDfaAfter_any (.slice (some ad) n c) ad' n c' x k ad2 c2 _ U hx hk ((hb.cell (cell_in h1)).trans h1) ((hb.cell (cell_in h3)).trans h3)
    . exact H2 U x (HB0.out.trans ((hV.trans (hU.mono hV.size)).mono HB0.out.size)) hx)
  obtain ⟨hc00, hc01⟩ := HX.out
  rw [hW0] at hc00 hc01
  clear h hA hT H2 hw hne hl hv hn40 hnn hN hE hEa f1 f2 f3 m1 m2 m3 hm40 hsr
  go_enter Tryz.func92, Tryz.ntmps92
  go_wp2_with fail
  go_at_call 32
  rw [<- hW0]
  refine HV.out.mono ?_
  rintro e w1 ⟨rfl, hb1⟩
  have HB1 := Lib.hid hb1
  have HE1 := Lib.hid (HEx.out w1 hb1)
  obtain ⟨hd00, hd01⟩ := HX.out.kept hb1
  clear hc00 hc01 hW0 hb1
  go_wp2_with fail
  go_at_call 30
  refine HE1.out.mono ?_
  rintro e w3 hcd
  clear hd00 hd01
  obtain ⟨A1, p1, A2, p2, rfl, hoo, hb3⟩ := hcd.shape
  obtain ⟨x1, hx1⟩ : ∃ x, x = (fieldsOf m).acc.length := ⟨_, rfl⟩
  obtain ⟨x2, hx2⟩ : ∃ x, x = (fieldsOf m).nxt.length := ⟨_, rfl⟩
  rw [<- hx1, <- hx2] at hoo ⊢
  have HO3 := Lib.hid hoo
  have HB3 := Lib.hid (HB1.out.trans (hb3.mono HB1.out.size))
  have hz1 := HB1.out.size
  have hz3 := hb3.size
  have hyl := blk_lt HY.out
  obtain ⟨W4, hW4⟩ : ∃ W4, W4 = w3.alloc (.cells #[.slice A1 x1 p1, .slice A2 x2 p2] 31) := ⟨_, rfl⟩
  have HX4 : Hid (W4.heap[w3.heap.size]? = some (.cells #[.slice A1 x1 p1, .slice A2 x2 p2] 31 (0, 0)) /\ Below w3.heap.size w3 W4) := Lib.hid (by
    rw [hW4]
    exact ⟨heap_alloc_new w3 _, (Below.refl _ _).alloc (Nat.le_refl _) _⟩)
  obtain ⟨g0, g1, -, -⟩ := box2_facts HX4.out.1
  obtain ⟨c0, c1, k0, k1⟩ := box2_facts ((HX4.out.2.block _ (by omega)).trans ((HB3.out.block _ hyl).trans HY.out))
  obtain ⟨hcl, hsz, hot, hBl⟩ := put2 (k := .slice A1 x1 p1) (l := .slice A2 x2 p2) c0 c1
  obtain ⟨hc0, hc1⟩ := hcl
  have HOt := Lib.hid (And.intro hsz (And.intro hot hBl))
  have HW4 := Lib.hid hW4
  rw [hW4] at g0 g1 c0 c1 k0 k1 hc0 hc1
  clear hsz hot hBl hoo hb3 hcd hx1 hx2 hW4
  go_wp2_with fail
  refine bodyPost_ret (v := .agg #[.slice A1 x1 p1, .slice A2 x2 p2]) (by simp [results, Tryz.results92, go_sem, hc0, hc1]) rfl ?_
  rw [<- HW4.out]
  have h0 := HB0.out.size
  have hz4 := HX4.out.2.size
  exact ⟨m, HM.out.1, HM.out.2, _, _, rfl, HO3.out.mono (λ g hg => (HOt.out.2.1 g (by have := hg.1; omega)).trans (HX4.out.2.block g hg.2)) (λ g hg => ⟨by have := hg.1; omega, by rw [HOt.out.1]; have := hg.2; omega⟩) (by rw [HOt.out.1]; exact hz4), HOt.out.2.2 _ _ (HB0.out.trans ((HB3.out.trans (HX4.out.2.mono HB3.out.size)).mono h0)) (Nat.le_succ _)⟩
theorem implMinSt_no (va vn : Value) (d : Dx) (S : Nat -> Prop) (g2 : Nat) (lb2 : Array Value) (w : World) (h : DfaV w S va vn d) (hv : validD d = false) :
    Calls Tryz.prog 92 #[.agg #[va, vn], .func (.func g2) #[] lb2] w (CopyD ⟨[], []⟩ w) := by
  obtain ⟨W0, hW0⟩ : ∃ W0, W0 = (w.alloc (.cells #[va, vn] 31)).alloc (.cells #[.slice none 0 0, .slice none 0 0] 31) := ⟨_, rfl⟩
  have HB0 : Hid (Below w.heap.size w W0) := Lib.hid (by rw [hW0]; exact ((Below.refl _ _).alloc (Nat.le_refl _) _).alloc (by simp) _)
  have hx := (by
    have k := box2_kept (w := w) (w1 := W0) (a := va) (b := vn) (t := 31) (by rw [hW0]; exact (Below.refl _ _).alloc (by simp) _)
    exact ⟨k.2.1, k.2.2.1⟩ : Bx2 W0 w.heap.size va vn)
  have HY : Hid (W0.heap[w.heap.size + 1]? = some (.cells #[.slice none 0 0, .slice none 0 0] 31 (0, 0))) := Lib.hid (by rw [hW0]; exact three2 w _ _ _ _)
  have HV := Lib.hid (implValidD_any va vn d S W0 (h.kept HB0.out))
  rw [hv] at HV
  obtain ⟨⟨A, c, rfl⟩, A', c', rfl⟩ := h.shape
  obtain ⟨hc00, hc01⟩ := hx
  rw [hW0] at hc00 hc01
  clear h hv
  go_enter Tryz.func92, Tryz.ntmps92
  go_wp2_with fail
  go_at_call 32
  rw [<- hW0]
  refine HV.out.mono ?_
  rintro e w1 ⟨rfl, hb1⟩
  obtain ⟨c0, c1, k0, k1⟩ := box2_facts ((hb1.block _ (blk_lt HY.out)).trans HY.out)
  obtain ⟨hcl, hsz, hot, hBl⟩ := put2 (k := .slice none 0 0) (l := .slice none 0 0) c0 c1
  obtain ⟨hc0, hc1⟩ := hcl
  have HOt := Lib.hid hBl
  have HB1 := Lib.hid hb1
  clear hc00 hc01 hW0 hb1 hsz hot hBl
  go_wp2_with fail
  refine bodyPost_ret (v := .agg #[.slice none 0 0, .slice none 0 0]) (by simp [results, Tryz.results92, go_sem, hc0, hc1]) rfl ?_
  exact ⟨_, _, rfl, DfaO.empty _ _, HOt.out _ _ (HB0.out.trans (HB1.out.mono HB0.out.size)) (Nat.le_succ _)⟩
end Go.Proofs.YtiijlpmdnokjfaaGreatDoor
