/-
  Texts of one proof, one behind the other.
-/
import Derived.IntWalk
import Derived.WalkLawsBesides
import Derived.StillTailTactics
import Derived.Deep.RegionHeld3
import Derived.Test.YthmfncklepkddaaShelf
import Derived.Test.YthmfncklepkddaaBoolPack5

/-
  What impl.explore answers over ints: the automaton that a search in breadth numbers, or the word that too much was met.
-/
namespace Go.Proofs.Ythmfncklepkddaa
open Go.RowKit Go.Maps

set_option maxRecDepth 100000 in
set_option maxHeartbeats 6400000 in
theorem implExpI_any (g1 g2 : Nat) (fa1 lb1 lb2 : Array Value) (eg1 : ∀ args w, (callFunc g1 args).run Try.prog w = .ok (.enter g1 args) w) (eg2 : ∀ args w, (callFunc g2 args).run Try.prog w = .ok (.enter g2 args) w)
    (T : Nat → Nat → Nat) (acc : Nat → Bool) (K M x0 : Nat) (w : World) (hK : K ≤ 2000) (hM : M ≤ 2000) (hM1 : 1 ≤ M) (h0 : x0 < K) (hT : ∀ x k, x < K → k < 3 → T x k < K)
    (H1 : ∀ (V : World) (x k : Nat), Below w.heap.size w V → x < K → k < 3 → Calls Try.prog g1 (fa1 ++ (#[.int .i64 (x : Int), .int .i64 (k : Int)] ++ lb1)) V fun e w' => e = .returned (.int .i64 ((T x k : Nat) : Int)) ∧ Below V.heap.size V w')
    (H2 : ∀ (V : World) (x : Nat), Below w.heap.size w V → x < K → Calls Try.prog g2 (#[.int .i64 (x : Int)] ++ lb2) V fun e w' => e = .returned (.bool (acc x)) ∧ Below V.heap.size V w') :
    Calls Try.prog 105 #[.int .i64 (x0 : Int), .func (.func g1) fa1 lb1, .func (.func g2) #[] lb2, .int .i64 (M : Int)] w (ExpPost x0 T acc M w) := by
  obtain ⟨i0, hi, hz0, hz1, hz2⟩ := info_parts intInfo
  obtain ⟨b0, hbi, hb0, hb1, hb2⟩ := info_parts boolInfo
  obtain ⟨r0, hri, hr0, hr1, hr2⟩ := info_parts rowInfo3
  have hmm := @run_makeMap Try.prog
  have HKeys : Hid (∀ i, (∀ j, j < i → j < (ords x0 T (3 * j)).length) → ∀ t, t ≤ 3 * i → ∀ x ∈ ords x0 T t, x < K) := Lib.hid (fun i ha t => ords_ok (Ok := (· < K)) h0 hT ha t)
  have HTT := Lib.hid hT
  have HH1 := Lib.hid H1
  have HH2 := Lib.hid H2
  clear hT H1 H2
  obtain ⟨W2, hW2⟩ : ∃ W2, W2 = (w.alloc (.cells #[.slice none 0 0, .slice none 0 0] 98)).alloc (.cells #[.slice none 0 0, .slice none 0 0] 98) := ⟨_, rfl⟩
  have HB2 : Hid (Below w.heap.size w W2) := Lib.hid (by rw [hW2]; exact ((Below.refl _ _).alloc (Nat.le_refl _) _).alloc (by simp) _)
  have HZ2 : Hid (W2.heap.size = w.heap.size + 1 + 1) := Lib.hid (by rw [hW2]; simp)
  have HX2 : Hid (W2.heap[w.heap.size]? = some (.cells #[.slice none 0 0, .slice none 0 0] 98 (0, 0)) ∧ W2.heap[w.heap.size + 1]? = some (.cells #[.slice none 0 0, .slice none 0 0] 98 (0, 0))) := Lib.hid (by
    rw [hW2]
    refine ⟨(Below.heap_alloc _ _ _ (by simp)).trans (heap_alloc_new w _), ?_⟩
    have := heap_alloc_new (w.alloc (.cells #[.slice none 0 0, .slice none 0 0] 98)) (.cells #[.slice none 0 0, .slice none 0 0] 98)
    rwa [World.size_alloc] at this)
  go_enter Try.func105, Try.ntmps105
  go_upto_region 2 with fail
  rw [← hW2]
  clear hW2
  have hk0 := klN_key (x := x0) (by omega)
  have hown0 := World.ownsMap_made (H := Unit) W2 Try.prog 3 (plainElem Try.prog 3)
  go_wp2_with (refine wpList_insert_own _ rfl (.tmp 19) (.tmp 20) _ 122 rfl 3 3 lawInt Try.underlying122 _ W2.heap.size 0 _ rfl hown0 (by unfold maxLen; omega) _ _ _ rfl rfl hk0 _ [] (plainElem_int Try.underlying3 (a := 0) (by decide)) ?_; intro w3 hown3 hg3)
  obtain ⟨bM, hbM⟩ : ∃ bM, bM = W2.heap.size := ⟨_, rfl⟩
  rw [← hbM] at hown3 hg3 ⊢
  obtain ⟨W4, hW4⟩ : ∃ W4, W4 = w3.alloc (.cells #[.int .i64 (x0 : Int)] 3) := ⟨_, rfl⟩
  rw [← hW4]
  obtain ⟨B, hB⟩ : ∃ B, B = w.heap.size + 1 := ⟨_, rfl⟩
  rw [← hB] at HX2 HZ2 ⊢
  have HBe := Lib.hid hB
  have hmx : MapOf klN (· < K) ((DataW.map []).put (klN x0) (.lit (.int .i64 0))) [x0] := (MapOf.nil klN (· < K)).put (fun x y _ _ h => klN_inj x y h) (fun x _ => by trivial) h0 (by simp)
  have HS4 : Hid (ExpS 3 1 B bM B (.slice none 0 0) (.slice none 0 0) (.slice (some ⟨w3.heap.size, 0, none⟩) 1 1) [] 0 [] 1 (ints (natI [x0])) 1 ((DataW.map []).put (klN x0) (.lit (.int .i64 0))) W4 ∧ Below B W2 W4) := Lib.hid (by
    have hg2 : W2.grownBy (W2.alloc (.map #[] 0)) none := World.grownBy_alloc _ _ _
    have hz := HZ2.out
    have hba : Below B W2 (W2.alloc (.map #[] 0)) := (Below.refl _ _).alloc (by omega) _
    have hb3 : Below B W2 w3 := hba.grown hg3 (by simp; omega) (fun k e => by cases e; omega)
    have hb4 : Below B W2 W4 := by rw [hW4]; exact hb3.alloc (by have := hb3.size; omega) _
    refine ⟨⟨⟨rfl, .inl ⟨rfl, rfl⟩⟩, ⟨rfl, .inl ⟨rfl, rfl⟩⟩, ?_, ?_, ?_, ⟨Nat.le_refl _, by omega⟩, by decide, by decide, by decide⟩, hb4⟩
    · rw [hW4]
      exact ⟨rfl, .inr ⟨w3.heap.size, 1, #[.int .i64 (x0 : Int)], rfl, by have := hb3.size; omega, heap_alloc_new w3 _, Nat.le_refl _, by decide, rfl, rfl⟩⟩
    · rw [hW4]
      exact hown3.alloc _
    · rw [hW4]
      have h1 := (hg3.block B (by simp; omega) (fun e => by injection e with e; omega)).trans ((Below.heap_alloc W2 _ B (by omega)).trans HX2.out.2)
      exact (Below.heap_alloc w3 _ B (blk_lt h1)).trans h1)
  have HM4 := Lib.hid hmx
  clear hown0 hown3 hg3 hW4 hmx hB hbM hk0
  have HE0 : Hid (ords x0 T (3 * 0) = [x0]) := Lib.hid rfl
  go_loopw [12, 13] (fun vo iv wr => ∃ (i : Nat) (va vr : Value) (D : DataW Unit), iv = .int .i64 i ∧ i ≤ M ∧ Hid ((ords x0 T (3 * i)).length ≤ M) ∧ Hid (Below B W2 wr) ∧ Hid (∀ j, j < i → j < (ords x0 T (3 * j)).length) ∧ Hid (ExpS 3 1 B bM B va vr vo ((List.range i).map fun j => acc (keyA x0 T j)) i (rowsC x0 T i) (ords x0 T (3 * i)).length (ints (natI (ords x0 T (3 * i)))) (ords x0 T (3 * i)).length D wr ∧ MapOf klN (· < K) D (ords x0 T (3 * i)))) (fun _ iv _ => M + 1 - (intOf iv).toNat)
  case atStart => exact ⟨0, _, _, _, rfl, Nat.zero_le _, Lib.hid hM1, Lib.hid HS4.out.2, Lib.hid (fun j hj => absurd hj (Nat.not_lt_zero _)), Lib.hid ⟨HS4.out.1, HM4.out⟩⟩
  case round =>
    obtain ⟨i, va, vr, D, rfl, hin, HLe, HBr, hon, HS⟩ := hrel
    clear HS4 HM4 HE0
    obtain ⟨l, hl⟩ : ∃ l, l = ords x0 T (3 * i) := ⟨_, rfl⟩
    rw [← hl] at HS
    have hll : l.length ≤ M := by rw [hl]; exact HLe.out
    have hl0 : 0 < l.length := by rw [hl]; exact ords_pos _
    obtain ⟨go, co, hvo, -, -⟩ := own_cell HS.out.1.ord hl0
    subst hvo
    have HL := Lib.hid hl
    by_cases hlt : i < l.length
    · have hi1 : i < (ords x0 T (3 * i)).length := by rw [← hl]; exact hlt
      have HON : Hid (∀ j, j < i + 1 → j < (ords x0 T (3 * j)).length) := Lib.hid (fun j hj => by
        rcases Nat.lt_or_eq_of_le (Nat.le_of_lt_succ hj) with h | h
        · exact hon.out j h
        · rw [h]; exact hi1)
      clear hl
      have hd : decide ((i : Int) < (l.length : Int)) = true := by simp; omega
      go_upto_region 9 with fail
      obtain ⟨bx, hbx⟩ : ∃ bx, bx = wr.heap.size := ⟨_, rfl⟩
      obtain ⟨V0, hV0⟩ : ∃ V0, V0 = wr.alloc (.cells #[.int .i64 0, .int .i64 0, .int .i64 0] 115) := ⟨_, rfl⟩
      rw [← hV0, ← hbx]
      obtain ⟨accs, hacc⟩ : ∃ accs, accs = (List.range i).map fun j => acc (keyA x0 T j) := ⟨_, rfl⟩
      obtain ⟨rows, hrows⟩ : ∃ rows, rows = rowsC x0 T i := ⟨_, rfl⟩
      rw [← hacc, ← hrows] at HS
      have HAc := Lib.hid (And.intro hacc hrows)
      have hal : accs.length = i := by rw [hacc]; simp
      have HAl := Lib.hid hal
      have HNx : Hid (ExpN B bM B va vr (.slice (some ⟨go, 0, none⟩) l.length co) bx) := Lib.hid (HS.out.1.fresh (by rw [hbx]; exact Nat.le_refl _))
      have HS0 : Hid (Below B W2 V0 ∧ (ExpS 3 1 B bM B va vr (.slice (some ⟨go, 0, none⟩) l.length co) accs i rows (ords x0 T (3 * i + 0)).length (ints (natI (ords x0 T (3 * i + 0)))) (ords x0 T (3 * i + 0)).length D V0 ∧ MapOf klN (· < K) D (ords x0 T (3 * i + 0))) ∧ Arr3 V0 bx (cutV (toA x0 T i) 0)) := Lib.hid (by
        rw [Nat.add_zero, ← HL.out]
        refine ⟨by rw [hV0]; exact HBr.out.alloc (Nat.le_of_lt HS.out.1.base) _, ⟨HS.out.1.below (by rw [hV0]; exact (Below.refl _ _).alloc (Nat.le_refl _) _), HS.out.2⟩, ?_⟩
        rw [hV0, hbx]
        exact heap_alloc_new wr _)
      clear hd hV0 hacc hrows hal HS hbx
      go_loopw [12, 30] (fun vo kv wq => ∃ (k : Nat) (D : DataW Unit), kv = .int .i64 k ∧ k ≤ 3 ∧ Hid ((ords x0 T (3 * i + k)).length ≤ M) ∧ Hid (Below B W2 wq ∧ (ExpS 3 1 B bM B va vr vo accs i rows (ords x0 T (3 * i + k)).length (ints (natI (ords x0 T (3 * i + k)))) (ords x0 T (3 * i + k)).length D wq ∧ MapOf klN (· < K) D (ords x0 T (3 * i + k))) ∧ Arr3 wq bx (cutV (toA x0 T i) k))) (fun _ kv _ => 3 - (intOf kv).toNat)
      case atStart => exact ⟨0, _, rfl, Nat.zero_le _, HLe, HS0⟩
      case round =>
        obtain ⟨k, Dk, rfl, hk, HLk, HQ⟩ := hrel
        clear HS0
        by_cases hk3 : k < 3
        · obtain ⟨st1, st2⟩ := keyA_step (s0 := x0) (g := T) hi1 hk3
          obtain ⟨hil, hkey⟩ := keyA_at (s0 := x0) (g := T) (t := 3 * i + k) hi1 (by omega)
          have hxM : keyA x0 T i < K := HKeys.out (i + 1) HON.out (3 * i) (by omega) _ (getD_mem hi1)
          obtain ⟨x, hx⟩ : ∃ x, x = keyA x0 T i := ⟨_, rfl⟩
          obtain ⟨lq, hlq⟩ : ∃ lq, lq = ords x0 T (3 * i + k) := ⟨_, rfl⟩
          rw [← hx, ← hlq] at st1 st2
          rw [← hlq] at HQ hil hkey
          rw [← hx] at hkey hxM
          have hlqM : lq.length ≤ M := by rw [hlq]; exact HLk.out
          have HLq := Lib.hid (And.intro hlq hx)
          have HLe2 := Lib.hid hlqM
          clear hlq hx
          obtain ⟨y, hy⟩ : ∃ y, y = T x k := ⟨_, rfl⟩
          have hyM : y < K := by rw [hy]; exact HTT.out x k hxM hk3
          rw [← hy] at st1 st2
          obtain ⟨gq, cq, hvq, -, hcq⟩ := own_cell HQ.out.2.1.1.ord (by omega)
          subst hvq
          have hci := hcq i (by omega)
          rw [show (ints (natI lq))[i]? = some (.int .i64 (x : Int)) by
            rw [← hkey]
            simp [ints, natI, List.getD_eq_getElem?_getD, List.getElem?_eq_getElem hil]] at hci
          have HC1 : Hid (Calls Try.prog g1 (fa1 ++ (#[.int .i64 (x : Int), .int .i64 (k : Int)] ++ lb1)) wr fun e w' => e = .returned (.int .i64 (y : Int)) ∧ Below wr.heap.size wr w') := Lib.hid (by
            rw [hy]
            refine HH1.out wr x k (HB2.out.trans (HQ.out.1.mono ?_)) hxM hk3
            have := HBe.out
            omega)
          have HSt := Lib.hid (And.intro st1 st2)
          have s1 : (i : Int) < (lq.length : Int) := by omega
          have s2 : (0 : Int) ≤ (i : Int) := by omega
          have s3 : (k : Int) < 3 := by omega
          have s4 : (0 : Int) ≤ (k : Int) := by omega
          clear hcq st1 st2 hkey hy
          go_wp2_with fail
          refine HC1.out.mono ?_
          rintro e w5 ⟨rfl, hb5⟩
          have HQ5 := Lib.hid (And.intro (HQ.out.1.trans (hb5.mono (Nat.le_trans (by have := HZ2.out; omega) HQ.out.1.size))) (And.intro (HQ.out.2.1.1.below hb5) (HQ.out.2.2.same (hb5.block _ HQ.out.2.2.lt))))
          have HMo := Lib.hid HQ.out.2.1.2
          obtain ⟨kf1, kf2⟩ := HQ5.out.2.2.facts hk3
          have hky := klN_key (x := y) (by omega)
          clear hci hb5
          by_cases hyl : y ∈ lq
          · have hhas : Maps.has Dk (klN y) = true := by rw [(HMo.out.2 y hyM).1]; simpa using hyl
            have HHit := Lib.hid (And.intro ((HMo.out.2 y hyM).2 hyl) (HSt.out.1 hyl))
            clear hyl
            go_wp2_with (at_lookup; refine wpList_lookup_own_ok_int _ rfl (.tmp 41) (.tmp 42) 122 rfl 3 3 .i64 lawInt Try.underlying122 Try.underlying3 (zeroInt _) bM _ _ rfl HQ5.out.2.1.map _ _ rfl hky ?_; intro c hat hwc)
            have hc : c = ((toA x0 T i k : Nat) : Int) := by
              have h1 := HHit.out.1 (.lit (.int .i64 0))
              rw [hat] at h1
              rw [HHit.out.2.2]
              injection h1 with h1
              injection h1 with _ h1
            subst hc
            have HQ6 : Hid (Below B W2 (w5.setCell ⟨bx, k, none⟩ (.int .i64 ((toA x0 T i k : Nat) : Int))) ∧ (ExpS 3 1 B bM B va vr (.slice (some ⟨gq, 0, none⟩) lq.length cq) accs i rows (ords x0 T (3 * i + (k + 1))).length (ints (natI (ords x0 T (3 * i + (k + 1))))) (ords x0 T (3 * i + (k + 1))).length Dk (w5.setCell ⟨bx, k, none⟩ (.int .i64 ((toA x0 T i k : Nat) : Int))) ∧ MapOf klN (· < K) Dk (ords x0 T (3 * i + (k + 1)))) ∧ Arr3 (w5.setCell ⟨bx, k, none⟩ (.int .i64 ((toA x0 T i k : Nat) : Int))) bx (cutV (toA x0 T i) (k + 1))) := Lib.hid (by
              have hN := HNx.out
              rw [HHit.out.2.1]
              refine ⟨below_set HQ5.out.1 hN.2.2.2.2.2 _, ⟨HQ5.out.2.1.set ⟨hN.1, hN.2.1, fun e => ?_, hN.2.2.2.1, hN.2.2.2.2.1, hN.2.2.2.2.2⟩ _, HMo.out⟩, HQ5.out.2.2.set hk3 (cutV_step _ k).1 (fun j _ hj => (cutV_step _ k).2 j hj)⟩
              obtain ⟨cur, hh⟩ := blk_ofz HQ5.out.2.1.ord e
              exact blk_ne hh HQ5.out.2.2 (by decide) rfl)
            clear kf1 kf2 hat hhas hwc
            go_wp2_with fail
            go_roundw
            case rel => exact ⟨k + 1, Dk, by go_num, by omega, Lib.hid (by rw [HHit.out.2.1]; exact HLe2.out), HQ6⟩
            case measure => simp [intOf]; omega
          · have hhas : Maps.has Dk (klN y) = false := by rw [(HMo.out.2 y hyM).1]; simpa using hyl
            have HMiss := Lib.hid (And.intro hyl (HSt.out.2 hyl))
            clear hyl
            by_cases hfull : lq.length = M
            · have hcmp : ((lq.length : Int) == (M : Int)) = true := by simp; omega
              have HBig := Lib.hid (exp_big (M := M) HON.out hk3 (by rw [HMiss.out.2.1, List.length_append, hfull]; rfl))
              obtain ⟨c0, c1, k0, k1⟩ := box2_facts ((HQ5.out.1.block _ (by have := HBe.out; omega)).trans HX2.out.1)
              obtain ⟨hcl, hsz, hot, hBl⟩ := put2 (k := .slice none 0 0) (l := .slice none 0 0) c0 c1
              obtain ⟨hc0, hc1⟩ := hcl
              have HOt := Lib.hid (And.intro HQ5.out.1 hBl)
              clear hsz hot hBl kf1 kf2
              go_wp2_with (at_lookup; refine wpList_lookup_own_ok_int _ rfl (.tmp 41) (.tmp 42) 122 rfl 3 3 .i64 lawInt Try.underlying122 Try.underlying3 (zeroInt _) bM _ _ rfl HQ5.out.2.1.map _ _ rfl hky ?_; intro c hat hwc)
              refine bodyPost_ret (v := .tuple #[.agg #[.slice none 0 0, .slice none 0 0], .bool false]) (by simp [results, Try.results105, go_sem, hc0, hc1]) rfl ?_
              exact .inr ⟨HBig.out, rfl, HOt.out.2 _ _ (HB2.out.trans (HOt.out.1.mono (by have := HBe.out; omega))) (Nat.le_refl _)⟩
            have hcmp : ((lq.length : Int) == (M : Int)) = false := by simp; omega
            have hroom : lq.length + 1 ≤ M := by omega
            have HRoom := Lib.hid hroom
            clear hfull
            go_upto_region 17 with (at_lookup; refine wpList_lookup_own_ok_int _ rfl (.tmp 41) (.tmp 42) 122 rfl 3 3 .i64 lawInt Try.underlying122 Try.underlying3 (zeroInt _) bM _ _ rfl HQ5.out.2.1.map _ _ rfl hky ?_; intro c hat hwc)
            go_upto_region 18 with (at_mapUpdate; refine wpList_mapUpdate_own _ rfl (.tmp 55) (.tmp 56) (.tmp 57) 122 rfl 3 3 lawInt Try.underlying122 _ bM lq.length Dk rfl HQ5.out.2.1.map (by unfold maxLen; omega) _ _ _ rfl rfl hky _ [] (plainElem_int Try.underlying3 (klN_wf (x := lq.length) (by omega))) ?_; intro w6 hown6 hg6)
            have HQ6 := Lib.hid (HQ5.out.2.1.map_put hown6 hg6)
            have HA6 : Hid (Below B W2 w6 ∧ Arr3 w6 bx (cutV (toA x0 T i) k)) := Lib.hid ⟨HQ5.out.1.grown hg6 (Nat.le_of_lt HQ5.out.2.1.base) (fun j e => by injection e with e; rw [← e]; exact HQ5.out.2.1.low.2), HQ5.out.2.2.same (hg6.block bx HQ5.out.2.2.lt (fun e => HNx.out.2.2.2.1 (by injection e with e; exact e.symm)))⟩
            have hbw6 : B ≤ w6.heap.size := Nat.le_of_lt HQ6.out.base
            have HMp := Lib.hid (HMo.out.put (fun x y _ _ h => klN_inj x y h) (fun x _ => by trivial) hyM HMiss.out.1)
            clear hown6 hg6 hat hwc hhas kf1 kf2
            go_wp2_with (at_builtin; refine wpList_append_own_at _ rfl (.tmp 58) (.tmp 60) 73 rfl B 3 i0 (.int .i64 0) 1 8 Try.underlying73 hi hz0 hz1 hz2 rfl (by decide) _ _ _ rfl (HQ6.out.ord.alloc _) ⟨w6.heap.size, 0, none⟩ 1 1 [.int .i64 (y : Int)] rfl rfl (cell_one_new _ _ _) (by simp [Value.oneCell']) (by unfold maxLen; omega) (by omega) (by simp; omega) ?_)
            intro v' w7 hown' hgrow hnil hat
            have HQ7 : Hid (ExpS 3 1 B bM B va vr v' accs i rows (ords x0 T (3 * i + (k + 1))).length (ints (natI (ords x0 T (3 * i + (k + 1))))) (ords x0 T (3 * i + (k + 1))).length (Dk.put (klN y) (.lit (.int .i64 ((lq.length : Nat) : Int)))) w7) := Lib.hid (by
              have h1 := (HQ6.out.below ((Below.refl _ _).alloc (Nat.le_refl _) (.cells #[.int .i64 (y : Int)] 3))).ord_push hown' hgrow
              rw [HMiss.out.2.1]
              have e1 : ints (natI (lq ++ [y])) = ints (natI lq) ++ [.int .i64 (y : Int)] := by simp [ints, natI]
              rw [e1, List.length_append]
              exact h1)
            have HA7 : Hid (Below B W2 w7 ∧ Arr3 w7 bx (cutV (toA x0 T i) k)) := Lib.hid (by
              refine ⟨(HA6.out.1.alloc hbw6 (.cells #[.int .i64 (y : Int)] 3)).grown hgrow (by simp; omega) (fun j e => (HQ6.out.ord.lt j e).1), ?_⟩
              have h1 : Arr3 (w6.alloc (.cells #[.int .i64 (y : Int)] 3)) bx (cutV (toA x0 T i) k) := HA6.out.2.same (Below.heap_alloc _ _ _ HA6.out.2.lt)
              refine h1.same (hgrow.block bx h1.lt (fun e => ?_))
              obtain ⟨cur, hh⟩ := blk_ofz HQ6.out.ord e.symm
              exact blk_ne hh HA6.out.2 (by decide) rfl)
            obtain ⟨kf1, kf2⟩ := HA7.out.2.facts hk3
            clear hown' hgrow hnil hat
            have HQ8 : Hid (Below B W2 (w7.setCell ⟨bx, k, none⟩ (.int .i64 ((lq.length : Nat) : Int))) ∧ (ExpS 3 1 B bM B va vr v' accs i rows (ords x0 T (3 * i + (k + 1))).length (ints (natI (ords x0 T (3 * i + (k + 1))))) (ords x0 T (3 * i + (k + 1))).length (Dk.put (klN y) (.lit (.int .i64 ((lq.length : Nat) : Int)))) (w7.setCell ⟨bx, k, none⟩ (.int .i64 ((lq.length : Nat) : Int))) ∧ MapOf klN (· < K) (Dk.put (klN y) (.lit (.int .i64 ((lq.length : Nat) : Int)))) (ords x0 T (3 * i + (k + 1)))) ∧ Arr3 (w7.setCell ⟨bx, k, none⟩ (.int .i64 ((lq.length : Nat) : Int))) bx (cutV (toA x0 T i) (k + 1))) := Lib.hid (by
              have hN := HNx.out
              refine ⟨below_set HA7.out.1 hN.2.2.2.2.2 _, ⟨HQ7.out.set ⟨hN.1, hN.2.1, fun e => ?_, hN.2.2.2.1, hN.2.2.2.2.1, hN.2.2.2.2.2⟩ _, by rw [HMiss.out.2.1]; exact HMp.out⟩, HA7.out.2.set hk3 ?_ (fun j _ hj => (cutV_step _ k).2 j hj)⟩
              · obtain ⟨cur, hh⟩ := blk_ofz HQ7.out.ord e
                exact blk_ne hh HA7.out.2 (by decide) rfl
              · rw [(cutV_step _ k).1, HMiss.out.2.2])
            go_wp2_with fail
            go_roundw
            case rel => exact ⟨k + 1, _, by go_num, by omega, Lib.hid (by rw [HMiss.out.2.1, List.length_append]; exact HRoom.out), HQ8⟩
            case measure => simp [intOf]; omega
        · obtain rfl : k = 3 := by omega
          obtain ⟨hil, hkey⟩ := keyA_at (s0 := x0) (g := T) (t := 3 * i + 3) hi1 (by omega)
          have hxM : keyA x0 T i < K := HKeys.out (i + 1) HON.out (3 * i) (by omega) _ (getD_mem hi1)
          obtain ⟨x, hx⟩ : ∃ x, x = keyA x0 T i := ⟨_, rfl⟩
          obtain ⟨lq, hlq⟩ : ∃ lq, lq = ords x0 T (3 * i + 3) := ⟨_, rfl⟩
          rw [← hlq] at HQ hil hkey
          rw [← hx] at hkey hxM
          have hlqM : lq.length ≤ M := by rw [hlq]; exact HLk.out
          have HLq := Lib.hid (And.intro hlq hx)
          have HLe2 := Lib.hid hlqM
          clear hlq hx
          obtain ⟨gq, cq, hvq, -, hcq⟩ := own_cell HQ.out.2.1.1.ord (by omega)
          subst hvq
          have hci := hcq i (by omega)
          rw [show (ints (natI lq))[i]? = some (.int .i64 (x : Int)) by
            rw [← hkey]
            simp [ints, natI, List.getD_eq_getElem?_getD, List.getElem?_eq_getElem hil]] at hci
          obtain ⟨b, hb⟩ : ∃ b, b = acc x := ⟨_, rfl⟩
          have HC2 : Hid (Calls Try.prog g2 (#[.int .i64 (x : Int)] ++ lb2) wr.drew fun e w' => e = .returned (.bool b) ∧ Below wr.drew.heap.size wr.drew w') := Lib.hid (by
            rw [hb]
            refine HH2.out wr.drew x ((HB2.out.trans (HQ.out.1.mono ?_)).drew) hxM
            have := HBe.out
            omega)
          have HBb' := Lib.hid hb
          have s1 : (i : Int) < (lq.length : Int) := by omega
          have s2 : (0 : Int) ≤ (i : Int) := by omega
          have hal : accs.length ≤ 2000 := by rw [HAl.out]; omega
          have hbwr : B ≤ wr.heap.size := Nat.le_of_lt HQ.out.2.1.1.base
          have HQd := Lib.hid (HQ.out.2.1.1.below (Below.refl _ _).drew)
          obtain ⟨e0, -, e2, -⟩ := box2_facts HQ.out.2.1.1.box
          obtain ⟨e4, -, e6, -⟩ := box2_facts HQd.out.box
          obtain ⟨Aa, qa, hva⟩ := (RowO.of_owns HQ.out.2.1.1.acc (by omega)).row.shape
          rw [bools_length] at hva
          subst hva
          clear hcq hkey hb
          go_upto_region 21 with fail
          go_cut [] from 66 to 76 (fun wc => ∃ va2, Hid (ExpS 3 1 B bM B va2 vr (.slice (some ⟨gq, 0, none⟩) lq.length cq) (accs ++ [b]) i rows lq.length (ints (natI lq)) lq.length Dk wc) ∧ Hid (Below B W2 wc ∧ Arr3 wc bx (cutV (toA x0 T i) 3)))
          case first =>
            go_region_law (first
              | (refine step_call_val rfl (.tmp 68) _ _ rfl g2 lb2 (by simp [Act.eval]) eg2 #[.int .i64 (x : Int)] (by simp [Act.eval]) HC2.out ?_; rintro e w1 ⟨rfl, hb1⟩; have HO1 := Lib.hid (HQd.out.below hb1); have HA1 := Lib.hid (And.intro (HQ.out.1.drew.trans (hb1.mono (by show B ≤ wr.heap.size; omega))) (HQ.out.2.2.same (hb1.block bx HQ.out.2.2.lt))); obtain ⟨l0, -, l2, -⟩ := box2_facts HO1.out.box; have HO1a := Lib.hid (HO1.out.below ((Below.refl _ _).alloc (Nat.le_refl _) (.cells #[.bool b] 4))); obtain ⟨l4, -, l6, -⟩ := box2_facts HO1a.out.box; have hbw1 : B ≤ w1.heap.size := Nat.le_of_lt HO1.out.base; clear hb1; refine ⟨_, rfl, ?_⟩)
              | (refine step_append_own_at rfl (.tmp 67) (.tmp 74) 24 rfl B 4 b0 (.bool false) 1 1 Try.underlying24 hbi hb0 hb1 hb2 rfl (by decide) _ _ _ rfl (HO1.out.acc.alloc _) ⟨w1.heap.size, 0, none⟩ 1 1 [.bool b] rfl rfl (cell_one_new w1 _ _) (by simp [Value.oneCell']) (by unfold maxLen; omega) (by omega) (by simp; omega) ?_; intro v' w9 hown' hgrow hat; obtain ⟨g', cap', rfl⟩ := own_succ hown'; have HB9 := Lib.hid (((HA1.out.1.alloc hbw1 (.cells #[.bool b] 4)).grown hgrow (by simp; omega) (fun g e => (HO1.out.acc.lt g e).1)).setCell (p := ⟨B, 0, none⟩) (Nat.le_refl _) (.slice (some ⟨g', 0, none⟩) (accs.length + 1) cap')); obtain ⟨z1, z2, HQ9⟩ := HO1a.out.acc_push hown' hgrow; obtain ⟨z0, z1⟩ := z1; have HQ9 := Lib.hid HQ9; have HG9 := Lib.hid hgrow))
            all_goals
              have HX9 : Hid (Arr3 (w9.setCell ⟨B, 0, none⟩ (.slice (some ⟨g', 0, none⟩) (accs.length + 1) cap')) bx (cutV (toA x0 T i) 3)) := Lib.hid (by
                have hxa : Arr3 (w1.alloc (.cells #[.bool b] 4)) bx (cutV (toA x0 T i) 3) := HA1.out.2.same (Below.heap_alloc _ _ _ HA1.out.2.lt)
                refine (hxa.same (HG9.out.block bx hxa.lt (fun e => HNx.out.1 ?_))).same (Below.heap_setCell _ _ _ _ (fun e => HNx.out.2.2.2.2.1 (Eq.symm e)))
                exact e.symm)
              clear hown' hgrow hat z1 z2 l0 l2 l4 l6 e0 e2 e4 e6
              go_wp2_with fail
              go_meet
              exact ⟨_, HQ9, Lib.hid ⟨HB9.out, HX9.out⟩⟩
          case rest =>
            obtain ⟨va2, HQ9, HA9⟩ := hcut
            clear e0 e2 e4 e6 hci
            have hbw9 : B ≤ wc.heap.size := Nat.le_of_lt HQ9.out.base
            obtain ⟨-, e1, -, e3⟩ := box2_facts HQ9.out.box
            have hx3 : Bx3 wc bx (.int .i64 ((toA x0 T i 0 : Nat) : Int)) (.int .i64 ((toA x0 T i 1 : Nat) : Int)) (.int .i64 ((toA x0 T i 2 : Nat) : Int)) 115 := HA9.out.2
            obtain ⟨⟨c0, c1, c2⟩, -⟩ := hx3.facts
            clear hx3
            obtain ⟨t0, ht0⟩ : ∃ y : Int, y = ((toA x0 T i 0 : Nat) : Int) := ⟨_, rfl⟩
            obtain ⟨t1, ht1⟩ : ∃ y : Int, y = ((toA x0 T i 1 : Nat) : Int) := ⟨_, rfl⟩
            obtain ⟨t2, ht2⟩ : ∃ y : Int, y = ((toA x0 T i 2 : Nat) : Int) := ⟨_, rfl⟩
            rw [← ht0] at c0
            rw [← ht1] at c1
            rw [← ht2] at c2
            have HRw : Hid (rows ++ [.int .i64 t0, .int .i64 t1, .int .i64 t2] = rowsC x0 T (i + 1)) := Lib.hid (by rw [rowsC_succ, HAc.out.2, ht0, ht1, ht2]; rfl)
            clear ht0 ht1 ht2
            go_wp2_with (at_builtin; refine wpList_append_own_at _ rfl (.tmp 78) (.tmp 80) 96 rfl B 115 r0 (.agg #[.int .i64 0, .int .i64 0, .int .i64 0]) 3 24 Try.underlying96 hri hr0 hr1 hr2 rfl (by decide) _ _ _ rfl (HQ9.out.row.alloc _) ⟨wc.heap.size, 0, none⟩ 1 1 [.int .i64 t0, .int .i64 t1, .int .i64 t2] rfl rfl (newB3 wc _ _ _ _) (by simp [Value.oneCell']) (by unfold maxLen; omega) (by omega) (by simp; omega) ?_)
            intro v' w9 hown' hgrow hnil hat
            obtain ⟨gn, capn, rfl⟩ := own_succ hown'
            obtain ⟨⟨z0, z1⟩, z2, HQb⟩ := (HQ9.out.below ((Below.refl _ _).alloc (Nat.le_refl _) (.cells #[.int .i64 t0, .int .i64 t1, .int .i64 t2] 115))).row_push hown' hgrow
            rw [HRw.out] at HQb
            have HQb := Lib.hid HQb
            have HBb := Lib.hid (((HA9.out.1.alloc hbw9 (.cells #[.int .i64 t0, .int .i64 t1, .int .i64 t2] 115)).grown hgrow (by simp; omega) (fun g e => (HQ9.out.row.lt g e).1)).setCell (p := ⟨B, 1, none⟩) (Nat.le_refl _) (.slice (some ⟨gn, 0, none⟩) (i + 1) capn))
            have HA1 : Hid (accs ++ [b] = (List.range (i + 1)).map fun j => acc (keyA x0 T j)) := Lib.hid (by rw [List.range_succ, List.map_append, HAc.out.1, HBb'.out, HLq.out.2]; rfl)
            rw [HA1.out] at HQb
            have HMk := Lib.hid HQ.out.2.1.2
            clear hown' hgrow hnil hat
            go_wp2_with fail
            go_roundw
            case rel => exact ⟨i + 1, _, _, Dk, by go_num, by omega, Lib.hid (by rw [show 3 * (i + 1) = 3 * i + 3 by omega]; exact HLk.out), HBb, HON, by
              rw [show 3 * (i + 1) = 3 * i + 3 by omega, ← HLq.out.1]
              exact Lib.hid ⟨HQb.out, HMk.out⟩⟩
            case measure => simp [intOf]; omega
    · have hE : Ends x0 T i := ⟨hon.out, by rw [← hl]; omega⟩
      have hEl := hE.length
      have hiM : i ≤ M := by rw [← hEl]; exact HLe.out
      have hi0 := hE.pos
      have HE := Lib.hid hE
      obtain ⟨ga, ca, rfl, hga, hca⟩ := own_cell HS.out.1.acc (by simp; omega)
      obtain ⟨gr, cr, rfl, hgr, hcr⟩ := own_cell HS.out.1.row hi0
      have HAu : Hid (∀ V : World, (∀ g, g ≠ w.heap.size → V.heap[g]? = wr.heap[g]?) → AutoV V (.slice (some ⟨ga, 0, none⟩) i ca) (.slice (some ⟨gr, 0, none⟩) i cr) (found x0 T acc i)) := Lib.hid (fun V hV => ⟨ga, ca, gr, cr, rfl, rfl, fun q hq => by
          have hq' : q < i := hq
          have hBe := HBe.out
          rw [World.cell?_of_block (w := wr) (a := ⟨ga, q, none⟩) (hV ga (by omega))]
          rw [hca q (by simp; omega), (found_keyA hE acc hq').1]
          simp [bools, hq'], fun q hq k hk => by
          have hq' : q < i := hq
          have hBe := HBe.out
          rw [World.cell?_of_block (w := wr) (a := ⟨gr, q * 3 + k, none⟩) (hV gr (by omega))]
          rw [hcr (q * 3 + k) (by omega), rowsC_at i q k hq' hk, (found_keyA hE acc hq').2 k hk]⟩)
      obtain ⟨e0, e1, -, -⟩ := box2_facts HS.out.1.box
      have hln : ((List.range i).map fun j => acc (keyA x0 T j)).length = i := by simp
      rw [hln] at e0
      have hyb := (HBr.out.block _ (by have := HBe.out; omega)).trans HX2.out.1
      obtain ⟨c0, c1, k0, k1⟩ := box2_facts hyb
      have hd : decide ((i : Int) < (l.length : Int)) = false := by simp; omega
      obtain ⟨hcl, hsz, hot, hBl⟩ := put2 (k := .slice (some ⟨ga, 0, none⟩) i ca) (l := .slice (some ⟨gr, 0, none⟩) i cr) c0 c1
      obtain ⟨hc0, hc1⟩ := hcl
      have HOt := Lib.hid (And.intro hsz (And.intro hot hBl))
      clear hsz hot hBl hyb hl hca hcr hln hE hEl hga hgr
      go_wp2_with fail
      refine bodyPost_ret (v := .tuple #[.agg #[.slice (some ⟨ga, 0, none⟩) i ca, .slice (some ⟨gr, 0, none⟩) i cr], .bool true]) (by simp [results, Try.results105, go_sem, hc0, hc1]) rfl ?_
      exact .inl ⟨i, _, _, HE.out, hiM, rfl, HAu.out _ HOt.out.2.1, HOt.out.2.2 _ _ (HB2.out.trans (HBr.out.mono (by have := HBe.out; omega))) (Nat.le_refl _)⟩
end Go.Proofs.Ythmfncklepkddaa

namespace Go.Proofs.Ythmfncklepkddaa
open Go.RowKit

set_option maxRecDepth 100000 in
set_option maxHeartbeats 3200000 in
theorem implMdI_any (g1 g2 : Nat) (fa1 lb1 lb2 : Array Value) (eg1 : ∀ args w, (callFunc g1 args).run Try.prog w = .ok (.enter g1 args) w) (eg2 : ∀ args w, (callFunc g2 args).run Try.prog w = .ok (.enter g2 args) w)
    (T : Nat → Nat → Nat) (acc : Nat → Bool) (K : Nat) (M : Nat) (x0 : Nat) (w : World) (hK : K ≤ 2000) (hM : M ≤ 2000) (hM1 : 1 ≤ M) (h0 : x0 < K) (hT : ∀ x k, x < K → k < 3 → T x k < K)
    (H1 : ∀ (V : World) (x : Nat) (k : Nat), Below w.heap.size w V → x < K → k < 3 → Calls Try.prog g1 (fa1 ++ (#[.int .i64 ((x : Nat) : Int), .int .i64 (k : Int)] ++ lb1)) V fun e w' => e = .returned (.int .i64 (((T x k) : Nat) : Int)) ∧ Below V.heap.size V w')
    (H2 : ∀ (V : World) (x : Nat), Below w.heap.size w V → x < K → Calls Try.prog g2 (#[.int .i64 ((x : Nat) : Int)] ++ lb2) V fun e w' => e = .returned (.bool (acc x)) ∧ Below V.heap.size V w')
    (y : Dx) (ok : Bool) (hy : srchR M x0 T acc y ok) :
    Calls Try.prog 95 #[.int .i64 ((x0 : Nat) : Int), .func (.func g1) fa1 lb1, .func (.func g2) #[] lb2, .int .i64 (M : Int)] w (CopyDB y ok w) := by
  obtain ⟨W0, hW0⟩ : ∃ W0, W0 = w.alloc (.cells #[.slice none 0 0, .slice none 0 0] 27) := ⟨_, rfl⟩
  have HB0 : Hid (Below w.heap.size w W0) := Lib.hid (by rw [hW0]; exact (Below.refl _ _).alloc (Nat.le_refl _) _)
  have HY : Hid (W0.heap[w.heap.size]? = some (.cells #[.slice none 0 0, .slice none 0 0] 27 (0, 0))) := Lib.hid (by rw [hW0]; exact heap_alloc_new w _)
  have HEx := Lib.hid (implExpI_any g1 g2 fa1 lb1 lb2 eg1 eg2 T acc K M x0 W0 hK hM hM1 h0 hT (fun V x k hV hx hk => H1 V x k (HB0.out.trans (hV.mono HB0.out.size)) hx hk) (fun V x hV hx => H2 V x (HB0.out.trans (hV.mono HB0.out.size)) hx))
  have HYy := Lib.hid hy
  clear hy hT H1 H2 h0 hM1
  go_enter Try.func95, Try.ntmps95
  go_wp2_with fail
  go_at_call 105
  rw [← hW0]
  refine HEx.out.mono ?_
  rintro e w1 (⟨N, va2, vr2, hE, hN, rfl, hau, hb1⟩ | ⟨hno, rfl, hb1⟩)
  · have HB1 := Lib.hid hb1
    obtain ⟨W2, hW2⟩ : ∃ W2, W2 = w1.alloc (.cells #[va2, vr2] 98) := ⟨_, rfl⟩
    have HB2 : Hid (Below w1.heap.size w1 W2) := Lib.hid (by rw [hW2]; exact (Below.refl _ _).alloc (Nat.le_refl _) _)
    obtain ⟨a0, a1, -, -⟩ := box2_facts (show W2.heap[w1.heap.size]? = some (.cells #[va2, vr2] 98 (0, 0)) by rw [hW2]; exact heap_alloc_new w1 _)
    have HMn := Lib.hid (implMinz_any va2 vr2 (found x0 T acc N) W2 (hE.num acc) (by show N ≤ 2000; omega) (hau.kept HB2.out))
    have HE := Lib.hid hE
    obtain ⟨ga, ca, gr, cr, rfl, rfl, -, -⟩ := hau
    clear hb1 hE
    rw [hW2] at a0 a1
    go_wp2_with fail
    go_at_call 113
    rw [← hW2]
    refine HMn.out.mono ?_
    rintro e w3 ⟨m, m1, m2, hcd⟩
    obtain ⟨rfl, rfl⟩ := srchR_yes HYy.out hN HE.out m1 m2
    obtain ⟨A1, p1, A2, p2, rfl, hoo, hb3⟩ := hcd.shape
    obtain ⟨x1, hx1⟩ : ∃ x, x = (fitD m).acc.length := ⟨_, rfl⟩
    obtain ⟨x2, hx2⟩ : ∃ x, x = (fitD m).nxt.length := ⟨_, rfl⟩
    obtain ⟨ok, hok⟩ : ∃ b, b = decide (m.n ≤ 40) := ⟨_, rfl⟩
    rw [← hx1, ← hx2] at hoo ⊢
    rw [← hok]
    have HOk := Lib.hid hok
    have HO3 := Lib.hid hoo
    have HB3 := Lib.hid (HB1.out.trans ((HB2.out.trans (hb3.mono HB2.out.size)).mono HB1.out.size))
    have hz1 := HB1.out.size
    have hz2 := HB2.out.size
    have hz3 := hb3.size
    have hyl := blk_lt HY.out
    obtain ⟨c0, c1, k0, k1⟩ := box2_facts ((HB3.out.block _ hyl).trans HY.out)
    obtain ⟨hcl, hsz, hot, hBl⟩ := put2 (k := .slice A1 x1 p1) (l := .slice A2 x2 p2) c0 c1
    obtain ⟨hc0, hc1⟩ := hcl
    have HOt := Lib.hid (And.intro hsz (And.intro hot hBl))
    clear hsz hot hBl hoo hb3 hcd hx1 hx2 m1 m2 hok a0 a1 hW2 hW0
    go_wp2_with fail
    refine bodyPost_ret (v := .tuple #[.agg #[.slice A1 x1 p1, .slice A2 x2 p2], .bool ok]) (by simp [results, Try.results95, go_sem, hc0, hc1]) rfl ?_
    have h0 := HB0.out.size
    rw [← HOk.out]
    exact ⟨_, _, rfl, HO3.out.mono (fun g hg => HOt.out.2.1 g (by have := hg.1; omega)) (fun g hg => ⟨by have := hg.1; omega, by rw [HOt.out.1]; exact hg.2⟩) (by rw [HOt.out.1]; exact Nat.le_refl _), HOt.out.2.2 _ _ (HB0.out.trans (HB3.out.mono h0)) (by omega)⟩
  · have HB1 := Lib.hid hb1
    obtain ⟨rfl, rfl⟩ := srchR_no HYy.out hno
    obtain ⟨c0, c1, k0, k1⟩ := box2_facts (((HB1.out.alloc HB1.out.size (.cells #[.slice none 0 0, .slice none 0 0] 98)).block _ (blk_lt HY.out)).trans HY.out)
    obtain ⟨hcl, hsz, hot, hBl⟩ := put2 (k := .slice none 0 0) (l := .slice none 0 0) c0 c1
    obtain ⟨hr0, hr1⟩ := hcl
    have HOt := Lib.hid hBl
    clear hsz hot hBl hb1 hW0
    go_wp2_with fail
    refine bodyPost_ret (v := .tuple #[.agg #[.slice none 0 0, .slice none 0 0], .bool false]) (by simp [results, Try.results95, go_sem, hr0, hr1]) rfl ?_
    exact ⟨_, _, rfl, DfaO.empty _ _, HOt.out _ _ (HB0.out.trans ((HB1.out.alloc HB1.out.size _).mono HB0.out.size)) (by omega)⟩
end Go.Proofs.Ythmfncklepkddaa

/-
  What slices.Min and slices.Max answer over a row of three ints: the least and the greatest of them; the world is as it was.
  What impl.IsValidDfa answers.
-/
namespace Go.Proofs.Ythmfncklepkddaa
open Go.RowKit

/-- The least. -/
def LeastOf (r : List Int) (w : World) (e : Ending) (w' : World) : Prop := ∃ y : Int, e = .returned (.int .i64 y) ∧ (∀ j, j < 3 → y ≤ r.getD j 0) ∧ (∃ j, j < 3 ∧ y = r.getD j 0) ∧ w = w'

set_option maxRecDepth 100000 in
set_option maxHeartbeats 800000 in
theorem libMin_any (ad : Addr) (c : Nat) (r : List Int) (w : World) (h : ∀ j, j < 3 → w.cell? (ad.add j) = some (.int .i64 (r.getD j 0))) :
    Calls Try.prog 69 #[.slice (some ad) 3 c] w (LeastOf r w) := by
  have HE := Lib.hid h
  have h0 : w.cell? ad = some (.int .i64 (r.getD 0 0)) := h 0 (by omega)
  clear h
  obtain ⟨x0, hx0⟩ : ∃ x, x = r.getD 0 0 := ⟨_, rfl⟩
  rw [← hx0] at h0
  have HX0 := Lib.hid hx0
  clear hx0
  go_enter Try.func69, Try.ntmps69
  go_wp2_with fail
  go_loop [3, 4] (fun m i => ∃ (k : Nat) (y : Int), i = .int .i64 k ∧ m = .int .i64 y ∧ 1 ≤ k ∧ k ≤ 3 ∧ Hid ((∀ j, j < k → y ≤ r.getD j 0) ∧ ∃ j, j < k ∧ y = r.getD j 0)) (fun _ i => 3 - (intOf i).toNat)
  case atStart => exact ⟨1, x0, rfl, rfl, by omega, by omega, Lib.hid ⟨fun j hj => by
    obtain rfl : j = 0 := by omega
    rw [HX0.out]; exact Int.le_refl _, 0, by omega, HX0.out⟩⟩
  case round =>
    obtain ⟨k, y, rfl, rfl, hk1, hk3, HR⟩ := hrel
    clear h0
    by_cases hlt : k < 3
    · have hc := HE.out k hlt
      obtain ⟨x, hx⟩ : ∃ x, x = r.getD k 0 := ⟨_, rfl⟩
      rw [← hx] at hc
      have HX := Lib.hid hx
      clear hx
      by_cases hyx : x < y
      · have hyx2 : ¬ y ≤ x := by omega
        go_wp2_with fail
        go_round
        case rel => exact ⟨k + 1, x, by go_num, by first | rfl | (congr 1; omega), by omega, by omega, Lib.hid ⟨fun j hj => by
          by_cases e : j = k
          · rw [e, HX.out]; exact Int.le_refl _
          · have := HR.out.1 j (by omega); omega, k, by omega, HX.out⟩⟩
        case measure => simp [intOf]; omega
      · have hyx2 : y ≤ x := by omega
        go_wp2_with fail
        go_round
        case rel => exact ⟨k + 1, y, by go_num, by first | rfl | (congr 1; omega), by omega, by omega, Lib.hid ⟨fun j hj => by
          by_cases e : j = k
          · rw [e, ← HX.out]; exact hyx2
          · exact HR.out.1 j (by omega), by
            obtain ⟨j, hj, e⟩ := HR.out.2
            exact ⟨j, by omega, e⟩⟩⟩
        case measure => simp [intOf]; omega
    · obtain rfl : k = 3 := by omega
      go_wp2_with fail
      go_ret
      exact ⟨y, rfl, HR.out.1, HR.out.2, rfl⟩
/-- The greatest. -/
def MostOf (r : List Int) (w : World) (e : Ending) (w' : World) : Prop := ∃ y : Int, e = .returned (.int .i64 y) ∧ (∀ j, j < 3 → r.getD j 0 ≤ y) ∧ (∃ j, j < 3 ∧ y = r.getD j 0) ∧ w = w'

set_option maxRecDepth 100000 in
set_option maxHeartbeats 800000 in
theorem libMax_any (ad : Addr) (c : Nat) (r : List Int) (w : World) (h : ∀ j, j < 3 → w.cell? (ad.add j) = some (.int .i64 (r.getD j 0))) :
    Calls Try.prog 70 #[.slice (some ad) 3 c] w (MostOf r w) := by
  have HE := Lib.hid h
  have h0 : w.cell? ad = some (.int .i64 (r.getD 0 0)) := h 0 (by omega)
  clear h
  obtain ⟨x0, hx0⟩ : ∃ x, x = r.getD 0 0 := ⟨_, rfl⟩
  rw [← hx0] at h0
  have HX0 := Lib.hid hx0
  clear hx0
  go_enter Try.func70, Try.ntmps70
  go_wp2_with fail
  go_loop [3, 4] (fun m i => ∃ (k : Nat) (y : Int), i = .int .i64 k ∧ m = .int .i64 y ∧ 1 ≤ k ∧ k ≤ 3 ∧ Hid ((∀ j, j < k → r.getD j 0 ≤ y) ∧ ∃ j, j < k ∧ y = r.getD j 0)) (fun _ i => 3 - (intOf i).toNat)
  case atStart => exact ⟨1, x0, rfl, rfl, by omega, by omega, Lib.hid ⟨fun j hj => by
    obtain rfl : j = 0 := by omega
    rw [HX0.out]; exact Int.le_refl _, 0, by omega, HX0.out⟩⟩
  case round =>
    obtain ⟨k, y, rfl, rfl, hk1, hk3, HR⟩ := hrel
    clear h0
    by_cases hlt : k < 3
    · have hc := HE.out k hlt
      obtain ⟨x, hx⟩ : ∃ x, x = r.getD k 0 := ⟨_, rfl⟩
      rw [← hx] at hc
      have HX := Lib.hid hx
      clear hx
      by_cases hyx : y < x
      · have hyx2 : ¬ x ≤ y := by omega
        go_wp2_with fail
        go_round
        case rel => exact ⟨k + 1, x, by go_num, by first | rfl | (congr 1; omega), by omega, by omega, Lib.hid ⟨fun j hj => by
          by_cases e : j = k
          · rw [e, HX.out]; exact Int.le_refl _
          · have := HR.out.1 j (by omega); omega, k, by omega, HX.out⟩⟩
        case measure => simp [intOf]; omega
      · have hyx2 : x ≤ y := by omega
        go_wp2_with fail
        go_round
        case rel => exact ⟨k + 1, y, by go_num, by first | rfl | (congr 1; omega), by omega, by omega, Lib.hid ⟨fun j hj => by
          by_cases e : j = k
          · rw [e, ← HX.out]; exact hyx2
          · exact HR.out.1 j (by omega), by
            obtain ⟨j, hj, e⟩ := HR.out.2
            exact ⟨j, by omega, e⟩⟩⟩
        case measure => simp [intOf]; omega
    · obtain rfl : k = 3 := by omega
      go_wp2_with fail
      go_ret
      exact ⟨y, rfl, HR.out.1, HR.out.2, rfl⟩
end Go.Proofs.Ythmfncklepkddaa

namespace Go.Proofs.Ythmfncklepkddaa
open Go.RowKit

set_option maxRecDepth 100000 in
set_option maxHeartbeats 1600000 in
theorem implValidD_any (va vn : Value) (d : Dx) (S : Nat → Prop) (w : World) (h : DfaV w S va vn d) :
    Calls Try.prog 28 #[.agg #[va, vn]] w fun e w' => e = .returned (.bool (validD d)) ∧ Below w.heap.size w w' := by
  obtain ⟨⟨A, c, rfl⟩, A', c', rfl⟩ := h.shape
  obtain ⟨W0, hW0⟩ : ∃ W0, W0 = w.alloc (.cells #[.slice A d.acc.length c, .slice A' d.nxt.length c'] 27) := ⟨_, rfl⟩
  have HB : Hid (Below w.heap.size w W0) := Lib.hid (by rw [hW0]; exact (Below.refl _ _).alloc (Nat.le_refl _) _)
  have HE := Lib.hid (h.2.kept (w' := W0) (by rw [hW0]; exact (Below.refl _ _).alloc (Nat.le_refl _) _))
  have hln := h.1.1
  have hlm := h.2.shape.1
  rw [bools_length] at hln
  rw [intss_length] at hlm
  clear h
  obtain ⟨n, hn⟩ : ∃ n, n = d.acc.length := ⟨_, rfl⟩
  obtain ⟨m, hm⟩ : ∃ m, m = d.nxt.length := ⟨_, rfl⟩
  obtain ⟨R, hR⟩ : ∃ R : Nat → List Int, R = fun j => d.nxt.getD j [] := ⟨_, rfl⟩
  have HNo : Hid (∀ j, j < m → rowOk n (R j) = false → validD d = false) := Lib.hid (fun j hj h => validD_no (j := j) (by rw [← hm]; exact hj) (by rw [← hn]; rw [hR] at h; exact h))
  have HYes : Hid (1 ≤ n → n ≤ 40 → m ≤ n → n ≤ m → (∀ j, j < m → rowOk n (R j) = true) → validD d = true) := Lib.hid (fun h1 h2 h3 h4 h => validD_yes (by omega) (by omega) (by omega) (fun j hj => by rw [← hn]; have := h j (by omega); rw [hR] at this; exact this))
  have HAt : Hid (∀ j, j < m → ∃ ad u, A' = some ad ∧ S ad.block ∧ W0.cell? (ad.add j) = some u ∧ RowV W0 S u (ints (R j))) := Lib.hid (fun j hj => by rw [hR]; exact HE.out.atD (j := j) (by rw [← hm]; exact hj))
  rw [← hn] at hW0 hln
  rw [← hm] at hW0 hlm
  rw [← hn, ← hm]
  have HV1 : Hid (¬ (1 ≤ n ∧ n ≤ 40) → validD d = false) := Lib.hid (fun h => by
    have : ¬ (1 ≤ d.acc.length ∧ d.acc.length ≤ 40) := by rw [← hn]; exact h
    simp only [validD, validF]
    by_cases h1 : 1 ≤ d.acc.length
    · have h2 : decide (d.acc.length ≤ 40) = false := decide_eq_false (by omega)
      simp [h2]
    · have h2 : decide (1 ≤ d.acc.length) = false := decide_eq_false (by omega)
      simp [h2])
  have HV2 : Hid (m ≠ n → validD d = false) := Lib.hid (fun h => by
    have h2 : decide (d.nxt.length = d.acc.length) = false := decide_eq_false (by omega)
    simp [validD, validF, h2])
  obtain ⟨vd, hvd⟩ : ∃ vd, vd = validD d := ⟨_, rfl⟩
  rw [← hvd] at HNo HYes HV1 HV2 ⊢
  clear hn hm hR hvd HE
  have hx := box2_kept (w := w) (w1 := W0) (a := .slice A n c) (b := .slice A' m c') (t := 27) (by rw [hW0]; exact Below.refl _ _)
  obtain ⟨-, c0, c1, -, -⟩ := hx
  rw [hW0] at c0 c1
  go_enter Try.func28, Try.ntmps28
  by_cases h1 : 1 ≤ n
  · have d1 : ¬ (n : Int) < 1 := by omega
    by_cases h2 : n ≤ 40
    · have d2 : ¬ (40 : Int) < (n : Int) := by omega
      by_cases h3 : m = n
      · subst h3
        have hne : ((m : Int) != (m : Int)) = false := by simp
        go_wp2_with fail
        rw [← hW0]
        clear hne d1 d2 c0 c1 hW0
        go_loopw [25] (fun i wr => ∃ q : Nat, i = .int .i64 q ∧ q ≤ m ∧ wr = W0 ∧ Hid (∀ j, j < q → rowOk m (R j) = true)) (fun i _ => m - (intOf i).toNat)
        case atStart => exact ⟨0, rfl, Nat.zero_le _, rfl, Lib.hid (fun j hj => absurd hj (Nat.not_lt_zero _))⟩
        case round =>
          obtain ⟨q, rfl, hq, rfl, HAll⟩ := hrel
          by_cases hlt : q < m
          · obtain ⟨ad, u, rfl, -, hc, hr⟩ := HAt.out q hlt
            obtain ⟨hrl, Ar, cr, rfl⟩ := hr.ints_shape
            have HR := Lib.hid hr
            obtain ⟨r, hr⟩ : ∃ r, r = R q := ⟨_, rfl⟩
            rw [← hr] at HR hc hrl
            have HRe := Lib.hid hr
            clear hr
            by_cases h4 : r.length = 3
            · have H3 := Lib.hid h4
              obtain ⟨ad2, hAr, -, -⟩ := HR.out.intD (j := 0) (by omega)
              subst hAr
              rw [h4] at hc hrl
              have HMI := Lib.hid (libMin_any ad2 cr r wr (fun j hj => by
                obtain ⟨ad3, e3, -, hc3⟩ := HR.out.intD (j := j) (by rw [h4]; exact hj)
                cases e3; exact hc3))
              have HMA := Lib.hid (libMax_any ad2 cr r wr (fun j hj => by
                obtain ⟨ad3, e3, -, hc3⟩ := HR.out.intD (j := j) (by rw [h4]; exact hj)
                cases e3; exact hc3))
              have h3i : ((3 : Int) != 3) = false := rfl
              clear h4
              go_wp2_with fail
              go_at_call 69
              refine HMI.out.mono ?_
              rintro e w1 ⟨y, rfl, hy1, hy2, rfl⟩
              have HY := Lib.hid (And.intro hy1 hy2)
              clear hy1 hy2
              by_cases hy0 : y < 0
              · have HF : Hid (vd = false) := Lib.hid (by
                  obtain ⟨j, hj, e⟩ := HY.out.2
                  exact HNo.out q hlt (rowOk_bad (k := j) (by rw [← HRe.out, H3.out]; exact hj) (by rw [← HRe.out]; omega)))
                go_wp2_with fail
                go_ret
                exact ⟨congrArg (fun b : Bool => Ending.returned (.bool b)) HF.out.symm, HB.out⟩
              · go_wp2_with fail
                go_at_call 70
                refine HMA.out.mono ?_
                rintro e w1 ⟨z, rfl, hz1, hz2, rfl⟩
                have HZ := Lib.hid (And.intro hz1 hz2)
                clear hz1 hz2
                by_cases hz0 : (m : Int) ≤ z
                · have HF : Hid (vd = false) := Lib.hid (by
                    obtain ⟨j, hj, e⟩ := HZ.out.2
                    exact HNo.out q hlt (rowOk_bad (k := j) (by rw [← HRe.out, H3.out]; exact hj) (by rw [← HRe.out]; omega)))
                  go_wp2_with fail
                  go_ret
                  exact ⟨congrArg (fun b : Bool => Ending.returned (.bool b)) HF.out.symm, HB.out⟩
                · have HOk : Hid (rowOk m (R q) = true) := Lib.hid (by rw [← HRe.out]; exact rowOk_yes H3.out (fun j hj => by
                    have h1 := HY.out.1 j (by rw [← H3.out]; exact hj)
                    have h2 := HZ.out.1 j (by rw [← H3.out]; exact hj)
                    omega))
                  go_wp2_with fail
                  go_roundw
                  case rel => exact ⟨q + 1, by go_num, by omega, by first | rfl | trivial, Lib.hid (fun j hj => by
                    by_cases e : j = q
                    · rw [e]; exact HOk.out
                    · exact HAll.out j (by omega))⟩
                  case measure => simp [intOf]; omega
            · have h3i : ((r.length : Int) != 3) = true := by simp; omega
              have HF : Hid (vd = false) := Lib.hid (HNo.out q hlt (rowOk_no (by rw [← HRe.out]; exact h4)))
              clear h4
              go_wp2_with fail
              go_ret
              exact ⟨congrArg (fun b : Bool => Ending.returned (.bool b)) HF.out.symm, HB.out⟩
          · obtain rfl : q = m := by omega
            have hd : decide ((q : Int) < (q : Int)) = false := by simp
            have HF : Hid (vd = true) := Lib.hid (HYes.out h1 h2 (Nat.le_refl _) (Nat.le_refl _) HAll.out)
            go_wp2_with fail
            go_ret
            exact ⟨congrArg (fun b : Bool => Ending.returned (.bool b)) HF.out.symm, HB.out⟩
      · have hne : ((m : Int) != (n : Int)) = true := by simp; omega
        have HF : Hid (vd = false) := Lib.hid (HV2.out h3)
        clear h3
        go_wp2_with fail
        rw [← hW0]
        go_ret
        exact ⟨congrArg (fun b : Bool => Ending.returned (.bool b)) HF.out.symm, HB.out⟩
    · have d2 : (40 : Int) < (n : Int) := by omega
      have HF : Hid (vd = false) := Lib.hid (HV1.out (by omega))
      go_wp2_with fail
      rw [← hW0]
      go_ret
      exact ⟨congrArg (fun b : Bool => Ending.returned (.bool b)) HF.out.symm, HB.out⟩
  · have d1 : (n : Int) < 1 := by omega
    have HF : Hid (vd = false) := Lib.hid (HV1.out (by omega))
    go_wp2_with fail
    rw [← hW0]
    go_ret
    exact ⟨congrArg (fun b : Bool => Ending.returned (.bool b)) HF.out.symm, HB.out⟩
end Go.Proofs.Ythmfncklepkddaa

/-
  What impl.minimizeStates, impl.MinimizeDfa and the closures that they take answer.
-/
namespace Go.Proofs.Ythmfncklepkddaa
open Go.RowKit

theorem implRejQ_any (bd : Nat) (ad : Addr) (n c q : Nat) (b : Bool) (w : World) (hq : q < n) (c0 : w.cell? ⟨bd, 0, none⟩ = some (.slice (some ad) n c)) (c1 : w.cell? (ad.add q) = some (.bool b)) :
    Calls Try.prog 68 #[.int .i64 (q : Int), .pointer (some ⟨bd, 0, none⟩)] w fun e w' => e = .returned (.bool (!b)) ∧ w = w' := by
  have s0 : (q : Int) < (n : Int) := by omega
  have s1 : (0 : Int) ≤ (q : Int) := by omega
  go_enter Try.func68, Try.ntmps68
  go_wp2_with fail
  go_ret
  exact ⟨rfl, rfl⟩
theorem implDfaAfter_any (va : Value) (ad' : Addr) (n c' q k : Nat) (ad2 : Addr) (c2 : Nat) (x : Int) (w : World) (hq : q < n) (hk : k < 3) (c1 : w.cell? (ad'.add q) = some (.slice (some ad2) 3 c2)) (h2 : w.cell? (ad2.add k) = some (.int .i64 x)) :
    Calls Try.prog 80 #[.agg #[va, .slice (some ad') n c'], .int .i64 (q : Int), .int .i64 (k : Int)] w fun e w' => e = .returned (.int .i64 x) ∧ Below w.heap.size w w' := by
  have s0 : (q : Int) < (n : Int) := by omega
  have s1 : (0 : Int) ≤ (q : Int) := by omega
  have s2 : (k : Int) < 3 := by omega
  have s3 : (0 : Int) ≤ (k : Int) := by omega
  have hb0 : Below w.heap.size w (w.alloc (.cells #[va, .slice (some ad') n c'] 27)) := (Below.refl _ _).alloc (Nat.le_refl _) _
  have c1' := (hb0.cell (cell_in c1)).trans c1
  have h2' := (hb0.cell (cell_in h2)).trans h2
  have HB0 := Lib.hid hb0
  clear c1 h2 hb0
  go_enter Try.func80, Try.ntmps80
  go_wp2_with fail
  go_ret
  exact ⟨rfl, HB0.out⟩

theorem enters_rej (args : Array Value) (w : World) : (callFunc 68 args).run Try.prog w = .ok (.enter 68 args) w := enters_of Try.func68 (by kernel_rfl) rfl args w
theorem enters_dfaAfter (args : Array Value) (w : World) : (callFunc 80 args).run Try.prog w = .ok (.enter 80 args) w := enters_of Try.func80 (by kernel_rfl) rfl args w

/-- An automaton with other accepting states. -/
def accA (a : Au) (acc : Nat → Bool) : Au := ⟨a.n, acc, a.T⟩
theorem accA_wf {a : Au} (h : a.wf) (acc : Nat → Bool) : (accA a acc).wf := h
/-- The minimal automaton of a valid one under other accepting states. -/
def MinStY (d : Dx) (acc : Nat → Bool) (w : World) (e : Ending) (w' : World) : Prop := ∃ m, Canon m ∧ Eqv m 0 (accA (auD d) acc) 0 ∧ CopyD (fieldsOf m) w e w'

set_option maxRecDepth 100000 in
set_option maxHeartbeats 3200000 in
theorem implMinSt_yes (va vn : Value) (d : Dx) (S : Nat → Prop) (g2 : Nat) (lb2 : Array Value) (eg2 : ∀ args w, (callFunc g2 args).run Try.prog w = .ok (.enter g2 args) w) (acc : Nat → Bool) (w : World) (h : DfaV w S va vn d) (hv : validD d = true)
    (H2 : ∀ (V : World) (x : Nat), Below w.heap.size w V → x < d.acc.length → Calls Try.prog g2 (#[.int .i64 (x : Int)] ++ lb2) V fun e w' => e = .returned (.bool (acc x)) ∧ Below V.heap.size V w') :
    Calls Try.prog 49 #[.agg #[va, vn], .func (.func g2) #[] lb2] w (MinStY d acc w) := by
  have hmf : ∀ (fn : Fn) (first cap : Array Value) (w : World), (Instr.makeFunc fn first cap).run Try.prog w = .ok (.func fn first cap) w := fun _ _ _ _ => rfl
  obtain ⟨hw, hn40, hnn, hl, ad, c, ad', c', rfl, rfl, hA, hT⟩ := h.au hv
  obtain ⟨n, hne⟩ : ∃ n, n = d.acc.length := ⟨_, rfl⟩
  rw [← hne] at hA hT H2 hnn ⊢
  obtain ⟨W0, hW0⟩ : ∃ W0, W0 = (w.alloc (.cells #[.slice (some ad) n c, .slice (some ad') n c'] 27)).alloc (.cells #[.slice none 0 0, .slice none 0 0] 27) := ⟨_, rfl⟩
  have HB0 : Hid (Below w.heap.size w W0) := Lib.hid (by rw [hW0]; exact ((Below.refl _ _).alloc (Nat.le_refl _) _).alloc (by simp) _)
  have HX : Hid (Bx2 W0 w.heap.size (.slice (some ad) n c) (.slice (some ad') n c')) := Lib.hid (by
    have k := box2_kept (w := w) (w1 := W0) (a := .slice (some ad) n c) (b := .slice (some ad') n c') (t := 27) (by rw [hW0]; exact (Below.refl _ _).alloc (by simp) _)
    exact ⟨k.2.1, k.2.2.1⟩)
  have HY : Hid (W0.heap[w.heap.size + 1]? = some (.cells #[.slice none 0 0, .slice none 0 0] 27 (0, 0))) := Lib.hid (by rw [hW0]; exact three2 w _ _ _ _)
  have HV := Lib.hid (implValidD_any (.slice (some ad) n c) (.slice (some ad') n c') d S W0 (by rw [hne]; exact h.kept HB0.out))
  rw [hv] at HV
  obtain ⟨N, hN, hE⟩ := ends_some (s0 := 0) (g := (auD d).T) (M := (auD d).n) (fun t => (own_keys hw t).2)
  have hEa : Ends 0 (accA (auD d) acc).T N := hE
  obtain ⟨f1, f2, f3⟩ := own_found (accA_wf hw acc) hEa
  obtain ⟨m, m1, m2, m3⟩ := exists_min (hE.wf acc)
  have hm40 : m.n ≤ 40 := by
    have h5 : m.n ≤ N := m3
    omega
  have hsr : srchR 40 0 (auD d).T acc (fieldsOf m) true := .inl ⟨N, by omega, hE, m, m1, m2, by unfold fitD; rw [if_pos hm40], by simp [hm40]⟩
  have HM : Hid (Canon m ∧ Eqv m 0 (accA (auD d) acc) 0) := Lib.hid ⟨m1, Eqv.trans m2 f2⟩
  have HEx : Hid (∀ V : World, Below W0.heap.size W0 V → Calls Try.prog 95 #[.int .i64 0, .func (.func 80) #[.agg #[.slice (some ad) n c, .slice (some ad') n c']] #[], .func (.func g2) #[] lb2, .int .i64 40] V (CopyDB (fieldsOf m) true V)) := Lib.hid (fun V hV => by
    refine implMdI_any _ g2 _ _ lb2 enters_dfaAfter eg2 (auD d).T acc n 40 0 V (by omega) (by omega) (by omega) (by rw [← hnn]; exact hw.1) (fun x k hx hk => by rw [← hnn] at hx ⊢; exact hw.2 x k hx hk) (fun U x k hU hx hk => ?_) (fun U x hU hx => ?_) _ _ hsr
    · have hb : Below w.heap.size w U := HB0.out.trans ((hV.trans (hU.mono hV.size)).mono HB0.out.size)
      obtain ⟨ad2, c2, h1, h2⟩ := hT x hx
      have h3 := h2 k hk
      exact implDfaAfter_any (.slice (some ad) n c) ad' n c' x k ad2 c2 _ U hx hk ((hb.cell (cell_in h1)).trans h1) ((hb.cell (cell_in h3)).trans h3)
    · exact H2 U x (HB0.out.trans ((hV.trans (hU.mono hV.size)).mono HB0.out.size)) hx)
  obtain ⟨hc00, hc01⟩ := HX.out
  rw [hW0] at hc00 hc01
  clear h hA hT H2 hw hne hl hv hn40 hnn hN hE hEa f1 f2 f3 m1 m2 m3 hm40 hsr
  go_enter Try.func49, Try.ntmps49
  go_wp2_with fail
  go_at_call 28
  rw [← hW0]
  refine HV.out.mono ?_
  rintro e w1 ⟨rfl, hb1⟩
  have HB1 := Lib.hid hb1
  have HE1 := Lib.hid (HEx.out w1 hb1)
  obtain ⟨hd00, hd01⟩ := HX.out.kept hb1
  clear hc00 hc01 hW0 hb1
  go_wp2_with fail
  go_at_call 95
  refine HE1.out.mono ?_
  rintro e w3 hcd
  clear hd00 hd01
  obtain ⟨A1, p1, A2, p2, rfl, hoo, hb3⟩ := hcd.shape
  obtain ⟨x1, hx1⟩ : ∃ x, x = (fieldsOf m).acc.length := ⟨_, rfl⟩
  obtain ⟨x2, hx2⟩ : ∃ x, x = (fieldsOf m).nxt.length := ⟨_, rfl⟩
  rw [← hx1, ← hx2] at hoo ⊢
  have HO3 := Lib.hid hoo
  have HB3 := Lib.hid (HB1.out.trans (hb3.mono HB1.out.size))
  have hz1 := HB1.out.size
  have hz3 := hb3.size
  have hyl := blk_lt HY.out
  obtain ⟨W4, hW4⟩ : ∃ W4, W4 = w3.alloc (.cells #[.slice A1 x1 p1, .slice A2 x2 p2] 27) := ⟨_, rfl⟩
  have HX4 : Hid (W4.heap[w3.heap.size]? = some (.cells #[.slice A1 x1 p1, .slice A2 x2 p2] 27 (0, 0)) ∧ Below w3.heap.size w3 W4) := Lib.hid (by
    rw [hW4]
    exact ⟨heap_alloc_new w3 _, (Below.refl _ _).alloc (Nat.le_refl _) _⟩)
  obtain ⟨g0, g1, -, -⟩ := box2_facts HX4.out.1
  obtain ⟨c0, c1, k0, k1⟩ := box2_facts ((HX4.out.2.block _ (by omega)).trans ((HB3.out.block _ hyl).trans HY.out))
  obtain ⟨hcl, hsz, hot, hBl⟩ := put2 (k := .slice A1 x1 p1) (l := .slice A2 x2 p2) c0 c1
  obtain ⟨hc0, hc1⟩ := hcl
  have HOt := Lib.hid (And.intro hsz (And.intro hot hBl))
  have HW4 := Lib.hid hW4
  rw [hW4] at g0 g1 c0 c1 k0 k1 hc0 hc1
  clear hsz hot hBl hoo hb3 hcd hx1 hx2 hW4
  go_wp2_with fail
  refine bodyPost_ret (v := .agg #[.slice A1 x1 p1, .slice A2 x2 p2]) (by simp [results, Try.results49, go_sem, hc0, hc1]) rfl ?_
  rw [← HW4.out]
  have h0 := HB0.out.size
  have hz4 := HX4.out.2.size
  exact ⟨m, HM.out.1, HM.out.2, _, _, rfl, HO3.out.mono (fun g hg => (HOt.out.2.1 g (by have := hg.1; omega)).trans (HX4.out.2.block g hg.2)) (fun g hg => ⟨by have := hg.1; omega, by rw [HOt.out.1]; have := hg.2; omega⟩) (by rw [HOt.out.1]; exact hz4), HOt.out.2.2 _ _ (HB0.out.trans ((HB3.out.trans (HX4.out.2.mono HB3.out.size)).mono h0)) (Nat.le_succ _)⟩

set_option maxRecDepth 100000 in
set_option maxHeartbeats 3200000 in
theorem implMinSt_no (va vn : Value) (d : Dx) (S : Nat → Prop) (g2 : Nat) (lb2 : Array Value) (w : World) (h : DfaV w S va vn d) (hv : validD d = false) :
    Calls Try.prog 49 #[.agg #[va, vn], .func (.func g2) #[] lb2] w (CopyD ⟨[], []⟩ w) := by
  obtain ⟨W0, hW0⟩ : ∃ W0, W0 = (w.alloc (.cells #[va, vn] 27)).alloc (.cells #[.slice none 0 0, .slice none 0 0] 27) := ⟨_, rfl⟩
  have HB0 : Hid (Below w.heap.size w W0) := Lib.hid (by rw [hW0]; exact ((Below.refl _ _).alloc (Nat.le_refl _) _).alloc (by simp) _)
  have hx := (by
    have k := box2_kept (w := w) (w1 := W0) (a := va) (b := vn) (t := 27) (by rw [hW0]; exact (Below.refl _ _).alloc (by simp) _)
    exact ⟨k.2.1, k.2.2.1⟩ : Bx2 W0 w.heap.size va vn)
  have HY : Hid (W0.heap[w.heap.size + 1]? = some (.cells #[.slice none 0 0, .slice none 0 0] 27 (0, 0))) := Lib.hid (by rw [hW0]; exact three2 w _ _ _ _)
  have HV := Lib.hid (implValidD_any va vn d S W0 (h.kept HB0.out))
  rw [hv] at HV
  obtain ⟨⟨A, c, rfl⟩, A', c', rfl⟩ := h.shape
  obtain ⟨hc00, hc01⟩ := hx
  rw [hW0] at hc00 hc01
  clear h hv
  go_enter Try.func49, Try.ntmps49
  go_wp2_with fail
  go_at_call 28
  rw [← hW0]
  refine HV.out.mono ?_
  rintro e w1 ⟨rfl, hb1⟩
  obtain ⟨c0, c1, k0, k1⟩ := box2_facts ((hb1.block _ (blk_lt HY.out)).trans HY.out)
  obtain ⟨hcl, hsz, hot, hBl⟩ := put2 (k := .slice none 0 0) (l := .slice none 0 0) c0 c1
  obtain ⟨hc0, hc1⟩ := hcl
  have HOt := Lib.hid hBl
  have HB1 := Lib.hid hb1
  clear hc00 hc01 hW0 hb1 hsz hot hBl
  go_wp2_with fail
  refine bodyPost_ret (v := .agg #[.slice none 0 0, .slice none 0 0]) (by simp [results, Try.results49, go_sem, hc0, hc1]) rfl ?_
  exact ⟨_, _, rfl, DfaO.empty _ _, HOt.out _ _ (HB0.out.trans (HB1.out.mono HB0.out.size)) (Nat.le_succ _)⟩
end Go.Proofs.Ythmfncklepkddaa

/-
  What impl.ProductDfa, impl.product and the closures that they take answer.
  What impl.ProductDfa answers.
-/
namespace Go.Proofs.Ythmfncklepkddaa
open Go.RowKit

/-- A search over pairs ends. -/
theorem ords_pairs {s0 : Nat × Nat} {g : Nat × Nat → Nat → Nat × Nat} {Ma Mb : Nat} (h0 : okP Ma Mb s0) (hg : ∀ x k, okP Ma Mb x → k < 3 → okP Ma Mb (g x k)) (t : Nat) : (∀ x ∈ ords s0 g t, okP Ma Mb x) ∧ (ords s0 g t).length ≤ Ma * Mb := by
  have hall : ∀ t, ∀ x ∈ ords s0 g t, okP Ma Mb x := fun t => by
    induction t with
    | zero => intro x hx; simp [ords] at hx; rw [hx]; exact h0
    | succ t ih =>
      intro x hx
      rw [ords] at hx
      have hd : okP Ma Mb ((ords s0 g t).getD (t / 3) default) := by
        by_cases hl : t / 3 < (ords s0 g t).length
        · exact ih _ (getD_mem hl)
        · rw [List.getD_eq_getElem?_getD, List.getElem?_eq_none (by omega)]
          exact ⟨Nat.lt_of_le_of_lt (Nat.zero_le _) h0.1, Nat.lt_of_le_of_lt (Nat.zero_le _) h0.2⟩
      split at hx
      · exact ih x hx
      · rcases List.mem_append.1 hx with hx | hx
        · exact ih x hx
        · rw [List.mem_singleton] at hx
          rw [hx]
          exact hg _ _ hd (by omega)
  refine ⟨hall t, ?_⟩
  have hnd : ((ords s0 g t).map fun x => x.1 * Mb + x.2).Nodup := by
    rw [List.nodup_iff_pairwise_ne, List.pairwise_map]
    refine (ords_nodup (s0 := s0) (g := g) t).imp_of_mem ?_
    intro x y hx hy hne e
    have h1 := (hall t x hx).2
    have h2 := (hall t y hy).2
    apply hne
    have e1 : x.1 = y.1 := by rw [← pair_div (p := x.1) h1, ← pair_div (p := y.1) h2, e]
    have e2 : x.2 = y.2 := by rw [← pair_mod (p := x.1) h1, ← pair_mod (p := y.1) h2, e]
    exact Prod.ext e1 e2
  have := nodup_len (Ma * Mb) _ hnd (fun z hz => by
    obtain ⟨x, hx, rfl⟩ := List.mem_map.1 hz
    exact pair_lt (hall t x hx).1 (hall t x hx).2)
  rwa [List.length_map] at this
theorem implOrP_any (ba bb : Nat) (ad ad' : Addr) (n n' c c' p q : Nat) (x y : Bool) (w : World) (hp : p < n) (hq : q < n') (a0 : w.cell? ⟨ba, 0, none⟩ = some (.slice (some ad) n c)) (a1 : w.cell? (ad.add p) = some (.bool x))
    (b0 : w.cell? ⟨bb, 0, none⟩ = some (.slice (some ad') n' c')) (b1 : w.cell? (ad'.add q) = some (.bool y)) :
    Calls Try.prog 64 #[.agg #[.int .i64 (p : Int), .int .i64 (q : Int)], .pointer (some ⟨ba, 0, none⟩), .pointer (some ⟨bb, 0, none⟩)] w fun e w' => e = .returned (.bool (x || y)) ∧ Below w.heap.size w w' := by
  have s0 : (p : Int) < (n : Int) := by omega
  have s1 : (0 : Int) ≤ (p : Int) := by omega
  have s2 : (q : Int) < (n' : Int) := by omega
  have s3 : (0 : Int) ≤ (q : Int) := by omega
  obtain ⟨W0, hW0⟩ : ∃ W0, W0 = w.alloc (.cells #[.int .i64 (p : Int), .int .i64 (q : Int)] 64) := ⟨_, rfl⟩
  have hb0 : Below w.heap.size w W0 := by rw [hW0]; exact (Below.refl _ _).alloc (Nat.le_refl _) _
  have a0' := (hb0.cell (cell_in a0)).trans a0
  have a1' := (hb0.cell (cell_in a1)).trans a1
  have b0' := (hb0.cell (cell_in b0)).trans b0
  have b1' := (hb0.cell (cell_in b1)).trans b1
  obtain ⟨p0, p1, -, -⟩ := box2_facts (show W0.heap[w.heap.size]? = some (.cells #[.int .i64 (p : Int), .int .i64 (q : Int)] 64 (0, 0)) by rw [hW0]; exact heap_alloc_new w _)
  have HB0 := Lib.hid hb0
  clear a0 a1 b0 b1 hb0
  cases x with
  | true =>
    go_enter Try.func64, Try.ntmps64
    go_upto_region 1 with fail
    rw [← hW0]
    clear hW0
    go_wp2_with fail
    go_ret
    exact ⟨rfl, HB0.out⟩
  | false =>
    go_enter Try.func64, Try.ntmps64
    go_upto_region 1 with fail
    rw [← hW0]
    clear hW0
    go_wp2_with fail
    go_ret
    exact ⟨by simp, HB0.out⟩
theorem implAndP_any (ba bb : Nat) (ad ad' : Addr) (n n' c c' p q : Nat) (x y : Bool) (w : World) (hp : p < n) (hq : q < n') (a0 : w.cell? ⟨ba, 0, none⟩ = some (.slice (some ad) n c)) (a1 : w.cell? (ad.add p) = some (.bool x))
    (b0 : w.cell? ⟨bb, 0, none⟩ = some (.slice (some ad') n' c')) (b1 : w.cell? (ad'.add q) = some (.bool y)) :
    Calls Try.prog 65 #[.agg #[.int .i64 (p : Int), .int .i64 (q : Int)], .pointer (some ⟨ba, 0, none⟩), .pointer (some ⟨bb, 0, none⟩)] w fun e w' => e = .returned (.bool (x && y)) ∧ Below w.heap.size w w' := by
  have s0 : (p : Int) < (n : Int) := by omega
  have s1 : (0 : Int) ≤ (p : Int) := by omega
  have s2 : (q : Int) < (n' : Int) := by omega
  have s3 : (0 : Int) ≤ (q : Int) := by omega
  obtain ⟨W0, hW0⟩ : ∃ W0, W0 = w.alloc (.cells #[.int .i64 (p : Int), .int .i64 (q : Int)] 64) := ⟨_, rfl⟩
  have hb0 : Below w.heap.size w W0 := by rw [hW0]; exact (Below.refl _ _).alloc (Nat.le_refl _) _
  have a0' := (hb0.cell (cell_in a0)).trans a0
  have a1' := (hb0.cell (cell_in a1)).trans a1
  have b0' := (hb0.cell (cell_in b0)).trans b0
  have b1' := (hb0.cell (cell_in b1)).trans b1
  obtain ⟨p0, p1, -, -⟩ := box2_facts (show W0.heap[w.heap.size]? = some (.cells #[.int .i64 (p : Int), .int .i64 (q : Int)] 64 (0, 0)) by rw [hW0]; exact heap_alloc_new w _)
  have HB0 := Lib.hid hb0
  clear a0 a1 b0 b1 hb0
  cases x with
  | true =>
    go_enter Try.func65, Try.ntmps65
    go_upto_region 1 with fail
    rw [← hW0]
    clear hW0
    go_wp2_with fail
    go_ret
    exact ⟨by simp, HB0.out⟩
  | false =>
    go_enter Try.func65, Try.ntmps65
    go_upto_region 1 with fail
    rw [← hW0]
    clear hW0
    go_wp2_with fail
    go_ret
    exact ⟨by simp, HB0.out⟩

theorem three_box (w : World) (a b c : Obj) : let W := ((w.alloc a).alloc b).alloc c
    W.heap[w.heap.size]? = some a ∧ W.heap[w.heap.size + 1]? = some b ∧ W.heap[w.heap.size + 1 + 1]? = some c ∧ Below w.heap.size w W := by
  intro W
  have h1 := heap_alloc_new (w.alloc a) b
  have h2 := heap_alloc_new ((w.alloc a).alloc b) c
  rw [World.size_alloc] at h1 h2
  rw [World.size_alloc] at h2
  exact ⟨(Below.heap_alloc _ _ _ (by simp; omega)).trans ((Below.heap_alloc _ _ _ (by simp)).trans (heap_alloc_new w a)), (Below.heap_alloc _ _ _ (by simp)).trans h1, h2, (((Below.refl _ _).alloc (Nat.le_refl _) _).alloc (by simp) _).alloc (by simp; omega) _⟩

set_option maxRecDepth 100000 in
set_option maxHeartbeats 3200000 in
theorem implStepP_any (va va' : Value) (ad ad' : Addr) (n n' c c' p q k : Nat) (ra rb : Addr) (ca cb : Nat) (x y : Int) (w : World) (hp : p < n) (hq : q < n') (hk : k < 3)
    (a1 : w.cell? (ad.add p) = some (.slice (some ra) 3 ca)) (a2 : w.cell? (ra.add k) = some (.int .i64 x))
    (b1 : w.cell? (ad'.add q) = some (.slice (some rb) 3 cb)) (b2 : w.cell? (rb.add k) = some (.int .i64 y)) :
    Calls Try.prog 53 #[.agg #[va, .slice (some ad) n c, va', .slice (some ad') n' c'], .agg #[.int .i64 (p : Int), .int .i64 (q : Int)], .int .i64 (k : Int)] w fun e w' => e = .returned (.agg #[.int .i64 x, .int .i64 y]) ∧ Below w.heap.size w w' := by
  obtain ⟨W0, hW0⟩ : ∃ W0, W0 = ((w.alloc (.cells #[va, .slice (some ad) n c, va', .slice (some ad') n' c'] 69)).alloc (.cells #[.int .i64 (p : Int), .int .i64 (q : Int)] 64)).alloc (.cells #[.int .i64 0, .int .i64 0] 64) := ⟨_, rfl⟩
  have h3 := three_box w (.cells #[va, .slice (some ad) n c, va', .slice (some ad') n' c'] 69) (.cells #[.int .i64 (p : Int), .int .i64 (q : Int)] 64) (.cells #[.int .i64 0, .int .i64 0] 64)
  rw [← hW0] at h3
  obtain ⟨i0, i1, i2, hb0⟩ := h3
  have HB0 := Lib.hid hb0
  have HZ := Lib.hid (fun (V : World) (hV : Below W0.heap.size W0 V) => box2_facts ((hV.block _ (blk_lt i2)).trans i2))
  have HA := Lib.hid (fun (V : World) (hV : Below W0.heap.size W0 V) => (have hb := hb0.trans (hV.mono hb0.size); implDfaAfter_any va ad n c p k ra ca x V hp hk ((hb.cell (cell_in a1)).trans a1) ((hb.cell (cell_in a2)).trans a2)))
  have HA' := Lib.hid (fun (V : World) (hV : Below W0.heap.size W0 V) => (have hb := hb0.trans (hV.mono hb0.size); implDfaAfter_any va' ad' n' c' q k rb cb y V hq hk ((hb.cell (cell_in b1)).trans b1) ((hb.cell (cell_in b2)).trans b2)))
  have hz2 : w.heap.size + 1 + 1 ≤ W0.heap.size := Nat.le_of_lt (blk_lt i2)
  have HK := Lib.hid (fun (V : World) (hV : Below (w.heap.size + 1 + 1) W0 V) => (
    have j0 := (hV.block _ (by omega)).trans i0
    have j1 := (hV.block _ (by omega)).trans i1
    ⟨(cell_of_row V _ 0 _ _ (0, 0) j0).trans rfl, (cell_of_row V _ 1 _ _ (0, 0) j0).trans rfl, (cell_of_row V _ 2 _ _ (0, 0) j0).trans rfl, (cell_of_row V _ 3 _ _ (0, 0) j0).trans rfl, (box2_facts j1).1, (box2_facts j1).2.1⟩ :
    V.cell? ⟨w.heap.size, 0, none⟩ = some va ∧ V.cell? ⟨w.heap.size, 1, none⟩ = some (.slice (some ad) n c) ∧ V.cell? ⟨w.heap.size, 2, none⟩ = some va' ∧ V.cell? ⟨w.heap.size, 3, none⟩ = some (.slice (some ad') n' c') ∧ V.cell? ⟨w.heap.size + 1, 0, none⟩ = some (.int .i64 (p : Int)) ∧ V.cell? ⟨w.heap.size + 1, 1, none⟩ = some (.int .i64 (q : Int))))
  have hbw : Below W0.heap.size W0 W0 := Below.refl _ _
  clear a1 a2 b1 b2 hb0 i0 i1 i2
  go_enter Try.func53, Try.ntmps53
  go_upto_region 1 with fail
  rw [← hW0]
  clear hW0
  go_region_held3 (fun V => V.cell? ⟨w.heap.size, 0, none⟩ = some va ∧ V.cell? ⟨w.heap.size, 1, none⟩ = some (.slice (some ad) n c) ∧ V.cell? ⟨w.heap.size, 2, none⟩ = some va' ∧ V.cell? ⟨w.heap.size, 3, none⟩ = some (.slice (some ad') n' c') ∧ V.cell? ⟨w.heap.size + 1, 0, none⟩ = some (.int .i64 (p : Int)) ∧ V.cell? ⟨w.heap.size + 1, 1, none⟩ = some (.int .i64 (q : Int))) (first | exact HK.out _ (hbw.drew.mono hz2) | exact HK.out _ (hbw.mono hz2) | exact HK.out _ (((hbw.mono hz2).setCell (Nat.le_refl _) _).setCell (Nat.le_refl _) _)) (first | (go_at_call 80; (with_reducible refine (HA.out _ hbw.drew).mono ?_); rintro e wa ⟨rfl, hba⟩; have hbw := hbw.drew.trans (hba.mono hbw.drew.size)) | (go_at_call 80; (with_reducible refine (HA'.out _ hbw).mono ?_); rintro e wb ⟨rfl, hbb⟩; have hbw := hbw.trans (hbb.mono hbw.size); obtain ⟨c0, c1, k0, k1⟩ := HZ.out _ hbw))
  all_goals
    obtain ⟨hcl, hsz, hot, hBl⟩ := put2 (k := .int .i64 x) (l := .int .i64 y) c0 c1
    obtain ⟨hc0, hc1⟩ := hcl
    have HOt := Lib.hid (hBl _ _ (HB0.out.trans (hbw.mono HB0.out.size)) (by omega))
    clear hsz hot hBl hbw hba hbb
    go_wp2_with fail
    refine bodyPost_ret (v := .agg #[.int .i64 x, .int .i64 y]) (by simp [results, Try.results53, go_sem, hc0, hc1]) rfl ?_
    exact ⟨rfl, HOt.out⟩

/-- Where letter k leads a pair. -/
def pairT (a b : Au) (x : Nat × Nat) (k : Nat) : Nat × Nat := (a.T x.1 k, b.T x.2 k)
theorem found_prd {a b : Au} {f : Bool → Bool → Bool} (hb : b.wf) {N : Nat} (h : Ends (0, 0) (pairT a b) N) : Eqv (found (0, 0) (pairT a b) (fun x => f (a.A x.1) (b.A x.2)) N) 0 (prd a b f) 0 := fun w hw => by
  rw [prd_lang hb w hw]
  have h1 := h.lang (acc := fun x : Nat × Nat => f (a.A x.1) (b.A x.2)) (L := fun x w => f (a.A (a.run x.1 w)) (b.A (b.run x.2 w))) (fun _ => rfl) (fun _ _ _ _ _ _ => rfl) w 0 hw h.pos
  rw [h1, ords_first]
theorem enters_step (args : Array Value) (w : World) : (callFunc 53 args).run Try.prog w = .ok (.enter 53 args) w := enters_of Try.func53 (by kernel_rfl) rfl args w
theorem enters_or (args : Array Value) (w : World) : (callFunc 64 args).run Try.prog w = .ok (.enter 64 args) w := enters_of Try.func64 (by kernel_rfl) rfl args w
theorem enters_and (args : Array Value) (w : World) : (callFunc 65 args).run Try.prog w = .ok (.enter 65 args) w := enters_of Try.func65 (by kernel_rfl) rfl args w
/-- The minimal automaton of a product, or none. -/
def PrdPost (a b : Au) (f : Bool → Bool → Bool) (w : World) (e : Ending) (w' : World) : Prop := ∃ m, Canon m ∧ Eqv m 0 (prd a b f) 0 ∧ CopyDB (fitD m) (decide (m.n ≤ 40)) w e w'
set_option maxRecDepth 100000 in
set_option maxHeartbeats 3200000 in
theorem implPrd_any (va vn va' vn' : Value) (d d' : Dx) (S S' : Nat → Prop) (f : Bool → Bool → Bool) (g2 : Nat) (lb2 : Array Value) (eg2 : ∀ args w, (callFunc g2 args).run Try.prog w = .ok (.enter g2 args) w) (w : World) (h : DfaV w S va vn d) (h' : DfaV w S' va' vn' d') (hv : validD d = true) (hv' : validD d' = true)
    (H2 : ∀ (V : World) (x : Nat × Nat), Below w.heap.size w V → okP d.acc.length d'.acc.length x → Calls Try.prog g2 (#[.agg #[.int .i64 (x.1 : Int), .int .i64 (x.2 : Int)]] ++ lb2) V fun e w' => e = .returned (.bool (f ((auD d).A x.1) ((auD d').A x.2))) ∧ Below V.heap.size V w') :
    Calls Try.prog 63 #[.agg #[va, vn], .agg #[va', vn'], .func (.func g2) #[] lb2] w (PrdPost (auD d) (auD d') f w) := by
  have hmf : ∀ (fn : Fn) (first cap : Array Value) (w : World), (Instr.makeFunc fn first cap).run Try.prog w = .ok (.func fn first cap) w := fun _ _ _ _ => rfl
  obtain ⟨hw, hn40, hnn, hl, ad, c, aN, c', rfl, rfl, hA, hT⟩ := h.au hv
  obtain ⟨hw', hn40', hnn', hl', ad', cc, aN', cc', rfl, rfl, hA', hT'⟩ := h'.au hv'
  obtain ⟨n, hne⟩ : ∃ n, n = d.acc.length := ⟨_, rfl⟩
  obtain ⟨n', hne'⟩ : ∃ n', n' = d'.acc.length := ⟨_, rfl⟩
  rw [← hne] at hT H2 hnn ⊢
  rw [← hne'] at hT' H2 hnn' ⊢
  obtain ⟨W0, hW0⟩ : ∃ W0, W0 = ((w.alloc (.cells #[.slice (some ad) n c, .slice (some aN) n c'] 27)).alloc (.cells #[.slice (some ad') n' cc, .slice (some aN') n' cc'] 27)).alloc (.cells #[.slice none 0 0, .slice none 0 0] 27) := ⟨_, rfl⟩
  have h3 := three_box w (.cells #[.slice (some ad) n c, .slice (some aN) n c'] 27) (.cells #[.slice (some ad') n' cc, .slice (some aN') n' cc'] 27) (.cells #[.slice none 0 0, .slice none 0 0] 27)
  rw [← hW0] at h3
  have HB0 : Hid (Below w.heap.size w W0) := Lib.hid h3.2.2.2
  have HX := Lib.hid h3.1
  have HX' := Lib.hid h3.2.1
  have HY := Lib.hid h3.2.2.1
  clear h3
  have hM : n * n' ≤ 1600 := by
    have := Nat.mul_le_mul (show n ≤ 40 by omega) (show n' ≤ 40 by omega)
    omega
  have h00 : okP n n' (0, 0) := ⟨by rw [← hnn]; exact hw.1, by rw [← hnn']; exact hw'.1⟩
  have hTT : ∀ x k, okP n n' x → k < 3 → okP n n' (pairT (auD d) (auD d') x k) := fun x k hx hk => ⟨by have := hw.2 x.1 k (by rw [hnn]; exact hx.1) hk; rw [hnn] at this; exact this, by have := hw'.2 x.2 k (by rw [hnn']; exact hx.2) hk; rw [hnn'] at this; exact this⟩
  obtain ⟨N, hN, hE⟩ := ends_some (s0 := (0, 0)) (g := pairT (auD d) (auD d')) (M := n * n') (fun t => (ords_pairs h00 hTT t).2)
  obtain ⟨m, m1, m2, -⟩ := exists_min (hE.wf fun x => f ((auD d).A x.1) ((auD d').A x.2))
  have HM : Hid (Canon m ∧ Eqv m 0 (prd (auD d) (auD d') f) 0) := Lib.hid ⟨m1, m2.trans (found_prd (f := f) hw' hE)⟩
  have HEx : Hid (Calls Try.prog 100 #[.agg #[.int .i64 0, .int .i64 0], .func (.func 53) #[.agg #[.slice (some ad) n c, .slice (some aN) n c', .slice (some ad') n' cc, .slice (some aN') n' cc']] #[], .func (.func g2) #[] lb2, .int .i64 1600] W0 (CopyDB (fitD m) (decide (m.n ≤ 40)) W0)) := Lib.hid (by
    refine implMdP_any _ g2 _ _ lb2 enters_step eg2 (pairT (auD d) (auD d')) (fun x => f ((auD d).A x.1) ((auD d').A x.2)) n n' 1600 (0, 0) W0 (by omega) (by omega) (by omega) (by omega) h00 hTT (fun U x k hU hx hk => ?_) (fun U x hU hx => ?_) _ _ (.inl ⟨N, by omega, hE, m, m1, m2, rfl, rfl⟩)
    · have hb : Below w.heap.size w U := HB0.out.trans (hU.mono HB0.out.size)
      obtain ⟨r1, q1, a1, a2⟩ := hT x.1 hx.1
      obtain ⟨r2, q2, b1, b2⟩ := hT' x.2 hx.2
      have a3 := a2 k hk
      have b3 := b2 k hk
      exact implStepP_any (.slice (some ad) n c) (.slice (some ad') n' cc) aN aN' n n' c' cc' x.1 x.2 k r1 r2 q1 q2 _ _ U hx.1 hx.2 hk ((hb.cell (cell_in a1)).trans a1) ((hb.cell (cell_in a3)).trans a3) ((hb.cell (cell_in b1)).trans b1) ((hb.cell (cell_in b3)).trans b3)
    · exact H2 U x (HB0.out.trans (hU.mono HB0.out.size)) hx)
  clear h h' hA hT hA' hT' H2 hw hne hne' hl hl' hv hv' hn40 hnn hn40' hnn' hw' h00 hTT hN hE m1 m2
  go_enter Try.func63, Try.ntmps63
  go_wp2_with fail
  go_at_call 100
  rw [← hW0]
  refine HEx.out.mono ?_
  rintro e w3 hcd
  obtain ⟨A1, p1, A2, p2, rfl, hoo, hb3⟩ := hcd.shape
  obtain ⟨x1, hx1⟩ : ∃ x, x = (fitD m).acc.length := ⟨_, rfl⟩
  obtain ⟨x2, hx2⟩ : ∃ x, x = (fitD m).nxt.length := ⟨_, rfl⟩
  obtain ⟨ok, hok⟩ : ∃ b, b = decide (m.n ≤ 40) := ⟨_, rfl⟩
  rw [← hx1, ← hx2] at hoo ⊢
  rw [← hok]
  have HO3 := Lib.hid hoo
  have HOk := Lib.hid hok
  have HB3 := Lib.hid hb3
  have hz3 := hb3.size
  have hyl := blk_lt HY.out
  obtain ⟨c0, c1, k0, k1⟩ := box2_facts ((HB3.out.block _ hyl).trans HY.out)
  obtain ⟨hcl, hsz, hot, hBl⟩ := put2 (k := .slice A1 x1 p1) (l := .slice A2 x2 p2) c0 c1
  obtain ⟨hc0, hc1⟩ := hcl
  have HOt := Lib.hid (And.intro hsz (And.intro hot hBl))
  clear hsz hot hBl hoo hb3 hcd hx1 hx2 hok hW0
  go_wp2_with fail
  refine bodyPost_ret (v := .tuple #[.agg #[.slice A1 x1 p1, .slice A2 x2 p2], .bool ok]) (by simp [results, Try.results63, go_sem, hc0, hc1]) rfl ?_
  have h0 := HB0.out.size
  refine ⟨m, HM.out.1, HM.out.2, ?_⟩
  rw [← HOk.out]
  exact ⟨_, _, rfl, HO3.out.mono (fun g hg => HOt.out.2.1 g (by have := hg.1; omega)) (fun g hg => ⟨by have := hg.1; omega, by rw [HOt.out.1]; exact hg.2⟩) (by rw [HOt.out.1]; exact Nat.le_refl _), HOt.out.2.2 _ _ (HB0.out.trans (HB3.out.mono h0)) (by omega)⟩
end Go.Proofs.Ythmfncklepkddaa

namespace Go.Proofs.Ythmfncklepkddaa
open Go.RowKit

set_option maxRecDepth 100000 in
set_option maxHeartbeats 6400000 in
theorem implPro_any (va vn va' vn' : Value) (d d' : Dx) (S S' : Nat → Prop) (kind : Int) (y : Dx) (ok : Bool) (w : World) (h : DfaV w S va vn d) (h' : DfaV w S' va' vn' d') (hy : proR d d' kind y ok) :
    Calls Try.prog 23 #[.agg #[va, vn], .agg #[va', vn'], .int .i64 kind] w (CopyDB y ok w) := by
  have hmf : ∀ (fn : Fn) (first cap : Array Value) (w : World), (Instr.makeFunc fn first cap).run Try.prog w = .ok (.func fn first cap) w := fun _ _ _ _ => rfl
  obtain ⟨W0, hW0⟩ : ∃ W0, W0 = ((w.alloc (.cells #[va, vn] 27)).alloc (.cells #[va', vn'] 27)).alloc (.cells #[.slice none 0 0, .slice none 0 0] 27) := ⟨_, rfl⟩
  have h3 := three_box w (.cells #[va, vn] 27) (.cells #[va', vn'] 27) (.cells #[.slice none 0 0, .slice none 0 0] 27)
  rw [← hW0] at h3
  have HB0 : Hid (Below w.heap.size w W0) := Lib.hid h3.2.2.2
  have HX := Lib.hid h3.1
  have HX' := Lib.hid h3.2.1
  have HY := Lib.hid h3.2.2.1
  clear h3
  have HV := Lib.hid (implValidD_any va vn d S W0 (h.kept HB0.out))
  have HV' := Lib.hid (fun (V : World) (hV : Below w.heap.size w V) => implValidD_any va' vn' d' S' V (h'.kept hV))
  have HPr : Hid (validD d = true → validD d' = true → ∀ (f : Bool → Bool → Bool) (g : Nat) (eg : ∀ args w, (callFunc g args).run Try.prog w = .ok (.enter g args) w) (V : World), Below W0.heap.size W0 V → (∀ (U : World) (p q : Nat) (ad ad' : Addr) (c c' : Nat) (x z : Bool), p < d.acc.length → q < d'.acc.length → U.cell? ⟨w.heap.size, 0, none⟩ = some (.slice (some ad) d.acc.length c) → U.cell? (ad.add p) = some (.bool x) → U.cell? ⟨w.heap.size + 1, 0, none⟩ = some (.slice (some ad') d'.acc.length c') → U.cell? (ad'.add q) = some (.bool z) → Calls Try.prog g #[.agg #[.int .i64 (p : Int), .int .i64 (q : Int)], .pointer (some ⟨w.heap.size, 0, none⟩), .pointer (some ⟨w.heap.size + 1, 0, none⟩)] U fun e w' => e = .returned (.bool (f x z)) ∧ Below U.heap.size U w') →
      Calls Try.prog 63 #[.agg #[va, vn], .agg #[va', vn'], .func (.func g) #[] #[.pointer (some ⟨w.heap.size, 0, none⟩), .pointer (some ⟨w.heap.size + 1, 0, none⟩)]] V (PrdPost (auD d) (auD d') f V)) := Lib.hid (fun hv hv' f g eg V hV hc => by
    have hb : Below w.heap.size w V := HB0.out.trans (hV.mono HB0.out.size)
    refine implPrd_any va vn va' vn' d d' S S' f g _ eg V (h.kept hb) (h'.kept hb) hv hv' (fun U x hU hx => ?_)
    have hbU : Below w.heap.size w U := hb.trans (hU.mono hb.size)
    have hbW : Below W0.heap.size W0 U := hV.trans (hU.mono hV.size)
    obtain ⟨-, -, -, -, ad, c, aN, c', hva, hvn, hA, -⟩ := h.au hv
    obtain ⟨-, -, -, -, ad', cc, aN', cc', hva', hvn', hA', -⟩ := h'.au hv'
    have a1 := hA x.1 hx.1
    have b1 := hA' x.2 hx.2
    refine hc U x.1 x.2 ad ad' c cc _ _ hx.1 hx.2 ?_ ((hbU.cell (cell_in a1)).trans a1) ?_ ((hbU.cell (cell_in b1)).trans b1)
    · rw [← hva]
      exact (box2_facts ((hbW.block _ (blk_lt HX.out)).trans HX.out)).1
    · rw [← hva']
      exact (box2_facts ((hbW.block _ (blk_lt HX'.out)).trans HX'.out)).1)
  obtain ⟨⟨A, c, hA⟩, A', c', hA'⟩ := h.shape
  obtain ⟨⟨B, e, hB⟩, B', e', hB'⟩ := h'.shape
  subst hA
  subst hA'
  subst hB
  subst hB'
  obtain ⟨hc0, hc1, -, -⟩ := box2_facts HX.out
  obtain ⟨hd0, hd1, -, -⟩ := box2_facts HX'.out
  rw [hW0] at hc0 hc1 hd0 hd1
  have HYy := Lib.hid hy
  obtain ⟨v, hv⟩ : ∃ v, v = validD d := ⟨_, rfl⟩
  obtain ⟨v', hv'⟩ : ∃ v, v = validD d' := ⟨_, rfl⟩
  rw [← hv] at HV
  rw [← hv'] at HV'
  have HVe := Lib.hid (And.intro hv hv')
  clear h h' hy hv hv'
  go_enter Try.func23, Try.ntmps23
  go_wp2_with fail
  go_at_call 28
  rw [← hW0]
  refine HV.out.mono ?_
  rintro e1 w1 ⟨rfl, hb1⟩
  have HB1 := Lib.hid hb1
  clear hc0 hc1 hd0 hd1 hW0 hb1
  have hw1 := Lib.hid (HB0.out.trans (HB1.out.mono HB0.out.size))
  obtain ⟨hc0, hc1, -, -⟩ := box2_facts ((HB1.out.block _ (blk_lt HX.out)).trans HX.out)
  obtain ⟨hd0, hd1, -, -⟩ := box2_facts ((HB1.out.block _ (blk_lt HX'.out)).trans HX'.out)
  cases v with
  | false =>
    obtain ⟨rfl, rfl⟩ := proR_no HYy.out (fun hh => by have := HVe.out.1; rw [hh.1] at this; cases this)
    obtain ⟨c0, c1, k0, k1⟩ := box2_facts ((HB1.out.block _ (blk_lt HY.out)).trans HY.out)
    obtain ⟨hcl, hsz, hot, hBl⟩ := put2 (k := .slice none 0 0) (l := .slice none 0 0) c0 c1
    obtain ⟨hr0, hr1⟩ := hcl
    have HOt := Lib.hid hBl
    clear hsz hot hBl
    go_wp2_with fail
    refine bodyPost_ret (v := .tuple #[.agg #[.slice none 0 0, .slice none 0 0], .bool false]) (by simp [results, Try.results23, go_sem, hr0, hr1]) rfl ?_
    exact ⟨_, _, rfl, DfaO.empty _ _, HOt.out _ _ (HB0.out.trans (HB1.out.mono HB0.out.size)) (by omega)⟩
  | true =>
    go_wp2_with fail
    go_at_call 28
    refine (HV'.out w1 hw1.out).mono ?_
    rintro e2 w2 ⟨rfl, hb2⟩
    have HB2 := Lib.hid (HB1.out.trans (hb2.mono HB1.out.size))
    clear hc0 hc1 hd0 hd1 hb2
    obtain ⟨hc0, hc1, -, -⟩ := box2_facts ((HB2.out.block _ (blk_lt HX.out)).trans HX.out)
    obtain ⟨hd0, hd1, -, -⟩ := box2_facts ((HB2.out.block _ (blk_lt HX'.out)).trans HX'.out)
    cases v' with
    | false =>
      obtain ⟨rfl, rfl⟩ := proR_no HYy.out (fun hh => by have := HVe.out.2; rw [hh.2.1] at this; cases this)
      obtain ⟨c0, c1, k0, k1⟩ := box2_facts ((HB2.out.block _ (blk_lt HY.out)).trans HY.out)
      obtain ⟨hcl, hsz, hot, hBl⟩ := put2 (k := .slice none 0 0) (l := .slice none 0 0) c0 c1
      obtain ⟨hr0, hr1⟩ := hcl
      have HOt := Lib.hid hBl
      clear hsz hot hBl
      go_wp2_with fail
      refine bodyPost_ret (v := .tuple #[.agg #[.slice none 0 0, .slice none 0 0], .bool false]) (by simp [results, Try.results23, go_sem, hr0, hr1]) rfl ?_
      exact ⟨_, _, rfl, DfaO.empty _ _, HOt.out _ _ (HB0.out.trans (HB2.out.mono HB0.out.size)) (by omega)⟩
    | true =>
      by_cases h6 : kind = 6
      · subst h6
        have HP := Lib.hid (HPr.out HVe.out.1.symm HVe.out.2.symm (· || ·) _ enters_or w2 HB2.out (fun U p q ad ad' c c' x z hp hq a0 a1 b0 b1 => implOrP_any _ _ ad ad' _ _ c c' p q x z U hp hq a0 a1 b0 b1))
        go_wp2_with fail
        go_at_call 63
        refine HP.out.mono ?_
        rintro e3 w3 ⟨m, m1, m2, hcd⟩
        obtain ⟨rfl, rfl⟩ := proR_yes HYy.out HVe.out.1.symm HVe.out.2.symm (by simp) m1 m2
        obtain ⟨A1, p1, A2, p2, rfl, hoo, hb3⟩ := hcd.shape
        obtain ⟨x1, hx1⟩ : ∃ x, x = (fitD m).acc.length := ⟨_, rfl⟩
        obtain ⟨x2, hx2⟩ : ∃ x, x = (fitD m).nxt.length := ⟨_, rfl⟩
        obtain ⟨ok, hok⟩ : ∃ b, b = decide (m.n ≤ 40) := ⟨_, rfl⟩
        rw [← hx1, ← hx2] at hoo ⊢
        rw [← hok]
        have HOk := Lib.hid hok
        have HO3 := Lib.hid hoo
        have HB3 := Lib.hid (HB2.out.trans (hb3.mono HB2.out.size))
        have hz2 := HB2.out.size
        have hz3 := hb3.size
        have hyl := blk_lt HY.out
        obtain ⟨c0, c1, k0, k1⟩ := box2_facts ((HB3.out.block _ hyl).trans HY.out)
        obtain ⟨hcl, hsz, hot, hBl⟩ := put2 (k := .slice A1 x1 p1) (l := .slice A2 x2 p2) c0 c1
        obtain ⟨hr0, hr1⟩ := hcl
        have HOt := Lib.hid (And.intro hsz (And.intro hot hBl))
        clear hsz hot hBl hoo hb3 hcd hx1 hx2 m1 m2 hok hc0 hc1 hd0 hd1
        go_wp2_with fail
        refine bodyPost_ret (v := .tuple #[.agg #[.slice A1 x1 p1, .slice A2 x2 p2], .bool ok]) (by simp [results, Try.results23, go_sem, hr0, hr1]) rfl ?_
        have h0 := HB0.out.size
        rw [← HOk.out]
        exact ⟨_, _, rfl, HO3.out.mono (fun g hg => HOt.out.2.1 g (by have := hg.1; omega)) (fun g hg => ⟨by have := hg.1; omega, by rw [HOt.out.1]; exact hg.2⟩) (by rw [HOt.out.1]; exact Nat.le_refl _), HOt.out.2.2 _ _ (HB0.out.trans (HB3.out.mono h0)) (by omega)⟩
      · by_cases h7 : kind = 7
        · subst h7
          have HP := Lib.hid (HPr.out HVe.out.1.symm HVe.out.2.symm (· && ·) _ enters_and w2 HB2.out (fun U p q ad ad' c c' x z hp hq a0 a1 b0 b1 => implAndP_any _ _ ad ad' _ _ c c' p q x z U hp hq a0 a1 b0 b1))
          go_wp2_with fail
          go_at_call 63
          refine HP.out.mono ?_
          rintro e3 w3 ⟨m, m1, m2, hcd⟩
          obtain ⟨rfl, rfl⟩ := proR_yes HYy.out HVe.out.1.symm HVe.out.2.symm (by simp) m1 m2
          obtain ⟨A1, p1, A2, p2, rfl, hoo, hb3⟩ := hcd.shape
          obtain ⟨x1, hx1⟩ : ∃ x, x = (fitD m).acc.length := ⟨_, rfl⟩
          obtain ⟨x2, hx2⟩ : ∃ x, x = (fitD m).nxt.length := ⟨_, rfl⟩
          obtain ⟨ok, hok⟩ : ∃ b, b = decide (m.n ≤ 40) := ⟨_, rfl⟩
          rw [← hx1, ← hx2] at hoo ⊢
          rw [← hok]
          have HOk := Lib.hid hok
          have HO3 := Lib.hid hoo
          have HB3 := Lib.hid (HB2.out.trans (hb3.mono HB2.out.size))
          have hz2 := HB2.out.size
          have hz3 := hb3.size
          have hyl := blk_lt HY.out
          obtain ⟨c0, c1, k0, k1⟩ := box2_facts ((HB3.out.block _ hyl).trans HY.out)
          obtain ⟨hcl, hsz, hot, hBl⟩ := put2 (k := .slice A1 x1 p1) (l := .slice A2 x2 p2) c0 c1
          obtain ⟨hr0, hr1⟩ := hcl
          have HOt := Lib.hid (And.intro hsz (And.intro hot hBl))
          clear hsz hot hBl hoo hb3 hcd hx1 hx2 m1 m2 hok hc0 hc1 hd0 hd1
          go_wp2_with fail
          refine bodyPost_ret (v := .tuple #[.agg #[.slice A1 x1 p1, .slice A2 x2 p2], .bool ok]) (by simp [results, Try.results23, go_sem, hr0, hr1]) rfl ?_
          have h0 := HB0.out.size
          rw [← HOk.out]
          exact ⟨_, _, rfl, HO3.out.mono (fun g hg => HOt.out.2.1 g (by have := hg.1; omega)) (fun g hg => ⟨by have := hg.1; omega, by rw [HOt.out.1]; exact hg.2⟩) (by rw [HOt.out.1]; exact Nat.le_refl _), HOt.out.2.2 _ _ (HB0.out.trans (HB3.out.mono h0)) (by omega)⟩
        · have k6 : (kind == 6) = false := by simpa using h6
          have k7 : (kind == 7) = false := by simpa using h7
          obtain ⟨rfl, rfl⟩ := proR_no HYy.out (fun hh => by rcases hh.2.2 with e | e; exact h6 e; exact h7 e)
          clear h6 h7
          obtain ⟨c0, c1, k0, k1⟩ := box2_facts ((HB2.out.block _ (blk_lt HY.out)).trans HY.out)
          obtain ⟨hcl, hsz, hot, hBl⟩ := put2 (k := .slice none 0 0) (l := .slice none 0 0) c0 c1
          obtain ⟨hr0, hr1⟩ := hcl
          have HOt := Lib.hid hBl
          clear hsz hot hBl
          go_wp2_with fail
          refine bodyPost_ret (v := .tuple #[.agg #[.slice none 0 0, .slice none 0 0], .bool false]) (by simp [results, Try.results23, go_sem, hr0, hr1]) rfl ?_
          exact ⟨_, _, rfl, DfaO.empty _ _, HOt.out _ _ (HB0.out.trans (HB2.out.mono HB0.out.size)) (by omega)⟩
end Go.Proofs.Ythmfncklepkddaa

/-
  What impl.MinimizeDfa and impl.ComplementDfa answer.
-/
namespace Go.Proofs.Ythmfncklepkddaa
open Go.RowKit

theorem accA_run (a : Au) (acc : Nat → Bool) : ∀ (w : List Nat) (q : Nat), (accA a acc).run q w = a.run q w
  | [], _ => rfl
  | k :: w, q => accA_run a acc w (a.T q k)
theorem accA_cnt (a : Au) (acc : Nat → Bool) : ∀ t, (accA a acc).cnt t = a.cnt t
  | 0 => rfl
  | t + 1 => by simp only [Au.cnt, accA_cnt a acc t]; rfl
/-- The complement, as an automaton. -/
def negA (a : Au) : Au := accA a fun q => !a.A q
theorem negA_canon {m : Au} (h : Canon m) : Canon (negA m) where
  pos := h.pos
  lt := h.lt
  sep := fun i j hi hj he => h.sep i j hi hj (fun w hw => by
    have h1 := he w hw
    rw [negA, accA_run, accA_run] at h1
    have h2 : (!m.A (m.run i w)) = (!m.A (m.run j w)) := h1
    simpa using h2)
  next := fun t ht => by
    rw [negA, accA_cnt]
    exact h.next t ht
  seen := fun i hi => by
    rw [negA, accA_cnt]
    exact h.seen i hi
  all := by
    rw [negA, accA_cnt]
    exact h.all
theorem negA_eqv {m a : Au} (h : Eqv m 0 a 0) : Eqv (negA m) 0 (negA a) 0 := fun w hw => by
  rw [negA, negA, accA_run, accA_run]
  show (!m.A (m.run 0 w)) = (!a.A (a.run 0 w))
  rw [h w hw]
theorem negA_fields (m : Au) : fieldsOf (negA m) = comD (fieldsOf m) := by
  unfold fieldsOf comD
  simp [accOf, nxtOf, negA, accA, Function.comp_def]

set_option maxRecDepth 100000 in
set_option maxHeartbeats 3200000 in
theorem implCom_any (va vn : Value) (d y : Dx) (S : Nat → Prop) (w : World) (h : DfaV w S va vn d) (hy : minR d y) :
    Calls Try.prog 26 #[.agg #[va, vn]] w (CopyD (comD y) w) := by
  have hmf : ∀ (fn : Fn) (first cap : Array Value) (w : World), (Instr.makeFunc fn first cap).run Try.prog w = .ok (.func fn first cap) w := fun _ _ _ _ => rfl
  obtain ⟨W0, hW0⟩ : ∃ W0, W0 = (w.alloc (.cells #[va, vn] 27)).alloc (.cells #[.slice none 0 0, .slice none 0 0] 27) := ⟨_, rfl⟩
  have HB0 : Hid (Below w.heap.size w W0) := Lib.hid (by rw [hW0]; exact ((Below.refl _ _).alloc (Nat.le_refl _) _).alloc (by simp) _)
  have HX : Hid (Bx2 W0 w.heap.size va vn) := Lib.hid (by
    have k := box2_kept (w := w) (w1 := W0) (a := va) (b := vn) (t := 27) (by rw [hW0]; exact (Below.refl _ _).alloc (by simp) _)
    exact ⟨k.2.1, k.2.2.1⟩)
  have HY : Hid (W0.heap[w.heap.size + 1]? = some (.cells #[.slice none 0 0, .slice none 0 0] 27 (0, 0))) := Lib.hid (by rw [hW0]; exact three2 w _ _ _ _)
  have HM : Hid (Calls Try.prog 49 #[.agg #[va, vn], .func (.func 68) #[] #[.pointer (some ⟨w.heap.size, 0, none⟩)]] W0 (CopyD (comD y) W0)) := Lib.hid (by
    unfold minR at hy
    by_cases hv : validD d = true
    · simp only [hv, if_true] at hy
      obtain ⟨m0, n1, n2, rfl⟩ := hy
      obtain ⟨hw, hn40, hnn, hl, ad, c, ad', c', hva, hvn, hA, hT⟩ := h.au hv
      refine (implMinSt_yes va vn d S _ _ enters_rej (fun q => !(auD d).A q) W0 (h.kept HB0.out) hv (fun V x hV hx => ?_)).mono ?_
      · have h1 := hA x hx
        have hb := HB0.out.trans (hV.mono HB0.out.size)
        exact (implRejQ_any w.heap.size ad _ c x _ V hx (by rw [← hva]; exact (HX.out.kept hV).1) ((hb.cell (cell_in h1)).trans h1)).mono (fun e w' he => ⟨he.1, by rw [← he.2]; exact Below.refl _ _⟩)
      · rintro e w' ⟨m, m1, m2, hcd⟩
        have m2' : Eqv m 0 (negA (auD d)) 0 := m2
        rw [← negA_fields, fields_one (negA_canon n1) m1 ((negA_eqv n2).swap m2')]
        exact hcd
    · simp only [hv] at hy
      obtain rfl : y = ⟨[], []⟩ := by simpa using hy
      exact implMinSt_no va vn d S _ _ W0 (h.kept HB0.out) (by simpa using hv))
  obtain ⟨⟨A, c, rfl⟩, A', c', rfl⟩ := h.shape
  obtain ⟨hc00, hc01⟩ := HX.out
  rw [hW0] at hc00 hc01
  clear h hy
  go_enter Try.func26, Try.ntmps26
  go_wp2_with fail
  go_at_call 49
  rw [← hW0]
  refine HM.out.mono ?_
  rintro e w3 hcd
  obtain ⟨A1, p1, A2, p2, rfl, hoo, hb3⟩ := hcd.shape
  obtain ⟨x1, hx1⟩ : ∃ x, x = (comD y).acc.length := ⟨_, rfl⟩
  obtain ⟨x2, hx2⟩ : ∃ x, x = (comD y).nxt.length := ⟨_, rfl⟩
  rw [← hx1, ← hx2] at hoo ⊢
  have HO3 := Lib.hid hoo
  have HB3 := Lib.hid hb3
  obtain ⟨c0, c1, k0, k1⟩ := box2_facts ((hb3.block _ (blk_lt HY.out)).trans HY.out)
  obtain ⟨hcl, hsz, hot, hBl⟩ := put2 (k := .slice A1 x1 p1) (l := .slice A2 x2 p2) c0 c1
  obtain ⟨hc0, hc1⟩ := hcl
  have HOt := Lib.hid (And.intro hsz (And.intro hot hBl))
  clear hsz hot hBl hoo hb3 hcd hx1 hx2 hc00 hc01 hW0
  go_wp2_with fail
  refine bodyPost_ret (v := .agg #[.slice A1 x1 p1, .slice A2 x2 p2]) (by simp [results, Try.results26, go_sem, hc0, hc1]) rfl ?_
  have hyl := blk_lt HY.out
  have h0 := HB0.out.size
  exact ⟨_, _, rfl, HO3.out.mono (fun g hg => HOt.out.2.1 g (by have := hg.1; omega)) (fun g hg => ⟨by have := hg.1; omega, by rw [HOt.out.1]; exact hg.2⟩) (by rw [HOt.out.1]; exact Nat.le_refl _), HOt.out.2.2 _ _ (HB0.out.trans (HB3.out.mono h0)) (Nat.le_succ _)⟩
end Go.Proofs.Ythmfncklepkddaa

/-
  What spec.MinimizeDfa answers.
  What spec.ComplementDfa answers.
-/
namespace Go.Proofs.Ythmfncklepkddaa
open Go.RowKit

set_option maxRecDepth 100000 in
set_option maxHeartbeats 3200000 in
theorem specMinD_any (va vn : Value) (d y : Dx) (S : Nat → Prop) (w : World) (h : DfaV w S va vn d) (hy : minR d y) :
    Calls Try.prog 18 #[.agg #[va, vn]] w (CopyD y w) := by
  obtain ⟨⟨A, c, hA⟩, A', c', hA'⟩ := h.shape
  subst hA
  subst hA'
  obtain ⟨p, hp⟩ : ∃ p, p = d.acc.length := ⟨_, rfl⟩
  obtain ⟨p', hp'⟩ : ∃ p', p' = d.nxt.length := ⟨_, rfl⟩
  rw [← hp, ← hp'] at h ⊢
  obtain ⟨W0, hW0⟩ : ∃ W0, W0 = (w.alloc (.cells #[.slice A p c, .slice A' p' c'] 27)).alloc (.cells #[.slice none 0 0, .slice none 0 0] 27) := ⟨_, rfl⟩
  have HB0 : Hid (Below w.heap.size w W0) := Lib.hid (by rw [hW0]; exact ((Below.refl _ _).alloc (Nat.le_refl _) _).alloc (by simp) _)
  have hx := (by
    have k := box2_kept (w := w) (w1 := W0) (a := .slice A p c) (b := .slice A' p' c') (t := 27) (by rw [hW0]; exact (Below.refl _ _).alloc (by simp) _)
    exact ⟨k.2.1, k.2.2.1⟩ : Bx2 W0 w.heap.size (.slice A p c) (.slice A' p' c'))
  have HX := Lib.hid hx
  have HY : Hid (W0.heap[w.heap.size + 1]? = some (.cells #[.slice none 0 0, .slice none 0 0] 27 (0, 0))) := Lib.hid (by rw [hW0]; exact three2 w _ _ _ _)
  have HV := Lib.hid (specValidD_any (.slice A p c) (.slice A' p' c') d S W0 (h.kept HB0.out))
  obtain ⟨b, hb⟩ : ∃ b, b = validD d := ⟨_, rfl⟩
  rw [← hb] at HV
  obtain ⟨hc00, hc01⟩ := hx
  rw [hW0] at hc00 hc01
  have HH := Lib.hid h
  have HYy := Lib.hid hy
  have HBb := Lib.hid hb
  clear h hy hp hp' hb
  go_enter Try.func18, Try.ntmps18
  go_wp2_with fail
  go_at_call 20
  rw [← hW0]
  refine HV.out.mono ?_
  rintro e w1 ⟨rfl, hb1⟩
  have HB1 := Lib.hid hb1
  obtain ⟨x0, x1⟩ := HX.out.kept hb1
  obtain ⟨c0, c1, k0, k1⟩ := box2_facts ((hb1.block _ (Array.getElem?_eq_some_iff.1 HY.out).1).trans HY.out)
  clear hc00 hc01 hb1 hW0
  cases b with
  | true =>
    have hv : validD d = true := HBb.out.symm
    obtain ⟨q1, q2, q3⟩ := fieldsOf_au hv
    have hm := HYy.out
    unfold minR at hm
    rw [if_pos hv] at hm
    have HM := Lib.hid (specMin_any (.slice A p c) (.slice A' p' c') (auD d) S w1 q1 (by omega) (by rw [← q3]; exact (HH.out.kept HB0.out).kept HB1.out))
    have HMm := Lib.hid hm
    clear hv q1 q2 q3 hm
    go_wp2_with fail
    refine HM.out.mono ?_
    rintro e w2 ⟨m, m1, m2, m3, hcd⟩
    obtain ⟨m0, n1, n2, n3⟩ := HMm.out
    obtain rfl : y = fieldsOf m := by rw [n3]; exact fields_one n1 m1 (n2.swap m2)
    obtain ⟨A1, q1, A2, q2, rfl, ho, hb2⟩ := hcd.shape
    have HO := Lib.hid ho
    have HB2 := Lib.hid hb2
    have hlt := Nat.lt_of_lt_of_le (Array.getElem?_eq_some_iff.1 HY.out).1 HB1.out.size
    obtain ⟨e0, e1, f0, f1⟩ := box2_facts ((hb2.block _ hlt).trans ((HB1.out.block _ (Array.getElem?_eq_some_iff.1 HY.out).1).trans HY.out))
    obtain ⟨hcl, hsz, hot, hBl⟩ := put2 (k := .slice A1 (fieldsOf m).acc.length q1) (l := .slice A2 (fieldsOf m).nxt.length q2) e0 e1
    obtain ⟨hc0, hc1⟩ := hcl
    have HOt := Lib.hid (And.intro hsz (And.intro hot hBl))
    have HLt := Lib.hid hlt
    clear hsz hot hBl n1 n2 n3 m1 m2 m3 ho hb2 hcd x0 x1 c0 c1 k0 k1 hlt
    go_wp2_with fail
    refine bodyPost_ret (v := .agg #[.slice A1 (fieldsOf m).acc.length q1, .slice A2 (fieldsOf m).nxt.length q2]) (by simp [results, Try.results18, go_sem, hc0, hc1]) rfl ?_
    have h0 := HB0.out.size
    have h1 := HB1.out.size
    exact ⟨_, _, rfl, HO.out.mono (fun g hg => HOt.out.2.1 g (by have := hg.1; have := HLt.out; omega)) (fun g hg => ⟨by have := hg.1; omega, by rw [HOt.out.1]; exact hg.2⟩) (by rw [HOt.out.1]; exact Nat.le_refl _), HOt.out.2.2 _ _ (HB0.out.trans ((HB1.out.trans (HB2.out.mono h1)).mono h0)) (Nat.le_succ _)⟩
  | false =>
    have hy := HYy.out
    unfold minR at hy
    rw [← HBb.out, if_neg (by decide)] at hy
    subst hy
    obtain ⟨hcl, hsz, hot, hBl⟩ := put2 (k := .slice none 0 0) (l := .slice none 0 0) c0 c1
    obtain ⟨hc0, hc1⟩ := hcl
    have HOt := Lib.hid hBl
    clear hsz hot hBl x0 x1
    go_wp2_with fail
    refine bodyPost_ret (v := .agg #[.slice none 0 0, .slice none 0 0]) (by simp [results, Try.results18, go_sem, hc0, hc1]) rfl ?_
    exact ⟨_, _, rfl, DfaO.empty _ _, HOt.out _ _ (HB0.out.trans (HB1.out.mono HB0.out.size)) (Nat.le_succ _)⟩
end Go.Proofs.Ythmfncklepkddaa

namespace Go.Proofs.Ythmfncklepkddaa
open Go.RowKit

set_option maxRecDepth 100000 in
set_option maxHeartbeats 3200000 in
theorem specCom_any (va vn : Value) (d y : Dx) (S : Nat → Prop) (w : World) (h : DfaV w S va vn d) (hy : minR d y) :
    Calls Try.prog 27 #[.agg #[va, vn]] w (CopyD (comD y) w) := by
  obtain ⟨⟨A, c, hA⟩, A', c', hA'⟩ := h.shape
  subst hA
  subst hA'
  obtain ⟨p, hp⟩ : ∃ p, p = d.acc.length := ⟨_, rfl⟩
  obtain ⟨p', hp'⟩ : ∃ p', p' = d.nxt.length := ⟨_, rfl⟩
  rw [← hp, ← hp'] at h ⊢
  obtain ⟨W0, hW0⟩ : ∃ W0, W0 = (w.alloc (.cells #[.slice A p c, .slice A' p' c'] 27)).alloc (.cells #[.slice none 0 0, .slice none 0 0] 27) := ⟨_, rfl⟩
  have HB0 : Hid (Below w.heap.size w W0) := Lib.hid (by rw [hW0]; exact ((Below.refl _ _).alloc (Nat.le_refl _) _).alloc (by simp) _)
  have hx := (by
    have k := box2_kept (w := w) (w1 := W0) (a := .slice A p c) (b := .slice A' p' c') (t := 27) (by rw [hW0]; exact (Below.refl _ _).alloc (by simp) _)
    exact ⟨k.2.1, k.2.2.1⟩ : Bx2 W0 w.heap.size (.slice A p c) (.slice A' p' c'))
  have HY : Hid (W0.heap[w.heap.size + 1]? = some (.cells #[.slice none 0 0, .slice none 0 0] 27 (0, 0))) := Lib.hid (by rw [hW0]; exact three2 w _ _ _ _)
  have HM := Lib.hid (specMinD_any (.slice A p c) (.slice A' p' c') d y S W0 (h.kept HB0.out) hy)
  obtain ⟨hc00, hc01⟩ := hx
  rw [hW0] at hc00 hc01
  clear h hy hp hp'
  go_enter Try.func27, Try.ntmps27
  go_wp2_with fail
  go_at_call 18
  rw [← hW0]
  refine HM.out.mono ?_
  rintro e w2 hcd
  obtain ⟨A1, q1, A2, q2, rfl, ⟨Sa, Sn, hoa, hon, hsa, hsn⟩, hb2⟩ := hcd.shape
  clear hc00 hc01 hcd hW0
  obtain ⟨n, hn⟩ : ∃ n, n = y.acc.length := ⟨_, rfl⟩
  obtain ⟨n', hn'⟩ : ∃ n', n' = y.nxt.length := ⟨_, rfl⟩
  have HNn := Lib.hid hn
  have hbn := hoa.1
  rw [bools_length, ← hn] at hbn
  rw [← hn] at hoa ⊢
  rw [← hn'] at hon ⊢
  have h0 := hb2.size
  have h00 := HB0.out.size
  have hlt := (Array.getElem?_eq_some_iff.1 HY.out).1
  have HY2 : Hid (w2.heap[w.heap.size + 1]? = some (.cells #[.slice none 0 0, .slice none 0 0] 27 (0, 0))) := Lib.hid ((hb2.block _ hlt).trans HY.out)
  obtain ⟨Wx, hWx⟩ : ∃ Wx, Wx = w2.alloc (.cells #[.slice A1 n q1, .slice A2 n' q2] 27) := ⟨_, rfl⟩
  have HXB : Hid (Wx.heap[w2.heap.size]? = some (.cells #[.slice A1 n q1, .slice A2 n' q2] 27 (0, 0))) := Lib.hid (by
    rw [hWx]
    exact heap_alloc_new w2 _)
  have HXO : Hid (Below w2.heap.size w2 Wx) := Lib.hid (by
    rw [hWx]
    exact (Below.refl _ _).alloc (Nat.le_refl _) _)
  have HSa := Lib.hid hsa
  have HSn := Lib.hid hsn
  have HOa : Hid (RowO Wx Sa (.slice A1 n q1) (bools (turned y.acc 0))) := Lib.hid (by
    rw [turned_zero]
    exact hoa.mono (fun g hg => HXO.out.block g (hsa g hg).1.2) (fun _ h => h))
  have HOn := Lib.hid hon
  have HB2 := Lib.hid hb2
  clear hoa hon hsa hsn hn hn' hb2 hlt
  go_wp2_with fail
  rw [← hWx]
  clear hWx
  go_loopw [4] (fun iv wr => ∃ i : Nat, iv = .int .i64 i ∧ i ≤ n ∧ Hid (Wx.heap.size = wr.heap.size ∧ (∀ g, ¬ Sa g → wr.heap[g]? = Wx.heap[g]?) ∧ RowO wr Sa (.slice A1 n q1) (bools (turned y.acc i)) ∧ Below w.heap.size w wr)) (fun iv _ => n - (intOf iv).toNat)
  case atStart => exact ⟨0, rfl, Nat.zero_le _, Lib.hid ⟨rfl, fun _ _ => rfl, HOa.out, HB0.out.trans ((HB2.out.trans (HXO.out.mono h0)).mono h00)⟩⟩
  case round =>
    obtain ⟨i, rfl, hi, HR⟩ := hrel
    have hnb : ¬ Sa w2.heap.size := fun e => Nat.lt_irrefl _ (HSa.out _ e).1.2
    obtain ⟨c0, c1, f0, f1⟩ := box2_facts ((HR.out.2.1 _ hnb).trans HXB.out)
    by_cases hlt : i < n
    · have hl : i < y.acc.length := by rw [← HNn.out]; exact hlt
      obtain ⟨g, hg, hsg, hgl, hst⟩ := HR.out.2.2.1.set (j := i) (by rw [bools_length, turned_length]; exact hl)
      subst hg
      obtain ⟨⟨x0, hx0⟩, hf0, hset⟩ := hst wr rfl
      obtain ⟨ad, e, -, hcb⟩ := HR.out.2.2.1.row.boolD (j := i) (by rw [turned_length]; exact hl)
      cases e
      rw [turned_at hl] at hcb
      obtain ⟨b, hb⟩ : ∃ b, b = y.acc.getD i false := ⟨_, rfl⟩
      rw [← hb] at hcb
      have HS := Lib.hid (by
        have k := hset (.bool (!(y.acc.getD i false)))
        rw [turned_step hl, ← hb] at k
        exact k)
      have HG := Lib.hid (And.intro hsg (And.intro (HSa.out g hsg).1.1 hgl))
      rw [show ((⟨g, 0, none⟩ : Addr).add i) = ⟨g, i, none⟩ by rcases i with _ | i <;> simp [Addr.add]] at hcb
      have HL := Lib.hid hlt
      have s1 : (i : Int) < (n : Int) := by omega
      have s2 : (0 : Int) ≤ (i : Int) := by omega
      clear hset hst hx0 hb hsg f0 f1 c1 hl
      go_wp2_with fail
      go_still_tail 10, (by kernel_rfl)
      go_wp2_with fail
      go_roundw
      case rel => exact ⟨i + 1, by go_num, by have := HL.out; omega, Lib.hid ⟨by rw [HR.out.1]; simp [World.setCell], fun h hh => (Below.heap_setCell _ _ _ _ (fun e => hh (by rw [e]; exact HG.out.1))).trans (HR.out.2.1 h hh), HS.out, (HR.out.2.2.2.setCell (p := ⟨g, i, none⟩) (by have := HG.out.2.1; show w.heap.size ≤ g; omega) _).drew⟩⟩
      case measure => have := HL.out; simp [intOf]; omega
    · obtain rfl : i = n := by omega
      have hd : decide ((i : Int) < (i : Int)) = false := by simp
      have hy1 : ¬ Sa (w.heap.size + 1) := fun e => by
        have := (HSa.out _ e).1.1
        have := (Array.getElem?_eq_some_iff.1 HY.out).1
        omega
      obtain ⟨e0, e1, k0, k1⟩ := box2_facts ((HR.out.2.1 _ hy1).trans ((HXO.out.block _ (Array.getElem?_eq_some_iff.1 HY2.out).1).trans HY2.out))
      obtain ⟨hcl, hsz, hot, hBl⟩ := put2 (k := .slice A1 i q1) (l := .slice A2 n' q2) e0 e1
      obtain ⟨hc0, hc1⟩ := hcl
      have HOt := Lib.hid (And.intro hsz (And.intro hot hBl))
      clear hsz hot hBl f0 f1 hnb hy1
      go_wp2_with fail
      refine bodyPost_ret (v := .agg #[.slice A1 i q1, .slice A2 n' q2]) (by simp [results, Try.results27, go_sem, hc0, hc1]) rfl ?_
      have hyl := (Array.getElem?_eq_some_iff.1 HY.out).1
      have hWz : w2.heap.size ≤ wr.heap.size := by rw [← HR.out.1]; exact HXO.out.size
      refine ⟨_, _, rfl, ⟨Sa, Sn, ?_, ?_, fun g hg => ⟨⟨by have := (HSa.out g hg).1.1; omega, by rw [HOt.out.1]; have := (HSa.out g hg).1.2; omega⟩, (HSa.out g hg).2⟩, fun g hg => ⟨by have := (HSn.out g hg).1; omega, by rw [HOt.out.1]; have := (HSn.out g hg).2; omega⟩⟩, HOt.out.2.2 _ _ HR.out.2.2.2 (Nat.le_succ _)⟩
      · have k := HR.out.2.2.1.mono (w' := (wr.setCell ⟨w.heap.size + 1, 0, none⟩ (.slice A1 i q1)).setCell ⟨w.heap.size + 1, 1, none⟩ (.slice A2 n' q2)) (S' := Sa) (fun g hg => HOt.out.2.1 g (by have := (HSa.out g hg).1.1; omega)) (fun _ h => h)
        rw [HNn.out, turned_all] at k
        rw [HNn.out]
        exact k
      · exact HOn.out.mono (fun g hg => by
          have h1 := HSn.out g hg
          exact (HOt.out.2.1 g (by have := h1.1; omega)).trans ((HR.out.2.1 g (fun e => (HSa.out g e).2 hg)).trans (HXO.out.block g h1.2))) (fun _ h => h) (by rw [HOt.out.1]; exact hWz)
end Go.Proofs.Ythmfncklepkddaa

/-
  What spec.EqualDfa answers: whether two automata are the same, field by field.
  What slices.Equal answers over rows of ints and of bools, slices.EqualFunc over rows of rows of ints, and impl.EqualDfa.
-/
namespace Go.Proofs.Ythmfncklepkddaa
open Go.RowKit

theorem list_eq_of {α : Type} (x : α) {l l' : List α} (hl : l.length = l'.length) (h : ∀ i, i < l.length → l.getD i x = l'.getD i x) : l = l' := by
  apply List.ext_getElem hl
  intro i h1 h2
  have := h i h1
  rwa [getD_at h1, getD_at h2] at this

set_option maxRecDepth 100000 in
set_option maxHeartbeats 1600000 in
theorem specInts_any (v v' : Value) (l l' : List Int) (S S' : Nat → Prop) (w : World) (h : RowV w S v (ints l)) (h' : RowV w S' v' (ints l')) :
    Calls Try.prog 56 #[v, v'] w fun e w' => e = .returned (.bool (decide (l = l'))) ∧ Below w.heap.size w w' := by
  obtain ⟨hl, A, c, rfl⟩ := h.ints_shape
  obtain ⟨hl', A', c', rfl⟩ := h'.ints_shape
  have HE := Lib.hid (fun j (hj : j < l.length) => h.intD hj)
  have HE' := Lib.hid (fun j (hj : j < l'.length) => h'.intD hj)
  clear h h'
  by_cases hlen : l.length = l'.length
  · have HLen := Lib.hid hlen
    have HYes : Hid ((∀ i, i < l.length → l.getD i 0 = l'.getD i 0) → decide (l = l') = true) := Lib.hid (fun h => decide_eq_true (list_eq_of 0 HLen.out h))
    have HNo : Hid (∀ i, l.getD i 0 ≠ l'.getD i 0 → decide (l = l') = false) := Lib.hid (fun i h => decide_eq_false (fun e => h (by rw [e])))
    obtain ⟨b, hb⟩ : ∃ b, b = decide (l = l') := ⟨_, rfl⟩
    rw [← hb] at HYes HNo ⊢
    obtain ⟨n, hn⟩ : ∃ n, n = l.length := ⟨_, rfl⟩
    rw [← hlen] at HE' hl' ⊢
    rw [← hn] at HE HE' hl HYes ⊢
    have HR : Hid (∀ j, j < n → ∃ ad ad', A = some ad ∧ A' = some ad' ∧ w.cell? (ad.add j) = some (.int .i64 (l.getD j 0)) ∧ w.cell? (ad'.add j) = some (.int .i64 (l'.getD j 0))) := Lib.hid (fun j hj => by
      obtain ⟨ad, e, -, hc⟩ := HE.out j hj
      obtain ⟨ad', e', -, hc'⟩ := HE'.out j hj
      exact ⟨ad, ad', e, e', hc, hc'⟩)
    clear hb hn hlen HE HE'
    have hne : ((n : Int) != (n : Int)) = false := by simp
    go_enter Try.func56, Try.ntmps56
    go_wp2_with fail
    clear hne
    go_loopw [5] (fun i wr => ∃ j m : Nat, i = .int .i64 j ∧ j ≤ n ∧ wr = w.drewN m ∧ Hid (∀ i, i < j → l.getD i 0 = l'.getD i 0)) (fun i _ => n - (intOf i).toNat)
    case atStart => exact ⟨0, 0, rfl, Nat.zero_le _, rfl, Lib.hid (fun i hi => absurd hi (Nat.not_lt_zero _))⟩
    case round =>
      obtain ⟨j, m, rfl, hj, rfl, hall⟩ := hrel
      by_cases hlt : j < n
      · obtain ⟨ad, ad', rfl, rfl, hc1, hc2⟩ := HR.out j hlt
        obtain ⟨x, hx⟩ : ∃ x, x = l.getD j 0 := ⟨_, rfl⟩
        obtain ⟨x', hx'⟩ : ∃ x', x' = l'.getD j 0 := ⟨_, rfl⟩
        rw [← hx] at hc1
        rw [← hx'] at hc2
        by_cases hxx : x = x'
        · subst hxx
          have HX : Hid (l.getD j 0 = l'.getD j 0) := Lib.hid (by rw [← hx, ← hx'])
          have hne : (x != x) = false := by simp
          clear hx hx'
          go_wp2_with fail
          go_quiet (fail)
          all_goals go_wp2
          all_goals
            go_roundw
            case rel => exact ⟨j + 1, _, by go_num, by omega, rfl, Lib.hid (fun i hi => by
              by_cases e : i = j
              · rw [e]; exact HX.out
              · exact hall.out i (by omega))⟩
            case measure => simp [intOf]; omega
        · have hne : (x != x') = true := by simpa using hxx
          have HF : Hid (b = false) := Lib.hid (HNo.out j (by rw [← hx, ← hx']; exact hxx))
          clear hx hx' hxx
          go_wp2_with fail
          go_quiet (fail)
          all_goals go_wp2
          all_goals
            go_ret
            exact ⟨congrArg (fun b : Bool => Ending.returned (.bool b)) HF.out.symm, below_draws (below_draws (Below.refl _ _) _) _⟩
      · obtain rfl : j = n := by omega
        have HF : Hid (b = true) := Lib.hid (HYes.out hall.out)
        go_wp2_with fail
        go_ret
        exact ⟨congrArg (fun b : Bool => Ending.returned (.bool b)) HF.out.symm, below_draws (Below.refl _ _) m⟩
  · have HF : Hid (decide (l = l') = false) := Lib.hid (decide_eq_false (fun e => hlen (by rw [e])))
    have hne : ((l.length : Int) != (l'.length : Int)) = true := by simp; omega
    clear hlen
    go_enter Try.func56, Try.ntmps56
    go_wp2_with fail
    go_ret
    exact ⟨congrArg (fun b : Bool => Ending.returned (.bool b)) HF.out.symm, Below.refl _ _⟩
theorem bool_ne {x y : Bool} (h : ¬ x = y) : (x = true ∧ y = false) ∨ (x = false ∧ y = true) := by cases x <;> cases y <;> simp at h ⊢
end Go.Proofs.Ythmfncklepkddaa

/-
  What spec.EqualDfa answers.
-/
namespace Go.Proofs.Ythmfncklepkddaa
open Go.RowKit

def sameD (d d' : Dx) : Bool := decide (d.acc = d'.acc ∧ d.nxt = d'.nxt)
theorem sameD_refl (d : Dx) : sameD d d = true := by simp [sameD]

set_option maxRecDepth 100000 in
set_option maxHeartbeats 3200000 in
theorem specEqD_any (va vn va' vn' : Value) (d d' : Dx) (S S' : Nat → Prop) (w : World) (h : DfaV w S va vn d) (h' : DfaV w S' va' vn' d') :
    Calls Try.prog 17 #[.agg #[va, vn], .agg #[va', vn']] w fun e w' => e = .returned (.bool (sameD d d')) ∧ Below w.heap.size w w' := by
  obtain ⟨⟨A, c, rfl⟩, A', c', rfl⟩ := h.shape
  obtain ⟨⟨B, e, rfl⟩, B', e', rfl⟩ := h'.shape
  obtain ⟨W0, hW0⟩ : ∃ W0, W0 = (w.alloc (.cells #[.slice A d.acc.length c, .slice A' d.nxt.length c'] 27)).alloc (.cells #[.slice B d'.acc.length e, .slice B' d'.nxt.length e'] 27) := ⟨_, rfl⟩
  have HB0 : Hid (Below w.heap.size w W0) := Lib.hid (by rw [hW0]; exact ((Below.refl _ _).alloc (Nat.le_refl _) _).alloc (by simp) _)
  have HX : Hid (Bx2 W0 w.heap.size (.slice A d.acc.length c) (.slice A' d.nxt.length c') ∧ Bx2 W0 (w.heap.size + 1) (.slice B d'.acc.length e) (.slice B' d'.nxt.length e')) := Lib.hid (by
    have k := box2_kept (w := w) (w1 := W0) (a := .slice A d.acc.length c) (b := .slice A' d.nxt.length c') (t := 27) (by rw [hW0]; exact (Below.refl _ _).alloc (by simp) _)
    have k' := box2_kept (w := w.alloc (.cells #[.slice A d.acc.length c, .slice A' d.nxt.length c'] 27)) (w1 := W0) (a := .slice B d'.acc.length e) (b := .slice B' d'.nxt.length e') (t := 27) (by rw [hW0]; exact Below.refl _ _)
    rw [World.size_alloc] at k'
    exact ⟨⟨k.2.1, k.2.2.1⟩, k'.2.1, k'.2.2.1⟩)
  have ha := h.1.kept HB0.out
  have ha' := h'.1.kept HB0.out
  have hr := h.2.kept HB0.out
  have hr' := h'.2.kept HB0.out
  have hl1 := h.1.1
  have hl2 := h.2.shape.1
  rw [bools_length] at hl1
  rw [intss_length] at hl2
  clear h h'
  by_cases hn : d.acc.length = d'.acc.length
  · by_cases hm : d.nxt.length = d'.nxt.length
    · have HYes : Hid ((∀ i, i < d.acc.length → d.acc.getD i false = d'.acc.getD i false) → (∀ i, i < d.nxt.length → d.nxt.getD i [] = d'.nxt.getD i []) → sameD d d' = true) := Lib.hid (fun h1 h2 => decide_eq_true ⟨list_eq_of false hn h1, list_eq_of [] hm h2⟩)
      have HNo1 : Hid (∀ i, d.acc.getD i false ≠ d'.acc.getD i false → sameD d d' = false) := Lib.hid (fun i h => decide_eq_false (fun e => h (by rw [e.1])))
      have HNo2 : Hid (∀ i, d.nxt.getD i [] ≠ d'.nxt.getD i [] → sameD d d' = false) := Lib.hid (fun i h => decide_eq_false (fun e => h (by rw [e.2])))
      obtain ⟨b, hb⟩ : ∃ b, b = sameD d d' := ⟨_, rfl⟩
      rw [← hb] at HYes HNo1 HNo2 ⊢
      obtain ⟨n, hne⟩ : ∃ n, n = d.acc.length := ⟨_, rfl⟩
      obtain ⟨m, hme⟩ : ∃ m, m = d.nxt.length := ⟨_, rfl⟩
      have HA : Hid (∀ j, j < n → ∃ ad ad', A = some ad ∧ B = some ad' ∧ W0.cell? (ad.add j) = some (.bool (d.acc.getD j false)) ∧ W0.cell? (ad'.add j) = some (.bool (d'.acc.getD j false))) := Lib.hid (fun j hj => by
        obtain ⟨ad, e1, -, hc⟩ := ha.boolD (j := j) (by omega)
        obtain ⟨ad', e2, -, hc'⟩ := ha'.boolD (j := j) (by omega)
        exact ⟨ad, ad', e1, e2, hc, hc'⟩)
      have HR : Hid (∀ j, j < m → ∃ ad ad' u u', A' = some ad ∧ B' = some ad' ∧ W0.cell? (ad.add j) = some u ∧ W0.cell? (ad'.add j) = some u' ∧ RowV W0 S u (ints (d.nxt.getD j [])) ∧ RowV W0 S' u' (ints (d'.nxt.getD j []))) := Lib.hid (fun j hj => by
        obtain ⟨ad, u, e1, -, hc, h1⟩ := hr.atD (j := j) (by omega)
        obtain ⟨ad', u', e2, -, hc', h2⟩ := hr'.atD (j := j) (by omega)
        exact ⟨ad, ad', u, u', e1, e2, hc, hc', h1, h2⟩)
      rw [← hn, ← hm] at HX hW0
      rw [← hne] at HX hW0 HYes hl1
      rw [← hme] at HX hW0 HYes hl2
      rw [← hn, ← hm, ← hne, ← hme]
      clear ha ha' hr hr' hb hn hm hne hme
      have hn1 : ((n : Int) != (n : Int)) = false := by simp
      have hm1 : ((m : Int) != (m : Int)) = false := by simp
      have hcc0 := HX.out.1
      have hcc1 := HX.out.2
      obtain ⟨c0, c1⟩ := hcc0
      obtain ⟨d0, d1⟩ := hcc1
      rw [hW0] at c0 c1 d0 d1
      go_enter Try.func17, Try.ntmps17
      go_wp2_with fail
      rw [← hW0]
      clear hW0 c0 c1 d0 d1 hn1 hm1
      go_loopw [5] (fun i wr => ∃ j : Nat, i = .int .i64 j ∧ j ≤ n ∧ Below W0.heap.size W0 wr ∧ Hid (∀ i, i < j → d.acc.getD i false = d'.acc.getD i false)) (fun i _ => n - (intOf i).toNat)
      case atStart => exact ⟨0, rfl, Nat.zero_le _, Below.refl _ _, Lib.hid (fun i hi => absurd hi (Nat.not_lt_zero _))⟩
      case round =>
        obtain ⟨j, rfl, hj, hb, hall⟩ := hrel
        have HBr := Lib.hid hb
        clear hb
        obtain ⟨c0, c1⟩ := HX.out.1.kept HBr.out
        obtain ⟨d0, d1⟩ := HX.out.2.kept HBr.out
        by_cases hlt : j < n
        · obtain ⟨ad, ad', rfl, rfl, hc1, hc2⟩ := HA.out j hlt
          obtain ⟨x, hx⟩ : ∃ x, x = d.acc.getD j false := ⟨_, rfl⟩
          obtain ⟨x', hx'⟩ : ∃ x', x' = d'.acc.getD j false := ⟨_, rfl⟩
          rw [← hx] at hc1
          rw [← hx'] at hc2
          have g1 := (HBr.out.cell (cell_in hc1)).trans hc1
          have g2 := (HBr.out.cell (cell_in hc2)).trans hc2
          clear hc1 hc2
          by_cases hxx : x = x'
          · subst hxx
            have HX2 : Hid (d.acc.getD j false = d'.acc.getD j false) := Lib.hid (by rw [← hx, ← hx'])
            have hne : (x != x) = false := by simp
            clear hx hx'
            go_wp2_with fail
            go_quiet (fail)
            all_goals go_wp2
            all_goals
              go_roundw
              case rel => exact ⟨j + 1, by go_num, by omega, below_draws HBr.out _, Lib.hid (fun i hi => by
                by_cases e : i = j
                · rw [e]; exact HX2.out
                · exact hall.out i (by omega))⟩
              case measure => simp [intOf]; omega
          · have HF : Hid (b = false) := Lib.hid (HNo1.out j (by rw [← hx, ← hx']; exact hxx))
            clear hx hx'
            rcases bool_ne hxx with ⟨rfl, rfl⟩ | ⟨rfl, rfl⟩
            all_goals
              clear hxx
              go_wp2_with fail
              go_quiet (fail)
              go_wp2
              go_ret
              exact ⟨congrArg (fun b : Bool => Ending.returned (.bool b)) HF.out.symm, HB0.out.trans ((below_draws HBr.out _).mono HB0.out.size)⟩
        · obtain rfl : j = n := by omega
          have HAll := Lib.hid hall.out
          clear hall
          go_wp2_with fail
          clear c0 c1 d0 d1
          go_loopw [6] (fun i wr' => ∃ k : Nat, i = .int .i64 k ∧ k ≤ m ∧ Below W0.heap.size W0 wr' ∧ Hid (∀ i, i < k → d.nxt.getD i [] = d'.nxt.getD i [])) (fun i _ => m - (intOf i).toNat)
          case atStart => exact ⟨0, rfl, Nat.zero_le _, HBr.out, Lib.hid (fun i hi => absurd hi (Nat.not_lt_zero _))⟩
          case round =>
            obtain ⟨k, rfl, hk, hb, hall⟩ := hrel
            have HBr := Lib.hid hb
            clear hb
            obtain ⟨c0, c1⟩ := HX.out.1.kept HBr.out
            obtain ⟨d0, d1⟩ := HX.out.2.kept HBr.out
            by_cases hlk : k < m
            · obtain ⟨ad, ad', u, u', rfl, rfl, hc1, hc2, hr1, hr2⟩ := HR.out k hlk
              have HC := Lib.hid (fun (V : World) (hV : Below W0.heap.size W0 V) => specInts_any u u' (d.nxt.getD k []) (d'.nxt.getD k []) S S' V (hr1.kept hV) (hr2.kept hV))
              have hbw : Below W0.heap.size W0 wr := HBr.out
              have HK := Lib.hid (fun (V : World) (hV : Below W0.heap.size W0 V) => (⟨(HX.out.1.kept hV).2, (HX.out.2.kept hV).2, (hV.cell (cell_in hc1)).trans hc1, (hV.cell (cell_in hc2)).trans hc2⟩ :
                V.cell? ⟨w.heap.size, 1, none⟩ = some (.slice (some ad) m c') ∧ V.cell? ⟨w.heap.size + 1, 1, none⟩ = some (.slice (some ad') m e') ∧ V.cell? (ad.add k) = some u ∧ V.cell? (ad'.add k) = some u'))
              obtain ⟨bb, hbb⟩ : ∃ bb, bb = decide (d.nxt.getD k [] = d'.nxt.getD k []) := ⟨_, rfl⟩
              rw [← hbb] at HC
              have HBB := Lib.hid hbb
              have s4 : (k : Int) < (m : Int) := by omega
              have s8 : (0 : Int) ≤ (k : Int) := by omega
              clear hbb hr1 hr2 hc1 hc2
              go_wp2_with fail
              clear c0 c1 d0 d1
              go_region_held3 (fun V => V.cell? ⟨w.heap.size, 1, none⟩ = some (.slice (some ad) m c') ∧ V.cell? ⟨w.heap.size + 1, 1, none⟩ = some (.slice (some ad') m e') ∧ V.cell? (ad.add k) = some u ∧ V.cell? (ad'.add k) = some u') (first | exact HK.out _ hbw.drew | exact HK.out _ hbw) (first | (go_at_call 56; (with_reducible refine (HC.out _ hbw.drew).mono ?_); rintro e w3 ⟨rfl, hb3⟩; have hbw := hbw.drew.trans (hb3.mono hbw.drew.size)))
              have HB3 := Lib.hid hbw
              clear hbw hb3
              cases bb with
              | true =>
                have HX2 : Hid (d.nxt.getD k [] = d'.nxt.getD k []) := Lib.hid (of_decide_eq_true HBB.out.symm)
                go_wp2_with fail
                go_roundw
                case rel => exact ⟨k + 1, by go_num, by omega, HB3.out, Lib.hid (fun i hi => by
                  by_cases e : i = k
                  · rw [e]; exact HX2.out
                  · exact hall.out i (by omega))⟩
                case measure => simp [intOf]; omega
              | false =>
                have HF : Hid (b = false) := Lib.hid (HNo2.out k (of_decide_eq_false HBB.out.symm))
                go_wp2_with fail
                go_ret
                exact ⟨congrArg (fun b : Bool => Ending.returned (.bool b)) HF.out.symm, HB0.out.trans (HB3.out.mono HB0.out.size)⟩
            · obtain rfl : k = m := by omega
              have HF : Hid (b = true) := Lib.hid (HYes.out HAll.out hall.out)
              go_wp2_with fail
              go_ret
              exact ⟨congrArg (fun b : Bool => Ending.returned (.bool b)) HF.out.symm, HB0.out.trans (HBr.out.mono HB0.out.size)⟩
    · have HF : Hid (sameD d d' = false) := Lib.hid (decide_eq_false (fun e => hm (by rw [e.2])))
      obtain ⟨n, hne⟩ : ∃ n, n = d.acc.length := ⟨_, rfl⟩
      rw [← hn] at HX hW0 ⊢
      rw [← hne] at HX hW0 ⊢ hl1
      have hn1 : ((n : Int) != (n : Int)) = false := by simp
      have hm1 : ((d.nxt.length : Int) != (d'.nxt.length : Int)) = true := by simp; omega
      obtain ⟨⟨c0, c1⟩, d0, d1⟩ := HX.out
      rw [hW0] at c0 c1 d0 d1
      clear ha ha' hr hr' hn hm hne
      go_enter Try.func17, Try.ntmps17
      go_wp2_with fail
      rw [← hW0]
      go_ret
      exact ⟨congrArg (fun b : Bool => Ending.returned (.bool b)) HF.out.symm, HB0.out⟩
  · have HF : Hid (sameD d d' = false) := Lib.hid (decide_eq_false (fun e => hn (by rw [e.1])))
    have hn1 : ((d.acc.length : Int) != (d'.acc.length : Int)) = true := by simp; omega
    obtain ⟨⟨c0, c1⟩, d0, d1⟩ := HX.out
    rw [hW0] at c0 c1 d0 d1
    clear ha ha' hr hr' hn
    go_enter Try.func17, Try.ntmps17
    go_wp2_with fail
    rw [← hW0]
    go_ret
    exact ⟨congrArg (fun b : Bool => Ending.returned (.bool b)) HF.out.symm, HB0.out⟩
end Go.Proofs.Ythmfncklepkddaa

/-
  What impl.LetterIndex answers at every byte: the letter's place, or -1; the world is as it was.
-/
namespace Go.Proofs.Ythmfncklepkddaa
open Go.RowKit

theorem implLet_any (b : UInt8) (w : World) :
    Calls Try.prog 75 #[.int .u8 b.toNat] w fun e w' => e = .returned (.int .i64 (letIdx b)) ∧ w = w' := by
  have HL := Lib.hid (letIdx_lib b)
  go_enter Try.func75, Try.ntmps75
  go_wp2_with (go_at_call 104; refine (Try.strings_IndexByte _ _ _).mono ?_; rintro e w' ⟨rfl, rfl⟩)
  go_ret
  have hc : ((b.toNat : Int)).toNat.toUInt8 = b := by simp
  refine ⟨?_, rfl⟩
  rw [← HL.out]
  simp

end Go.Proofs.Ythmfncklepkddaa

/-
  What impl.IsWord answers at every string: whether it is a word of at most 30 letters; the world is as it was.
-/
namespace Go.Proofs.Ythmfncklepkddaa
open Go.RowKit

set_option maxHeartbeats 400000 in
theorem implIsWord_any (s : ByteArray) (w : World) (hs : s.size ≤ maxLen) :
    Calls Try.prog 74 #[.string s] w fun e w' => e = .returned (.bool (isW s.data.toList)) ∧ w = w' := by
  unfold maxLen at hs
  by_cases h30 : 30 < s.size
  · have HN := Lib.hid (isW_long h30)
    go_enter Try.func74, Try.ntmps74
    go_wp2
    go_ret
    exact ⟨congrArg (fun z => Ending.returned (.bool z)) HN.out.symm, rfl⟩
  · go_enter Try.func74, Try.ntmps74
    go_wp2
    go_loop [9] (fun i => ∃ k : Nat, i = .int .i64 k ∧ k ≤ s.size ∧ (s.data.toList.take k).all isLetter = true) (fun i => s.size - (intOf i).toNat)
    case atStart => exact ⟨0, rfl, Nat.zero_le _, rfl⟩
    case round =>
      obtain ⟨k, rfl, hk, hall⟩ := hrel
      have HA := Lib.hid hall
      clear hall
      by_cases hlt : k < s.size
      · cases hb : isLetter s[k] with
        | true =>
          have HN := Lib.hid (show (s.data.toList.take (k + 1)).all isLetter = true by rw [all_take_succ s k hlt, HA.out, hb]; rfl)
          obtain ⟨hl, h97, h99⟩ := letIdx_yes hb
          have hl0 : 0 ≤ letIdx s[k] := by omega
          clear hl hb
          go_wp2_with (go_at_call 75; refine (implLet_any _ _).mono ?_; rintro e w' ⟨rfl, rfl⟩)
          go_round
          case rel => exact ⟨k + 1, by go_num, by omega, HN.out⟩
          case measure => simp [intOf]; omega
        | false =>
          have HN := Lib.hid (isW_bad hlt hb)
          have hl := letIdx_no hb
          have hl0 : letIdx s[k] < 0 := by omega
          clear hl hb
          go_wp2_with (go_at_call 75; refine (implLet_any _ _).mono ?_; rintro e w' ⟨rfl, rfl⟩)
          go_ret
          exact ⟨congrArg (fun z => Ending.returned (.bool z)) HN.out.symm, rfl⟩
      · obtain rfl : k = s.size := by omega
        have HN := Lib.hid (isW_all HA.out)
        have hd : decide ((s.size : Int) ≤ 30) = true := by simp; omega
        have HN2 := Lib.hid (HN.out.trans hd)
        clear hd
        go_wp2
        go_ret
        exact ⟨congrArg (fun z => Ending.returned (.bool z)) HN2.out.symm, rfl⟩
end Go.Proofs.Ythmfncklepkddaa

/-
  What impl.RunDfa and impl.AcceptsWord answer.
-/
namespace Go.Proofs.Ythmfncklepkddaa
open Go.RowKit

set_option maxRecDepth 100000 in
set_option maxHeartbeats 1600000 in
theorem implRun_yes (va vn : Value) (d : Dx) (S : Nat → Prop) (q0 : Int) (s : ByteArray) (w : World) (h : DfaV w S va vn d) (hv : validD d = true) (hq0 : 0 ≤ q0) (hq1 : q0 ≤ (d.acc.length : Int) - 1) (hs : isW s.data.toList = true) :
    Calls Try.prog 31 #[.agg #[va, vn], .int .i64 q0, .string s] w fun e w' => e = .returned (.tuple #[.int .i64 (((auD d).run q0.toNat (idxs s.data.toList) : Nat) : Int), .bool true]) ∧ Below w.heap.size w w' := by
  obtain ⟨hw, hn, hnn, hl, ad, c, ad', c', rfl, rfl, hA, hT⟩ := h.au hv
  have hz : s.size ≤ 30 := by
    have h := hs
    unfold isW at h
    simp only [Bool.and_eq_true, decide_eq_true_eq] at h
    simpa using h.2
  have hall : s.data.toList.all isLetter = true := by
    unfold isW at hs
    simp only [Bool.and_eq_true] at hs
    exact hs.1
  obtain ⟨W0, hW0⟩ : ∃ W0, W0 = w.alloc (.cells #[.slice (some ad) d.acc.length c, .slice (some ad') d.acc.length c'] 27) := ⟨_, rfl⟩
  have HB0 : Hid (Below w.heap.size w W0) := Lib.hid (by rw [hW0]; exact (Below.refl _ _).alloc (Nat.le_refl _) _)
  have HX : Hid (Bx2 W0 w.heap.size (.slice (some ad) d.acc.length c) (.slice (some ad') d.acc.length c')) := Lib.hid (by
    have k := box2_kept (w := w) (w1 := W0) (a := .slice (some ad) d.acc.length c) (b := .slice (some ad') d.acc.length c') (t := 27) (by rw [hW0]; exact Below.refl _ _)
    exact ⟨k.2.1, k.2.2.1⟩)
  have HV := Lib.hid (fun (V : World) (hV : Below w.heap.size w V) => implValidD_any _ _ d S V (h.kept hV))
  rw [hv] at HV
  have HI := Lib.hid (fun w => implIsWord_any s w (by unfold maxLen; omega))
  rw [hs] at HI
  obtain ⟨n, hne⟩ : ∃ n, n = d.acc.length := ⟨_, rfl⟩
  obtain ⟨q, rfl⟩ : ∃ q : Nat, q0 = q := ⟨q0.toNat, by omega⟩
  have HT : Hid (∀ p, p < n → ∃ ad2 c2, w.cell? (ad'.add p) = some (.slice (some ad2) 3 c2) ∧ ∀ k, k < 3 → w.cell? (ad2.add k) = some (.int .i64 (((auD d).T p k : Nat) : Int))) := Lib.hid (by rw [hne]; exact hT)
  have HW := Lib.hid hw
  have HALL := Lib.hid hall
  rw [← hne] at hW0 HX HV ⊢ hnn hq1
  have hn40 : n ≤ 40 := by omega
  have HN := Lib.hid hnn
  clear h hv hs hl hA hT hw hn hall hne hnn
  go_enter Try.func31, Try.ntmps31
  go_wp2_with fail
  rw [← hW0]
  go_at_call 28
  refine (HV.out W0 HB0.out).mono ?_
  rintro e w1 ⟨rfl, hb1⟩
  have HB1 := Lib.hid (HB0.out.trans (hb1.mono HB0.out.size))
  obtain ⟨c0, c1⟩ := HX.out.kept hb1
  have HX1 := Lib.hid (HX.out.kept hb1)
  clear hb1 hW0
  have t0 : decide ((q : Int) < 0) = false := by simp
  have t1 : decide (n ≤ q) = false := by simp; omega
  go_wp2_with (go_at_call 74; refine (HI.out _).mono ?_; rintro e w' ⟨rfl, rfl⟩)
  clear t0 t1
  go_loopw [8, 32] (fun y i wr => ∃ k p : Nat, i = .int .i64 k ∧ y = .int .i64 (p : Int) ∧ k ≤ s.size ∧ p < n ∧ Hid (p = (auD d).run q (idxs (s.data.toList.take k))) ∧ Below w1.heap.size w1 wr) (fun _ i _ => s.size - (intOf i).toNat)
  case atStart => exact ⟨0, q, rfl, rfl, Nat.zero_le _, by omega, Lib.hid rfl, Below.refl _ _⟩
  case round =>
    obtain ⟨k, p, rfl, rfl, hk, hp, hpe, hb⟩ := hrel
    have HBr := Lib.hid hb
    clear hb c0 c1
    by_cases hlt : k < s.size
    · have hlet : isLetter s[k] = true := by
        have := List.all_eq_true.1 HALL.out s[k] (List.mem_iff_getElem.2 ⟨k, by simpa using hlt, rfl⟩)
        exact this
      obtain ⟨hl, h97, h99⟩ := letIdx_yes hlet
      obtain ⟨y, hy⟩ : ∃ y, y = letIdx s[k] := ⟨_, rfl⟩
      have hy0 : 0 ≤ y := by omega
      have hy3 : y < 3 := by omega
      obtain ⟨ad2, c2, hrow, hel⟩ := HT.out p hp
      have hel := hel y.toNat (by omega)
      obtain ⟨p2, hp2⟩ : ∃ p2, p2 = (auD d).T p y.toNat := ⟨_, rfl⟩
      rw [← hp2] at hel
      have HP2 : Hid (p2 < n ∧ p2 = (auD d).run q (idxs (s.data.toList.take (k + 1)))) := Lib.hid (by
        refine ⟨?_, ?_⟩
        · rw [hp2, ← HN.out]
          exact HW.out.2 p _ (by rw [HN.out]; exact hp) (by omega)
        · rw [List.take_succ_eq_append_getElem (by simpa using hlt)]
          unfold idxs
          rw [List.map_append, List.map_cons, List.map_nil, run_snoc]
          rw [hp2, hpe.out, hy]
          rfl)
      have HC := Lib.hid (fun V => implLet_any s[k] V)
      rw [← hy] at HC
      have HK := Lib.hid (fun (V : World) (hV : Below wr.heap.size wr V) => (⟨((HX1.out.kept HBr.out).kept hV).2, (HB1.out.trans ((HBr.out.trans (hV.mono HBr.out.size)).mono HB1.out.size)).cell (cell_in hrow) |>.trans hrow, (HB1.out.trans ((HBr.out.trans (hV.mono HBr.out.size)).mono HB1.out.size)).cell (cell_in hel) |>.trans hel⟩ :
        V.cell? ⟨w.heap.size, 1, none⟩ = some (.slice (some ad') n c') ∧ V.cell? (ad'.add p) = some (.slice (some ad2) 3 c2) ∧ V.cell? (ad2.add y.toNat) = some (.int .i64 (p2 : Int))))
      have hbw : Below wr.heap.size wr wr := Below.refl _ _
      have s4 : (p : Int) < (n : Int) := by omega
      have s8 : (0 : Int) ≤ (p : Int) := by omega
      have s9 : (0 : Int) ≤ (k : Int) := by omega
      have s10 : (k : Int) < (s.size : Int) := by omega
      clear hrow hel hy hl hlet h97 h99 hp2
      go_wp2_with fail
      go_region_held3 (fun V => V.cell? ⟨w.heap.size, 1, none⟩ = some (.slice (some ad') n c') ∧ V.cell? (ad'.add p) = some (.slice (some ad2) 3 c2) ∧ V.cell? (ad2.add y.toNat) = some (.int .i64 (p2 : Int))) (first | exact HK.out _ hbw.drew | exact HK.out _ hbw) (first | (go_at_call 75; (with_reducible refine (HC.out _).mono ?_); rintro e w3 ⟨rfl, rfl⟩))
      have HB3 := Lib.hid (HBr.out.trans (hbw.drew.mono HBr.out.size))
      clear hbw
      go_wp2_with fail
      go_roundw
      case rel => exact ⟨k + 1, p2, by go_num, rfl, by omega, HP2.out.1, Lib.hid HP2.out.2, HB3.out⟩
      case measure => simp [intOf]; omega
    · obtain rfl : k = s.size := by omega
      have HR : Hid (p = (auD d).run q (idxs s.data.toList)) := Lib.hid (by rw [hpe.out, List.take_of_length_le (by simp)])
      go_wp2_with fail
      go_ret2
      exact ⟨congrArg (fun z : Nat => Ending.returned (.tuple #[.int .i64 (z : Int), .bool true])) HR.out, HB1.out.trans (HBr.out.mono HB1.out.size)⟩

set_option maxRecDepth 100000 in
set_option maxHeartbeats 1600000 in
theorem implRun_no (va vn : Value) (d : Dx) (S : Nat → Prop) (q0 : Int) (s : ByteArray) (w : World) (h : DfaV w S va vn d) (hss : s.size ≤ 9223372036854775807) (hno : runOk d q0 s.data.toList = false) :
    Calls Try.prog 31 #[.agg #[va, vn], .int .i64 q0, .string s] w fun e w' => e = .returned (.tuple #[.int .i64 0, .bool false]) ∧ Below w.heap.size w w' := by
  obtain ⟨⟨A, c, rfl⟩, A', c', rfl⟩ := h.shape
  have hln := h.1.1
  rw [bools_length] at hln
  obtain ⟨W0, hW0⟩ : ∃ W0, W0 = w.alloc (.cells #[.slice A d.acc.length c, .slice A' d.nxt.length c'] 27) := ⟨_, rfl⟩
  have HB0 : Hid (Below w.heap.size w W0) := Lib.hid (by rw [hW0]; exact (Below.refl _ _).alloc (Nat.le_refl _) _)
  have HX : Hid (Bx2 W0 w.heap.size (.slice A d.acc.length c) (.slice A' d.nxt.length c')) := Lib.hid (by
    have k := box2_kept (w := w) (w1 := W0) (a := .slice A d.acc.length c) (b := .slice A' d.nxt.length c') (t := 27) (by rw [hW0]; exact Below.refl _ _)
    exact ⟨k.2.1, k.2.2.1⟩)
  have HV := Lib.hid (fun (V : World) (hV : Below w.heap.size w V) => implValidD_any _ _ d S V (h.kept hV))
  have HI := Lib.hid (fun w => implIsWord_any s w (by unfold maxLen; omega))
  obtain ⟨n, hne⟩ : ∃ n, n = d.acc.length := ⟨_, rfl⟩
  obtain ⟨m, hme⟩ : ∃ m, m = d.nxt.length := ⟨_, rfl⟩
  rw [← hne] at hW0 HX HV hln
  rw [← hme] at hW0 HX HV
  rw [← hne, ← hme]
  have hno' : (validD d && decide (0 ≤ q0) && decide (q0 ≤ (n : Int) - 1) && isW s.data.toList) = false := by rw [hne]; exact hno
  clear h hne hme hno
  cases hv : validD d with
  | false =>
    rw [hv] at HV
    clear hv hno'
    go_enter Try.func31, Try.ntmps31
    go_wp2_with fail
    rw [← hW0]
    go_at_call 28
    refine (HV.out W0 HB0.out).mono ?_
    rintro e w1 ⟨rfl, hb1⟩
    have HB1 := Lib.hid (HB0.out.trans (hb1.mono HB0.out.size))
    clear hb1 hW0
    go_wp2_with fail
    go_ret2
    exact ⟨rfl, HB1.out⟩
  | true =>
    rw [hv] at HV hno'
    rw [Bool.true_and] at hno'
    clear hv
    by_cases hin : 0 ≤ q0 ∧ q0 ≤ (n : Int) - 1
    · have hw : isW s.data.toList = false := by simpa [hin.1, hin.2] using hno'
      rw [hw] at HI
      have t0 : ¬ q0 < 0 := by omega
      have t1 : ¬ (n : Int) ≤ q0 := by omega
      clear hno' hw hin
      go_enter Try.func31, Try.ntmps31
      go_wp2_with fail
      rw [← hW0]
      go_at_call 28
      refine (HV.out W0 HB0.out).mono ?_
      rintro e w1 ⟨rfl, hb1⟩
      have HB1 := Lib.hid (HB0.out.trans (hb1.mono HB0.out.size))
      obtain ⟨c0, c1⟩ := HX.out.kept hb1
      clear hb1 hW0
      go_wp2_with (go_at_call 74; refine (HI.out _).mono ?_; rintro e w' ⟨rfl, rfl⟩)
      go_ret2
      exact ⟨rfl, HB1.out⟩
    · by_cases t0 : q0 < 0
      all_goals
        have t1 : q0 < 0 ∨ (n : Int) ≤ q0 := by omega
        try (replace t1 : (n : Int) ≤ q0 := by omega)
        clear hno' hin
        go_enter Try.func31, Try.ntmps31
        go_wp2_with fail
        rw [← hW0]
        go_at_call 28
        refine (HV.out W0 HB0.out).mono ?_
        rintro e w1 ⟨rfl, hb1⟩
        have HB1 := Lib.hid (HB0.out.trans (hb1.mono HB0.out.size))
        obtain ⟨c0, c1⟩ := HX.out.kept hb1
        clear hb1 hW0
        go_wp2_with fail
        go_ret2
        exact ⟨rfl, HB1.out⟩

/-- What RunDfa answers. -/
theorem implRun_any (va vn : Value) (d : Dx) (S : Nat → Prop) (q0 : Int) (s : ByteArray) (w : World) (h : DfaV w S va vn d) (hss : s.size ≤ 9223372036854775807) :
    Calls Try.prog 31 #[.agg #[va, vn], .int .i64 q0, .string s] w fun e w' => e = .returned (.tuple #[.int .i64 (runV d q0 s.data.toList), .bool (runOk d q0 s.data.toList)]) ∧ Below w.heap.size w w' := by
  unfold runV
  cases hok : runOk d q0 s.data.toList with
  | false => exact implRun_no va vn d S q0 s w h hss hok
  | true =>
    unfold runOk at hok
    simp only [Bool.and_eq_true, decide_eq_true_eq] at hok
    exact implRun_yes va vn d S q0 s w h hok.1.1.1 hok.1.1.2 hok.1.2 hok.2

set_option maxRecDepth 100000 in
set_option maxHeartbeats 1600000 in
theorem implAcc_any (va vn : Value) (d : Dx) (S : Nat → Prop) (s : ByteArray) (w : World) (h : DfaV w S va vn d) (hss : s.size ≤ 9223372036854775807) :
    Calls Try.prog 19 #[.agg #[va, vn], .string s] w fun e w' => e = .returned (.bool (accR d s.data.toList)) ∧ Below w.heap.size w w' := by
  have HR := Lib.hid (fun (V : World) (hV : Below w.heap.size w V) => implRun_any va vn d S 0 s V (h.kept hV) hss)
  obtain ⟨W0, hW0⟩ : ∃ W0, W0 = w.alloc (.cells #[va, vn] 27) := ⟨_, rfl⟩
  have HB0 : Hid (Below w.heap.size w W0) := Lib.hid (by rw [hW0]; exact (Below.refl _ _).alloc (Nat.le_refl _) _)
  have HX : Hid (Bx2 W0 w.heap.size va vn) := Lib.hid (by
    have k := box2_kept (w := w) (w1 := W0) (a := va) (b := vn) (t := 27) (by rw [hW0]; exact Below.refl _ _)
    exact ⟨k.2.1, k.2.2.1⟩)
  obtain ⟨⟨A, c, hva⟩, A', c', hvn⟩ := h.shape
  subst hva
  subst hvn
  cases hok : runOk d 0 s.data.toList with
  | false =>
    have HF : Hid (accR d s.data.toList = false) := Lib.hid (by simp [accR, hok])
    unfold runV at HR
    rw [hok] at HR
    clear h hok
    go_enter Try.func19, Try.ntmps19
    go_wp2_with fail
    rw [← hW0]
    go_at_call 31
    refine (HR.out W0 HB0.out).mono ?_
    rintro e w1 ⟨rfl, hb1⟩
    have HB1 := Lib.hid (HB0.out.trans (hb1.mono HB0.out.size))
    clear hb1 hW0
    go_wp2_with fail
    go_ret
    exact ⟨congrArg (fun b : Bool => Ending.returned (.bool b)) HF.out.symm, HB1.out⟩
  | true =>
    have hok2 := hok
    unfold runOk at hok2
    simp only [Bool.and_eq_true, decide_eq_true_eq] at hok2
    obtain ⟨hw, hn, hnn, hl, ad, cc, ad', cc', e1, e2, hA, hT⟩ := h.au hok2.1.1.1
    cases e1
    clear e2
    have hall : s.data.toList.all isLetter = true := by
      have h := hok2.2
      unfold isW at h
      simp only [Bool.and_eq_true] at h
      exact h.1
    obtain ⟨p, hp⟩ : ∃ p, p = (auD d).run 0 (idxs s.data.toList) := ⟨_, rfl⟩
    have hpl : p < d.acc.length := by rw [hp, ← hnn]; exact Au.run_lt hw _ _ (idxs_W3 hall) hw.1
    have hc := hA p hpl
    obtain ⟨b, hb⟩ : ∃ b, b = (auD d).A p := ⟨_, rfl⟩
    rw [← hb] at hc
    have HF : Hid (accR d s.data.toList = b) := Lib.hid (by rw [accR, hok, Bool.true_and, hb, hp])
    unfold runV at HR
    rw [hok] at HR
    simp only [if_true, Int.toNat_zero] at HR
    rw [← hp] at HR
    obtain ⟨n, hne⟩ : ∃ n, n = d.acc.length := ⟨_, rfl⟩
    rw [← hne] at hW0 HX HR hpl
    rw [← hne]
    have s4 : (p : Int) < (n : Int) := by omega
    have HC := Lib.hid (fun (V : World) (hV : Below w.heap.size w V) => (hV.cell (cell_in hc)).trans hc)
    clear h hok hok2 hp hb hc hA hT hw hn hnn hl hall hne
    go_enter Try.func19, Try.ntmps19
    go_wp2_with fail
    rw [← hW0]
    go_at_call 31
    refine (HR.out W0 HB0.out).mono ?_
    rintro e w1 ⟨rfl, hb1⟩
    have HB1 := Lib.hid (HB0.out.trans (hb1.mono HB0.out.size))
    obtain ⟨c0, c1⟩ := HX.out.kept hb1
    have hcv := HC.out w1 HB1.out
    clear hb1 hW0
    go_wp2_with fail
    go_ret
    exact ⟨congrArg (fun b : Bool => Ending.returned (.bool b)) HF.out.symm, HB1.out⟩
end Go.Proofs.Ythmfncklepkddaa

/-
  What spec.LetterIndex answers at every byte: the letter's place, or -1; the world is as it was.
-/
namespace Go.Proofs.Ythmfncklepkddaa
open Go.RowKit

set_option maxHeartbeats 400000 in
theorem specLet_any (b : UInt8) (w : World) :
    Calls Try.prog 77 #[.int .u8 b.toNat] w fun e w' => e = .returned (.int .i64 (letIdx b)) ∧ w = w' := by
  by_cases h0 : b = 97
  · subst h0
    go_enter Try.func77, Try.ntmps77
    go_wp2
    refine wp_loop_rounds 1 ?_
    rw [rounds_succ]
    go_wp2
    go_ret
    exact ⟨rfl, rfl⟩
  · by_cases h1 : b = 98
    · subst h1
      go_enter Try.func77, Try.ntmps77
      go_wp2
      refine wp_loop_rounds 2 ?_
      rw [rounds_succ]
      go_wp2
      rw [rounds_succ]
      go_wp2
      go_ret
      exact ⟨rfl, rfl⟩
    · by_cases h2 : b = 99
      · subst h2
        go_enter Try.func77, Try.ntmps77
        go_wp2
        refine wp_loop_rounds 3 ?_
        rw [rounds_succ]
        go_wp2
        rw [rounds_succ]
        go_wp2
        rw [rounds_succ]
        go_wp2
        go_ret
        exact ⟨rfl, rfl⟩
      · have e : letIdx b = -1 := by unfold letIdx; rw [if_neg h0, if_neg h1, if_neg h2]
        have HE := Lib.hid e
        have f0 : ((((ByteArray.mk #[97, 98, 99])[0]'(by decide)).toNat : Int) == (b.toNat : Int)) = false := by
          show ((97 : Int) == (b.toNat : Int)) = false
          simp only [beq_eq_false_iff_ne, ne_eq]; intro e; exact h0 (UInt8.toNat_inj.1 (by simp; omega))
        have f1 : ((((ByteArray.mk #[97, 98, 99])[1]'(by decide)).toNat : Int) == (b.toNat : Int)) = false := by
          show ((98 : Int) == (b.toNat : Int)) = false
          simp only [beq_eq_false_iff_ne, ne_eq]; intro e; exact h1 (UInt8.toNat_inj.1 (by simp; omega))
        have f2 : ((((ByteArray.mk #[97, 98, 99])[2]'(by decide)).toNat : Int) == (b.toNat : Int)) = false := by
          show ((99 : Int) == (b.toNat : Int)) = false
          simp only [beq_eq_false_iff_ne, ne_eq]; intro e; exact h2 (UInt8.toNat_inj.1 (by simp; omega))
        clear e h0 h1 h2
        go_enter Try.func77, Try.ntmps77
        go_wp2
        refine wp_loop_rounds 4 ?_
        rw [rounds_succ]
        go_wp2
        rw [rounds_succ]
        go_wp2
        rw [rounds_succ]
        go_wp2
        rw [rounds_succ]
        go_wp2
        go_ret
        exact ⟨congrArg (fun z => Ending.returned (.int .i64 z)) HE.out.symm, rfl⟩
end Go.Proofs.Ythmfncklepkddaa

/-
  What spec.IsWord answers at every string: whether it is a word of at most 30 letters; the world is as it was.
-/
namespace Go.Proofs.Ythmfncklepkddaa
open Go.RowKit

set_option maxHeartbeats 400000 in
theorem specIsWord_any (s : ByteArray) (w : World) (hs : s.size ≤ maxLen) :
    Calls Try.prog 76 #[.string s] w fun e w' => e = .returned (.bool (isW s.data.toList)) ∧ w = w' := by
  unfold maxLen at hs
  go_enter Try.func76, Try.ntmps76
  go_wp2
  go_loop [3] (fun i => ∃ k : Nat, i = .int .i64 k ∧ k ≤ s.size ∧ (s.data.toList.take k).all isLetter = true) (fun i => s.size - (intOf i).toNat)
  case atStart => exact ⟨0, rfl, Nat.zero_le _, rfl⟩
  case round =>
    obtain ⟨k, rfl, hk, hall⟩ := hrel
    have HA := Lib.hid hall
    clear hall
    by_cases hlt : k < s.size
    · cases hb : isLetter s[k] with
      | true =>
        have HN := Lib.hid (show (s.data.toList.take (k + 1)).all isLetter = true by rw [all_take_succ s k hlt, HA.out, hb]; rfl)
        obtain ⟨hl, h97, h99⟩ := letIdx_yes hb
        have hl0 : 0 ≤ letIdx s[k] := by omega
        clear hl hb
        go_wp2_with (go_at_call 77; refine (specLet_any _ _).mono ?_; rintro e w' ⟨rfl, rfl⟩)
        go_round
        case rel => exact ⟨k + 1, by go_num, by omega, HN.out⟩
        case measure => simp [intOf]; omega
      | false =>
        have HN := Lib.hid (isW_bad hlt hb)
        have hl := letIdx_no hb
        have hl0 : letIdx s[k] < 0 := by omega
        clear hl hb
        go_wp2_with (go_at_call 77; refine (specLet_any _ _).mono ?_; rintro e w' ⟨rfl, rfl⟩)
        go_ret
        exact ⟨congrArg (fun z => Ending.returned (.bool z)) HN.out.symm, rfl⟩
    · obtain rfl : k = s.size := by omega
      have HN := Lib.hid (isW_all HA.out)
      go_wp2
      go_ret
      exact ⟨congrArg (fun z => Ending.returned (.bool z)) HN.out.symm, rfl⟩

end Go.Proofs.Ythmfncklepkddaa
