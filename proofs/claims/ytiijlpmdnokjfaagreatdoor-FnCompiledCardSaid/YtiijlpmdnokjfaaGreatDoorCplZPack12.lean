/- Texts of one proof. -/
import Derived.Test.YtiijlpmdnokjfaaGreatDoorCplZPack9
set_option maxRecDepth 100000
set_option maxHeartbeats 20000000
namespace Go.Proofs.YtiijlpmdnokjfaaGreatDoor
open Go.RowKit Go.Maps
theorem pairInfo : (Tryz.prog.info? 133).map (λ i => (i.zero, i.size, i.bytes)) = some (some (.agg #[.int .i64 0, .int .i64 0]), 2, 16) := by kernel_rfl
theorem laidOut_progP : laidOutB Tryz.prog = true := by kernel_rfl
theorem lawPair : Keyed Tryz.prog 133 := Keyed.of_law (deep_law_gate laidOut_progP (of_decide_eq_true (by kernel_rfl)) (of_decide_eq_true (by kernel_rfl)) (by kernel_rfl) (by kernel_rfl))
def klP (x : Nat × Nat) : Lit := .string (keyBytes [.int .i64 (x.1 : Int), .int .i64 (x.2 : Int)])
def okP (Ma Mb : Nat) (x : Nat × Nat) : Prop := x.1 < Ma /\ x.2 < Mb
theorem klP_key {Ma Mb : Nat} (ha : Ma <= 2000) (hb : Mb <= 2000) {x : Nat × Nat} (h : okP Ma Mb x) : keyOf Tryz.prog 133 (.agg #[.int .i64 (x.1 : Int), .int .i64 (x.2 : Int)]) = some (klP x) := by
  have h1 := klN_wf (x := x.1) (by have := h.1; omega)
  have h2 := klN_wf (x := x.2) (by have := h.2; omega)
  have hk : Tryz.prog.keyType 133 = true := by kernel_rfl
  have hc : Tryz.prog.cellsOf 133 = 2 := by kernel_rfl
  have hi : Tryz.prog.cellsOf 3 = 1 := by kernel_rfl
  have hsz : 133 < Tryz.prog.types.size := of_decide_eq_true (by kernel_rfl)
  obtain ⟨m, hm⟩ : ∃ m, Tryz.prog.types.size = m + 1 := ⟨Tryz.prog.types.size - 1, by omega⟩
  have hu := Tryz.underlying133
  have hv := Tryz.underlying3
  obtain ⟨P, hP⟩ : ∃ P, P = Tryz.prog := ⟨_, rfl⟩
  rw [<- hP] at hk hc hi hm hu hv ⊢
  simp [keyOf, hu, hk, Value.formed, Program.keyLits, hc, hi, Value.cells, hm, hv, h1, h2, klP]
theorem klP_inj {Ma Mb : Nat} (ha : Ma <= 2000) (hb : Mb <= 2000) (x y : Nat × Nat) (hx : okP Ma Mb x) (hy : okP Ma Mb y) (h : klP x = klP y) : x = y := by
  have h1 := klP_key ha hb hx
  have h2 := klP_key ha hb hy
  rw [<- h] at h2
  have h3 := lawPair.inj h1 h2
  have e1 : x.1 = y.1 /\ x.2 = y.2 := by
    simp at h3
    omega
  exact Prod.ext e1.1 e1.2
def pairC (l : List (Nat × Nat)) : List Value := l.flatMap λ x => [.int .i64 (x.1 : Int), .int .i64 (x.2 : Int)]
theorem pairC_snoc (l : List (Nat × Nat)) (x : Nat × Nat) : pairC (l ++ [x]) = pairC l ++ [.int .i64 (x.1 : Int), .int .i64 (x.2 : Int)] := by simp [pairC]
theorem pairC_at : ∀ (l : List (Nat × Nat)) (i : Nat), i < l.length -> (pairC l)[i * 2]? = some (.int .i64 (((l.getD i default)).1 : Int)) /\ (pairC l)[i * 2 + 1]? = some (.int .i64 (((l.getD i default)).2 : Int))
  | [], i, h => absurd h (Nat.not_lt_zero _)
  | x :: l, 0, _ => ⟨rfl, rfl⟩
  | x :: l, i + 1, h => by
    have ih := pairC_at l i (by simpa using h)
    have e : pairC (x :: l) = .int .i64 (x.1 : Int) :: .int .i64 (x.2 : Int) :: pairC l := rfl
    rw [e, show (i + 1) * 2 = i * 2 + 1 + 1 by omega]
    simpa using ih
theorem implExpP_any (g1 g2 : Nat) (fa1 lb1 lb2 : Array Value) (eg1 : ∀ args w, (callFunc g1 args).run Tryz.prog w = .ok (.enter g1 args) w) (eg2 : ∀ args w, (callFunc g2 args).run Tryz.prog w = .ok (.enter g2 args) w)
    (T : Nat × Nat -> Nat -> Nat × Nat) (acc : Nat × Nat -> Bool) (Ma Mb : Nat) (M : Nat) (x0 : Nat × Nat) (w : World) (ha : Ma <= 2000) (hb : Mb <= 2000) (hM : M <= 2000) (hM1 : 1 <= M) (h0 : okP Ma Mb x0) (hT : ∀ x k, okP Ma Mb x -> k < 3 -> okP Ma Mb (T x k))
    (H1 : ∀ (V : World) (x : Nat × Nat) (k : Nat), Below w.heap.size w V -> okP Ma Mb x -> k < 3 -> Calls Tryz.prog g1 (fa1 ++ (#[.agg #[.int .i64 (x.1 : Int), .int .i64 (x.2 : Int)], .int .i64 (k : Int)] ++ lb1)) V λ e w' => e = .returned (.agg #[.int .i64 (((T x k)).1 : Int), .int .i64 (((T x k)).2 : Int)]) /\ Below V.heap.size V w')
    (H2 : ∀ (V : World) (x : Nat × Nat), Below w.heap.size w V -> okP Ma Mb x -> Calls Tryz.prog g2 (#[.agg #[.int .i64 (x.1 : Int), .int .i64 (x.2 : Int)]] ++ lb2) V λ e w' => e = .returned (.bool (acc x)) /\ Below V.heap.size V w') :
    Calls Tryz.prog 129 #[.agg #[.int .i64 (x0.1 : Int), .int .i64 (x0.2 : Int)], .func (.func g1) fa1 lb1, .func (.func g2) #[] lb2, .int .i64 (M : Int)] w (ExpPost x0 T acc M w) := by
  obtain ⟨i0, hi, hz0, hz1, hz2⟩ := info_parts pairInfo
  obtain ⟨b0, hbi, hb0, hb1, hb2⟩ := info_parts boolInfo
  obtain ⟨r0, hri, hr0, hr1, hr2⟩ := info_parts rowInfo3
  have hmm := @run_makeMap Tryz.prog
  have HIn : Hid (∀ x y, okP Ma Mb x -> okP Ma Mb y -> klP x = klP y -> x = y) := Lib.hid (λ x y hx hy h => klP_inj ha hb x y hx hy h)
  have HKy : Hid (∀ x, okP Ma Mb x -> keyOf Tryz.prog 133 (.agg #[.int .i64 (x.1 : Int), .int .i64 (x.2 : Int)]) = some (klP x)) := Lib.hid (λ x h => klP_key ha hb h)
  have HKeys : Hid (∀ i, (∀ j, j < i -> j < (ords x0 T (3 * j)).length) -> ∀ t, t <= 3 * i -> ∀ x ∈ ords x0 T t, okP Ma Mb x) := Lib.hid (λ i ha t => ords_ok (Ok := okP Ma Mb) h0 hT ha t)
  have HTT := Lib.hid hT
  have HH1 := Lib.hid H1
  have HH2 := Lib.hid H2
  clear hT H1 H2
  obtain ⟨W2, hW2⟩ : ∃ W2, W2 = ((w.alloc (.cells #[.int .i64 (x0.1 : Int), .int .i64 (x0.2 : Int)] 133)).alloc (.cells #[.slice none 0 0, .slice none 0 0] 107)).alloc (.cells #[.slice none 0 0, .slice none 0 0] 107) := ⟨_, rfl⟩
  have HB2 : Hid (Below w.heap.size w W2) := Lib.hid (by rw [hW2]; exact (((Below.refl _ _).alloc (Nat.le_refl _) _).alloc (by simp) _).alloc (by simp; omega) _)
  have HZ2 : Hid (W2.heap.size = w.heap.size + 1 + 1 + 1) := Lib.hid (by rw [hW2]; simp)
  have HX2 : Hid (W2.heap[w.heap.size + 1]? = some (.cells #[.slice none 0 0, .slice none 0 0] 107 (0, 0)) /\ W2.heap[w.heap.size + 1 + 1]? = some (.cells #[.slice none 0 0, .slice none 0 0] 107 (0, 0))) := Lib.hid (by
    rw [hW2]
    have h1 := heap_alloc_new (w.alloc (.cells #[.int .i64 (x0.1 : Int), .int .i64 (x0.2 : Int)] 133)) (.cells #[.slice none 0 0, .slice none 0 0] 107)
    have h2 := heap_alloc_new ((w.alloc (.cells #[.int .i64 (x0.1 : Int), .int .i64 (x0.2 : Int)] 133)).alloc (.cells #[.slice none 0 0, .slice none 0 0] 107)) (.cells #[.slice none 0 0, .slice none 0 0] 107)
    rw [World.size_alloc] at h1 h2
    rw [World.size_alloc] at h2
    exact ⟨(Below.heap_alloc _ _ _ (by simp)).trans h1, h2⟩)
  have HP2 : Hid (W2.heap[w.heap.size]? = some (.cells #[.int .i64 (x0.1 : Int), .int .i64 (x0.2 : Int)] 133 (0, 0))) := Lib.hid (by
    rw [hW2]
    exact (Below.heap_alloc _ _ _ (by simp; omega)).trans ((Below.heap_alloc _ _ _ (by simp)).trans (heap_alloc_new w _)))
  go_enter Tryz.func129, Tryz.ntmps129
  go_upto_region 2 with fail
  rw [<- hW2]
  clear hW2
  have hk0 := HKy.out x0 h0
  have hown0 := World.ownsMap_made (H := Unit) W2 Tryz.prog 133 (plainElem Tryz.prog 3)
  have hpa : (W2.alloc (.map #[] 0)).heap[w.heap.size]? = some (.cells #[.int .i64 (x0.1 : Int), .int .i64 (x0.2 : Int)] 133 (0, 0)) := (Below.heap_alloc _ _ _ (by have := HZ2.out; omega)).trans HP2.out
  obtain ⟨p0, p1, -, -⟩ := box2_facts hpa
  have HPa := Lib.hid hpa
  clear hpa
  go_upto_region 3 with (refine wpList_insert_own _ rfl (.tmp 19) (.tmp 20) _ 180 rfl 133 3 lawPair Tryz.underlying180 _ W2.heap.size 0 _ rfl hown0 (by unfold maxLen; omega) _ _ _ rfl rfl hk0 _ [] (plainElem_int Tryz.underlying3 (a := 0) (by decide)) ?_; intro w3 hown3 hg3)
  have hp3 : w3.heap[w.heap.size]? = some (.cells #[.int .i64 (x0.1 : Int), .int .i64 (x0.2 : Int)] 133 (0, 0)) := (hg3.block _ (blk_lt HPa.out) (λ e => by injection e with e; have := HZ2.out; omega)).trans HPa.out
  obtain ⟨p2, p3, -, -⟩ := box2_facts hp3
  clear p0 p1 hp3
  go_wp2_with fail
  clear p2 p3
  obtain ⟨bM, hbM⟩ : ∃ bM, bM = W2.heap.size := ⟨_, rfl⟩
  rw [<- hbM] at hown3 hg3 ⊢
  obtain ⟨W4, hW4⟩ : ∃ W4, W4 = w3.alloc (.cells #[.int .i64 (x0.1 : Int), .int .i64 (x0.2 : Int)] 133) := ⟨_, rfl⟩
  rw [<- hW4]
  obtain ⟨B, hB⟩ : ∃ B, B = w.heap.size + 1 + 1 := ⟨_, rfl⟩
  rw [<- hB] at HX2 HZ2 ⊢
  have HBe := Lib.hid hB
  have hmx : MapOf klP (okP Ma Mb) ((DataW.map []).put (klP x0) (.lit (.int .i64 0))) [x0] := (MapOf.nil klP (okP Ma Mb)).put HIn.out (λ x _ => by trivial) h0 (by simp)
  have HS4 : Hid (ExpS 133 2 B bM B (.slice none 0 0) (.slice none 0 0) (.slice (some ⟨w3.heap.size, 0, none⟩) 1 1) [] 0 [] 1 (pairC [x0]) 1 ((DataW.map []).put (klP x0) (.lit (.int .i64 0))) W4 /\ Below B W2 W4) := Lib.hid (by
    have hg2 : W2.grownBy (W2.alloc (.map #[] 0)) none := World.grownBy_alloc _ _ _
    have hz := HZ2.out
    have hba : Below B W2 (W2.alloc (.map #[] 0)) := (Below.refl _ _).alloc (by omega) _
    have hb3 : Below B W2 w3 := hba.grown hg3 (by simp; omega) (λ k e => by cases e; omega)
    have hb4 : Below B W2 W4 := by rw [hW4]; exact hb3.alloc (by have := hb3.size; omega) _
    refine ⟨⟨⟨rfl, .inl ⟨rfl, rfl⟩⟩, ⟨rfl, .inl ⟨rfl, rfl⟩⟩, ?_, ?_, ?_, ⟨Nat.le_refl _, by omega⟩, by decide, by decide, by decide⟩, hb4⟩
    . rw [hW4]
      exact ⟨rfl, .inr ⟨w3.heap.size, 1, #[.int .i64 (x0.1 : Int), .int .i64 (x0.2 : Int)], rfl, by have := hb3.size; omega, heap_alloc_new w3 _, Nat.le_refl _, by decide, rfl, rfl⟩⟩
    . rw [hW4]
      exact hown3.alloc _
    . rw [hW4]
      have h1 := (hg3.block B (by simp; omega) (λ e => by injection e with e; omega)).trans ((Below.heap_alloc W2 _ B (by omega)).trans HX2.out.2)
      exact (Below.heap_alloc w3 _ B (blk_lt h1)).trans h1)
  have HM4 := Lib.hid hmx
  clear hown0 hown3 hg3 hW4 hmx hB hbM hk0
  have HE0 : Hid (ords x0 T (3 * 0) = [x0]) := Lib.hid rfl
  go_loopw [12, 13] (λ vo iv wr => ∃ (i : Nat) (va vr : Value) (D : DataW Unit), iv = .int .i64 i /\ i <= M /\ Hid ((ords x0 T (3 * i)).length <= M) /\ Hid (Below B W2 wr) /\ Hid (∀ j, j < i -> j < (ords x0 T (3 * j)).length) /\ Hid (ExpS 133 2 B bM B va vr vo ((List.range i).map λ j => acc (keyA x0 T j)) i (rowsC x0 T i) (ords x0 T (3 * i)).length (pairC (ords x0 T (3 * i))) (ords x0 T (3 * i)).length D wr /\ MapOf klP (okP Ma Mb) D (ords x0 T (3 * i)))) (λ _ iv _ => M + 1 - (intOf iv).toNat)
  case atStart => exact ⟨0, _, _, _, rfl, Nat.zero_le _, Lib.hid hM1, Lib.hid HS4.out.2, Lib.hid (λ j hj => absurd hj (Nat.not_lt_zero _)), Lib.hid ⟨HS4.out.1, HM4.out⟩⟩
  case round =>
    obtain ⟨i, va, vr, D, rfl, hin, HLe, HBr, hon, HS⟩ := hrel
    clear HS4 HM4 HE0
    obtain ⟨l, hl⟩ : ∃ l, l = ords x0 T (3 * i) := ⟨_, rfl⟩
    rw [<- hl] at HS
    have hll : l.length <= M := by rw [hl]; exact HLe.out
    have hl0 : 0 < l.length := by rw [hl]; exact ords_pos _
    obtain ⟨go, co, hvo, -, -⟩ := own_cell HS.out.1.ord hl0
    subst hvo
    have HL := Lib.hid hl
    by_cases hlt : i < l.length
    . have hi1 : i < (ords x0 T (3 * i)).length := by rw [<- hl]; exact hlt
      have HON : Hid (∀ j, j < i + 1 -> j < (ords x0 T (3 * j)).length) := Lib.hid (λ j hj => by
        rcases Nat.lt_or_eq_of_le (Nat.le_of_lt_succ hj) with h | h
        . exact hon.out j h
        . rw [h]; exact hi1)
      clear hl
      have hd : decide ((i : Int) < (l.length : Int)) = true := by simp; omega
      go_upto_region 9 with fail
      obtain ⟨bx, hbx⟩ : ∃ bx, bx = wr.heap.size := ⟨_, rfl⟩
      obtain ⟨V0, hV0⟩ : ∃ V0, V0 = wr.alloc (.cells #[.int .i64 0, .int .i64 0, .int .i64 0] 153) := ⟨_, rfl⟩
      rw [<- hV0, <- hbx]
      obtain ⟨accs, hacc⟩ : ∃ accs, accs = (List.range i).map λ j => acc (keyA x0 T j) := ⟨_, rfl⟩
      obtain ⟨rows, hrows⟩ : ∃ rows, rows = rowsC x0 T i := ⟨_, rfl⟩
      rw [<- hacc, <- hrows] at HS
      have HAc := Lib.hid (And.intro hacc hrows)
      have hal : accs.length = i := by rw [hacc]; simp
      have HAl := Lib.hid hal
      have HNx : Hid (ExpN B bM B va vr (.slice (some ⟨go, 0, none⟩) l.length co) bx) := Lib.hid (HS.out.1.fresh (by rw [hbx]; exact Nat.le_refl _))
      have HS0 : Hid (Below B W2 V0 /\ (ExpS 133 2 B bM B va vr (.slice (some ⟨go, 0, none⟩) l.length co) accs i rows (ords x0 T (3 * i + 0)).length (pairC (ords x0 T (3 * i + 0))) (ords x0 T (3 * i + 0)).length D V0 /\ MapOf klP (okP Ma Mb) D (ords x0 T (3 * i + 0))) /\ Arr3 V0 bx (cutV (toA x0 T i) 0)) := Lib.hid (by
        rw [Nat.add_zero, <- HL.out]
        refine ⟨by rw [hV0]; exact HBr.out.alloc (Nat.le_of_lt HS.out.1.base) _, ⟨HS.out.1.below (by rw [hV0]; exact (Below.refl _ _).alloc (Nat.le_refl _) _), HS.out.2⟩, ?_⟩
        rw [hV0, hbx]
        exact heap_alloc_new wr _)
      clear hd hV0 hacc hrows hal HS hbx
      go_loopw [12, 30] (λ vo kv wq => ∃ (k : Nat) (D : DataW Unit), kv = .int .i64 k /\ k <= 3 /\ Hid ((ords x0 T (3 * i + k)).length <= M) /\ Hid (Below B W2 wq /\ (ExpS 133 2 B bM B va vr vo accs i rows (ords x0 T (3 * i + k)).length (pairC (ords x0 T (3 * i + k))) (ords x0 T (3 * i + k)).length D wq /\ MapOf klP (okP Ma Mb) D (ords x0 T (3 * i + k))) /\ Arr3 wq bx (cutV (toA x0 T i) k))) (λ _ kv _ => 3 - (intOf kv).toNat)
      case atStart => exact ⟨0, _, rfl, Nat.zero_le _, HLe, HS0⟩
      case round =>
        obtain ⟨k, Dk, rfl, hk, HLk, HQ⟩ := hrel
        clear HS0
        by_cases hk3 : k < 3
        . obtain ⟨st1, st2⟩ := keyA_step (s0 := x0) (g := T) hi1 hk3
          obtain ⟨hil, hkey⟩ := keyA_at (s0 := x0) (g := T) (t := 3 * i + k) hi1 (by omega)
          have hxM : okP Ma Mb (keyA x0 T i) := HKeys.out (i + 1) HON.out (3 * i) (by omega) _ (getD_mem hi1)
          obtain ⟨x, hx⟩ : ∃ x, x = keyA x0 T i := ⟨_, rfl⟩
          obtain ⟨lq, hlq⟩ : ∃ lq, lq = ords x0 T (3 * i + k) := ⟨_, rfl⟩
          rw [<- hx, <- hlq] at st1 st2
          rw [<- hlq] at HQ hil hkey
          rw [<- hx] at hkey hxM
          have hlqM : lq.length <= M := by rw [hlq]; exact HLk.out
          have HLq := Lib.hid (And.intro hlq hx)
          have HLe2 := Lib.hid hlqM
          clear hlq hx
          obtain ⟨y, hy⟩ : ∃ y, y = T x k := ⟨_, rfl⟩
          have hyM : okP Ma Mb y := by rw [hy]; exact HTT.out x k hxM hk3
          rw [<- hy] at st1 st2
          obtain ⟨gq, cq, hvq, -, hcq⟩ := own_cell HQ.out.2.1.1.ord (by omega)
          subst hvq
          have hpc := pairC_at lq i hil
          rw [hkey] at hpc
          have hci := (hcq (i * 2) (by omega)).trans hpc.1
          have hcj := (hcq (i * 2 + 1) (by omega)).trans hpc.2
          clear hpc
          have HC1 : Hid (Calls Tryz.prog g1 (fa1 ++ (#[.agg #[.int .i64 (x.1 : Int), .int .i64 (x.2 : Int)], .int .i64 (k : Int)] ++ lb1)) wr λ e w' => e = .returned (.agg #[.int .i64 (y.1 : Int), .int .i64 (y.2 : Int)]) /\ Below wr.heap.size wr w') := Lib.hid (by
            rw [hy]
            refine HH1.out wr x k (HB2.out.trans (HQ.out.1.mono ?_)) hxM hk3
            have := HBe.out
            omega)
          have HSt := Lib.hid (And.intro st1 st2)
          have s1 : (i : Int) < (lq.length : Int) := by omega
          have s2 : (0 : Int) <= (i : Int) := by omega
          have s3 : (k : Int) < 3 := by omega
          have s4 : (0 : Int) <= (k : Int) := by omega
          clear hcq st1 st2 hkey hy
          go_wp2_with fail
          refine HC1.out.mono ?_
          rintro e w4 ⟨rfl, hb4⟩
          clear hci hcj
          go_upto_region 12 with fail
          obtain ⟨be, hbe⟩ : ∃ be, be = w4.heap.size := ⟨_, rfl⟩
          obtain ⟨w5, hw5⟩ : ∃ w5, w5 = w4.alloc (.cells #[.int .i64 (y.1 : Int), .int .i64 (y.2 : Int)] 133) := ⟨_, rfl⟩
          rw [<- hw5, <- hbe]
          have hb5 : Below wr.heap.size wr w5 := by rw [hw5]; exact hb4.alloc hb4.size _
          have HE5 : Hid (w5.heap[be]? = some (.cells #[.int .i64 (y.1 : Int), .int .i64 (y.2 : Int)] 133 (0, 0)) /\ bM ≠ be) := Lib.hid (by
            rw [hw5, hbe]
            refine ⟨heap_alloc_new w4 _, λ e => ?_⟩
            have h1 := HQ.out.2.1.1.map.lt
            have h2 := hb4.size
            omega)
          obtain ⟨p0, p1, -, -⟩ := box2_facts HE5.out.1
          clear hb4 hbe hw5
          have HQ5 := Lib.hid (And.intro (HQ.out.1.trans (hb5.mono (Nat.le_trans (by have := HZ2.out; omega) HQ.out.1.size))) (And.intro (HQ.out.2.1.1.below hb5) (HQ.out.2.2.same (hb5.block _ HQ.out.2.2.lt))))
          have HMo := Lib.hid HQ.out.2.1.2
          obtain ⟨kf1, kf2⟩ := HQ5.out.2.2.facts hk3
          have hky := HKy.out y hyM
          clear hb5
          by_cases hyl : y ∈ lq
          . have hhas : Maps.has Dk (klP y) = true := by rw [(HMo.out.2 y hyM).1]; simpa using hyl
            have HHit := Lib.hid (And.intro ((HMo.out.2 y hyM).2 hyl) (HSt.out.1 hyl))
            clear hyl
            go_wp2_with (at_lookup; refine wpList_lookup_own_ok_int _ rfl (.tmp 41) (.tmp 42) 180 rfl 133 3 .i64 lawPair Tryz.underlying180 Tryz.underlying3 (zeroInt _) bM _ _ rfl HQ5.out.2.1.map _ _ rfl hky ?_; intro c hat hwc)
            have hc : c = ((toA x0 T i k : Nat) : Int) := by
              have h1 := HHit.out.1 (.lit (.int .i64 0))
              rw [hat] at h1
              rw [HHit.out.2.2]
              injection h1 with h1
              injection h1 with _ h1
            subst hc
            have HQ6 : Hid (Below B W2 (w5.setCell ⟨bx, k, none⟩ (.int .i64 ((toA x0 T i k : Nat) : Int))) /\ (ExpS 133 2 B bM B va vr (.slice (some ⟨gq, 0, none⟩) lq.length cq) accs i rows (ords x0 T (3 * i + (k + 1))).length (pairC (ords x0 T (3 * i + (k + 1)))) (ords x0 T (3 * i + (k + 1))).length Dk (w5.setCell ⟨bx, k, none⟩ (.int .i64 ((toA x0 T i k : Nat) : Int))) /\ MapOf klP (okP Ma Mb) Dk (ords x0 T (3 * i + (k + 1)))) /\ Arr3 (w5.setCell ⟨bx, k, none⟩ (.int .i64 ((toA x0 T i k : Nat) : Int))) bx (cutV (toA x0 T i) (k + 1))) := Lib.hid (by
              have hN := HNx.out
              rw [HHit.out.2.1]
              refine ⟨below_set HQ5.out.1 hN.2.2.2.2.2 _, ⟨HQ5.out.2.1.set ⟨hN.1, hN.2.1, λ e => ?_, hN.2.2.2.1, hN.2.2.2.2.1, hN.2.2.2.2.2⟩ _, HMo.out⟩, HQ5.out.2.2.set hk3 (cutV_step _ k).1 (λ j _ hj => (cutV_step _ k).2 j hj)⟩
              obtain ⟨cur, hh⟩ := blk_ofz HQ5.out.2.1.ord e
              exact blk_ne hh HQ5.out.2.2 (by decide) rfl)
            clear kf1 kf2 hat hhas hwc p0 p1
            go_wp2_with fail
            go_roundw
            case rel => exact ⟨k + 1, Dk, by go_num, by omega, Lib.hid (by rw [HHit.out.2.1]; exact HLe2.out), HQ6⟩
            case measure => simp [intOf]; omega
          . have hhas : Maps.has Dk (klP y) = false := by rw [(HMo.out.2 y hyM).1]; simpa using hyl
            have HMiss := Lib.hid (And.intro hyl (HSt.out.2 hyl))
            clear hyl
            by_cases hfull : lq.length = M
            . have hcmp : ((lq.length : Int) == (M : Int)) = true := by simp; omega
              have HBig := Lib.hid (exp_big (M := M) HON.out hk3 (by rw [HMiss.out.2.1, List.length_append, hfull]; rfl))
              obtain ⟨c0, c1, k0, k1⟩ := box2_facts ((HQ5.out.1.block _ (by have := HBe.out; omega)).trans HX2.out.1)
              obtain ⟨hcl, hsz, hot, hBl⟩ := put2 (k := .slice none 0 0) (l := .slice none 0 0) c0 c1
              obtain ⟨hc0, hc1⟩ := hcl
              have HOt := Lib.hid (And.intro HQ5.out.1 hBl)
              clear hsz hot hBl kf1 kf2
              go_wp2_with (at_lookup; refine wpList_lookup_own_ok_int _ rfl (.tmp 41) (.tmp 42) 180 rfl 133 3 .i64 lawPair Tryz.underlying180 Tryz.underlying3 (zeroInt _) bM _ _ rfl HQ5.out.2.1.map _ _ rfl hky ?_; intro c hat hwc)
              refine bodyPost_ret (v := .tuple #[.agg #[.slice none 0 0, .slice none 0 0], .bool false]) (by simp [results, Tryz.results129, go_sem, hc0, hc1]) rfl ?_
              exact .inr ⟨HBig.out, rfl, HOt.out.2 _ _ (HB2.out.trans (HOt.out.1.mono (by have := HBe.out; omega))) (Nat.le_succ _)⟩
            have hcmp : ((lq.length : Int) == (M : Int)) = false := by simp; omega
            have hroom : lq.length + 1 <= M := by omega
            have HRoom := Lib.hid hroom
            clear hfull
            go_upto_region 17 with (at_lookup; refine wpList_lookup_own_ok_int _ rfl (.tmp 41) (.tmp 42) 180 rfl 133 3 .i64 lawPair Tryz.underlying180 Tryz.underlying3 (zeroInt _) bM _ _ rfl HQ5.out.2.1.map _ _ rfl hky ?_; intro c hat hwc)
            go_upto_region 18 with (at_mapUpdate; refine wpList_mapUpdate_own _ rfl (.tmp 55) (.tmp 56) (.tmp 57) 180 rfl 133 3 lawPair Tryz.underlying180 _ bM lq.length Dk rfl HQ5.out.2.1.map (by unfold maxLen; omega) _ _ _ rfl rfl hky _ [] (plainElem_int Tryz.underlying3 (klN_wf (x := lq.length) (by omega))) ?_; intro w6 hown6 hg6)
            have HQ6 := Lib.hid (HQ5.out.2.1.map_put hown6 hg6)
            have HA6 : Hid (Below B W2 w6 /\ Arr3 w6 bx (cutV (toA x0 T i) k)) := Lib.hid ⟨HQ5.out.1.grown hg6 (Nat.le_of_lt HQ5.out.2.1.base) (λ j e => by injection e with e; rw [<- e]; exact HQ5.out.2.1.low.2), HQ5.out.2.2.same (hg6.block bx HQ5.out.2.2.lt (λ e => HNx.out.2.2.2.1 (by injection e with e; exact e.symm)))⟩
            have hbw6 : B <= w6.heap.size := Nat.le_of_lt HQ6.out.base
            have HMp := Lib.hid (HMo.out.put HIn.out (λ x _ => by trivial) hyM HMiss.out.1)
            obtain ⟨p4, p5, -, -⟩ := box2_facts ((hg6.block be (blk_lt HE5.out.1) (λ e => HE5.out.2 (by injection e with e; exact e.symm))).trans HE5.out.1)
            clear hown6 hg6 hat hwc hhas kf1 kf2 p0 p1
            go_wp2_with (at_builtin; refine wpList_append_own_at _ rfl (.tmp 58) (.tmp 60) 181 rfl B 133 i0 (.agg #[.int .i64 0, .int .i64 0]) 2 16 Tryz.underlying181 hi hz0 hz1 hz2 rfl (by decide) _ _ _ rfl (HQ6.out.ord.alloc _) ⟨w6.heap.size, 0, none⟩ 1 1 [.int .i64 (y.1 : Int), .int .i64 (y.2 : Int)] rfl rfl (newB2 _ _ _ _) (by simp [Value.oneCell']) (by unfold maxLen; omega) (by omega) (by simp; omega) ?_)
            intro v' w7 hown' hgrow hnil hat
            have HQ7 : Hid (ExpS 133 2 B bM B va vr v' accs i rows (ords x0 T (3 * i + (k + 1))).length (pairC (ords x0 T (3 * i + (k + 1)))) (ords x0 T (3 * i + (k + 1))).length (Dk.put (klP y) (.lit (.int .i64 ((lq.length : Nat) : Int)))) w7) := Lib.hid (by
              have h1 := (HQ6.out.below ((Below.refl _ _).alloc (Nat.le_refl _) (.cells #[.int .i64 (y.1 : Int), .int .i64 (y.2 : Int)] 133))).ord_push hown' hgrow
              rw [HMiss.out.2.1]
              rw [pairC_snoc, List.length_append]
              exact h1)
            have HA7 : Hid (Below B W2 w7 /\ Arr3 w7 bx (cutV (toA x0 T i) k)) := Lib.hid (by
              refine ⟨(HA6.out.1.alloc hbw6 (.cells #[.int .i64 (y.1 : Int), .int .i64 (y.2 : Int)] 133)).grown hgrow (by simp; omega) (λ j e => (HQ6.out.ord.lt j e).1), ?_⟩
              have h1 : Arr3 (w6.alloc (.cells #[.int .i64 (y.1 : Int), .int .i64 (y.2 : Int)] 133)) bx (cutV (toA x0 T i) k) := HA6.out.2.same (Below.heap_alloc _ _ _ HA6.out.2.lt)
              refine h1.same (hgrow.block bx h1.lt (λ e => ?_))
              obtain ⟨cur, hh⟩ := blk_ofz HQ6.out.ord e.symm
              exact blk_ne hh HA6.out.2 (by decide) rfl)
            obtain ⟨kf1, kf2⟩ := HA7.out.2.facts hk3
            clear hown' hgrow hnil hat p4 p5
            have HQ8 : Hid (Below B W2 (w7.setCell ⟨bx, k, none⟩ (.int .i64 ((lq.length : Nat) : Int))) /\ (ExpS 133 2 B bM B va vr v' accs i rows (ords x0 T (3 * i + (k + 1))).length (pairC (ords x0 T (3 * i + (k + 1)))) (ords x0 T (3 * i + (k + 1))).length (Dk.put (klP y) (.lit (.int .i64 ((lq.length : Nat) : Int)))) (w7.setCell ⟨bx, k, none⟩ (.int .i64 ((lq.length : Nat) : Int))) /\ MapOf klP (okP Ma Mb) (Dk.put (klP y) (.lit (.int .i64 ((lq.length : Nat) : Int)))) (ords x0 T (3 * i + (k + 1)))) /\ Arr3 (w7.setCell ⟨bx, k, none⟩ (.int .i64 ((lq.length : Nat) : Int))) bx (cutV (toA x0 T i) (k + 1))) := Lib.hid (by
              have hN := HNx.out
              refine ⟨below_set HA7.out.1 hN.2.2.2.2.2 _, ⟨HQ7.out.set ⟨hN.1, hN.2.1, λ e => ?_, hN.2.2.2.1, hN.2.2.2.2.1, hN.2.2.2.2.2⟩ _, by rw [HMiss.out.2.1]; exact HMp.out⟩, HA7.out.2.set hk3 ?_ (λ j _ hj => (cutV_step _ k).2 j hj)⟩
              . obtain ⟨cur, hh⟩ := blk_ofz HQ7.out.ord e
                exact blk_ne hh HA7.out.2 (by decide) rfl
              . rw [(cutV_step _ k).1, HMiss.out.2.2])
            go_wp2_with fail
            go_roundw
            case rel => exact ⟨k + 1, _, by go_num, by omega, Lib.hid (by rw [HMiss.out.2.1, List.length_append]; exact HRoom.out), HQ8⟩
            case measure => simp [intOf]; omega
        . obtain rfl : k = 3 := by omega
          obtain ⟨hil, hkey⟩ := keyA_at (s0 := x0) (g := T) (t := 3 * i + 3) hi1 (by omega)
          have hxM : okP Ma Mb (keyA x0 T i) := HKeys.out (i + 1) HON.out (3 * i) (by omega) _ (getD_mem hi1)
          obtain ⟨x, hx⟩ : ∃ x, x = keyA x0 T i := ⟨_, rfl⟩
          obtain ⟨lq, hlq⟩ : ∃ lq, lq = ords x0 T (3 * i + 3) := ⟨_, rfl⟩
          rw [<- hlq] at HQ hil hkey
          rw [<- hx] at hkey hxM
          have hlqM : lq.length <= M := by rw [hlq]; exact HLk.out
          have HLq := Lib.hid (And.intro hlq hx)
          have HLe2 := Lib.hid hlqM
          clear hlq hx
          obtain ⟨gq, cq, hvq, -, hcq⟩ := own_cell HQ.out.2.1.1.ord (by omega)
          subst hvq
          have hpc := pairC_at lq i hil
          rw [hkey] at hpc
          have hci := (hcq (i * 2) (by omega)).trans hpc.1
          have hcj := (hcq (i * 2 + 1) (by omega)).trans hpc.2
          clear hpc
          obtain ⟨b, hb⟩ : ∃ b, b = acc x := ⟨_, rfl⟩
          have HC2 : Hid (Calls Tryz.prog g2 (#[.agg #[.int .i64 (x.1 : Int), .int .i64 (x.2 : Int)]] ++ lb2) wr.drew λ e w' => e = .returned (.bool b) /\ Below wr.drew.heap.size wr.drew w') := Lib.hid (by
            rw [hb]
            refine HH2.out wr.drew x ((HB2.out.trans (HQ.out.1.mono ?_)).drew) hxM
            have := HBe.out
            omega)
          have HBb' := Lib.hid hb
          have s1 : (i : Int) < (lq.length : Int) := by omega
          have s2 : (0 : Int) <= (i : Int) := by omega
          have hal : accs.length <= 2000 := by rw [HAl.out]; omega
          have hbwr : B <= wr.heap.size := Nat.le_of_lt HQ.out.2.1.1.base
          have HQd := Lib.hid (HQ.out.2.1.1.below (Below.refl _ _).drew)
          obtain ⟨e0, -, e2, -⟩ := box2_facts HQ.out.2.1.1.box
          obtain ⟨e4, -, e6, -⟩ := box2_facts HQd.out.box
          obtain ⟨Aa, qa, hva⟩ := (RowO.of_owns HQ.out.2.1.1.acc (by omega)).row.shape
          rw [bools_length] at hva
          subst hva
          clear hcq hkey hb
          go_upto_region 21 with fail
          go_cut [] from 66 to 76 (λ wc => ∃ va2, Hid (ExpS 133 2 B bM B va2 vr (.slice (some ⟨gq, 0, none⟩) lq.length cq) (accs ++ [b]) i rows lq.length (pairC lq) lq.length Dk wc) /\ Hid (Below B W2 wc /\ Arr3 wc bx (cutV (toA x0 T i) 3)))
          case first =>
            go_region_law (first
              | (refine step_call_val rfl (.tmp 68) _ _ rfl g2 lb2 (by simp [Act.eval]) eg2 #[.agg #[.int .i64 (x.1 : Int), .int .i64 (x.2 : Int)]] (by simp [Act.eval]) HC2.out ?_; rintro e w1 ⟨rfl, hb1⟩; have HO1 := Lib.hid (HQd.out.below hb1); have HA1 := Lib.hid (And.intro (HQ.out.1.drew.trans (hb1.mono (by show B <= wr.heap.size; omega))) (HQ.out.2.2.same (hb1.block bx HQ.out.2.2.lt))); obtain ⟨l0, -, l2, -⟩ := box2_facts HO1.out.box; have HO1a := Lib.hid (HO1.out.below ((Below.refl _ _).alloc (Nat.le_refl _) (.cells #[.bool b] 4))); obtain ⟨l4, -, l6, -⟩ := box2_facts HO1a.out.box; have hbw1 : B <= w1.heap.size := Nat.le_of_lt HO1.out.base; clear hb1; refine ⟨_, rfl, ?_⟩)
              | (refine step_append_own_at rfl (.tmp 67) (.tmp 74) 28 rfl B 4 b0 (.bool false) 1 1 Tryz.underlying28 hbi hb0 hb1 hb2 rfl (by decide) _ _ _ rfl (HO1.out.acc.alloc _) ⟨w1.heap.size, 0, none⟩ 1 1 [.bool b] rfl rfl (cell_one_new w1 _ _) (by simp [Value.oneCell']) (by unfold maxLen; omega) (by omega) (by simp; omega) ?_; intro v' w9 hown' hgrow hat; obtain ⟨g', cap', rfl⟩ := own_succ hown'; have HB9 := Lib.hid (((HA1.out.1.alloc hbw1 (.cells #[.bool b] 4)).grown hgrow (by simp; omega) (λ g e => (HO1.out.acc.lt g e).1)).setCell (p := ⟨B, 0, none⟩) (Nat.le_refl _) (.slice (some ⟨g', 0, none⟩) (accs.length + 1) cap')); obtain ⟨z1, z2, HQ9⟩ := HO1a.out.acc_push hown' hgrow; obtain ⟨z0, z1⟩ := z1; have HQ9 := Lib.hid HQ9; have HG9 := Lib.hid hgrow))
            all_goals
              have HX9 : Hid (Arr3 (w9.setCell ⟨B, 0, none⟩ (.slice (some ⟨g', 0, none⟩) (accs.length + 1) cap')) bx (cutV (toA x0 T i) 3)) := Lib.hid (by
                have hxa : Arr3 (w1.alloc (.cells #[.bool b] 4)) bx (cutV (toA x0 T i) 3) := HA1.out.2.same (Below.heap_alloc _ _ _ HA1.out.2.lt)
                refine (hxa.same (HG9.out.block bx hxa.lt (λ e => HNx.out.1 ?_))).same (Below.heap_setCell _ _ _ _ (λ e => HNx.out.2.2.2.2.1 (Eq.symm e)))
                exact e.symm)
              clear hown' hgrow hat z1 z2 l0 l2 l4 l6 e0 e2 e4 e6
              go_wp2_with fail
              go_meet
              exact ⟨_, HQ9, Lib.hid ⟨HB9.out, HX9.out⟩⟩
          case rest =>
            obtain ⟨va2, HQ9, HA9⟩ := hcut
            clear e0 e2 e4 e6 hci hcj
            have hbw9 : B <= wc.heap.size := Nat.le_of_lt HQ9.out.base
            obtain ⟨-, e1, -, e3⟩ := box2_facts HQ9.out.box
            have hx3 : Bx3 wc bx (.int .i64 ((toA x0 T i 0 : Nat) : Int)) (.int .i64 ((toA x0 T i 1 : Nat) : Int)) (.int .i64 ((toA x0 T i 2 : Nat) : Int)) 153 := HA9.out.2
            obtain ⟨⟨c0, c1, c2⟩, -⟩ := hx3.facts
            clear hx3
            obtain ⟨t0, ht0⟩ : ∃ y : Int, y = ((toA x0 T i 0 : Nat) : Int) := ⟨_, rfl⟩
            obtain ⟨t1, ht1⟩ : ∃ y : Int, y = ((toA x0 T i 1 : Nat) : Int) := ⟨_, rfl⟩
            obtain ⟨t2, ht2⟩ : ∃ y : Int, y = ((toA x0 T i 2 : Nat) : Int) := ⟨_, rfl⟩
            rw [<- ht0] at c0
            rw [<- ht1] at c1
            rw [<- ht2] at c2
            have HRw : Hid (rows ++ [.int .i64 t0, .int .i64 t1, .int .i64 t2] = rowsC x0 T (i + 1)) := Lib.hid (by rw [rowsC_succ, HAc.out.2, ht0, ht1, ht2]; rfl)
            clear ht0 ht1 ht2
            go_wp2_with (at_builtin; refine wpList_append_own_at _ rfl (.tmp 78) (.tmp 80) 105 rfl B 153 r0 (.agg #[.int .i64 0, .int .i64 0, .int .i64 0]) 3 24 Tryz.underlying105 hri hr0 hr1 hr2 rfl (by decide) _ _ _ rfl (HQ9.out.row.alloc _) ⟨wc.heap.size, 0, none⟩ 1 1 [.int .i64 t0, .int .i64 t1, .int .i64 t2] rfl rfl (newB3 wc _ _ _ _) (by simp [Value.oneCell']) (by unfold maxLen; omega) (by omega) (by simp; omega) ?_)
            intro v' w9 hown' hgrow hnil hat
            obtain ⟨gn, capn, rfl⟩ := own_succ hown'
            obtain ⟨⟨z0, z1⟩, z2, HQb⟩ := (HQ9.out.below ((Below.refl _ _).alloc (Nat.le_refl _) (.cells #[.int .i64 t0, .int .i64 t1, .int .i64 t2] 153))).row_push hown' hgrow
            rw [HRw.out] at HQb
            have HQb := Lib.hid HQb
            have HBb := Lib.hid (((HA9.out.1.alloc hbw9 (.cells #[.int .i64 t0, .int .i64 t1, .int .i64 t2] 153)).grown hgrow (by simp; omega) (λ g e => (HQ9.out.row.lt g e).1)).setCell (p := ⟨B, 1, none⟩) (Nat.le_refl _) (.slice (some ⟨gn, 0, none⟩) (i + 1) capn))
            have HA1 : Hid (accs ++ [b] = (List.range (i + 1)).map λ j => acc (keyA x0 T j)) := Lib.hid (by rw [List.range_succ, List.map_append, HAc.out.1, HBb'.out, HLq.out.2]; rfl)
            rw [HA1.out] at HQb
            have HMk := Lib.hid HQ.out.2.1.2
            clear hown' hgrow hnil hat
            go_wp2_with fail
            go_roundw
            case rel => exact ⟨i + 1, _, _, Dk, by go_num, by omega, Lib.hid (by rw [show 3 * (i + 1) = 3 * i + 3 by omega]; exact HLk.out), HBb, HON, by
              rw [show 3 * (i + 1) = 3 * i + 3 by omega, <- HLq.out.1]
              exact Lib.hid ⟨HQb.out, HMk.out⟩⟩
            case measure => simp [intOf]; omega
    . have hE : Ends x0 T i := ⟨hon.out, by rw [<- hl]; omega⟩
      have hEl := hE.length
      have hiM : i <= M := by rw [<- hEl]; exact HLe.out
      have hi0 := hE.pos
      have HE := Lib.hid hE
      obtain ⟨ga, ca, rfl, hga, hca⟩ := own_cell HS.out.1.acc (by simp; omega)
      obtain ⟨gr, cr, rfl, hgr, hcr⟩ := own_cell HS.out.1.row hi0
      have HAu : Hid (∀ V : World, (∀ g, g ≠ w.heap.size + 1 -> V.heap[g]? = wr.heap[g]?) -> AutoV V (.slice (some ⟨ga, 0, none⟩) i ca) (.slice (some ⟨gr, 0, none⟩) i cr) (found x0 T acc i)) := Lib.hid (λ V hV => ⟨ga, ca, gr, cr, rfl, rfl, λ q hq => by
          have hq' : q < i := hq
          have hBe := HBe.out
          rw [World.cell?_of_block (w := wr) (a := ⟨ga, q, none⟩) (hV ga (by omega))]
          rw [hca q (by simp; omega), (found_keyA hE acc hq').1]
          simp [bools, hq'], λ q hq k hk => by
          have hq' : q < i := hq
          have hBe := HBe.out
          rw [World.cell?_of_block (w := wr) (a := ⟨gr, q * 3 + k, none⟩) (hV gr (by omega))]
          rw [hcr (q * 3 + k) (by omega), rowsC_at i q k hq' hk, (found_keyA hE acc hq').2 k hk]⟩)
      obtain ⟨e0, e1, -, -⟩ := box2_facts HS.out.1.box
      have hln : ((List.range i).map λ j => acc (keyA x0 T j)).length = i := by simp
      rw [hln] at e0
      have hyb := (HBr.out.block _ (by have := HBe.out; omega)).trans HX2.out.1
      obtain ⟨c0, c1, k0, k1⟩ := box2_facts hyb
      have hd : decide ((i : Int) < (l.length : Int)) = false := by simp; omega
      obtain ⟨hcl, hsz, hot, hBl⟩ := put2 (k := .slice (some ⟨ga, 0, none⟩) i ca) (l := .slice (some ⟨gr, 0, none⟩) i cr) c0 c1
      obtain ⟨hc0, hc1⟩ := hcl
      have HOt := Lib.hid (And.intro hsz (And.intro hot hBl))
      clear hsz hot hBl hyb hl hca hcr hln hE hEl hga hgr
      go_wp2_with fail
      refine bodyPost_ret (v := .tuple #[.agg #[.slice (some ⟨ga, 0, none⟩) i ca, .slice (some ⟨gr, 0, none⟩) i cr], .bool true]) (by simp [results, Tryz.results129, go_sem, hc0, hc1]) rfl ?_
      exact .inl ⟨i, _, _, HE.out, hiM, rfl, HAu.out _ HOt.out.2.1, HOt.out.2.2 _ _ (HB2.out.trans (HBr.out.mono (by have := HBe.out; omega))) (Nat.le_succ _)⟩
end Go.Proofs.YtiijlpmdnokjfaaGreatDoor
namespace Go.Proofs.YtiijlpmdnokjfaaGreatDoor
open Go.RowKit
theorem implMdP_any (g1 g2 : Nat) (fa1 lb1 lb2 : Array Value) (eg1 : ∀ args w, (callFunc g1 args).run Tryz.prog w = .ok (.enter g1 args) w) (eg2 : ∀ args w, (callFunc g2 args).run Tryz.prog w = .ok (.enter g2 args) w)
    (T : Nat × Nat -> Nat -> Nat × Nat) (acc : Nat × Nat -> Bool) (Ma Mb : Nat) (M : Nat) (x0 : Nat × Nat) (w : World) (ha : Ma <= 2000) (hb : Mb <= 2000) (hM : M <= 2000) (hM1 : 1 <= M) (h0 : okP Ma Mb x0) (hT : ∀ x k, okP Ma Mb x -> k < 3 -> okP Ma Mb (T x k))
    (H1 : ∀ (V : World) (x : Nat × Nat) (k : Nat), Below w.heap.size w V -> okP Ma Mb x -> k < 3 -> Calls Tryz.prog g1 (fa1 ++ (#[.agg #[.int .i64 (x.1 : Int), .int .i64 (x.2 : Int)], .int .i64 (k : Int)] ++ lb1)) V λ e w' => e = .returned (.agg #[.int .i64 (((T x k)).1 : Int), .int .i64 (((T x k)).2 : Int)]) /\ Below V.heap.size V w')
    (H2 : ∀ (V : World) (x : Nat × Nat), Below w.heap.size w V -> okP Ma Mb x -> Calls Tryz.prog g2 (#[.agg #[.int .i64 (x.1 : Int), .int .i64 (x.2 : Int)]] ++ lb2) V λ e w' => e = .returned (.bool (acc x)) /\ Below V.heap.size V w')
    (y : Dx) (ok : Bool) (hy : srchR M x0 T acc y ok) :
    Calls Tryz.prog 119 #[.agg #[.int .i64 (x0.1 : Int), .int .i64 (x0.2 : Int)], .func (.func g1) fa1 lb1, .func (.func g2) #[] lb2, .int .i64 (M : Int)] w (CopyDB y ok w) := by
  obtain ⟨W0, hW0⟩ : ∃ W0, W0 = (w.alloc (.cells #[.int .i64 (x0.1 : Int), .int .i64 (x0.2 : Int)] 133)).alloc (.cells #[.slice none 0 0, .slice none 0 0] 31) := ⟨_, rfl⟩
  have HB0 : Hid (Below w.heap.size w W0) := Lib.hid (by rw [hW0]; exact ((Below.refl _ _).alloc (Nat.le_refl _) _).alloc (by simp) _)
  have HY : Hid (W0.heap[w.heap.size + 1]? = some (.cells #[.slice none 0 0, .slice none 0 0] 31 (0, 0))) := Lib.hid (by rw [hW0]; exact three2 w _ _ _ _)
  have HEx := Lib.hid (implExpP_any g1 g2 fa1 lb1 lb2 eg1 eg2 T acc Ma Mb M x0 W0 ha hb hM hM1 h0 hT (λ V x k hV hx hk => H1 V x k (HB0.out.trans (hV.mono HB0.out.size)) hx hk) (λ V x hV hx => H2 V x (HB0.out.trans (hV.mono HB0.out.size)) hx))
  have HYy := Lib.hid hy
  obtain ⟨q0, q1, -, -⟩ := box2_facts (show W0.heap[w.heap.size]? = some (.cells #[.int .i64 (x0.1 : Int), .int .i64 (x0.2 : Int)] 133 (0, 0)) by rw [hW0]; exact (Below.heap_alloc _ _ _ (by simp)).trans (heap_alloc_new w _))
  rw [hW0] at q0 q1
  clear hy hT H1 H2 h0 hM1
  go_enter Tryz.func119, Tryz.ntmps119
  go_wp2_with fail
  go_at_call 129
  rw [<- hW0]
  refine HEx.out.mono ?_
  rintro e w1 (⟨N, va2, vr2, hE, hN, rfl, hau, hb1⟩ | ⟨hno, rfl, hb1⟩)
  . have HB1 := Lib.hid hb1
    obtain ⟨W2, hW2⟩ : ∃ W2, W2 = w1.alloc (.cells #[va2, vr2] 107) := ⟨_, rfl⟩
    have HB2 : Hid (Below w1.heap.size w1 W2) := Lib.hid (by rw [hW2]; exact (Below.refl _ _).alloc (Nat.le_refl _) _)
    obtain ⟨a0, a1, -, -⟩ := box2_facts (show W2.heap[w1.heap.size]? = some (.cells #[va2, vr2] 107 (0, 0)) by rw [hW2]; exact heap_alloc_new w1 _)
    have HMn := Lib.hid (implMinz_any va2 vr2 (found x0 T acc N) W2 (hE.num acc) (by show N <= 2000; omega) (hau.kept HB2.out))
    have HE := Lib.hid hE
    obtain ⟨ga, ca, gr, cr, rfl, rfl, -, -⟩ := hau
    clear q0 q1 hb1 hE
    rw [hW2] at a0 a1
    go_wp2_with fail
    go_at_call 68
    rw [<- hW2]
    refine HMn.out.mono ?_
    rintro e w3 ⟨m, m1, m2, hcd⟩
    obtain ⟨rfl, rfl⟩ := srchR_yes HYy.out hN HE.out m1 m2
    obtain ⟨A1, p1, A2, p2, rfl, hoo, hb3⟩ := hcd.shape
    obtain ⟨x1, hx1⟩ : ∃ x, x = (fitD m).acc.length := ⟨_, rfl⟩
    obtain ⟨x2, hx2⟩ : ∃ x, x = (fitD m).nxt.length := ⟨_, rfl⟩
    obtain ⟨ok, hok⟩ : ∃ b, b = decide (m.n <= 40) := ⟨_, rfl⟩
    rw [<- hx1, <- hx2] at hoo ⊢
    rw [<- hok]
    have HOk := Lib.hid hok
    have HO3 := Lib.hid hoo
    have HB3 := Lib.hid (HB1.out.trans ((HB2.out.trans (hb3.mono HB2.out.size)).mono HB1.out.size))
    have hz1 := HB1.out.size
    have hz2 := HB2.out.size
    have hz3 := hb3.size
    have hyl := blk_lt HY.out
    obtain ⟨c0, c1, k0, k1⟩ := box2_facts ((HB3.out.block _ hyl).trans HY.out)
    obtain ⟨hcl, hsz, hot, hBl⟩ := put2 (k := .slice A1 x1 p1) (l := .slice A2 x2 p2) c0 c1
    obtain ⟨hc0, hc1⟩ := hcl
    have HOt := Lib.hid (And.intro hsz (And.intro hot hBl))
    clear hsz hot hBl hoo hb3 hcd hx1 hx2 m1 m2 hok a0 a1 hW2 hW0
    go_wp2_with fail
    refine bodyPost_ret (v := .tuple #[.agg #[.slice A1 x1 p1, .slice A2 x2 p2], .bool ok]) (by simp [results, Tryz.results119, go_sem, hc0, hc1]) rfl ?_
    have h0 := HB0.out.size
    rw [<- HOk.out]
    exact ⟨_, _, rfl, HO3.out.mono (λ g hg => HOt.out.2.1 g (by have := hg.1; omega)) (λ g hg => ⟨by have := hg.1; omega, by rw [HOt.out.1]; exact hg.2⟩) (by rw [HOt.out.1]; exact Nat.le_refl _), HOt.out.2.2 _ _ (HB0.out.trans (HB3.out.mono h0)) (by omega)⟩
  . have HB1 := Lib.hid hb1
    obtain ⟨rfl, rfl⟩ := srchR_no HYy.out hno
    obtain ⟨c0, c1, k0, k1⟩ := box2_facts (((HB1.out.alloc HB1.out.size (.cells #[.slice none 0 0, .slice none 0 0] 107)).block _ (blk_lt HY.out)).trans HY.out)
    obtain ⟨hcl, hsz, hot, hBl⟩ := put2 (k := .slice none 0 0) (l := .slice none 0 0) c0 c1
    obtain ⟨hr0, hr1⟩ := hcl
    have HOt := Lib.hid hBl
    clear q0 q1 hsz hot hBl hb1 hW0
    go_wp2_with fail
    refine bodyPost_ret (v := .tuple #[.agg #[.slice none 0 0, .slice none 0 0], .bool false]) (by simp [results, Tryz.results119, go_sem, hr0, hr1]) rfl ?_
    exact ⟨_, _, rfl, DfaO.empty _ _, HOt.out _ _ (HB0.out.trans ((HB1.out.alloc HB1.out.size _).mono HB0.out.size)) (by omega)⟩
end Go.Proofs.YtiijlpmdnokjfaaGreatDoor
