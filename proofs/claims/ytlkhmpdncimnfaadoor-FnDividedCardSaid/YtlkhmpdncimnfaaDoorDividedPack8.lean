/-
  Texts of one proof, one behind the other.
-/
import Derived.DeepKeys5
import Derived.Test.YtlkhmpdncimnfaaDoorShelf
import Derived.Deep.RegionHeld3
import Derived.BigQuiet
import Derived.Test.YtlkhmpdncimnfaaDoorDividedPack7

/-
  A mark and a set of states as the program lays them: their cells, their keys. Of no function of the program.
  What impl.explore answers over these: the automaton that a search in breadth numbers, or the word that too much was met.
-/
namespace Go.Proofs.YtlkhmpdncimnfaaDoor
open Go.RowKit Go.Maps

theorem seInfo : (Tryd.prog.info? 72).map (fun i => (i.zero, i.size, i.bytes)) = some (some (.agg #[.bool false, .int .u64 0]), 2, 16) := by kernel_rfl
theorem laidOut_progR : laidOutB Tryd.prog = true := by kernel_rfl
theorem lawSE : Keyed Tryd.prog 72 := Keyed.of_law (deep_law_gate laidOut_progR (of_decide_eq_true (by kernel_rfl)) (of_decide_eq_true (by kernel_rfl)) (by kernel_rfl) (by kernel_rfl))
/-- A key. -/
def klR (x : Bool × List Nat) : Lit := .string (keyBytes [.bool x.1, .int .u64 ((mskS x.2 : Nat) : Int)])

theorem klR_key {nb : Nat} (hb : nb ≤ 40) {x : Bool × List Nat} (h : okR nb x) : keyOf Tryd.prog 72 (.agg #[.bool x.1, .int .u64 ((mskS x.2 : Nat) : Int)]) = some (klR x) := by
  have h2 := msk_wf (s := x.2) (fun q hq => by have := h.2 q hq; omega)
  have hk : Tryd.prog.keyType 72 = true := by kernel_rfl
  have hc : Tryd.prog.cellsOf 72 = 2 := by kernel_rfl
  have hi : Tryd.prog.cellsOf 4 = 1 := by kernel_rfl
  have hi' : Tryd.prog.cellsOf 48 = 1 := by kernel_rfl
  have hsz : 72 < Tryd.prog.types.size := of_decide_eq_true (by kernel_rfl)
  obtain ⟨m, hm⟩ : ∃ m, Tryd.prog.types.size = m + 1 := ⟨Tryd.prog.types.size - 1, by omega⟩
  have hu := Tryd.underlying72
  have hv := Tryd.underlying4
  have hv' := Tryd.underlying48
  obtain ⟨P, hP⟩ : ∃ P, P = Tryd.prog := ⟨_, rfl⟩
  rw [← hP] at hk hc hi hi' hm hu hv hv' ⊢
  simp [keyOf, hu, hk, Value.formed, Program.keyLits, hc, hi, hi', Value.cells, hm, hv, hv', h2, klR]
theorem klR_inj {nb : Nat} (hb : nb ≤ 40) (x y : Bool × List Nat) (hx : okR nb x) (hy : okR nb y) (h : klR x = klR y) : x = y := by
  have h1 := klR_key hb hx
  have h2 := klR_key hb hy
  rw [← h] at h2
  have h3 := lawSE.inj h1 h2
  simp at h3
  exact Prod.ext h3.1 (msk_inj hx.1 hy.1 (by omega))
/-- As cells. -/
def seC (l : List (Bool × List Nat)) : List Value := l.flatMap fun x => [.bool x.1, .int .u64 ((mskS x.2 : Nat) : Int)]
theorem seC_snoc (l : List (Bool × List Nat)) (x : Bool × List Nat) : seC (l ++ [x]) = seC l ++ [.bool x.1, .int .u64 ((mskS x.2 : Nat) : Int)] := by simp [seC]
theorem seC_at : ∀ (l : List (Bool × List Nat)) (i : Nat), i < l.length → (seC l)[i * 2]? = some (.bool ((l.getD i default)).1) ∧ (seC l)[i * 2 + 1]? = some (.int .u64 ((mskS ((l.getD i default)).2 : Nat) : Int))
  | [], i, h => absurd h (Nat.not_lt_zero _)
  | x :: l, 0, _ => ⟨rfl, rfl⟩
  | x :: l, i + 1, h => by
    have ih := seC_at l i (by simpa using h)
    have e : seC (x :: l) = .bool x.1 :: .int .u64 ((mskS x.2 : Nat) : Int) :: seC l := rfl
    rw [e, show (i + 1) * 2 = i * 2 + 1 + 1 by omega]
    simpa using ih

set_option maxRecDepth 100000 in
set_option maxHeartbeats 6400000 in
theorem implExpR_any (g1 g2 : Nat) (lb1 lb2 : Array Value) (eg1 : ∀ args w, (callFunc g1 args).run Tryd.prog w = .ok (.enter g1 args) w) (eg2 : ∀ args w, (callFunc g2 args).run Tryd.prog w = .ok (.enter g2 args) w)
    (T : Bool × List Nat → Nat → Bool × List Nat) (acc : Bool × List Nat → Bool) (nb : Nat) (M : Nat) (x0 : Bool × List Nat) (w : World) (hb : nb ≤ 40) (hM : M ≤ 2000) (hM1 : 1 ≤ M) (h0 : okR nb x0) (hT : ∀ x k, okR nb x → k < 3 → okR nb (T x k))
    (H1 : ∀ (V : World) (x : Bool × List Nat) (k : Nat), Below w.heap.size w V → okR nb x → k < 3 → Calls Tryd.prog g1 (#[.agg #[.bool x.1, .int .u64 ((mskS x.2 : Nat) : Int)], .int .i64 (k : Int)] ++ lb1) V fun e w' => e = .returned (.agg #[.bool ((T x k)).1, .int .u64 ((mskS ((T x k)).2 : Nat) : Int)]) ∧ Below V.heap.size V w')
    (H2 : ∀ (V : World) (x : Bool × List Nat), Below w.heap.size w V → okR nb x → Calls Tryd.prog g2 (#[.agg #[.bool x.1, .int .u64 ((mskS x.2 : Nat) : Int)]] ++ lb2) V fun e w' => e = .returned (.bool (acc x)) ∧ Below V.heap.size V w') :
    Calls Tryd.prog 65 #[.agg #[.bool x0.1, .int .u64 ((mskS x0.2 : Nat) : Int)], .func (.func g1) #[] lb1, .func (.func g2) #[] lb2, .int .i64 (M : Int)] w (ExpPost x0 T acc M w) := by
  obtain ⟨i0, hi, hz0, hz1, hz2⟩ := info_parts seInfo
  obtain ⟨b0, hbi, hb0, hb1, hb2⟩ := info_parts boolInfo
  obtain ⟨r0, hri, hr0, hr1, hr2⟩ := info_parts rowInfo3
  have hmm := @run_makeMap Tryd.prog
  have HIn : Hid (∀ x y, okR nb x → okR nb y → klR x = klR y → x = y) := Lib.hid (fun x y hx hy h => klR_inj hb x y hx hy h)
  have HKy : Hid (∀ x, okR nb x → keyOf Tryd.prog 72 (.agg #[.bool x.1, .int .u64 ((mskS x.2 : Nat) : Int)]) = some (klR x)) := Lib.hid (fun x h => klR_key hb h)
  have HKeys : Hid (∀ i, (∀ j, j < i → j < (ords x0 T (3 * j)).length) → ∀ t, t ≤ 3 * i → ∀ x ∈ ords x0 T t, okR nb x) := Lib.hid (fun i ha t => ords_ok (Ok := okR nb) h0 hT ha t)
  have HTT := Lib.hid hT
  have HH1 := Lib.hid H1
  have HH2 := Lib.hid H2
  clear hT H1 H2
  obtain ⟨W2, hW2⟩ : ∃ W2, W2 = ((w.alloc (.cells #[.bool x0.1, .int .u64 ((mskS x0.2 : Nat) : Int)] 72)).alloc (.cells #[.slice none 0 0, .slice none 0 0] 90)).alloc (.cells #[.slice none 0 0, .slice none 0 0] 90) := ⟨_, rfl⟩
  have HB2 : Hid (Below w.heap.size w W2) := Lib.hid (by rw [hW2]; exact (((Below.refl _ _).alloc (Nat.le_refl _) _).alloc (by simp) _).alloc (by simp; omega) _)
  have HZ2 : Hid (W2.heap.size = w.heap.size + 1 + 1 + 1) := Lib.hid (by rw [hW2]; simp)
  have HX2 : Hid (W2.heap[w.heap.size + 1]? = some (.cells #[.slice none 0 0, .slice none 0 0] 90 (0, 0)) ∧ W2.heap[w.heap.size + 1 + 1]? = some (.cells #[.slice none 0 0, .slice none 0 0] 90 (0, 0))) := Lib.hid (by
    rw [hW2]
    have h1 := heap_alloc_new (w.alloc (.cells #[.bool x0.1, .int .u64 ((mskS x0.2 : Nat) : Int)] 72)) (.cells #[.slice none 0 0, .slice none 0 0] 90)
    have h2 := heap_alloc_new ((w.alloc (.cells #[.bool x0.1, .int .u64 ((mskS x0.2 : Nat) : Int)] 72)).alloc (.cells #[.slice none 0 0, .slice none 0 0] 90)) (.cells #[.slice none 0 0, .slice none 0 0] 90)
    rw [World.size_alloc] at h1 h2
    rw [World.size_alloc] at h2
    exact ⟨(Below.heap_alloc _ _ _ (by simp)).trans h1, h2⟩)
  have HP2 : Hid (W2.heap[w.heap.size]? = some (.cells #[.bool x0.1, .int .u64 ((mskS x0.2 : Nat) : Int)] 72 (0, 0))) := Lib.hid (by
    rw [hW2]
    exact (Below.heap_alloc _ _ _ (by simp; omega)).trans ((Below.heap_alloc _ _ _ (by simp)).trans (heap_alloc_new w _)))
  go_enter Tryd.func65, Tryd.ntmps65
  go_upto_region 2 with fail
  rw [← hW2]
  clear hW2
  have hk0 := HKy.out x0 h0
  have hown0 := World.ownsMap_made (H := Unit) W2 Tryd.prog 72 (plainElem Tryd.prog 3)
  have hpa : (W2.alloc (.map #[] 0)).heap[w.heap.size]? = some (.cells #[.bool x0.1, .int .u64 ((mskS x0.2 : Nat) : Int)] 72 (0, 0)) := (Below.heap_alloc _ _ _ (by have := HZ2.out; omega)).trans HP2.out
  obtain ⟨p0, p1, -, -⟩ := box2_facts hpa
  have HPa := Lib.hid hpa
  clear hpa
  go_upto_region 3 with (refine wpList_insert_own _ rfl (.tmp 19) (.tmp 20) _ 116 rfl 72 3 lawSE Tryd.underlying116 _ W2.heap.size 0 _ rfl hown0 (by unfold maxLen; omega) _ _ _ rfl rfl hk0 _ [] (plainElem_int Tryd.underlying3 (a := 0) (by decide)) ?_; intro w3 hown3 hg3)
  have hp3 : w3.heap[w.heap.size]? = some (.cells #[.bool x0.1, .int .u64 ((mskS x0.2 : Nat) : Int)] 72 (0, 0)) := (hg3.block _ (blk_lt HPa.out) (fun e => by injection e with e; have := HZ2.out; omega)).trans HPa.out
  obtain ⟨p2, p3, -, -⟩ := box2_facts hp3
  clear p0 p1 hp3
  go_wp2_with fail
  clear p2 p3
  obtain ⟨bM, hbM⟩ : ∃ bM, bM = W2.heap.size := ⟨_, rfl⟩
  rw [← hbM] at hown3 hg3 ⊢
  obtain ⟨W4, hW4⟩ : ∃ W4, W4 = w3.alloc (.cells #[.bool x0.1, .int .u64 ((mskS x0.2 : Nat) : Int)] 72) := ⟨_, rfl⟩
  rw [← hW4]
  obtain ⟨B, hB⟩ : ∃ B, B = w.heap.size + 1 + 1 := ⟨_, rfl⟩
  rw [← hB] at HX2 HZ2 ⊢
  have HBe := Lib.hid hB
  have hmx : MapOf klR (okR nb) ((DataW.map []).put (klR x0) (.lit (.int .i64 0))) [x0] := (MapOf.nil klR (okR nb)).put HIn.out (fun x _ => by trivial) h0 (by simp)
  have HS4 : Hid (ExpS 72 2 B bM B (.slice none 0 0) (.slice none 0 0) (.slice (some ⟨w3.heap.size, 0, none⟩) 1 1) [] 0 [] 1 (seC [x0]) 1 ((DataW.map []).put (klR x0) (.lit (.int .i64 0))) W4 ∧ Below B W2 W4) := Lib.hid (by
    have hg2 : W2.grownBy (W2.alloc (.map #[] 0)) none := World.grownBy_alloc _ _ _
    have hz := HZ2.out
    have hba : Below B W2 (W2.alloc (.map #[] 0)) := (Below.refl _ _).alloc (by omega) _
    have hb3 : Below B W2 w3 := hba.grown hg3 (by simp; omega) (fun k e => by cases e; omega)
    have hb4 : Below B W2 W4 := by rw [hW4]; exact hb3.alloc (by have := hb3.size; omega) _
    refine ⟨⟨⟨rfl, .inl ⟨rfl, rfl⟩⟩, ⟨rfl, .inl ⟨rfl, rfl⟩⟩, ?_, ?_, ?_, ⟨Nat.le_refl _, by omega⟩, by decide, by decide, by decide⟩, hb4⟩
    · rw [hW4]
      exact ⟨rfl, .inr ⟨w3.heap.size, 1, #[.bool x0.1, .int .u64 ((mskS x0.2 : Nat) : Int)], rfl, by have := hb3.size; omega, heap_alloc_new w3 _, Nat.le_refl _, by decide, rfl, rfl⟩⟩
    · rw [hW4]
      exact hown3.alloc _
    · rw [hW4]
      have h1 := (hg3.block B (by simp; omega) (fun e => by injection e with e; omega)).trans ((Below.heap_alloc W2 _ B (by omega)).trans HX2.out.2)
      exact (Below.heap_alloc w3 _ B (blk_lt h1)).trans h1)
  have HM4 := Lib.hid hmx
  clear hown0 hown3 hg3 hW4 hmx hB hbM hk0
  have HE0 : Hid (ords x0 T (3 * 0) = [x0]) := Lib.hid rfl
  go_loopw [12, 13] (fun vo iv wr => ∃ (i : Nat) (va vr : Value) (D : DataW Unit), iv = .int .i64 i ∧ i ≤ M ∧ Hid ((ords x0 T (3 * i)).length ≤ M) ∧ Hid (Below B W2 wr) ∧ Hid (∀ j, j < i → j < (ords x0 T (3 * j)).length) ∧ Hid (ExpS 72 2 B bM B va vr vo ((List.range i).map fun j => acc (keyA x0 T j)) i (rowsC x0 T i) (ords x0 T (3 * i)).length (seC (ords x0 T (3 * i))) (ords x0 T (3 * i)).length D wr ∧ MapOf klR (okR nb) D (ords x0 T (3 * i)))) (fun _ iv _ => M + 1 - (intOf iv).toNat)
  case atStart => exact ⟨0, _, _, _, rfl, Nat.zero_le _, Lib.hid hM1, Lib.hid HS4.out.2, Lib.hid (fun j hj => absurd hj (Nat.not_lt_zero _)), Lib.hid ⟨HS4.out.1, HM4.out⟩⟩
  case round =>
    obtain ⟨i, va, vr, D, rfl, hin, HLe, HBr, hon, HS⟩ := hrel
    clear HS4 HM4 HE0
    obtain ⟨l, hl⟩ : ∃ l, l = ords x0 T (3 * i) := ⟨_, rfl⟩
    rw [← hl] at HS
    have hll : l.length ≤ M := by rw [hl]; exact HLe.out
    have hl0 : 0 < l.length := by rw [hl]; exact ords_pos _
    obtain ⟨go, co, hvo, -, -⟩ := own_cell HS.out.1.ord hl0
    subst hvo
    have HL := Lib.hid hl
    by_cases hlt : i < l.length
    · have hi1 : i < (ords x0 T (3 * i)).length := by rw [← hl]; exact hlt
      have HON : Hid (∀ j, j < i + 1 → j < (ords x0 T (3 * j)).length) := Lib.hid (fun j hj => by
        rcases Nat.lt_or_eq_of_le (Nat.le_of_lt_succ hj) with h | h
        · exact hon.out j h
        · rw [h]; exact hi1)
      clear hl
      have hd : decide ((i : Int) < (l.length : Int)) = true := by simp; omega
      go_upto_region 9 with fail
      obtain ⟨bx, hbx⟩ : ∃ bx, bx = wr.heap.size := ⟨_, rfl⟩
      obtain ⟨V0, hV0⟩ : ∃ V0, V0 = wr.alloc (.cells #[.int .i64 0, .int .i64 0, .int .i64 0] 109) := ⟨_, rfl⟩
      rw [← hV0, ← hbx]
      obtain ⟨accs, hacc⟩ : ∃ accs, accs = (List.range i).map fun j => acc (keyA x0 T j) := ⟨_, rfl⟩
      obtain ⟨rows, hrows⟩ : ∃ rows, rows = rowsC x0 T i := ⟨_, rfl⟩
      rw [← hacc, ← hrows] at HS
      have HAc := Lib.hid (And.intro hacc hrows)
      have hal : accs.length = i := by rw [hacc]; simp
      have HAl := Lib.hid hal
      have HNx : Hid (ExpN B bM B va vr (.slice (some ⟨go, 0, none⟩) l.length co) bx) := Lib.hid (HS.out.1.fresh (by rw [hbx]; exact Nat.le_refl _))
      have HS0 : Hid (Below B W2 V0 ∧ (ExpS 72 2 B bM B va vr (.slice (some ⟨go, 0, none⟩) l.length co) accs i rows (ords x0 T (3 * i + 0)).length (seC (ords x0 T (3 * i + 0))) (ords x0 T (3 * i + 0)).length D V0 ∧ MapOf klR (okR nb) D (ords x0 T (3 * i + 0))) ∧ Arr3 V0 bx (cutV (toA x0 T i) 0)) := Lib.hid (by
        rw [Nat.add_zero, ← HL.out]
        refine ⟨by rw [hV0]; exact HBr.out.alloc (Nat.le_of_lt HS.out.1.base) _, ⟨HS.out.1.below (by rw [hV0]; exact (Below.refl _ _).alloc (Nat.le_refl _) _), HS.out.2⟩, ?_⟩
        rw [hV0, hbx]
        exact heap_alloc_new wr _)
      clear hd hV0 hacc hrows hal HS hbx
      go_loopw [12, 30] (fun vo kv wq => ∃ (k : Nat) (D : DataW Unit), kv = .int .i64 k ∧ k ≤ 3 ∧ Hid ((ords x0 T (3 * i + k)).length ≤ M) ∧ Hid (Below B W2 wq ∧ (ExpS 72 2 B bM B va vr vo accs i rows (ords x0 T (3 * i + k)).length (seC (ords x0 T (3 * i + k))) (ords x0 T (3 * i + k)).length D wq ∧ MapOf klR (okR nb) D (ords x0 T (3 * i + k))) ∧ Arr3 wq bx (cutV (toA x0 T i) k))) (fun _ kv _ => 3 - (intOf kv).toNat)
      case atStart => exact ⟨0, _, rfl, Nat.zero_le _, HLe, HS0⟩
      case round =>
        obtain ⟨k, Dk, rfl, hk, HLk, HQ⟩ := hrel
        clear HS0
        by_cases hk3 : k < 3
        · obtain ⟨st1, st2⟩ := keyA_step (s0 := x0) (g := T) hi1 hk3
          obtain ⟨hil, hkey⟩ := keyA_at (s0 := x0) (g := T) (t := 3 * i + k) hi1 (by omega)
          have hxM : okR nb (keyA x0 T i) := HKeys.out (i + 1) HON.out (3 * i) (by omega) _ (getD_mem hi1)
          obtain ⟨x, hx⟩ : ∃ x, x = keyA x0 T i := ⟨_, rfl⟩
          obtain ⟨lq, hlq⟩ : ∃ lq, lq = ords x0 T (3 * i + k) := ⟨_, rfl⟩
          rw [← hx, ← hlq] at st1 st2
          rw [← hlq] at HQ hil hkey
          rw [← hx] at hkey hxM
          have hlqM : lq.length ≤ M := by rw [hlq]; exact HLk.out
          have HLq := Lib.hid (And.intro hlq hx)
          have HLe2 := Lib.hid hlqM
          clear hlq hx
          obtain ⟨y, hy⟩ : ∃ y, y = T x k := ⟨_, rfl⟩
          have hyM : okR nb y := by rw [hy]; exact HTT.out x k hxM hk3
          rw [← hy] at st1 st2
          obtain ⟨gq, cq, hvq, -, hcq⟩ := own_cell HQ.out.2.1.1.ord (by omega)
          subst hvq
          have hpc := seC_at lq i hil
          rw [hkey] at hpc
          have hci := (hcq (i * 2) (by omega)).trans hpc.1
          have hcj := (hcq (i * 2 + 1) (by omega)).trans hpc.2
          clear hpc
          have HC1 : Hid (Calls Tryd.prog g1 (#[.agg #[.bool x.1, .int .u64 ((mskS x.2 : Nat) : Int)], .int .i64 (k : Int)] ++ lb1) wr fun e w' => e = .returned (.agg #[.bool y.1, .int .u64 ((mskS y.2 : Nat) : Int)]) ∧ Below wr.heap.size wr w') := Lib.hid (by
            rw [hy]
            refine HH1.out wr x k (HB2.out.trans (HQ.out.1.mono ?_)) hxM hk3
            have := HBe.out
            omega)
          have HSt := Lib.hid (And.intro st1 st2)
          have s1 : (i : Int) < (lq.length : Int) := by omega
          have s2 : (0 : Int) ≤ (i : Int) := by omega
          have s3 : (k : Int) < 3 := by omega
          have s4 : (0 : Int) ≤ (k : Int) := by omega
          clear hcq st1 st2 hkey hy
          go_wp2_with fail
          refine HC1.out.mono ?_
          rintro e w4 ⟨rfl, hb4⟩
          clear hci hcj
          go_upto_region 12 with fail
          obtain ⟨be, hbe⟩ : ∃ be, be = w4.heap.size := ⟨_, rfl⟩
          obtain ⟨w5, hw5⟩ : ∃ w5, w5 = w4.alloc (.cells #[.bool y.1, .int .u64 ((mskS y.2 : Nat) : Int)] 72) := ⟨_, rfl⟩
          rw [← hw5, ← hbe]
          have hb5 : Below wr.heap.size wr w5 := by rw [hw5]; exact hb4.alloc hb4.size _
          have HE5 : Hid (w5.heap[be]? = some (.cells #[.bool y.1, .int .u64 ((mskS y.2 : Nat) : Int)] 72 (0, 0)) ∧ bM ≠ be) := Lib.hid (by
            rw [hw5, hbe]
            refine ⟨heap_alloc_new w4 _, fun e => ?_⟩
            have h1 := HQ.out.2.1.1.map.lt
            have h2 := hb4.size
            omega)
          obtain ⟨p0, p1, -, -⟩ := box2_facts HE5.out.1
          clear hb4 hbe hw5
          have HQ5 := Lib.hid (And.intro (HQ.out.1.trans (hb5.mono (Nat.le_trans (by have := HZ2.out; omega) HQ.out.1.size))) (And.intro (HQ.out.2.1.1.below hb5) (HQ.out.2.2.same (hb5.block _ HQ.out.2.2.lt))))
          have HMo := Lib.hid HQ.out.2.1.2
          obtain ⟨kf1, kf2⟩ := HQ5.out.2.2.facts hk3
          have hky := HKy.out y hyM
          clear hb5
          by_cases hyl : y ∈ lq
          · have hhas : Maps.has Dk (klR y) = true := by rw [(HMo.out.2 y hyM).1]; simpa using hyl
            have HHit := Lib.hid (And.intro ((HMo.out.2 y hyM).2 hyl) (HSt.out.1 hyl))
            clear hyl
            go_wp2_with (at_lookup; refine wpList_lookup_own_ok_int _ rfl (.tmp 41) (.tmp 42) 116 rfl 72 3 .i64 lawSE Tryd.underlying116 Tryd.underlying3 (zeroInt _) bM _ _ rfl HQ5.out.2.1.map _ _ rfl hky ?_; intro c hat hwc)
            have hc : c = ((toA x0 T i k : Nat) : Int) := by
              have h1 := HHit.out.1 (.lit (.int .i64 0))
              rw [hat] at h1
              rw [HHit.out.2.2]
              injection h1 with h1
              injection h1 with _ h1
            subst hc
            have HQ6 : Hid (Below B W2 (w5.setCell ⟨bx, k, none⟩ (.int .i64 ((toA x0 T i k : Nat) : Int))) ∧ (ExpS 72 2 B bM B va vr (.slice (some ⟨gq, 0, none⟩) lq.length cq) accs i rows (ords x0 T (3 * i + (k + 1))).length (seC (ords x0 T (3 * i + (k + 1)))) (ords x0 T (3 * i + (k + 1))).length Dk (w5.setCell ⟨bx, k, none⟩ (.int .i64 ((toA x0 T i k : Nat) : Int))) ∧ MapOf klR (okR nb) Dk (ords x0 T (3 * i + (k + 1)))) ∧ Arr3 (w5.setCell ⟨bx, k, none⟩ (.int .i64 ((toA x0 T i k : Nat) : Int))) bx (cutV (toA x0 T i) (k + 1))) := Lib.hid (by
              have hN := HNx.out
              rw [HHit.out.2.1]
              refine ⟨below_set HQ5.out.1 hN.2.2.2.2.2 _, ⟨HQ5.out.2.1.set ⟨hN.1, hN.2.1, fun e => ?_, hN.2.2.2.1, hN.2.2.2.2.1, hN.2.2.2.2.2⟩ _, HMo.out⟩, HQ5.out.2.2.set hk3 (cutV_step _ k).1 (fun j _ hj => (cutV_step _ k).2 j hj)⟩
              obtain ⟨cur, hh⟩ := blk_ofz HQ5.out.2.1.ord e
              exact blk_ne hh HQ5.out.2.2 (by decide) rfl)
            clear kf1 kf2 hat hhas hwc p0 p1
            go_wp2_with fail
            go_roundw
            case rel => exact ⟨k + 1, Dk, by go_num, by omega, Lib.hid (by rw [HHit.out.2.1]; exact HLe2.out), HQ6⟩
            case measure => simp [intOf]; omega
          · have hhas : Maps.has Dk (klR y) = false := by rw [(HMo.out.2 y hyM).1]; simpa using hyl
            have HMiss := Lib.hid (And.intro hyl (HSt.out.2 hyl))
            clear hyl
            by_cases hfull : lq.length = M
            · have hcmp : ((lq.length : Int) == (M : Int)) = true := by simp; omega
              have HBig := Lib.hid (exp_big (M := M) HON.out hk3 (by rw [HMiss.out.2.1, List.length_append, hfull]; rfl))
              obtain ⟨c0, c1, k0, k1⟩ := box2_facts ((HQ5.out.1.block _ (by have := HBe.out; omega)).trans HX2.out.1)
              obtain ⟨hcl, hsz, hot, hBl⟩ := put2 (k := .slice none 0 0) (l := .slice none 0 0) c0 c1
              obtain ⟨hc0, hc1⟩ := hcl
              have HOt := Lib.hid (And.intro HQ5.out.1 hBl)
              clear hsz hot hBl kf1 kf2
              go_wp2_with (at_lookup; refine wpList_lookup_own_ok_int _ rfl (.tmp 41) (.tmp 42) 116 rfl 72 3 .i64 lawSE Tryd.underlying116 Tryd.underlying3 (zeroInt _) bM _ _ rfl HQ5.out.2.1.map _ _ rfl hky ?_; intro c hat hwc)
              refine bodyPost_ret (v := .tuple #[.agg #[.slice none 0 0, .slice none 0 0], .bool false]) (by simp [results, Tryd.results65, go_sem, hc0, hc1]) rfl ?_
              exact .inr ⟨HBig.out, rfl, HOt.out.2 _ _ (HB2.out.trans (HOt.out.1.mono (by have := HBe.out; omega))) (Nat.le_succ _)⟩
            have hcmp : ((lq.length : Int) == (M : Int)) = false := by simp; omega
            have hroom : lq.length + 1 ≤ M := by omega
            have HRoom := Lib.hid hroom
            clear hfull
            go_upto_region 17 with (at_lookup; refine wpList_lookup_own_ok_int _ rfl (.tmp 41) (.tmp 42) 116 rfl 72 3 .i64 lawSE Tryd.underlying116 Tryd.underlying3 (zeroInt _) bM _ _ rfl HQ5.out.2.1.map _ _ rfl hky ?_; intro c hat hwc)
            go_upto_region 18 with (at_mapUpdate; refine wpList_mapUpdate_own _ rfl (.tmp 55) (.tmp 56) (.tmp 57) 116 rfl 72 3 lawSE Tryd.underlying116 _ bM lq.length Dk rfl HQ5.out.2.1.map (by unfold maxLen; omega) _ _ _ rfl rfl hky _ [] (plainElem_int Tryd.underlying3 (klN_wf (x := lq.length) (by omega))) ?_; intro w6 hown6 hg6)
            have HQ6 := Lib.hid (HQ5.out.2.1.map_put hown6 hg6)
            have HA6 : Hid (Below B W2 w6 ∧ Arr3 w6 bx (cutV (toA x0 T i) k)) := Lib.hid ⟨HQ5.out.1.grown hg6 (Nat.le_of_lt HQ5.out.2.1.base) (fun j e => by injection e with e; rw [← e]; exact HQ5.out.2.1.low.2), HQ5.out.2.2.same (hg6.block bx HQ5.out.2.2.lt (fun e => HNx.out.2.2.2.1 (by injection e with e; exact e.symm)))⟩
            have hbw6 : B ≤ w6.heap.size := Nat.le_of_lt HQ6.out.base
            have HMp := Lib.hid (HMo.out.put HIn.out (fun x _ => by trivial) hyM HMiss.out.1)
            obtain ⟨p4, p5, -, -⟩ := box2_facts ((hg6.block be (blk_lt HE5.out.1) (fun e => HE5.out.2 (by injection e with e; exact e.symm))).trans HE5.out.1)
            clear hown6 hg6 hat hwc hhas kf1 kf2 p0 p1
            go_wp2_with (at_builtin; refine wpList_append_own_at _ rfl (.tmp 58) (.tmp 60) 117 rfl B 72 i0 (.agg #[.bool false, .int .u64 0]) 2 16 Tryd.underlying117 hi hz0 hz1 hz2 rfl (by decide) _ _ _ rfl (HQ6.out.ord.alloc _) ⟨w6.heap.size, 0, none⟩ 1 1 [.bool y.1, .int .u64 ((mskS y.2 : Nat) : Int)] rfl rfl (newB2 _ _ _ _) (by simp [Value.oneCell']) (by unfold maxLen; omega) (by omega) (by simp; omega) ?_)
            intro v' w7 hown' hgrow hnil hat
            have HQ7 : Hid (ExpS 72 2 B bM B va vr v' accs i rows (ords x0 T (3 * i + (k + 1))).length (seC (ords x0 T (3 * i + (k + 1)))) (ords x0 T (3 * i + (k + 1))).length (Dk.put (klR y) (.lit (.int .i64 ((lq.length : Nat) : Int)))) w7) := Lib.hid (by
              have h1 := (HQ6.out.below ((Below.refl _ _).alloc (Nat.le_refl _) (.cells #[.bool y.1, .int .u64 ((mskS y.2 : Nat) : Int)] 72))).ord_push hown' hgrow
              rw [HMiss.out.2.1]
              rw [seC_snoc, List.length_append]
              exact h1)
            have HA7 : Hid (Below B W2 w7 ∧ Arr3 w7 bx (cutV (toA x0 T i) k)) := Lib.hid (by
              refine ⟨(HA6.out.1.alloc hbw6 (.cells #[.bool y.1, .int .u64 ((mskS y.2 : Nat) : Int)] 72)).grown hgrow (by simp; omega) (fun j e => (HQ6.out.ord.lt j e).1), ?_⟩
              have h1 : Arr3 (w6.alloc (.cells #[.bool y.1, .int .u64 ((mskS y.2 : Nat) : Int)] 72)) bx (cutV (toA x0 T i) k) := HA6.out.2.same (Below.heap_alloc _ _ _ HA6.out.2.lt)
              refine h1.same (hgrow.block bx h1.lt (fun e => ?_))
              obtain ⟨cur, hh⟩ := blk_ofz HQ6.out.ord e.symm
              exact blk_ne hh HA6.out.2 (by decide) rfl)
            obtain ⟨kf1, kf2⟩ := HA7.out.2.facts hk3
            clear hown' hgrow hnil hat p4 p5
            have HQ8 : Hid (Below B W2 (w7.setCell ⟨bx, k, none⟩ (.int .i64 ((lq.length : Nat) : Int))) ∧ (ExpS 72 2 B bM B va vr v' accs i rows (ords x0 T (3 * i + (k + 1))).length (seC (ords x0 T (3 * i + (k + 1)))) (ords x0 T (3 * i + (k + 1))).length (Dk.put (klR y) (.lit (.int .i64 ((lq.length : Nat) : Int)))) (w7.setCell ⟨bx, k, none⟩ (.int .i64 ((lq.length : Nat) : Int))) ∧ MapOf klR (okR nb) (Dk.put (klR y) (.lit (.int .i64 ((lq.length : Nat) : Int)))) (ords x0 T (3 * i + (k + 1)))) ∧ Arr3 (w7.setCell ⟨bx, k, none⟩ (.int .i64 ((lq.length : Nat) : Int))) bx (cutV (toA x0 T i) (k + 1))) := Lib.hid (by
              have hN := HNx.out
              refine ⟨below_set HA7.out.1 hN.2.2.2.2.2 _, ⟨HQ7.out.set ⟨hN.1, hN.2.1, fun e => ?_, hN.2.2.2.1, hN.2.2.2.2.1, hN.2.2.2.2.2⟩ _, by rw [HMiss.out.2.1]; exact HMp.out⟩, HA7.out.2.set hk3 ?_ (fun j _ hj => (cutV_step _ k).2 j hj)⟩
              · obtain ⟨cur, hh⟩ := blk_ofz HQ7.out.ord e
                exact blk_ne hh HA7.out.2 (by decide) rfl
              · rw [(cutV_step _ k).1, HMiss.out.2.2])
            go_wp2_with fail
            go_roundw
            case rel => exact ⟨k + 1, _, by go_num, by omega, Lib.hid (by rw [HMiss.out.2.1, List.length_append]; exact HRoom.out), HQ8⟩
            case measure => simp [intOf]; omega
        · obtain rfl : k = 3 := by omega
          obtain ⟨hil, hkey⟩ := keyA_at (s0 := x0) (g := T) (t := 3 * i + 3) hi1 (by omega)
          have hxM : okR nb (keyA x0 T i) := HKeys.out (i + 1) HON.out (3 * i) (by omega) _ (getD_mem hi1)
          obtain ⟨x, hx⟩ : ∃ x, x = keyA x0 T i := ⟨_, rfl⟩
          obtain ⟨lq, hlq⟩ : ∃ lq, lq = ords x0 T (3 * i + 3) := ⟨_, rfl⟩
          rw [← hlq] at HQ hil hkey
          rw [← hx] at hkey hxM
          have hlqM : lq.length ≤ M := by rw [hlq]; exact HLk.out
          have HLq := Lib.hid (And.intro hlq hx)
          have HLe2 := Lib.hid hlqM
          clear hlq hx
          obtain ⟨gq, cq, hvq, -, hcq⟩ := own_cell HQ.out.2.1.1.ord (by omega)
          subst hvq
          have hpc := seC_at lq i hil
          rw [hkey] at hpc
          have hci := (hcq (i * 2) (by omega)).trans hpc.1
          have hcj := (hcq (i * 2 + 1) (by omega)).trans hpc.2
          clear hpc
          obtain ⟨b, hb⟩ : ∃ b, b = acc x := ⟨_, rfl⟩
          have HC2 : Hid (Calls Tryd.prog g2 (#[.agg #[.bool x.1, .int .u64 ((mskS x.2 : Nat) : Int)]] ++ lb2) wr.drew fun e w' => e = .returned (.bool b) ∧ Below wr.drew.heap.size wr.drew w') := Lib.hid (by
            rw [hb]
            refine HH2.out wr.drew x ((HB2.out.trans (HQ.out.1.mono ?_)).drew) hxM
            have := HBe.out
            omega)
          have HBb' := Lib.hid hb
          have s1 : (i : Int) < (lq.length : Int) := by omega
          have s2 : (0 : Int) ≤ (i : Int) := by omega
          have hal : accs.length ≤ 2000 := by rw [HAl.out]; omega
          have hbwr : B ≤ wr.heap.size := Nat.le_of_lt HQ.out.2.1.1.base
          have HQd := Lib.hid (HQ.out.2.1.1.below (Below.refl _ _).drew)
          obtain ⟨e0, -, e2, -⟩ := box2_facts HQ.out.2.1.1.box
          obtain ⟨e4, -, e6, -⟩ := box2_facts HQd.out.box
          obtain ⟨Aa, qa, hva⟩ := (RowO.of_owns HQ.out.2.1.1.acc (by omega)).row.shape
          rw [bools_length] at hva
          subst hva
          clear hcq hkey hb
          go_upto_region 21 with fail
          go_cut [] from 66 to 76 (fun wc => ∃ va2, Hid (ExpS 72 2 B bM B va2 vr (.slice (some ⟨gq, 0, none⟩) lq.length cq) (accs ++ [b]) i rows lq.length (seC lq) lq.length Dk wc) ∧ Hid (Below B W2 wc ∧ Arr3 wc bx (cutV (toA x0 T i) 3)))
          case first =>
            go_region_law (first
              | (refine step_call_val rfl (.tmp 68) _ _ rfl g2 lb2 (by simp [Act.eval]) eg2 #[.agg #[.bool x.1, .int .u64 ((mskS x.2 : Nat) : Int)]] (by simp [Act.eval]) HC2.out ?_; rintro e w1 ⟨rfl, hb1⟩; have HO1 := Lib.hid (HQd.out.below hb1); have HA1 := Lib.hid (And.intro (HQ.out.1.drew.trans (hb1.mono (by show B ≤ wr.heap.size; omega))) (HQ.out.2.2.same (hb1.block bx HQ.out.2.2.lt))); obtain ⟨l0, -, l2, -⟩ := box2_facts HO1.out.box; have HO1a := Lib.hid (HO1.out.below ((Below.refl _ _).alloc (Nat.le_refl _) (.cells #[.bool b] 4))); obtain ⟨l4, -, l6, -⟩ := box2_facts HO1a.out.box; have hbw1 : B ≤ w1.heap.size := Nat.le_of_lt HO1.out.base; clear hb1; refine ⟨_, rfl, ?_⟩)
              | (refine step_append_own_at rfl (.tmp 67) (.tmp 74) 24 rfl B 4 b0 (.bool false) 1 1 Tryd.underlying24 hbi hb0 hb1 hb2 rfl (by decide) _ _ _ rfl (HO1.out.acc.alloc _) ⟨w1.heap.size, 0, none⟩ 1 1 [.bool b] rfl rfl (cell_one_new w1 _ _) (by simp [Value.oneCell']) (by unfold maxLen; omega) (by omega) (by simp; omega) ?_; intro v' w9 hown' hgrow hat; obtain ⟨g', cap', rfl⟩ := own_succ hown'; have HB9 := Lib.hid (((HA1.out.1.alloc hbw1 (.cells #[.bool b] 4)).grown hgrow (by simp; omega) (fun g e => (HO1.out.acc.lt g e).1)).setCell (p := ⟨B, 0, none⟩) (Nat.le_refl _) (.slice (some ⟨g', 0, none⟩) (accs.length + 1) cap')); obtain ⟨z1, z2, HQ9⟩ := HO1a.out.acc_push hown' hgrow; obtain ⟨z0, z1⟩ := z1; have HQ9 := Lib.hid HQ9; have HG9 := Lib.hid hgrow))
            all_goals
              have HX9 : Hid (Arr3 (w9.setCell ⟨B, 0, none⟩ (.slice (some ⟨g', 0, none⟩) (accs.length + 1) cap')) bx (cutV (toA x0 T i) 3)) := Lib.hid (by
                have hxa : Arr3 (w1.alloc (.cells #[.bool b] 4)) bx (cutV (toA x0 T i) 3) := HA1.out.2.same (Below.heap_alloc _ _ _ HA1.out.2.lt)
                refine (hxa.same (HG9.out.block bx hxa.lt (fun e => HNx.out.1 ?_))).same (Below.heap_setCell _ _ _ _ (fun e => HNx.out.2.2.2.2.1 (Eq.symm e)))
                exact e.symm)
              clear hown' hgrow hat z1 z2 l0 l2 l4 l6 e0 e2 e4 e6
              go_wp2_with fail
              go_meet
              exact ⟨_, HQ9, Lib.hid ⟨HB9.out, HX9.out⟩⟩
          case rest =>
            obtain ⟨va2, HQ9, HA9⟩ := hcut
            clear e0 e2 e4 e6 hci hcj
            have hbw9 : B ≤ wc.heap.size := Nat.le_of_lt HQ9.out.base
            obtain ⟨-, e1, -, e3⟩ := box2_facts HQ9.out.box
            have hx3 : Bx3 wc bx (.int .i64 ((toA x0 T i 0 : Nat) : Int)) (.int .i64 ((toA x0 T i 1 : Nat) : Int)) (.int .i64 ((toA x0 T i 2 : Nat) : Int)) 109 := HA9.out.2
            obtain ⟨⟨c0, c1, c2⟩, -⟩ := hx3.facts
            clear hx3
            obtain ⟨t0, ht0⟩ : ∃ y : Int, y = ((toA x0 T i 0 : Nat) : Int) := ⟨_, rfl⟩
            obtain ⟨t1, ht1⟩ : ∃ y : Int, y = ((toA x0 T i 1 : Nat) : Int) := ⟨_, rfl⟩
            obtain ⟨t2, ht2⟩ : ∃ y : Int, y = ((toA x0 T i 2 : Nat) : Int) := ⟨_, rfl⟩
            rw [← ht0] at c0
            rw [← ht1] at c1
            rw [← ht2] at c2
            have HRw : Hid (rows ++ [.int .i64 t0, .int .i64 t1, .int .i64 t2] = rowsC x0 T (i + 1)) := Lib.hid (by rw [rowsC_succ, HAc.out.2, ht0, ht1, ht2]; rfl)
            clear ht0 ht1 ht2
            go_wp2_with (at_builtin; refine wpList_append_own_at _ rfl (.tmp 78) (.tmp 80) 88 rfl B 109 r0 (.agg #[.int .i64 0, .int .i64 0, .int .i64 0]) 3 24 Tryd.underlying88 hri hr0 hr1 hr2 rfl (by decide) _ _ _ rfl (HQ9.out.row.alloc _) ⟨wc.heap.size, 0, none⟩ 1 1 [.int .i64 t0, .int .i64 t1, .int .i64 t2] rfl rfl (newB3 wc _ _ _ _) (by simp [Value.oneCell']) (by unfold maxLen; omega) (by omega) (by simp; omega) ?_)
            intro v' w9 hown' hgrow hnil hat
            obtain ⟨gn, capn, rfl⟩ := own_succ hown'
            obtain ⟨⟨z0, z1⟩, z2, HQb⟩ := (HQ9.out.below ((Below.refl _ _).alloc (Nat.le_refl _) (.cells #[.int .i64 t0, .int .i64 t1, .int .i64 t2] 109))).row_push hown' hgrow
            rw [HRw.out] at HQb
            have HQb := Lib.hid HQb
            have HBb := Lib.hid (((HA9.out.1.alloc hbw9 (.cells #[.int .i64 t0, .int .i64 t1, .int .i64 t2] 109)).grown hgrow (by simp; omega) (fun g e => (HQ9.out.row.lt g e).1)).setCell (p := ⟨B, 1, none⟩) (Nat.le_refl _) (.slice (some ⟨gn, 0, none⟩) (i + 1) capn))
            have HA1 : Hid (accs ++ [b] = (List.range (i + 1)).map fun j => acc (keyA x0 T j)) := Lib.hid (by rw [List.range_succ, List.map_append, HAc.out.1, HBb'.out, HLq.out.2]; rfl)
            rw [HA1.out] at HQb
            have HMk := Lib.hid HQ.out.2.1.2
            clear hown' hgrow hnil hat
            go_wp2_with fail
            go_roundw
            case rel => exact ⟨i + 1, _, _, Dk, by go_num, by omega, Lib.hid (by rw [show 3 * (i + 1) = 3 * i + 3 by omega]; exact HLk.out), HBb, HON, by
              rw [show 3 * (i + 1) = 3 * i + 3 by omega, ← HLq.out.1]
              exact Lib.hid ⟨HQb.out, HMk.out⟩⟩
            case measure => simp [intOf]; omega
    · have hE : Ends x0 T i := ⟨hon.out, by rw [← hl]; omega⟩
      have hEl := hE.length
      have hiM : i ≤ M := by rw [← hEl]; exact HLe.out
      have hi0 := hE.pos
      have HE := Lib.hid hE
      obtain ⟨ga, ca, rfl, hga, hca⟩ := own_cell HS.out.1.acc (by simp; omega)
      obtain ⟨gr, cr, rfl, hgr, hcr⟩ := own_cell HS.out.1.row hi0
      have HAu : Hid (∀ V : World, (∀ g, g ≠ w.heap.size + 1 → V.heap[g]? = wr.heap[g]?) → AutoV V (.slice (some ⟨ga, 0, none⟩) i ca) (.slice (some ⟨gr, 0, none⟩) i cr) (found x0 T acc i)) := Lib.hid (fun V hV => ⟨ga, ca, gr, cr, rfl, rfl, fun q hq => by
          have hq' : q < i := hq
          have hBe := HBe.out
          rw [World.cell?_of_block (w := wr) (a := ⟨ga, q, none⟩) (hV ga (by omega))]
          rw [hca q (by simp; omega), (found_keyA hE acc hq').1]
          simp [bools, hq'], fun q hq k hk => by
          have hq' : q < i := hq
          have hBe := HBe.out
          rw [World.cell?_of_block (w := wr) (a := ⟨gr, q * 3 + k, none⟩) (hV gr (by omega))]
          rw [hcr (q * 3 + k) (by omega), rowsC_at i q k hq' hk, (found_keyA hE acc hq').2 k hk]⟩)
      obtain ⟨e0, e1, -, -⟩ := box2_facts HS.out.1.box
      have hln : ((List.range i).map fun j => acc (keyA x0 T j)).length = i := by simp
      rw [hln] at e0
      have hyb := (HBr.out.block _ (by have := HBe.out; omega)).trans HX2.out.1
      obtain ⟨c0, c1, k0, k1⟩ := box2_facts hyb
      have hd : decide ((i : Int) < (l.length : Int)) = false := by simp; omega
      obtain ⟨hcl, hsz, hot, hBl⟩ := put2 (k := .slice (some ⟨ga, 0, none⟩) i ca) (l := .slice (some ⟨gr, 0, none⟩) i cr) c0 c1
      obtain ⟨hc0, hc1⟩ := hcl
      have HOt := Lib.hid (And.intro hsz (And.intro hot hBl))
      clear hsz hot hBl hyb hl hca hcr hln hE hEl hga hgr
      go_wp2_with fail
      refine bodyPost_ret (v := .tuple #[.agg #[.slice (some ⟨ga, 0, none⟩) i ca, .slice (some ⟨gr, 0, none⟩) i cr], .bool true]) (by simp [results, Tryd.results65, go_sem, hc0, hc1]) rfl ?_
      exact .inl ⟨i, _, _, HE.out, hiM, rfl, HAu.out _ HOt.out.2.1, HOt.out.2.2 _ _ (HB2.out.trans (HBr.out.mono (by have := HBe.out; omega))) (Nat.le_succ _)⟩
end Go.Proofs.YtlkhmpdncimnfaaDoor

namespace Go.Proofs.YtlkhmpdncimnfaaDoor
open Go.RowKit

set_option maxRecDepth 100000 in
set_option maxHeartbeats 3200000 in
theorem implMdR_any (g1 g2 : Nat) (lb1 lb2 : Array Value) (eg1 : ∀ args w, (callFunc g1 args).run Tryd.prog w = .ok (.enter g1 args) w) (eg2 : ∀ args w, (callFunc g2 args).run Tryd.prog w = .ok (.enter g2 args) w)
    (T : Bool × List Nat → Nat → Bool × List Nat) (acc : Bool × List Nat → Bool) (nb : Nat) (M : Nat) (x0 : Bool × List Nat) (w : World) (hb : nb ≤ 40) (hM : M ≤ 2000) (hM1 : 1 ≤ M) (h0 : okR nb x0) (hT : ∀ x k, okR nb x → k < 3 → okR nb (T x k))
    (H1 : ∀ (V : World) (x : Bool × List Nat) (k : Nat), Below w.heap.size w V → okR nb x → k < 3 → Calls Tryd.prog g1 (#[.agg #[.bool x.1, .int .u64 ((mskS x.2 : Nat) : Int)], .int .i64 (k : Int)] ++ lb1) V fun e w' => e = .returned (.agg #[.bool ((T x k)).1, .int .u64 ((mskS ((T x k)).2 : Nat) : Int)]) ∧ Below V.heap.size V w')
    (H2 : ∀ (V : World) (x : Bool × List Nat), Below w.heap.size w V → okR nb x → Calls Tryd.prog g2 (#[.agg #[.bool x.1, .int .u64 ((mskS x.2 : Nat) : Int)]] ++ lb2) V fun e w' => e = .returned (.bool (acc x)) ∧ Below V.heap.size V w')
    (y : Dx) (ok : Bool) (hy : srchR M x0 T acc y ok) :
    Calls Tryd.prog 42 #[.agg #[.bool x0.1, .int .u64 ((mskS x0.2 : Nat) : Int)], .func (.func g1) #[] lb1, .func (.func g2) #[] lb2, .int .i64 (M : Int)] w (CopyDB y ok w) := by
  obtain ⟨W0, hW0⟩ : ∃ W0, W0 = (w.alloc (.cells #[.bool x0.1, .int .u64 ((mskS x0.2 : Nat) : Int)] 72)).alloc (.cells #[.slice none 0 0, .slice none 0 0] 27) := ⟨_, rfl⟩
  have HB0 : Hid (Below w.heap.size w W0) := Lib.hid (by rw [hW0]; exact ((Below.refl _ _).alloc (Nat.le_refl _) _).alloc (by simp) _)
  have HY : Hid (W0.heap[w.heap.size + 1]? = some (.cells #[.slice none 0 0, .slice none 0 0] 27 (0, 0))) := Lib.hid (by rw [hW0]; exact three2 w _ _ _ _)
  have HEx := Lib.hid (implExpR_any g1 g2 lb1 lb2 eg1 eg2 T acc nb M x0 W0 hb hM hM1 h0 hT (fun V x k hV hx hk => H1 V x k (HB0.out.trans (hV.mono HB0.out.size)) hx hk) (fun V x hV hx => H2 V x (HB0.out.trans (hV.mono HB0.out.size)) hx))
  have HYy := Lib.hid hy
  obtain ⟨q0, q1, -, -⟩ := box2_facts (show W0.heap[w.heap.size]? = some (.cells #[.bool x0.1, .int .u64 ((mskS x0.2 : Nat) : Int)] 72 (0, 0)) by rw [hW0]; exact (Below.heap_alloc _ _ _ (by simp)).trans (heap_alloc_new w _))
  rw [hW0] at q0 q1
  clear hy hT H1 H2 h0 hM1
  go_enter Tryd.func42, Tryd.ntmps42
  go_wp2_with fail
  go_at_call 65
  rw [← hW0]
  refine HEx.out.mono ?_
  rintro e w1 (⟨N, va2, vr2, hE, hN, rfl, hau, hb1⟩ | ⟨hno, rfl, hb1⟩)
  · have HB1 := Lib.hid hb1
    obtain ⟨W2, hW2⟩ : ∃ W2, W2 = w1.alloc (.cells #[va2, vr2] 90) := ⟨_, rfl⟩
    have HB2 : Hid (Below w1.heap.size w1 W2) := Lib.hid (by rw [hW2]; exact (Below.refl _ _).alloc (Nat.le_refl _) _)
    obtain ⟨a0, a1, -, -⟩ := box2_facts (show W2.heap[w1.heap.size]? = some (.cells #[va2, vr2] 90 (0, 0)) by rw [hW2]; exact heap_alloc_new w1 _)
    have HMn := Lib.hid (implMinz_any va2 vr2 (found x0 T acc N) W2 (hE.num acc) (by show N ≤ 2000; omega) (hau.kept HB2.out))
    have HE := Lib.hid hE
    obtain ⟨ga, ca, gr, cr, rfl, rfl, -, -⟩ := hau
    clear q0 q1 hb1 hE
    rw [hW2] at a0 a1
    go_wp2_with fail
    go_at_call 61
    rw [← hW2]
    refine HMn.out.mono ?_
    rintro e w3 ⟨m, m1, m2, hcd⟩
    obtain ⟨rfl, rfl⟩ := srchR_yes HYy.out hN HE.out m1 m2
    obtain ⟨A1, p1, A2, p2, rfl, hoo, hb3⟩ := hcd.shape
    obtain ⟨x1, hx1⟩ : ∃ x, x = (fitD m).acc.length := ⟨_, rfl⟩
    obtain ⟨x2, hx2⟩ : ∃ x, x = (fitD m).nxt.length := ⟨_, rfl⟩
    obtain ⟨ok, hok⟩ : ∃ b, b = decide (m.n ≤ 40) := ⟨_, rfl⟩
    rw [← hx1, ← hx2] at hoo ⊢
    rw [← hok]
    have HOk := Lib.hid hok
    have HO3 := Lib.hid hoo
    have HB3 := Lib.hid (HB1.out.trans ((HB2.out.trans (hb3.mono HB2.out.size)).mono HB1.out.size))
    have hz1 := HB1.out.size
    have hz2 := HB2.out.size
    have hz3 := hb3.size
    have hyl := blk_lt HY.out
    obtain ⟨c0, c1, k0, k1⟩ := box2_facts ((HB3.out.block _ hyl).trans HY.out)
    obtain ⟨hcl, hsz, hot, hBl⟩ := put2 (k := .slice A1 x1 p1) (l := .slice A2 x2 p2) c0 c1
    obtain ⟨hc0, hc1⟩ := hcl
    have HOt := Lib.hid (And.intro hsz (And.intro hot hBl))
    clear hsz hot hBl hoo hb3 hcd hx1 hx2 m1 m2 hok a0 a1 hW2 hW0
    go_wp2_with fail
    refine bodyPost_ret (v := .tuple #[.agg #[.slice A1 x1 p1, .slice A2 x2 p2], .bool ok]) (by simp [results, Tryd.results42, go_sem, hc0, hc1]) rfl ?_
    have h0 := HB0.out.size
    rw [← HOk.out]
    exact ⟨_, _, rfl, HO3.out.mono (fun g hg => HOt.out.2.1 g (by have := hg.1; omega)) (fun g hg => ⟨by have := hg.1; omega, by rw [HOt.out.1]; exact hg.2⟩) (by rw [HOt.out.1]; exact Nat.le_refl _), HOt.out.2.2 _ _ (HB0.out.trans (HB3.out.mono h0)) (by omega)⟩
  · have HB1 := Lib.hid hb1
    obtain ⟨rfl, rfl⟩ := srchR_no HYy.out hno
    obtain ⟨c0, c1, k0, k1⟩ := box2_facts (((HB1.out.alloc HB1.out.size (.cells #[.slice none 0 0, .slice none 0 0] 90)).block _ (blk_lt HY.out)).trans HY.out)
    obtain ⟨hcl, hsz, hot, hBl⟩ := put2 (k := .slice none 0 0) (l := .slice none 0 0) c0 c1
    obtain ⟨hr0, hr1⟩ := hcl
    have HOt := Lib.hid hBl
    clear q0 q1 hsz hot hBl hb1 hW0
    go_wp2_with fail
    refine bodyPost_ret (v := .tuple #[.agg #[.slice none 0 0, .slice none 0 0], .bool false]) (by simp [results, Tryd.results42, go_sem, hr0, hr1]) rfl ?_
    exact ⟨_, _, rfl, DfaO.empty _ _, HOt.out _ _ (HB0.out.trans ((HB1.out.alloc HB1.out.size _).mono HB0.out.size)) (by omega)⟩
end Go.Proofs.YtlkhmpdncimnfaaDoor

/-
  What the closures of impl.StarDfa answer, and impl.StarDfa.
-/
namespace Go.Proofs.YtlkhmpdncimnfaaDoor
open Go.RowKit

set_option maxRecDepth 100000 in
set_option maxHeartbeats 3200000 in
theorem implStaT_any (bb bm n' : Nat) (ad' : Addr) (e : Nat) (aN' : Addr) (e' : Nat) (b : Au) (x : Bool × List Nat) (k : Nat) (w : World)
    (h' : AuB w bb n' ad' e aN' e' b) (hbn : b.n = n') (hx : okR n' x) (hk : k < 3) (hn' : n' ≤ 40) (hwb : ∀ q, q < n' → b.T q k < n')
    (hbm : w.cell? ⟨bm, 0, none⟩ = some (.int .u64 ((mskS (accS b n') : Nat) : Int))) (hTab : Tab w) :
    Calls Tryd.prog 40 #[.agg #[.bool x.1, .int .u64 ((mskS x.2 : Nat) : Int)], .int .i64 (k : Int), .pointer (some ⟨bb, 0, none⟩), .pointer (some ⟨bm, 0, none⟩)] w fun e w' => e = .returned (.agg #[.bool (starG b x k).1, .int .u64 ((mskS (starG b x k).2 : Nat) : Int)]) ∧ Below w.heap.size w w' := by
  obtain ⟨p, s⟩ := x
  obtain ⟨-, hs⟩ := hx
  have hs : ∀ q ∈ s, q < n' := hs
  obtain ⟨W0, hW0⟩ : ∃ W0, W0 = (w.alloc (.cells #[.bool p, .int .u64 ((mskS s : Nat) : Int)] 72)).alloc (.cells #[.bool false, .int .u64 0] 72) := ⟨_, rfl⟩
  have HB0 : Hid (Below w.heap.size w W0) := Lib.hid (by rw [hW0]; exact ((Below.refl _ _).alloc (Nat.le_refl _) _).alloc (by simp) _)
  have HX : Hid (W0.heap[w.heap.size]? = some (.cells #[.bool p, .int .u64 ((mskS s : Nat) : Int)] 72 (0, 0))) := Lib.hid (by rw [hW0]; exact (Below.heap_alloc _ _ _ (by simp)).trans (heap_alloc_new w _))
  have HY : Hid (W0.heap[w.heap.size + 1]? = some (.cells #[.bool false, .int .u64 0] 72 (0, 0))) := Lib.hid (by rw [hW0]; exact three2 w _ _ _ _)
  have HMv := Lib.hid (implMove_any (.slice (some ad') n' e) aN' n' e' k b s W0 hn' hk hs hwb (fun q hq => by
    obtain ⟨r, q', h1, h2⟩ := (h'.kept HB0.out).2.2.2 q hq
    exact ⟨r, q', h1, h2 k hk⟩) (hTab.kept HB0.out))
  have hmv : ∀ q ∈ moveS b s k, q < n' := fun q hq => by
    obtain ⟨p', h1, rfl⟩ := mem_move.1 hq
    exact hwb p' (hs p' h1)
  have h1 := mskS_64 (s := moveS b s k) (fun q hq => by have := hmv q hq; omega)
  have h2 := mskS_64 (s := accS b n') (fun q hq => by have := accS_lt hq; omega)
  have hany : anyS b (moveS b s k) = decide (mskS (moveS b s k) &&& mskS (accS b n') ≠ 0) := by rw [any_meets (by rw [hbn]; exact hmv), hbn]
  have HG : Hid (starG b (p, s) k = (false, if anyS b (moveS b s k) then putS (moveS b s k) 0 else moveS b s k)) := Lib.hid rfl
  have hor := or_one (a := mskS (moveS b s k)) (by omega)
  rw [msk_put0] at hor
  obtain ⟨m, hm⟩ : ∃ m, m = mskS s := ⟨_, rfl⟩
  obtain ⟨m2, hm2⟩ : ∃ m, m = mskS (moveS b s k) := ⟨_, rfl⟩
  obtain ⟨ma, hma⟩ : ∃ m, m = mskS (accS b n') := ⟨_, rfl⟩
  obtain ⟨m3, hm3⟩ : ∃ m, m = mskS (putS (moveS b s k) 0) := ⟨_, rfl⟩
  rw [← hm] at HX hW0 HMv ⊢
  rw [← hm2] at HMv h1 hany hor
  rw [← hma] at h2 hany hbm
  rw [← hm3] at hor
  have HM2 := Lib.hid hm2
  have HM3 := Lib.hid hm3
  have HMe := Lib.hid (fun V => implMeets_any m2 ma (by omega) (by omega) V)
  rw [← hany] at HMe
  obtain ⟨r, hr⟩ : ∃ r, r = anyS b (moveS b s k) := ⟨_, rfl⟩
  rw [← hr] at HMe HG
  have hb0 := (HB0.out.cell (cell_in (h'.1))).trans h'.1
  have hb1 := (HB0.out.cell (cell_in (h'.2.1))).trans h'.2.1
  obtain ⟨x0, x1, -, -⟩ := box2_facts HX.out
  have HBm := Lib.hid (fun (V : World) (hV : Below w.heap.size w V) => (hV.cell (cell_in hbm)).trans hbm)
  clear h' hs hwb hbm hTab hmv hm hm2 hm3 hma hr hany h1 h2 hbn
  go_enter Tryd.func40, Tryd.ntmps40
  go_upto_region 1 with fail
  rw [← hW0]
  clear hW0
  go_wp2_with fail
  go_at_call 25
  refine HMv.out.mono ?_
  rintro e1 w1 ⟨rfl, hb1'⟩
  have HB1 := Lib.hid (HB0.out.trans (hb1'.mono HB0.out.size))
  have hbm1 := HBm.out w1 HB1.out
  obtain ⟨c0, c1, k0, k1⟩ := box2_facts ((hb1'.block _ (blk_lt HY.out)).trans HY.out)
  clear hb1' hb0 hb1 x0 x1
  cases r with
  | true =>
    obtain ⟨hcl, hsz, hot, hBl⟩ := put2 (k := .bool false) (l := .int .u64 (m3 : Int)) c0 c1
    obtain ⟨hc0, hc1⟩ := hcl
    have HOt := Lib.hid hBl
    clear hsz hot hBl
    go_wp2_with (go_at_call 28; refine (HMe.out _).mono ?_; rintro e w' ⟨rfl, rfl⟩)
    refine bodyPost_ret (v := .agg #[.bool false, .int .u64 (m3 : Int)]) (by simp [results, Tryd.results40, go_sem, hc0, hc1]) rfl ?_
    exact ⟨by rw [HG.out, HM3.out]; rfl, HOt.out _ _ HB1.out (Nat.le_succ _)⟩
  | false =>
    obtain ⟨hcl, hsz, hot, hBl⟩ := put2 (k := .bool false) (l := .int .u64 (m2 : Int)) c0 c1
    obtain ⟨hc0, hc1⟩ := hcl
    have HOt := Lib.hid hBl
    clear hsz hot hBl hor
    go_wp2_with (go_at_call 28; refine (HMe.out _).mono ?_; rintro e w' ⟨rfl, rfl⟩)
    refine bodyPost_ret (v := .agg #[.bool false, .int .u64 (m2 : Int)]) (by simp [results, Tryd.results40, go_sem, hc0, hc1]) rfl ?_
    exact ⟨by rw [HG.out, HM2.out]; rfl, HOt.out _ _ HB1.out (Nat.le_succ _)⟩

set_option maxRecDepth 100000 in
set_option maxHeartbeats 1600000 in
theorem implStaA_any (bm n : Nat) (b : Au) (x : Bool × List Nat) (w : World) (hn : n ≤ 40) (hs : ∀ q ∈ x.2, q < n) (hbn : b.n = n) (hbm : w.cell? ⟨bm, 0, none⟩ = some (.int .u64 ((mskS (accS b n) : Nat) : Int))) :
    Calls Tryd.prog 41 #[.agg #[.bool x.1, .int .u64 ((mskS x.2 : Nat) : Int)], .pointer (some ⟨bm, 0, none⟩)] w fun e w' => e = .returned (.bool (starA b x)) ∧ Below w.heap.size w w' := by
  obtain ⟨p, s⟩ := x
  have hs : ∀ q ∈ s, q < n := hs
  obtain ⟨W0, hW0⟩ : ∃ W0, W0 = w.alloc (.cells #[.bool p, .int .u64 ((mskS s : Nat) : Int)] 72) := ⟨_, rfl⟩
  have HB0 : Hid (Below w.heap.size w W0) := Lib.hid (by rw [hW0]; exact (Below.refl _ _).alloc (Nat.le_refl _) _)
  obtain ⟨c0, c1, -, -⟩ := box2_facts (show W0.heap[w.heap.size]? = some (.cells #[.bool p, .int .u64 ((mskS s : Nat) : Int)] 72 (0, 0)) by rw [hW0]; exact heap_alloc_new w _)
  have hc := (HB0.out.cell (cell_in hbm)).trans hbm
  have h1 := mskS_64 (s := s) (fun q hq => by have := hs q hq; omega)
  have h2 := mskS_64 (s := accS b n) (fun q hq => by have := accS_lt hq; omega)
  have HR : Hid (starA b (p, s) = (p || decide (mskS s &&& mskS (accS b n) ≠ 0))) := Lib.hid (by rw [starA, any_meets (by rw [hbn]; exact hs), hbn])
  obtain ⟨m, hm⟩ : ∃ m, m = mskS s := ⟨_, rfl⟩
  obtain ⟨m2, hm2⟩ : ∃ m, m = mskS (accS b n) := ⟨_, rfl⟩
  rw [← hm, ← hm2] at HR
  rw [← hm] at hW0 c1 h1 ⊢
  rw [← hm2] at h2 hc
  have HM := Lib.hid (fun V => implMeets_any m m2 (by omega) (by omega) V)
  obtain ⟨r, hr⟩ : ∃ r, r = decide (m &&& m2 ≠ 0) := ⟨_, rfl⟩
  rw [← hr] at HM HR
  clear hbm hs hbn hm hm2 hr
  cases p with
  | true =>
    go_enter Tryd.func41, Tryd.ntmps41
    go_upto_region 1 with fail
    rw [← hW0]
    clear hW0
    go_wp2_with fail
    go_ret
    exact ⟨congrArg (fun b : Bool => Ending.returned (.bool b)) HR.out.symm, HB0.out⟩
  | false =>
    go_enter Tryd.func41, Tryd.ntmps41
    go_upto_region 1 with fail
    rw [← hW0]
    clear hW0
    go_wp2_with (go_at_call 28; refine (HM.out _).mono ?_; rintro e w' ⟨rfl, rfl⟩)
    go_ret
    exact ⟨congrArg (fun b : Bool => Ending.returned (.bool b)) HR.out.symm, HB0.out⟩
theorem enters_sta1 (args : Array Value) (w : World) : (callFunc 40 args).run Tryd.prog w = .ok (.enter 40 args) w := enters_of Tryd.func40 (by kernel_rfl) rfl args w
theorem enters_sta2 (args : Array Value) (w : World) : (callFunc 41 args).run Tryd.prog w = .ok (.enter 41 args) w := enters_of Tryd.func41 (by kernel_rfl) rfl args w
set_option maxRecDepth 100000 in
set_option maxHeartbeats 3200000 in
theorem implStar_any (va vn : Value) (d : Dx) (S : Nat → Prop) (y : Dx) (ok : Bool) (w : World) (h : DfaV w S va vn d) (hy : starR d y ok) (hTab : Tab w) :
    Calls Tryd.prog 11 #[.agg #[va, vn]] w (CopyDB y ok w) := by
  have hmf : ∀ (fn : Fn) (first cap : Array Value) (w : World), (Instr.makeFunc fn first cap).run Tryd.prog w = .ok (.func fn first cap) w := fun _ _ _ _ => rfl
  obtain ⟨W0, hW0⟩ : ∃ W0, W0 = (w.alloc (.cells #[va, vn] 27)).alloc (.cells #[.slice none 0 0, .slice none 0 0] 27) := ⟨_, rfl⟩
  have HB0 : Hid (Below w.heap.size w W0) := Lib.hid (by rw [hW0]; exact ((Below.refl _ _).alloc (Nat.le_refl _) _).alloc (by simp) _)
  have HX : Hid (W0.heap[w.heap.size]? = some (.cells #[va, vn] 27 (0, 0))) := Lib.hid (by rw [hW0]; exact (Below.heap_alloc _ _ _ (by simp)).trans (heap_alloc_new w _))
  have HY : Hid (W0.heap[w.heap.size + 1]? = some (.cells #[.slice none 0 0, .slice none 0 0] 27 (0, 0))) := Lib.hid (by rw [hW0]; exact three2 w _ _ _ _)
  have HV := Lib.hid (implValidD_any va vn d S W0 (h.kept HB0.out))
  obtain ⟨⟨A, c, rfl⟩, A', c', rfl⟩ := h.shape
  obtain ⟨hc0, hc1, -, -⟩ := box2_facts HX.out
  rw [hW0] at hc0 hc1
  cases hv : validD d with
  | false =>
    rw [hv] at HV
    unfold starR at hy
    rw [if_neg (by rw [hv]; decide)] at hy
    obtain ⟨rfl, rfl⟩ := hy
    clear h hv hTab
    go_enter Tryd.func11, Tryd.ntmps11
    go_wp2_with fail
    go_at_call 22
    rw [← hW0]
    refine HV.out.mono ?_
    rintro e w1 ⟨rfl, hb1⟩
    obtain ⟨c0, c1, k0, k1⟩ := box2_facts ((hb1.block _ (blk_lt HY.out)).trans HY.out)
    obtain ⟨hcl, hsz, hot, hBl⟩ := put2 (k := .slice none 0 0) (l := .slice none 0 0) c0 c1
    obtain ⟨hr0, hr1⟩ := hcl
    have HOt := Lib.hid hBl
    have HB1 := Lib.hid hb1
    clear hc0 hc1 hW0 hb1 hsz hot hBl
    go_wp2_with fail
    refine bodyPost_ret (v := .tuple #[.agg #[.slice none 0 0, .slice none 0 0], .bool false]) (by simp [results, Tryd.results11, go_sem, hr0, hr1]) rfl ?_
    exact ⟨_, _, rfl, DfaO.empty _ _, HOt.out _ _ (HB0.out.trans (HB1.out.mono HB0.out.size)) (Nat.le_succ _)⟩
  | true =>
    rw [hv] at HV
    unfold starR at hy
    rw [if_pos hv] at hy
    obtain ⟨hw, hn40, hnn, hl, ad, cc, aN, cN, hva, hvn, hA, hT⟩ := h.au hv
    injection hva with e1 e2 e3
    injection hvn with e4 e5 e6
    subst e1
    subst e3
    subst e4
    subst e6
    rw [e5] at HX hW0 HV hc1
    rw [e5]
    obtain ⟨n, hne⟩ : ∃ n, n = d.acc.length := ⟨_, rfl⟩
    rw [← hne] at HX hW0 HV hc0 hc1 hnn hA hT ⊢
    have HAu : Hid (∀ V, Below W0.heap.size W0 V → AuB V w.heap.size n ad c aN c' (auD d)) := Lib.hid (fun V hV => by
      have hb := HB0.out.trans (hV.mono HB0.out.size)
      obtain ⟨x0, x1, -, -⟩ := box2_facts ((hV.block _ (blk_lt HX.out)).trans HX.out)
      refine ⟨x0, x1, fun q hq => (hb.cell (cell_in (hA q hq))).trans (hA q hq), fun q hq => ?_⟩
      obtain ⟨r, q', h1, h2⟩ := hT q hq
      exact ⟨r, q', (hb.cell (cell_in h1)).trans h1, fun k hk => (hb.cell (cell_in (h2 k hk))).trans (h2 k hk)⟩)
    have hw2 : ∀ q k, q < n → k < 3 → (auD d).T q k < n := fun q k hq hk => by rw [← hnn] at hq ⊢; exact hw.2 q k hq hk
    have hn0 : 0 < n := by rw [← hnn]; exact hw.1
    have HAc := Lib.hid (fun (V : World) (hV : Below W0.heap.size W0 V) => implAccSt_any ad n c (.slice (some aN) n c') (auD d) V (by omega) (HAu.out V hV).2.2.1)
    have HTab := Lib.hid (fun (V : World) (hV : Below w.heap.size w V) => hTab.kept hV)
    have HMd : Hid (∀ (V : World) (bm : Nat), Below W0.heap.size W0 V → V.cell? ⟨bm, 0, none⟩ = some (.int .u64 ((mskS (accS (auD d) n) : Nat) : Int)) →
        Calls Tryd.prog 42 #[.agg #[.bool true, .int .u64 1], .func (.func 40) #[] #[.pointer (some ⟨w.heap.size, 0, none⟩), .pointer (some ⟨bm, 0, none⟩)], .func (.func 41) #[] #[.pointer (some ⟨bm, 0, none⟩)], .int .i64 400] V (CopyDB y ok V)) := Lib.hid (fun V bm hV hbm => by
      refine implMdR_any _ _ _ _ enters_sta1 enters_sta2 (starG (auD d)) (starA (auD d)) n 400 starS V (by omega) (by omega) (by omega) ⟨by simp [starS], fun q hq => by simp [starS] at hq; omega⟩ (fun x k hx hk => starG_ok hn0 (fun q hq => hw2 q k hq hk) hx) (fun U x k hU hx hk => ?_) (fun U x hU hx => ?_) y ok hy
      · exact implStaT_any w.heap.size bm n ad c aN c' (auD d) x k U (HAu.out U (hV.trans (hU.mono hV.size))) hnn hx hk (by omega) (fun q hq => hw2 q k hq hk) ((hU.cell (cell_in hbm)).trans hbm) (HTab.out U (HB0.out.trans ((hV.trans (hU.mono hV.size)).mono HB0.out.size)))
      · exact implStaA_any bm n (auD d) x U (by omega) hx.2 hnn ((hU.cell (cell_in hbm)).trans hbm))
    clear h hy hTab hv hw hn40 hnn hl hA hT e5 hne hw2 hn0
    go_enter Tryd.func11, Tryd.ntmps11
    go_wp2_with fail
    go_at_call 22
    rw [← hW0]
    refine HV.out.mono ?_
    rintro e w1 ⟨rfl, hb1⟩
    have HB1 := Lib.hid hb1
    clear hc0 hc1 hW0 hb1
    obtain ⟨hc0, hc1, -, -⟩ := HAu.out w1 HB1.out
    go_wp2_with fail
    go_at_call 26
    refine (HAc.out w1 HB1.out).mono ?_
    rintro e w2 ⟨rfl, hb2⟩
    obtain ⟨W3, hW3⟩ : ∃ W3, W3 = w2.alloc (.cells #[.int .u64 ((mskS (accS (auD d) n) : Nat) : Int)] 48) := ⟨_, rfl⟩
    have HB3 : Hid (Below W0.heap.size W0 W3) := Lib.hid (by rw [hW3]; exact (HB1.out.trans (hb2.mono HB1.out.size)).alloc (HB1.out.trans (hb2.mono HB1.out.size)).size _)
    have hcm : W3.cell? ⟨w2.heap.size, 0, none⟩ = some (.int .u64 ((mskS (accS (auD d) n) : Nat) : Int)) := (cell_of_row W3 w2.heap.size 0 _ _ (0, 0) (by rw [hW3]; exact heap_alloc_new w2 _)).trans rfl
    have HMm := Lib.hid (HMd.out W3 w2.heap.size HB3.out hcm)
    clear hc0 hc1 hb2 hcm
    go_upto_region 4 with fail
    rw [← hW3]
    clear hW3
    go_wp2_with fail
    go_at_call 42
    refine HMm.out.mono ?_
    rintro e w4 hcd
    obtain ⟨A1, p1, A2, p2, rfl, hoo, hb4⟩ := hcd.shape
    obtain ⟨x1, hx1⟩ : ∃ x, x = y.acc.length := ⟨_, rfl⟩
    obtain ⟨x2, hx2⟩ : ∃ x, x = y.nxt.length := ⟨_, rfl⟩
    rw [← hx1, ← hx2] at hoo ⊢
    have HO4 := Lib.hid hoo
    have HB4 := Lib.hid (HB3.out.trans (hb4.mono HB3.out.size))
    have hz3 := HB3.out.size
    have hyl := blk_lt HY.out
    obtain ⟨c0, c1, k0, k1⟩ := box2_facts ((HB4.out.block _ hyl).trans HY.out)
    obtain ⟨hcl, hsz, hot, hBl⟩ := put2 (k := .slice A1 x1 p1) (l := .slice A2 x2 p2) c0 c1
    obtain ⟨hr0, hr1⟩ := hcl
    have HOt := Lib.hid (And.intro hsz (And.intro hot hBl))
    clear hsz hot hBl hoo hb4 hcd hx1 hx2
    go_wp2_with fail
    refine bodyPost_ret (v := .tuple #[.agg #[.slice A1 x1 p1, .slice A2 x2 p2], .bool ok]) (by simp [results, Tryd.results11, go_sem, hr0, hr1]) rfl ?_
    have h0 := HB0.out.size
    exact ⟨_, _, rfl, HO4.out.mono (fun g hg => HOt.out.2.1 g (by have := hg.1; omega)) (fun g hg => ⟨by have := hg.1; omega, by rw [HOt.out.1]; exact hg.2⟩) (by rw [HOt.out.1]; exact Nat.le_refl _), HOt.out.2.2 _ _ (HB0.out.trans (HB4.out.mono h0)) (Nat.le_succ _)⟩
end Go.Proofs.YtlkhmpdncimnfaaDoor

/-
  What impl.LetterIndex answers at every byte: the letter's place, or -1; the world is as it was.
-/
namespace Go.Proofs.YtlkhmpdncimnfaaDoor
open Go.RowKit

theorem implLet_any (b : UInt8) (w : World) :
    Calls Tryd.prog 67 #[.int .u8 b.toNat] w fun e w' => e = .returned (.int .i64 (letIdx b)) ∧ w = w' := by
  have HL := Lib.hid (letIdx_lib b)
  go_enter Tryd.func67, Tryd.ntmps67
  go_wp2_with (go_at_call 79; refine (Tryd.strings_IndexByte _ _ _).mono ?_; rintro e w' ⟨rfl, rfl⟩)
  go_ret
  have hc : ((b.toNat : Int)).toNat.toUInt8 = b := by simp
  refine ⟨?_, rfl⟩
  rw [← HL.out]
  simp

end Go.Proofs.YtlkhmpdncimnfaaDoor

/-
  What impl.IsWord answers at every string: whether it is a word of at most 30 letters; the world is as it was.
-/
namespace Go.Proofs.YtlkhmpdncimnfaaDoor
open Go.RowKit

set_option maxHeartbeats 400000 in
theorem implIsWord_any (s : ByteArray) (w : World) (hs : s.size ≤ maxLen) :
    Calls Tryd.prog 66 #[.string s] w fun e w' => e = .returned (.bool (isW s.data.toList)) ∧ w = w' := by
  unfold maxLen at hs
  by_cases h30 : 30 < s.size
  · have HN := Lib.hid (isW_long h30)
    go_enter Tryd.func66, Tryd.ntmps66
    go_wp2
    go_ret
    exact ⟨congrArg (fun z => Ending.returned (.bool z)) HN.out.symm, rfl⟩
  · go_enter Tryd.func66, Tryd.ntmps66
    go_wp2
    go_loop [9] (fun i => ∃ k : Nat, i = .int .i64 k ∧ k ≤ s.size ∧ (s.data.toList.take k).all isLetter = true) (fun i => s.size - (intOf i).toNat)
    case atStart => exact ⟨0, rfl, Nat.zero_le _, rfl⟩
    case round =>
      obtain ⟨k, rfl, hk, hall⟩ := hrel
      have HA := Lib.hid hall
      clear hall
      by_cases hlt : k < s.size
      · cases hb : isLetter s[k] with
        | true =>
          have HN := Lib.hid (show (s.data.toList.take (k + 1)).all isLetter = true by rw [all_take_succ s k hlt, HA.out, hb]; rfl)
          obtain ⟨hl, h97, h99⟩ := letIdx_yes hb
          have hl0 : 0 ≤ letIdx s[k] := by omega
          clear hl hb
          go_wp2_with (go_at_call 67; refine (implLet_any _ _).mono ?_; rintro e w' ⟨rfl, rfl⟩)
          go_round
          case rel => exact ⟨k + 1, by go_num, by omega, HN.out⟩
          case measure => simp [intOf]; omega
        | false =>
          have HN := Lib.hid (isW_bad hlt hb)
          have hl := letIdx_no hb
          have hl0 : letIdx s[k] < 0 := by omega
          clear hl hb
          go_wp2_with (go_at_call 67; refine (implLet_any _ _).mono ?_; rintro e w' ⟨rfl, rfl⟩)
          go_ret
          exact ⟨congrArg (fun z => Ending.returned (.bool z)) HN.out.symm, rfl⟩
      · obtain rfl : k = s.size := by omega
        have HN := Lib.hid (isW_all HA.out)
        have hd : decide ((s.size : Int) ≤ 30) = true := by simp; omega
        have HN2 := Lib.hid (HN.out.trans hd)
        clear hd
        go_wp2
        go_ret
        exact ⟨congrArg (fun z => Ending.returned (.bool z)) HN2.out.symm, rfl⟩
end Go.Proofs.YtlkhmpdncimnfaaDoor

/-
  What impl.RunDfa and impl.AcceptsWord answer.
-/
namespace Go.Proofs.YtlkhmpdncimnfaaDoor
open Go.RowKit

set_option maxRecDepth 100000 in
set_option maxHeartbeats 1600000 in
theorem implRun_yes (va vn : Value) (d : Dx) (S : Nat → Prop) (q0 : Int) (s : ByteArray) (w : World) (h : DfaV w S va vn d) (hv : validD d = true) (hq0 : 0 ≤ q0) (hq1 : q0 ≤ (d.acc.length : Int) - 1) (hs : isW s.data.toList = true) :
    Calls Tryd.prog 45 #[.agg #[va, vn], .int .i64 q0, .string s] w fun e w' => e = .returned (.tuple #[.int .i64 (((auD d).run q0.toNat (idxs s.data.toList) : Nat) : Int), .bool true]) ∧ Below w.heap.size w w' := by
  obtain ⟨hw, hn, hnn, hl, ad, c, ad', c', rfl, rfl, hA, hT⟩ := h.au hv
  have hz : s.size ≤ 30 := by
    have h := hs
    unfold isW at h
    simp only [Bool.and_eq_true, decide_eq_true_eq] at h
    simpa using h.2
  have hall : s.data.toList.all isLetter = true := by
    unfold isW at hs
    simp only [Bool.and_eq_true] at hs
    exact hs.1
  obtain ⟨W0, hW0⟩ : ∃ W0, W0 = w.alloc (.cells #[.slice (some ad) d.acc.length c, .slice (some ad') d.acc.length c'] 27) := ⟨_, rfl⟩
  have HB0 : Hid (Below w.heap.size w W0) := Lib.hid (by rw [hW0]; exact (Below.refl _ _).alloc (Nat.le_refl _) _)
  have HX : Hid (Bx2 W0 w.heap.size (.slice (some ad) d.acc.length c) (.slice (some ad') d.acc.length c')) := Lib.hid (by
    have k := box2_kept (w := w) (w1 := W0) (a := .slice (some ad) d.acc.length c) (b := .slice (some ad') d.acc.length c') (t := 27) (by rw [hW0]; exact Below.refl _ _)
    exact ⟨k.2.1, k.2.2.1⟩)
  have HV := Lib.hid (fun (V : World) (hV : Below w.heap.size w V) => implValidD_any _ _ d S V (h.kept hV))
  rw [hv] at HV
  have HI := Lib.hid (fun w => implIsWord_any s w (by unfold maxLen; omega))
  rw [hs] at HI
  obtain ⟨n, hne⟩ : ∃ n, n = d.acc.length := ⟨_, rfl⟩
  obtain ⟨q, rfl⟩ : ∃ q : Nat, q0 = q := ⟨q0.toNat, by omega⟩
  have HT : Hid (∀ p, p < n → ∃ ad2 c2, w.cell? (ad'.add p) = some (.slice (some ad2) 3 c2) ∧ ∀ k, k < 3 → w.cell? (ad2.add k) = some (.int .i64 (((auD d).T p k : Nat) : Int))) := Lib.hid (by rw [hne]; exact hT)
  have HW := Lib.hid hw
  have HALL := Lib.hid hall
  rw [← hne] at hW0 HX HV ⊢ hnn hq1
  have hn40 : n ≤ 40 := by omega
  have HN := Lib.hid hnn
  clear h hv hs hl hA hT hw hn hall hne hnn
  go_enter Tryd.func45, Tryd.ntmps45
  go_wp2_with fail
  rw [← hW0]
  go_at_call 22
  refine (HV.out W0 HB0.out).mono ?_
  rintro e w1 ⟨rfl, hb1⟩
  have HB1 := Lib.hid (HB0.out.trans (hb1.mono HB0.out.size))
  obtain ⟨c0, c1⟩ := HX.out.kept hb1
  have HX1 := Lib.hid (HX.out.kept hb1)
  clear hb1 hW0
  have t0 : decide ((q : Int) < 0) = false := by simp
  have t1 : decide (n ≤ q) = false := by simp; omega
  go_wp2_with (go_at_call 66; refine (HI.out _).mono ?_; rintro e w' ⟨rfl, rfl⟩)
  clear t0 t1
  go_loopw [8, 32] (fun y i wr => ∃ k p : Nat, i = .int .i64 k ∧ y = .int .i64 (p : Int) ∧ k ≤ s.size ∧ p < n ∧ Hid (p = (auD d).run q (idxs (s.data.toList.take k))) ∧ Below w1.heap.size w1 wr) (fun _ i _ => s.size - (intOf i).toNat)
  case atStart => exact ⟨0, q, rfl, rfl, Nat.zero_le _, by omega, Lib.hid rfl, Below.refl _ _⟩
  case round =>
    obtain ⟨k, p, rfl, rfl, hk, hp, hpe, hb⟩ := hrel
    have HBr := Lib.hid hb
    clear hb c0 c1
    by_cases hlt : k < s.size
    · have hlet : isLetter s[k] = true := by
        have := List.all_eq_true.1 HALL.out s[k] (List.mem_iff_getElem.2 ⟨k, by simpa using hlt, rfl⟩)
        exact this
      obtain ⟨hl, h97, h99⟩ := letIdx_yes hlet
      obtain ⟨y, hy⟩ : ∃ y, y = letIdx s[k] := ⟨_, rfl⟩
      have hy0 : 0 ≤ y := by omega
      have hy3 : y < 3 := by omega
      obtain ⟨ad2, c2, hrow, hel⟩ := HT.out p hp
      have hel := hel y.toNat (by omega)
      obtain ⟨p2, hp2⟩ : ∃ p2, p2 = (auD d).T p y.toNat := ⟨_, rfl⟩
      rw [← hp2] at hel
      have HP2 : Hid (p2 < n ∧ p2 = (auD d).run q (idxs (s.data.toList.take (k + 1)))) := Lib.hid (by
        refine ⟨?_, ?_⟩
        · rw [hp2, ← HN.out]
          exact HW.out.2 p _ (by rw [HN.out]; exact hp) (by omega)
        · rw [List.take_succ_eq_append_getElem (by simpa using hlt)]
          unfold idxs
          rw [List.map_append, List.map_cons, List.map_nil, run_snoc]
          rw [hp2, hpe.out, hy]
          rfl)
      have HC := Lib.hid (fun V => implLet_any s[k] V)
      rw [← hy] at HC
      have HK := Lib.hid (fun (V : World) (hV : Below wr.heap.size wr V) => (⟨((HX1.out.kept HBr.out).kept hV).2, (HB1.out.trans ((HBr.out.trans (hV.mono HBr.out.size)).mono HB1.out.size)).cell (cell_in hrow) |>.trans hrow, (HB1.out.trans ((HBr.out.trans (hV.mono HBr.out.size)).mono HB1.out.size)).cell (cell_in hel) |>.trans hel⟩ :
        V.cell? ⟨w.heap.size, 1, none⟩ = some (.slice (some ad') n c') ∧ V.cell? (ad'.add p) = some (.slice (some ad2) 3 c2) ∧ V.cell? (ad2.add y.toNat) = some (.int .i64 (p2 : Int))))
      have hbw : Below wr.heap.size wr wr := Below.refl _ _
      have s4 : (p : Int) < (n : Int) := by omega
      have s8 : (0 : Int) ≤ (p : Int) := by omega
      have s9 : (0 : Int) ≤ (k : Int) := by omega
      have s10 : (k : Int) < (s.size : Int) := by omega
      clear hrow hel hy hl hlet h97 h99 hp2
      go_wp2_with fail
      go_region_held3 (fun V => V.cell? ⟨w.heap.size, 1, none⟩ = some (.slice (some ad') n c') ∧ V.cell? (ad'.add p) = some (.slice (some ad2) 3 c2) ∧ V.cell? (ad2.add y.toNat) = some (.int .i64 (p2 : Int))) (first | exact HK.out _ hbw.drew | exact HK.out _ hbw) (first | (go_at_call 67; (with_reducible refine (HC.out _).mono ?_); rintro e w3 ⟨rfl, rfl⟩))
      have HB3 := Lib.hid (HBr.out.trans (hbw.drew.mono HBr.out.size))
      clear hbw
      go_wp2_with fail
      go_roundw
      case rel => exact ⟨k + 1, p2, by go_num, rfl, by omega, HP2.out.1, Lib.hid HP2.out.2, HB3.out⟩
      case measure => simp [intOf]; omega
    · obtain rfl : k = s.size := by omega
      have HR : Hid (p = (auD d).run q (idxs s.data.toList)) := Lib.hid (by rw [hpe.out, List.take_of_length_le (by simp)])
      go_wp2_with fail
      go_ret2
      exact ⟨congrArg (fun z : Nat => Ending.returned (.tuple #[.int .i64 (z : Int), .bool true])) HR.out, HB1.out.trans (HBr.out.mono HB1.out.size)⟩

set_option maxRecDepth 100000 in
set_option maxHeartbeats 1600000 in
theorem implRun_no (va vn : Value) (d : Dx) (S : Nat → Prop) (q0 : Int) (s : ByteArray) (w : World) (h : DfaV w S va vn d) (hss : s.size ≤ 9223372036854775807) (hno : runOk d q0 s.data.toList = false) :
    Calls Tryd.prog 45 #[.agg #[va, vn], .int .i64 q0, .string s] w fun e w' => e = .returned (.tuple #[.int .i64 0, .bool false]) ∧ Below w.heap.size w w' := by
  obtain ⟨⟨A, c, rfl⟩, A', c', rfl⟩ := h.shape
  have hln := h.1.1
  rw [bools_length] at hln
  obtain ⟨W0, hW0⟩ : ∃ W0, W0 = w.alloc (.cells #[.slice A d.acc.length c, .slice A' d.nxt.length c'] 27) := ⟨_, rfl⟩
  have HB0 : Hid (Below w.heap.size w W0) := Lib.hid (by rw [hW0]; exact (Below.refl _ _).alloc (Nat.le_refl _) _)
  have HX : Hid (Bx2 W0 w.heap.size (.slice A d.acc.length c) (.slice A' d.nxt.length c')) := Lib.hid (by
    have k := box2_kept (w := w) (w1 := W0) (a := .slice A d.acc.length c) (b := .slice A' d.nxt.length c') (t := 27) (by rw [hW0]; exact Below.refl _ _)
    exact ⟨k.2.1, k.2.2.1⟩)
  have HV := Lib.hid (fun (V : World) (hV : Below w.heap.size w V) => implValidD_any _ _ d S V (h.kept hV))
  have HI := Lib.hid (fun w => implIsWord_any s w (by unfold maxLen; omega))
  obtain ⟨n, hne⟩ : ∃ n, n = d.acc.length := ⟨_, rfl⟩
  obtain ⟨m, hme⟩ : ∃ m, m = d.nxt.length := ⟨_, rfl⟩
  rw [← hne] at hW0 HX HV hln
  rw [← hme] at hW0 HX HV
  rw [← hne, ← hme]
  have hno' : (validD d && decide (0 ≤ q0) && decide (q0 ≤ (n : Int) - 1) && isW s.data.toList) = false := by rw [hne]; exact hno
  clear h hne hme hno
  cases hv : validD d with
  | false =>
    rw [hv] at HV
    clear hv hno'
    go_enter Tryd.func45, Tryd.ntmps45
    go_wp2_with fail
    rw [← hW0]
    go_at_call 22
    refine (HV.out W0 HB0.out).mono ?_
    rintro e w1 ⟨rfl, hb1⟩
    have HB1 := Lib.hid (HB0.out.trans (hb1.mono HB0.out.size))
    clear hb1 hW0
    go_wp2_with fail
    go_ret2
    exact ⟨rfl, HB1.out⟩
  | true =>
    rw [hv] at HV hno'
    rw [Bool.true_and] at hno'
    clear hv
    by_cases hin : 0 ≤ q0 ∧ q0 ≤ (n : Int) - 1
    · have hw : isW s.data.toList = false := by simpa [hin.1, hin.2] using hno'
      rw [hw] at HI
      have t0 : ¬ q0 < 0 := by omega
      have t1 : ¬ (n : Int) ≤ q0 := by omega
      clear hno' hw hin
      go_enter Tryd.func45, Tryd.ntmps45
      go_wp2_with fail
      rw [← hW0]
      go_at_call 22
      refine (HV.out W0 HB0.out).mono ?_
      rintro e w1 ⟨rfl, hb1⟩
      have HB1 := Lib.hid (HB0.out.trans (hb1.mono HB0.out.size))
      obtain ⟨c0, c1⟩ := HX.out.kept hb1
      clear hb1 hW0
      go_wp2_with (go_at_call 66; refine (HI.out _).mono ?_; rintro e w' ⟨rfl, rfl⟩)
      go_ret2
      exact ⟨rfl, HB1.out⟩
    · by_cases t0 : q0 < 0
      all_goals
        have t1 : q0 < 0 ∨ (n : Int) ≤ q0 := by omega
        try (replace t1 : (n : Int) ≤ q0 := by omega)
        clear hno' hin
        go_enter Tryd.func45, Tryd.ntmps45
        go_wp2_with fail
        rw [← hW0]
        go_at_call 22
        refine (HV.out W0 HB0.out).mono ?_
        rintro e w1 ⟨rfl, hb1⟩
        have HB1 := Lib.hid (HB0.out.trans (hb1.mono HB0.out.size))
        obtain ⟨c0, c1⟩ := HX.out.kept hb1
        clear hb1 hW0
        go_wp2_with fail
        go_ret2
        exact ⟨rfl, HB1.out⟩

/-- What RunDfa answers. -/
theorem implRun_any (va vn : Value) (d : Dx) (S : Nat → Prop) (q0 : Int) (s : ByteArray) (w : World) (h : DfaV w S va vn d) (hss : s.size ≤ 9223372036854775807) :
    Calls Tryd.prog 45 #[.agg #[va, vn], .int .i64 q0, .string s] w fun e w' => e = .returned (.tuple #[.int .i64 (runV d q0 s.data.toList), .bool (runOk d q0 s.data.toList)]) ∧ Below w.heap.size w w' := by
  unfold runV
  cases hok : runOk d q0 s.data.toList with
  | false => exact implRun_no va vn d S q0 s w h hss hok
  | true =>
    unfold runOk at hok
    simp only [Bool.and_eq_true, decide_eq_true_eq] at hok
    exact implRun_yes va vn d S q0 s w h hok.1.1.1 hok.1.1.2 hok.1.2 hok.2

set_option maxRecDepth 100000 in
set_option maxHeartbeats 1600000 in
theorem implAcc_any (va vn : Value) (d : Dx) (S : Nat → Prop) (s : ByteArray) (w : World) (h : DfaV w S va vn d) (hss : s.size ≤ 9223372036854775807) :
    Calls Tryd.prog 15 #[.agg #[va, vn], .string s] w fun e w' => e = .returned (.bool (accR d s.data.toList)) ∧ Below w.heap.size w w' := by
  have HR := Lib.hid (fun (V : World) (hV : Below w.heap.size w V) => implRun_any va vn d S 0 s V (h.kept hV) hss)
  obtain ⟨W0, hW0⟩ : ∃ W0, W0 = w.alloc (.cells #[va, vn] 27) := ⟨_, rfl⟩
  have HB0 : Hid (Below w.heap.size w W0) := Lib.hid (by rw [hW0]; exact (Below.refl _ _).alloc (Nat.le_refl _) _)
  have HX : Hid (Bx2 W0 w.heap.size va vn) := Lib.hid (by
    have k := box2_kept (w := w) (w1 := W0) (a := va) (b := vn) (t := 27) (by rw [hW0]; exact Below.refl _ _)
    exact ⟨k.2.1, k.2.2.1⟩)
  obtain ⟨⟨A, c, hva⟩, A', c', hvn⟩ := h.shape
  subst hva
  subst hvn
  cases hok : runOk d 0 s.data.toList with
  | false =>
    have HF : Hid (accR d s.data.toList = false) := Lib.hid (by simp [accR, hok])
    unfold runV at HR
    rw [hok] at HR
    clear h hok
    go_enter Tryd.func15, Tryd.ntmps15
    go_wp2_with fail
    rw [← hW0]
    go_at_call 45
    refine (HR.out W0 HB0.out).mono ?_
    rintro e w1 ⟨rfl, hb1⟩
    have HB1 := Lib.hid (HB0.out.trans (hb1.mono HB0.out.size))
    clear hb1 hW0
    go_wp2_with fail
    go_ret
    exact ⟨congrArg (fun b : Bool => Ending.returned (.bool b)) HF.out.symm, HB1.out⟩
  | true =>
    have hok2 := hok
    unfold runOk at hok2
    simp only [Bool.and_eq_true, decide_eq_true_eq] at hok2
    obtain ⟨hw, hn, hnn, hl, ad, cc, ad', cc', e1, e2, hA, hT⟩ := h.au hok2.1.1.1
    cases e1
    clear e2
    have hall : s.data.toList.all isLetter = true := by
      have h := hok2.2
      unfold isW at h
      simp only [Bool.and_eq_true] at h
      exact h.1
    obtain ⟨p, hp⟩ : ∃ p, p = (auD d).run 0 (idxs s.data.toList) := ⟨_, rfl⟩
    have hpl : p < d.acc.length := by rw [hp, ← hnn]; exact Au.run_lt hw _ _ (idxs_W3 hall) hw.1
    have hc := hA p hpl
    obtain ⟨b, hb⟩ : ∃ b, b = (auD d).A p := ⟨_, rfl⟩
    rw [← hb] at hc
    have HF : Hid (accR d s.data.toList = b) := Lib.hid (by rw [accR, hok, Bool.true_and, hb, hp])
    unfold runV at HR
    rw [hok] at HR
    simp only [if_true, Int.toNat_zero] at HR
    rw [← hp] at HR
    obtain ⟨n, hne⟩ : ∃ n, n = d.acc.length := ⟨_, rfl⟩
    rw [← hne] at hW0 HX HR hpl
    rw [← hne]
    have s4 : (p : Int) < (n : Int) := by omega
    have HC := Lib.hid (fun (V : World) (hV : Below w.heap.size w V) => (hV.cell (cell_in hc)).trans hc)
    clear h hok hok2 hp hb hc hA hT hw hn hnn hl hall hne
    go_enter Tryd.func15, Tryd.ntmps15
    go_wp2_with fail
    rw [← hW0]
    go_at_call 45
    refine (HR.out W0 HB0.out).mono ?_
    rintro e w1 ⟨rfl, hb1⟩
    have HB1 := Lib.hid (HB0.out.trans (hb1.mono HB0.out.size))
    obtain ⟨c0, c1⟩ := HX.out.kept hb1
    have hcv := HC.out w1 HB1.out
    clear hb1 hW0
    go_wp2_with fail
    go_ret
    exact ⟨congrArg (fun b : Bool => Ending.returned (.bool b)) HF.out.symm, HB1.out⟩
end Go.Proofs.YtlkhmpdncimnfaaDoor

/-
  laws.FnDivided answers true at every slice of bytes in old memory; behind the call nothing that was there has turned.
-/
namespace Go.Proofs.YtlkhmpdncimnfaaDoor
open Go.RowKit

theorem ext_take (x : ByteArray) (j : Nat) : (x.extract 0 j).data.toList = x.data.toList.take j := by simp
theorem ext_drop (x : ByteArray) (j : Nat) : (x.extract j x.size).data.toList = x.data.toList.drop j := by
  rw [ByteArray.data_extract, Array.toList_extract, List.extract_eq_take_drop]
  exact List.take_of_length_le (by simp only [List.length_drop, Array.length_toList]; exact Nat.le_refl _)
theorem ext_take_le (x : ByteArray) (j : Nat) (h : x.size ≤ 30) : (x.extract 0 j).size ≤ 9223372036854775807 := by rw [ByteArray.size_extract]; omega
theorem ext_drop_le (x : ByteArray) (j : Nat) (h : x.size ≤ 30) : (x.extract j x.size).size ≤ 9223372036854775807 := by rw [ByteArray.size_extract]; omega
/-- An automaton in its box. -/
structure BX (V : World) (g : Nat) (va vn : Value) (d : Dx) : Prop where
  c0 : V.cell? ⟨g, 0, none⟩ = some va
  c1 : V.cell? ⟨g, 1, none⟩ = some vn
  dfa : DfaV V AnyB va vn d
theorem BX.kept {V V' : World} {g : Nat} {va vn : Value} {d : Dx} (h : BX V g va vn d) (hb : Below V.heap.size V V') : BX V' g va vn d :=
  ⟨(hb.cell (cell_in h.c0)).trans h.c0, (hb.cell (cell_in h.c1)).trans h.c1, h.dfa.kept hb⟩
theorem BX.new {w : World} {S : Nat → Prop} {va vn : Value} {d : Dx} {t : TypeId} (h : DfaV w S va vn d) : BX (w.alloc (.cells #[va, vn] t)) w.heap.size va vn d := by
  have k := box2_kept (w := w) (a := va) (b := vn) (t := t) (Below.refl _ _)
  exact ⟨k.2.1, k.2.2.1, (h.kept ((Below.refl _ _).alloc (Nat.le_refl _) _)).mono (fun _ _ => rfl) (fun _ _ => trivial)⟩
theorem BL.upB {w : World} {B B' : Nat} {A : Option Addr} {n : Nat} (h : BL w B A n) (hB : B ≤ B') : BL w B' A n := fun k hk => by
  obtain ⟨ad, z, e, hlt, hc, hz⟩ := h k hk
  exact ⟨ad, z, e, Nat.lt_of_lt_of_le hlt hB, hc, hz⟩

set_option maxRecDepth 100000 in
set_option maxHeartbeats 20000000 in
theorem lawDiv_any (A : Option Addr) (n c : Nat) (w : World) (h : BL w w.heap.size A n) (hnm : n ≤ 9223372036854775807) (hTab : Tab w) :
    Calls Tryd.prog 3 #[.slice A n c] w fun e w' => e = .returned (.bool true) ∧ Below w.heap.size w w' := by
  by_cases hz : 1048576 < n
  · have e1 : decide ((n : Int) > 1048576) = true := by simp; omega
    clear h
    go_enter Tryd.func3, Tryd.ntmps3
    go_wp2
    go_ret
    exact ⟨rfl, Below.refl _ _⟩
  · have e1 : decide ((n : Int) > 1048576) = false := by simp; omega
    have HBL := Lib.hid h
    have HTb := Lib.hid (fun (V : World) (hV : Below w.heap.size w V) => hTab.kept hV)
    have HD := Lib.hid (drawCat_any A n c w h (by omega))
    clear h hTab
    go_enter Tryd.func3, Tryd.ntmps3
    go_wp2_with (go_at_call 6; go_in)
    refine HD.out.mono ?_
    rintro e w1 ⟨va, vn, da, vb, vm, db, rfl, hda, hdb, hb1⟩
    obtain ⟨⟨Aa, qa, rfl⟩, An, qn, rfl⟩ := hda.shape
    obtain ⟨⟨Ba, pa, rfl⟩, Bn, pn, rfl⟩ := hdb.shape
    have XA0 := Lib.hid (BX.new (t := 27) hda)
    have BW0 := Lib.hid ((Below.refl w1.heap.size w1).alloc (Nat.le_refl _) (.cells #[.slice Aa da.acc.length qa, .slice An da.nxt.length qn] 27))
    have XB := Lib.hid (BX.new (t := 27) (hdb.kept BW0.out))
    have BW1 := Lib.hid ((Below.refl (w1.alloc (.cells #[.slice Aa da.acc.length qa, .slice An da.nxt.length qn] 27)).heap.size (w1.alloc (.cells #[.slice Aa da.acc.length qa, .slice An da.nxt.length qn] 27))).alloc (Nat.le_refl _) (.cells #[.slice Ba db.acc.length pa, .slice Bn db.nxt.length pn] 27))
    have XA := Lib.hid (XA0.out.kept BW1.out)
    have HB1 := Lib.hid (hb1.trans ((BW0.out.trans (BW1.out.mono BW0.out.size)).mono hb1.size))
    clear XA0 BW0 BW1 hda hdb hb1
    obtain ⟨ca0, ca1⟩ := And.intro XA.out.c0 XA.out.c1
    obtain ⟨cb0, cb1⟩ := And.intro XB.out.c0 XB.out.c1
    obtain ⟨s1, hs1⟩ : ∃ s1, s1 = w1.heap.size := ⟨_, rfl⟩
    rw [World.size_alloc] at cb0 cb1 XB
    obtain ⟨yd, ok, hcr⟩ := catR_some da db
    have HCR := Lib.hid hcr
    clear hcr
    go_wp2_with fail
    obtain ⟨W1, hW1⟩ : ∃ W1, W1 = (w1.alloc (.cells #[.slice Aa da.acc.length qa, .slice An da.nxt.length qn] 27)).alloc (.cells #[.slice Ba db.acc.length pa, .slice Bn db.nxt.length pn] 27) := ⟨_, rfl⟩
    rw [← hW1] at HB1 XA XB ca0 ca1 cb0 cb1 ⊢
    clear hW1
    go_at_call 8
    refine (implCat_any _ _ _ _ da db _ _ yd ok W1 XA.out.dfa XB.out.dfa HCR.out (HTb.out _ HB1.out)).mono ?_
    rintro e w2 hp
    obtain ⟨Da, d1, Dn, d2, rfl, ho, hb⟩ := hp.shape
    clear hp ca0 ca1 cb0 cb1
    have BW := Lib.hid ((Below.refl w2.heap.size w2).alloc (Nat.le_refl _) (.cells #[.slice Da yd.acc.length d1, .slice Dn yd.nxt.length d2] 27))
    have XD := Lib.hid (BX.new (t := 27) ho.dfa)
    have BK := Lib.hid (hb.trans (BW.out.mono hb.size))
    have XA := Lib.hid (XA.out.kept BK.out)
    have XB := Lib.hid (XB.out.kept BK.out)
    have HB2 := Lib.hid (HB1.out.trans (BK.out.mono HB1.out.size))
    clear BW BK HB1
    clear ho hb
    obtain ⟨ca0, ca1⟩ := And.intro XA.out.c0 XA.out.c1
    obtain ⟨cb0, cb1⟩ := And.intro XB.out.c0 XB.out.c1
    go_wp2_with fail
    obtain ⟨W2, hW2⟩ : ∃ W2, W2 = w2.alloc (.cells #[.slice Da yd.acc.length d1, .slice Dn yd.nxt.length d2] 27) := ⟨_, rfl⟩
    rw [← hW2] at HB2 XA XB XD ca0 ca1 cb0 cb1 ⊢
    clear hW2
    go_at_call 9
    refine (specCat_any _ _ _ _ da db _ _ yd ok W2 XA.out.dfa XB.out.dfa HCR.out).mono ?_
    rintro e w3 hp
    obtain ⟨Ea, e1', En, e2', rfl, ho, hb⟩ := hp.shape
    clear hp ca0 ca1 cb0 cb1
    have BW := Lib.hid ((Below.refl w3.heap.size w3).alloc (Nat.le_refl _) (.cells #[.slice Ea yd.acc.length e1', .slice En yd.nxt.length e2'] 27))
    have XE := Lib.hid (BX.new (t := 27) ho.dfa)
    have BK := Lib.hid (hb.trans (BW.out.mono hb.size))
    have XA := Lib.hid (XA.out.kept BK.out)
    have XB := Lib.hid (XB.out.kept BK.out)
    have XD := Lib.hid (XD.out.kept BK.out)
    have HB3 := Lib.hid (HB2.out.trans (BK.out.mono HB2.out.size))
    clear BW BK HB2
    clear ho hb
    have HBL3 := Lib.hid ((HBL.out.below HB3.out).upB HB3.out.size)
    go_wp2_with fail
    obtain ⟨W3, hW3⟩ : ∃ W3, W3 = w3.alloc (.cells #[.slice Ea yd.acc.length e1', .slice En yd.nxt.length e2'] 27) := ⟨_, rfl⟩
    rw [← hW3] at HB3 XA XB XD XE HBL3 ⊢
    clear hW3
    refine (drawSta_any A n c W3 HBL3.out (by omega)).mono ?_
    rintro e w4 ⟨vx, vy, dx, rfl, ho, hb⟩
    obtain ⟨⟨Xa, x1, rfl⟩, Xn, x2, rfl⟩ := ho.shape
    clear HBL3
    obtain ⟨yx, fine, hsr⟩ := starR_some dx
    have HSR := Lib.hid hsr
    clear hsr
    have BW := Lib.hid ((Below.refl w4.heap.size w4).alloc (Nat.le_refl _) (.cells #[.slice Xa dx.acc.length x1, .slice Xn dx.nxt.length x2] 27))
    have XX := Lib.hid (BX.new (t := 27) ho)
    have BK := Lib.hid (hb.trans (BW.out.mono hb.size))
    have XA := Lib.hid (XA.out.kept BK.out)
    have XB := Lib.hid (XB.out.kept BK.out)
    have XD := Lib.hid (XD.out.kept BK.out)
    have XE := Lib.hid (XE.out.kept BK.out)
    have HB4 := Lib.hid (HB3.out.trans (BK.out.mono HB3.out.size))
    clear BW BK HB3
    clear ho hb
    obtain ⟨cx0, cx1⟩ := And.intro XX.out.c0 XX.out.c1
    go_wp2_with fail
    obtain ⟨W4, hW4⟩ : ∃ W4, W4 = w4.alloc (.cells #[.slice Xa dx.acc.length x1, .slice Xn dx.nxt.length x2] 27) := ⟨_, rfl⟩
    rw [← hW4] at HB4 XA XB XD XE XX cx0 cx1 ⊢
    clear hW4
    go_at_call 11
    refine (implStar_any _ _ dx _ yx fine W4 XX.out.dfa HSR.out (HTb.out _ HB4.out)).mono ?_
    rintro e w5 hp
    obtain ⟨Ya, y1, Yn, y2, rfl, ho, hb⟩ := hp.shape
    clear hp cx0 cx1
    have BW := Lib.hid ((Below.refl w5.heap.size w5).alloc (Nat.le_refl _) (.cells #[.slice Ya yx.acc.length y1, .slice Yn yx.nxt.length y2] 27))
    have XY := Lib.hid (BX.new (t := 27) ho.dfa)
    have BK := Lib.hid (hb.trans (BW.out.mono hb.size))
    have XA := Lib.hid (XA.out.kept BK.out)
    have XB := Lib.hid (XB.out.kept BK.out)
    have XD := Lib.hid (XD.out.kept BK.out)
    have XE := Lib.hid (XE.out.kept BK.out)
    have XX := Lib.hid (XX.out.kept BK.out)
    have HB5 := Lib.hid (HB4.out.trans (BK.out.mono HB4.out.size))
    clear BW BK HB4
    clear ho hb
    obtain ⟨cx0, cx1⟩ := And.intro XX.out.c0 XX.out.c1
    go_wp2_with fail
    obtain ⟨W5, hW5⟩ : ∃ W5, W5 = w5.alloc (.cells #[.slice Ya yx.acc.length y1, .slice Yn yx.nxt.length y2] 27) := ⟨_, rfl⟩
    rw [← hW5] at HB5 XA XB XD XE XX XY cx0 cx1 ⊢
    clear hW5
    go_at_call 12
    refine (specStar_any _ _ dx _ yx fine W5 XX.out.dfa HSR.out).mono ?_
    rintro e w6 hp
    obtain ⟨Za, z1, Zn, z2, rfl, ho, hb⟩ := hp.shape
    clear hp cx0 cx1
    have BW := Lib.hid ((Below.refl w6.heap.size w6).alloc (Nat.le_refl _) (.cells #[.slice Za yx.acc.length z1, .slice Zn yx.nxt.length z2] 27))
    have XZ := Lib.hid (BX.new (t := 27) ho.dfa)
    have BK := Lib.hid (hb.trans (BW.out.mono hb.size))
    have XA := Lib.hid (XA.out.kept BK.out)
    have XB := Lib.hid (XB.out.kept BK.out)
    have XD := Lib.hid (XD.out.kept BK.out)
    have XE := Lib.hid (XE.out.kept BK.out)
    have XX := Lib.hid (XX.out.kept BK.out)
    have XY := Lib.hid (XY.out.kept BK.out)
    have HB6 := Lib.hid (HB5.out.trans (BK.out.mono HB5.out.size))
    clear BW BK HB5
    clear ho hb
    obtain ⟨W6, hW6⟩ : ∃ W6, W6 = w6.alloc (.cells #[.slice Za yx.acc.length z1, .slice Zn yx.nxt.length z2] 27) := ⟨_, rfl⟩
    rw [← hW6] at HB6 XA XB XD XE XX XY XZ
    have HKC := Lib.hid (fun (V : World) (h : Below W6.heap.size W6 V) => (⟨(XD.out.kept h).c0, (XD.out.kept h).c1, (XE.out.kept h).c0, (XE.out.kept h).c1, (XY.out.kept h).c0, (XY.out.kept h).c1, (XZ.out.kept h).c0, (XZ.out.kept h).c1⟩ :
      V.cell? ⟨w2.heap.size, 0, none⟩ = some (.slice Da yd.acc.length d1) ∧ V.cell? ⟨w2.heap.size, 1, none⟩ = some (.slice Dn yd.nxt.length d2) ∧ V.cell? ⟨w3.heap.size, 0, none⟩ = some (.slice Ea yd.acc.length e1') ∧ V.cell? ⟨w3.heap.size, 1, none⟩ = some (.slice En yd.nxt.length e2') ∧ V.cell? ⟨w5.heap.size, 0, none⟩ = some (.slice Ya yx.acc.length y1) ∧ V.cell? ⟨w5.heap.size, 1, none⟩ = some (.slice Yn yx.nxt.length y2) ∧ V.cell? ⟨w6.heap.size, 0, none⟩ = some (.slice Za yx.acc.length z1) ∧ V.cell? ⟨w6.heap.size, 1, none⟩ = some (.slice Zn yx.nxt.length z2)))
    have HE1 := Lib.hid (fun (V : World) (h : Below W6.heap.size W6 V) => (show Calls Tryd.prog 13 #[.agg #[.slice Da yd.acc.length d1, .slice Dn yd.nxt.length d2], .agg #[.slice Ea yd.acc.length e1', .slice En yd.nxt.length e2']] V (fun e w' => e = .returned (.bool true) ∧ Below V.heap.size V w') from by
      have k := specEqD_any _ _ _ _ yd yd _ _ V (XD.out.kept h).dfa (XE.out.kept h).dfa
      rwa [sameD_refl] at k))
    have HE2 := Lib.hid (fun (V : World) (h : Below W6.heap.size W6 V) => (show Calls Tryd.prog 13 #[.agg #[.slice Ya yx.acc.length y1, .slice Yn yx.nxt.length y2], .agg #[.slice Za yx.acc.length z1, .slice Zn yx.nxt.length z2]] V (fun e w' => e = .returned (.bool true) ∧ Below V.heap.size V w') from by
      have k := specEqD_any _ _ _ _ yx yx _ _ V (XY.out.kept h).dfa (XZ.out.kept h).dfa
      rwa [sameD_refl] at k))
    have hn1 : (ok != ok) = false := by simp
    have hn2 : (fine != fine) = false := by simp
    obtain ⟨cd0, cd1⟩ := And.intro XD.out.c0 XD.out.c1
    obtain ⟨ce0, ce1⟩ := And.intro XE.out.c0 XE.out.c1
    rw [hW6] at cd0 cd1 ce0 ce1
    go_wp2_with fail
    rw [← hW6]
    clear hW6 cd0 cd1 ce0 ce1
    go_at_call 13
    refine (HE1.out W6 (Below.refl _ _)).mono ?_
    rintro e wa ⟨rfl, hba⟩
    obtain ⟨-, -, -, -, cy0, cy1, cz0, cz1⟩ := HKC.out wa hba
    have HBa := Lib.hid hba
    clear hba
    go_wp2_with fail
    go_at_call 13
    refine (HE2.out wa HBa.out).mono ?_
    rintro e wb ⟨rfl, hbb⟩
    have hbw : Below W6.heap.size W6 wb := HBa.out.trans (hbb.mono HBa.out.size)
    clear hbb cy0 cy1 cz0 cz1
    have HB7 := Lib.hid (HB6.out.trans (hbw.mono HB6.out.size))
    have XA := Lib.hid (XA.out.kept hbw)
    have XB := Lib.hid (XB.out.kept hbw)
    have XD := Lib.hid (XD.out.kept hbw)
    have XX := Lib.hid (XX.out.kept hbw)
    have XY := Lib.hid (XY.out.kept hbw)
    clear hbw HBa HKC HE1 HE2 hn1 hn2 HB6 XE XZ
    have HWd := Lib.hid (fun V => specTo_any 3 4 V (by omega) (fun k hk => by omega) (fun h => by omega) (by omega))
    have HWS : Hid (∀ s ∈ under 4, isW s = true ∧ s.length ≤ 30) := Lib.hid (fun s hs => by
      have := List.all_eq_true.1 words3 s hs
      simpa using this)
    have hpl : (under 4).length ≤ 364 := under_le 4 (by omega)
    have hpp : 0 < (under 4).length := by decide +kernel
    obtain ⟨ps, hps⟩ : ∃ ps, ps = under 4 := ⟨_, rfl⟩
    rw [← hps] at HWd HWS hpl hpp
    clear hps
    go_wp2_with fail
    refine (HWd.out _).mono ?_
    rintro e w9 ⟨v, rfl, hown, hb9⟩
    have HB9 := Lib.hid (HB7.out.trans (hb9.mono HB7.out.size))
    have XA := Lib.hid (XA.out.kept hb9)
    have XB := Lib.hid (XB.out.kept hb9)
    have XD := Lib.hid (XD.out.kept hb9)
    have XX := Lib.hid (XX.out.kept hb9)
    have XY := Lib.hid (XY.out.kept hb9)
    obtain ⟨g, cap, rfl⟩ : ∃ g cap, v = .slice (some ⟨g, 0, none⟩) ps.length cap := by
      rcases hown.2 with ⟨_, h0⟩ | ⟨g, cap, _, rfl, _⟩
      · omega
      · exact ⟨g, cap, rfl⟩
    have HCell := Lib.hid (fun (V : World) (h : Below w9.heap.size w9 V) (k : Nat) (hk : k < ps.length) => (show V.cell? ⟨g, k, none⟩ = some (.string ⟨(ps[k]'hk).toArray⟩) from by
      have e0 : w9.cell? ⟨g, k, none⟩ = some (.string ⟨(ps[k]'hk).toArray⟩) := by
        rw [hown.cellAt k (by omega)]
        simp [strs]
      exact (h.cell (cell_in e0)).trans e0))
    clear hown hb9 HB7 HWd
    go_wp2_with fail
    go_loopw [15] (fun i wr => ∃ k : Nat, i = .int .i64 (k : Int) ∧ k ≤ ps.length ∧ Hid (Below w9.heap.size w9 wr)) (fun i _ => ps.length - (intOf i).toNat)
    case atStart => exact ⟨0, rfl, Nat.zero_le _, Lib.hid (Below.refl _ _)⟩
    case round =>
      obtain ⟨k, rfl, hk, HBr⟩ := hrel
      by_cases hlt : k < ps.length
      · have hd : decide ((k : Int) < (ps.length : Int)) = true := by simp; omega
        have s1 : (k : Int) < (ps.length : Int) := by omega
        have s2 : (0 : Int) ≤ (k : Int) := by omega
        have hcx := HCell.out wr HBr.out k hlt
        obtain ⟨hw0, hl0⟩ := HWS.out _ (List.getElem_mem hlt)
        obtain ⟨x, hx⟩ : ∃ x : ByteArray, x = ⟨(ps[k]'hlt).toArray⟩ := ⟨_, rfl⟩
        rw [← hx] at hcx
        have hww : isW x.data.toList = true := by rw [hx]; exact hw0
        have hxs : x.size ≤ 30 := by
          rw [hx]
          show (ps[k]'hlt).length ≤ _
          omega
        have HSP : Hid (ok = true → accR yd x.data.toList = splitB (accR da) (accR db) x.data.toList (x.size + 1)) := Lib.hid (fun e => by
          have hcr := HCR.out
          rw [e] at hcr
          have := cat_split hcr hww
          simpa using this)
        have HMO : Hid (fine = true → accR yx x.data.toList = moreB (accR dx) (accR yx) x.data.toList (x.size + 1)) := Lib.hid (fun e => by
          have hsr := HSR.out
          rw [e] at hsr
          have := star_more hsr hww
          simpa using this)
        have HM0 : Hid (x.toList.isEmpty = moreB (accR dx) (accR yx) x.data.toList 0) := Lib.hid (by rw [moreB_zero, ByteArray.toList_eq])
        clear hx hw0 hl0 hww
        have hXS := hxs
        go_wp2_with fail
        go_loopw [17, 18, 19] (fun sv mv iv wi => ∃ j : Nat, sv = .bool (splitB (accR da) (accR db) x.data.toList j) ∧ mv = .bool (moreB (accR dx) (accR yx) x.data.toList j) ∧ iv = .int .i64 (j : Int) ∧ j ≤ x.size + 1 ∧ Hid (Below w9.heap.size w9 wi)) (fun _ _ iv _ => x.size + 1 - (intOf iv).toNat)
        case atStart => exact ⟨0, rfl, congrArg Value.bool HM0.out, rfl, by omega, HBr⟩
        case round =>
          obtain ⟨j, rfl, rfl, rfl, hj, HBi⟩ := hrel
          by_cases hjl : j ≤ x.size
          · have hd2 : decide ((j : Int) ≤ (x.size : Int)) = true := by simp; omega
            have s3 : (j : Int) ≤ (x.size : Int) := by omega
            have s4 : (0 : Int) ≤ (j : Int) := by omega
            obtain ⟨sp, hsp⟩ : ∃ sp, sp = splitB (accR da) (accR db) x.data.toList j := ⟨_, rfl⟩
            obtain ⟨mo, hmo⟩ : ∃ mo, mo = moreB (accR dx) (accR yx) x.data.toList j := ⟨_, rfl⟩
            rw [← hsp, ← hmo]
            have HSPe := Lib.hid hsp
            have HMOe := Lib.hid hmo
            clear hsp hmo
            obtain ⟨pu, hpu⟩ : ∃ b, b = accR da (x.data.toList.take j) := ⟨_, rfl⟩
            obtain ⟨pv, hpv⟩ : ∃ b, b = accR db (x.data.toList.drop j) := ⟨_, rfl⟩
            obtain ⟨pe, hpe⟩ : ∃ b, b = accR dx (x.data.toList.take j) := ⟨_, rfl⟩
            obtain ⟨pf, hpf⟩ : ∃ b, b = accR yx (x.data.toList.drop j) := ⟨_, rfl⟩
            have HQA := Lib.hid (fun (V : World) (h : Below w9.heap.size w9 V) => implAcc_any _ _ da _ (x.extract 0 j) V (XA.out.kept h).dfa (ext_take_le x j hXS))
            have HQB := Lib.hid (fun (V : World) (h : Below w9.heap.size w9 V) => implAcc_any _ _ db _ (x.extract j x.size) V (XB.out.kept h).dfa (ext_drop_le x j hXS))
            have HQX := Lib.hid (fun (V : World) (h : Below w9.heap.size w9 V) => implAcc_any _ _ dx _ (x.extract 0 j) V (XX.out.kept h).dfa (ext_take_le x j hXS))
            have HQY := Lib.hid (fun (V : World) (h : Below w9.heap.size w9 V) => implAcc_any _ _ yx _ (x.extract j x.size) V (XY.out.kept h).dfa (ext_drop_le x j hXS))
            rw [ext_take, ← hpu] at HQA
            rw [ext_drop, ← hpv] at HQB
            rw [ext_take, ← hpe] at HQX
            rw [ext_drop, ← hpf] at HQY
            have HS1 : Hid ((sp || pu && pv) = splitB (accR da) (accR db) x.data.toList (j + 1)) := Lib.hid (by rw [splitB_succ, ← HSPe.out, hpu, hpv])
            have HM1 : Hid ((mo || decide (0 < j) && pe && pf) = moreB (accR dx) (accR yx) x.data.toList (j + 1)) := Lib.hid (by rw [moreB_succ, ← HMOe.out, hpe, hpf])
            clear hpu hpv hpe hpf HSPe HMOe
            have k1 := fun (m : UpW wr) => (XA.out.kept (HBi.out.trans (m.up.mono HBi.out.size))).c0
            have k2 := fun (m : UpW wr) => (XA.out.kept (HBi.out.trans (m.up.mono HBi.out.size))).c1
            have k3 := fun (m : UpW wr) => (XB.out.kept (HBi.out.trans (m.up.mono HBi.out.size))).c0
            have k4 := fun (m : UpW wr) => (XB.out.kept (HBi.out.trans (m.up.mono HBi.out.size))).c1
            have HQA := Lib.hid (fun (m : UpW wr) => up_call (HQA.out _ (HBi.out.trans (m.up.mono HBi.out.size))))
            have HQB := Lib.hid (fun (m : UpW wr) => up_call (HQB.out _ (HBi.out.trans (m.up.mono HBi.out.size))))
            cases sp with
            | true =>
              have HS1 : Hid (true = splitB (accR da) (accR db) x.data.toList (j + 1)) := Lib.hid (by rw [← HS1.out]; simp)
              go_wp2_with fail
              refine wp_region_up (by kernel_rfl) (by kernel_rfl) ?_
              repeat (go_big_quiet_step ((first | with_reducible exact HQA.out _ | with_reducible exact HQB.out _)))
              refine wpQuiet_nil ?_
              rintro wd ⟨⟨_, hbw⟩, rfl⟩
              have HBd := Lib.hid (HBi.out.trans (hbw.mono HBi.out.size))
              clear hbw k1 k2 k3 k4
              have k5 := fun (m : UpW wd) => (XX.out.kept (HBd.out.trans (m.up.mono HBd.out.size))).c0
              have k6 := fun (m : UpW wd) => (XX.out.kept (HBd.out.trans (m.up.mono HBd.out.size))).c1
              have k7 := fun (m : UpW wd) => (XY.out.kept (HBd.out.trans (m.up.mono HBd.out.size))).c0
              have k8 := fun (m : UpW wd) => (XY.out.kept (HBd.out.trans (m.up.mono HBd.out.size))).c1
              have HQX := Lib.hid (fun (m : UpW wd) => up_call (HQX.out _ (HBd.out.trans (m.up.mono HBd.out.size))))
              have HQY := Lib.hid (fun (m : UpW wd) => up_call (HQY.out _ (HBd.out.trans (m.up.mono HBd.out.size))))
              cases mo with
              | true =>
                have HM1 : Hid (true = moreB (accR dx) (accR yx) x.data.toList (j + 1)) := Lib.hid (by rw [← HM1.out]; simp)
                go_wp2_with fail
                refine wp_region_up (by kernel_rfl) (by kernel_rfl) ?_
                repeat (go_big_quiet_step ((first | with_reducible exact HQX.out _ | with_reducible exact HQY.out _)))
                refine wpQuiet_nil ?_
                rintro wf ⟨⟨_, hbx⟩, rfl⟩
                have HBf := Lib.hid (HBd.out.trans (hbx.mono HBd.out.size))
                clear hbx k5 k6 k7 k8
                go_wp2_with fail
                go_roundw
                case rel => exact ⟨j + 1, congrArg Value.bool HS1.out, congrArg Value.bool HM1.out, by go_num, by omega, HBf⟩
                case measure => simp [intOf]; omega
              | false =>
                by_cases hj0 : 0 < j
                · have hd3 : decide ((j : Int) > 0) = true := by simp; omega
                  cases pe with
                  | false =>
                    have HM1 : Hid (false = moreB (accR dx) (accR yx) x.data.toList (j + 1)) := Lib.hid (by rw [← HM1.out]; simp)
                    go_wp2_with fail
                    refine wp_region_up (by kernel_rfl) (by kernel_rfl) ?_
                    repeat (go_big_quiet_step ((first | with_reducible exact HQX.out _ | with_reducible exact HQY.out _)))
                    refine wpQuiet_nil ?_
                    rintro wf ⟨⟨_, hbx⟩, rfl⟩
                    have HBf := Lib.hid (HBd.out.trans (hbx.mono HBd.out.size))
                    clear hbx k5 k6 k7 k8
                    go_wp2_with fail
                    go_roundw
                    case rel => exact ⟨j + 1, congrArg Value.bool HS1.out, congrArg Value.bool HM1.out, by go_num, by omega, HBf⟩
                    case measure => simp [intOf]; omega
                  | true =>
                    have HM1 : Hid (pf = moreB (accR dx) (accR yx) x.data.toList (j + 1)) := Lib.hid (by rw [← HM1.out]; simp [hj0])
                    go_wp2_with fail
                    refine wp_region_up (by kernel_rfl) (by kernel_rfl) ?_
                    repeat (go_big_quiet_step ((first | with_reducible exact HQX.out _ | with_reducible exact HQY.out _)))
                    refine wpQuiet_nil ?_
                    rintro wf ⟨⟨_, hbx⟩, rfl⟩
                    have HBf := Lib.hid (HBd.out.trans (hbx.mono HBd.out.size))
                    clear hbx k5 k6 k7 k8
                    go_wp2_with fail
                    go_roundw
                    case rel => exact ⟨j + 1, congrArg Value.bool HS1.out, congrArg Value.bool HM1.out, by go_num, by omega, HBf⟩
                    case measure => simp [intOf]; omega
                · have hd3 : decide ((j : Int) > 0) = false := by simp; omega
                  have HM1 : Hid (false = moreB (accR dx) (accR yx) x.data.toList (j + 1)) := Lib.hid (by rw [← HM1.out]; simp [hj0])
                  go_wp2_with fail
                  refine wp_region_up (by kernel_rfl) (by kernel_rfl) ?_
                  repeat (go_big_quiet_step ((first | with_reducible exact HQX.out _ | with_reducible exact HQY.out _)))
                  refine wpQuiet_nil ?_
                  rintro wf ⟨⟨_, hbx⟩, rfl⟩
                  have HBf := Lib.hid (HBd.out.trans (hbx.mono HBd.out.size))
                  clear hbx k5 k6 k7 k8
                  go_wp2_with fail
                  go_roundw
                  case rel => exact ⟨j + 1, congrArg Value.bool HS1.out, congrArg Value.bool HM1.out, by go_num, by omega, HBf⟩
                  case measure => simp [intOf]; omega
            | false =>
              cases pu with
              | false =>
                have HS1 : Hid (false = splitB (accR da) (accR db) x.data.toList (j + 1)) := Lib.hid (by rw [← HS1.out]; simp)
                go_wp2_with fail
                refine wp_region_up (by kernel_rfl) (by kernel_rfl) ?_
                repeat (go_big_quiet_step ((first | with_reducible exact HQA.out _ | with_reducible exact HQB.out _)))
                refine wpQuiet_nil ?_
                rintro wd ⟨⟨_, hbw⟩, rfl⟩
                have HBd := Lib.hid (HBi.out.trans (hbw.mono HBi.out.size))
                clear hbw k1 k2 k3 k4
                have k5 := fun (m : UpW wd) => (XX.out.kept (HBd.out.trans (m.up.mono HBd.out.size))).c0
                have k6 := fun (m : UpW wd) => (XX.out.kept (HBd.out.trans (m.up.mono HBd.out.size))).c1
                have k7 := fun (m : UpW wd) => (XY.out.kept (HBd.out.trans (m.up.mono HBd.out.size))).c0
                have k8 := fun (m : UpW wd) => (XY.out.kept (HBd.out.trans (m.up.mono HBd.out.size))).c1
                have HQX := Lib.hid (fun (m : UpW wd) => up_call (HQX.out _ (HBd.out.trans (m.up.mono HBd.out.size))))
                have HQY := Lib.hid (fun (m : UpW wd) => up_call (HQY.out _ (HBd.out.trans (m.up.mono HBd.out.size))))
                cases mo with
                | true =>
                  have HM1 : Hid (true = moreB (accR dx) (accR yx) x.data.toList (j + 1)) := Lib.hid (by rw [← HM1.out]; simp)
                  go_wp2_with fail
                  refine wp_region_up (by kernel_rfl) (by kernel_rfl) ?_
                  repeat (go_big_quiet_step ((first | with_reducible exact HQX.out _ | with_reducible exact HQY.out _)))
                  refine wpQuiet_nil ?_
                  rintro wf ⟨⟨_, hbx⟩, rfl⟩
                  have HBf := Lib.hid (HBd.out.trans (hbx.mono HBd.out.size))
                  clear hbx k5 k6 k7 k8
                  go_wp2_with fail
                  go_roundw
                  case rel => exact ⟨j + 1, congrArg Value.bool HS1.out, congrArg Value.bool HM1.out, by go_num, by omega, HBf⟩
                  case measure => simp [intOf]; omega
                | false =>
                  by_cases hj0 : 0 < j
                  · have hd3 : decide ((j : Int) > 0) = true := by simp; omega
                    cases pe with
                    | false =>
                      have HM1 : Hid (false = moreB (accR dx) (accR yx) x.data.toList (j + 1)) := Lib.hid (by rw [← HM1.out]; simp)
                      go_wp2_with fail
                      refine wp_region_up (by kernel_rfl) (by kernel_rfl) ?_
                      repeat (go_big_quiet_step ((first | with_reducible exact HQX.out _ | with_reducible exact HQY.out _)))
                      refine wpQuiet_nil ?_
                      rintro wf ⟨⟨_, hbx⟩, rfl⟩
                      have HBf := Lib.hid (HBd.out.trans (hbx.mono HBd.out.size))
                      clear hbx k5 k6 k7 k8
                      go_wp2_with fail
                      go_roundw
                      case rel => exact ⟨j + 1, congrArg Value.bool HS1.out, congrArg Value.bool HM1.out, by go_num, by omega, HBf⟩
                      case measure => simp [intOf]; omega
                    | true =>
                      have HM1 : Hid (pf = moreB (accR dx) (accR yx) x.data.toList (j + 1)) := Lib.hid (by rw [← HM1.out]; simp [hj0])
                      go_wp2_with fail
                      refine wp_region_up (by kernel_rfl) (by kernel_rfl) ?_
                      repeat (go_big_quiet_step ((first | with_reducible exact HQX.out _ | with_reducible exact HQY.out _)))
                      refine wpQuiet_nil ?_
                      rintro wf ⟨⟨_, hbx⟩, rfl⟩
                      have HBf := Lib.hid (HBd.out.trans (hbx.mono HBd.out.size))
                      clear hbx k5 k6 k7 k8
                      go_wp2_with fail
                      go_roundw
                      case rel => exact ⟨j + 1, congrArg Value.bool HS1.out, congrArg Value.bool HM1.out, by go_num, by omega, HBf⟩
                      case measure => simp [intOf]; omega
                  · have hd3 : decide ((j : Int) > 0) = false := by simp; omega
                    have HM1 : Hid (false = moreB (accR dx) (accR yx) x.data.toList (j + 1)) := Lib.hid (by rw [← HM1.out]; simp [hj0])
                    go_wp2_with fail
                    refine wp_region_up (by kernel_rfl) (by kernel_rfl) ?_
                    repeat (go_big_quiet_step ((first | with_reducible exact HQX.out _ | with_reducible exact HQY.out _)))
                    refine wpQuiet_nil ?_
                    rintro wf ⟨⟨_, hbx⟩, rfl⟩
                    have HBf := Lib.hid (HBd.out.trans (hbx.mono HBd.out.size))
                    clear hbx k5 k6 k7 k8
                    go_wp2_with fail
                    go_roundw
                    case rel => exact ⟨j + 1, congrArg Value.bool HS1.out, congrArg Value.bool HM1.out, by go_num, by omega, HBf⟩
                    case measure => simp [intOf]; omega
              | true =>
                have HS1 : Hid (pv = splitB (accR da) (accR db) x.data.toList (j + 1)) := Lib.hid (by rw [← HS1.out]; simp)
                go_wp2_with fail
                refine wp_region_up (by kernel_rfl) (by kernel_rfl) ?_
                repeat (go_big_quiet_step ((first | with_reducible exact HQA.out _ | with_reducible exact HQB.out _)))
                refine wpQuiet_nil ?_
                rintro wd ⟨⟨_, hbw⟩, rfl⟩
                have HBd := Lib.hid (HBi.out.trans (hbw.mono HBi.out.size))
                clear hbw k1 k2 k3 k4
                have k5 := fun (m : UpW wd) => (XX.out.kept (HBd.out.trans (m.up.mono HBd.out.size))).c0
                have k6 := fun (m : UpW wd) => (XX.out.kept (HBd.out.trans (m.up.mono HBd.out.size))).c1
                have k7 := fun (m : UpW wd) => (XY.out.kept (HBd.out.trans (m.up.mono HBd.out.size))).c0
                have k8 := fun (m : UpW wd) => (XY.out.kept (HBd.out.trans (m.up.mono HBd.out.size))).c1
                have HQX := Lib.hid (fun (m : UpW wd) => up_call (HQX.out _ (HBd.out.trans (m.up.mono HBd.out.size))))
                have HQY := Lib.hid (fun (m : UpW wd) => up_call (HQY.out _ (HBd.out.trans (m.up.mono HBd.out.size))))
                cases mo with
                | true =>
                  have HM1 : Hid (true = moreB (accR dx) (accR yx) x.data.toList (j + 1)) := Lib.hid (by rw [← HM1.out]; simp)
                  go_wp2_with fail
                  refine wp_region_up (by kernel_rfl) (by kernel_rfl) ?_
                  repeat (go_big_quiet_step ((first | with_reducible exact HQX.out _ | with_reducible exact HQY.out _)))
                  refine wpQuiet_nil ?_
                  rintro wf ⟨⟨_, hbx⟩, rfl⟩
                  have HBf := Lib.hid (HBd.out.trans (hbx.mono HBd.out.size))
                  clear hbx k5 k6 k7 k8
                  go_wp2_with fail
                  go_roundw
                  case rel => exact ⟨j + 1, congrArg Value.bool HS1.out, congrArg Value.bool HM1.out, by go_num, by omega, HBf⟩
                  case measure => simp [intOf]; omega
                | false =>
                  by_cases hj0 : 0 < j
                  · have hd3 : decide ((j : Int) > 0) = true := by simp; omega
                    cases pe with
                    | false =>
                      have HM1 : Hid (false = moreB (accR dx) (accR yx) x.data.toList (j + 1)) := Lib.hid (by rw [← HM1.out]; simp)
                      go_wp2_with fail
                      refine wp_region_up (by kernel_rfl) (by kernel_rfl) ?_
                      repeat (go_big_quiet_step ((first | with_reducible exact HQX.out _ | with_reducible exact HQY.out _)))
                      refine wpQuiet_nil ?_
                      rintro wf ⟨⟨_, hbx⟩, rfl⟩
                      have HBf := Lib.hid (HBd.out.trans (hbx.mono HBd.out.size))
                      clear hbx k5 k6 k7 k8
                      go_wp2_with fail
                      go_roundw
                      case rel => exact ⟨j + 1, congrArg Value.bool HS1.out, congrArg Value.bool HM1.out, by go_num, by omega, HBf⟩
                      case measure => simp [intOf]; omega
                    | true =>
                      have HM1 : Hid (pf = moreB (accR dx) (accR yx) x.data.toList (j + 1)) := Lib.hid (by rw [← HM1.out]; simp [hj0])
                      go_wp2_with fail
                      refine wp_region_up (by kernel_rfl) (by kernel_rfl) ?_
                      repeat (go_big_quiet_step ((first | with_reducible exact HQX.out _ | with_reducible exact HQY.out _)))
                      refine wpQuiet_nil ?_
                      rintro wf ⟨⟨_, hbx⟩, rfl⟩
                      have HBf := Lib.hid (HBd.out.trans (hbx.mono HBd.out.size))
                      clear hbx k5 k6 k7 k8
                      go_wp2_with fail
                      go_roundw
                      case rel => exact ⟨j + 1, congrArg Value.bool HS1.out, congrArg Value.bool HM1.out, by go_num, by omega, HBf⟩
                      case measure => simp [intOf]; omega
                  · have hd3 : decide ((j : Int) > 0) = false := by simp; omega
                    have HM1 : Hid (false = moreB (accR dx) (accR yx) x.data.toList (j + 1)) := Lib.hid (by rw [← HM1.out]; simp [hj0])
                    go_wp2_with fail
                    refine wp_region_up (by kernel_rfl) (by kernel_rfl) ?_
                    repeat (go_big_quiet_step ((first | with_reducible exact HQX.out _ | with_reducible exact HQY.out _)))
                    refine wpQuiet_nil ?_
                    rintro wf ⟨⟨_, hbx⟩, rfl⟩
                    have HBf := Lib.hid (HBd.out.trans (hbx.mono HBd.out.size))
                    clear hbx k5 k6 k7 k8
                    go_wp2_with fail
                    go_roundw
                    case rel => exact ⟨j + 1, congrArg Value.bool HS1.out, congrArg Value.bool HM1.out, by go_num, by omega, HBf⟩
                    case measure => simp [intOf]; omega
          · have hd2 : decide ((j : Int) ≤ (x.size : Int)) = false := by simp; omega
            have s3 : ¬ (j : Int) ≤ (x.size : Int) := by omega
            have HJ : Hid (j = x.size + 1) := Lib.hid (by omega)
            obtain ⟨sp, hsp⟩ : ∃ sp, sp = splitB (accR da) (accR db) x.data.toList j := ⟨_, rfl⟩
            obtain ⟨mo, hmo⟩ : ∃ mo, mo = moreB (accR dx) (accR yx) x.data.toList j := ⟨_, rfl⟩
            rw [← hsp, ← hmo]
            rw [HJ.out] at hsp hmo
            rw [← hsp] at HSP
            rw [← hmo] at HMO
            clear hsp hmo
            obtain ⟨ad, had⟩ : ∃ b, b = accR yd x.data.toList := ⟨_, rfl⟩
            obtain ⟨ay, hay⟩ : ∃ b, b = accR yx x.data.toList := ⟨_, rfl⟩
            have HQD := Lib.hid (fun (V : World) (h : Below w9.heap.size w9 V) => implAcc_any _ _ yd _ x V (XD.out.kept h).dfa (by omega))
            have HQY := Lib.hid (fun (V : World) (h : Below w9.heap.size w9 V) => implAcc_any _ _ yx _ x V (XY.out.kept h).dfa (by omega))
            rw [← had] at HQD HSP
            rw [← hay] at HQY HMO
            clear had hay
            cases ok with
            | false =>
              cases fine with
              | false =>
                go_wp2_with fail
                go_roundw
                case rel => exact ⟨k + 1, by go_num, by omega, HBi⟩
                case measure => simp [intOf]; omega
              | true =>
                have hay := HMO.out rfl
                subst hay
                have h5 : (ay != ay) = false := by simp
                obtain ⟨cwf0, cwf1⟩ := And.intro (XY.out.kept HBi.out).c0 (XY.out.kept HBi.out).c1
                go_wp2_with fail
                go_at_call 15
                refine (HQY.out wr HBi.out).mono ?_
                rintro e wf ⟨rfl, hbw⟩
                have HBf := Lib.hid (HBi.out.trans (hbw.mono HBi.out.size))
                clear hbw cwf0 cwf1
                go_wp2_with fail
                go_roundw
                case rel => exact ⟨k + 1, by go_num, by omega, HBf⟩
                case measure => simp [intOf]; omega
            | true =>
              have had := HSP.out rfl
              subst had
              have h6 : (ad != ad) = false := by simp
              obtain ⟨cwd0, cwd1⟩ := And.intro (XD.out.kept HBi.out).c0 (XD.out.kept HBi.out).c1
              go_wp2_with fail
              go_at_call 15
              refine (HQD.out wr HBi.out).mono ?_
              rintro e wd ⟨rfl, hbw⟩
              have HBd := Lib.hid (HBi.out.trans (hbw.mono HBi.out.size))
              clear hbw cwd0 cwd1
              cases fine with
              | false =>
                go_wp2_with fail
                go_roundw
                case rel => exact ⟨k + 1, by go_num, by omega, HBd⟩
                case measure => simp [intOf]; omega
              | true =>
                have hay := HMO.out rfl
                subst hay
                have h5 : (ay != ay) = false := by simp
                obtain ⟨cwf0, cwf1⟩ := And.intro (XY.out.kept HBd.out).c0 (XY.out.kept HBd.out).c1
                go_wp2_with fail
                go_at_call 15
                refine (HQY.out wd HBd.out).mono ?_
                rintro e wf ⟨rfl, hbw⟩
                have HBf := Lib.hid (HBd.out.trans (hbw.mono HBd.out.size))
                clear hbw cwf0 cwf1
                go_wp2_with fail
                go_roundw
                case rel => exact ⟨k + 1, by go_num, by omega, HBf⟩
                case measure => simp [intOf]; omega
      · have hd : decide ((k : Int) < (ps.length : Int)) = false := by simp; omega
        have HBz := Lib.hid (HB9.out.trans (HBr.out.mono HB9.out.size))
        go_wp2_with fail
        go_ret
        exact ⟨rfl, HBz.out⟩
end Go.Proofs.YtlkhmpdncimnfaaDoor
