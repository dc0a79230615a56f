/- Texts of one proof. -/
import Derived.Test.YtiijlpmdnokjfaaGreatDoorCplZPack30
set_option maxRecDepth 100000
set_option maxHeartbeats 20000000
namespace Go.Proofs.YtiijlpmdnokjfaaGreatDoor
open Go.RowKit
def sameD (d d' : Dx) : Bool := decide (d.acc = d'.acc /\ d.nxt = d'.nxt)
theorem sameD_refl (d : Dx) : sameD d d = true := by simp [sameD]
theorem specEqD_any (va vn va' vn' : Value) (d d' : Dx) (S S' : Nat -> Prop) (w : World) (h : DfaV w S va vn d) (h' : DfaV w S' va' vn' d') :
    Calls Tryz.prog 8 #[.agg #[va, vn], .agg #[va', vn']] w λ e w' => e = .returned (.bool (sameD d d')) /\ Below w.heap.size w w' := by
  obtain ⟨⟨A, c, rfl⟩, A', c', rfl⟩ := h.shape
  obtain ⟨⟨B, e, rfl⟩, B', e', rfl⟩ := h'.shape
  obtain ⟨W0, hW0⟩ : ∃ W0, W0 = (w.alloc (.cells #[.slice A d.acc.length c, .slice A' d.nxt.length c'] 31)).alloc (.cells #[.slice B d'.acc.length e, .slice B' d'.nxt.length e'] 31) := ⟨_, rfl⟩
  have HB0 : Hid (Below w.heap.size w W0) := Lib.hid (by rw [hW0]; exact ((Below.refl _ _).alloc (Nat.le_refl _) _).alloc (by simp) _)
  have HX : Hid (Bx2 W0 w.heap.size (.slice A d.acc.length c) (.slice A' d.nxt.length c') /\ Bx2 W0 (w.heap.size + 1) (.slice B d'.acc.length e) (.slice B' d'.nxt.length e')) := Lib.hid (by
    have k := box2_kept (w := w) (w1 := W0) (a := .slice A d.acc.length c) (b := .slice A' d.nxt.length c') (t := 31) (by rw [hW0]; exact (Below.refl _ _).alloc (by simp) _)
    have k' := box2_kept (w := w.alloc (.cells #[.slice A d.acc.length c, .slice A' d.nxt.length c'] 31)) (w1 := W0) (a := .slice B d'.acc.length e) (b := .slice B' d'.nxt.length e') (t := 31) (by rw [hW0]; exact Below.refl _ _)
    rw [World.size_alloc] at k'
    exact ⟨⟨k.2.1, k.2.2.1⟩, k'.2.1, k'.2.2.1⟩)
  have ha := h.1.kept HB0.out
  have ha' := h'.1.kept HB0.out
  have hr := h.2.kept HB0.out
  have hr' := h'.2.kept HB0.out
  have hl1 := h.1.1
  have hl2 := h.2.shape.1
  rw [bools_length] at hl1
  rw [intss_length] at hl2
  clear h h'
  by_cases hn : d.acc.length = d'.acc.length
  . by_cases hm : d.nxt.length = d'.nxt.length
    . have HYes : Hid ((∀ i, i < d.acc.length -> d.acc.getD i false = d'.acc.getD i false) -> (∀ i, i < d.nxt.length -> d.nxt.getD i [] = d'.nxt.getD i []) -> sameD d d' = true) := Lib.hid (λ h1 h2 => decide_eq_true ⟨list_eq_of false hn h1, list_eq_of [] hm h2⟩)
      have HNo1 : Hid (∀ i, d.acc.getD i false ≠ d'.acc.getD i false -> sameD d d' = false) := Lib.hid (λ i h => decide_eq_false (λ e => h (by rw [e.1])))
      have HNo2 : Hid (∀ i, d.nxt.getD i [] ≠ d'.nxt.getD i [] -> sameD d d' = false) := Lib.hid (λ i h => decide_eq_false (λ e => h (by rw [e.2])))
      obtain ⟨b, hb⟩ : ∃ b, b = sameD d d' := ⟨_, rfl⟩
      rw [<- hb] at HYes HNo1 HNo2 ⊢
      obtain ⟨n, hne⟩ : ∃ n, n = d.acc.length := ⟨_, rfl⟩
      obtain ⟨m, hme⟩ : ∃ m, m = d.nxt.length := ⟨_, rfl⟩
      have HA : Hid (∀ j, j < n -> ∃ ad ad', A = some ad /\ B = some ad' /\ W0.cell? (ad.add j) = some (.bool (d.acc.getD j false)) /\ W0.cell? (ad'.add j) = some (.bool (d'.acc.getD j false))) := Lib.hid (λ j hj => by
        obtain ⟨ad, e1, -, hc⟩ := ha.boolD (j := j) (by omega)
        obtain ⟨ad', e2, -, hc'⟩ := ha'.boolD (j := j) (by omega)
        exact ⟨ad, ad', e1, e2, hc, hc'⟩)
      have HR : Hid (∀ j, j < m -> ∃ ad ad' u u', A' = some ad /\ B' = some ad' /\ W0.cell? (ad.add j) = some u /\ W0.cell? (ad'.add j) = some u' /\ RowV W0 S u (ints (d.nxt.getD j [])) /\ RowV W0 S' u' (ints (d'.nxt.getD j []))) := Lib.hid (λ j hj => by
        obtain ⟨ad, u, e1, -, hc, h1⟩ := hr.atD (j := j) (by omega)
        obtain ⟨ad', u', e2, -, hc', h2⟩ := hr'.atD (j := j) (by omega)
        exact ⟨ad, ad', u, u', e1, e2, hc, hc', h1, h2⟩)
      rw [<- hn, <- hm] at HX hW0
      rw [<- hne] at HX hW0 HYes hl1
      rw [<- hme] at HX hW0 HYes hl2
      rw [<- hn, <- hm, <- hne, <- hme]
      clear ha ha' hr hr' hb hn hm hne hme
      have hn1 : ((n : Int) != (n : Int)) = false := by simp
      have hm1 : ((m : Int) != (m : Int)) = false := by simp
      have hcc0 := HX.out.1
      have hcc1 := HX.out.2
      obtain ⟨c0, c1⟩ := hcc0
      obtain ⟨d0, d1⟩ := hcc1
      rw [hW0] at c0 c1 d0 d1
      go_enter Tryz.func8, Tryz.ntmps8
      go_wp2_with fail
      rw [<- hW0]
      clear hW0 c0 c1 d0 d1 hn1 hm1
      go_loopw [5] (λ i wr => ∃ j : Nat, i = .int .i64 j /\ j <= n /\ Below W0.heap.size W0 wr /\ Hid (∀ i, i < j -> d.acc.getD i false = d'.acc.getD i false)) (λ i _ => n - (intOf i).toNat)
      case atStart => exact ⟨0, rfl, Nat.zero_le _, Below.refl _ _, Lib.hid (λ i hi => absurd hi (Nat.not_lt_zero _))⟩
      case round =>
        obtain ⟨j, rfl, hj, hb, hall⟩ := hrel
        have HBr := Lib.hid hb
        clear hb
        obtain ⟨c0, c1⟩ := HX.out.1.kept HBr.out
        obtain ⟨d0, d1⟩ := HX.out.2.kept HBr.out
        by_cases hlt : j < n
        . obtain ⟨ad, ad', rfl, rfl, hc1, hc2⟩ := HA.out j hlt
          obtain ⟨x, hx⟩ : ∃ x, x = d.acc.getD j false := ⟨_, rfl⟩
          obtain ⟨x', hx'⟩ : ∃ x', x' = d'.acc.getD j false := ⟨_, rfl⟩
          rw [<- hx] at hc1
          rw [<- hx'] at hc2
          have g1 := (HBr.out.cell (cell_in hc1)).trans hc1
          have g2 := (HBr.out.cell (cell_in hc2)).trans hc2
          clear hc1 hc2
          by_cases hxx : x = x'
          . subst hxx
            have HX2 : Hid (d.acc.getD j false = d'.acc.getD j false) := Lib.hid (by rw [<- hx, <- hx'])
            have hne : (x != x) = false := by simp
            clear hx hx'
            go_wp2_with fail
            go_quiet (fail)
            all_goals go_wp2
            all_goals
              go_roundw
              case rel => exact ⟨j + 1, by go_num, by omega, below_draws HBr.out _, Lib.hid (λ i hi => by
                by_cases e : i = j
                . rw [e]; exact HX2.out
                . exact hall.out i (by omega))⟩
              case measure => simp [intOf]; omega
          . have HF : Hid (b = false) := Lib.hid (HNo1.out j (by rw [<- hx, <- hx']; exact hxx))
            clear hx hx'
            rcases bool_ne hxx with ⟨rfl, rfl⟩ | ⟨rfl, rfl⟩
            all_goals
              clear hxx
              go_wp2_with fail
              go_quiet (fail)
              go_wp2
              go_ret
              exact ⟨congrArg (λ b : Bool => Ending.returned (.bool b)) HF.out.symm, HB0.out.trans ((below_draws HBr.out _).mono HB0.out.size)⟩
        . obtain rfl : j = n := by omega
          have HAll := Lib.hid hall.out
          clear hall
          go_wp2_with fail
          clear c0 c1 d0 d1
          go_loopw [6] (λ i wr' => ∃ k : Nat, i = .int .i64 k /\ k <= m /\ Below W0.heap.size W0 wr' /\ Hid (∀ i, i < k -> d.nxt.getD i [] = d'.nxt.getD i [])) (λ i _ => m - (intOf i).toNat)
          case atStart => exact ⟨0, rfl, Nat.zero_le _, HBr.out, Lib.hid (λ i hi => absurd hi (Nat.not_lt_zero _))⟩
          case round =>
            obtain ⟨k, rfl, hk, hb, hall⟩ := hrel
            have HBr := Lib.hid hb
            clear hb
            obtain ⟨c0, c1⟩ := HX.out.1.kept HBr.out
            obtain ⟨d0, d1⟩ := HX.out.2.kept HBr.out
            by_cases hlk : k < m
            . obtain ⟨ad, ad', u, u', rfl, rfl, hc1, hc2, hr1, hr2⟩ := HR.out k hlk
              have HC := Lib.hid (λ (V : World) (hV : Below W0.heap.size W0 V) => specInts_any u u' (d.nxt.getD k []) (d'.nxt.getD k []) S S' V (hr1.kept hV) (hr2.kept hV))
              have hbw : Below W0.heap.size W0 wr := HBr.out
              have HK := Lib.hid (λ (V : World) (hV : Below W0.heap.size W0 V) => (⟨(HX.out.1.kept hV).2, (HX.out.2.kept hV).2, (hV.cell (cell_in hc1)).trans hc1, (hV.cell (cell_in hc2)).trans hc2⟩ :
                V.cell? ⟨w.heap.size, 1, none⟩ = some (.slice (some ad) m c') /\ V.cell? ⟨w.heap.size + 1, 1, none⟩ = some (.slice (some ad') m e') /\ V.cell? (ad.add k) = some u /\ V.cell? (ad'.add k) = some u'))
              obtain ⟨bb, hbb⟩ : ∃ bb, bb = decide (d.nxt.getD k [] = d'.nxt.getD k []) := ⟨_, rfl⟩
              rw [<- hbb] at HC
              have HBB := Lib.hid hbb
              have s4 : (k : Int) < (m : Int) := by omega
              have s8 : (0 : Int) <= (k : Int) := by omega
              clear hbb hr1 hr2 hc1 hc2
              go_wp2_with fail
              clear c0 c1 d0 d1
              go_region_held3 (λ V => V.cell? ⟨w.heap.size, 1, none⟩ = some (.slice (some ad) m c') /\ V.cell? ⟨w.heap.size + 1, 1, none⟩ = some (.slice (some ad') m e') /\ V.cell? (ad.add k) = some u /\ V.cell? (ad'.add k) = some u') (first | exact HK.out _ hbw.drew | exact HK.out _ hbw) (first | (go_at_call 22; (with_reducible refine (HC.out _ hbw.drew).mono ?_); rintro e w3 ⟨rfl, hb3⟩; have hbw := hbw.drew.trans (hb3.mono hbw.drew.size)))
              have HB3 := Lib.hid hbw
              clear hbw hb3
              cases bb with
              | true =>
                have HX2 : Hid (d.nxt.getD k [] = d'.nxt.getD k []) := Lib.hid (of_decide_eq_true HBB.out.symm)
                go_wp2_with fail
                go_roundw
                case rel => exact ⟨k + 1, by go_num, by omega, HB3.out, Lib.hid (λ i hi => by
                  by_cases e : i = k
                  . rw [e]; exact HX2.out
                  . exact hall.out i (by omega))⟩
                case measure => simp [intOf]; omega
              | false =>
                have HF : Hid (b = false) := Lib.hid (HNo2.out k (of_decide_eq_false HBB.out.symm))
                go_wp2_with fail
                go_ret
                exact ⟨congrArg (λ b : Bool => Ending.returned (.bool b)) HF.out.symm, HB0.out.trans (HB3.out.mono HB0.out.size)⟩
            . obtain rfl : k = m := by omega
              have HF : Hid (b = true) := Lib.hid (HYes.out HAll.out hall.out)
              go_wp2_with fail
              go_ret
              exact ⟨congrArg (λ b : Bool => Ending.returned (.bool b)) HF.out.symm, HB0.out.trans (HBr.out.mono HB0.out.size)⟩
    . have HF : Hid (sameD d d' = false) := Lib.hid (decide_eq_false (λ e => hm (by rw [e.2])))
      obtain ⟨n, hne⟩ : ∃ n, n = d.acc.length := ⟨_, rfl⟩
      rw [<- hn] at HX hW0 ⊢
      rw [<- hne] at HX hW0 ⊢ hl1
      have hn1 : ((n : Int) != (n : Int)) = false := by simp
      have hm1 : ((d.nxt.length : Int) != (d'.nxt.length : Int)) = true := by simp; omega
      obtain ⟨⟨c0, c1⟩, d0, d1⟩ := HX.out
      rw [hW0] at c0 c1 d0 d1
      clear ha ha' hr hr' hn hm hne
      go_enter Tryz.func8, Tryz.ntmps8
      go_wp2_with fail
      rw [<- hW0]
      go_ret
      exact ⟨congrArg (λ b : Bool => Ending.returned (.bool b)) HF.out.symm, HB0.out⟩
  . have HF : Hid (sameD d d' = false) := Lib.hid (decide_eq_false (λ e => hn (by rw [e.1])))
    have hn1 : ((d.acc.length : Int) != (d'.acc.length : Int)) = true := by simp; omega
    obtain ⟨⟨c0, c1⟩, d0, d1⟩ := HX.out
    rw [hW0] at c0 c1 d0 d1
    clear ha ha' hr hr' hn
    go_enter Tryz.func8, Tryz.ntmps8
    go_wp2_with fail
    rw [<- hW0]
    go_ret
    exact ⟨congrArg (λ b : Bool => Ending.returned (.bool b)) HF.out.symm, HB0.out⟩
theorem isW_wb {u : List Nat} (hu : W3 u) (hl : u.length <= 30) : isW (wbytes u).data.toList = true := by
  rw [wbytes_list]
  unfold isW
  rw [Bool.and_eq_true]
  refine ⟨List.all_eq_true.2 (λ b hb => ?_), by simpa using hl⟩
  obtain ⟨k, hk, rfl⟩ := List.mem_map.1 hb
  rcases (show k = 0 \/ k = 1 \/ k = 2 by have := hu k hk; omega) with rfl | rfl | rfl <;> decide
theorem idxs_wb {u : List Nat} (hu : W3 u) : idxs (wbytes u).data.toList = u := by
  rw [wbytes_list]
  unfold idxs
  rw [List.map_map]
  conv => rhs; rw [<- List.map_id u]
  apply List.map_congr_left
  intro k hk
  rcases (show k = 0 \/ k = 1 \/ k = 2 by have := hu k hk; omega) with rfl | rfl | rfl <;> decide
theorem acc_wb {d : Dx} (hv : validD d = true) {u : List Nat} (hu : W3 u) (hl : u.length <= 30) : accR d (wbytes u).data.toList = (auD d).A ((auD d).run 0 u) := by
  rw [acc_of hv (isW_wb hu hl), idxs_wb hu]
def ext (L : List (List UInt8)) : List (List UInt8) := L.flatMap λ w => letters.map λ b => w ++ [b]
theorem ext_length (L : List (List UInt8)) : (ext L).length = 3 * L.length := by
  unfold ext
  rw [List.length_flatMap]
  simp [letters, List.map_const']
  omega
def wpart (L : List (List UInt8)) (i j : Nat) : List (List UInt8) := ext (L.take i) ++ (letters.take j).map λ b => L.getD i [] ++ [b]
theorem wpart_length (L : List (List UInt8)) (i j : Nat) (hi : i <= L.length) (hj : j <= 3) : (wpart L i j).length = 3 * i + j := by
  unfold wpart
  rw [List.length_append, ext_length, List.length_map, List.length_take, List.length_take]
  simp [letters]
  omega
theorem wpart_next (L : List (List UInt8)) (i : Nat) (hi : i < L.length) : wpart L i 3 = wpart L (i + 1) 0 := by
  unfold wpart ext
  rw [List.take_succ_eq_append_getElem hi, List.flatMap_append]
  simp [letters, hi]
theorem wpart_all (L : List (List UInt8)) : wpart L L.length 0 = ext L := by simp [wpart]
theorem wpart_start (L : List (List UInt8)) : wpart L 0 0 = [] := by simp [wpart, ext]
theorem wpart_step (L : List (List UInt8)) (i j : Nat) (hj : j < 3) : wpart L i (j + 1) = wpart L i j ++ [L.getD i [] ++ [letters.getD j 0]] := by
  unfold wpart
  have h : j < letters.length := by simpa [letters] using hj
  rw [List.take_succ_eq_append_getElem h, List.map_append, <- List.append_assoc]
  simp [h]
theorem letter_bytes (x : ByteArray) (p : List UInt8) (hx : x = ⟨p.toArray⟩) (j : Nat) (hj : j < 3) : x ++ (ByteArray.mk #[97, 98, 99]).extract j (j + 1) = ⟨(p ++ [letters.getD j 0]).toArray⟩ := by
  subst hx
  apply ByteArray.ext
  apply Array.toList_inj.1
  have h : j = 0 \/ j = 1 \/ j = 2 := by omega
  rcases h with rfl | rfl | rfl <;> simp [letters]
theorem specWords_none (n : Int) (w : World) (h : n < 0 \/ 5 < n) : Calls Tryz.prog 23 #[.int .i64 n] w (SplPost [] w) := by
  have HC := Lib.hid (λ w => l1In_no n 0 5 w (by omega))
  clear h
  go_enter Tryz.func23, Tryz.ntmps23
  go_wp2_with (go_at_call 55; refine (HC.out _).mono ?_; rintro e w' ⟨rfl, rfl⟩)
  go_ret
  exact ⟨_, rfl, World.ownsRow_made w #[] 0 (Nat.le_refl _) (by unfold maxLen; omega) rfl, (Below.refl _ _).alloc (Nat.le_refl _) _⟩
theorem wpart_grow {wo wr w1 : World} {u v' : Value} {L : List (List UInt8)} {a b : Nat} {x : ByteArray} {o : Obj} (hb3 : b < 3) (hx : x = ⟨(L.getD a []).toArray⟩) (hown : wr.ownsRow wo.heap.size 9 1 u (wpart L a b).length (strs (wpart L a b))) (hb : Below wo.heap.size wo wr)
    (hown' : w1.ownsRow wo.heap.size 9 1 v' ((wpart L a b).length + 1) (strs (wpart L a b) ++ [.string (x ++ (ByteArray.mk #[97, 98, 99]).extract b (b + 1))])) (hg : (wr.alloc o).drew.grownBy w1 u.ownBlock) :
    w1.ownsRow wo.heap.size 9 1 v' (wpart L a (b + 1)).length (strs (wpart L a (b + 1))) /\ Below wo.heap.size wo w1 := by
  rw [letter_bytes x _ hx b hb3] at hown'
  refine ⟨?_, ((hb.alloc hb.size o).drew).grown hg (by have := hb.size; simp; omega) (λ k hk => (hown.lt k hk).1)⟩
  rw [wpart_step L a b hb3, strs_append, List.length_append]
  exact hown'
theorem own_one (w : World) (x : Value) {B : Nat} (hB : B <= w.heap.size) : (w.alloc (.cells #[x] 9)).ownsRow B 9 1 (.slice (some ⟨w.heap.size, 0, none⟩) 1 1) 1 [x] :=
  ⟨rfl, .inr ⟨w.heap.size, 1, #[x], rfl, hB, heap_alloc_new w _, Nat.le_refl _, by unfold maxLen; omega, rfl, rfl⟩⟩
theorem wordsOf_len : ∀ (n : Nat) (x : List UInt8), x ∈ wordsOf n -> x.length = n
  | 0, x, h => by simp [wordsOf] at h; rw [h]; rfl
  | n + 1, x, h => by
    unfold wordsOf at h
    rw [List.mem_flatMap] at h
    obtain ⟨y, hy, hx⟩ := h
    have hl := wordsOf_len n y hy
    rw [List.mem_map] at hx
    obtain ⟨b, _, rfl⟩ := hx
    simp [hl]
theorem wordsOf_small (k : Nat) (h : k <= 5) : 1 <= (wordsOf k).length /\ (wordsOf k).length <= 243 := by
  rw [wordsOf_length]
  exact ⟨Nat.one_le_pow k 3 (by omega), Nat.pow_le_pow_right (by omega) h⟩
theorem specWords_any (n : Nat) (w : World) (hn : n <= 5) : Calls Tryz.prog 23 #[.int .i64 n] w (SplPost (wordsOf n) w) := by
  obtain ⟨i0, hi, hz0, hz1, hz2⟩ := info_parts strInfo
  have HC := Lib.hid (λ w => l1In_yes n 0 5 w (by omega))
  go_enter Tryz.func23, Tryz.ntmps23
  go_wp2_with (go_at_call 55; refine (HC.out _).mono ?_; rintro e w' ⟨rfl, rfl⟩)
  go_loopw [3, 4] (λ v i wr => ∃ k : Nat, i = .int .i64 k /\ k <= n /\ wr.ownsRow w.heap.size 9 1 v (wordsOf k).length (strs (wordsOf k)) /\ Below w.heap.size w wr) (λ _ i _ => n - (intOf i).toNat)
  case atStart => exact ⟨0, rfl, Nat.zero_le _, own_one w (.string ⟨#[]⟩) (Nat.le_refl _), (Below.refl _ _).alloc (Nat.le_refl _) _⟩
  case round =>
    obtain ⟨k, rfl, hk, hown, hb⟩ := hrel
    have HO := Lib.hid hown
    have HB := Lib.hid hb
    clear hown hb
    by_cases hlt : k < n
    . obtain ⟨hs1, hs2⟩ := wordsOf_small k (by omega)
      obtain ⟨L, hL⟩ : ∃ L, L = wordsOf k := ⟨_, rfl⟩
      rw [<- hL] at HO hs1 hs2
      have HL := Lib.hid hL
      clear hL
      have HLEN : Hid (∀ a, (L.getD a []).length <= 5) := Lib.hid λ a => by
        by_cases h : a < L.length
        . have hm := wordsOf_len k (L.getD a []) (by rw [<- HL.out]; simp [h])
          omega
        . simp [h]
      obtain ⟨g, c, rfl⟩ : ∃ g c, u3 = .slice (some ⟨g, 0, none⟩) L.length c := by
        rcases own_cases HO.out with ⟨h0, _⟩ | h
        . omega
        . exact h
      have hgl := (HO.out.lt g (by simp [Value.ownBlock])).2
      obtain ⟨wo, rfl⟩ : ∃ wo : World, wo = wr := ⟨_, rfl⟩
      have hz := HB.out.size
      go_wp2
      go_loopw [5, 6] (λ u i wr => ∃ a : Nat, i = .int .i64 a /\ a <= L.length /\ wr.ownsRow wo.heap.size 9 1 u (wpart L a 0).length (strs (wpart L a 0)) /\ Below wo.heap.size wo wr) (λ _ i _ => L.length - (intOf i).toNat)
      case atStart => exact ⟨0, rfl, Nat.zero_le _, by rw [wpart_start]; exact World.ownsRow_made wo #[] 0 (Nat.le_refl _) (by unfold maxLen; omega) rfl, (Below.refl _ _).alloc (Nat.le_refl _) _⟩
      case round =>
        obtain ⟨a, rfl, ha, hown, hb⟩ := hrel
        have HO2 := Lib.hid hown
        have HB2 := Lib.hid hb
        clear hown hb
        by_cases hlt2 : a < L.length
        . obtain ⟨w2, rfl⟩ : ∃ w2 : World, w2 = wr := ⟨_, rfl⟩
          go_wp2
          go_loopw [5, 7] (λ u j wr => ∃ b : Nat, j = .int .i64 b /\ b <= 3 /\ wr.ownsRow wo.heap.size 9 1 u (wpart L a b).length (strs (wpart L a b)) /\ Below wo.heap.size wo wr) (λ _ j _ => 3 - (intOf j).toNat)
          case atStart => exact ⟨0, rfl, Nat.zero_le _, HO2.out, HB2.out⟩
          case round =>
            obtain ⟨b, rfl, hb3, hown, hb⟩ := hrel
            have HO3 := Lib.hid hown
            have HB3 := Lib.hid hb
            clear hown hb
            by_cases hlt3 : b < 3
            . have hcell : ∀ w1, Below wo.heap.size wo w1 -> w1.cell? ⟨g, a, none⟩ = some (.string ⟨(L.getD a []).toArray⟩) := λ w1 h1 => by
                rw [h1.cell (p := ⟨g, a, none⟩) hgl, HO.out.cellAt a (by omega)]
                simp [strs, hlt2]
              obtain ⟨x, hx⟩ : ∃ x : ByteArray, x = ⟨(L.getD a []).toArray⟩ := ⟨_, rfl⟩
              rw [<- hx] at hcell
              have hc0 := hcell wr HB3.out
              have hxs : x.size <= 5 := by rw [hx]; exact HLEN.out a
              have HX := Lib.hid hx
              clear hcell hx
              go_wp2
              have s1 : IntKind.i64.wrap ((b : Int) + 1) = (b : Int) + 1 := IntWalk.i64_in _ (by omega)
              have s2 : 0 <= (b : Int) + 1 := by omega
              have s3 : (b : Int) + 1 <= 3 := by omega
              have s4 : ((b : Int) + 1).toNat = b + 1 := by omega
              have s5 : (b : Int) <= (b : Int) + 1 := by omega
              have s6 : (9223372036854775807 < x.size + (min (b + 1) 3 - b)) = False := by simp; omega
              have hpl : (wpart L a b).length <= 800 := by rw [wpart_length L a b (by omega) hb3]; omega
              go_region_law (refine step_append_own rfl (.tmp 29) (.tmp 39) 35 rfl wo.heap.size 9 i0 (.string ⟨#[]⟩) 1 16 Tryz.underlying35 hi hz0 hz1 hz2 rfl (by decide) _ _ _ rfl (HO3.out.drew.alloc _) ⟨wr.heap.size, 0, none⟩ 1 1 _ rfl rfl (cell_one_new _ _ _) (by simp [Value.oneCell']) (by unfold maxLen; omega) (by omega) (by have := HB3.out.size; simp; omega) ?_; intro v' w1 hown' hgrow)
              all_goals
                have R := wpart_grow hlt3 HX.out HO3.out HB3.out hown' hgrow
                clear hown' hgrow s1 s2 s3 s4 s5 s6
                go_wp2
                go_roundw
                case rel => exact ⟨b + 1, by go_num, by omega, R.1, R.2⟩
                case measure => simp [intOf]; omega
            . obtain rfl : b = 3 := by omega
              have HP := Lib.hid (wpart_next L a hlt2)
              go_wp2
              go_roundw
              case rel => exact ⟨a + 1, by go_num, by omega, by rw [<- HP.out]; exact HO3.out, HB3.out⟩
              case measure => simp [intOf]; omega
        . obtain rfl : a = L.length := by omega
          have HP := Lib.hid (wpart_all L)
          have HE : Hid (ext L = wordsOf (k + 1)) := Lib.hid (by rw [HL.out]; rfl)
          go_wp2
          go_roundw
          case rel => exact ⟨k + 1, by go_num, by omega, by rw [<- HE.out, <- HP.out]; exact own_lower HO2.out hz, HB.out.trans (HB2.out.mono hz)⟩
          case measure => simp [intOf]; omega
    . obtain rfl : k = n := by omega
      go_wp2
      go_ret
      exact ⟨_, rfl, HO.out, HB.out⟩
def under : Nat -> List (List UInt8)
  | 0 => []
  | k + 1 => under k ++ wordsOf k
theorem under_small : ((List.range 7).all λ k => decide ((under k).length <= 364)) = true := by decide +kernel
theorem under_le (k : Nat) (h : k <= 6) : (under k).length <= 364 := of_decide_eq_true (List.all_eq_true.1 under_small k (List.mem_range.2 (by omega)))
theorem under_grow {w wr w1 w2 : World} {u v' : Value} {k : Nat} (hown : wr.ownsRow w.heap.size 9 1 u (under k).length (strs (under k))) (hb : Below w.heap.size w wr) (hb1 : Below wr.heap.size wr w1)
    (hown' : w2.ownsRow w.heap.size 9 1 v' ((under k).length + (wordsOf k).length) (strs (under k) ++ strs (wordsOf k))) (hg : w1.grownBy w2 u.ownBlock) :
    w2.ownsRow w.heap.size 9 1 v' (under (k + 1)).length (strs (under (k + 1))) /\ Below w.heap.size w w2 := by
  refine ⟨?_, (hb.trans (hb1.mono hb.size)).grown hg (Nat.le_trans hb.size hb1.size) (λ j hj => (hown.lt j hj).1)⟩
  rw [under, strs_append, List.length_append]
  exact hown'
theorem word_cells {w : World} {B g c : Nat} {ps : List (List UInt8)} (h : w.ownsRow B 9 1 (.slice (some ⟨g, 0, none⟩) ps.length c) ps.length (strs ps)) : ∀ j u, (strs ps)[j]? = some u -> w.cell? ((⟨g, 0, none⟩ : Addr).add j) = some u := by
  intro j u hj
  have hlt : j < ps.length := by have := (List.getElem?_eq_some_iff.1 hj).1; simpa [strs] using this
  rw [Addr.add_lit, Nat.zero_add, h.cellAt j (by omega)]
  exact hj
theorem strs_one (ps : List (List UInt8)) : ∀ u ∈ strs ps, u.oneCell' = true := by
  intro u hu
  obtain ⟨p, _, rfl⟩ := List.mem_map.1 hu
  rfl
theorem SplPost.row {ps : List (List UInt8)} {w : World} {e : Ending} {w' : World} (h : SplPost ps w e w') (hne : 1 <= ps.length) :
    ∃ g c, e = .returned (.slice (some ⟨g, 0, none⟩) ps.length c) /\ w'.ownsRow w.heap.size 9 1 (.slice (some ⟨g, 0, none⟩) ps.length c) ps.length (strs ps) /\ Below w.heap.size w w' := by
  obtain ⟨v, rfl, hown, hb⟩ := h
  rcases hown.2 with ⟨_, h0⟩ | ⟨g, cap, cur, rfl, _⟩
  . omega
  . exact ⟨g, cap, rfl, hown, hb⟩
theorem specTo_any (n : Int) (m : Nat) (w : World) (hm : m <= 6) (h1 : ∀ k : Nat, k < m -> (k : Int) <= n) (h2 : (m : Int) <= n -> 6 <= m) (hn : n <= 9223372036854775807) : Calls Tryz.prog 9 #[.int .i64 n] w (SplPost (under m) w) := by
  obtain ⟨i0, hi, hz0, hz1, hz2⟩ := info_parts strInfo
  have H1 := Lib.hid h1
  have H2 := Lib.hid h2
  clear h1 h2
  go_enter Tryz.func9, Tryz.ntmps9
  go_wp2
  go_loopw [3, 4] (λ v i wr => ∃ k : Nat, i = .int .i64 k /\ k <= m /\ wr.ownsRow w.heap.size 9 1 v (under k).length (strs (under k)) /\ Below w.heap.size w wr) (λ _ i _ => m - (intOf i).toNat)
  case atStart => exact ⟨0, rfl, Nat.zero_le _, World.ownsRow_made w #[] 0 (Nat.le_refl _) (by unfold maxLen; omega) rfl, (Below.refl _ _).alloc (Nat.le_refl _) _⟩
  case round =>
    obtain ⟨k, rfl, hk, hown, hb⟩ := hrel
    have HO := Lib.hid hown
    have HB := Lib.hid hb
    clear hown hb
    by_cases hlt : k < m
    . have hkn := H1.out k hlt
      have hk5 : (k : Int) <= 5 := by omega
      have hpl := under_le k (by omega)
      obtain ⟨hw1, hw2⟩ := wordsOf_small k (by omega)
      have HC := Lib.hid (λ w => specWords_any k w (by omega))
      go_wp2_with fail
      refine (HC.out _).mono ?_
      intro e w1 hp
      obtain ⟨g, c, rfl, hown1, hb1⟩ := hp.row hw1
      have HO1 := Lib.hid hown1
      have HB1 := Lib.hid hb1
      clear hp hown1 hb1
      go_wp2_with (at_builtin; refine wpList_append_own _ rfl (.tmp 15) (.tmp 17) 35 rfl w.heap.size 9 i0 (.string ⟨#[]⟩) 1 16 Tryz.underlying35 hi hz0 hz1 hz2 rfl (by decide) _ _ _ rfl (owns_below HO.out HB1.out) ⟨g, 0, none⟩ (wordsOf k).length c (strs (wordsOf k)) rfl (by rw [strs_length]; omega) (word_cells HO1.out) (strs_one _) (by unfold maxLen; omega) (by omega) (Nat.le_trans HB.out.size HB1.out.size) ?_)
      intro v' w2 hown' hgrow _
      have R := under_grow HO.out HB.out HB1.out hown' hgrow
      clear hown' hgrow
      go_wp2
      go_roundw
      case rel => exact ⟨k + 1, by go_num, by omega, R.1, R.2⟩
      case measure => simp [intOf]; omega
    . obtain rfl : k = m := by omega
      by_cases hkn : (k : Int) <= n
      . have h6 := H2.out hkn
        have hk5 : ¬ (k : Int) <= 5 := by omega
        go_wp2
        go_ret
        exact ⟨_, rfl, HO.out, HB.out⟩
      . have hd : decide ((k : Int) <= n) = false := by simpa using hkn
        go_wp2
        go_ret
        exact ⟨_, rfl, HO.out, HB.out⟩
theorem words4 : ((under 5).all λ s => isW s && decide (s.length <= 30)) = true := by decide +kernel
theorem comp_acc {k : Int} {l : ByteArray} {a : Fr} {y : Dx} (h : compRx k l a y true) {s : List UInt8} (hs : isW s = true) : accR y s = matchRx k l a s := by
  unfold compRx at h
  by_cases hv : validRx k l a = true
  . rw [if_pos hv] at h
    have hok : (allRow a && nodeOk k l a.items.length) = true := by
      have hv' := hv
      simp only [validRx, Bool.and_eq_true, decide_eq_true_eq] at hv'
      rw [Bool.and_eq_true]
      exact ⟨hv'.2.1, hv'.2.2⟩
    have h1 := (comp_match hok h).2 s hs 0 s.length (Nat.zero_le _) (Nat.le_refl _)
    have hp : part s 0 s.length = s := by simp [part]
    rw [hp] at h1
    rw [h1]
    unfold matchRx
    rw [hv, hs]
    simp
  . rw [if_neg hv] at h
    exact absurd h.2 (by simp)
theorem wd_sho {s : List UInt8} {y : Dx} (h : wordR s y true) {x : ByteArray} {ok : Bool} (hy : shoR y x ok) : ok = true /\ x = ⟨s.toArray⟩ := by
  have hw : isW s = true := by
    by_cases hw : isW s = true
    . exact hw
    . exact absurd (wordR_no h (by simpa using hw)).2 (by simp)
  obtain ⟨hg, ha⟩ := word_acc h
  have hv := hg.valid
  obtain ⟨r, hr, -⟩ := firstR_some (fieldsOf_au hv).1
  obtain ⟨h1, h2⟩ := shoR_yes hy hv hr
  have hs : (auD y).A ((auD y).run 0 (idxs s)) = true := by
    rw [<- acc_of hv hw, ha s hw]
    simp
  cases r with
  | none => exact absurd hs (hr (idxs s) (isW_W3 hw))
  | some u =>
    obtain ⟨hu, hp, hf⟩ := hr
    have hl : u.length <= 30 := by
      have h30 := isW_len hw
      have hi : (idxs s).length = s.length := by simp [idxs]
      by_cases hc : u.length <= 30
      . exact hc
      . exact absurd (Or.inl (by omega)) (hf (idxs s) (isW_W3 hw) hs)
    refine ⟨h2, ?_⟩
    have hb : accR y (wbytes u).data.toList = true := by
      rw [acc_wb hv hu hl]
      exact hp
    rw [ha _ (isW_wb hu hl), decide_eq_true_eq] at hb
    rw [h1, <- hb]
    rfl
theorem wd_ok {s : List UInt8} {y : Dx} {ok : Bool} (h : wordR s y ok) : ok = isW s := by
  unfold wordR at h
  by_cases hs : isW s = true
  . rw [if_pos hs] at h
    rw [h.2, hs]
  . rw [if_neg hs] at h
    rw [h.2]
    simpa using hs
theorem lawCpl_any (A : Option Addr) (n c : Nat) (w : World) (h : BL w w.heap.size A n) (hnm : n <= 9223372036854775807) (hTab : Tab w) :
    Calls Tryz.prog 3 #[.slice A n c] w λ e w' => e = .returned (.bool true) /\ Below w.heap.size w w' := by
  by_cases hz : 1048576 < n
  . have e1 : decide ((n : Int) > 1048576) = true := by simp; omega
    have HTb := Lib.hid (λ (V : World) (hV : Below w.heap.size w V) => hTab.kept hV)
    clear h hTab
    go_enter Tryz.func3, Tryz.ntmps3
    go_wp2
    go_ret
    exact ⟨rfl, Below.refl _ _⟩
  . have e1 : decide ((n : Int) > 1048576) = false := by simp; omega
    have HBL := Lib.hid h
    have HD := Lib.hid (drawCpx_any A n c w h (by omega))
    have HTb := Lib.hid (λ (V : World) (hV : Below w.heap.size w V) => hTab.kept hV)
    clear h hTab
    go_enter Tryz.func3, Tryz.ntmps3
    go_wp2_with (go_at_call 4; go_in)
    refine HD.out.mono ?_
    rintro e w1 ⟨k, l, A1, c1, a, rfl, hk0, hk9, hl, ha, hs, hb1⟩
    have HB1 := Lib.hid hb1
    obtain ⟨y, ok, hy⟩ := compRx_some k l a
    have HY := Lib.hid (And.intro hy (And.intro hl ha))
    have HS := Lib.hid (λ (V : World) (hV : Below w1.heap.size w1 V) => own_slt hs hV V.heap.size hV.size)
    have HT := Lib.hid (λ (V : World) (hV : Below w1.heap.size w1 V) => (HTb.out w1 hb1).kept hV)
    have BN := box_new w1 w1 w1.heap.size k l (.slice A1 a.items.length c1) 26 (Below.refl _ _) (Nat.le_refl _)
    have HR := Lib.hid (λ (V : World) (hV : Below (w1.alloc (.cells #[.int .i64 k, .string l, .slice A1 a.items.length c1] 26)).heap.size (w1.alloc (.cells #[.int .i64 k, .string l, .slice A1 a.items.length c1] 26)) V) => (BN.2.1.below hV (by rw [World.size_alloc]; omega) : Bx V w1.heap.size k l (.slice A1 a.items.length c1)))
    have HV := Lib.hid BN.2.2.1
    have HB2 := Lib.hid (HB1.out.trans (HV.out.mono HB1.out.size))
    obtain ⟨x0, x1, x2⟩ := BN.2.1
    clear hy hl ha hs hk0 hk9 hb1 BN HB1 HTb
    go_wp2_with fail
    obtain ⟨W2, hW2⟩ : ∃ W2, W2 = w1.alloc (.cells #[.int .i64 k, .string l, .slice A1 a.items.length c1] 26) := ⟨_, rfl⟩
    rw [<- hW2] at HR HV HB2 x0 x1 x2 ⊢
    clear hW2
    have HG := Lib.hid (λ (V : World) (hV : Below W2.heap.size W2 V) => HV.out.trans (hV.mono HV.out.size))
    have HQ := Lib.hid (Below.refl W2.heap.size W2)
    go_at_call 6
    refine (implCompRx_any 6 W2.heap.size k l _ a y ok W2 (HS.out W2 (HG.out W2 HQ.out)) (Nat.le_refl _) (by have := HY.out.2.2; omega) (by have := HY.out.2.1; omega) HY.out.1 (HT.out W2 (HG.out W2 HQ.out))).mono ?_
    rintro e w3 hp
    obtain ⟨A3, m3, B3, r3, rfl, ho3, hb3⟩ := hp.shape
    clear hp
    have HB3 := Lib.hid (HB2.out.trans ((hb3).mono HB2.out.size))
    clear HB2
    have HQ := Lib.hid (HQ.out.trans (hb3.mono HQ.out.size))
    clear x0 x1 x2
    have XD := Lib.hid (BX.new (t := 31) ho3.dfa)
    have hbk4 : Below w3.heap.size w3 (w3.alloc (.cells #[.slice A3 y.acc.length m3, .slice B3 y.nxt.length r3] 31)) := (Below.refl _ _).alloc (Nat.le_refl _) _
    have HB4 := Lib.hid (HB3.out.trans (hbk4.mono HB3.out.size))
    clear HB3 hbk4
    have hq3 : Below w3.heap.size w3 (w3.alloc (.cells #[.slice A3 y.acc.length m3, .slice B3 y.nxt.length r3] 31)) := (Below.refl _ _).alloc (Nat.le_refl _) _
    have HQ := Lib.hid (HQ.out.trans (hq3.mono HQ.out.size))
    clear ho3 hb3 hq3
    obtain ⟨x0, x1, x2⟩ := HR.out _ HQ.out
    go_wp2_with fail
    obtain ⟨W4, hW4⟩ : ∃ W, W = w3.alloc (.cells #[.slice A3 y.acc.length m3, .slice B3 y.nxt.length r3] 31) := ⟨_, rfl⟩
    rw [<- hW4] at HB4 XD HQ x0 x1 x2 ⊢
    clear hW4
    go_at_call 7
    refine (specCompRx_any 6 W4.heap.size k l _ a y ok W4 (HS.out W4 (HG.out W4 HQ.out)) (Nat.le_refl _) (by have := HY.out.2.2; omega) (by have := HY.out.2.1; omega) HY.out.1).mono ?_
    rintro e w5 hp
    obtain ⟨A5, m5, B5, r5, rfl, ho5, hb5⟩ := hp.shape
    clear hp
    have XD := Lib.hid (XD.out.kept hb5)
    have HB5 := Lib.hid (HB4.out.trans ((hb5).mono HB4.out.size))
    clear HB4
    have HQ := Lib.hid (HQ.out.trans (hb5.mono HQ.out.size))
    clear x0 x1 x2
    have XE := Lib.hid (BX.new (t := 31) ho5.dfa)
    have hbk6 : Below w5.heap.size w5 (w5.alloc (.cells #[.slice A5 y.acc.length m5, .slice B5 y.nxt.length r5] 31)) := (Below.refl _ _).alloc (Nat.le_refl _) _
    have XD := Lib.hid (XD.out.kept hbk6)
    have HB6 := Lib.hid (HB5.out.trans (hbk6.mono HB5.out.size))
    clear HB5 hbk6
    have hq5 : Below w5.heap.size w5 (w5.alloc (.cells #[.slice A5 y.acc.length m5, .slice B5 y.nxt.length r5] 31)) := (Below.refl _ _).alloc (Nat.le_refl _) _
    have HQ := Lib.hid (HQ.out.trans (hq5.mono HQ.out.size))
    clear ho5 hb5 hq5
    have hno : (ok != ok) = false := by simp
    obtain ⟨c7, e7⟩ := And.intro XD.out.c0 XD.out.c1
    obtain ⟨c8, e8⟩ := And.intro XE.out.c0 XE.out.c1
    go_wp2_with fail
    obtain ⟨W6, hW6⟩ : ∃ W, W = w5.alloc (.cells #[.slice A5 y.acc.length m5, .slice B5 y.nxt.length r5] 31) := ⟨_, rfl⟩
    rw [<- hW6] at HB6 XD XE HQ c7 e7 c8 e8 ⊢
    clear hW6
    go_at_call 8
    refine (specEqD_any _ _ _ _ y y _ _ _ XD.out.dfa XE.out.dfa).mono ?_
    rintro e w7 ⟨he, hbw⟩
    rw [sameD_refl] at he
    subst he
    clear c7 e7 c8 e8
    have HQ := Lib.hid (HQ.out.trans (hbw.mono HQ.out.size))
    have XD := Lib.hid (XD.out.kept hbw)
    have HB9a := Lib.hid (HB6.out.trans (hbw.mono HB6.out.size))
    clear hbw XE HB6
    have HWd := Lib.hid (λ V => specTo_any 4 5 V (by omega) (λ k hk => by omega) (λ h => by omega) (by omega))
    have HWS : Hid (∀ s ∈ under 5, isW s = true /\ s.length <= 30) := Lib.hid (λ s hs => by
      have := List.all_eq_true.1 words4 s hs
      simpa using this)
    have hpl : (under 5).length <= 364 := under_le 5 (by omega)
    have hpp : 0 < (under 5).length := by decide +kernel
    obtain ⟨ps, hps⟩ : ∃ ps, ps = under 5 := ⟨_, rfl⟩
    rw [<- hps] at HWd HWS hpl hpp
    clear hps
    go_wp2_with fail
    refine (HWd.out _).mono ?_
    rintro e w9 ⟨v, rfl, hown, hb9⟩
    obtain ⟨g, cap, rfl⟩ : ∃ g cap, v = .slice (some ⟨g, 0, none⟩) ps.length cap := by
      rcases hown.2 with ⟨_, h0⟩ | ⟨g, cap, _, rfl, _⟩
      . omega
      . exact ⟨g, cap, rfl⟩
    have HCell := Lib.hid (λ (V : World) (h : Below w9.heap.size w9 V) (k : Nat) (hk : k < ps.length) => (show V.cell? ⟨g, k, none⟩ = some (.string ⟨(ps[k]'hk).toArray⟩) from by
      have e0 : w9.cell? ⟨g, k, none⟩ = some (.string ⟨(ps[k]'hk).toArray⟩) := by
        rw [hown.cellAt k (by omega)]
        simp [strs]
      exact (h.cell (cell_in e0)).trans e0))
    have XD := Lib.hid (XD.out.kept hb9)
    have HQ := Lib.hid (HQ.out.trans (hb9.mono HQ.out.size))
    have HB9 := Lib.hid (HB9a.out.trans (hb9.mono HB9a.out.size))
    clear HB9a hown hb9 HWd
    cases ok with
    | false =>
      go_wp2_with fail
      go_loopw [9] (λ i wr => i = .int .i64 (0 : Int) /\ Hid (Below w9.heap.size w9 wr)) (λ i _ => 0)
      case atStart => exact ⟨rfl, Lib.hid (Below.refl _ _)⟩
      case round =>
        obtain ⟨rfl, HBr⟩ := hrel
        have hd : decide ((0 : Int) < (ps.length : Int)) = true := by simp; omega
        have HBL2 := Lib.hid ((HBL.out.below (HB9.out.trans (HBr.out.mono HB9.out.size))).upB (HB9.out.trans (HBr.out.mono HB9.out.size)).size)
        have HBx := Lib.hid (HB9.out.trans (HBr.out.mono HB9.out.size))
        have HDw := Lib.hid (drawWdf_any A n c wr HBL2.out (by omega))
        clear HBL2
        go_wp2_with fail
        go_at_call 12
        refine HDw.out.mono ?_
        rintro e w20 ⟨p, rfl, hp, hb20⟩
        obtain ⟨s, hs⟩ : ∃ s : ByteArray, s = ⟨p.toArray⟩ := ⟨_, rfl⟩
        have hss : s.size <= 31 := by rw [hs]; exact hp
        rw [<- hs]
        clear hs hp
        have HB20 := Lib.hid (HBx.out.trans (hb20.mono HBx.out.size))
        clear HBx hb20
        obtain ⟨z, fine, hz⟩ := wordR_some s.data.toList
        obtain ⟨x, ok2, hx⟩ := shoR_some z
        have hfi := wd_ok hz
        have HFi := Lib.hid (λ V => specIsWord_any s V (by unfold maxLen; omega))
        rw [<- hfi] at HFi
        clear hfi
        have HZ := Lib.hid (And.intro hz hx)
        clear hz hx
        go_wp2_with fail
        go_at_call 13
        refine (implWd_any s (by unfold maxLen; omega) z fine HZ.out.1 w20).mono ?_
        rintro e w21 hp
        obtain ⟨A21, m21, B21, r21, rfl, ho21, hb21⟩ := hp.shape
        clear hp
        have HB2 := Lib.hid (HB20.out.trans ((hb21).mono HB20.out.size))
        clear HB20
        have XZ := Lib.hid (BX.new (t := 31) ho21.dfa)
        have hbk3 : Below w21.heap.size w21 (w21.alloc (.cells #[.slice A21 z.acc.length m21, .slice B21 z.nxt.length r21] 31)) := (Below.refl _ _).alloc (Nat.le_refl _) _
        have HB3 := Lib.hid (HB2.out.trans (hbk3.mono HB2.out.size))
        clear HB2 hbk3
        clear ho21 hb21
        obtain ⟨c4, e4⟩ := And.intro XZ.out.c0 XZ.out.c1
        go_wp2_with fail
        obtain ⟨W3, hW3⟩ : ∃ W3, W3 = w21.alloc (.cells #[.slice A21 z.acc.length m21, .slice B21 z.nxt.length r21] 31) := ⟨_, rfl⟩
        rw [<- hW3] at HB3 XZ c4 e4 ⊢
        clear hW3
        go_at_call 14
        refine (implSho_any _ _ z _ x ok2 W3 XZ.out.dfa HZ.out.2).mono ?_
        rintro e w22 ⟨rfl, hb22⟩
        clear c4 e4
        have XZ := Lib.hid (XZ.out.kept hb22)
        have HB5 := Lib.hid (HB3.out.trans ((hb22).mono HB3.out.size))
        clear HB3
        clear hb22
        cases fine with
        | false =>
          go_wp2_with (go_at_call 15; refine (HFi.out _).mono ?_; rintro e w' ⟨rfl, rfl⟩)
          go_ret
          exact ⟨by simp, HB5.out⟩
        | true =>
          obtain ⟨rfl, hxs⟩ := wd_sho HZ.out.1 HZ.out.2
          have hxs : x = s := hxs
          subst hxs
          go_wp2_with (go_at_call 15; refine (HFi.out _).mono ?_; rintro e w' ⟨rfl, rfl⟩)
          go_ret
          exact ⟨by simp, HB5.out⟩
    | true =>
      go_wp2_with fail
      have HAcc := Lib.hid (λ (s : List UInt8) (hs : isW s = true) => comp_acc HY.out.1 hs)
      go_loopw [9] (λ i wr => ∃ k : Nat, i = .int .i64 (k : Int) /\ k <= ps.length /\ Hid (Below w9.heap.size w9 wr)) (λ i _ => ps.length - (intOf i).toNat)
      case atStart => exact ⟨0, rfl, Nat.zero_le _, Lib.hid (Below.refl _ _)⟩
      case round =>
        obtain ⟨j, rfl, hj, HBr⟩ := hrel
        by_cases hlt : j < ps.length
        . skip
          have hd : decide ((j : Int) < (ps.length : Int)) = true := by simp; omega
          have s1 : (j : Int) < (ps.length : Int) := by omega
          have s2 : (0 : Int) <= (j : Int) := by omega
          have hcx := HCell.out wr HBr.out j hlt
          obtain ⟨hw0, hl0⟩ := HWS.out _ (List.getElem_mem hlt)
          obtain ⟨x, hx⟩ : ∃ x : ByteArray, x = ⟨(ps[j]'hlt).toArray⟩ := ⟨_, rfl⟩
          rw [<- hx] at hcx
          have hww : isW x.data.toList = true := by rw [hx]; exact hw0
          have hxs : x.size <= 9223372036854775807 := by
            rw [hx]
            show (ps[j]'hlt).length <= _
            omega
          obtain ⟨b, hb⟩ : ∃ b, b = accR y x.data.toList := ⟨_, rfl⟩
          have hm : b = matchRx k l a x.data.toList := hb.trans (HAcc.out _ hww)
          have HQA := Lib.hid (λ (m : UpW wr) => (show Calls Tryz.prog 10 #[.agg #[.slice A3 y.acc.length m3, .slice B3 y.nxt.length r3], .string x] m.w (λ e w'' => e = .returned (.bool b) /\ ∃ m2 : UpW wr, w'' = m2.w) from up_call (by rw [hb]; exact implAcc_any _ _ y _ x m.w ((XD.out.kept HBr.out).kept m.up).dfa hxs)))
          have HQr := Lib.hid (HQ.out.trans (HBr.out.mono HQ.out.size))
          have HMt := Lib.hid (λ (m : UpW wr) => (show Calls Tryz.prog 11 #[.agg #[.int .i64 k, .string l, .slice A1 a.items.length c1], .string x] m.w (λ e w'' => e = .returned (.bool b) /\ ∃ m2 : UpW wr, w'' = m2.w) from up_call (by rw [hm]; exact implMatch_any 6 m.w.heap.size k l _ a x m.w (HS.out m.w (HG.out m.w (HQr.out.trans (m.up.mono HQr.out.size)))) (Nat.le_refl _) (by have := HY.out.2.2; omega) (by have := HY.out.2.1; omega) hxs)))
          clear hb hm hx hw0 hl0
          have k1 := λ (m : UpW wr) => ((XD.out.kept HBr.out).kept m.up).c0
          have k2 := λ (m : UpW wr) => ((XD.out.kept HBr.out).kept m.up).c1
          have k3 := λ (m : UpW wr) => (m.up.cell (cell_in hcx)).trans hcx
          have k4 := λ (m : UpW wr) => (HR.out m.w (HQr.out.trans (m.up.mono HQr.out.size))).1
          have k5 := λ (m : UpW wr) => (HR.out m.w (HQr.out.trans (m.up.mono HQr.out.size))).2.1
          have k6 := λ (m : UpW wr) => (HR.out m.w (HQr.out.trans (m.up.mono HQr.out.size))).2.2
          go_wp2_with fail
          refine wp_region_up (by kernel_rfl) (by kernel_rfl) ?_
          repeat (go_big_quiet_step ((first | with_reducible exact HQA.out _ | with_reducible exact HMt.out _)))
          refine wpQuiet_nil ?_
          rintro _ ⟨⟨wd, hbw⟩, rfl⟩
          have HBd := Lib.hid (HBr.out.trans (hbw.mono HBr.out.size))
          clear hbw k1 k2 k3 k4 k5 k6 hcx
          have hbb : (b != b) = false := by simp
          go_wp2_with fail
          go_roundw
          case rel => exact ⟨j + 1, by go_num, by omega, HBd⟩
          case measure => simp [intOf]; omega
        . skip
          have hd : decide ((j : Int) < (ps.length : Int)) = false := by simp; omega
          have HBL2 := Lib.hid ((HBL.out.below (HB9.out.trans (HBr.out.mono HB9.out.size))).upB (HB9.out.trans (HBr.out.mono HB9.out.size)).size)
          have HBx := Lib.hid (HB9.out.trans (HBr.out.mono HB9.out.size))
          have HDw := Lib.hid (drawWdf_any A n c wr HBL2.out (by omega))
          clear HBL2
          go_wp2_with fail
          go_at_call 12
          refine HDw.out.mono ?_
          rintro e w20 ⟨p, rfl, hp, hb20⟩
          obtain ⟨s, hs⟩ : ∃ s : ByteArray, s = ⟨p.toArray⟩ := ⟨_, rfl⟩
          have hss : s.size <= 31 := by rw [hs]; exact hp
          rw [<- hs]
          clear hs hp
          have HB20 := Lib.hid (HBx.out.trans (hb20.mono HBx.out.size))
          clear HBx hb20
          obtain ⟨z, fine, hz⟩ := wordR_some s.data.toList
          obtain ⟨x, ok2, hx⟩ := shoR_some z
          have hfi := wd_ok hz
          have HFi := Lib.hid (λ V => specIsWord_any s V (by unfold maxLen; omega))
          rw [<- hfi] at HFi
          clear hfi
          have HZ := Lib.hid (And.intro hz hx)
          clear hz hx
          go_wp2_with fail
          go_at_call 13
          refine (implWd_any s (by unfold maxLen; omega) z fine HZ.out.1 w20).mono ?_
          rintro e w21 hp
          obtain ⟨A21, m21, B21, r21, rfl, ho21, hb21⟩ := hp.shape
          clear hp
          have HB2 := Lib.hid (HB20.out.trans ((hb21).mono HB20.out.size))
          clear HB20
          have XZ := Lib.hid (BX.new (t := 31) ho21.dfa)
          have hbk3 : Below w21.heap.size w21 (w21.alloc (.cells #[.slice A21 z.acc.length m21, .slice B21 z.nxt.length r21] 31)) := (Below.refl _ _).alloc (Nat.le_refl _) _
          have HB3 := Lib.hid (HB2.out.trans (hbk3.mono HB2.out.size))
          clear HB2 hbk3
          clear ho21 hb21
          obtain ⟨c4, e4⟩ := And.intro XZ.out.c0 XZ.out.c1
          go_wp2_with fail
          obtain ⟨W3, hW3⟩ : ∃ W3, W3 = w21.alloc (.cells #[.slice A21 z.acc.length m21, .slice B21 z.nxt.length r21] 31) := ⟨_, rfl⟩
          rw [<- hW3] at HB3 XZ c4 e4 ⊢
          clear hW3
          go_at_call 14
          refine (implSho_any _ _ z _ x ok2 W3 XZ.out.dfa HZ.out.2).mono ?_
          rintro e w22 ⟨rfl, hb22⟩
          clear c4 e4
          have XZ := Lib.hid (XZ.out.kept hb22)
          have HB5 := Lib.hid (HB3.out.trans ((hb22).mono HB3.out.size))
          clear HB3
          clear hb22
          cases fine with
          | false =>
            go_wp2_with (go_at_call 15; refine (HFi.out _).mono ?_; rintro e w' ⟨rfl, rfl⟩)
            go_ret
            exact ⟨by simp, HB5.out⟩
          | true =>
            obtain ⟨rfl, hxs⟩ := wd_sho HZ.out.1 HZ.out.2
            have hxs : x = s := hxs
            subst hxs
            go_wp2_with (go_at_call 15; refine (HFi.out _).mono ?_; rintro e w' ⟨rfl, rfl⟩)
            go_ret
            exact ⟨by simp, HB5.out⟩
end Go.Proofs.YtiijlpmdnokjfaaGreatDoor
