/-
  Texts of one proof, one behind the other.
-/
import Derived.Deep.RegionHeld3
import Derived.Deep.CutRange
import Derived.Deep.RegionLaw
import Derived.Test.YthmfncklepkddaaGreatDoorCompPack8

/-
  What spec.l6Any and spec.l6Move answer.
-/
namespace Go.Proofs.YthmfncklepkddaaGreatDoor
open Go.RowKit

def sliceLen : Value → Nat
  | .slice _ n _ => n
  | _ => 0
theorem asc_len {s : List Nat} {n : Nat} (h : s.Pairwise (· < ·)) (hn : ∀ q ∈ s, q < n) : s.length ≤ n :=
  nodup_len n s (h.imp (fun h => Nat.ne_of_lt h)) hn
theorem row_at {w : World} {S : Nat → Prop} {v : Value} {s : List Nat} (h : RowV w S v (ints (natI s))) {j : Nat} (hj : j < s.length) : ∃ ad c, v = .slice (some ad) s.length c ∧ w.cell? (ad.add j) = some (.int .i64 ((s[j] : Nat) : Int)) := by
  obtain ⟨hl, A, c, rfl, hc⟩ := h
  obtain ⟨ad, rfl, -, hce⟩ := hc j (.int .i64 ((s[j] : Nat) : Int)) (by simp [ints, natI, hj])
  exact ⟨ad, c, by simp [ints, natI], hce⟩
theorem row_shape {w : World} {S : Nat → Prop} {v : Value} {s : List Nat} (h : RowV w S v (ints (natI s))) : ∃ A c, v = .slice A s.length c := by
  obtain ⟨hl, A, c, rfl, hc⟩ := h
  exact ⟨A, c, by simp [ints, natI]⟩
theorem IR.rowV {w : World} {B : Nat} {v : Value} {s : List Nat} (h : IR w B v (natI s)) (hl : s.length ≤ 9223372036854775807) : RowV w (fun g => v.ownBlock = some g) v (ints (natI s)) := (h.row (by rw [natI_length]; exact hl)).row
theorem IR.nat {w : World} {B : Nat} {v : Value} {s : List Nat} (h : IR w B v (natI s)) (hl : s.length ≤ 9223372036854775807) : RowV w (fun g => v.ownBlock = some g) v (ints (natI s)) := h.rowV hl

set_option maxRecDepth 100000 in
set_option maxHeartbeats 3200000 in
theorem specAny_any (ad : Addr) (n c : Nat) (vn : Value) (a : Au) (v : Value) (s : List Nat) (S : Nat → Prop) (w : World) (hA : ∀ q, q < n → w.cell? (ad.add q) = some (.bool (a.A q))) (hs : ∀ q ∈ s, q < n) (hl : s.length ≤ 2000) (h : RowV w S v (ints (natI s))) :
    Calls Tryz.prog 122 #[.agg #[.slice (some ad) n c, vn], v] w fun e w' => e = .returned (.bool (anyS a s)) ∧ Below w.heap.size w w' := by
  obtain ⟨A, cs, rfl⟩ := row_shape h
  obtain ⟨W0, hW0⟩ : ∃ W0, W0 = w.alloc (.cells #[.slice (some ad) n c, vn] 31) := ⟨_, rfl⟩
  have HB0 : Hid (Below w.heap.size w W0) := Lib.hid (by rw [hW0]; exact (Below.refl _ _).alloc (Nat.le_refl _) _)
  have HX : Hid (W0.heap[w.heap.size]? = some (.cells #[.slice (some ad) n c, vn] 31 (0, 0))) := Lib.hid (by rw [hW0]; exact heap_alloc_new w _)
  have HA := Lib.hid (fun (V : World) (hV : Below W0.heap.size W0 V) q (hq : q < n) => (HB0.out.trans (hV.mono HB0.out.size)).cell (cell_in (hA q hq)) |>.trans (hA q hq))
  have HR := Lib.hid (fun j (hj : j < s.length) => row_at h hj)
  have HK := Lib.hid (fun (V : World) (hV : Below W0.heap.size W0 V) {p : Addr} {u : Value} (hc : w.cell? p = some u) => ((HB0.out.trans (hV.mono HB0.out.size)).cell (cell_in hc)).trans hc)
  have HS := Lib.hid hs
  clear hA h hs
  go_enter Tryz.func122, Tryz.ntmps122
  go_upto_region 1 with fail
  rw [← hW0]
  clear hW0
  go_wp2_with fail
  go_loopw [5] (fun iv wr => ∃ i : Nat, iv = .int .i64 i ∧ i ≤ s.length ∧ Hid (∀ j (hj : j < s.length), j < i → a.A s[j] = false) ∧ Hid (Below W0.heap.size W0 wr)) (fun iv _ => s.length - (intOf iv).toNat)
  case atStart => exact ⟨0, rfl, Nat.zero_le _, Lib.hid (fun j _ hj => absurd hj (Nat.not_lt_zero _)), Lib.hid (Below.refl _ _)⟩
  case round =>
    obtain ⟨i, rfl, hil, HL, HBr⟩ := hrel
    by_cases hlt : i < s.length
    · have hd : decide ((i : Int) < (s.length : Int)) = true := by simp; omega
      obtain ⟨ad2, c2, hv, hc⟩ := HR.out i hlt
      injection hv with hv1 _ hv3
      subst hv1
      have hc2 := HK.out wr HBr.out hc
      obtain ⟨x, hx⟩ : ∃ x, x = s[i] := ⟨_, rfl⟩
      have hxn : x < n := by rw [hx]; exact HS.out _ (List.getElem_mem hlt)
      have hca := HA.out wr HBr.out x hxn
      obtain ⟨c0, -, -, -⟩ := box2_facts ((HBr.out.block _ (blk_lt HX.out)).trans HX.out)
      rw [← hx] at hc2
      obtain ⟨b, hb⟩ : ∃ b, b = a.A x := ⟨_, rfl⟩
      rw [← hb] at hca
      have HXe := Lib.hid hx
      have HBe := Lib.hid hb
      have s1 : (0 : Int) ≤ (i : Int) := by omega
      have s2 : (i : Int) < (s.length : Int) := by omega
      have s3 : (0 : Int) ≤ (x : Int) := by omega
      have s4 : (x : Int) < (n : Int) := by omega
      clear hc hx hb hv3
      go_wp2_with fail
      go_quiet (fail)
      clear hc2 hca c0
      cases b with
      | true =>
        have HE : Hid (anyS a s = true) := Lib.hid (anyS_iff.2 ⟨x, by rw [HXe.out]; exact List.getElem_mem hlt, HBe.out.symm⟩)
        go_wp2_with fail
        go_ret
        exact ⟨congrArg (fun b : Bool => Ending.returned (.bool b)) HE.out.symm, below_draws (HB0.out.trans (HBr.out.mono HB0.out.size)) _⟩
      | false =>
        have HL2 : Hid (∀ j (hj : j < s.length), j < i + 1 → a.A s[j] = false) := Lib.hid (fun j hj hji => by
          rcases Nat.lt_or_eq_of_le (Nat.le_of_lt_succ hji) with h | h
          · exact HL.out j hj h
          · subst h; rw [← HXe.out]; exact HBe.out.symm)
        have HB2 := Lib.hid (fun k => below_draws HBr.out k)
        go_wp2_with fail
        go_roundw
        case rel => exact ⟨i + 1, by go_num, by omega, HL2, Lib.hid (HB2.out _)⟩
        case measure => simp [intOf]; omega
    · have HE : Hid (anyS a s = false) := Lib.hid (by
        cases h : anyS a s with
        | false => rfl
        | true =>
          obtain ⟨q, hq, h2⟩ := anyS_iff.1 h
          obtain ⟨j, hj, rfl⟩ := List.getElem_of_mem hq
          have := HL.out j hj (by omega)
          rw [this] at h2
          cases h2)
      have hd : decide ((i : Int) < (s.length : Int)) = false := by simp; omega
      go_wp2_with fail
      go_ret
      exact ⟨congrArg (fun b : Bool => Ending.returned (.bool b)) HE.out.symm, HB0.out.trans (HBr.out.mono HB0.out.size)⟩

/-- What l6Move answers: a row of its own. -/
def MovPost (l : List Int) (w : World) (e : Ending) (w' : World) : Prop := ∃ v', e = .returned v' ∧ IR w' w.heap.size v' l ∧ v' ≠ .slice none 0 0 ∧ Below w.heap.size w w'
/-- The set after the first states. -/
def movT (a : Au) (s : List Nat) (k j : Nat) : List Nat := moveS a (s.take j) k
theorem movT_succ {a : Au} {s : List Nat} {k j : Nat} (hj : j < s.length) : movT a s k (j + 1) = putS (movT a s k j) (a.T s[j] k) := by
  unfold movT moveS
  rw [List.take_succ_eq_append_getElem hj, List.foldl_append]
  rfl
theorem movT_len {a : Au} {s : List Nat} {k j n : Nat} (hs : ∀ q ∈ s, a.T q k < n) : (movT a s k j).length ≤ n := asc_len (move_asc _ _ _) (fun q hq => by
  obtain ⟨p, hp, rfl⟩ := mem_move.1 hq
  exact hs p (List.mem_of_mem_take hp))

set_option maxRecDepth 100000 in
set_option maxHeartbeats 3200000 in
theorem specMove_any (va : Value) (aN : Addr) (n c k : Nat) (a : Au) (v : Value) (s : List Nat) (S : Nat → Prop) (w : World) (hn : n ≤ 40) (hk : k < 3) (hs : ∀ q ∈ s, q < n) (hw : ∀ q, q < n → a.T q k < n)
    (hT : ∀ q, q < n → ∃ r q', w.cell? (aN.add q) = some (.slice (some r) 3 q') ∧ w.cell? (r.add k) = some (.int .i64 ((a.T q k : Nat) : Int))) (hl : s.length ≤ 2000) (h : RowV w S v (ints (natI s))) :
    Calls Tryz.prog 121 #[.agg #[va, .slice (some aN) n c], v, .int .i64 (k : Int)] w (MovPost (natI (moveS a s k)) w) := by
  obtain ⟨A, cs, rfl⟩ := row_shape h
  obtain ⟨W0, hW0⟩ : ∃ W0, W0 = (w.alloc (.cells #[va, .slice (some aN) n c] 31)).alloc (.cells #[] 3) := ⟨_, rfl⟩
  have HB0 : Hid (Below w.heap.size w W0) := Lib.hid (by rw [hW0]; exact ((Below.refl _ _).alloc (Nat.le_refl _) _).alloc (by simp) _)
  have HX : Hid (W0.heap[w.heap.size]? = some (.cells #[va, .slice (some aN) n c] 31 (0, 0))) := Lib.hid (by rw [hW0]; exact (Below.heap_alloc _ _ _ (by simp)).trans (heap_alloc_new w _))
  have HN : Hid (IR W0 w.heap.size (.slice (some ⟨w.heap.size + 1, 0, none⟩) 0 0) []) := Lib.hid (by
    have h := IR.none (w.alloc (.cells #[va, .slice (some aN) n c] 31)) (B := w.heap.size) (by simp)
    rw [World.size_alloc, ← hW0] at h
    exact h)
  have HT := Lib.hid hT
  have HR := Lib.hid (fun j (hj : j < s.length) => row_at h hj)
  have HK := Lib.hid (fun (V : World) (hV : Below w.heap.size w V) {p : Addr} {u : Value} (hc : w.cell? p = some u) => (hV.cell (cell_in hc)).trans hc)
  have HS := Lib.hid hs
  have HW := Lib.hid hw
  have HLn := Lib.hid (fun j => movT_len (a := a) (s := s) (k := k) (j := j) (n := n) (fun q hq => hw q (hs q hq)))
  clear hT h hs hw
  go_enter Tryz.func121, Tryz.ntmps121
  go_upto_region 2 with fail
  rw [← hW0]
  clear hW0
  go_wp2_with fail
  go_loopw [7, 8] (fun ov iv wr => ∃ i : Nat, iv = .int .i64 i ∧ i ≤ s.length ∧ ov ≠ .slice none 0 0 ∧ Hid (IR wr w.heap.size ov (natI (movT a s k i))) ∧ Hid (Below w.heap.size w wr ∧ wr.heap[w.heap.size]? = some (.cells #[va, .slice (some aN) n c] 31 (0, 0)))) (fun _ iv _ => s.length - (intOf iv).toNat)
  case atStart => exact ⟨0, rfl, Nat.zero_le _, by simp, HN, Lib.hid ⟨HB0.out, HX.out⟩⟩
  case round =>
    obtain ⟨i, rfl, hil, hne, HO, HBr⟩ := hrel
    by_cases hlt : i < s.length
    · have hd : decide ((i : Int) < (s.length : Int)) = true := by simp; omega
      obtain ⟨ad2, c2, hv, hc⟩ := HR.out i hlt
      injection hv with hv1 _ hv3
      subst hv1
      obtain ⟨x, hx⟩ : ∃ x, x = s[i] := ⟨_, rfl⟩
      have hxn : x < n := by rw [hx]; exact HS.out _ (List.getElem_mem hlt)
      obtain ⟨r, q', h1, h2⟩ := HT.out x hxn
      rw [← hx] at hc
      obtain ⟨y, hy⟩ : ∃ y, y = a.T x k := ⟨_, rfl⟩
      rw [← hy] at h2
      have HSu : Hid (movT a s k (i + 1) = putS (movT a s k i) y) := Lib.hid (by rw [movT_succ hlt, hy, hx])
      have hll := HLn.out i
      obtain ⟨g, cap, rfl, -, -⟩ := ir_some HO.out hne
      rw [natI_length] at HO ⊢
      have HPu := Lib.hid (fun (V : World) (hV : Below wr.heap.size wr V) => specPut_any w.heap.size (.slice (some ⟨g, 0, none⟩) (movT a s k i).length cap) (movT a s k i) y V (by
        have h := HO.out.below hV
        exact h) (by simp) (by omega))
      obtain ⟨m, hm⟩ : ∃ m, m = (movT a s k i).length := ⟨_, rfl⟩
      rw [← hm] at HO HPu ⊢
      have HKe := Lib.hid (fun (V : World) (hV : Below wr.heap.size wr V) => (by
        have hb := HBr.out.1.trans (hV.mono HBr.out.1.size)
        obtain ⟨-, x1, -, -⟩ := box2_facts ((hV.block _ (blk_lt HBr.out.2)).trans HBr.out.2)
        exact ⟨x1, HK.out V hb hc, HK.out V hb h1, HK.out V hb h2⟩ :
        V.cell? ⟨w.heap.size, 1, none⟩ = some (.slice (some aN) n c) ∧ V.cell? (ad2.add i) = some (.int .i64 (x : Int)) ∧ V.cell? (aN.add x) = some (.slice (some r) 3 q') ∧ V.cell? (r.add k) = some (.int .i64 (y : Int))))
      have hbw : Below wr.heap.size wr wr := Below.refl _ _
      have s1 : (0 : Int) ≤ (i : Int) := by omega
      have s2 : (i : Int) < (s.length : Int) := by omega
      have s3 : (0 : Int) ≤ (x : Int) := by omega
      have s4 : (x : Int) < (n : Int) := by omega
      have s5 : (0 : Int) ≤ (k : Int) := by omega
      have s6 : (k : Int) < 3 := by omega
      clear hc hx hy hv3 h1 h2 hm hll
      go_wp2_with fail
      go_region_held3 (fun V => V.cell? ⟨w.heap.size, 1, none⟩ = some (.slice (some aN) n c) ∧ V.cell? (ad2.add i) = some (.int .i64 (x : Int)) ∧ V.cell? (aN.add x) = some (.slice (some r) 3 q') ∧ V.cell? (r.add k) = some (.int .i64 (y : Int))) (first | exact HKe.out _ hbw.drew | exact HKe.out _ hbw) (first | (go_at_call 123; (with_reducible refine (HPu.out _ hbw.drew).mono ?_); rintro e1 w1 ⟨v1, rfl, hi1, hn1, ho1, hb1⟩; have hbw := hbw.drew.trans (hb1.mono hbw.drew.size)))
      have HO2 := Lib.hid hi1
      rw [← HSu.out] at HO2
      have HB2 : Hid (Below w.heap.size w w1 ∧ w1.heap[w.heap.size]? = some (.cells #[va, .slice (some aN) n c] 31 (0, 0))) := Lib.hid ⟨HBr.out.1.trans (hbw.mono HBr.out.1.size), (hbw.block _ (blk_lt HBr.out.2)).trans HBr.out.2⟩
      clear hi1 ho1 hb1 hbw
      go_wp2_with fail
      go_roundw
      case rel => exact ⟨i + 1, by go_num, by omega, hn1, HO2, HB2⟩
      case measure => simp [intOf]; omega
    · have hd : decide ((i : Int) < (s.length : Int)) = false := by simp; omega
      have HE : Hid (movT a s k i = moveS a s k) := Lib.hid (by unfold movT; rw [List.take_of_length_le (by omega)])
      rw [HE.out] at HO
      obtain ⟨g, cap, rfl, -, -⟩ := ir_some HO.out hne
      go_wp2_with fail
      go_ret
      exact ⟨_, rfl, HO.out, hne, HBr.out.1⟩
end Go.Proofs.YthmfncklepkddaaGreatDoor

/-
  What spec.EqualDfa answers: whether two automata are the same, field by field.
  What slices.Equal answers over rows of ints and of bools, slices.EqualFunc over rows of rows of ints, and impl.EqualDfa.
-/
namespace Go.Proofs.YthmfncklepkddaaGreatDoor
open Go.RowKit

theorem list_eq_of {α : Type} (x : α) {l l' : List α} (hl : l.length = l'.length) (h : ∀ i, i < l.length → l.getD i x = l'.getD i x) : l = l' := by
  apply List.ext_getElem hl
  intro i h1 h2
  have := h i h1
  rwa [getD_at h1, getD_at h2] at this

set_option maxRecDepth 100000 in
set_option maxHeartbeats 1600000 in
theorem specInts_any (v v' : Value) (l l' : List Int) (S S' : Nat → Prop) (w : World) (h : RowV w S v (ints l)) (h' : RowV w S' v' (ints l')) :
    Calls Tryz.prog 30 #[v, v'] w fun e w' => e = .returned (.bool (decide (l = l'))) ∧ Below w.heap.size w w' := by
  obtain ⟨hl, A, c, rfl⟩ := h.ints_shape
  obtain ⟨hl', A', c', rfl⟩ := h'.ints_shape
  have HE := Lib.hid (fun j (hj : j < l.length) => h.intD hj)
  have HE' := Lib.hid (fun j (hj : j < l'.length) => h'.intD hj)
  clear h h'
  by_cases hlen : l.length = l'.length
  · have HLen := Lib.hid hlen
    have HYes : Hid ((∀ i, i < l.length → l.getD i 0 = l'.getD i 0) → decide (l = l') = true) := Lib.hid (fun h => decide_eq_true (list_eq_of 0 HLen.out h))
    have HNo : Hid (∀ i, l.getD i 0 ≠ l'.getD i 0 → decide (l = l') = false) := Lib.hid (fun i h => decide_eq_false (fun e => h (by rw [e])))
    obtain ⟨b, hb⟩ : ∃ b, b = decide (l = l') := ⟨_, rfl⟩
    rw [← hb] at HYes HNo ⊢
    obtain ⟨n, hn⟩ : ∃ n, n = l.length := ⟨_, rfl⟩
    rw [← hlen] at HE' hl' ⊢
    rw [← hn] at HE HE' hl HYes ⊢
    have HR : Hid (∀ j, j < n → ∃ ad ad', A = some ad ∧ A' = some ad' ∧ w.cell? (ad.add j) = some (.int .i64 (l.getD j 0)) ∧ w.cell? (ad'.add j) = some (.int .i64 (l'.getD j 0))) := Lib.hid (fun j hj => by
      obtain ⟨ad, e, -, hc⟩ := HE.out j hj
      obtain ⟨ad', e', -, hc'⟩ := HE'.out j hj
      exact ⟨ad, ad', e, e', hc, hc'⟩)
    clear hb hn hlen HE HE'
    have hne : ((n : Int) != (n : Int)) = false := by simp
    go_enter Tryz.func30, Tryz.ntmps30
    go_wp2_with fail
    clear hne
    go_loopw [5] (fun i wr => ∃ j m : Nat, i = .int .i64 j ∧ j ≤ n ∧ wr = w.drewN m ∧ Hid (∀ i, i < j → l.getD i 0 = l'.getD i 0)) (fun i _ => n - (intOf i).toNat)
    case atStart => exact ⟨0, 0, rfl, Nat.zero_le _, rfl, Lib.hid (fun i hi => absurd hi (Nat.not_lt_zero _))⟩
    case round =>
      obtain ⟨j, m, rfl, hj, rfl, hall⟩ := hrel
      by_cases hlt : j < n
      · obtain ⟨ad, ad', rfl, rfl, hc1, hc2⟩ := HR.out j hlt
        obtain ⟨x, hx⟩ : ∃ x, x = l.getD j 0 := ⟨_, rfl⟩
        obtain ⟨x', hx'⟩ : ∃ x', x' = l'.getD j 0 := ⟨_, rfl⟩
        rw [← hx] at hc1
        rw [← hx'] at hc2
        by_cases hxx : x = x'
        · subst hxx
          have HX : Hid (l.getD j 0 = l'.getD j 0) := Lib.hid (by rw [← hx, ← hx'])
          have hne : (x != x) = false := by simp
          clear hx hx'
          go_wp2_with fail
          go_quiet (fail)
          all_goals go_wp2
          all_goals
            go_roundw
            case rel => exact ⟨j + 1, _, by go_num, by omega, rfl, Lib.hid (fun i hi => by
              by_cases e : i = j
              · rw [e]; exact HX.out
              · exact hall.out i (by omega))⟩
            case measure => simp [intOf]; omega
        · have hne : (x != x') = true := by simpa using hxx
          have HF : Hid (b = false) := Lib.hid (HNo.out j (by rw [← hx, ← hx']; exact hxx))
          clear hx hx' hxx
          go_wp2_with fail
          go_quiet (fail)
          all_goals go_wp2
          all_goals
            go_ret
            exact ⟨congrArg (fun b : Bool => Ending.returned (.bool b)) HF.out.symm, below_draws (below_draws (Below.refl _ _) _) _⟩
      · obtain rfl : j = n := by omega
        have HF : Hid (b = true) := Lib.hid (HYes.out hall.out)
        go_wp2_with fail
        go_ret
        exact ⟨congrArg (fun b : Bool => Ending.returned (.bool b)) HF.out.symm, below_draws (Below.refl _ _) m⟩
  · have HF : Hid (decide (l = l') = false) := Lib.hid (decide_eq_false (fun e => hlen (by rw [e])))
    have hne : ((l.length : Int) != (l'.length : Int)) = true := by simp; omega
    clear hlen
    go_enter Tryz.func30, Tryz.ntmps30
    go_wp2_with fail
    go_ret
    exact ⟨congrArg (fun b : Bool => Ending.returned (.bool b)) HF.out.symm, Below.refl _ _⟩
theorem bool_ne {x y : Bool} (h : ¬ x = y) : (x = true ∧ y = false) ∨ (x = false ∧ y = true) := by cases x <;> cases y <;> simp at h ⊢
end Go.Proofs.YthmfncklepkddaaGreatDoor

/-
  Elements of a subset construction as the model lays them: a number, a set, a mark. What spec.l6Find answers.
-/
namespace Go.Proofs.YthmfncklepkddaaGreatDoor
open Go.RowKit

abbrev K6 := Nat × List Nat × Bool
/-- The cells of the elements, their sets' slices beside. -/
def k6C : List Value → List K6 → List Value
  | u :: us, x :: l => .int .i64 (x.1 : Int) :: u :: .bool x.2.2 :: k6C us l
  | _, _ => []
theorem k6C_at : ∀ (us : List Value) (l : List K6) (j : Nat) (x : K6) (u : Value), us[j]? = some u → l[j]? = some x →
    (k6C us l)[j * 3]? = some (.int .i64 (x.1 : Int)) ∧ (k6C us l)[j * 3 + 1]? = some u ∧ (k6C us l)[j * 3 + 2]? = some (.bool x.2.2)
  | [], _, _, _, _, h, _ => by simp at h
  | _ :: _, [], _, _, _, _, h => by simp at h
  | u :: us, x :: l, 0, y, v, h1, h2 => by
    cases h1
    cases h2
    exact ⟨rfl, rfl, rfl⟩
  | u :: us, x :: l, j + 1, y, v, h1, h2 => by
    have ih := k6C_at us l j y v (by simpa using h1) (by simpa using h2)
    rw [show (j + 1) * 3 = j * 3 + 1 + 1 + 1 by omega]
    simpa [k6C] using ih
theorem k6C_snoc : ∀ (us : List Value) (l : List K6) (u : Value) (x : K6), us.length = l.length → k6C (us ++ [u]) (l ++ [x]) = k6C us l ++ [.int .i64 (x.1 : Int), u, .bool x.2.2]
  | [], [], u, x, _ => rfl
  | [], _ :: _, _, _, h => by simp at h
  | _ :: _, [], _, _, h => by simp at h
  | v :: us, y :: l, u, x, h => by
    have ih := k6C_snoc us l u x (by simpa using h)
    simp [k6C, ih]
/-- The sets of the elements. -/
def Sets (w : World) (B : Nat) (us : List Value) (l : List K6) : Prop := us.length = l.length ∧ ∀ (j : Nat) (u : Value) (x : K6), us[j]? = some u → l[j]? = some x → IR w B u (natI x.2.1)
theorem Sets.snoc {w : World} {B : Nat} {us : List Value} {l : List K6} (h : Sets w B us l) {u : Value} {x : K6} (hu : IR w B u (natI x.2.1)) : Sets w B (us ++ [u]) (l ++ [x]) := by
  refine ⟨by simp [h.1], fun j v y hv hy => ?_⟩
  by_cases hj : j < us.length
  · rw [List.getElem?_append_left hj] at hv
    rw [List.getElem?_append_left (by rw [← h.1]; exact hj)] at hy
    exact h.2 j v y hv hy
  · have e : j = us.length := by
      have := (List.getElem?_eq_some_iff.1 hv).1
      simp at this
      omega
    subst e
    rw [List.getElem?_append_right (Nat.le_refl _), Nat.sub_self] at hv
    rw [List.getElem?_append_right (by rw [h.1]; exact Nat.le_refl _), h.1, Nat.sub_self] at hy
    cases hv
    cases hy
    exact hu
theorem Sets.kept {w w' : World} {B : Nat} {us : List Value} {l : List K6} {row : Option Nat} (h : Sets w B us l) (hg : w.grownBy w' row) (hne : ∀ g u, u ∈ us → u.ownBlock = some g → row ≠ some g) : Sets w' B us l :=
  ⟨h.1, fun j u x hu hx => (h.2 j u x hu hx).kept hg (fun g e => hne g u (List.mem_of_getElem? hu) e)⟩
theorem Sets.below {w w' : World} {B : Nat} {us : List Value} {l : List K6} (h : Sets w B us l) (hb : Below w.heap.size w w') : Sets w' B us l := h.kept (grown_of hb) (fun g u _ _ e => by cases e)

theorem set6Info : (Tryz.prog.info? 161).map (fun i => (i.zero, i.size, i.bytes)) = some (some (.agg #[.int .i64 0, .slice none 0 0, .bool false]), 3, 40) := by kernel_rfl

/-- What l6Find answers. -/
def fndV (l : List K6) (x : K6) : Int := if x ∈ l then (l.idxOf x : Int) else -1
theorem fndV_here {l : List K6} {x : K6} {i : Nat} (hi : l[i]? = some x) (hl : ∀ (j : Nat) (y : K6), j < i → l[j]? = some y → y ≠ x) : fndV l x = (i : Int) := by
  have hm : x ∈ l := List.mem_of_getElem? hi
  have hlt : l.idxOf x < l.length := List.idxOf_lt_length_of_mem hm
  have h1 : l[l.idxOf x]? = some x := by rw [List.getElem?_eq_getElem hlt, List.getElem_idxOf]
  unfold fndV
  rw [if_pos hm]
  rcases Nat.lt_trichotomy (l.idxOf x) i with h | h | h
  · exact absurd rfl (hl _ x h h1)
  · rw [h]
  · exfalso
    have h2 := List.not_of_lt_findIdx (p := (· == x)) (xs := l) (i := i) h
    obtain ⟨hi', e⟩ := List.getElem?_eq_some_iff.1 hi
    simp [e] at h2
theorem natI_inj {s t : List Nat} (h : natI s = natI t) : s = t := by
  unfold natI at h
  exact (List.map_inj_right (fun a b e => by omega)).1 h
theorem fndV_none {l : List K6} {x : K6} (hl : ∀ (j : Nat) (y : K6), l[j]? = some y → y ≠ x) : fndV l x = -1 := by
  unfold fndV
  rw [if_neg]
  intro hm
  obtain ⟨j, hj⟩ := List.getElem?_of_mem hm
  exact hl j x hj rfl

set_option maxRecDepth 100000 in
set_option maxHeartbeats 6400000 in
theorem specFnd_any (B B' B2 : Nat) (v vx : Value) (us : List Value) (l : List K6) (x : K6) (w : World) (hown : w.ownsRow B 161 3 v l.length (k6C us l)) (hset : Sets w B' us l) (hx : IR w B2 vx (natI x.2.1)) (hl : l.length ≤ 2000) (hll : ∀ y ∈ l, y.2.1.length ≤ 2000) (hxl : x.2.1.length ≤ 2000) :
    Calls Tryz.prog 124 #[v, .agg #[.int .i64 (x.1 : Int), vx, .bool x.2.2]] w fun e w' => e = .returned (.int .i64 (fndV l x)) ∧ Below w.heap.size w w' := by
  obtain ⟨W0, hW0⟩ : ∃ W0, W0 = w.alloc (.cells #[.int .i64 (x.1 : Int), vx, .bool x.2.2] 161) := ⟨_, rfl⟩
  have HB0 : Hid (Below w.heap.size w W0) := Lib.hid (by rw [hW0]; exact (Below.refl _ _).alloc (Nat.le_refl _) _)
  have HX : Hid (W0.heap[w.heap.size]? = some (.cells #[.int .i64 (x.1 : Int), vx, .bool x.2.2] 161 (0, 0))) := Lib.hid (by rw [hW0]; exact heap_alloc_new w _)
  have HI := Lib.hid (fun (V : World) (hV : Below w.heap.size w V) (j : Nat) (u : Value) (y : K6) (hu : us[j]? = some u) (hy : l[j]? = some y) => specInts_any u vx (natI y.2.1) (natI x.2.1) _ _ V (((hset.2 j u y hu hy).below hV).nat (by have := hll y (List.mem_of_getElem? hy); omega)) ((hx.below hV).nat (by omega)))
  have HKc := Lib.hid (fun (V : World) (hV : Below w.heap.size w V) {p : Addr} {u : Value} (hc : w.cell? p = some u) => (hV.cell (cell_in hc)).trans hc)
  have HOw := Lib.hid hown
  have HUl := Lib.hid hset.1
  obtain ⟨Ax, cx, rfl⟩ : ∃ A c, vx = .slice A x.2.1.length c := row_shape (hx.nat (by omega))
  have HUs : Hid (∀ (j : Nat) (u : Value) (y : K6), us[j]? = some u → l[j]? = some y → ∃ A c, u = .slice A y.2.1.length c) := Lib.hid (fun j u y hu hy => row_shape ((hset.2 j u y hu hy).nat (by have := hll y (List.mem_of_getElem? hy); omega)))
  obtain ⟨n, hn⟩ : ∃ n, n = l.length := ⟨_, rfl⟩
  have HN := Lib.hid hn
  have hsh : ∃ A c, v = .slice A n c := by
    rcases hown.2 with ⟨rfl, h0⟩ | ⟨g, cap, cur, rfl, _⟩
    · exact ⟨none, 0, by rw [hn, h0]⟩
    · exact ⟨_, _, by rw [hn]⟩
  obtain ⟨A, cv, rfl⟩ := hsh
  rw [← hn] at hl
  clear hown hset hx hll hxl hn
  go_enter Tryz.func124, Tryz.ntmps124
  go_upto_region 1 with fail
  rw [← hW0]
  clear hW0
  go_wp2_with fail
  go_loopw [5] (fun iv wr => ∃ i : Nat, iv = .int .i64 i ∧ i ≤ n ∧ Hid (∀ (j : Nat) (y : K6), j < i → l[j]? = some y → y ≠ x) ∧ Hid (Below W0.heap.size W0 wr)) (fun iv _ => n - (intOf iv).toNat)
  case atStart => exact ⟨0, rfl, Nat.zero_le _, Lib.hid (fun j _ hj => absurd hj (Nat.not_lt_zero _)), Lib.hid (Below.refl _ _)⟩
  case round =>
    obtain ⟨i, rfl, hil, HL, HBr⟩ := hrel
    by_cases hlt : i < n
    · have hd : decide ((i : Int) < (n : Int)) = true := by simp; omega
      obtain ⟨y, hy⟩ : ∃ y, l[i]? = some y := ⟨_, List.getElem?_eq_getElem (by rw [← HN.out]; exact hlt)⟩
      obtain ⟨u, hu⟩ : ∃ u, us[i]? = some u := ⟨_, List.getElem?_eq_getElem (by rw [HUl.out, ← HN.out]; exact hlt)⟩
      obtain ⟨g, cg, hvg, -, hcg⟩ := own_cell HOw.out (by rw [← HN.out]; omega)
      injection hvg with hA _ hcv
      subst hA
      subst hcv
      obtain ⟨p1, p2, p3⟩ := k6C_at us l i y u hu hy
      have q1 := (hcg (i * 3) (by rw [← HN.out]; omega)).trans p1
      have q2 := (hcg (i * 3 + 1) (by rw [← HN.out]; omega)).trans p2
      have q3 := (hcg (i * 3 + 2) (by rw [← HN.out]; omega)).trans p3
      obtain ⟨Au, cu, hush⟩ := HUs.out i u y hu hy
      subst hush
      have HL1 := Lib.hid (fun (V : World) (hV : Below wr.heap.size wr V) => HB0.out.trans ((HBr.out.trans (hV.mono HBr.out.size)).mono HB0.out.size))
      have HIi := Lib.hid (fun (m : UpW wr) => up_call (HI.out m.w (HL1.out m.w m.up) i _ y hu hy))
      have k1 := fun (m : UpW wr) => HKc.out m.w (HL1.out m.w m.up) q1
      have k2 := fun (m : UpW wr) => HKc.out m.w (HL1.out m.w m.up) q2
      have k3 := fun (m : UpW wr) => HKc.out m.w (HL1.out m.w m.up) q3
      have hx3 : ∀ V, Below wr.heap.size wr V → Bx3 V w.heap.size (.int .i64 (x.1 : Int)) (.slice Ax x.2.1.length cx) (.bool x.2.2) 161 := fun V hV => (hV.block _ (Nat.lt_of_lt_of_le (blk_lt HX.out) HBr.out.size)).trans ((HBr.out.block _ (blk_lt HX.out)).trans HX.out)
      have k4 := fun (m : UpW wr) => (hx3 m.w m.up).facts.1.1
      have k5 := fun (m : UpW wr) => (hx3 m.w m.up).facts.1.2.1
      have k6 := fun (m : UpW wr) => (hx3 m.w m.up).facts.1.2.2
      have s1 : (0 : Int) ≤ (i : Int) := by omega
      have s2 : (i : Int) < (n : Int) := by omega
      have HY := Lib.hid hy
      obtain ⟨xs, hxs⟩ : ∃ b, b = decide (natI y.2.1 = natI x.2.1) := ⟨_, rfl⟩
      rw [← hxs] at HIi
      obtain ⟨ly, hly⟩ : ∃ z, z = y.2.1.length := ⟨_, rfl⟩
      obtain ⟨lx, hlx⟩ : ∃ z, z = x.2.1.length := ⟨_, rfl⟩
      rw [← hly] at k2 HIi
      rw [← hlx] at k5 HIi
      have HXs := Lib.hid hxs
      obtain ⟨y1, hy1⟩ : ∃ z, z = y.1 := ⟨_, rfl⟩
      obtain ⟨y3, hy3⟩ : ∃ z, z = y.2.2 := ⟨_, rfl⟩
      obtain ⟨x1, hx1⟩ : ∃ z, z = x.1 := ⟨_, rfl⟩
      obtain ⟨x3, hx3'⟩ : ∃ z, z = x.2.2 := ⟨_, rfl⟩
      rw [← hy1] at k1
      rw [← hy3] at k3
      rw [← hx1] at k4
      rw [← hx3'] at k6
      have HE := Lib.hid (And.intro hy1 (And.intro hy3 (And.intro hx1 hx3')))
      clear hy hu p1 p2 p3 q1 q2 q3 hcg hx3 hxs hly hlx hy1 hy3 hx1 hx3'
      have goOn : Hid (y ≠ x) → Hid (∀ (j : Nat) (z : K6), j < i + 1 → l[j]? = some z → z ≠ x) := fun h => Lib.hid (fun j z hj hz => by
        rcases Nat.lt_or_eq_of_le (Nat.le_of_lt_succ hj) with h2 | h2
        · exact HL.out j z h2 hz
        · subst h2
          rw [HY.out] at hz
          cases hz
          exact h.out)
      by_cases h1 : y1 = x1
      · have e1 : ((y1 : Int) == (x1 : Int)) = true := by simp; omega
        by_cases h3 : y3 = x3
        · subst h3
          have e3 : (y3 == y3) = true := by simp
          cases xs with
          | true =>
            have HEq : Hid (y = x) := Lib.hid (by
              have h4 : natI y.2.1 = natI x.2.1 := by simpa using HXs.out.symm
              have h5 : y.2.1 = x.2.1 := natI_inj h4
              have h6 := HE.out
              exact Prod.ext (by omega) (Prod.ext h5 (h6.2.1.symm.trans h6.2.2.2)))
            have HF : Hid (fndV l x = (i : Int)) := Lib.hid (fndV_here (by rw [HY.out, HEq.out]) HL.out)
            clear h1 goOn
            go_wp2_with fail
            refine wp_region_up (by kernel_rfl) (by kernel_rfl) ?_
            repeat (go_big_quiet_step (with_reducible exact HIi.out _))
            refine wpQuiet_nil ?_
            rintro _ ⟨⟨wd, hbw⟩, rfl⟩
            have HBd := Lib.hid (HBr.out.trans (hbw.mono HBr.out.size))
            clear hbw k1 k2 k3 k4 k5 k6
            go_wp2_with fail
            go_ret
            exact ⟨congrArg (fun z : Int => Ending.returned (.int .i64 z)) HF.out.symm, HB0.out.trans (HBd.out.mono HB0.out.size)⟩
          | false =>
            have HG := goOn (Lib.hid (fun h => by
              have h4 : ¬ natI y.2.1 = natI x.2.1 := by simpa using HXs.out.symm
              exact h4 (by rw [h])))
            clear h1 goOn
            go_wp2_with fail
            refine wp_region_up (by kernel_rfl) (by kernel_rfl) ?_
            repeat (go_big_quiet_step (with_reducible exact HIi.out _))
            refine wpQuiet_nil ?_
            rintro _ ⟨⟨wd, hbw⟩, rfl⟩
            have HBd := Lib.hid (HBr.out.trans (hbw.mono HBr.out.size))
            clear hbw k1 k2 k3 k4 k5 k6
            go_wp2_with fail
            go_roundw
            case rel => exact ⟨i + 1, by go_num, by omega, HG, HBd⟩
            case measure => simp [intOf]; omega
        · have HG := goOn (Lib.hid (fun h => by
            have h6 := HE.out
            exact h3 (by rw [h6.2.1, h6.2.2.2, h])))
          have e3 : (y3 == x3) = false := by simp [h3]
          clear h1 h3 goOn
          go_wp2_with fail
          refine wp_region_up (by kernel_rfl) (by kernel_rfl) ?_
          repeat (go_big_quiet_step (with_reducible exact HIi.out _))
          refine wpQuiet_nil ?_
          rintro _ ⟨⟨wd, hbw⟩, rfl⟩
          have HBd := Lib.hid (HBr.out.trans (hbw.mono HBr.out.size))
          clear hbw k1 k2 k3 k4 k5 k6
          go_wp2_with fail
          go_roundw
          case rel => exact ⟨i + 1, by go_num, by omega, HG, HBd⟩
          case measure => simp [intOf]; omega
      · have HG := goOn (Lib.hid (fun h => by
          have h6 := HE.out
          exact h1 (by rw [h6.1, h6.2.2.1, h])))
        have e1 : ((y1 : Int) == (x1 : Int)) = false := by simp; omega
        clear h1 goOn
        go_wp2_with fail
        refine wp_region_up (by kernel_rfl) (by kernel_rfl) ?_
        repeat (go_big_quiet_step (with_reducible exact HIi.out _))
        refine wpQuiet_nil ?_
        rintro _ ⟨⟨wd, hbw⟩, rfl⟩
        have HBd := Lib.hid (HBr.out.trans (hbw.mono HBr.out.size))
        clear hbw k1 k2 k3 k4 k5 k6
        go_wp2_with fail
        go_roundw
        case rel => exact ⟨i + 1, by go_num, by omega, HG, HBd⟩
        case measure => simp [intOf]; omega
    · have HE : Hid (fndV l x = -1) := Lib.hid (fndV_none (fun j y hy => HL.out j y (by have := (List.getElem?_eq_some_iff.1 hy).1; rw [← HN.out] at this; omega) hy))
      have hd : decide ((i : Int) < (n : Int)) = false := by simp; omega
      go_wp2_with fail
      go_ret
      exact ⟨congrArg (fun z : Int => Ending.returned (.int .i64 z)) HE.out.symm, HB0.out.trans (HBr.out.mono HB0.out.size)⟩
end Go.Proofs.YthmfncklepkddaaGreatDoor

/-
  A subset construction as the model goes it: the automaton in its box, the elements met, the row at hand. Of no function of the program.
-/
namespace Go.Proofs.YthmfncklepkddaaGreatDoor
open Go.RowKit

section
variable {α : Type} [DecidableEq α] [Inhabited α] {s0 : α} {g : α → Nat → α} {f : α → K6}
def rowA (s0 : α) (g : α → Nat → α) (i k : Nat) : List Int := (List.range k).map fun j => ((toA s0 g i j : Nat) : Int)
theorem rowA_length (i k : Nat) : (rowA s0 g i k).length = k := by simp [rowA]
theorem rowA_succ (i k : Nat) : rowA s0 g i (k + 1) = rowA s0 g i k ++ [((toA s0 g i k : Nat) : Int)] := by simp [rowA, List.range_succ]
omit [Inhabited α] in
theorem fndV_map (hf : ∀ x y, f x = f y → x = y) (l : List α) (x : α) : fndV (l.map f) (f x) = if x ∈ l then (l.idxOf x : Int) else -1 := by
  unfold fndV
  have hm : (f x ∈ l.map f) ↔ x ∈ l := by
    rw [List.mem_map]
    exact ⟨fun ⟨y, hy, e⟩ => by rw [← hf _ _ e]; exact hy, fun h => ⟨x, h, rfl⟩⟩
  by_cases h : x ∈ l
  · rw [if_pos h, if_pos (hm.2 h)]
    congr 1
    induction l with
    | nil => cases h
    | cons y r ih =>
      rw [List.map_cons, List.idxOf_cons, List.idxOf_cons]
      by_cases e : y = x
      · simp [e]
      · have e' : (f y == f x) = false := by simp; exact fun h => e (hf _ _ h)
        have e2 : (y == x) = false := by simp [e]
        have hr : x ∈ r := by
          rcases List.mem_cons.1 h with h | h
          · exact absurd h.symm e
          · exact h
        rw [e', e2]
        simp only [cond_false]
        rw [ih (by rw [List.mem_map]; exact ⟨fun ⟨y, hy, e⟩ => by rw [← hf _ _ e]; exact hy, fun h => ⟨x, h, rfl⟩⟩) hr]
  · rw [if_neg h, if_neg (fun hh => h (hm.1 hh))]
/-- One step: met already, or met now. -/
theorem fnd_step (hf : ∀ x y, f x = f y → x = y) {i k : Nat} (hi : i < (ords s0 g (3 * i)).length) (hk : k < 3) :
    (fndV ((ords s0 g (3 * i + k)).map f) (f (g (keyA s0 g i) k)) < 0 → ords s0 g (3 * i + (k + 1)) = ords s0 g (3 * i + k) ++ [g (keyA s0 g i) k]) ∧
    (¬ fndV ((ords s0 g (3 * i + k)).map f) (f (g (keyA s0 g i) k)) < 0 → ords s0 g (3 * i + (k + 1)) = ords s0 g (3 * i + k)) ∧
    fndV ((ords s0 g (3 * i + (k + 1))).map f) (f (g (keyA s0 g i) k)) = ((toA s0 g i k : Nat) : Int) := by
  obtain ⟨h1, h2⟩ := keyA_step (s0 := s0) (g := g) hi hk
  have e : (ords s0 g (3 * i + k)).getD i default = keyA s0 g i := ords_at (by omega) hi
  have hm := ords_mem (s0 := s0) (g := g) (3 * i + k)
  rw [show (3 * i + k) / 3 = i by omega, show (3 * i + k) % 3 = k by omega, e] at hm
  refine ⟨fun hn => ?_, fun hn => ?_, ?_⟩
  · rw [fndV_map hf] at hn
    by_cases hx : g (keyA s0 g i) k ∈ ords s0 g (3 * i + k)
    · rw [if_pos hx] at hn
      omega
    · exact (h2 hx).1
  · rw [fndV_map hf] at hn
    by_cases hx : g (keyA s0 g i) k ∈ ords s0 g (3 * i + k)
    · exact (h1 hx).1
    · rw [if_neg hx] at hn
      omega
  · rw [fndV_map hf, if_pos (by rw [show 3 * i + (k + 1) = 3 * i + k + 1 by omega]; exact hm)]
    rfl
theorem ords_len_succ (t : Nat) : (ords s0 g (t + 1)).length ≤ (ords s0 g t).length + 1 := by
  rw [ords]
  split
  · omega
  · simp
theorem ends_fieldsA {N : Nat} (h : Ends s0 g N) (acc : α → Bool) : accOf (found s0 g acc N) = ((List.range N).map fun i => acc (keyA s0 g i)) ∧ intss (nxtOf (found s0 g acc N)) = (List.range N).map fun i => ints (rowA s0 g i 3) := by
  refine ⟨List.map_congr_left (fun i hi => (found_keyA h acc (List.mem_range.1 hi)).1), ?_⟩
  show intss ((List.range N).map fun i => (List.range 3).map fun k => (((found s0 g acc N).T i k : Nat) : Int)) = _
  rw [intss, List.map_map]
  refine List.map_congr_left (fun i hi => ?_)
  show ints _ = ints _
  congr 1
  refine List.map_congr_left (fun k hk => ?_)
  rw [(found_keyA h acc (List.mem_range.1 hi)).2 k (List.mem_range.1 hk)]
end

/-- Where a row of another make grows. -/
theorem Out.far {B : Nat} {w w' : World} {bo : Nat} {va vn : Value} {accs : List Bool} {us : List Value} {rss : List (List Value)} {K : Nat → Nat → Prop} {row : Option Nat} (h : Out B w bo va vn accs us rss K) (hg : w.grownBy w' row)
    (hr : ∀ g, row = some g → ∃ cur e, w.heap[g]? = some (.cells cur e (0, 0)) ∧ e ≠ 4 ∧ e ≠ 58 ∧ e ≠ 3 ∧ e ≠ 31) : Out B w' bo va vn accs us rss K := by
  have keep : ∀ (g : Nat) (cur : Array Value) (e : TypeId), w.heap[g]? = some (.cells cur e (0, 0)) → (∀ e', e' ≠ 4 ∧ e' ≠ 58 ∧ e' ≠ 3 ∧ e' ≠ 31 → e ≠ e') → w'.heap[g]? = w.heap[g]? := fun g cur e hh he =>
    hg.block g (blk_lt hh) (fun er => by
      obtain ⟨cur', e', hh', hne⟩ := hr g er.symm
      exact blk_ne hh hh' (he e' hne) rfl)
  refine ⟨own_on h.acc (fun q e => ?_) (Nat.le_refl _), own_on h.nxt (fun q e => ?_) (Nat.le_refl _), h.rows.keep (fun j q hk => ?_) h.rows.sub hg.size, fun j q hk => ?_, (keep bo _ _ h.box (fun e' he' => Ne.symm he'.2.2.2)).trans h.box, h.low⟩
  · obtain ⟨cur, hh⟩ := blk_of h.acc e
    exact keep q _ _ hh (fun e' he' => Ne.symm he'.1)
  · obtain ⟨cur, hh⟩ := blk_of h.nxt e
    exact keep q _ _ hh (fun e' he' => Ne.symm he'.2.1)
  · obtain ⟨cur, hh⟩ := h.kint j q hk
    exact keep q _ _ hh (fun e' he' => Ne.symm he'.2.2.1)
  · obtain ⟨cur, hh⟩ := h.kint j q hk
    exact ⟨cur, (keep q _ _ hh (fun e' he' => Ne.symm he'.2.2.1)).trans hh⟩

structure S6 (B : Nat) (w : World) (bo : Nat) (va vn : Value) (accs : List Bool) (us : List Value) (rss : List (List Value)) (K : Nat → Nat → Prop) (vo : Value) (ss : List Value) (l : List K6) : Prop where
  out : Out B w bo va vn accs us rss K
  ord : w.ownsRow B 161 3 vo l.length (k6C ss l)
  set : Sets w B ss l
structure S6r (B : Nat) (w : World) (bo : Nat) (va vn : Value) (accs : List Bool) (us : List Value) (rss : List (List Value)) (K : Nat → Nat → Prop) (vo : Value) (ss : List Value) (l : List K6) (vr : Value) (lr : List Int) : Prop where
  one : One B w bo va vn accs us rss K vr lr
  ord : w.ownsRow B 161 3 vo l.length (k6C ss l)
  set : Sets w B ss l
  sep : ∀ u ∈ ss, ∀ g, u.ownBlock = some g → vr.ownBlock ≠ some g
section
variable {B : Nat} {w w' : World} {bo : Nat} {va vn : Value} {accs : List Bool} {us : List Value} {rss : List (List Value)} {K : Nat → Nat → Prop} {vo : Value} {ss : List Value} {l : List K6} {vr : Value} {lr : List Int}
theorem ord_below (h : w.ownsRow B 161 3 vo l.length (k6C ss l)) (hb : Below w.heap.size w w') : w'.ownsRow B 161 3 vo l.length (k6C ss l) := own_on h (fun q e => hb.block q (h.lt q e).2) (Nat.le_refl _)
theorem S6.below (h : S6 B w bo va vn accs us rss K vo ss l) (hb : Below w.heap.size w w') : S6 B w' bo va vn accs us rss K vo ss l := ⟨h.out.below hb, ord_below h.ord hb, h.set.below hb⟩
theorem S6r.below (h : S6r B w bo va vn accs us rss K vo ss l vr lr) (hb : Below w.heap.size w w') : S6r B w' bo va vn accs us rss K vo ss l vr lr := ⟨h.one.below hb, ord_below h.ord hb, h.set.below hb, h.sep⟩
theorem Sets.lt (h : Sets w B ss l) {u : Value} (hu : u ∈ ss) {g : Nat} (e : u.ownBlock = some g) : g < w.heap.size := by
  obtain ⟨j, hj⟩ := List.getElem?_of_mem hu
  have hjl := (List.getElem?_eq_some_iff.1 hj).1
  obtain ⟨x, hx⟩ : ∃ x, l[j]? = some x := ⟨_, List.getElem?_eq_getElem (by rw [← h.1]; exact hjl)⟩
  exact ((h.2 j u x hj hx).lt g e).2
theorem S6.row (h : S6 B w bo va vn accs us rss K vo ss l) : S6r B (w.alloc (.cells #[] 3)) bo va vn accs us rss K vo ss l (.slice (some ⟨w.heap.size, 0, none⟩) 0 0) [] := by
  have hb : Below w.heap.size w (w.alloc (.cells #[] 3)) := (Below.refl _ _).alloc (Nat.le_refl _) _
  refine ⟨h.out.one, ord_below h.ord hb, h.set.below hb, fun u hu g e er => ?_⟩
  simp [Value.ownBlock] at er
  have := h.set.lt hu e
  omega
theorem t6_ne : 161 ≠ 4 ∧ 161 ≠ 58 ∧ 161 ≠ 3 ∧ 161 ≠ 31 := by decide
/-- One element more. -/
theorem S6r.ord_push (h : S6r B w bo va vn accs us rss K vo ss l vr lr) {vo' u : Value} {x : K6} (hu : IR w B u (natI x.2.1)) (hsep : ∀ g, u.ownBlock = some g → vr.ownBlock ≠ some g)
    (hown : w'.ownsRow B 161 3 vo' (l.length + 1) (k6C ss l ++ [.int .i64 (x.1 : Int), u, .bool x.2.2])) (hg : w.grownBy w' vo.ownBlock) : S6r B w' bo va vn accs us rss K vo' (ss ++ [u]) (l ++ [x]) vr lr := by
  have hrow : ∀ g, vo.ownBlock = some g → ∃ cur, w.heap[g]? = some (.cells cur 161 (0, 0)) := fun g e => blk_ofz h.ord e
  have hint : ∀ (v : Value) (li : List Int), IR w B v li → IR w' B v li := fun v li hv => hv.kept hg (fun g e er => by
    obtain ⟨cur, hh⟩ := blk_of hv e
    obtain ⟨cur', hh'⟩ := hrow g er
    exact blk_ne hh hh' (Ne.symm t6_ne.2.2.1) rfl)
  refine ⟨⟨h.one.out.far hg (fun g e => ?_), hint _ _ h.one.ord, h.one.ordK⟩, ?_, ?_, fun v hv g e => ?_⟩
  · obtain ⟨cur, hh⟩ := hrow g e
    exact ⟨cur, _, hh, t6_ne⟩
  · rw [k6C_snoc _ _ _ _ h.set.1, List.length_append]
    exact hown
  · exact Sets.snoc ⟨h.set.1, fun j v y hv hy => hint _ _ (h.set.2 j v y hv hy)⟩ (hint _ _ hu)
  · rcases List.mem_append.1 hv with hv | hv
    · exact h.sep v hv g e
    · rw [List.mem_singleton] at hv
      subst hv
      exact hsep g e
/-- One more in the row. -/
theorem S6r.row_push (h : S6r B w bo va vn accs us rss K vo ss l vr lr) {v' : Value} {x : Int} (hown : w'.ownsRow B 3 1 v' (lr.length + 1) (ints lr ++ [.int .i64 x])) (hg : w.grownBy w' vr.ownBlock) (hat : v'.ownBlock = vr.ownBlock ∨ v'.ownBlock = some w.heap.size) : S6r B w' bo va vn accs us rss K vo ss l v' (lr ++ [x]) := by
  refine ⟨h.one.ord_push hown hg hat, own_on h.ord (fun q e => ?_) (Nat.le_refl _), h.set.kept hg (fun g u hu e => h.sep u hu g e), fun u hu g e er => ?_⟩
  · obtain ⟨cur, hh⟩ := blk_ofz h.ord e
    exact hg.block q (blk_lt hh) (fun er => by
      obtain ⟨cur', hh'⟩ := blk_of h.one.ord er.symm
      exact blk_ne hh hh' t6_ne.2.2.1 rfl)
  · rcases hat with a | a
    · exact h.sep u hu g e (a.symm.trans er)
    · rw [a] at er
      cases er
      have := h.set.lt hu e
      omega
theorem sets_far {row : Option Nat} {p : Addr} {v : Value} (h : Sets w B ss l) (hg : w.grownBy w' row) (hrow : ∀ g, row = some g → ∃ cur e, w.heap[g]? = some (.cells cur e (0, 0)) ∧ e ≠ 3) (hbox : w.heap[p.block]? = some (.cells #[va, vn] 31 (0, 0))) : Sets (w'.setCell p v) B ss l :=
  ⟨h.1, fun j u x hu hx => (h.2 j u x hu hx).far hg hrow hbox⟩
theorem ord_far {row : Option Nat} {p : Addr} {v : Value} (h : w.ownsRow B 161 3 vo l.length (k6C ss l)) (hg : w.grownBy w' row) (hrow : ∀ g, row = some g → ∃ cur e, w.heap[g]? = some (.cells cur e (0, 0)) ∧ e ≠ 161) (hbox : w.heap[p.block]? = some (.cells #[va, vn] 31 (0, 0))) : (w'.setCell p v).ownsRow B 161 3 vo l.length (k6C ss l) :=
  own_on h (fun q e => by
    obtain ⟨cur, hh⟩ := blk_ofz h e
    refine (Below.heap_setCell _ _ _ q (fun er => blk_ne hh hbox t6_ne.2.2.2 er)).trans (hg.block q (blk_lt hh) (fun er => ?_))
    obtain ⟨cur', e', hh', hne⟩ := hrow q er.symm
    exact blk_ne hh hh' (Ne.symm hne) rfl) (Nat.le_refl _)
theorem S6r.acc_push (h : S6r B w bo va vn accs us rss K vo ss l vr lr) {va' : Value} {b : Bool} (hown : w'.ownsRow B 4 1 va' (accs.length + 1) (bools accs ++ [.bool b])) (hg : w.grownBy w' va.ownBlock) :
    (∃ x, w'.cell? ⟨bo, 0, none⟩ = some x) ∧ w'.frozen? ⟨bo, 0, none⟩ = false ∧ S6r B (w'.setCell ⟨bo, 0, none⟩ va') bo va' vn (accs ++ [b]) us rss K vo ss l vr lr := by
  obtain ⟨h1, h2, h3⟩ := h.one.acc_push hown hg
  have hrow : ∀ g, va.ownBlock = some g → ∃ cur, w.heap[g]? = some (.cells cur 4 (0, 0)) := fun g e => blk_of h.one.out.acc e
  refine ⟨h1, h2, h3, ord_far h.ord hg (fun g e => ?_) h.one.out.box, sets_far h.set hg (fun g e => ?_) h.one.out.box, h.sep⟩
  · obtain ⟨cur, hh⟩ := hrow g e
    exact ⟨cur, _, hh, Ne.symm t6_ne.1⟩
  · obtain ⟨cur, hh⟩ := hrow g e
    exact ⟨cur, _, hh, by decide⟩
theorem S6r.nxt_push (h : S6r B w bo va vn accs us rss K vo ss l vr lr) {vn' : Value} (hrl : lr.length ≤ 9223372036854775807) (hown : w'.ownsRow B 58 1 vn' (us.length + 1) (us ++ [vr])) (hg : w.grownBy w' vn.ownBlock) :
    (∃ x, w'.cell? ⟨bo, 1, none⟩ = some x) ∧ w'.frozen? ⟨bo, 1, none⟩ = false ∧ S6 B (w'.setCell ⟨bo, 1, none⟩ vn') bo va vn' accs (us ++ [vr]) (rss ++ [ints lr]) (fun j g => if j < us.length then K j g else j = us.length ∧ vr.ownBlock = some g) vo ss l := by
  obtain ⟨h1, h2, h3⟩ := h.one.nxt_push hrl hown hg
  have hrow : ∀ g, vn.ownBlock = some g → ∃ cur, w.heap[g]? = some (.cells cur 58 (0, 0)) := fun g e => blk_of h.one.out.nxt e
  refine ⟨h1, h2, h3, ord_far h.ord hg (fun g e => ?_) h.one.out.box, sets_far h.set hg (fun g e => ?_) h.one.out.box⟩
  · obtain ⟨cur, hh⟩ := hrow g e
    exact ⟨cur, _, hh, Ne.symm t6_ne.2.1⟩
  · obtain ⟨cur, hh⟩ := hrow g e
    exact ⟨cur, _, hh, by decide⟩
/-- The element at hand. -/
theorem S6r.elem (h : S6r B w bo va vn accs us rss K vo ss l vr lr) {i : Nat} {x : K6} (hx : l[i]? = some x) : ∃ g c u, vo = .slice (some ⟨g, 0, none⟩) l.length c ∧ ss[i]? = some u ∧ IR w B u (natI x.2.1) ∧ w.cell? ⟨g, i * 3, none⟩ = some (.int .i64 (x.1 : Int)) ∧ w.cell? ⟨g, i * 3 + 1, none⟩ = some u ∧ w.cell? ⟨g, i * 3 + 2, none⟩ = some (.bool x.2.2) := by
  have hi := (List.getElem?_eq_some_iff.1 hx).1
  obtain ⟨g, c, hv, -, hc⟩ := own_cell h.ord (by omega)
  obtain ⟨u, hu⟩ : ∃ u, ss[i]? = some u := ⟨_, List.getElem?_eq_getElem (by rw [h.set.1]; exact hi)⟩
  obtain ⟨p1, p2, p3⟩ := k6C_at ss l i x u hu hx
  exact ⟨g, c, u, hv, hu, h.set.2 i u x hu hx, (hc _ (by omega)).trans p1, (hc _ (by omega)).trans p2, (hc _ (by omega)).trans p3⟩
end
end Go.Proofs.YthmfncklepkddaaGreatDoor

/-
  The element at hand in its box, with its set. Of no function of the program.
-/
namespace Go.Proofs.YthmfncklepkddaaGreatDoor
open Go.RowKit

/-- The element at hand: what is new since cur. -/
structure X6 (cur wx : World) (b p : Nat) (u : Value) (s : List Nat) (m : Bool) : Prop where
  box : Bx3 wx b (.int .i64 (p : Int)) u (.bool m) 161
  set : IR wx cur.heap.size u (natI s)
  ne : u ≠ .slice none 0 0
  low : cur.heap.size ≤ b
  up : Below cur.heap.size cur wx
section
variable {cur wx w1 : World} {b p : Nat} {u : Value} {s : List Nat} {m : Bool}
theorem X6.kept (h : X6 cur wx b p u s m) (hb : Below wx.heap.size wx w1) : X6 cur w1 b p u s m :=
  ⟨h.box.same (hb.block _ h.box.lt), h.set.below hb, h.ne, h.low, h.up.trans (hb.mono h.up.size)⟩
theorem x6_new {V : World} (hV : Below cur.heap.size cur V) (hs : IR w1 V.heap.size u (natI s)) (hne : u ≠ .slice none 0 0) (hb : Below V.heap.size V w1) : X6 cur (w1.alloc (.cells #[.int .i64 (p : Int), u, .bool m] 161)) w1.heap.size p u s m := by
  have h1 := hV.trans (hb.mono hV.size)
  refine ⟨Bx3.new _ _ _ _ _, ?_, hne, h1.size, h1.alloc h1.size _⟩
  have h2 : IR w1 cur.heap.size u (natI s) := own_on hs (fun _ _ => rfl) hV.size
  exact h2.below ((Below.refl _ _).alloc (Nat.le_refl _) _)
theorem ir_set {w : World} {B g o : Nat} {v x : Value} {l : List Int} {cur : Array Value} {e : TypeId} (h : IR w B v l) (hb : w.heap[g]? = some (.cells cur e (0, 0))) (he : e ≠ 3) : IR (w.setCell ⟨g, o, none⟩ x) B v l := by
  refine ownsRow_setCell_other h (fun er => ?_) _
  obtain ⟨cur', hh⟩ := blk_of h er
  exact blk_ne hh hb (Ne.symm he) rfl
theorem x6_set {V : World} {x0 x1 x2 : Value} (hV : Below cur.heap.size cur V) (hs : IR w1 V.heap.size u (natI s)) (hne : u ≠ .slice none 0 0) (hb : Below V.heap.size V w1) (hlo : cur.heap.size ≤ b) (hk : Bx3 w1 b x0 x1 x2 161) :
    X6 cur (((w1.setCell ⟨b, 0, none⟩ (.int .i64 (p : Int))).setCell ⟨b, 1, none⟩ u).setCell ⟨b, 2, none⟩ (.bool m)) b p u s m := by
  have h1 := hV.trans (hb.mono hV.size)
  have hi : IR w1 cur.heap.size u (natI s) := own_on hs (fun _ _ => rfl) hV.size
  exact ⟨((hk.set0 _).set1 _).set2 _, ir_set (ir_set (ir_set hi hk t6_ne.2.2.1) (hk.set0 _) t6_ne.2.2.1) ((hk.set0 _).set1 _) t6_ne.2.2.1, hne, hlo, below_set (below_set (below_set h1 hlo _) hlo _) hlo _⟩
/-- Another set. -/
theorem X6.put (h : X6 cur wx b p u s m) {t : List Nat} {v' : Value} {w' : World} (hi : IR w' cur.heap.size v' (natI t)) (hne : v' ≠ .slice none 0 0) (hb : Below wx.heap.size wx w') : X6 cur (w'.setCell ⟨b, 1, none⟩ v') b p v' t m := by
  have h1 := h.kept hb
  exact ⟨h1.box.set1 _, ir_set hi h1.box t6_ne.2.2.1, hne, h.low, below_set h1.up h.low _⟩
end
/-- It begins with one element. -/
theorem S6.start {B : Nat} (V : World) (u : Value) (x : K6) (hB : B ≤ V.heap.size) (hu : IR V B u (natI x.2.1)) :
    let W := (V.alloc (.cells #[.int .i64 (x.1 : Int), u, .bool x.2.2] 161)).alloc (.cells #[.slice none 0 0, .slice none 0 0] 31)
    S6 B W (V.heap.size + 1) (.slice none 0 0) (.slice none 0 0) [] [] [] (fun _ _ => False) (.slice (some ⟨V.heap.size, 0, none⟩) 1 1) [u] [x] := by
  intro W
  have hb1 : Below V.heap.size V (V.alloc (.cells #[.int .i64 (x.1 : Int), u, .bool x.2.2] 161)) := (Below.refl _ _).alloc (Nat.le_refl _) _
  have hb2 : Below V.heap.size V W := hb1.alloc hb1.size _
  have ho := Out.start (V.alloc (.cells #[.int .i64 (x.1 : Int), u, .bool x.2.2] 161)) (B := B) (by simp; omega)
  rw [World.size_alloc] at ho
  refine ⟨ho, ⟨by simp [k6C], .inr ⟨V.heap.size, 1, #[.int .i64 (x.1 : Int), u, .bool x.2.2], rfl, hB, (Below.heap_alloc _ _ _ (by simp)).trans (heap_alloc_new V _), Nat.le_refl _, by decide, rfl, rfl⟩⟩, rfl, fun j v y hv hy => ?_⟩
  cases j with
  | zero =>
    cases hv
    cases hy
    exact hu.below hb2
  | succ j => simp at hv
end Go.Proofs.YthmfncklepkddaaGreatDoor

/-
  What spec.ConcatDfa answers where both automata are valid.
-/
namespace Go.Proofs.YthmfncklepkddaaGreatDoor
open Go.RowKit

def catK (x : Nat × List Nat) : K6 := (x.1, x.2, false)
theorem enters_any6 : ∀ args w, (callFunc 122 args).run Tryz.prog w = .ok (.enter 122 args) w := enters_of Tryz.func122 (by kernel_rfl) rfl
theorem catK_inj (x y : Nat × List Nat) (h : catK x = catK y) : x = y := by
  unfold catK at h
  injection h with h1 h2
  injection h2 with h2 _
  exact Prod.ext h1 h2
/-- A valid automaton's cells. -/
def AuC (V : World) (n : Nat) (ad aN : Addr) (a : Au) : Prop :=
  (∀ q, q < n → V.cell? (ad.add q) = some (.bool (a.A q))) ∧ ∀ q, q < n → ∃ r q', V.cell? (aN.add q) = some (.slice (some r) 3 q') ∧ ∀ k, k < 3 → V.cell? (r.add k) = some (.int .i64 ((a.T q k : Nat) : Int))
theorem AuC.kept {V V' : World} {n : Nat} {ad aN : Addr} {a : Au} (h : AuC V n ad aN a) (hb : Below V.heap.size V V') : AuC V' n ad aN a :=
  ⟨fun q hq => (hb.cell (cell_in (h.1 q hq))).trans (h.1 q hq), fun q hq => by
    obtain ⟨r, q', h1, h2⟩ := h.2 q hq
    exact ⟨r, q', (hb.cell (cell_in h1)).trans h1, fun k hk => (hb.cell (cell_in (h2 k hk))).trans (h2 k hk)⟩⟩

set_option maxRecDepth 100000 in
set_option maxHeartbeats 12800000 in
theorem specCatV_any (ad : Addr) (n c : Nat) (aN : Addr) (c' : Nat) (a : Au) (ad' : Addr) (n' e : Nat) (aN' : Addr) (e' : Nat) (b : Au) (d d' : Dx) (S S' : Nat → Prop) (y : Dx) (ok : Bool) (w : World)
    (h : DfaV w S (.slice (some ad) n c) (.slice (some aN) n c') d) (h' : DfaV w S' (.slice (some ad') n' e) (.slice (some aN') n' e') d') (hv : validD d = true) (hv' : validD d' = true)
    (hA : AuC w n ad aN a) (hB : AuC w n' ad' aN' b) (hwa : a.wf) (hwb : b.wf) (hna : a.n = n) (hnb : b.n = n') (hn40 : n ≤ 40) (hn40' : n' ≤ 40) (hy : srchR 400 (catS a) (catG a b) (fun x => anyS b x.2) y ok) :
    Calls Tryz.prog 71 #[.agg #[.slice (some ad) n c, .slice (some aN) n c'], .agg #[.slice (some ad') n' e, .slice (some aN') n' e']] w (CopyDB y ok w) := by
  obtain ⟨i0, hi, hz0, hz1, hz2⟩ := info_parts intInfo
  obtain ⟨b0, hbi, hb0, hb1, hb2⟩ := info_parts boolInfo
  obtain ⟨r0, hri, hr0, hr1, hr2⟩ := info_parts rowInfo
  obtain ⟨e0, hi6, h60, h61, h62⟩ := info_parts set6Info
  obtain ⟨W0, hW0⟩ : ∃ W0, W0 = ((w.alloc (.cells #[.slice (some ad) n c, .slice (some aN) n c'] 31)).alloc (.cells #[.slice (some ad') n' e, .slice (some aN') n' e'] 31)).alloc (.cells #[.slice none 0 0, .slice none 0 0] 31) := ⟨_, rfl⟩
  have h3 := three_box' w (.cells #[.slice (some ad) n c, .slice (some aN) n c'] 31) (.cells #[.slice (some ad') n' e, .slice (some aN') n' e'] 31) (.cells #[.slice none 0 0, .slice none 0 0] 31)
  rw [← hW0] at h3
  have HB0 : Hid (Below w.heap.size w W0) := Lib.hid h3.2.2.2
  have HX := Lib.hid h3.1
  have HX' := Lib.hid h3.2.1
  have HY := Lib.hid h3.2.2.1
  clear h3
  have HV := Lib.hid (specValidD_any _ _ d S W0 (h.kept HB0.out))
  have HV' := Lib.hid (fun (V : World) (hV : Below w.heap.size w V) => specValidD_any _ _ d' S' V (h'.kept hV))
  rw [hv] at HV
  rw [hv'] at HV'
  have HA := Lib.hid (fun (V : World) (hV : Below w.heap.size w V) => hA.kept hV)
  have HBb := Lib.hid (fun (V : World) (hV : Below w.heap.size w V) => hB.kept hV)
  have HT : Hid (∀ q k, q < n → k < 3 → a.T q k < n) := Lib.hid (by rw [← hna]; exact hwa.2)
  have HT' : Hid (∀ q k, q < n' → k < 3 → b.T q k < n') := Lib.hid (by rw [← hnb]; exact hwb.2)
  have hn0 : 0 < n := by rw [← hna]; exact hwa.1
  have hn0' : 0 < n' := by rw [← hnb]; exact hwb.1
  have HYy := Lib.hid hy
  obtain ⟨G, hG⟩ : ∃ G, G = catG a b := ⟨_, rfl⟩
  obtain ⟨X0, hX0⟩ : ∃ X, X = catS a := ⟨_, rfl⟩
  have HGe := Lib.hid (And.intro hG hX0)
  have HKeys : Hid (∀ i, (∀ j, j < i → j < (ords X0 G (3 * j)).length) → ∀ t, t ≤ 3 * i → ∀ x ∈ ords X0 G t, okC n n' x) := Lib.hid (fun i ha t => ords_ok (Ok := okC n n') (by rw [hX0]; exact catS_ok hn0 hn0') (fun x k hx hk => by rw [hG]; exact catG_ok hn0' (fun q hq => HT.out q k hq hk) (fun q hq => HT'.out q k hq hk) hx) ha t)
  obtain ⟨hc0, hc1, -, -⟩ := box2_facts HX.out
  obtain ⟨hd0, hd1, -, -⟩ := box2_facts HX'.out
  rw [hW0] at hc0 hc1 hd0 hd1
  clear h h' hv hv' hA hB hwa hwb hna hnb hy hG hX0
  go_enter Tryz.func71, Tryz.ntmps71
  go_wp2_with fail
  go_at_call 120
  rw [← hW0]
  refine HV.out.mono ?_
  rintro e1 w1 ⟨rfl, hb1⟩
  have HB1 := Lib.hid hb1
  clear hc0 hc1 hd0 hd1 hW0 hb1
  obtain ⟨hd0, hd1, -, -⟩ := box2_facts ((HB1.out.block _ (blk_lt HX'.out)).trans HX'.out)
  go_wp2_with fail
  go_at_call 120
  refine (HV'.out w1 (HB0.out.trans (HB1.out.mono HB0.out.size))).mono ?_
  rintro e2 w2 ⟨rfl, hb2'⟩
  have HB2 := Lib.hid (HB1.out.trans (hb2'.mono HB1.out.size))
  clear hd0 hd1 hb2'
  obtain ⟨B, hBe⟩ : ∃ B, B = w2.heap.size := ⟨_, rfl⟩
  obtain ⟨W3, hW3⟩ : ∃ W3, W3 = w2.alloc (.cells #[.int .i64 0, .slice none 0 0, .bool false] 161) := ⟨_, rfl⟩
  have HB3 : Hid (Below B w2 W3) := Lib.hid (by rw [hW3, hBe]; exact (Below.refl _ _).alloc (Nat.le_refl _) _)
  have HW3 : Hid (Bx3 W3 B (.int .i64 0) (.slice none 0 0) (.bool false) 161 ∧ W3.heap.size = B + 1) := Lib.hid (by rw [hW3, hBe]; exact ⟨Bx3.new _ _ _ _ _, by simp⟩)
  have HUp : Hid (∀ V, Below B w2 V → Below w.heap.size w V ∧ Below W0.heap.size W0 V) := Lib.hid (fun V hV => by
    have h1 := HB2.out.trans (hV.mono (by rw [hBe]; exact HB2.out.size))
    exact ⟨HB0.out.trans (h1.mono HB0.out.size), h1⟩)
  have HBe := Lib.hid hBe
  go_upto_region 4 with fail
  rw [← hW3, ← hBe]
  clear hW3 hBe
  have ha0 := (HA.out W3 (HUp.out W3 HB3.out).1).1 0 hn0
  obtain ⟨hd0, hd1, -, -⟩ := box2_facts (((HUp.out W3 HB3.out).2.block _ (blk_lt HX.out)).trans HX.out)
  have hadd : ad.add 0 = ad := by cases ad; rfl
  rw [hadd] at ha0
  have hn0i : (0 : Int) < (n : Int) := by omega
  obtain ⟨q, hq⟩ : ∃ q, q = a.A 0 := ⟨_, rfl⟩
  rw [← hq] at ha0
  have HX0 : Hid (X0.2 = if q then [0] else []) := Lib.hid (by rw [HGe.out.2, hq]; rfl)
  clear hq
  go_upto_if 28 with fail
  go_cut [28] from 29 to 30 (fun _ wc => ∃ u, Hid (Bx3 wc B (.int .i64 0) u (.bool false) 161 ∧ IR wc B u (natI X0.2) ∧ Below B w2 wc) ∧ ∃ A c, u = .slice A X0.2.length c)
  case first =>
    cases q with
    | true =>
      have HE : Hid (X0.2 = [0]) := HX0
      obtain ⟨⟨-, k1, -⟩, -, k2, -⟩ := (HW3.out.1.same (Below.heap_alloc W3 (.cells #[.int .i64 0] 3) B HW3.out.1.lt)).facts
      go_wp2_with fail
      go_meet
      rw [HE.out]
      refine ⟨_, Lib.hid ⟨(HW3.out.1.same (Below.heap_alloc W3 (.cells #[.int .i64 0] 3) B HW3.out.1.lt)).set1 _, ?_, ?_⟩, _, _, rfl⟩
      · have h1 := IR.one W3 0 (B := B) (by rw [HW3.out.2]; omega)
        exact ir_set h1 (HW3.out.1.same (Below.heap_alloc W3 _ B HW3.out.1.lt)) t6_ne.2.2.1
      · exact below_set (HB3.out.alloc (by rw [HW3.out.2]; omega) _) (Nat.le_refl _) _
    | false =>
      have HE : Hid (X0.2 = []) := HX0
      go_wp2_with fail
      go_meet
      rw [HE.out]
      exact ⟨.slice none 0 0, Lib.hid ⟨HW3.out.1, ⟨rfl, .inl ⟨rfl, rfl⟩⟩, HB3.out⟩, none, 0, rfl⟩
  case rest =>
    obtain ⟨u, HU, Au, cu, rfl⟩ := hcut
    obtain ⟨⟨c0, c1, c2⟩, -⟩ := HU.out.1.facts
    obtain ⟨V0, hV0⟩ : ∃ V0, V0 = wc := ⟨_, rfl⟩
    rw [← hV0] at HU c0 c1 c2 ⊢
    clear hV0
    obtain ⟨W5, hW5⟩ : ∃ W5, W5 = (V0.alloc (.cells #[.int .i64 0, .slice Au X0.2.length cu, .bool false] 161)).alloc (.cells #[.slice none 0 0, .slice none 0 0] 31) := ⟨_, rfl⟩
    have hBV : B ≤ V0.heap.size := Nat.le_of_lt HU.out.1.lt
    have HS5 : Hid (S6 B W5 (V0.heap.size + 1) (.slice none 0 0) (.slice none 0 0) [] [] [] (fun _ _ => False) (.slice (some ⟨V0.heap.size, 0, none⟩) 1 1) [.slice Au X0.2.length cu] [catK X0] ∧ Below B w2 W5) := Lib.hid (by
      have h1 := S6.start V0 (.slice Au X0.2.length cu) (catK X0) hBV HU.out.2.1
      have h2 : (((catK X0).1 : Nat) : Int) = 0 := by rw [HGe.out.2]; rfl
      rw [h2] at h1
      rw [hW5]
      exact ⟨h1, ((HU.out.2.2).alloc hBV _).alloc (by simp; omega) _⟩)
    obtain ⟨bo, hbo⟩ : ∃ bo, bo = V0.heap.size + 1 := ⟨_, rfl⟩
    rw [← hbo] at HS5
    clear ha0 hd0 hd1
    go_upto_region 8 with fail
    rw [← hW5, ← hbo]
    clear hW5 hbo c0 c1 c2
    have HF := Lib.hid catK_inj
    go_wp2_with fail
    go_loopw [7, 9] (fun vo iv wr => ∃ (i : Nat) (va2 vn2 : Value) (us : List Value) (K : Nat → Nat → Prop) (ss : List Value), iv = .int .i64 i ∧ i ≤ 400 ∧ us.length = i ∧ Hid ((ords X0 G (3 * i)).length ≤ 400) ∧ Hid (Below B w2 wr) ∧ Hid (∀ j, j < i → j < (ords X0 G (3 * j)).length) ∧ Hid (S6 B wr bo va2 vn2 ((List.range i).map fun j => anyS b (keyA X0 G j).2) us ((List.range i).map fun j => ints (rowA X0 G j 3)) K vo ss ((ords X0 G (3 * i)).map catK))) (fun _ iv _ => 401 - (intOf iv).toNat)
    case atStart => exact ⟨0, _, _, [], _, _, rfl, Nat.zero_le _, rfl, Lib.hid (by simp [ords]), Lib.hid HS5.out.2, Lib.hid (fun j hj => absurd hj (Nat.not_lt_zero _)), Lib.hid HS5.out.1⟩
    case round =>
      obtain ⟨i, va2, vn2, us, K, ss, rfl, hin, hus, HLe, HBr, hon, ho⟩ := hrel
      clear HS5
      obtain ⟨accs, hacc⟩ : ∃ accs, accs = (List.range i).map fun j => anyS b (keyA X0 G j).2 := ⟨_, rfl⟩
      obtain ⟨rss, hrss⟩ : ∃ rss, rss = (List.range i).map fun j => ints (rowA X0 G j 3) := ⟨_, rfl⟩
      rw [← hacc, ← hrss] at ho
      have HAc := Lib.hid (And.intro hacc hrss)
      have HAl : Hid (accs.length = i) := Lib.hid (by rw [hacc]; simp)
      clear hacc hrss
      obtain ⟨go, co, hvo, -, -⟩ := own_cell ho.out.ord (by rw [List.length_map]; exact ords_pos _)
      subst hvo
      obtain ⟨nl, hnl⟩ : ∃ nl, nl = ((ords X0 G (3 * i)).map catK).length := ⟨_, rfl⟩
      have HNl := Lib.hid hnl
      rw [← hnl]
      have hnl2 : nl = (ords X0 G (3 * i)).length := by rw [hnl, List.length_map]
      by_cases hlt : i < nl
      · have hi1 : i < (ords X0 G (3 * i)).length := by rw [← hnl2]; exact hlt
        have HON : Hid (∀ j, j < i + 1 → j < (ords X0 G (3 * j)).length) := Lib.hid (fun j hj => by
          rcases Nat.lt_or_eq_of_le (Nat.le_of_lt_succ hj) with h | h
          · exact hon.out j h
          · rw [h]; exact hi1)
        have hd : decide ((i : Int) < (nl : Int)) = true := by simp; omega
        have HR0 : Hid (S6r B (wr.alloc (.cells #[] 3)) bo va2 vn2 accs us rss K (.slice (some ⟨go, 0, none⟩) nl co) ss ((ords X0 G (3 * i + 0)).map catK) (.slice (some ⟨wr.heap.size, 0, none⟩) 0 0) (rowA X0 G i 0)) := Lib.hid (by
          have h1 := ho.out.row
          rw [← hnl] at h1
          exact h1)
        have HBa := Lib.hid (HBr.out.alloc (Nat.le_of_lt ho.out.out.base) (.cells #[] 3))
        clear hnl2 hnl
        go_wp2_with fail
        clear hd ho
        go_loopw [7, 10, 11] (fun vo vr kv wq => ∃ (k : Nat) (ss : List Value), kv = .int .i64 k ∧ k ≤ 3 ∧ Hid ((ords X0 G (3 * i + k)).length ≤ 400 + k) ∧ Hid (Below B w2 wq) ∧ Hid (S6r B wq bo va2 vn2 accs us rss K vo ss ((ords X0 G (3 * i + k)).map catK) vr (rowA X0 G i k))) (fun _ _ kv _ => 3 - (intOf kv).toNat)
        case atStart => exact ⟨0, _, rfl, Nat.zero_le _, Lib.hid HLe.out, HBa, HR0⟩
        case round =>
          obtain ⟨k, ss, rfl, hk, HLk, HBq, HQ⟩ := hrel
          clear HR0 HBa
          by_cases hk3 : k < 3
          · have st := fnd_step (s0 := X0) (g := G) HF.out hi1 hk3
            obtain ⟨hil, hkey⟩ := keyA_at (s0 := X0) (g := G) (t := 3 * i + k) hi1 (by omega)
            have hxM : okC n n' (keyA X0 G i) := HKeys.out (i + 1) HON.out (3 * i) (by omega) _ (getD_mem hi1)
            obtain ⟨x, hx⟩ : ∃ x, x = keyA X0 G i := ⟨_, rfl⟩
            have hat : ((ords X0 G (3 * i + k)).map catK)[i]? = some (catK x) := by
              rw [List.getElem?_map, hx, ← hkey, List.getD_eq_getElem?_getD, List.getElem?_eq_getElem hil]
              rfl
            obtain ⟨gq, cq, u, hvq, hus2, hui, q1, q2, q3⟩ := HQ.out.elem hat
            subst hvq
            rw [← hx] at st hxM
            obtain ⟨nq, hnq⟩ : ∃ nl, nl = ((ords X0 G (3 * i + k)).map catK).length := ⟨_, rfl⟩
            rw [← hnq] at HQ ⊢
            obtain ⟨p, hp⟩ : ∃ p, p = x.1 := ⟨_, rfl⟩
            obtain ⟨sx, hsx⟩ : ∃ p, p = x.2 := ⟨_, rfl⟩
            have hxp : p < n := by rw [hp]; exact hxM.1
            have hxs : ∀ q ∈ sx, q < n' := by rw [hsx]; exact hxM.2.2
            have hsl : sx.length ≤ 40 := by
              have h1 : sx.length ≤ n' := by rw [hsx]; exact asc_len hxM.2.1 hxM.2.2
              omega
            have hui : IR wr B u (natI sx) := by rw [hsx]; exact hui
            have q1 : wr.cell? ⟨gq, i * 3, none⟩ = some (.int .i64 (p : Int)) := by rw [hp]; exact q1
            have hup := (HUp.out wr HBq.out)
            obtain ⟨r, qr, t1, t2⟩ := (HA.out wr hup.1).2 p hxp
            have t2 := t2 k hk3
            obtain ⟨y1, hy1⟩ : ∃ y, y = a.T p k := ⟨_, rfl⟩
            have hyn : y1 < n := by rw [hy1]; exact HT.out p k hxp hk3
            rw [← hy1] at t2
            have HMv := Lib.hid (fun (V : World) (hV : Below wr.heap.size wr V) => specMove_any (.slice (some ad') n' e) aN' n' e' k b u sx _ V hn40' hk3 hxs (fun q hq => HT'.out q k hq hk3) (fun q hq => by
              obtain ⟨r, q', h1, h2⟩ := (HBb.out V (hup.1.trans (hV.mono hup.1.size))).2 q hq
              exact ⟨r, q', h1, h2 k hk3⟩) (by omega) ((hui.below hV).nat (by omega)))
            obtain ⟨Ax, cx, hush⟩ : ∃ A c, u = .slice A sx.length c := row_shape (hui.nat (by omega))
            obtain ⟨lx, hlx⟩ : ∃ z, z = sx.length := ⟨_, rfl⟩
            rw [← hlx] at hush
            subst hush
            obtain ⟨s2, hs2⟩ : ∃ z, z = moveS b sx k := ⟨_, rfl⟩
            have hs2n : ∀ q ∈ s2, q < n' := fun q hq => by
              rw [hs2] at hq
              obtain ⟨z, h1, rfl⟩ := mem_move.1 hq
              exact HT'.out z k (hxs z h1) hk3
            rw [← hs2] at HMv
            have HYe : Hid (G x k = (y1, if a.A y1 then putS s2 0 else s2)) := Lib.hid (by rw [HGe.out.1, hy1, hs2, hp, hsx]; rfl)
            have HS2 : Hid (s2.Pairwise (· < ·) ∧ ∀ q ∈ s2, q < n') := Lib.hid ⟨by rw [hs2]; exact move_asc _ _ _, hs2n⟩
            have HK := Lib.hid (fun (V : World) (hV : Below wr.heap.size wr V) => (by
              obtain ⟨-, x1, -, -⟩ := box2_facts (((hup.2.trans (hV.mono hup.2.size)).block _ (blk_lt HX.out)).trans HX.out)
              obtain ⟨x2, x3, -, -⟩ := box2_facts (((hup.2.trans (hV.mono hup.2.size)).block _ (blk_lt HX'.out)).trans HX'.out)
              exact ⟨x1, (hV.cell (cell_in q1)).trans q1, (hV.cell (cell_in q2)).trans q2, (hV.cell (cell_in t1)).trans t1, (hV.cell (cell_in t2)).trans t2, x2, x3⟩ :
              V.cell? ⟨w.heap.size, 1, none⟩ = some (.slice (some aN) n c') ∧ V.cell? ⟨gq, i * 3, none⟩ = some (.int .i64 (p : Int)) ∧ V.cell? ⟨gq, i * 3 + 1, none⟩ = some (.slice Ax lx cx) ∧ V.cell? (aN.add p) = some (.slice (some r) 3 qr) ∧ V.cell? (r.add k) = some (.int .i64 (y1 : Int)) ∧ V.cell? ⟨w.heap.size + 1, 0, none⟩ = some (.slice (some ad') n' e) ∧ V.cell? ⟨w.heap.size + 1, 1, none⟩ = some (.slice (some aN') n' e')))
            have hbw : Below wr.heap.size wr wr := Below.refl _ _
            have hd : decide ((k : Int) < 3) = true := by simp; omega
            have hinq : i < nq := by rw [hnq, List.length_map]; exact hil
            have HNq := Lib.hid hnq
            have HSt := Lib.hid st
            have HXx := Lib.hid hx
            have v1 : (0 : Int) ≤ (p : Int) := by omega
            have v2 : (p : Int) < (n : Int) := by omega
            have v3 : (0 : Int) ≤ (k : Int) := by omega
            have v4 : (k : Int) < 3 := by omega
            have v5 : (0 : Int) ≤ (i : Int) := by omega
            have v6 : (i : Int) < (nq : Int) := by omega
            clear hil hkey hxM hat hus2 hui q1 q2 q3 st hx hnq hp hsx t1 t2 hy1 hlx hs2 hs2n hup hxs
            go_upto_region 15 with fail
            go_cut [12] from 45 to 65 (fun vp wx => ∃ (bx : Nat) (v2 : Value) (g2 c2 : Nat), vp = .pointer (some ⟨bx, 0, none⟩) ∧ Hid (X6 wr wx bx y1 v2 s2 false) ∧ v2 = .slice (some ⟨g2, 0, none⟩) (natI s2).length c2)
            case first =>
              go_region_held3 (fun V => V.cell? ⟨w.heap.size, 1, none⟩ = some (.slice (some aN) n c') ∧ V.cell? ⟨gq, i * 3, none⟩ = some (.int .i64 (p : Int)) ∧ V.cell? ⟨gq, i * 3 + 1, none⟩ = some (.slice Ax lx cx) ∧ V.cell? (aN.add p) = some (.slice (some r) 3 qr) ∧ V.cell? (r.add k) = some (.int .i64 (y1 : Int)) ∧ V.cell? ⟨w.heap.size + 1, 0, none⟩ = some (.slice (some ad') n' e) ∧ V.cell? ⟨w.heap.size + 1, 1, none⟩ = some (.slice (some aN') n' e')) (first | exact HK.out _ hbw.drew | exact HK.out _ hbw | exact HK.out _ (hbw.alloc hbw.size _).drew | exact HK.out _ (hbw.alloc hbw.size _) | exact HK.out _ (below_set (below_set (below_set hbw hcb _) hcb _) hcb _)) (first | (go_at_call 121; (first | ((with_reducible refine (HMv.out _ hbw.drew).mono ?_); rintro e1 w1 ⟨v2, rfl, hi1, hn1, hb1⟩; have hV0 := hbw.drew; obtain ⟨g1, cc1, rfl, -, -⟩ := ir_some hi1 hn1; have hbw := hbw.drew.trans (hb1.mono hbw.drew.size)) | ((with_reducible refine (HMv.out _ (hbw.alloc hbw.size (.cells #[.int .i64 0, .slice none 0 0, .bool false] 161)).drew).mono ?_); rintro e1 w1 ⟨v2, rfl, hi1, hn1, hb1⟩; have hV0 := (hbw.alloc hbw.size (.cells #[.int .i64 0, .slice none 0 0, .bool false] 161)).drew; obtain ⟨g1, cc1, rfl, -, -⟩ := ir_some hi1 hn1; have kb : Bx3 w1 wr.heap.size (.int .i64 0) (.slice none 0 0) (.bool false) 161 := (hb1.block _ (by simp)).trans (heap_alloc_new wr _); obtain ⟨⟨z0, z1, z2⟩, z3, z4, z5⟩ := kb.facts; have hcb := Nat.le_refl wr.heap.size; have hbw := hV0.trans (hb1.mono hV0.size)))))
              all_goals
                go_wp2_with fail
                go_meet
                first | exact ⟨_, _, _, _, rfl, Lib.hid (x6_new hV0 hi1 hn1 hb1), rfl⟩ | exact ⟨_, _, _, _, rfl, Lib.hid (x6_set hV0 hi1 hn1 hb1 (Nat.le_refl _) kb), rfl⟩
            case rest =>
              obtain ⟨bx, v2', g2, c2', rfl, HX6, rfl⟩ := hcut
              clear hbw HK HMv
              have HQ6 := Lib.hid (HQ.out.below HX6.out.up)
              have HB6 := Lib.hid (HBq.out.trans (HX6.out.up.mono (Nat.le_of_lt HQ.out.one.out.base)))
              have HLw : Hid (B ≤ wr.heap.size) := Lib.hid (Nat.le_of_lt HQ.out.one.out.base)
              have HVr := Lib.hid (fun g e => (HQ.out.one.ord.lt g e).2)
              have hup := HUp.out wc HB6.out
              have ha1 := (HA.out wc hup.1).1 y1 hyn
              obtain ⟨q, hq⟩ : ∃ q, q = a.A y1 := ⟨_, rfl⟩
              rw [← hq] at ha1 HYe
              obtain ⟨s3, hs3⟩ : ∃ z, z = if q then putS s2 0 else s2 := ⟨_, rfl⟩
              rw [← hs3] at HYe
              have HS3 : Hid (s3.Pairwise (· < ·) ∧ ∀ q ∈ s3, q < n') := Lib.hid (by
                rw [hs3]
                split
                · refine ⟨putS_asc HS2.out.1, fun q hq => ?_⟩
                  rcases mem_putS.1 hq with rfl | hq
                  · exact hn0'
                  · exact HS2.out.2 q hq
                · exact HS2.out)
              have HS3e := Lib.hid hs3
              obtain ⟨⟨k0, k1, k2⟩, kf0, kf1, kf2⟩ := HX6.out.box.facts
              obtain ⟨hd0, hd1, -, -⟩ := box2_facts ((hup.2.block _ (blk_lt HX.out)).trans HX.out)
              have v7 : (0 : Int) ≤ (y1 : Int) := by omega
              have v8 : (y1 : Int) < (n : Int) := by omega
              clear hq hs3 hup
              go_upto_if 71 with fail
              go_cut [71] from 72 to 75 (fun _ wx => ∃ (v3 : Value) (g3 c3 : Nat), Hid (X6 wr wx bx y1 v3 s3 false) ∧ v3 = .slice (some ⟨g3, 0, none⟩) s3.length c3)
              case first =>
                cases q with
                | true =>
                  have HPu := Lib.hid (specPut_any wr.heap.size (.slice (some ⟨g2, 0, none⟩) (natI s2).length c2') s2 0 wc HX6.out.set (by simp) (by have := asc_len HS2.out.1 HS2.out.2; omega))
                  rw [show ((0 : Nat) : Int) = 0 from rfl] at HPu
                  go_wp2_with fail
                  go_at_call 123
                  refine HPu.out.mono ?_
                  rintro e4 w4 ⟨v3, rfl, hi3, hn3, ho3, hb3⟩
                  obtain ⟨g3, c3, rfl, -, -⟩ := ir_some hi3 hn3
                  have HX7 := Lib.hid (HX6.out.put hi3 hn3 hb3)
                  have hk3' := HX6.out.kept hb3
                  obtain ⟨⟨m0, m1, m2⟩, mf0, mf1, mf2⟩ := hk3'.box.facts
                  clear hi3 hn3 ho3 hb3 k0 k1 k2 kf0 kf1 kf2 hk3'
                  go_wp2_with fail
                  go_meet
                  have he : s3 = putS s2 0 := HS3e.out
                  rw [he]
                  exact ⟨_, _, _, HX7, by rw [natI_length]⟩
                | false =>
                  go_wp2_with fail
                  go_meet
                  have he : s3 = s2 := HS3e.out
                  rw [he]
                  exact ⟨_, _, _, HX6, by rw [natI_length]⟩
              case rest =>
                obtain ⟨v3, g3, c3, HX7, rfl⟩ := hcut
                obtain ⟨w8, hw8⟩ : ∃ w8, w8 = wc := ⟨_, rfl⟩
                rw [← hw8] at HX7 ⊢
                clear hw8
                have HQ8 := Lib.hid (HQ.out.below HX7.out.up)
                have HB8 := Lib.hid (HBq.out.trans (HX7.out.up.mono HLw.out))
                have HFnd := Lib.hid (fun (V : World) (v : Value) (ss : List Value) (t : Nat) (ht : t ≤ 3 * (i + 1)) (hl : (ords X0 G t).length ≤ 404) (ho : V.ownsRow B 161 3 v ((ords X0 G t).map catK).length (k6C ss ((ords X0 G t).map catK))) (hs : Sets V B ss ((ords X0 G t).map catK)) (hx : IR V wr.heap.size (.slice (some ⟨g3, 0, none⟩) s3.length c3) (natI s3)) =>
                  specFnd_any B B wr.heap.size v (.slice (some ⟨g3, 0, none⟩) s3.length c3) ss ((ords X0 G t).map catK) (y1, s3, false) V ho hs hx (by rw [List.length_map]; omega) (fun z hz => by
                    obtain ⟨z', hz', rfl⟩ := List.mem_map.1 hz
                    have h1 := HKeys.out (i + 1) HON.out t ht z' hz'
                    have h2 := asc_len h1.2.1 h1.2.2
                    show z'.2.length ≤ 2000
                    omega) (by have := asc_len HS3.out.1 HS3.out.2; show s3.length ≤ 2000; omega))
                have hye : catK (G x k) = (y1, s3, false) := by rw [HYe.out]; rfl
                have st1 := HSt.out
                rw [hye] at st1
                obtain ⟨st2, st3, st4⟩ := st1
                have HF1 := Lib.hid (HFnd.out w8 _ ss (3 * i + k) (by omega) (by have := HLk.out; omega) HQ8.out.ord HQ8.out.set HX7.out.set)
                obtain ⟨z, hz⟩ : ∃ z, z = fndV ((ords X0 G (3 * i + k)).map catK) (y1, s3, false) := ⟨_, rfl⟩
                rw [← hz] at HF1 st2 st3
                have HSt2 := Lib.hid st2
                have HSt3' := Lib.hid st3
                have HSt4 := Lib.hid st4
                have HGy : Hid (catK (G x k) = (y1, s3, false)) := Lib.hid hye
                have hnq2 : nq ≤ 404 := by have h1 := HLk.out; have h2 := HNq.out; rw [List.length_map] at h2; omega
                obtain ⟨l3, hl3⟩ : ∃ l, l = s3.length := ⟨_, rfl⟩
                rw [← hl3] at HX7 HF1 HFnd
                obtain ⟨⟨k0, k1, k2⟩, -⟩ := HX7.out.box.facts
                clear hz st2 st3 st4 hye hl3
                go_wp2_with fail
                go_at_call 124
                refine HF1.out.mono ?_
                rintro e4 w9 ⟨rfl, hb9⟩
                have HB9a := Lib.hid (HB8.out.grown (grown_of hb9) (Nat.le_of_lt HQ8.out.one.out.base) (fun g e => by cases e))
                have HQ9a := Lib.hid (HQ8.out.below hb9)
                have HX9a := Lib.hid (HX7.out.kept hb9)
                clear hb9 k0 k1 k2
                by_cases hzz : z < 0
                · have hd : decide (z < 0) = true := by simp [hzz]
                  have HAp := Lib.hid (HSt2.out hzz)
                  have hnq3 : ((ords X0 G (3 * i + k)).map catK).length ≤ 404 := by rw [List.length_map]; have := HLk.out; omega
                  have HI9 : Hid (IR w9 B (.slice (some ⟨g3, 0, none⟩) l3 c3) (natI s3)) := Lib.hid (own_on HX9a.out.set (fun _ _ => rfl) HLw.out)
                  have hbw9 : B ≤ w9.heap.size := Nat.le_of_lt HQ9a.out.one.out.base
                  obtain ⟨⟨k0, k1, k2⟩, -⟩ := HX9a.out.box.facts
                  have HLk9 : Hid ((ords X0 G (3 * i + (k + 1))).length ≤ 400 + (k + 1)) := Lib.hid (by
                    have h1 := ords_len_succ (s0 := X0) (g := G) (3 * i + k)
                    have h2 := HLk.out
                    rw [show 3 * i + (k + 1) = 3 * i + k + 1 by omega]
                    omega)
                  clear hzz
                  go_wp2_with (at_builtin; refine wpList_append_own_at _ rfl (.tmp 80) (.tmp 82) 162 rfl B 161 e0 (.agg #[.int .i64 0, .slice none 0 0, .bool false]) 3 40 Tryz.underlying162 hi6 h60 h61 h62 rfl (by decide) _ _ _ rfl (HQ9a.out.ord.alloc _) ⟨w9.heap.size, 0, none⟩ 1 1 [.int .i64 (y1 : Int), .slice (some ⟨g3, 0, none⟩) l3 c3, .bool false] rfl rfl (newB3 _ _ _ _ _) (by simp [Value.oneCell']) (by unfold maxLen; omega) (by omega) (by simp; omega) ?_)
                  intro v9 W9 hown9 hgrow9 hnil9 hat9
                  obtain ⟨g9, cp9, rfl⟩ := own_succ hown9
                  have HQ9 := Lib.hid ((HQ9a.out.below ((Below.refl _ _).alloc (Nat.le_refl _) (.cells #[.int .i64 (y1 : Int), .slice (some ⟨g3, 0, none⟩) l3 c3, .bool false] 161))).ord_push (x := (y1, s3, false)) (HI9.out.below ((Below.refl _ _).alloc (Nat.le_refl _) _)) (fun g e er => by
                    have h1 := (HX9a.out.set.lt g e).1
                    have h2 := HVr.out g er
                    omega) (by rw [List.length_map]; exact hown9) hgrow9)
                  have HX9 : Hid (Bx3 W9 bx (.int .i64 (y1 : Int)) (.slice (some ⟨g3, 0, none⟩) l3 c3) (.bool false) 161 ∧ IR W9 wr.heap.size (.slice (some ⟨g3, 0, none⟩) l3 c3) (natI s3)) := Lib.hid (by
                    have hgq : gq < wr.heap.size := (HQ.out.ord.lt gq rfl).2
                    have h1 := HX9a.out.kept ((Below.refl w9.heap.size w9).alloc (Nat.le_refl _) (.cells #[.int .i64 (y1 : Int), .slice (some ⟨g3, 0, none⟩) l3 c3, .bool false] 161))
                    refine ⟨h1.box.same (hgrow9.block bx h1.box.lt (fun e => ?_)), h1.set.kept hgrow9 (fun g e er => ?_)⟩
                    · have h2 := h1.low
                      have e2 : gq = bx := (Option.some.inj e).symm
                      omega
                    · have h2 := (h1.set.lt g e).1
                      have e2 : gq = g := Option.some.inj er
                      omega)
                  have HB9 := Lib.hid ((HB9a.out.alloc hbw9 (.cells #[.int .i64 (y1 : Int), .slice (some ⟨g3, 0, none⟩) l3 c3, .bool false] 161)).grown hgrow9 (by simp; omega) (fun g e => (HQ9a.out.ord.lt g e).1))
                  have HMp : Hid ((ords X0 G (3 * i + k)).map catK ++ [(y1, s3, false)] = (ords X0 G (3 * i + (k + 1))).map catK) := Lib.hid (by rw [HAp.out, List.map_append, List.map_cons, List.map_nil, HGy.out])
                  rw [HMp.out] at HQ9
                  obtain ⟨ss9, hss9⟩ : ∃ z, z = ss ++ [Value.slice (some ⟨g3, 0, none⟩) l3 c3] := ⟨_, rfl⟩
                  rw [← hss9] at HQ9
                  clear hown9 hgrow9 hnil9 hat9 k0 k1 k2 hss9 hd
                  have HF2 := Lib.hid (HFnd.out W9 _ ss9 (3 * i + (k + 1)) (by omega) (by have := HLk9.out; omega) HQ9.out.ord HQ9.out.set HX9.out.2)
                  rw [HSt4.out] at HF2
                  obtain ⟨⟨k0, k1, k2⟩, -⟩ := HX9.out.1.facts
                  go_wp2_with fail
                  go_at_call 124
                  refine HF2.out.mono ?_
                  rintro e5 wd ⟨rfl, hbd⟩
                  have HBd := Lib.hid (HB9.out.grown (grown_of hbd) (Nat.le_of_lt HQ9.out.one.out.base) (fun g e => by cases e))
                  have HQd := Lib.hid (HQ9.out.below hbd)
                  have hrl : (rowA X0 G i k).length ≤ 3 := by rw [rowA_length]; omega
                  have hbw2 : B ≤ wd.heap.size := Nat.le_of_lt HQd.out.one.out.base
                  clear hbd k0 k1 k2
                  go_wp2_with (at_builtin; refine wpList_append_own_at _ rfl (.tmp 84) (.tmp 88) 58 rfl B 3 i0 (.int .i64 0) 1 8 Tryz.underlying58 hi hz0 hz1 hz2 rfl (by decide) _ _ _ rfl (HQd.out.one.ord.alloc _) ⟨wd.heap.size, 0, none⟩ 1 1 [.int .i64 ((toA X0 G i k : Nat) : Int)] rfl rfl (cell_one_new _ _ _) (by simp [Value.oneCell']) (by unfold maxLen; omega) (by omega) (by simp; omega) ?_)
                  intro v5 wf hown2 hgrow2 hnil2 hat2
                  have HQf := Lib.hid ((HQd.out.below ((Below.refl _ _).alloc (Nat.le_refl _) (.cells #[.int .i64 ((toA X0 G i k : Nat) : Int)] 3))).row_push hown2 hgrow2 (by simpa using hat2))
                  have HBf := Lib.hid ((HBd.out.alloc hbw2 (.cells #[.int .i64 ((toA X0 G i k : Nat) : Int)] 3)).grown hgrow2 (by simp; omega) (fun g e => (HQd.out.one.ord.lt g e).1))
                  rw [← rowA_succ] at HQf
                  clear hown2 hgrow2 hnil2 hat2
                  go_wp2_with fail
                  go_roundw
                  case rel => exact ⟨k + 1, ss9, by go_num, by omega, HLk9, HBf, HQf⟩
                  case measure => simp [intOf]; omega
                · have hd : decide (z < 0) = false := by simp; omega
                  have HAp := Lib.hid (HSt3'.out (by omega))
                  have HLk9 : Hid ((ords X0 G (3 * i + (k + 1))).length ≤ 400 + (k + 1)) := Lib.hid (by rw [HAp.out]; have h2 := HLk.out; omega)
                  have HQ9 := Lib.hid HQ9a.out
                  rw [← HAp.out] at HQ9
                  have HB9 := Lib.hid HB9a.out
                  have HX9 := Lib.hid (And.intro HX9a.out.box HX9a.out.set)
                  obtain ⟨W9, hW9⟩ : ∃ W, W = w9 := ⟨_, rfl⟩
                  rw [← hW9] at HQ9 HB9 HX9 ⊢
                  obtain ⟨ss9, hss9⟩ : ∃ z, z = ss := ⟨_, rfl⟩
                  rw [← hss9] at HQ9
                  clear hzz hW9 hss9
                  have HF2 := Lib.hid (HFnd.out W9 _ ss9 (3 * i + (k + 1)) (by omega) (by have := HLk9.out; omega) HQ9.out.ord HQ9.out.set HX9.out.2)
                  rw [HSt4.out] at HF2
                  obtain ⟨⟨k0, k1, k2⟩, -⟩ := HX9.out.1.facts
                  go_wp2_with fail
                  go_at_call 124
                  refine HF2.out.mono ?_
                  rintro e5 wd ⟨rfl, hbd⟩
                  have HBd := Lib.hid (HB9.out.grown (grown_of hbd) (Nat.le_of_lt HQ9.out.one.out.base) (fun g e => by cases e))
                  have HQd := Lib.hid (HQ9.out.below hbd)
                  have hrl : (rowA X0 G i k).length ≤ 3 := by rw [rowA_length]; omega
                  have hbw2 : B ≤ wd.heap.size := Nat.le_of_lt HQd.out.one.out.base
                  clear hbd k0 k1 k2
                  go_wp2_with (at_builtin; refine wpList_append_own_at _ rfl (.tmp 84) (.tmp 88) 58 rfl B 3 i0 (.int .i64 0) 1 8 Tryz.underlying58 hi hz0 hz1 hz2 rfl (by decide) _ _ _ rfl (HQd.out.one.ord.alloc _) ⟨wd.heap.size, 0, none⟩ 1 1 [.int .i64 ((toA X0 G i k : Nat) : Int)] rfl rfl (cell_one_new _ _ _) (by simp [Value.oneCell']) (by unfold maxLen; omega) (by omega) (by simp; omega) ?_)
                  intro v5 wf hown2 hgrow2 hnil2 hat2
                  have HQf := Lib.hid ((HQd.out.below ((Below.refl _ _).alloc (Nat.le_refl _) (.cells #[.int .i64 ((toA X0 G i k : Nat) : Int)] 3))).row_push hown2 hgrow2 (by simpa using hat2))
                  have HBf := Lib.hid ((HBd.out.alloc hbw2 (.cells #[.int .i64 ((toA X0 G i k : Nat) : Int)] 3)).grown hgrow2 (by simp; omega) (fun g e => (HQd.out.one.ord.lt g e).1))
                  rw [← rowA_succ] at HQf
                  clear hown2 hgrow2 hnil2 hat2
                  go_wp2_with fail
                  go_roundw
                  case rel => exact ⟨k + 1, ss9, by go_num, by omega, HLk9, HBf, HQf⟩
                  case measure => simp [intOf]; omega
          · obtain rfl : k = 3 := by omega
            obtain ⟨hil, hkey⟩ := keyA_at (s0 := X0) (g := G) (t := 3 * i + 3) hi1 (by omega)
            have hxM : okC n n' (keyA X0 G i) := HKeys.out (i + 1) HON.out (3 * i) (by omega) _ (getD_mem hi1)
            obtain ⟨x, hx⟩ : ∃ x, x = keyA X0 G i := ⟨_, rfl⟩
            have hat : ((ords X0 G (3 * i + 3)).map catK)[i]? = some (catK x) := by
              rw [List.getElem?_map, hx, ← hkey, List.getD_eq_getElem?_getD, List.getElem?_eq_getElem hil]
              rfl
            obtain ⟨gq, cq, u, hvq, hus2, hui, q1, q2, q3⟩ := HQ.out.elem hat
            subst hvq
            rw [← hx] at hxM
            obtain ⟨nq, hnq⟩ : ∃ nl, nl = ((ords X0 G (3 * i + 3)).map catK).length := ⟨_, rfl⟩
            rw [← hnq] at HQ ⊢
            obtain ⟨sx, hsx⟩ : ∃ p, p = x.2 := ⟨_, rfl⟩
            have hxs : ∀ q ∈ sx, q < n' := by rw [hsx]; exact hxM.2.2
            have hsl : sx.length ≤ 40 := by
              have h1 : sx.length ≤ n' := by rw [hsx]; exact asc_len hxM.2.1 hxM.2.2
              omega
            have hui : IR wr B u (natI sx) := by rw [hsx]; exact hui
            obtain ⟨-, Ar, cr, rfl⟩ := (HQ.out.one.ord.row (by rw [rowA_length]; omega)).row.ints_shape
            have hup := (HUp.out wr HBq.out)
            obtain ⟨Ax, cx, hush⟩ : ∃ A c, u = .slice A sx.length c := row_shape (hui.nat (by omega))
            obtain ⟨lx, hlx⟩ : ∃ z, z = sx.length := ⟨_, rfl⟩
            rw [← hlx] at hush
            subst hush
            have HAny := Lib.hid (specAny_any ad' n' e (.slice (some aN') n' e') b (.slice Ax lx cx) sx _ wr.drew (HBb.out wr.drew hup.1.drew).1 hxs (by omega) ((hui.below (Below.refl _ _).drew).nat (by omega)))
            obtain ⟨bq, hbq⟩ : ∃ z, z = anyS b sx := ⟨_, rfl⟩
            rw [← hbq] at HAny
            have HBq' : Hid (bq = anyS b (keyA X0 G i).2) := Lib.hid (by rw [hbq, hsx, hx])
            have hinq : i < nq := by rw [hnq, List.length_map]; exact hil
            have HNq := Lib.hid (show nq = (ords X0 G (3 * i + 3)).length by rw [hnq, List.length_map])
            have hnq4 : nq ≤ 404 := by have h1 := HLk.out; have h2 := HNq.out; omega
            have hdk : decide (((3 : Nat) : Int) < 3) = false := by simp
            obtain ⟨hd0, hd1, -, -⟩ := box2_facts ((hup.2.block _ (blk_lt HX'.out)).trans HX'.out)
            have hyc := box2_facts ((hup.2.block _ (blk_lt HY.out)).trans HY.out)
            clear hil hkey hxM hat hus2 hui q1 q3 hx hnq hsx hlx hbq hup hxs
            by_cases hbig : 400 < nq
            · have hbg : decide ((nq : Int) > 400) = true := by simp; omega
              obtain ⟨y0, ok0⟩ := srchR_no HYy.out (by
                rw [← HGe.out.1, ← HGe.out.2]
                exact fun N hN => Ends.not_big (M := 400) (i := i) (fun j hj => HON.out j (by omega)) (by rw [show 3 * (i + 1) = 3 * i + 3 by omega, ← HNq.out]; exact hbig) hN)
              subst y0
              subst ok0
              obtain ⟨c0, c1, k0, k1⟩ := hyc
              obtain ⟨hcl, hsz, hot, hBl⟩ := put2 (k := .slice none 0 0) (l := .slice none 0 0) c0 c1
              obtain ⟨hr0', hr1'⟩ := hcl
              have HOt := Lib.hid (hBl _ _ (HUp.out wr HBq.out).1 (by omega))
              clear hsz hot hBl hd0 hd1 q2
              go_wp2_with fail
              refine bodyPost_ret (v := .tuple #[.agg #[.slice none 0 0, .slice none 0 0], .bool false]) (by simp [results, Tryz.results71, go_sem, hr0', hr1']) rfl ?_
              exact ⟨_, _, rfl, DfaO.empty _ _, HOt.out⟩
            · have hbg : decide ((nq : Int) > 400) = false := by simp; omega
              have HBig := Lib.hid (show nq ≤ 400 by omega)
              have hbl : accs.length ≤ 2000 := by rw [HAl.out]; omega
              have hbwr : B ≤ wr.heap.size := Nat.le_of_lt HQ.out.one.out.base
              have HQd := Lib.hid (HQ.out.below (Below.refl _ _).drew)
              obtain ⟨e0', -, e2', -⟩ := box2_facts HQ.out.one.out.box
              obtain ⟨e4', -, e6', -⟩ := box2_facts HQd.out.one.out.box
              obtain ⟨Aa, qa, hva⟩ := (RowO.of_owns HQ.out.one.out.acc (by omega)).row.shape
              rw [bools_length] at hva
              subst hva
              have v5 : (0 : Int) ≤ (i : Int) := by omega
              have v6 : (i : Int) < (nq : Int) := by omega
              clear hyc hbig
              go_upto_region 23 with fail
              go_cut [] from 94 to 105 (fun wx => ∃ va3, Hid (S6r B wx bo va3 vn2 (accs ++ [bq]) us rss K (.slice (some ⟨gq, 0, none⟩) nq cq) ss ((ords X0 G (3 * i + 3)).map catK) (.slice Ar (rowA X0 G i 3).length cr) (rowA X0 G i 3)) ∧ Hid (Below B w2 wx))
              case first =>
                go_region_law (first
                  | (refine step_call rfl _ _ _ rfl enters_any6 #[.agg #[.slice (some ad') n' e, .slice (some aN') n' e'], .slice Ax lx cx] (by simp [Act.eval]) HAny.out ?_; rintro e w1 ⟨rfl, hb1⟩; have HO1 := Lib.hid (HQd.out.below hb1); have HA1 := Lib.hid (HBq.out.drew.trans (hb1.mono (by show B ≤ wr.heap.size; omega))); obtain ⟨l0, -, l2, -⟩ := box2_facts HO1.out.one.out.box; have HO1a := Lib.hid (HO1.out.below ((Below.refl _ _).alloc (Nat.le_refl _) (.cells #[.bool bq] 4))); obtain ⟨l4, -, l6, -⟩ := box2_facts HO1a.out.one.out.box; have hbw1 : B ≤ w1.heap.size := Nat.le_of_lt HO1.out.one.out.base; clear hb1; refine ⟨_, rfl, ?_⟩)
                  | (refine step_append_own_at rfl (.tmp 95) (.tmp 103) 28 rfl B 4 b0 (.bool false) 1 1 Tryz.underlying28 hbi hb0 hb1 hb2 rfl (by decide) _ _ _ rfl (HO1.out.one.out.acc.alloc _) ⟨w1.heap.size, 0, none⟩ 1 1 [.bool bq] rfl rfl (cell_one_new w1 _ _) (by simp [Value.oneCell']) (by unfold maxLen; omega) (by omega) (by simp; omega) ?_; intro v' w9 hown' hgrow hat; obtain ⟨g', cap', rfl⟩ := own_succ hown'; have HB9 := Lib.hid (((HA1.out.alloc hbw1 (.cells #[.bool bq] 4)).grown hgrow (by simp; omega) (fun g e => (HO1.out.one.out.acc.lt g e).1)).setCell (p := ⟨bo, 0, none⟩) (HQ.out.one.out.low) (.slice (some ⟨g', 0, none⟩) (accs.length + 1) cap')); obtain ⟨z1, z2, HQ9⟩ := HO1a.out.acc_push hown' hgrow; obtain ⟨z0, z1⟩ := z1; have HQ9 := Lib.hid HQ9))
                all_goals
                  clear hown' hgrow hat z1 z2 l0 l2 l4 l6 e0' e2' e4' e6'
                  go_wp2_with fail
                  go_meet
                  exact ⟨_, HQ9, HB9⟩
              case rest =>
                obtain ⟨va3, HQ9, HB9⟩ := hcut
                have HA1 : Hid (accs ++ [bq] = (List.range (i + 1)).map fun j => anyS b (keyA X0 G j).2) := Lib.hid (by rw [List.range_succ, List.map_append, HAc.out.1, HBq'.out]; rfl)
                rw [HA1.out] at HQ9
                clear HA1 e0' e2' e4' e6'
                obtain ⟨e1, f1⟩ := (⟨(box2_facts HQ9.out.one.out.box).2.1, (box2_facts HQ9.out.one.out.box).2.2.2⟩ : wc.cell? ⟨bo, 1, none⟩ = some vn2 ∧ wc.frozen? ⟨bo, 1, none⟩ = false)
                have hbw5 : B ≤ wc.heap.size := Nat.le_of_lt HQ9.out.one.out.base
                go_wp2_with (at_builtin; refine wpList_append_own_at _ rfl (.tmp 107) (.tmp 109) 29 rfl B 58 r0 (.slice none 0 0) 1 24 Tryz.underlying29 hri hr0 hr1 hr2 rfl (by decide) _ _ _ rfl (HQ9.out.one.out.nxt.alloc _) ⟨wc.heap.size, 0, none⟩ 1 1 [.slice Ar (rowA X0 G i 3).length cr] rfl rfl (cell_one_new _ _ _) (by simp [Value.oneCell']) (by unfold maxLen; omega) (by omega) (by simp; omega) ?_)
                intro v2 wa hown2 hgrow2 hnil2 hat2
                obtain ⟨gn, capn, rfl⟩ := own_succ hown2
                have HQa := HQ9.out.below ((Below.refl _ _).alloc (Nat.le_refl _) (.cells #[.slice Ar (rowA X0 G i 3).length cr] 58))
                obtain ⟨⟨z0, z1⟩, z2, HQb⟩ := HQa.nxt_push (vn' := .slice (some ⟨gn, 0, none⟩) (i + 1) capn) (by rw [rowA_length]; omega) (by rw [hus]; exact hown2) hgrow2
                have HBb := Lib.hid (((HB9.out.alloc hbw5 (.cells #[.slice Ar (rowA X0 G i 3).length cr] 58)).grown hgrow2 (by simp; omega) (fun g e => (HQ9.out.one.out.nxt.lt g e).1)).setCell (p := ⟨bo, 1, none⟩) (HQ9.out.one.out.low) (.slice (some ⟨gn, 0, none⟩) (i + 1) capn))
                have HQb := Lib.hid HQb
                have HR1 : Hid (rss ++ [ints (rowA X0 G i 3)] = (List.range (i + 1)).map fun j => ints (rowA X0 G j 3)) := Lib.hid (by rw [List.range_succ, List.map_append, HAc.out.2]; rfl)
                have hul : (us ++ [Value.slice Ar (rowA X0 G i 3).length cr]).length = i + 1 := by simp [hus]
                rw [HR1.out] at HQb
                have HUl := Lib.hid hul
                clear hown2 hgrow2 hnil2 hat2 HQa hul
                go_wp2_with fail
                go_roundw
                case rel => exact ⟨i + 1, _, _, us ++ [Value.slice Ar (rowA X0 G i 3).length cr], _, ss, by go_num, by have := HBig.out; omega, HUl.out, Lib.hid (by rw [show 3 * (i + 1) = 3 * i + 3 by omega, ← HNq.out]; exact HBig.out), HBb, HON, by rw [show 3 * (i + 1) = 3 * i + 3 by omega]; exact HQb⟩
                case measure => simp [intOf]; have := HBig.out; omega
      · have hE : Ends X0 G i := ⟨hon.out, by rw [← hnl2]; omega⟩
        have hEl := hE.length
        have HE := Lib.hid hE
        obtain ⟨f1, f2⟩ := ends_fieldsA hE (fun x => anyS b x.2)
        have hwf := hE.wf (fun x => anyS b x.2)
        have HD : Hid (DfaO wr (fun g => B ≤ g ∧ g < wr.heap.size) va2 vn2 (fieldsOf (found X0 G (fun x => anyS b x.2) i))) := Lib.hid (ho.out.out.whole (by rw [HAc.out.1]; exact f1) (by rw [HAc.out.2]; exact f2) (by have := HAl.out; omega) (by omega))
        have hbl : accs.length ≤ 2000 := by rw [HAl.out]; omega
        obtain ⟨A1, q1, hva⟩ := (RowO.of_owns ho.out.out.acc (by omega)).row.shape
        obtain ⟨A2, q2, hvn2⟩ := (RowO.of_owns ho.out.out.nxt (by omega)).row.shape
        rw [bools_length] at hva
        rw [hus] at hvn2
        subst hva
        subst hvn2
        have HFit := Lib.hid (specFits_any _ _ (found X0 G (fun x => anyS b x.2) i) _ wr hwf (by show i ≤ 2000; omega) HD.out.dfa)
        obtain ⟨e0', e1', -, -⟩ := box2_facts ho.out.out.box
        have HBW := Lib.hid (HUp.out wr HBr.out)
        have hzw := HBW.out.1.size
        have hd : decide ((i : Int) < (nl : Int)) = false := by simp; omega
        clear hE hEl f1 f2 hwf hnl2 hnl
        go_wp2_with fail
        go_at_call 125
        refine HFit.out.mono ?_
        rintro e4 w3 ⟨m, m1, m2, hcd⟩
        have hy := HYy.out
        rw [← HGe.out.1, ← HGe.out.2] at hy
        obtain ⟨rfl, rfl⟩ := srchR_yes hy hin HE.out m1 m2
        obtain ⟨C1, p1, C2, p2, rfl, hoo, hb3⟩ := hcd.shape
        obtain ⟨x1, hx1⟩ : ∃ x, x = (fitD m).acc.length := ⟨_, rfl⟩
        obtain ⟨x2, hx2⟩ : ∃ x, x = (fitD m).nxt.length := ⟨_, rfl⟩
        obtain ⟨ok, hok⟩ : ∃ b, b = decide (m.n ≤ 40) := ⟨_, rfl⟩
        rw [← hx1, ← hx2] at hoo ⊢
        rw [← hok]
        have HOk := Lib.hid hok
        have HO3 := Lib.hid hoo
        have HB3 := Lib.hid (HBW.out.2.trans (hb3.mono HBW.out.2.size))
        have hz2 := HBW.out.2.size
        have hz3 := hb3.size
        have hyl := blk_lt HY.out
        obtain ⟨W4, hW4⟩ : ∃ W4, W4 = w3.alloc (.cells #[.slice C1 x1 p1, .slice C2 x2 p2] 31) := ⟨_, rfl⟩
        have HX4 : Hid (W4.heap[w3.heap.size]? = some (.cells #[.slice C1 x1 p1, .slice C2 x2 p2] 31 (0, 0)) ∧ Below w3.heap.size w3 W4) := Lib.hid (by
          rw [hW4]
          exact ⟨heap_alloc_new w3 _, (Below.refl _ _).alloc (Nat.le_refl _) _⟩)
        obtain ⟨g0, g1, -, -⟩ := box2_facts HX4.out.1
        obtain ⟨c0, c1, k0, k1⟩ := box2_facts ((HX4.out.2.block _ (by omega)).trans ((HB3.out.block _ hyl).trans HY.out))
        obtain ⟨hcl, hsz, hot, hBl⟩ := put2 (k := .slice C1 x1 p1) (l := .slice C2 x2 p2) c0 c1
        obtain ⟨hr0', hr1'⟩ := hcl
        have HOt := Lib.hid (And.intro hsz (And.intro hot hBl))
        have HW4 := Lib.hid hW4
        rw [hW4] at g0 g1 c0 c1 k0 k1 hr0' hr1'
        clear hsz hot hBl hoo hb3 hcd hx1 hx2 m1 m2 hW4 hok e0' e1' hd hy
        go_wp2_with fail
        refine bodyPost_ret (v := .tuple #[.agg #[.slice C1 x1 p1, .slice C2 x2 p2], .bool ok]) (by simp [results, Tryz.results71, go_sem, hr0', hr1']) rfl ?_
        rw [← HW4.out]
        have h0 := HB0.out.size
        have hz4 := HX4.out.2.size
        rw [← HOk.out]
        exact ⟨_, _, rfl, HO3.out.mono (fun g hg => (HOt.out.2.1 g (by have := hg.1; omega)).trans (HX4.out.2.block g hg.2)) (fun g hg => ⟨by have := hg.1; omega, by rw [HOt.out.1]; have := hg.2; omega⟩) (by rw [HOt.out.1]; exact hz4), HOt.out.2.2 _ _ (HB0.out.trans ((HB3.out.trans (HX4.out.2.mono HB3.out.size)).mono h0)) (by omega)⟩
end Go.Proofs.YthmfncklepkddaaGreatDoor

/-
  What spec.ConcatDfa answers.
-/
namespace Go.Proofs.YthmfncklepkddaaGreatDoor
open Go.RowKit

set_option maxRecDepth 100000 in
set_option maxHeartbeats 6400000 in
theorem specCat_any (va vn va' vn' : Value) (d d' : Dx) (S S' : Nat → Prop) (y : Dx) (ok : Bool) (w : World) (h : DfaV w S va vn d) (h' : DfaV w S' va' vn' d') (hy : catR d d' y ok) :
    Calls Tryz.prog 71 #[.agg #[va, vn], .agg #[va', vn']] w (CopyDB y ok w) := by
  obtain ⟨W0, hW0⟩ : ∃ W0, W0 = ((w.alloc (.cells #[va, vn] 31)).alloc (.cells #[va', vn'] 31)).alloc (.cells #[.slice none 0 0, .slice none 0 0] 31) := ⟨_, rfl⟩
  have h3 := three_box' w (.cells #[va, vn] 31) (.cells #[va', vn'] 31) (.cells #[.slice none 0 0, .slice none 0 0] 31)
  rw [← hW0] at h3
  have HB0 : Hid (Below w.heap.size w W0) := Lib.hid h3.2.2.2
  have HX := Lib.hid h3.1
  have HX' := Lib.hid h3.2.1
  have HY := Lib.hid h3.2.2.1
  clear h3
  have HV := Lib.hid (specValidD_any va vn d S W0 (h.kept HB0.out))
  have HV' := Lib.hid (fun (V : World) (hV : Below w.heap.size w V) => specValidD_any va' vn' d' S' V (h'.kept hV))
  obtain ⟨⟨A, c, rfl⟩, A', c', rfl⟩ := h.shape
  obtain ⟨⟨B, e, rfl⟩, B', e', rfl⟩ := h'.shape
  obtain ⟨hc0, hc1, -, -⟩ := box2_facts HX.out
  obtain ⟨hd0, hd1, -, -⟩ := box2_facts HX'.out
  rw [hW0] at hc0 hc1 hd0 hd1
  cases hv : validD d with
  | false =>
    rw [hv] at HV
    unfold catR at hy
    rw [if_neg (by rw [hv]; simp)] at hy
    obtain ⟨rfl, rfl⟩ := hy
    clear h h' hv
    go_enter Tryz.func71, Tryz.ntmps71
    go_wp2_with fail
    go_at_call 120
    rw [← hW0]
    refine HV.out.mono ?_
    rintro e1 w1 ⟨rfl, hb1⟩
    obtain ⟨c0, c1, k0, k1⟩ := box2_facts ((hb1.block _ (blk_lt HY.out)).trans HY.out)
    obtain ⟨hcl, hsz, hot, hBl⟩ := put2 (k := .slice none 0 0) (l := .slice none 0 0) c0 c1
    obtain ⟨hr0, hr1⟩ := hcl
    have HOt := Lib.hid hBl
    have HB1 := Lib.hid hb1
    clear hc0 hc1 hd0 hd1 hW0 hb1 hsz hot hBl
    go_wp2_with fail
    refine bodyPost_ret (v := .tuple #[.agg #[.slice none 0 0, .slice none 0 0], .bool false]) (by simp [results, Tryz.results71, go_sem, hr0, hr1]) rfl ?_
    exact ⟨_, _, rfl, DfaO.empty _ _, HOt.out _ _ (HB0.out.trans (HB1.out.mono HB0.out.size)) (by omega)⟩
  | true =>
  rw [hv] at HV
  cases hv' : validD d' with
  | false =>
    rw [hv'] at HV'
    unfold catR at hy
    rw [if_neg (by rw [hv']; simp)] at hy
    obtain ⟨rfl, rfl⟩ := hy
    clear h h' hv hv'
    go_enter Tryz.func71, Tryz.ntmps71
    go_wp2_with fail
    go_at_call 120
    rw [← hW0]
    refine HV.out.mono ?_
    rintro e1 w1 ⟨rfl, hb1⟩
    have HB1 := Lib.hid hb1
    clear hc0 hc1 hd0 hd1 hW0 hb1
    obtain ⟨hd0, hd1, -, -⟩ := box2_facts ((HB1.out.block _ (blk_lt HX'.out)).trans HX'.out)
    go_wp2_with fail
    go_at_call 120
    refine (HV'.out w1 (HB0.out.trans (HB1.out.mono HB0.out.size))).mono ?_
    rintro e2 w2 ⟨rfl, hb2⟩
    have HB2 := Lib.hid (HB1.out.trans (hb2.mono HB1.out.size))
    obtain ⟨c0, c1, k0, k1⟩ := box2_facts ((HB2.out.block _ (blk_lt HY.out)).trans HY.out)
    obtain ⟨hcl, hsz, hot, hBl⟩ := put2 (k := .slice none 0 0) (l := .slice none 0 0) c0 c1
    obtain ⟨hr0, hr1⟩ := hcl
    have HOt := Lib.hid hBl
    clear hd0 hd1 hb2 hsz hot hBl
    go_wp2_with fail
    refine bodyPost_ret (v := .tuple #[.agg #[.slice none 0 0, .slice none 0 0], .bool false]) (by simp [results, Tryz.results71, go_sem, hr0, hr1]) rfl ?_
    exact ⟨_, _, rfl, DfaO.empty _ _, HOt.out _ _ (HB0.out.trans (HB2.out.mono HB0.out.size)) (by omega)⟩
  | true =>
    rw [hv'] at HV'
    unfold catR at hy
    rw [if_pos ⟨hv, hv'⟩] at hy
    obtain ⟨hw, hn40, hnn, hl, ad, cc, aN, cN, hva, hvn, hA, hT⟩ := h.au hv
    obtain ⟨hw', hn40', hnn', hl', ad', cc', aN', cN', hva', hvn', hA', hT'⟩ := h'.au hv'
    injection hva with e1 e2 e3
    injection hvn with e4 e5 e6
    injection hva' with e1' e2' e3'
    injection hvn' with e4' e5' e6'
    subst e1
    subst e3
    subst e4
    subst e6
    subst e1'
    subst e3'
    subst e4'
    subst e6'
    rw [e5] at h
    rw [e5'] at h'
    rw [e5, e5']
    exact specCatV_any ad d.acc.length c aN c' (auD d) ad' d'.acc.length e aN' e' (auD d') d d' S S' y ok w h h' hv hv' ⟨hA, hT⟩ ⟨hA', hT'⟩ hw hw' hnn hnn' (by omega) (by omega) hy
end Go.Proofs.YthmfncklepkddaaGreatDoor
