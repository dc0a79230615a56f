/-
  What spec.l6Any and spec.l6Move answer.
-/
import Derived.Test.YthmfncklepkddabDoorPutS
import Derived.Test.YthmfncklepkddabDoorUp
import Derived.Deep.RegionHeld3
namespace Go.Proofs.YthmfncklepkddabDoor
open Go.RowKit

def sliceLen : Value → Nat
  | .slice _ n _ => n
  | _ => 0
theorem asc_len {s : List Nat} {n : Nat} (h : s.Pairwise (· < ·)) (hn : ∀ q ∈ s, q < n) : s.length ≤ n :=
  nodup_len n s (h.imp (fun h => Nat.ne_of_lt h)) hn
theorem row_at {w : World} {S : Nat → Prop} {v : Value} {s : List Nat} (h : RowV w S v (ints (natI s))) {j : Nat} (hj : j < s.length) : ∃ ad c, v = .slice (some ad) s.length c ∧ w.cell? (ad.add j) = some (.int .i64 ((s[j] : Nat) : Int)) := by
  obtain ⟨hl, A, c, rfl, hc⟩ := h
  obtain ⟨ad, rfl, -, hce⟩ := hc j (.int .i64 ((s[j] : Nat) : Int)) (by simp [ints, natI, hj])
  exact ⟨ad, c, by simp [ints, natI], hce⟩
theorem row_shape {w : World} {S : Nat → Prop} {v : Value} {s : List Nat} (h : RowV w S v (ints (natI s))) : ∃ A c, v = .slice A s.length c := by
  obtain ⟨hl, A, c, rfl, hc⟩ := h
  exact ⟨A, c, by simp [ints, natI]⟩
theorem IR.rowV {w : World} {B : Nat} {v : Value} {s : List Nat} (h : IR w B v (natI s)) (hl : s.length ≤ 9223372036854775807) : RowV w (fun g => v.ownBlock = some g) v (ints (natI s)) := (h.row (by rw [natI_length]; exact hl)).row
theorem IR.nat {w : World} {B : Nat} {v : Value} {s : List Nat} (h : IR w B v (natI s)) (hl : s.length ≤ 9223372036854775807) : RowV w (fun g => v.ownBlock = some g) v (ints (natI s)) := h.rowV hl

set_option maxRecDepth 100000 in
set_option maxHeartbeats 3200000 in
theorem specAny_any (ad : Addr) (n c : Nat) (vn : Value) (a : Au) (v : Value) (s : List Nat) (S : Nat → Prop) (w : World) (hA : ∀ q, q < n → w.cell? (ad.add q) = some (.bool (a.A q))) (hs : ∀ q ∈ s, q < n) (hl : s.length ≤ 2000) (h : RowV w S v (ints (natI s))) :
    Calls Tryd.prog 22 #[.agg #[.slice (some ad) n c, vn], v] w fun e w' => e = .returned (.bool (anyS a s)) ∧ Below w.heap.size w w' := by
  obtain ⟨A, cs, rfl⟩ := row_shape h
  obtain ⟨W0, hW0⟩ : ∃ W0, W0 = w.alloc (.cells #[.slice (some ad) n c, vn] 28) := ⟨_, rfl⟩
  have HB0 : Hid (Below w.heap.size w W0) := Lib.hid (by rw [hW0]; exact (Below.refl _ _).alloc (Nat.le_refl _) _)
  have HX : Hid (W0.heap[w.heap.size]? = some (.cells #[.slice (some ad) n c, vn] 28 (0, 0))) := Lib.hid (by rw [hW0]; exact heap_alloc_new w _)
  have HA := Lib.hid (fun (V : World) (hV : Below W0.heap.size W0 V) q (hq : q < n) => (HB0.out.trans (hV.mono HB0.out.size)).cell (cell_in (hA q hq)) |>.trans (hA q hq))
  have HR := Lib.hid (fun j (hj : j < s.length) => row_at h hj)
  have HK := Lib.hid (fun (V : World) (hV : Below W0.heap.size W0 V) {p : Addr} {u : Value} (hc : w.cell? p = some u) => ((HB0.out.trans (hV.mono HB0.out.size)).cell (cell_in hc)).trans hc)
  have HS := Lib.hid hs
  clear hA h hs
  go_enter Tryd.func22, Tryd.ntmps22
  go_upto_region 1 with fail
  rw [← hW0]
  clear hW0
  go_wp2_with fail
  go_loopw [5] (fun iv wr => ∃ i : Nat, iv = .int .i64 i ∧ i ≤ s.length ∧ Hid (∀ j (hj : j < s.length), j < i → a.A s[j] = false) ∧ Hid (Below W0.heap.size W0 wr)) (fun iv _ => s.length - (intOf iv).toNat)
  case atStart => exact ⟨0, rfl, Nat.zero_le _, Lib.hid (fun j _ hj => absurd hj (Nat.not_lt_zero _)), Lib.hid (Below.refl _ _)⟩
  case round =>
    obtain ⟨i, rfl, hil, HL, HBr⟩ := hrel
    by_cases hlt : i < s.length
    · have hd : decide ((i : Int) < (s.length : Int)) = true := by simp; omega
      obtain ⟨ad2, c2, hv, hc⟩ := HR.out i hlt
      injection hv with hv1 _ hv3
      subst hv1
      have hc2 := HK.out wr HBr.out hc
      obtain ⟨x, hx⟩ : ∃ x, x = s[i] := ⟨_, rfl⟩
      have hxn : x < n := by rw [hx]; exact HS.out _ (List.getElem_mem hlt)
      have hca := HA.out wr HBr.out x hxn
      obtain ⟨c0, -, -, -⟩ := box2_facts ((HBr.out.block _ (blk_lt HX.out)).trans HX.out)
      rw [← hx] at hc2
      obtain ⟨b, hb⟩ : ∃ b, b = a.A x := ⟨_, rfl⟩
      rw [← hb] at hca
      have HXe := Lib.hid hx
      have HBe := Lib.hid hb
      have s1 : (0 : Int) ≤ (i : Int) := by omega
      have s2 : (i : Int) < (s.length : Int) := by omega
      have s3 : (0 : Int) ≤ (x : Int) := by omega
      have s4 : (x : Int) < (n : Int) := by omega
      clear hc hx hb hv3
      go_wp2_with fail
      go_quiet (fail)
      clear hc2 hca c0
      cases b with
      | true =>
        have HE : Hid (anyS a s = true) := Lib.hid (anyS_iff.2 ⟨x, by rw [HXe.out]; exact List.getElem_mem hlt, HBe.out.symm⟩)
        go_wp2_with fail
        go_ret
        exact ⟨congrArg (fun b : Bool => Ending.returned (.bool b)) HE.out.symm, below_draws (HB0.out.trans (HBr.out.mono HB0.out.size)) _⟩
      | false =>
        have HL2 : Hid (∀ j (hj : j < s.length), j < i + 1 → a.A s[j] = false) := Lib.hid (fun j hj hji => by
          rcases Nat.lt_or_eq_of_le (Nat.le_of_lt_succ hji) with h | h
          · exact HL.out j hj h
          · subst h; rw [← HXe.out]; exact HBe.out.symm)
        have HB2 := Lib.hid (fun k => below_draws HBr.out k)
        go_wp2_with fail
        go_roundw
        case rel => exact ⟨i + 1, by go_num, by omega, HL2, Lib.hid (HB2.out _)⟩
        case measure => simp [intOf]; omega
    · have HE : Hid (anyS a s = false) := Lib.hid (by
        cases h : anyS a s with
        | false => rfl
        | true =>
          obtain ⟨q, hq, h2⟩ := anyS_iff.1 h
          obtain ⟨j, hj, rfl⟩ := List.getElem_of_mem hq
          have := HL.out j hj (by omega)
          rw [this] at h2
          cases h2)
      have hd : decide ((i : Int) < (s.length : Int)) = false := by simp; omega
      go_wp2_with fail
      go_ret
      exact ⟨congrArg (fun b : Bool => Ending.returned (.bool b)) HE.out.symm, HB0.out.trans (HBr.out.mono HB0.out.size)⟩

/-- What l6Move answers: a row of its own. -/
def MovPost (l : List Int) (w : World) (e : Ending) (w' : World) : Prop := ∃ v', e = .returned v' ∧ IR w' w.heap.size v' l ∧ v' ≠ .slice none 0 0 ∧ Below w.heap.size w w'
/-- The set after the first states. -/
def movT (a : Au) (s : List Nat) (k j : Nat) : List Nat := moveS a (s.take j) k
theorem movT_succ {a : Au} {s : List Nat} {k j : Nat} (hj : j < s.length) : movT a s k (j + 1) = putS (movT a s k j) (a.T s[j] k) := by
  unfold movT moveS
  rw [List.take_succ_eq_append_getElem hj, List.foldl_append]
  rfl
theorem movT_len {a : Au} {s : List Nat} {k j n : Nat} (hs : ∀ q ∈ s, a.T q k < n) : (movT a s k j).length ≤ n := asc_len (move_asc _ _ _) (fun q hq => by
  obtain ⟨p, hp, rfl⟩ := mem_move.1 hq
  exact hs p (List.mem_of_mem_take hp))

set_option maxRecDepth 100000 in
set_option maxHeartbeats 3200000 in
theorem specMove_any (va : Value) (aN : Addr) (n c k : Nat) (a : Au) (v : Value) (s : List Nat) (S : Nat → Prop) (w : World) (hn : n ≤ 40) (hk : k < 3) (hs : ∀ q ∈ s, q < n) (hw : ∀ q, q < n → a.T q k < n)
    (hT : ∀ q, q < n → ∃ r q', w.cell? (aN.add q) = some (.slice (some r) 3 q') ∧ w.cell? (r.add k) = some (.int .i64 ((a.T q k : Nat) : Int))) (hl : s.length ≤ 2000) (h : RowV w S v (ints (natI s))) :
    Calls Tryd.prog 29 #[.agg #[va, .slice (some aN) n c], v, .int .i64 (k : Int)] w (MovPost (natI (moveS a s k)) w) := by
  obtain ⟨A, cs, rfl⟩ := row_shape h
  obtain ⟨W0, hW0⟩ : ∃ W0, W0 = (w.alloc (.cells #[va, .slice (some aN) n c] 28)).alloc (.cells #[] 3) := ⟨_, rfl⟩
  have HB0 : Hid (Below w.heap.size w W0) := Lib.hid (by rw [hW0]; exact ((Below.refl _ _).alloc (Nat.le_refl _) _).alloc (by simp) _)
  have HX : Hid (W0.heap[w.heap.size]? = some (.cells #[va, .slice (some aN) n c] 28 (0, 0))) := Lib.hid (by rw [hW0]; exact (Below.heap_alloc _ _ _ (by simp)).trans (heap_alloc_new w _))
  have HN : Hid (IR W0 w.heap.size (.slice (some ⟨w.heap.size + 1, 0, none⟩) 0 0) []) := Lib.hid (by
    have h := IR.none (w.alloc (.cells #[va, .slice (some aN) n c] 28)) (B := w.heap.size) (by simp)
    rw [World.size_alloc, ← hW0] at h
    exact h)
  have HT := Lib.hid hT
  have HR := Lib.hid (fun j (hj : j < s.length) => row_at h hj)
  have HK := Lib.hid (fun (V : World) (hV : Below w.heap.size w V) {p : Addr} {u : Value} (hc : w.cell? p = some u) => (hV.cell (cell_in hc)).trans hc)
  have HS := Lib.hid hs
  have HW := Lib.hid hw
  have HLn := Lib.hid (fun j => movT_len (a := a) (s := s) (k := k) (j := j) (n := n) (fun q hq => hw q (hs q hq)))
  clear hT h hs hw
  go_enter Tryd.func29, Tryd.ntmps29
  go_upto_region 2 with fail
  rw [← hW0]
  clear hW0
  go_wp2_with fail
  go_loopw [7, 8] (fun ov iv wr => ∃ i : Nat, iv = .int .i64 i ∧ i ≤ s.length ∧ ov ≠ .slice none 0 0 ∧ Hid (IR wr w.heap.size ov (natI (movT a s k i))) ∧ Hid (Below w.heap.size w wr ∧ wr.heap[w.heap.size]? = some (.cells #[va, .slice (some aN) n c] 28 (0, 0)))) (fun _ iv _ => s.length - (intOf iv).toNat)
  case atStart => exact ⟨0, rfl, Nat.zero_le _, by simp, HN, Lib.hid ⟨HB0.out, HX.out⟩⟩
  case round =>
    obtain ⟨i, rfl, hil, hne, HO, HBr⟩ := hrel
    by_cases hlt : i < s.length
    · have hd : decide ((i : Int) < (s.length : Int)) = true := by simp; omega
      obtain ⟨ad2, c2, hv, hc⟩ := HR.out i hlt
      injection hv with hv1 _ hv3
      subst hv1
      obtain ⟨x, hx⟩ : ∃ x, x = s[i] := ⟨_, rfl⟩
      have hxn : x < n := by rw [hx]; exact HS.out _ (List.getElem_mem hlt)
      obtain ⟨r, q', h1, h2⟩ := HT.out x hxn
      rw [← hx] at hc
      obtain ⟨y, hy⟩ : ∃ y, y = a.T x k := ⟨_, rfl⟩
      rw [← hy] at h2
      have HSu : Hid (movT a s k (i + 1) = putS (movT a s k i) y) := Lib.hid (by rw [movT_succ hlt, hy, hx])
      have hll := HLn.out i
      obtain ⟨g, cap, rfl, -, -⟩ := ir_some HO.out hne
      rw [natI_length] at HO ⊢
      have HPu := Lib.hid (fun (V : World) (hV : Below wr.heap.size wr V) => specPut_any w.heap.size (.slice (some ⟨g, 0, none⟩) (movT a s k i).length cap) (movT a s k i) y V (by
        have h := HO.out.below hV
        exact h) (by simp) (by omega))
      obtain ⟨m, hm⟩ : ∃ m, m = (movT a s k i).length := ⟨_, rfl⟩
      rw [← hm] at HO HPu ⊢
      have HKe := Lib.hid (fun (V : World) (hV : Below wr.heap.size wr V) => (by
        have hb := HBr.out.1.trans (hV.mono HBr.out.1.size)
        obtain ⟨-, x1, -, -⟩ := box2_facts ((hV.block _ (blk_lt HBr.out.2)).trans HBr.out.2)
        exact ⟨x1, HK.out V hb hc, HK.out V hb h1, HK.out V hb h2⟩ :
        V.cell? ⟨w.heap.size, 1, none⟩ = some (.slice (some aN) n c) ∧ V.cell? (ad2.add i) = some (.int .i64 (x : Int)) ∧ V.cell? (aN.add x) = some (.slice (some r) 3 q') ∧ V.cell? (r.add k) = some (.int .i64 (y : Int))))
      have hbw : Below wr.heap.size wr wr := Below.refl _ _
      have s1 : (0 : Int) ≤ (i : Int) := by omega
      have s2 : (i : Int) < (s.length : Int) := by omega
      have s3 : (0 : Int) ≤ (x : Int) := by omega
      have s4 : (x : Int) < (n : Int) := by omega
      have s5 : (0 : Int) ≤ (k : Int) := by omega
      have s6 : (k : Int) < 3 := by omega
      clear hc hx hy hv3 h1 h2 hm hll
      go_wp2_with fail
      go_region_held3 (fun V => V.cell? ⟨w.heap.size, 1, none⟩ = some (.slice (some aN) n c) ∧ V.cell? (ad2.add i) = some (.int .i64 (x : Int)) ∧ V.cell? (aN.add x) = some (.slice (some r) 3 q') ∧ V.cell? (r.add k) = some (.int .i64 (y : Int))) (first | exact HKe.out _ hbw.drew | exact HKe.out _ hbw) (first | (go_at_call 19; (with_reducible refine (HPu.out _ hbw.drew).mono ?_); rintro e1 w1 ⟨v1, rfl, hi1, hn1, ho1, hb1⟩; have hbw := hbw.drew.trans (hb1.mono hbw.drew.size)))
      have HO2 := Lib.hid hi1
      rw [← HSu.out] at HO2
      have HB2 : Hid (Below w.heap.size w w1 ∧ w1.heap[w.heap.size]? = some (.cells #[va, .slice (some aN) n c] 28 (0, 0))) := Lib.hid ⟨HBr.out.1.trans (hbw.mono HBr.out.1.size), (hbw.block _ (blk_lt HBr.out.2)).trans HBr.out.2⟩
      clear hi1 ho1 hb1 hbw
      go_wp2_with fail
      go_roundw
      case rel => exact ⟨i + 1, by go_num, by omega, hn1, HO2, HB2⟩
      case measure => simp [intOf]; omega
    · have hd : decide ((i : Int) < (s.length : Int)) = false := by simp; omega
      have HE : Hid (movT a s k i = moveS a s k) := Lib.hid (by unfold movT; rw [List.take_of_length_le (by omega)])
      rw [HE.out] at HO
      obtain ⟨g, cap, rfl, -, -⟩ := ir_some HO.out hne
      go_wp2_with fail
      go_ret
      exact ⟨_, rfl, HO.out, hne, HBr.out.1⟩
end Go.Proofs.YthmfncklepkddabDoor
