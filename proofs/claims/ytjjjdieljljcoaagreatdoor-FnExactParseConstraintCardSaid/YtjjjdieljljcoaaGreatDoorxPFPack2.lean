/-
  Texts of one proof, one behind the other.
-/
import Derived.OwnWalk
import Derived.Maps.AppendAt
import Derived.OneCell
import Derived.Test.YtjjjdieljljcoaaGreatDoorxPFPack1

/-
  What spec's l9Length, l9Read, l9Parse answer.
-/
namespace Go.Proofs.YtjjjdieljljcoaaGreatDoor
open Go.RowKit

theorem readN_of {l : List UInt8} {v : Int} {ok : Bool} (h : InRange (-999999999999) 999999999999 l v ok) : v = readN l := by
  rcases h with ⟨_, rfl, h0, h1⟩ | ⟨_, rfl, hn⟩
  · exact (readN_itoa h0 h1).symm
  · unfold readN
    rw [dif_neg (fun ⟨n, h0, h1, e⟩ => hn n h0 h1 e)]
theorem readN_in (l : List UInt8) : -999999999999 ≤ readN l ∧ readN l ≤ 999999999999 := by
  by_cases h : ∃ n : Int, -999999999999 ≤ n ∧ n ≤ 999999999999 ∧ l = Lib.itoa n
  · obtain ⟨n, h0, h1, rfl⟩ := h
    rw [readN_itoa h0 h1]
    exact ⟨h0, h1⟩
  · unfold readN
    rw [dif_neg h]
    exact ⟨by omega, by omega⟩
/-- The number that a text is, or 0, and some bool. -/
def NumPost (l : List UInt8) (w : World) (e : Ending) (w' : World) : Prop := ∃ ok, e = .returned (.tuple #[.int .i64 (readN l), .bool ok]) ∧ Below w.heap.size w w'
theorem specNum_any (s : ByteArray) (w : World) (hs : s.size ≤ maxLen) : Calls Tryz.prog 139 #[.string s] w (NumPost s.data.toList w) :=
  (specParseInt_any s w hs).mono fun _ _ ⟨v, ok, he, hr, hb⟩ => ⟨ok, by rw [he, readN_of hr], hb⟩

/-- A row of ints of the call's own. -/
def NR (w : World) (B : Nat) (v : Value) (l : List Int) : Prop := w.ownsRow B 3 1 v l.length (ints l)
theorem nr_block {w : World} {B : Nat} {v : Value} {l : List Int} (h : NR w B v l) {g : Nat} (hg : v.ownBlock = some g) : ∃ cur, w.heap[g]? = some (.cells cur 3 (0, 0)) := by
  rcases h.2 with ⟨rfl, _⟩ | ⟨g', cap, cur, rfl, _, hh, _⟩
  · simp [Value.ownBlock] at hg
  · simp [Value.ownBlock] at hg
    subst hg
    exact ⟨cur, hh⟩
theorem nr_below {w w' : World} {B : Nat} {v : Value} {l : List Int} (h : NR w B v l) (hb : Below w.heap.size w w') : NR w' B v l := owns_below h hb
theorem nr_shape {w : World} {B : Nat} {e : TypeId} {v : Value} {k : Nat} {xs : List Value} (h : w.ownsRow B e 1 v (k + 1) xs) : ∃ g c, v = .slice (some ⟨g, 0, none⟩) (k + 1) c := by
  rcases h.2 with ⟨_, h0⟩ | ⟨g, cap, _, rfl, _⟩
  · omega
  · exact ⟨g, cap, rfl⟩
theorem nr_any {w : World} {B : Nat} {v : Value} {l : List Int} (h : NR w B v l) : ∃ A c, v = .slice A l.length c := by
  rcases h.2 with ⟨rfl, h0⟩ | ⟨g, cap, _, rfl, _⟩
  · exact ⟨none, 0, by rw [h0]⟩
  · exact ⟨_, cap, rfl⟩
/-- A constraint that grows: its box and its row of ints. -/
structure OutC (B : Nat) (w : World) (bo : Nat) (c : Cx) (xu vc : Value) (l : List Int) : Prop where
  box : w.heap[bo]? = some (.cells (cxA c xu vc) 29 (0, 0))
  low : B ≤ bo
  row : NR w B vc l
theorem OutC.boxC {B : Nat} {w : World} {bo : Nat} {c : Cx} {xu vc : Value} {l : List Int} (h : OutC B w bo c xu vc l) : BoxC w bo c xu vc := ⟨_, h.box⟩
theorem OutC.below {B : Nat} {w w' : World} {bo : Nat} {c : Cx} {xu vc : Value} {l : List Int} (h : OutC B w bo c xu vc l) (hb : Below w.heap.size w w') : OutC B w' bo c xu vc l :=
  ⟨(hb.block bo h.boxC.lt).trans h.box, h.low, nr_below h.row hb⟩
theorem outC_ne {B : Nat} {w : World} {bo : Nat} {c : Cx} {xu vc v : Value} {l m : List Int} (h : OutC B w bo c xu vc l) (hn : NR w B v m) {g : Nat} (hg : v.ownBlock = some g) : g ≠ bo := fun e => by
  subst e
  obtain ⟨cur, hh⟩ := nr_block hn hg
  have := hh.symm.trans h.box
  simp at this
/-- A number is appended and stored. -/
theorem OutC.push {B : Nat} {w w7 : World} {bo : Nat} {c : Cx} {xu vc v' : Value} {l : List Int} {x : Int} {o : Obj} (h : OutC B w bo c xu vc l)
    (hown : w7.ownsRow B 3 1 v' (l.length + 1) (ints l ++ [.int .i64 x])) (hg : (w.alloc o).grownBy w7 vc.ownBlock) :
    OutC B (w7.setCell ⟨bo, 6, none⟩ v') bo c xu v' (l ++ [x]) ∧ (∀ C, C ≤ B → Below C (w.alloc o) (w7.setCell ⟨bo, 6, none⟩ v')) ∧ CellC w7 bo c xu vc ∧ w7.frozen? ⟨bo, 6, none⟩ = false := by
  have hlt := h.boxC.lt
  have hne : vc.ownBlock ≠ some bo := fun e => outC_ne h h.row e rfl
  have hb7 : w7.heap[bo]? = some (.cells (cxA c xu vc) 29 (0, 0)) := by
    rw [hg.block bo (by simp; omega) (fun e => hne e.symm)]
    exact (Below.heap_alloc w o bo hlt).trans h.box
  have hn7 : NR w7 B v' (l ++ [x]) := by
    unfold NR
    rw [show ints (l ++ [x]) = ints l ++ [.int .i64 x] by simp [ints], List.length_append]
    exact hown
  have hne7 : ∀ g, v'.ownBlock = some g → g ≠ bo := fun g hg e => by
    subst e
    obtain ⟨cur, hh⟩ := nr_block hn7 hg
    have := hh.symm.trans hb7
    simp at this
  refine ⟨⟨?_, h.low, ?_⟩, fun C hC => ?_, BoxC.cells ⟨_, hb7⟩, frozen_of_row w7 bo 6 _ _ hb7⟩
  · have := heap_setCell_same w7 bo 6 _ _ v' hb7
    simpa [cxA] using this
  · unfold NR
    obtain ⟨h1, h2⟩ := hn7
    refine ⟨h1, ?_⟩
    rcases h2 with h2 | ⟨g, cap, cur, rfl, h3, h4, h5⟩
    · exact .inl h2
    · refine .inr ⟨g, cap, cur, rfl, h3, ?_, h5⟩
      rw [Below.heap_setCell _ _ _ g (fun e => hne7 g rfl e)]
      exact h4
  · have hbw : Below C (w.alloc o) w7 := ⟨hg.os, hg.tape, hg.output, hg.size, fun k hk => hg.block k (by
      have := h.boxC.lt
      have := h.low
      simp
      omega) (fun e => by
        have := (h.row.lt k (by rw [e])).1
        omega)⟩
    exact hbw.setCell (p := ⟨bo, 6, none⟩) (Nat.le_trans hC h.low) _

theorem NR.own {w : World} {B : Nat} {v : Value} {l : List Int} (h : NR w B v l) (hl : l.length ≤ 9223372036854775807) : RowO w (fun g => B ≤ g ∧ g < w.heap.size) v (ints l) :=
  (RowO.of_owns h hl).any fun g hg => h.lt g hg
/-- What l9Length reads. -/
noncomputable def lenCx (ps : List (List UInt8)) : Cx := ⟨5, ⟨#[]⟩, ⟨#[]⟩, 0, ⟨#[]⟩, .nil, ((ps.drop 1).take (ps.length - 2)).map readN, readN (ps.getLastD [])⟩
theorem strRow_at {w : World} {B : Nat} {v : Value} {ps : List (List UInt8)} (h : w.ownsRow B 9 1 v ps.length (strs ps)) (hn : 1 ≤ ps.length) :
    ∃ g c, v = .slice (some ⟨g, 0, none⟩) ps.length c ∧ g < w.heap.size ∧ ∀ j (hj : j < ps.length), w.cell? ⟨g, j, none⟩ = some (.string ⟨ps[j].toArray⟩) := by
  obtain ⟨_, h2⟩ := id h
  rcases h2 with ⟨_, h0⟩ | ⟨g, cap, cur, rfl, _, hh, _⟩
  · omega
  · refine ⟨g, cap, rfl, (Array.getElem?_eq_some_iff.1 hh).1, fun j hj => ?_⟩
    have := h.cellAt j (by omega)
    rw [this]
    simp [strs, hj]

set_option maxRecDepth 100000 in
set_option maxHeartbeats 6400000 in
theorem specLen_any (ps : List (List UInt8)) (v : Value) (B : Nat) (w : World) (hown : w.ownsRow B 9 1 v ps.length (strs ps)) (hn : 1 ≤ ps.length) (hn2 : ps.length ≤ 1048577) (hz : ∀ p ∈ ps, p.length ≤ 1048576) :
    Calls Tryz.prog 95 #[v] w (CopyC (lenCx ps) w) := by
  obtain ⟨g, c, rfl, hg, hc⟩ := strRow_at hown hn
  have HC := Lib.hid (fun (V : World) (hb : Below w.heap.size w V) j (hj : j < ps.length) => (hb.cell (p := ⟨g, j, none⟩) hg).trans (hc j hj))
  have HP := Lib.hid (fun (j : Nat) (hj : j < ps.length) (V : World) => specNum_any ⟨ps[j].toArray⟩ V (by have := hz _ (List.getElem_mem hj); show ps[j].toArray.size ≤ maxLen; rw [List.size_toArray]; unfold maxLen; omega))
  clear hown hc hz
  obtain ⟨n, hN⟩ : ∃ n, ps.length = n + 1 := ⟨ps.length - 1, by omega⟩
  rw [hN]
  go_enter Tryz.func95, Tryz.ntmps95
  go_wp2_with fail
  obtain ⟨W1, hW1⟩ : ∃ W1, W1 = (w.alloc (.cells #[.int .i64 0, .string ⟨#[]⟩, .string ⟨#[]⟩, .int .i64 0, .string ⟨#[]⟩, .slice none 0 0, .slice none 0 0, .int .i64 0] 29)).alloc (.cells #[.int .i64 5, .string ⟨#[]⟩, .string ⟨#[]⟩, .int .i64 0, .string ⟨#[]⟩, .slice none 0 0, .slice none 0 0, .int .i64 0] 29) := ⟨_, rfl⟩
  rw [← hW1]
  have hz1 : W1.heap.size = w.heap.size + 1 + 1 := by rw [hW1]; simp
  have hbw1 : Below w.heap.size w W1 := by rw [hW1]; exact ((Below.refl _ _).alloc (Nat.le_refl _) _).alloc (by simp) _
  have ho1 : OutC (w.heap.size + 1) W1 (w.heap.size + 1) ⟨5, ⟨#[]⟩, ⟨#[]⟩, 0, ⟨#[]⟩, .nil, [], 0⟩ (.slice none 0 0) (.slice none 0 0) [] := by
    refine ⟨?_, Nat.le_refl _, World.ownsRow_nil _ _ _ _⟩
    rw [hW1]
    have := heap_alloc_new (w.alloc (.cells #[.int .i64 0, .string ⟨#[]⟩, .string ⟨#[]⟩, .int .i64 0, .string ⟨#[]⟩, .slice none 0 0, .slice none 0 0, .int .i64 0] 29)) (.cells #[.int .i64 5, .string ⟨#[]⟩, .string ⟨#[]⟩, .int .i64 0, .string ⟨#[]⟩, .slice none 0 0, .slice none 0 0, .int .i64 0] 29)
    rw [World.size_alloc] at this
    exact this
  have hr1 : W1.heap[w.heap.size]? = some (.cells #[.int .i64 0, .string ⟨#[]⟩, .string ⟨#[]⟩, .int .i64 0, .string ⟨#[]⟩, .slice none 0 0, .slice none 0 0, .int .i64 0] 29 (0, 0)) := by
    rw [hW1]
    exact (Below.heap_alloc _ _ _ (by simp)).trans (heap_alloc_new w _)
  have HO1 := Lib.hid ho1
  have HR1 := Lib.hid hr1
  have HBW1 := Lib.hid hbw1
  have HZ1 := Lib.hid hz1
  obtain ⟨i0, hi, hi0, hi1, hi2⟩ := info_parts intInfo
  clear hW1 ho1 hr1 hbw1 hz1
  go_loopw [4] (fun i wr => ∃ (k : Nat) (vr : Value), i = .int .i64 k ∧ 1 ≤ k ∧ (k = 1 ∨ k ≤ n) ∧ OutC (w.heap.size + 1) wr (w.heap.size + 1) ⟨5, ⟨#[]⟩, ⟨#[]⟩, 0, ⟨#[]⟩, .nil, [], 0⟩ (.slice none 0 0) vr (((ps.drop 1).take (k - 1)).map readN) ∧ Below (w.heap.size + 1) W1 wr) (fun i _ => n + 1 - (intOf i).toNat)
  case atStart => exact ⟨1, _, rfl, Nat.le_refl _, Or.inl rfl, by simpa using HO1.out, Below.refl _ _⟩
  case round =>
    obtain ⟨k, vr, rfl, hk1, hk2, ho, hb⟩ := hrel
    have HO := Lib.hid ho
    have HB := Lib.hid hb
    have hbo := HBW1.out.trans (hb.mono (by omega))
    obtain ⟨Av, cv, rfl⟩ := nr_any ho.row
    obtain ⟨l, hl⟩ : ∃ l, l = ((ps.drop 1).take (k - 1)).map readN := ⟨_, rfl⟩
    rw [← hl] at HO
    have hll : l.length ≤ 1048577 := by rw [hl, List.length_map, List.length_take]; omega
    have HLL := Lib.hid hl
    clear ho hb hl
    obtain ⟨b0, b1, b2, b3, b4, b5, b6, b7⟩ := HO.out.boxC.cells
    by_cases hlt : k < n
    · have hk : k < ps.length := by omega
      have hcell := HC.out _ hbo k hk
      have HPk := Lib.hid (fun V => HP.out k hk V)
      obtain ⟨px, hpx⟩ : ∃ px : ByteArray, px = ⟨ps[k].toArray⟩ := ⟨_, rfl⟩
      have HPX := Lib.hid (show px.data.toList = ps[k] by rw [hpx])
      rw [← hpx] at hcell HPk
      have hkl : ((k : Int) < (n : Int)) := by omega
      clear hpx
      go_wp2_with fail
      refine (HPk.out _).mono ?_
      rintro e' w2 ⟨ok, rfl, hb2⟩
      have HO2 := Lib.hid (HO.out.below hb2)
      have HB2 := Lib.hid (HB.out.trans (hb2.mono (by have := HB.out.size; have := HZ1.out; omega)))
      obtain ⟨x, hx⟩ : ∃ x, x = readN ps[k] := ⟨_, rfl⟩
      have HLN := Lib.hid (show l ++ [x] = ((ps.drop 1).take (k + 1 - 1)).map readN by
        rw [HLL.out, hx, ← List.map_singleton, ← List.map_append]
        congr 1
        obtain ⟨q, rfl⟩ : ∃ q, k = q + 1 := ⟨k - 1, by omega⟩
        rw [Nat.add_sub_cancel, Nat.add_sub_cancel, List.take_succ_eq_append_getElem (by simp; omega)]
        simp)
      rw [← hx]
      clear hb2 hcell b0 b1 b2 b3 b4 b5 b6 b7 hx
      obtain ⟨b0, b1, b2, b3, b4, b5, b6, b7⟩ := HO2.out.boxC.cells
      have hz2 : w.heap.size + 1 ≤ w2.heap.size := by have := HB2.out.size; have := HZ1.out; omega
      go_wp2_with (at_builtin; refine wpList_append_own _ rfl (.tmp 26) (.tmp 28) 27 rfl (w.heap.size + 1) 3 i0 (.int .i64 0) 1 8 Tryz.underlying27 hi hi0 hi1 hi2 rfl (by decide) _ _ _ rfl (HO2.out.row.alloc _) ⟨w2.heap.size, 0, none⟩ 1 1 [.int .i64 x] rfl rfl (cell_one_new _ _ _) (by simp [Value.oneCell']) (by unfold maxLen; omega) (by omega) (by simp; omega) ?_)
      intro v' w7 hown' hgrow _
      obtain ⟨gv, cv, rfl⟩ := nr_shape hown'
      obtain ⟨hp1, hp2, hp3, hp4⟩ := HO2.out.push hown' hgrow
      have HP1 := Lib.hid hp1
      have HP2 := Lib.hid (HB2.out.trans (((Below.refl _ _).alloc (Nat.le_refl w2.heap.size) _).mono (by have := HB2.out.size; have := HZ1.out; omega) |>.trans (hp2 _ (Nat.le_refl _))))
      obtain ⟨b0', b1', b2', b3', b4', b5', b6', b7'⟩ := hp3
      clear hown' hgrow hp1 hp2 b0 b1 b2 b3 b4 b5 b6 b7
      go_wp2_with fail
      go_roundw
      case rel => exact ⟨k + 1, _, by go_num, by omega, Or.inr (by omega), by rw [← HLN.out]; exact HP1.out, HP2.out⟩
      case measure => simp [intOf]; omega
    · have hkl : ¬ ((k : Int) < (n : Int)) := by omega
      have hcell := HC.out _ hbo n (by omega)
      have HPk := Lib.hid (fun V => HP.out n (by omega) V)
      have HLast := Lib.hid (show ps[n] = ps.getLastD [] by rw [List.getLastD_eq_getLast?, List.getLast?_eq_getElem?, List.getElem?_eq_getElem (by omega)]; simp only [hN, Nat.add_sub_cancel]; rfl)
      have HL2 := Lib.hid (show l = ((ps.drop 1).take (ps.length - 2)).map readN by
        rw [HLL.out, hN]
        rcases hk2 with rfl | h
        · rw [show n + 1 - 2 = 0 by omega]
        · rw [show k - 1 = n + 1 - 2 by omega])
      obtain ⟨px, hpx⟩ : ∃ px : ByteArray, px = ⟨ps[n].toArray⟩ := ⟨_, rfl⟩
      rw [← hpx] at hcell HPk
      clear hpx
      go_wp2_with fail
      refine (HPk.out _).mono ?_
      rintro e' w2 ⟨ok, rfl, hb2⟩
      have HO2 := Lib.hid (HO.out.below hb2)
      have HB2 := Lib.hid (HB.out.trans (hb2.mono (by have := HB.out.size; have := HZ1.out; omega)))
      obtain ⟨x, hx⟩ : ∃ x, x = readN ps[n] := ⟨_, rfl⟩
      rw [← hx]
      have HX := Lib.hid (show x = readN (ps.getLastD []) by rw [hx, HLast.out])
      clear hb2 hcell b0 b1 b2 b3 b4 b5 b6 b7 hx
      obtain ⟨b0, b1, b2, b3, b4, b5, b6, b7⟩ := HO2.out.boxC.cells
      have hrb : w2.heap[w.heap.size]? = some (.cells (cxA zeroX (.slice none 0 0) (.slice none 0 0)) 29 (0, 0)) := (HB2.out.block w.heap.size (Nat.lt_succ_self _)).trans HR1.out
      obtain ⟨r0, r1, r2, r3, r4, r5, r6, r7⟩ := BoxC.cells (c := zeroX) ⟨_, hrb⟩
      have HRB := Lib.hid hrb
      have f7 := HO2.out.boxC.frozen 7
      have fr := BoxC.frozen (c := zeroX) ⟨_, hrb⟩
      have f00 := fr 0
      have f01 := fr 1
      have f02 := fr 2
      have f03 := fr 3
      have f04 := fr 4
      have f05 := fr 5
      have f06 := fr 6
      have f07 := fr 7
      clear hrb fr
      go_wp2_with fail
      have hX := HO2.out.row
      obtain ⟨X, hXe⟩ : ∃ X, X = w2.setCell ⟨w.heap.size + 1, 7, none⟩ (.int .i64 x) := ⟨_, rfl⟩
      have hXb : X.heap[w.heap.size]? = some (.cells (cxA zeroX (.slice none 0 0) (.slice none 0 0)) 29 (0, 0)) := by
        rw [hXe, Below.heap_setCell _ _ _ _ (by simp)]
        exact HRB.out
      have hXz : X.heap.size = w2.heap.size := by rw [hXe]; simp [World.setCell]
      have hXo : ∀ g, g ≠ w.heap.size + 1 → X.heap[g]? = w2.heap[g]? := fun g hg => by rw [hXe, Below.heap_setCell _ _ _ _ hg]
      have hXw : Below w.heap.size w X := by
        rw [hXe]
        exact (HBW1.out.trans (HB2.out.mono (by omega))).setCell (p := ⟨w.heap.size + 1, 7, none⟩) (by simp) _
      rw [← hXe]
      have hle : l.length ≤ 9223372036854775807 := by omega
      have hrow : RowO X (fun g => w.heap.size < g ∧ g < X.heap.size) (.slice Av l.length cv) (ints l) := by
        refine (RowO.of_owns hX hle).mono (fun g hg => hXo g (outC_ne HO2.out HO2.out.row hg)) (fun g hg => ?_)
        have := HO2.out.row.lt g hg
        omega
      obtain ⟨⟨k0, k1, k2, k3, k4, k5, k6, k7⟩, hcp⟩ := copyC_end (w := w) (c := ⟨5, ⟨#[]⟩, ⟨#[]⟩, 0, ⟨#[]⟩, .nil, l, x⟩) (xu := .slice none 0 0) (vc := .slice Av l.length cv) hXb rfl (CnT.num (Nat.zero_le _) (Nat.zero_le _) (Nat.zero_le _) rfl hrow (fun _ h => h)) hXw
      unfold put8 at k0 k1 k2 k3 k4 k5 k6 k7 hcp
      refine bodyPost_ret (v := .agg #[.int .i64 5, .string ⟨#[]⟩, .string ⟨#[]⟩, .int .i64 0, .string ⟨#[]⟩, .slice none 0 0, .slice Av l.length cv, .int .i64 x]) (by simp [results, Tryz.results95, go_sem, k0, k1, k2, k3, k4, k5, k6, k7]) rfl ?_
      rw [show lenCx ps = ⟨5, ⟨#[]⟩, ⟨#[]⟩, 0, ⟨#[]⟩, .nil, l, x⟩ by rw [lenCx, HL2.out, HX.out]]
      exact hcp
end Go.Proofs.YtjjjdieljljcoaaGreatDoor

/-
  What impl.FormatConstraint answers.
-/
namespace Go.Proofs.YtjjjdieljljcoaaGreatDoor
open Go.RowKit

theorem join3 (p q r s : List UInt8) : Lib.join [p, q, r] s = p ++ (s ++ (q ++ (s ++ r))) := by
  simp [Lib.join, List.intercalate, List.intersperse]
theorem join5 (p q r t u s : List UInt8) : Lib.join [p, q, r, t, u] s = p ++ (s ++ (q ++ (s ++ (r ++ (s ++ (t ++ (s ++ u))))))) := by
  simp [Lib.join, List.intercalate, List.intersperse]
theorem lens3 (p q r : List UInt8) : Lib.lens [p, q, r] = p.length + (q.length + r.length) := by simp [Lib.lens]
theorem lens5 (p q r t u : List UInt8) : Lib.lens [p, q, r, t, u] = p.length + (q.length + (r.length + (t.length + u.length))) := by simp [Lib.lens]
theorem termT_le {l : List UInt8} (h : l.length ≤ 12) : (termT l).length ≤ 12 := by
  unfold termT
  split
  · simp
  · exact h
set_option maxRecDepth 100000 in
set_option maxHeartbeats 12800000 in
theorem implFmtC_any (c : Cx) (xu vc : Value) (w : World) (h : CnO w xu vc c) (hsz : c.xa.size ≤ 2097152) (hlaid : Pow10 w) :
    Calls Tryz.prog 11 #[.agg #[.int .i64 c.k, .string c.l, .string c.r, .int .i64 c.xk, .string c.xl, xu, vc, .int .i64 c.b]] w fun e w' => e = .returned (.string (strL (fmtX c))) ∧ Below w.heap.size w w' := by
  obtain ⟨A, m, B, r, rfl, rfl⟩ := h.shape
  obtain ⟨W, hW⟩ : ∃ W, W = w.alloc (.cells #[.int .i64 c.k, .string c.l, .string c.r, .int .i64 c.xk, .string c.xl, .slice A c.xa.items.length m, .slice B c.cs.length r, .int .i64 c.b] 29) := ⟨_, rfl⟩
  have hb0 : Below w.heap.size w W := by rw [hW]; exact (Below.refl _ _).alloc (Nat.le_refl _) _
  have hbx : BoxC W w.heap.size c (.slice A c.xa.items.length m) (.slice B c.cs.length r) := by rw [hW]; exact boxC_new w c _ _ _
  have HWE := Lib.hid hW
  have HB0 := Lib.hid hb0
  have HCX := Lib.hid (fun (V : World) (hb : Below W.heap.size W V) => (hbx.kept hb).cells)
  have HCN := Lib.hid (fun (V : World) (hb : Below W.heap.size W V) => h.kept (hb0.trans (hb.mono hb0.size)))
  have HFO := Lib.hid (formOf9_any c _ _ W (h.kept hb0) hsz)
  have HP := Lib.hid (fun (V : World) (hb : Below W.heap.size W V) => hlaid.below (hb0.trans (hb.mono hb0.size)))
  have hzW : W.heap.size = w.heap.size + 1 := by rw [hW]; simp
  have HZW := Lib.hid hzW
  have HPT := Lib.hid (fun (V : World) (sg : ByteArray) (hb : Below W.heap.size W V) => partsTerms_any c _ _ sg V (HCN.out V hb))
  have HPR := Lib.hid (fun (V : World) (sg : ByteArray) (hb : Below W.heap.size W V) => partsRegex_any c _ _ sg V (HCN.out V hb) hsz)
  have hcW := hbx.cells
  rw [hW] at hcW
  obtain ⟨c0, c1, c2, c3, c4, c5, c6, c7⟩ := hcW
  clear hW hb0 hbx h hzW
  cases hv : validX c with
  | false =>
    have HR := Lib.hid (show fmtX c = [] from if_neg (by rw [show validC c.cn = validX c from rfl, hv]; simp))
    unfold FoPost at HFO
    rw [hv] at HFO
    clear hv hsz
    rcases kinds6 c.k with hk | hk | hk | hk | hk | hk
    · have HA : Hid (∀ s, formArr s c.k.toNat = #[.int .i64 1, .string ⟨#[61]⟩, .func (.func 74) #[] #[], .func (.func 75) #[] #[], .func (.func 76) #[] #[], .func (.func 77) #[] #[]]) := Lib.hid (fun s => by rw [hk]; rfl)
      clear hk
      go_enter Tryz.func11, Tryz.ntmps11
      go_wp2_with fail
      rw [← HWE.out]
      refine HFO.out.mono ?_
      rintro e w1 ⟨s, hs, hf, rfl, hb1⟩
      rw [HA.out]
      have HB1 := Lib.hid hb1
      clear hf hb1 hs c0 c1 c2 c3 c4 c5 c6 c7
      go_wp2_with fail
      go_ret
      exact ⟨by rw [HR.out]; rfl, HB0.out.trans ((HB1.out.alloc HB1.out.size _).mono HB0.out.size)⟩
    · have HA : Hid (∀ s, formArr s c.k.toNat = #[.int .i64 2, .string ⟨#[33, 61]⟩, .func (.func 74) #[] #[], .func (.func 126) #[] #[.pointer (some ⟨s, 0, none⟩)], .func (.func 76) #[] #[], .func (.func 77) #[] #[]]) := Lib.hid (fun s => by rw [hk]; rfl)
      clear hk
      go_enter Tryz.func11, Tryz.ntmps11
      go_wp2_with fail
      rw [← HWE.out]
      refine HFO.out.mono ?_
      rintro e w1 ⟨s, hs, hf, rfl, hb1⟩
      rw [HA.out]
      have HB1 := Lib.hid hb1
      clear hf hb1 hs c0 c1 c2 c3 c4 c5 c6 c7
      go_wp2_with fail
      go_ret
      exact ⟨by rw [HR.out]; rfl, HB0.out.trans ((HB1.out.alloc HB1.out.size _).mono HB0.out.size)⟩
    · have HA : Hid (∀ s, formArr s c.k.toNat = #[.int .i64 3, .string ⟨#[105, 110]⟩, .func (.func 79) #[] #[], .func (.func 80) #[] #[], .func (.func 81) #[] #[], .func (.func 82) #[] #[]]) := Lib.hid (fun s => by rw [hk]; rfl)
      clear hk
      go_enter Tryz.func11, Tryz.ntmps11
      go_wp2_with fail
      rw [← HWE.out]
      refine HFO.out.mono ?_
      rintro e w1 ⟨s, hs, hf, rfl, hb1⟩
      rw [HA.out]
      have HB1 := Lib.hid hb1
      clear hf hb1 hs c0 c1 c2 c3 c4 c5 c6 c7
      go_wp2_with fail
      go_ret
      exact ⟨by rw [HR.out]; rfl, HB0.out.trans ((HB1.out.alloc HB1.out.size _).mono HB0.out.size)⟩
    · have HA : Hid (∀ s, formArr s c.k.toNat = #[.int .i64 4, .string ⟨#[111, 117, 116]⟩, .func (.func 79) #[] #[], .func (.func 126) #[] #[.pointer (some ⟨s + 1, 0, none⟩)], .func (.func 81) #[] #[], .func (.func 82) #[] #[]]) := Lib.hid (fun s => by rw [hk]; rfl)
      clear hk
      go_enter Tryz.func11, Tryz.ntmps11
      go_wp2_with fail
      rw [← HWE.out]
      refine HFO.out.mono ?_
      rintro e w1 ⟨s, hs, hf, rfl, hb1⟩
      rw [HA.out]
      have HB1 := Lib.hid hb1
      clear hf hb1 hs c0 c1 c2 c3 c4 c5 c6 c7
      go_wp2_with fail
      go_ret
      exact ⟨by rw [HR.out]; rfl, HB0.out.trans ((HB1.out.alloc HB1.out.size _).mono HB0.out.size)⟩
    · have HA : Hid (∀ s, formArr s c.k.toNat = #[.int .i64 5, .string ⟨#[108, 101, 110]⟩, .func (.func 83) #[] #[], .func (.func 84) #[] #[], .func (.func 85) #[] #[], .func (.func 86) #[] #[]]) := Lib.hid (fun s => by rw [hk]; rfl)
      clear hk
      go_enter Tryz.func11, Tryz.ntmps11
      go_wp2_with fail
      rw [← HWE.out]
      refine HFO.out.mono ?_
      rintro e w1 ⟨s, hs, hf, rfl, hb1⟩
      rw [HA.out]
      have HB1 := Lib.hid hb1
      clear hf hb1 hs c0 c1 c2 c3 c4 c5 c6 c7
      go_wp2_with fail
      go_ret
      exact ⟨by rw [HR.out]; rfl, HB0.out.trans ((HB1.out.alloc HB1.out.size _).mono HB0.out.size)⟩
    · have HA : Hid (∀ s, formArr s c.k.toNat = #[.int .i64 0, .string ⟨#[]⟩, .nilFunc, .nilFunc, .nilFunc, .nilFunc]) := Lib.hid (fun s => formArr_none (by omega) (by omega) (by omega) (by omega) (by omega))
      clear hk
      go_enter Tryz.func11, Tryz.ntmps11
      go_wp2_with fail
      rw [← HWE.out]
      refine HFO.out.mono ?_
      rintro e w1 ⟨s, hs, hf, rfl, hb1⟩
      rw [HA.out]
      have HB1 := Lib.hid hb1
      clear hf hb1 hs c0 c1 c2 c3 c4 c5 c6 c7
      go_wp2_with fail
      go_ret
      exact ⟨by rw [HR.out]; rfl, HB0.out.trans ((HB1.out.alloc HB1.out.size _).mono HB0.out.size)⟩
  | true =>
    unfold FoPost at HFO
    rw [hv] at HFO
    have hbody := fmtX_of hv
    obtain ⟨hsl, hsr⟩ := valid_strs hv
    have hkk := valid_kinds (c := c.cn) hv
    have HVA := Lib.hid hv
    clear hv
    rcases hkk with hk | hk | hk | hk | hk
    all_goals (have hk : c.k = _ := hk)
    · have HJB : Hid (fmtX c = Lib.join [termT c.l.data.toList, [61], termT c.r.data.toList] [32]) := Lib.hid (by rw [hbody, join3]; simp [bodyT, Cx.cn, hk])
      have hln : Lib.lens [termT c.l.data.toList, [61], termT c.r.data.toList] ≤ 1048576 := by rw [lens3]; have := termT_le (l := c.l.data.toList) (by simpa using hsl); have := termT_le (l := c.r.data.toList) (by simpa using hsr); simp only [List.length_cons, List.length_nil]; omega
      have hjl : (Lib.join [termT c.l.data.toList, [61], termT c.r.data.toList] [32]).length ≤ 1048576 := by
        rw [join3]
        have := hln
        rw [lens3] at this
        have hq : Lib.lens [termT c.l.data.toList, [61], termT c.r.data.toList] ≤ 200 := by rw [lens3]; have := termT_le (l := c.l.data.toList) (by simpa using hsl); have := termT_le (l := c.r.data.toList) (by simpa using hsr); simp only [List.length_cons, List.length_nil]; omega
        rw [lens3] at hq
        simp only [List.length_append, List.length_cons, List.length_nil] at hq ⊢
        omega
      have HJN := Lib.hid (joined_yes hjl)
      have HLN := Lib.hid hln
      clear hln hjl hbody
      have HA : Hid (∀ s, formArr s c.k.toNat = #[.int .i64 1, .string ⟨#[61]⟩, .func (.func 74) #[] #[], .func (.func 75) #[] #[], .func (.func 76) #[] #[], .func (.func 77) #[] #[]]) := Lib.hid (fun s => by rw [hk]; rfl)
      clear hk
      go_enter Tryz.func11, Tryz.ntmps11
      go_wp2_with fail
      rw [← HWE.out]
      refine HFO.out.mono ?_
      rintro e w1 ⟨s, hs, hf, rfl, hb1⟩
      rw [HA.out]
      have HB1 := Lib.hid hb1
      clear hf hb1 hs c0 c1 c2 c3 c4 c5 c6 c7
      have hlt1 : w.heap.size < w1.heap.size := by have := HB1.out.size; have := HZW.out; omega
      have hne1 : w.heap.size ≠ w1.heap.size := by omega
      obtain ⟨c0, c1, c2, c3, c4, c5, c6, c7⟩ := HCX.out w1 HB1.out
      go_wp2_with fail
      obtain ⟨V, hVe⟩ : ∃ V, V = w1.alloc (.cells #[.int .i64 1, .string ⟨#[61]⟩, .func (.func 74) #[] #[], .func (.func 75) #[] #[], .func (.func 76) #[] #[], .func (.func 77) #[] #[]] 63) := ⟨_, rfl⟩
      have hbV : Below w1.heap.size w1 V := by rw [hVe]; exact (Below.refl _ _).alloc (Nat.le_refl _) _
      rw [← hVe]
      have HBV := Lib.hid (HB1.out.trans (hbV.mono HB1.out.size))
      clear hVe hbV
      refine (HPT.out V ⟨#[61]⟩ HBV.out).mono ?_
      rintro e w2 ⟨v, rfl, hown, hb2⟩
      obtain ⟨g, cv, rfl, _⟩ := strRow_at (ps := [termT c.l.data.toList, [61], termT c.r.data.toList]) hown (by simp)
      have HOW := Lib.hid hown
      have HB2 := Lib.hid (HBV.out.trans (hb2.mono HBV.out.size))
      clear hown hb2
      go_wp2_with fail
      refine (implJoin_any g cv V.heap.size [termT c.l.data.toList, [61], termT c.r.data.toList] ⟨#[32]⟩ w2 HOW.out (by simp) HLN.out (by decide)).mono ?_
      rintro e w3 ⟨rfl, hb3⟩
      have HB3 := Lib.hid (HB2.out.trans (hb3.mono HB2.out.size))
      clear hb3
      go_wp2_with fail
      go_ret
      exact ⟨congrArg (fun z => Ending.returned (.string z)) (by rw [HJB.out]; exact congrArg strL HJN.out), HB0.out.trans (HB3.out.mono HB0.out.size)⟩
    · have HJB : Hid (fmtX c = Lib.join [termT c.l.data.toList, [33, 61], termT c.r.data.toList] [32]) := Lib.hid (by rw [hbody, join3]; simp [bodyT, Cx.cn, hk])
      have hln : Lib.lens [termT c.l.data.toList, [33, 61], termT c.r.data.toList] ≤ 1048576 := by rw [lens3]; have := termT_le (l := c.l.data.toList) (by simpa using hsl); have := termT_le (l := c.r.data.toList) (by simpa using hsr); simp only [List.length_cons, List.length_nil]; omega
      have hjl : (Lib.join [termT c.l.data.toList, [33, 61], termT c.r.data.toList] [32]).length ≤ 1048576 := by
        rw [join3]
        have := hln
        rw [lens3] at this
        have hq : Lib.lens [termT c.l.data.toList, [33, 61], termT c.r.data.toList] ≤ 200 := by rw [lens3]; have := termT_le (l := c.l.data.toList) (by simpa using hsl); have := termT_le (l := c.r.data.toList) (by simpa using hsr); simp only [List.length_cons, List.length_nil]; omega
        rw [lens3] at hq
        simp only [List.length_append, List.length_cons, List.length_nil] at hq ⊢
        omega
      have HJN := Lib.hid (joined_yes hjl)
      have HLN := Lib.hid hln
      clear hln hjl hbody
      have HA : Hid (∀ s, formArr s c.k.toNat = #[.int .i64 2, .string ⟨#[33, 61]⟩, .func (.func 74) #[] #[], .func (.func 126) #[] #[.pointer (some ⟨s, 0, none⟩)], .func (.func 76) #[] #[], .func (.func 77) #[] #[]]) := Lib.hid (fun s => by rw [hk]; rfl)
      clear hk
      go_enter Tryz.func11, Tryz.ntmps11
      go_wp2_with fail
      rw [← HWE.out]
      refine HFO.out.mono ?_
      rintro e w1 ⟨s, hs, hf, rfl, hb1⟩
      rw [HA.out]
      have HB1 := Lib.hid hb1
      clear hf hb1 hs c0 c1 c2 c3 c4 c5 c6 c7
      have hlt1 : w.heap.size < w1.heap.size := by have := HB1.out.size; have := HZW.out; omega
      have hne1 : w.heap.size ≠ w1.heap.size := by omega
      obtain ⟨c0, c1, c2, c3, c4, c5, c6, c7⟩ := HCX.out w1 HB1.out
      go_wp2_with fail
      obtain ⟨V, hVe⟩ : ∃ V, V = w1.alloc (.cells #[.int .i64 2, .string ⟨#[33, 61]⟩, .func (.func 74) #[] #[], .func (.func 126) #[] #[.pointer (some ⟨s, 0, none⟩)], .func (.func 76) #[] #[], .func (.func 77) #[] #[]] 63) := ⟨_, rfl⟩
      have hbV : Below w1.heap.size w1 V := by rw [hVe]; exact (Below.refl _ _).alloc (Nat.le_refl _) _
      rw [← hVe]
      have HBV := Lib.hid (HB1.out.trans (hbV.mono HB1.out.size))
      clear hVe hbV
      refine (HPT.out V ⟨#[33, 61]⟩ HBV.out).mono ?_
      rintro e w2 ⟨v, rfl, hown, hb2⟩
      obtain ⟨g, cv, rfl, _⟩ := strRow_at (ps := [termT c.l.data.toList, [33, 61], termT c.r.data.toList]) hown (by simp)
      have HOW := Lib.hid hown
      have HB2 := Lib.hid (HBV.out.trans (hb2.mono HBV.out.size))
      clear hown hb2
      go_wp2_with fail
      refine (implJoin_any g cv V.heap.size [termT c.l.data.toList, [33, 61], termT c.r.data.toList] ⟨#[32]⟩ w2 HOW.out (by simp) HLN.out (by decide)).mono ?_
      rintro e w3 ⟨rfl, hb3⟩
      have HB3 := Lib.hid (HB2.out.trans (hb3.mono HB2.out.size))
      clear hb3
      go_wp2_with fail
      go_ret
      exact ⟨congrArg (fun z => Ending.returned (.string z)) (by rw [HJB.out]; exact congrArg strL HJN.out), HB0.out.trans (HB3.out.mono HB0.out.size)⟩
    · obtain ⟨_, _, tx, _⟩ := valid_lang HVA.out (.inl hk)
      simp only [Cx.cn] at tx
      have hfl := format_len c.xk c.xl c.xa (by have := valid_size9 tx; omega)
      have HTX := Lib.hid (show formatRx c.xk c.xl c.xa = ndTxt (c.xk, c.xl, c.xa) from if_pos tx)
      have HJB : Hid (fmtX c = Lib.join [termT c.l.data.toList, [105, 110], formatRx c.xk c.xl c.xa] [32]) := Lib.hid (by rw [hbody, join3]; simp [bodyT, Cx.cn, hk, HTX.out])
      have hln : Lib.lens [termT c.l.data.toList, [105, 110], formatRx c.xk c.xl c.xa] ≤ 1048576 := by rw [lens3]; have := termT_le (l := c.l.data.toList) (by simpa using hsl); simp only [List.length_cons, List.length_nil]; omega
      have hjl : (Lib.join [termT c.l.data.toList, [105, 110], formatRx c.xk c.xl c.xa] [32]).length ≤ 1048576 := by
        rw [join3]
        have := hln
        rw [lens3] at this
        have hq : Lib.lens [termT c.l.data.toList, [105, 110], formatRx c.xk c.xl c.xa] ≤ 200 := by rw [lens3]; have := termT_le (l := c.l.data.toList) (by simpa using hsl); simp only [List.length_cons, List.length_nil]; omega
        rw [lens3] at hq
        simp only [List.length_append, List.length_cons, List.length_nil] at hq ⊢
        omega
      have HJN := Lib.hid (joined_yes hjl)
      have HLN := Lib.hid hln
      clear hln hjl hbody hfl tx
      have HA : Hid (∀ s, formArr s c.k.toNat = #[.int .i64 3, .string ⟨#[105, 110]⟩, .func (.func 79) #[] #[], .func (.func 80) #[] #[], .func (.func 81) #[] #[], .func (.func 82) #[] #[]]) := Lib.hid (fun s => by rw [hk]; rfl)
      clear hk
      go_enter Tryz.func11, Tryz.ntmps11
      go_wp2_with fail
      rw [← HWE.out]
      refine HFO.out.mono ?_
      rintro e w1 ⟨s, hs, hf, rfl, hb1⟩
      rw [HA.out]
      have HB1 := Lib.hid hb1
      clear hf hb1 hs c0 c1 c2 c3 c4 c5 c6 c7
      have hlt1 : w.heap.size < w1.heap.size := by have := HB1.out.size; have := HZW.out; omega
      have hne1 : w.heap.size ≠ w1.heap.size := by omega
      obtain ⟨c0, c1, c2, c3, c4, c5, c6, c7⟩ := HCX.out w1 HB1.out
      go_wp2_with fail
      obtain ⟨V, hVe⟩ : ∃ V, V = w1.alloc (.cells #[.int .i64 3, .string ⟨#[105, 110]⟩, .func (.func 79) #[] #[], .func (.func 80) #[] #[], .func (.func 81) #[] #[], .func (.func 82) #[] #[]] 63) := ⟨_, rfl⟩
      have hbV : Below w1.heap.size w1 V := by rw [hVe]; exact (Below.refl _ _).alloc (Nat.le_refl _) _
      rw [← hVe]
      have HBV := Lib.hid (HB1.out.trans (hbV.mono HB1.out.size))
      clear hVe hbV
      refine (HPR.out V ⟨#[105, 110]⟩ HBV.out).mono ?_
      rintro e w2 ⟨v, rfl, hown, hb2⟩
      obtain ⟨g, cv, rfl, _⟩ := strRow_at (ps := [termT c.l.data.toList, [105, 110], formatRx c.xk c.xl c.xa]) hown (by simp)
      have HOW := Lib.hid hown
      have HB2 := Lib.hid (HBV.out.trans (hb2.mono HBV.out.size))
      clear hown hb2
      go_wp2_with fail
      refine (implJoin_any g cv V.heap.size [termT c.l.data.toList, [105, 110], formatRx c.xk c.xl c.xa] ⟨#[32]⟩ w2 HOW.out (by simp) HLN.out (by decide)).mono ?_
      rintro e w3 ⟨rfl, hb3⟩
      have HB3 := Lib.hid (HB2.out.trans (hb3.mono HB2.out.size))
      clear hb3
      go_wp2_with fail
      go_ret
      exact ⟨congrArg (fun z => Ending.returned (.string z)) (by rw [HJB.out]; exact congrArg strL HJN.out), HB0.out.trans (HB3.out.mono HB0.out.size)⟩
    · obtain ⟨_, _, tx, _⟩ := valid_lang HVA.out (.inr hk)
      simp only [Cx.cn] at tx
      have hfl := format_len c.xk c.xl c.xa (by have := valid_size9 tx; omega)
      have HTX := Lib.hid (show formatRx c.xk c.xl c.xa = ndTxt (c.xk, c.xl, c.xa) from if_pos tx)
      have HJB : Hid (fmtX c = Lib.join [termT c.l.data.toList, [111, 117, 116], formatRx c.xk c.xl c.xa] [32]) := Lib.hid (by rw [hbody, join3]; simp [bodyT, Cx.cn, hk, HTX.out])
      have hln : Lib.lens [termT c.l.data.toList, [111, 117, 116], formatRx c.xk c.xl c.xa] ≤ 1048576 := by rw [lens3]; have := termT_le (l := c.l.data.toList) (by simpa using hsl); simp only [List.length_cons, List.length_nil]; omega
      have hjl : (Lib.join [termT c.l.data.toList, [111, 117, 116], formatRx c.xk c.xl c.xa] [32]).length ≤ 1048576 := by
        rw [join3]
        have := hln
        rw [lens3] at this
        have hq : Lib.lens [termT c.l.data.toList, [111, 117, 116], formatRx c.xk c.xl c.xa] ≤ 200 := by rw [lens3]; have := termT_le (l := c.l.data.toList) (by simpa using hsl); simp only [List.length_cons, List.length_nil]; omega
        rw [lens3] at hq
        simp only [List.length_append, List.length_cons, List.length_nil] at hq ⊢
        omega
      have HJN := Lib.hid (joined_yes hjl)
      have HLN := Lib.hid hln
      clear hln hjl hbody hfl tx
      have HA : Hid (∀ s, formArr s c.k.toNat = #[.int .i64 4, .string ⟨#[111, 117, 116]⟩, .func (.func 79) #[] #[], .func (.func 126) #[] #[.pointer (some ⟨s + 1, 0, none⟩)], .func (.func 81) #[] #[], .func (.func 82) #[] #[]]) := Lib.hid (fun s => by rw [hk]; rfl)
      clear hk
      go_enter Tryz.func11, Tryz.ntmps11
      go_wp2_with fail
      rw [← HWE.out]
      refine HFO.out.mono ?_
      rintro e w1 ⟨s, hs, hf, rfl, hb1⟩
      rw [HA.out]
      have HB1 := Lib.hid hb1
      clear hf hb1 hs c0 c1 c2 c3 c4 c5 c6 c7
      have hlt1 : w.heap.size < w1.heap.size := by have := HB1.out.size; have := HZW.out; omega
      have hne1 : w.heap.size ≠ w1.heap.size := by omega
      obtain ⟨c0, c1, c2, c3, c4, c5, c6, c7⟩ := HCX.out w1 HB1.out
      go_wp2_with fail
      obtain ⟨V, hVe⟩ : ∃ V, V = w1.alloc (.cells #[.int .i64 4, .string ⟨#[111, 117, 116]⟩, .func (.func 79) #[] #[], .func (.func 126) #[] #[.pointer (some ⟨s + 1, 0, none⟩)], .func (.func 81) #[] #[], .func (.func 82) #[] #[]] 63) := ⟨_, rfl⟩
      have hbV : Below w1.heap.size w1 V := by rw [hVe]; exact (Below.refl _ _).alloc (Nat.le_refl _) _
      rw [← hVe]
      have HBV := Lib.hid (HB1.out.trans (hbV.mono HB1.out.size))
      clear hVe hbV
      refine (HPR.out V ⟨#[111, 117, 116]⟩ HBV.out).mono ?_
      rintro e w2 ⟨v, rfl, hown, hb2⟩
      obtain ⟨g, cv, rfl, _⟩ := strRow_at (ps := [termT c.l.data.toList, [111, 117, 116], formatRx c.xk c.xl c.xa]) hown (by simp)
      have HOW := Lib.hid hown
      have HB2 := Lib.hid (HBV.out.trans (hb2.mono HBV.out.size))
      clear hown hb2
      go_wp2_with fail
      refine (implJoin_any g cv V.heap.size [termT c.l.data.toList, [111, 117, 116], formatRx c.xk c.xl c.xa] ⟨#[32]⟩ w2 HOW.out (by simp) HLN.out (by decide)).mono ?_
      rintro e w3 ⟨rfl, hb3⟩
      have HB3 := Lib.hid (HB2.out.trans (hb3.mono HB2.out.size))
      clear hb3
      go_wp2_with fail
      go_ret
      exact ⟨congrArg (fun z => Ending.returned (.string z)) (by rw [HJB.out]; exact congrArg strL HJN.out), HB0.out.trans (HB3.out.mono HB0.out.size)⟩
    · obtain ⟨_, _, _, ⟨na, nd, ne, hcs, ha, hd, he⟩, hb1, hb2⟩ := valid_len HVA.out hk
      simp only [Cx.cn] at hcs hb1 hb2
      have HPL := Lib.hid (fun (V : World) (hb : Below W.heap.size W V) => (partsLen_any c _ _ ⟨#[108, 101, 110]⟩ na nd ne V (HCN.out V hb) hcs ha hd he ⟨hb1, hb2⟩ (HP.out V hb)))
      have i1 := small_itoa (n := na) (by omega) (by omega)
      have i2 := small_itoa (n := nd) (by omega) (by omega)
      have i3 := small_itoa (n := ne) (by omega) (by omega)
      have i4 := small_itoa (n := c.b) (by omega) (by omega)
      have HJB : Hid (fmtX c = Lib.join [[108, 101, 110], Lib.itoa na, Lib.itoa nd, Lib.itoa ne, Lib.itoa c.b] [32]) := Lib.hid (by rw [hbody, join5]; simp [bodyT, Cx.cn, hk, hcs, numsT])
      have hln : Lib.lens [[108, 101, 110], Lib.itoa na, Lib.itoa nd, Lib.itoa ne, Lib.itoa c.b] ≤ 1048576 := by rw [lens5]; simp only [List.length_cons, List.length_nil]; omega
      have hjl : (Lib.join [[108, 101, 110], Lib.itoa na, Lib.itoa nd, Lib.itoa ne, Lib.itoa c.b] [32]).length ≤ 1048576 := by
        rw [join5]
        have := hln
        rw [lens5] at this
        have hq : Lib.lens [[108, 101, 110], Lib.itoa na, Lib.itoa nd, Lib.itoa ne, Lib.itoa c.b] ≤ 200 := by rw [lens5]; simp only [List.length_cons, List.length_nil]; omega
        rw [lens5] at hq
        simp only [List.length_append, List.length_cons, List.length_nil] at hq ⊢
        omega
      have HJN := Lib.hid (joined_yes hjl)
      have HLN := Lib.hid hln
      clear hln hjl hbody hcs ha hd he hb1 hb2 i1 i2 i3 i4
      have HA : Hid (∀ s, formArr s c.k.toNat = #[.int .i64 5, .string ⟨#[108, 101, 110]⟩, .func (.func 83) #[] #[], .func (.func 84) #[] #[], .func (.func 85) #[] #[], .func (.func 86) #[] #[]]) := Lib.hid (fun s => by rw [hk]; rfl)
      clear hk
      go_enter Tryz.func11, Tryz.ntmps11
      go_wp2_with fail
      rw [← HWE.out]
      refine HFO.out.mono ?_
      rintro e w1 ⟨s, hs, hf, rfl, hb1⟩
      rw [HA.out]
      have HB1 := Lib.hid hb1
      clear hf hb1 hs c0 c1 c2 c3 c4 c5 c6 c7
      have hlt1 : w.heap.size < w1.heap.size := by have := HB1.out.size; have := HZW.out; omega
      have hne1 : w.heap.size ≠ w1.heap.size := by omega
      obtain ⟨c0, c1, c2, c3, c4, c5, c6, c7⟩ := HCX.out w1 HB1.out
      go_wp2_with fail
      obtain ⟨V, hVe⟩ : ∃ V, V = w1.alloc (.cells #[.int .i64 5, .string ⟨#[108, 101, 110]⟩, .func (.func 83) #[] #[], .func (.func 84) #[] #[], .func (.func 85) #[] #[], .func (.func 86) #[] #[]] 63) := ⟨_, rfl⟩
      have hbV : Below w1.heap.size w1 V := by rw [hVe]; exact (Below.refl _ _).alloc (Nat.le_refl _) _
      rw [← hVe]
      have HBV := Lib.hid (HB1.out.trans (hbV.mono HB1.out.size))
      clear hVe hbV
      refine (HPL.out V HBV.out).mono ?_
      rintro e w2 ⟨v, rfl, hown, hb2⟩
      obtain ⟨g, cv, rfl, _⟩ := strRow_at (ps := [[108, 101, 110], Lib.itoa na, Lib.itoa nd, Lib.itoa ne, Lib.itoa c.b]) hown (by simp)
      have HOW := Lib.hid hown
      have HB2 := Lib.hid (HBV.out.trans (hb2.mono HBV.out.size))
      clear hown hb2
      go_wp2_with fail
      refine (implJoin_any g cv V.heap.size [[108, 101, 110], Lib.itoa na, Lib.itoa nd, Lib.itoa ne, Lib.itoa c.b] ⟨#[32]⟩ w2 HOW.out (by simp) HLN.out (by decide)).mono ?_
      rintro e w3 ⟨rfl, hb3⟩
      have HB3 := Lib.hid (HB2.out.trans (hb3.mono HB2.out.size))
      clear hb3
      go_wp2_with fail
      go_ret
      exact ⟨congrArg (fun z => Ending.returned (.string z)) (by rw [HJB.out]; exact congrArg strL HJN.out), HB0.out.trans (HB3.out.mono HB0.out.size)⟩
end Go.Proofs.YtjjjdieljljcoaaGreatDoor
