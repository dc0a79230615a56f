/-
  What the laws' own helpers heldRegex and markRegex answer.
-/
import Derived.Test.YtichpiklgkahbaaMarkRx
namespace Go.Proofs.Ytichpiklgkahbaa
open Go.RowKit

/-- markText, and two cells of an old block. -/
theorem markText_two (n : Nat) (w0 w : World) (a b : Addr) (v u : Value) (h0 : 0 < n) (h1 : n ≤ 9223372036854775807) (hb : Below w0.heap.size w0 w) (ha : a.block < w0.heap.size) (hb0 : b.block < w0.heap.size) (hc : w.cell? a = some v) (hd : w.cell? b = some u) :
    Calls Try.prog 72 #[.int .i64 n] w fun e w' => e = .returned (.string ⟨(markB n).toArray⟩) ∧ (w'.cell? a = some v ∧ w'.cell? b = some u) ∧ Below w0.heap.size w0 w' :=
  (markText_any n w h0 h1).mono fun _ _ ⟨he, h⟩ => ⟨he, ⟨(h.cell (Nat.lt_of_lt_of_le ha hb.size)).trans hc, (h.cell (Nat.lt_of_lt_of_le hb0 hb.size)).trans hd⟩, hb.trans (h.mono hb.size)⟩

set_option maxRecDepth 100000 in
set_option maxHeartbeats 1600000 in
theorem heldS_any (n : Nat) : ∀ (k B : Nat) (v : Value) (f : Fr) (w : World), Sl w B n v (mkF k f) → B ≤ w.heap.size → 0 < k → k + 2 * f.size ≤ 9223372036854775800 →
    Calls Try.prog 47 #[v, .int .i64 k] w fun e w' => e = .returned (.int .i64 ((k + 2 * f.size : Nat) : Int)) ∧ Below w.heap.size w w' := by
  induction n with
  | zero => intro k B v f w h; exact h.zero.elim
  | succ n ih =>
    intro k B v f w hS hB hk0 hkm
    obtain ⟨hl, A, c, rfl, hE⟩ := hS.open
    rw [mk_len] at hl hE ⊢
    have hsz : k + 2 * szs f.items ≤ 9223372036854775800 := by rw [← szs_items]; exact hkm
    have HE := Lib.hid hE
    have HSZ := Lib.hid (szs_items f)
    clear hE hS
    go_enter Try.func47, Try.ntmps47
    go_wp2_with fail
    go_loopw [1, 5] (fun kv i wr => ∃ j q : Nat, i = .int .i64 j ∧ kv = .int .i64 (q : Int) ∧ q = k + 2 * szs (f.items.take j) ∧ j ≤ f.items.length ∧ Below w.heap.size w wr) (fun _ i _ => f.items.length - (intOf i).toNat)
    case atStart => exact ⟨0, k, rfl, rfl, by simp [szs], Nat.zero_le _, Below.refl _ _⟩
    case round =>
      obtain ⟨j, q, rfl, rfl, hq, hj, hb⟩ := hrel
      by_cases hlt : j < f.items.length
      · obtain ⟨g, o, rfl, hg, k1, l1, a1, u, hx, _, he, h4⟩ := HE.out j hlt
        obtain ⟨⟨k2, l2, a2⟩, hx2, rfl, rfl, rfl⟩ := mk_get hx
        have hst := szs_step hx2
        have hle := szs_take f.items (j + 1)
        rw [← hq] at he h4
        obtain ⟨hc0, hc1, hc2⟩ := he.below (hb.mono hB) hg
        obtain ⟨r, hr⟩ : ∃ r, r = q + 2 + 2 * a2.size := ⟨_, rfl⟩
        have HQ2 := Lib.hid (show r = k + 2 * szs (f.items.take (j + 1)) by omega)
        have hq0 : 0 < q := by omega
        have hqm : q + 2 + 2 * a2.size ≤ 9223372036854775800 := by omega
        have hgw : g < w.heap.size := Nat.lt_of_lt_of_le hg hB
        have HI := Lib.hid (fun (w' : World) (hb' : Below w.heap.size w w') => ih (q + 2) B _ a2 w' (h4.mono (hb'.mono hB) (Nat.le_refl _)) (Nat.le_trans hB hb'.size) (by omega) hqm)
        rw [← hr] at HI
        have hneg : decide ((r : Int) < 0) = false := by simp
        have hrm : r ≤ 9223372036854775800 := by omega
        have hp0 : 0 < q + 1 := by omega
        have hp1 : q + 1 ≤ 9223372036854775807 := by omega
        clear hq he h4 hx hx2 hst hle hr
        go_wp2_with fail
        go_region_held3 (fun w' => (w'.cell? ⟨g, o + j * 3 + 1, none⟩ = some (.string ⟨(markB (q + 1)).toArray⟩) ∧ w'.cell? ⟨g, o + j * 3 + 2, none⟩ = some u) ∧ Below w.heap.size w w') (first | exact ⟨⟨hc1, hc2⟩, hb.drew⟩ | exact ⟨⟨hc1, hc2⟩, hb⟩ | go_keep)
          (first | (go_at_call 72; refine (markText_two (q + 1) w _ ⟨g, o + j * 3 + 1, none⟩ ⟨g, o + j * 3 + 2, none⟩ (.string ⟨(markB (q + 1)).toArray⟩) u hp0 hp1 ?_ hgw hgw ?_ ?_).mono ?_; (simp [*]); (simp [*]); (simp [*]); rintro e w' ⟨rfl, ⟨hc1, hc2⟩, hb⟩))
        have HB2 := Lib.hid hb
        clear hb
        go_wp2_with fail
        go_at_call 47
        refine (HI.out _ HB2.out).mono ?_
        rintro e w4 ⟨rfl, hb4⟩
        have HB4 := Lib.hid (HB2.out.trans (hb4.mono HB2.out.size))
        clear hb4
        go_wp2_with fail
        go_roundw
        case rel => exact ⟨j + 1, r, by go_num, rfl, HQ2.out, by omega, HB4.out⟩
        case measure => simp [intOf]; omega
      · have hje : j = f.items.length := by omega
        have hqe : q = k + 2 * f.size := by rw [hq, hje, List.take_length, HSZ.out]
        have HQ := Lib.hid hqe
        have HB := Lib.hid hb
        have hd : decide ((j : Int) < (f.items.length : Int)) = false := by simp; omega
        clear hq hqe hje hb
        go_wp2_with fail
        go_ret
        exact ⟨by rw [HQ.out]; rfl, HB.out⟩

set_option maxRecDepth 100000 in
theorem mark_any (n k : Nat) (S : Nat → Prop) (k1 : Int) (l : ByteArray) (v : Value) (f : Fr) (w : World) (h : SlT w n S v f) (hS : ∀ g, S g → g < w.heap.size) (h0 : 0 < k) (hm : k + 2 * f.size ≤ 9223372036854775800) :
    Calls Try.prog 22 #[.agg #[.int .i64 k1, .string l, v], .int .i64 k] w fun e w' => e = .returned (.int .i64 ((k + 2 * f.size : Nat) : Int)) ∧ SlT w' n S v (mkF k f) ∧ Chg S w w' := by
  obtain ⟨A, c, rfl⟩ := h.shape
  have hb0 := (Below.refl w.heap.size w).alloc (Nat.le_refl _) (.cells #[.int .i64 k1, .string l, .slice A f.items.length c] 26)
  have HI := Lib.hid (markS_any n k S _ f _ (h.mono (fun g hg => hb0.block g (hS g hg)) (fun _ h => h)) (fun g hg => Nat.lt_of_lt_of_le (hS g hg) hb0.size) h0 hm)
  have HB0 := Lib.hid hb0
  obtain ⟨r, hr⟩ : ∃ r, r = k + 2 * f.size := ⟨_, rfl⟩
  rw [← hr] at HI ⊢
  clear hb0 h hr
  go_enter Try.func22, Try.ntmps22
  go_wp2_with fail
  go_at_call 46
  refine HI.out.mono ?_
  rintro e w4 ⟨rfl, h4, hc⟩
  have H4 := Lib.hid h4
  have HC := Lib.hid (show Chg S w w4 from ⟨hc.os.trans HB0.out.os, hc.tape.trans HB0.out.tape, hc.output.trans HB0.out.output, Nat.le_trans HB0.out.size hc.size, fun g hg hn => (hc.block g (Nat.lt_of_lt_of_le hg HB0.out.size) hn).trans (HB0.out.block g hg)⟩)
  clear h4 hc
  go_wp2_with fail
  go_ret
  exact ⟨rfl, H4.out, HC.out⟩

set_option maxRecDepth 100000 in
theorem held_any (n k B : Nat) (k1 : Int) (l : ByteArray) (v : Value) (f : Fr) (w : World) (h : Sl w B n v (mkF k f)) (hB : B ≤ w.heap.size) (h0 : 0 < k) (hm : k + 2 * f.size ≤ 9223372036854775800) :
    Calls Try.prog 23 #[.agg #[.int .i64 k1, .string l, v], .int .i64 k] w fun e w' => e = .returned (.int .i64 ((k + 2 * f.size : Nat) : Int)) ∧ Below w.heap.size w w' := by
  obtain ⟨A, c, rfl⟩ := h.shape
  have hb0 := (Below.refl w.heap.size w).alloc (Nat.le_refl _) (.cells #[.int .i64 k1, .string l, .slice A (mkF k f).items.length c] 26)
  have HI := Lib.hid (heldS_any n k B _ f _ (h.mono (hb0.mono hB) (Nat.le_refl _)) (Nat.le_trans hB hb0.size) h0 hm)
  have HB0 := Lib.hid hb0
  obtain ⟨r, hr⟩ : ∃ r, r = k + 2 * f.size := ⟨_, rfl⟩
  have hneg : decide ((r : Int) < 0) = false := by simp
  rw [← hr] at HI ⊢
  clear hb0 h hr
  go_enter Try.func23, Try.ntmps23
  go_wp2_with fail
  go_at_call 47
  refine HI.out.mono ?_
  rintro e w4 ⟨rfl, hc⟩
  have HC := Lib.hid (HB0.out.trans (hc.mono HB0.out.size))
  clear hc
  go_wp2_with fail
  go_ret
  exact ⟨rfl, HC.out⟩
end Go.Proofs.Ytichpiklgkahbaa
