/-
  The way back: what slices.Index, slices.Contains and slices.IndexFunc answer over numbers and over rows of three, and what impl's firstWordTo answers.
-/
import Derived.Test.YthmfncklepkddaaRevB
import Derived.Test.YthmfncklepkddaaBckM
import Derived.Test.YthmfncklepkddaaFstN
import Derived.Test.YthmfncklepkddaaExpM
import Derived.Test.YthmfncklepkddaaStepOwn
import Derived.Deep.RegionHeld3
import Derived.Deep.RegionLaw
import Derived.Deep.CutRange
namespace Go.Proofs.Ythmfncklepkddaa
open Go.RowKit

/-- The first place below n where p holds, or -1. -/
def ixI (p : Nat → Bool) (n : Nat) : Int := if lst p n < n then (lst p n : Int) else -1
theorem ixI_at {p : Nat → Bool} {n j : Nat} (hj : j < n) (hp : p j = true) (hn : ∀ i, i < j → p i = false) : ixI p n = (j : Int) := by
  obtain ⟨h1, h2, h3⟩ := lst_spec p n
  have e : lst p n = j := by
    rcases Nat.lt_trichotomy (lst p n) j with h | h | h
    · have := h2 (by omega)
      rw [hn _ h] at this
      cases this
    · exact h
    · have := h3 j h
      rw [hp] at this
      cases this
  unfold ixI
  rw [e, if_pos hj]
theorem ixI_none {p : Nat → Bool} {n : Nat} (hn : ∀ i, i < n → p i = false) : ixI p n = -1 := by
  obtain ⟨h1, h2, h3⟩ := lst_spec p n
  unfold ixI
  rw [if_neg]
  intro h
  have := h2 h
  rw [hn _ h] at this
  cases this
theorem ixI_bd (p : Nat → Bool) (n : Nat) : -1 ≤ ixI p n ∧ ixI p n < n ∨ ixI p n = -1 := by
  unfold ixI
  split
  · exact .inl (by omega)
  · exact .inr rfl

set_option maxRecDepth 100000 in
set_option maxHeartbeats 1600000 in
theorem libIxI_any (ad : Addr) (n c : Nat) (f : Nat → Int) (v : Int) (w : World) (hn : n ≤ 2000) (hc : ∀ j, j < n → w.cell? (ad.add j) = some (.int .i64 (f j))) :
    Calls Try.prog 117 #[.slice (some ad) n c, .int .i64 v] w fun e w' => e = .returned (.int .i64 (ixI (fun j => decide (f j = v)) n)) ∧ w = w' := by
  have HC := Lib.hid hc
  clear hc
  go_enter Try.func117, Try.ntmps117
  go_wp2_with fail
  go_loop [8] (fun i => ∃ j : Nat, i = .int .i64 j ∧ j ≤ n ∧ Hid (∀ i, i < j → decide (f i = v) = false)) (fun i => n - (intOf i).toNat)
  case atStart => exact ⟨0, rfl, Nat.zero_le _, Lib.hid (fun i hi => absurd hi (Nat.not_lt_zero _))⟩
  case round =>
    obtain ⟨j, rfl, hj, HA⟩ := hrel
    by_cases hlt : j < n
    · have hcj := HC.out j hlt
      obtain ⟨x, hx⟩ : ∃ x, x = f j := ⟨_, rfl⟩
      rw [← hx] at hcj
      have s0 : (j : Int) < (n : Int) := by omega
      have s1 : (0 : Int) ≤ (j : Int) := by omega
      by_cases e : v = x
      · have HE : Hid (ixI (fun j => decide (f j = v)) n = (j : Int)) := Lib.hid (ixI_at hlt (by simp [← hx, e]) HA.out)
        have hb : (v == x) = true := by simp [e]
        clear hx e HA
        go_wp2_with fail
        go_ret
        exact ⟨congrArg (fun z : Int => Ending.returned (.int .i64 z)) HE.out.symm, rfl⟩
      · have hb : (v == x) = false := by simpa using e
        have HA2 : Hid (∀ i, i < j + 1 → decide (f i = v) = false) := Lib.hid (fun i hi => by
          by_cases e2 : i = j
          · rw [e2, ← hx]
            simp
            exact fun h => e h.symm
          · exact HA.out i (by omega))
        clear hx e HA
        go_wp2_with fail
        go_round
        case rel => exact ⟨j + 1, by go_num, by omega, HA2⟩
        case measure => simp [intOf]; omega
    · have HE : Hid (ixI (fun j => decide (f j = v)) n = -1) := Lib.hid (ixI_none (fun i hi => HA.out i (by omega)))
      clear HA
      go_wp2_with fail
      go_ret
      exact ⟨congrArg (fun z : Int => Ending.returned (.int .i64 z)) HE.out.symm, rfl⟩

/-- Whether a row of three holds q. -/
def hasR (f : Nat → Int) (q : Int) : Bool := decide (0 ≤ ixI (fun j => decide (f j = q)) 3)
theorem hasR_yes {f : Nat → Int} {q : Int} {j : Nat} (hj : j < 3) (h : f j = q) (hn : ∀ i, i < j → f i ≠ q) : hasR f q = true := by
  unfold hasR
  rw [ixI_at hj (by simp [h]) (fun i hi => by simpa using hn i hi)]
  simp
theorem hasR_no {f : Nat → Int} {q : Int} (hn : ∀ i, i < 3 → f i ≠ q) : hasR f q = false := by
  unfold hasR
  rw [ixI_none (fun i hi => by simpa using hn i hi)]
  decide

set_option maxRecDepth 100000 in
theorem libConI_any (ad : Addr) (c : Nat) (f : Nat → Int) (v : Int) (w : World) (hc : ∀ j, j < 3 → w.cell? (ad.add j) = some (.int .i64 (f j))) :
    Calls Try.prog 116 #[.slice (some ad) 3 c, .int .i64 v] w fun e w' => e = .returned (.bool (hasR f v)) ∧ w = w' := by
  have HI := Lib.hid (libIxI_any ad 3 c f v w (by omega) hc)
  clear hc
  go_enter Try.func116, Try.ntmps116
  go_wp2_with fail
  go_at_call 117
  refine HI.out.mono ?_
  rintro e w' ⟨rfl, rfl⟩
  obtain ⟨z, hz⟩ : ∃ z, z = ixI (fun j => decide (f j = v)) 3 := ⟨_, rfl⟩
  have HZ : Hid (hasR f v = decide (0 ≤ z)) := Lib.hid (by rw [hz]; rfl)
  rw [← hz]
  clear hz
  go_wp2_with fail
  go_ret
  exact ⟨congrArg (fun b : Bool => Ending.returned (.bool b)) HZ.out.symm, rfl⟩

set_option maxRecDepth 100000 in
set_option maxHeartbeats 1600000 in
theorem implHas_any (bq : Nat) (f : Nat → Int) (q : Int) (w : World) (c0 : w.cell? ⟨bq, 0, none⟩ = some (.int .i64 q)) :
    Calls Try.prog 115 #[.agg #[.int .i64 (f 0), .int .i64 (f 1), .int .i64 (f 2)], .pointer (some ⟨bq, 0, none⟩)] w fun e w' => e = .returned (.bool (hasR f q)) ∧ Below w.heap.size w w' := by
  obtain ⟨W0, hW0⟩ : ∃ W0, W0 = w.alloc (.cells #[.int .i64 (f 0), .int .i64 (f 1), .int .i64 (f 2)] 115) := ⟨_, rfl⟩
  have hb0 : Below w.heap.size w W0 := by rw [hW0]; exact (Below.refl _ _).alloc (Nat.le_refl _) _
  have hx : Bx3 W0 w.heap.size (.int .i64 (f 0)) (.int .i64 (f 1)) (.int .i64 (f 2)) 115 := by rw [hW0]; exact Bx3.new w _ _ _ _
  have HK := Lib.hid (fun (V : World) (hV : Below W0.heap.size W0 V) => (hV.cell (cell_in ((hb0.cell (cell_in c0)).trans c0))).trans ((hb0.cell (cell_in c0)).trans c0))
  have HC := Lib.hid (fun (V : World) (hV : Below W0.heap.size W0 V) => libConI_any ⟨w.heap.size, 0, none⟩ 3 f q V (fun j hj => by
    have hv := (hx.same (hV.block _ hx.lt)).facts.1
    rw [Addr.add_lit, Nat.zero_add]
    rcases (show j = 0 ∨ j = 1 ∨ j = 2 by omega) with rfl | rfl | rfl
    · exact hv.1
    · exact hv.2.1
    · exact hv.2.2))
  have HB0 := Lib.hid hb0
  have hbw : Below W0.heap.size W0 W0 := Below.refl _ _
  obtain ⟨b, hb⟩ : ∃ b, b = hasR f q := ⟨_, rfl⟩
  rw [← hb] at HC ⊢
  clear c0 hx hb0 hb
  go_enter Try.func115, Try.ntmps115
  go_upto_region 1 with fail
  rw [← hW0]
  clear hW0
  go_region_held3 (fun V => V.cell? ⟨bq, 0, none⟩ = some (.int .i64 q)) (first | exact HK.out _ hbw.drew | exact HK.out _ hbw) (first | (go_at_call 116; (with_reducible refine (HC.out _ hbw.drew).mono ?_); rintro e wa ⟨rfl, rfl⟩; have hbw := hbw.drew))
  go_wp2_with fail
  go_ret
  exact ⟨rfl, HB0.out.trans (hbw.mono HB0.out.size)⟩

/-- The first place, behind calls that make memory. -/
def IxPost (p : Nat → Bool) (n : Nat) (w : World) (e : Ending) (w' : World) : Prop := e = .returned (.int .i64 (ixI p n)) ∧ Below w.heap.size w w'
set_option maxRecDepth 100000 in
set_option maxHeartbeats 1600000 in
theorem libIxR_any (gr cr n bq : Nat) (T : Nat → Nat → Int) (q : Int) (w : World) (hn : n ≤ 2000) (hT : ∀ b, b < n → ∀ k, k < 3 → w.cell? ⟨gr, b * 3 + k, none⟩ = some (.int .i64 (T b k))) (c0 : w.cell? ⟨bq, 0, none⟩ = some (.int .i64 q)) :
    Calls Try.prog 114 #[.slice (some ⟨gr, 0, none⟩) n cr, .func (.func 115) #[] #[.pointer (some ⟨bq, 0, none⟩)]] w (IxPost (fun b => hasR (T b) q) n w) := by
  have HT := Lib.hid hT
  have HQ := Lib.hid c0
  clear hT c0
  go_enter Try.func114, Try.ntmps114
  go_wp2_with fail
  go_loopw [8] (fun i wr => ∃ j : Nat, i = .int .i64 j ∧ j ≤ n ∧ Hid (Below w.heap.size w wr) ∧ Hid (∀ i, i < j → hasR (T i) q = false)) (fun i _ => n - (intOf i).toNat)
  case atStart => exact ⟨0, rfl, Nat.zero_le _, Lib.hid (Below.refl _ _), Lib.hid (fun i hi => absurd hi (Nat.not_lt_zero _))⟩
  case round =>
    obtain ⟨j, rfl, hj, HB, HA⟩ := hrel
    by_cases hlt : j < n
    · have t0 := HT.out j hlt 0 (by omega)
      have t1 := HT.out j hlt 1 (by omega)
      have t2 := HT.out j hlt 2 (by omega)
      have u0 := (HB.out.cell (cell_in t0)).trans t0
      have u1 := (HB.out.cell (cell_in t1)).trans t1
      have u2 := (HB.out.cell (cell_in t2)).trans t2
      rw [Nat.add_zero] at u0
      have HC := Lib.hid (implHas_any bq (T j) q wr ((HB.out.cell (cell_in HQ.out)).trans HQ.out))
      obtain ⟨x0, hx0⟩ : ∃ x, x = T j 0 := ⟨_, rfl⟩
      obtain ⟨x1, hx1⟩ : ∃ x, x = T j 1 := ⟨_, rfl⟩
      obtain ⟨x2, hx2⟩ : ∃ x, x = T j 2 := ⟨_, rfl⟩
      obtain ⟨b, hb⟩ : ∃ b, b = hasR (T j) q := ⟨_, rfl⟩
      rw [← hx0] at u0 HC
      rw [← hx1] at u1 HC
      rw [← hx2] at u2 HC
      rw [← hb] at HC
      have HBb := Lib.hid hb
      have s0 : (j : Int) < (n : Int) := by omega
      have s1 : (0 : Int) ≤ (j : Int) := by omega
      clear t0 t1 t2 hx0 hx1 hx2 hb
      go_wp2_with fail
      refine HC.out.mono ?_
      rintro e w1 ⟨rfl, hb1⟩
      have HB1 := Lib.hid (HB.out.trans (hb1.mono HB.out.size))
      clear u0 u1 u2 hb1
      cases b with
      | true =>
        have HE : Hid (ixI (fun b => hasR (T b) q) n = (j : Int)) := Lib.hid (ixI_at hlt HBb.out.symm HA.out)
        clear HA
        go_wp2_with fail
        go_ret
        exact ⟨congrArg (fun z : Int => Ending.returned (.int .i64 z)) HE.out.symm, HB1.out⟩
      | false =>
        have HA2 : Hid (∀ i, i < j + 1 → hasR (T i) q = false) := Lib.hid (fun i hi => by
          by_cases e2 : i = j
          · rw [e2]
            exact HBb.out.symm
          · exact HA.out i (by omega))
        clear HA
        go_wp2_with fail
        go_roundw
        case rel => exact ⟨j + 1, by go_num, by omega, HB1, HA2⟩
        case measure => simp [intOf]; omega
    · have HE : Hid (ixI (fun b => hasR (T b) q) n = -1) := Lib.hid (ixI_none (fun i hi => HA.out i (by omega)))
      clear HA
      go_wp2_with fail
      go_ret
      exact ⟨congrArg (fun z : Int => Ending.returned (.int .i64 z)) HE.out.symm, HB.out⟩
end Go.Proofs.Ythmfncklepkddaa
