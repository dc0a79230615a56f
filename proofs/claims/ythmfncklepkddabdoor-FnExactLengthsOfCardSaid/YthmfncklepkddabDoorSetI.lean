/-
  What impl.acceptingStates and the methods of impl.stateSet answer: sets of states as numbers.
-/
import Derived.Test.YthmfncklepkddabDoorMskM
import Derived.Test.YthmfncklepkddabDoorDfaX
import Derived.Shelf.Spec.TrailingZeros
namespace Go.Proofs.YthmfncklepkddabDoor
open Go.RowKit

/-- The table that the lowest bit is looked up in. -/
def Tab (w : World) : Prop := TabAt 0 Lib.deBruijn64tab w
theorem Tab.kept {w w' : World} (h : Tab w) (hb : Below w.heap.size w w') : Tab w' := fun j hj => (hb.cell (cell_in (h j hj))).trans (h j hj)

set_option maxRecDepth 100000 in
set_option maxHeartbeats 1000000 in
theorem implTz_core (x k idx : Nat) (w : World) (hx0 : ((x : Int) == 0) = false)
    (key : IntKind.u64.wrap (bits BinOp.and IntKind.u64 (x : Int) (IntKind.u64.wrap (-(x : Int))) * 285870213051353865) / 288230376151711744 = (idx : Int))
    (hi : idx < 64) (hk : k < 64) (hcell : w.cell? ⟨0, idx, none⟩ = some (.int .u8 k)) :
    Calls Tryd.prog 43 #[.int .u64 x] w fun e w' => e = .returned (.int .i64 k) ∧ w = w' := by
  go_enter Tryd.func43, Tryd.ntmps43
  go_wp2_with (simp only [key])
  go_ret
  exact ⟨rfl, rfl⟩
theorem implTz_any (x : Nat) (h0 : x ≠ 0) (hx : x < 18446744073709551616) (w : World) (hT : Tab w) :
    Calls Tryd.prog 43 #[.int .u64 x] w fun e w' => e = .returned (.int .i64 (Lib.ctz 64 x)) ∧ w = w' := by
  obtain ⟨hlow, hk⟩ := Lib.lowest_bit 64 x h0 hx
  obtain ⟨hi, htab⟩ := Lib.deBruijn64_at _ hk
  have hcell := hT _ hi
  rw [htab] at hcell
  exact implTz_core x _ _ w (by simp; omega) (tz64_key x _ hx h0 hlow) hi hk hcell

theorem pow_cast (q : Nat) : ((2 ^ q : Nat) : Int) = (2 : Int) ^ q := by push_cast; rfl
theorem pow_small {q : Nat} (h : q < 64) : 2 ^ q < 18446744073709551616 := by
  have h1 : 2 ^ q < 2 ^ 64 := Nat.pow_lt_pow_right (by decide) h
  omega
theorem shl_u64 {q : Nat} (h : q < 64) : IntKind.u64.wrap (2 ^ q) = (2 : Int) ^ q := by
  have h1 := pow_small h
  rw [IntKind.wrap_u64, ← pow_cast]
  exact Int.emod_eq_of_lt (Int.natCast_nonneg _) (Int.ofNat_lt.2 h1)
theorem or_pow {a q : Nat} (ha : a < 18446744073709551616) (h : q < 64) : bits .or .u64 (a : Int) ((2 : Int) ^ q) = ((a ||| 2 ^ q : Nat) : Int) := by
  rw [← pow_cast]
  exact u64_or_nat a (2 ^ q) ha (pow_small h)
theorem or_one {a : Nat} (ha : a < 18446744073709551616) : bits .or .u64 (a : Int) 1 = ((a ||| 1 : Nat) : Int) := u64_or_nat a 1 ha (by decide)
theorem drop_pow {a q : Nat} (ha : a < 18446744073709551616) (h : q < 64) : bits .andNot .u64 (a : Int) ((2 : Int) ^ q) = ((dropB a q : Nat) : Int) := by
  rw [← pow_cast]
  exact u64_andNot_nat a (2 ^ q) ha (pow_small h)

set_option maxRecDepth 100000 in
set_option maxHeartbeats 1600000 in
theorem implAccSt_any (ad : Addr) (n c : Nat) (vn : Value) (a : Au) (w : World) (hn : n ≤ 40) (hA : ∀ q, q < n → w.cell? (ad.add q) = some (.bool (a.A q))) :
    Calls Tryd.prog 30 #[.agg #[.slice (some ad) n c, vn]] w fun e w' => e = .returned (.int .u64 ((mskS (accS a n) : Nat) : Int)) ∧ Below w.heap.size w w' := by
  obtain ⟨W0, hW0⟩ : ∃ W0, W0 = w.alloc (.cells #[.slice (some ad) n c, vn] 28) := ⟨_, rfl⟩
  have HB0 : Hid (Below w.heap.size w W0) := Lib.hid (by rw [hW0]; exact (Below.refl _ _).alloc (Nat.le_refl _) _)
  obtain ⟨c0, -, -, -⟩ := box2_facts (show W0.heap[w.heap.size]? = some (.cells #[.slice (some ad) n c, vn] 28 (0, 0)) by rw [hW0]; exact heap_alloc_new w _)
  have HA := Lib.hid (fun q (hq : q < n) => (HB0.out.cell (cell_in (hA q hq))).trans (hA q hq))
  have h0 : mskS (accS a 0) = 0 := rfl
  clear hA
  rw [hW0] at c0
  go_enter Tryd.func30, Tryd.ntmps30
  go_wp2_with fail
  rw [← hW0]
  clear c0 hW0
  go_loopw [3, 9] (fun sv iv wr => ∃ q : Nat, sv = .int .u64 ((mskS (accS a q) : Nat) : Int) ∧ iv = .int .i64 q ∧ q ≤ n ∧ W0 = wr) (fun _ iv _ => n - (intOf iv).toNat)
  case atStart => exact ⟨0, by rw [h0]; rfl, rfl, Nat.zero_le _, rfl⟩
  case round =>
    obtain ⟨q, rfl, rfl, hq, rfl⟩ := hrel
    by_cases hlt : q < n
    · have hc := HA.out q hlt
      have hd : decide ((q : Int) < (n : Int)) = true := by simp; omega
      have s1 : (0 : Int) ≤ (q : Int) := by omega
      have s2 : (q : Int) < (n : Int) := by omega
      obtain ⟨b, hb⟩ : ∃ b, b = a.A q := ⟨_, rfl⟩
      rw [← hb] at hc
      cases b with
      | true =>
        have hm1 : mskS (accS a q) < 1099511627776 := mskS_64 (fun p hp => by have := accS_lt hp; omega)
        have hor := or_pow (a := mskS (accS a q)) (q := q) (by omega) (by omega)
        rw [accS_succ_yes hb.symm] at hor
        have hsh := shl_u64 (q := q) (by omega)
        obtain ⟨m, hm⟩ : ∃ m, m = mskS (accS a q) := ⟨_, rfl⟩
        obtain ⟨m2, hm2'⟩ : ∃ m, m = mskS (accS a (q + 1)) := ⟨_, rfl⟩
        rw [← hm, ← hm2'] at hor
        have HE := Lib.hid hm2'
        rw [← hm]
        clear hm1 hm hm2' hb
        go_wp2_with fail
        go_roundw
        case rel => exact ⟨q + 1, by rw [HE.out], by go_num, by omega, trivial⟩
        case measure => simp [intOf]; omega
      | false =>
        have HE := Lib.hid (accS_succ_no hb.symm)
        obtain ⟨m, hm⟩ : ∃ m, m = mskS (accS a q) := ⟨_, rfl⟩
        rw [← hm]
        have HM := Lib.hid hm
        clear hm hb
        go_wp2_with fail
        go_roundw
        case rel => exact ⟨q + 1, by rw [HE.out, HM.out], by go_num, by omega, trivial⟩
        case measure => simp [intOf]; omega
    · obtain rfl : q = n := by omega
      have hd : decide ((q : Int) < (q : Int)) = false := by simp
      go_wp2_with fail
      go_ret
      exact ⟨rfl, HB0.out⟩

theorem implMeets_any (x y : Nat) (hx : x < 18446744073709551616) (hy : y < 18446744073709551616) (w : World) :
    Calls Tryd.prog 31 #[.int .u64 (x : Int), .int .u64 (y : Int)] w fun e w' => e = .returned (.bool (decide (x &&& y ≠ 0))) ∧ w = w' := by
  have hand := u64_and_nat x y hx hy
  obtain ⟨z, hz⟩ : ∃ z, z = x &&& y := ⟨_, rfl⟩
  rw [← hz] at hand ⊢
  have HR : Hid (decide (z ≠ 0) = ((z : Int) != 0)) := Lib.hid (by
    by_cases h : z = 0
    · subst h; rfl
    · simp [h])
  clear hz
  go_enter Tryd.func31, Tryd.ntmps31
  go_wp2_with fail
  go_ret
  exact ⟨congrArg (fun b : Bool => Ending.returned (.bool b)) HR.out.symm, rfl⟩

set_option maxRecDepth 100000 in
set_option maxHeartbeats 3200000 in
theorem implMove_any (va : Value) (aN : Addr) (n c k : Nat) (a : Au) (s : List Nat) (w : World) (hn : n ≤ 40) (hk : k < 3) (hs : ∀ q ∈ s, q < n) (hw : ∀ q, q < n → a.T q k < n) (hT : ∀ q, q < n → ∃ r q', w.cell? (aN.add q) = some (.slice (some r) 3 q') ∧ w.cell? (r.add k) = some (.int .i64 ((a.T q k : Nat) : Int))) (hTab : Tab w) :
    Calls Tryd.prog 41 #[.int .u64 ((mskS s : Nat) : Int), .agg #[va, .slice (some aN) n c], .int .i64 (k : Int)] w fun e w' => e = .returned (.int .u64 ((mskS (moveS a s k) : Nat) : Int)) ∧ Below w.heap.size w w' := by
  obtain ⟨W0, hW0⟩ : ∃ W0, W0 = w.alloc (.cells #[va, .slice (some aN) n c] 28) := ⟨_, rfl⟩
  have HB0 : Hid (Below w.heap.size w W0) := Lib.hid (by rw [hW0]; exact (Below.refl _ _).alloc (Nat.le_refl _) _)
  obtain ⟨-, c1, -, -⟩ := box2_facts (show W0.heap[w.heap.size]? = some (.cells #[va, .slice (some aN) n c] 28 (0, 0)) by rw [hW0]; exact heap_alloc_new w _)
  have HT := Lib.hid (fun q (hq : q < n) => (by
    obtain ⟨r, q', h1, h2⟩ := hT q hq
    exact ⟨r, q', (HB0.out.cell (cell_in h1)).trans h1, (HB0.out.cell (cell_in h2)).trans h2⟩ : ∃ r q', W0.cell? (aN.add q) = some (.slice (some r) 3 q') ∧ W0.cell? (r.add k) = some (.int .i64 ((a.T q k : Nat) : Int))))
  have HTab := Lib.hid (hTab.kept HB0.out)
  have HS := Lib.hid hs
  have HW := Lib.hid hw
  have hm0 := mskS_64 (s := s) (fun q hq => by have := hs q hq; omega)
  have HM0 := Lib.hid (moveOf_start a k s)
  obtain ⟨x0, hx0⟩ : ∃ x, x = mskS s := ⟨_, rfl⟩
  rw [← hx0] at HM0 hm0 ⊢
  have hx64 : x0 < 18446744073709551616 := by omega
  clear hT hTab hs hw hx0 hm0
  go_enter Tryd.func41, Tryd.ntmps41
  go_wp2_with fail
  rw [← hW0]
  clear hW0
  go_loopw [0, 7] (fun sv mv wr => ∃ x m : Nat, sv = .int .u64 (x : Int) ∧ mv = .int .u64 (m : Int) ∧ x < 18446744073709551616 ∧ Hid (MoveOf a k s x m) ∧ W0 = wr) (fun sv _ _ => (intOf sv).toNat)
  case atStart => exact ⟨x0, 0, rfl, rfl, hx64, HM0, rfl⟩
  case round =>
    obtain ⟨x, m, rfl, rfl, hx, HM, rfl⟩ := hrel
    clear HM0 hx64
    by_cases hne : x = 0
    · have HE := Lib.hid (moveOf_end (d := a) (k := k) (s := s) (m := m) (by rw [← hne]; exact HM.out))
      have hd : ((x : Int) != 0) = false := by simp [hne]
      clear hne
      go_wp2_with fail
      go_ret
      exact ⟨congrArg (fun z : Nat => Ending.returned (.int .u64 (z : Int))) HE.out, HB0.out⟩
    · have hd : ((x : Int) != 0) = true := by simp; omega
      obtain ⟨hq64, hbit⟩ := ctz_bit hne hx
      have HTz := Lib.hid (implTz_any x hne hx W0 HTab.out)
      obtain ⟨q, hqe⟩ : ∃ q, q = Lib.ctz 64 x := ⟨_, rfl⟩
      rw [← hqe] at HTz hq64 hbit
      have hqn := HS.out q (HM.out.1 q hbit)
      have hy := HW.out q hqn
      obtain ⟨r, q', h1, h2⟩ := HT.out q hqn
      have hmlt : m < 1099511627776 := Nat.lt_of_lt_of_le (moveOf_lt HM.out (fun p hp => HW.out p (HS.out p hp))) (Nat.pow_le_pow_right (n := 2) (by decide) hn)
      have HM2 := Lib.hid (moveOf_step HM.out hx hq64 hbit)
      have hdl := dropB_lt hx hq64 hbit
      obtain ⟨y, hye⟩ : ∃ y, y = a.T q k := ⟨_, rfl⟩
      rw [← hye] at hy h2 HM2
      have hor := or_pow (a := m) (q := y) (by omega) (by omega)
      have hdr := drop_pow hx hq64
      have hsh1 := shl_u64 (q := y) (by omega)
      have hsh2 := shl_u64 hq64
      obtain ⟨m2, hm2⟩ : ∃ z, z = m ||| 2 ^ y := ⟨_, rfl⟩
      obtain ⟨x2, hx2⟩ : ∃ z, z = dropB x q := ⟨_, rfl⟩
      rw [← hm2] at hor HM2
      rw [← hx2] at hdr HM2 hdl
      have s1 : (0 : Int) ≤ (q : Int) := by omega
      have s2 : (q : Int) < (n : Int) := by omega
      have s3 : (0 : Int) ≤ (k : Int) := by omega
      have s4 : (k : Int) < 3 := by omega
      have s5 : (0 : Int) ≤ (y : Int) := by omega
      clear hqe hye hm2 hx2 hbit hne
      go_wp2_with (go_at_call 43; refine HTz.out.mono ?_; rintro e w' ⟨rfl, rfl⟩)
      go_roundw
      case rel => exact ⟨x2, m2, rfl, rfl, by omega, HM2, trivial⟩
      case measure => simp [intOf]; omega
end Go.Proofs.YthmfncklepkddabDoor
