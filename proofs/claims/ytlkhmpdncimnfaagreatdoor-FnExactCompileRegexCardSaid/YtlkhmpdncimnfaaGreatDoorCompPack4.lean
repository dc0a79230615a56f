/-
  Texts of one proof, one behind the other.
-/
import Derived.Shelf.Spec.TrailingZeros
import Derived.Test.YtlkhmpdncimnfaaGreatDoorRows
import Derived.Lib.LaidTab
import Derived.LaidSub
import Derived.StillTailTactics
import Derived.OwnWalk
import Derived.WalkKit
import Derived.WalkSpells
import Derived.WalkLawsBesides
import Derived.Laws.IdiomStrings
import Derived.Lib.ItoaNum
import Derived.Lib.ItoaLen
import Derived.Lib.ItoaMem
import Derived.Lib.Hide
import Derived.Deep.QuietTactic
import Derived.BigQuiet
import Derived.RegionTactic
import Derived.Deep.RegionHeld3
import Derived.Outline
import Derived.Test.YtlkhmpdncimnfaaGreatDoorCompPack3

/-
  What impl.acceptingStates and the methods of impl.stateSet answer: sets of states as numbers.
-/
namespace Go.Proofs.YtlkhmpdncimnfaaGreatDoor
open Go.RowKit

/-- The table that the lowest bit is looked up in. -/
def Tab (w : World) : Prop := TabAt 0 Lib.deBruijn64tab w
theorem Tab.kept {w w' : World} (h : Tab w) (hb : Below w.heap.size w w') : Tab w' := fun j hj => (hb.cell (cell_in (h j hj))).trans (h j hj)

set_option maxRecDepth 100000 in
set_option maxHeartbeats 1000000 in
theorem implTz_core (x k idx : Nat) (w : World) (hx0 : ((x : Int) == 0) = false)
    (key : IntKind.u64.wrap (bits BinOp.and IntKind.u64 (x : Int) (IntKind.u64.wrap (-(x : Int))) * 285870213051353865) / 288230376151711744 = (idx : Int))
    (hi : idx < 64) (hk : k < 64) (hcell : w.cell? ⟨0, idx, none⟩ = some (.int .u8 k)) :
    Calls Tryz.prog 93 #[.int .u64 x] w fun e w' => e = .returned (.int .i64 k) ∧ w = w' := by
  go_enter Tryz.func93, Tryz.ntmps93
  go_wp2_with (simp only [key])
  go_ret
  exact ⟨rfl, rfl⟩
theorem implTz_any (x : Nat) (h0 : x ≠ 0) (hx : x < 18446744073709551616) (w : World) (hT : Tab w) :
    Calls Tryz.prog 93 #[.int .u64 x] w fun e w' => e = .returned (.int .i64 (Lib.ctz 64 x)) ∧ w = w' := by
  obtain ⟨hlow, hk⟩ := Lib.lowest_bit 64 x h0 hx
  obtain ⟨hi, htab⟩ := Lib.deBruijn64_at _ hk
  have hcell := hT _ hi
  rw [htab] at hcell
  exact implTz_core x _ _ w (by simp; omega) (tz64_key x _ hx h0 hlow) hi hk hcell

theorem pow_cast (q : Nat) : ((2 ^ q : Nat) : Int) = (2 : Int) ^ q := by push_cast; rfl
theorem pow_small {q : Nat} (h : q < 64) : 2 ^ q < 18446744073709551616 := by
  have h1 : 2 ^ q < 2 ^ 64 := Nat.pow_lt_pow_right (by decide) h
  omega
theorem shl_u64 {q : Nat} (h : q < 64) : IntKind.u64.wrap (2 ^ q) = (2 : Int) ^ q := by
  have h1 := pow_small h
  rw [IntKind.wrap_u64, ← pow_cast]
  exact Int.emod_eq_of_lt (Int.natCast_nonneg _) (Int.ofNat_lt.2 h1)
theorem or_pow {a q : Nat} (ha : a < 18446744073709551616) (h : q < 64) : bits .or .u64 (a : Int) ((2 : Int) ^ q) = ((a ||| 2 ^ q : Nat) : Int) := by
  rw [← pow_cast]
  exact u64_or_nat a (2 ^ q) ha (pow_small h)
theorem or_one {a : Nat} (ha : a < 18446744073709551616) : bits .or .u64 (a : Int) 1 = ((a ||| 1 : Nat) : Int) := u64_or_nat a 1 ha (by decide)
theorem drop_pow {a q : Nat} (ha : a < 18446744073709551616) (h : q < 64) : bits .andNot .u64 (a : Int) ((2 : Int) ^ q) = ((dropB a q : Nat) : Int) := by
  rw [← pow_cast]
  exact u64_andNot_nat a (2 ^ q) ha (pow_small h)

set_option maxRecDepth 100000 in
set_option maxHeartbeats 1600000 in
theorem implAccSt_any (ad : Addr) (n c : Nat) (vn : Value) (a : Au) (w : World) (hn : n ≤ 40) (hA : ∀ q, q < n → w.cell? (ad.add q) = some (.bool (a.A q))) :
    Calls Tryz.prog 73 #[.agg #[.slice (some ad) n c, vn]] w fun e w' => e = .returned (.int .u64 ((mskS (accS a n) : Nat) : Int)) ∧ Below w.heap.size w w' := by
  obtain ⟨W0, hW0⟩ : ∃ W0, W0 = w.alloc (.cells #[.slice (some ad) n c, vn] 29) := ⟨_, rfl⟩
  have HB0 : Hid (Below w.heap.size w W0) := Lib.hid (by rw [hW0]; exact (Below.refl _ _).alloc (Nat.le_refl _) _)
  obtain ⟨c0, -, -, -⟩ := box2_facts (show W0.heap[w.heap.size]? = some (.cells #[.slice (some ad) n c, vn] 29 (0, 0)) by rw [hW0]; exact heap_alloc_new w _)
  have HA := Lib.hid (fun q (hq : q < n) => (HB0.out.cell (cell_in (hA q hq))).trans (hA q hq))
  have h0 : mskS (accS a 0) = 0 := rfl
  clear hA
  rw [hW0] at c0
  go_enter Tryz.func73, Tryz.ntmps73
  go_wp2_with fail
  rw [← hW0]
  clear c0 hW0
  go_loopw [3, 9] (fun sv iv wr => ∃ q : Nat, sv = .int .u64 ((mskS (accS a q) : Nat) : Int) ∧ iv = .int .i64 q ∧ q ≤ n ∧ W0 = wr) (fun _ iv _ => n - (intOf iv).toNat)
  case atStart => exact ⟨0, by rw [h0]; rfl, rfl, Nat.zero_le _, rfl⟩
  case round =>
    obtain ⟨q, rfl, rfl, hq, rfl⟩ := hrel
    by_cases hlt : q < n
    · have hc := HA.out q hlt
      have hd : decide ((q : Int) < (n : Int)) = true := by simp; omega
      have s1 : (0 : Int) ≤ (q : Int) := by omega
      have s2 : (q : Int) < (n : Int) := by omega
      obtain ⟨b, hb⟩ : ∃ b, b = a.A q := ⟨_, rfl⟩
      rw [← hb] at hc
      cases b with
      | true =>
        have hm1 : mskS (accS a q) < 1099511627776 := mskS_64 (fun p hp => by have := accS_lt hp; omega)
        have hor := or_pow (a := mskS (accS a q)) (q := q) (by omega) (by omega)
        rw [accS_succ_yes hb.symm] at hor
        have hsh := shl_u64 (q := q) (by omega)
        obtain ⟨m, hm⟩ : ∃ m, m = mskS (accS a q) := ⟨_, rfl⟩
        obtain ⟨m2, hm2'⟩ : ∃ m, m = mskS (accS a (q + 1)) := ⟨_, rfl⟩
        rw [← hm, ← hm2'] at hor
        have HE := Lib.hid hm2'
        rw [← hm]
        clear hm1 hm hm2' hb
        go_wp2_with fail
        go_roundw
        case rel => exact ⟨q + 1, by rw [HE.out], by go_num, by omega, trivial⟩
        case measure => simp [intOf]; omega
      | false =>
        have HE := Lib.hid (accS_succ_no hb.symm)
        obtain ⟨m, hm⟩ : ∃ m, m = mskS (accS a q) := ⟨_, rfl⟩
        rw [← hm]
        have HM := Lib.hid hm
        clear hm hb
        go_wp2_with fail
        go_roundw
        case rel => exact ⟨q + 1, by rw [HE.out, HM.out], by go_num, by omega, trivial⟩
        case measure => simp [intOf]; omega
    · obtain rfl : q = n := by omega
      have hd : decide ((q : Int) < (q : Int)) = false := by simp
      go_wp2_with fail
      go_ret
      exact ⟨rfl, HB0.out⟩

theorem implMeets_any (x y : Nat) (hx : x < 18446744073709551616) (hy : y < 18446744073709551616) (w : World) :
    Calls Tryz.prog 75 #[.int .u64 (x : Int), .int .u64 (y : Int)] w fun e w' => e = .returned (.bool (decide (x &&& y ≠ 0))) ∧ w = w' := by
  have hand := u64_and_nat x y hx hy
  obtain ⟨z, hz⟩ : ∃ z, z = x &&& y := ⟨_, rfl⟩
  rw [← hz] at hand ⊢
  have HR : Hid (decide (z ≠ 0) = ((z : Int) != 0)) := Lib.hid (by
    by_cases h : z = 0
    · subst h; rfl
    · simp [h])
  clear hz
  go_enter Tryz.func75, Tryz.ntmps75
  go_wp2_with fail
  go_ret
  exact ⟨congrArg (fun b : Bool => Ending.returned (.bool b)) HR.out.symm, rfl⟩

set_option maxRecDepth 100000 in
set_option maxHeartbeats 3200000 in
theorem implMove_any (va : Value) (aN : Addr) (n c k : Nat) (a : Au) (s : List Nat) (w : World) (hn : n ≤ 40) (hk : k < 3) (hs : ∀ q ∈ s, q < n) (hw : ∀ q, q < n → a.T q k < n) (hT : ∀ q, q < n → ∃ r q', w.cell? (aN.add q) = some (.slice (some r) 3 q') ∧ w.cell? (r.add k) = some (.int .i64 ((a.T q k : Nat) : Int))) (hTab : Tab w) :
    Calls Tryz.prog 72 #[.int .u64 ((mskS s : Nat) : Int), .agg #[va, .slice (some aN) n c], .int .i64 (k : Int)] w fun e w' => e = .returned (.int .u64 ((mskS (moveS a s k) : Nat) : Int)) ∧ Below w.heap.size w w' := by
  obtain ⟨W0, hW0⟩ : ∃ W0, W0 = w.alloc (.cells #[va, .slice (some aN) n c] 29) := ⟨_, rfl⟩
  have HB0 : Hid (Below w.heap.size w W0) := Lib.hid (by rw [hW0]; exact (Below.refl _ _).alloc (Nat.le_refl _) _)
  obtain ⟨-, c1, -, -⟩ := box2_facts (show W0.heap[w.heap.size]? = some (.cells #[va, .slice (some aN) n c] 29 (0, 0)) by rw [hW0]; exact heap_alloc_new w _)
  have HT := Lib.hid (fun q (hq : q < n) => (by
    obtain ⟨r, q', h1, h2⟩ := hT q hq
    exact ⟨r, q', (HB0.out.cell (cell_in h1)).trans h1, (HB0.out.cell (cell_in h2)).trans h2⟩ : ∃ r q', W0.cell? (aN.add q) = some (.slice (some r) 3 q') ∧ W0.cell? (r.add k) = some (.int .i64 ((a.T q k : Nat) : Int))))
  have HTab := Lib.hid (hTab.kept HB0.out)
  have HS := Lib.hid hs
  have HW := Lib.hid hw
  have hm0 := mskS_64 (s := s) (fun q hq => by have := hs q hq; omega)
  have HM0 := Lib.hid (moveOf_start a k s)
  obtain ⟨x0, hx0⟩ : ∃ x, x = mskS s := ⟨_, rfl⟩
  rw [← hx0] at HM0 hm0 ⊢
  have hx64 : x0 < 18446744073709551616 := by omega
  clear hT hTab hs hw hx0 hm0
  go_enter Tryz.func72, Tryz.ntmps72
  go_wp2_with fail
  rw [← hW0]
  clear hW0
  go_loopw [0, 7] (fun sv mv wr => ∃ x m : Nat, sv = .int .u64 (x : Int) ∧ mv = .int .u64 (m : Int) ∧ x < 18446744073709551616 ∧ Hid (MoveOf a k s x m) ∧ W0 = wr) (fun sv _ _ => (intOf sv).toNat)
  case atStart => exact ⟨x0, 0, rfl, rfl, hx64, HM0, rfl⟩
  case round =>
    obtain ⟨x, m, rfl, rfl, hx, HM, rfl⟩ := hrel
    clear HM0 hx64
    by_cases hne : x = 0
    · have HE := Lib.hid (moveOf_end (d := a) (k := k) (s := s) (m := m) (by rw [← hne]; exact HM.out))
      have hd : ((x : Int) != 0) = false := by simp [hne]
      clear hne
      go_wp2_with fail
      go_ret
      exact ⟨congrArg (fun z : Nat => Ending.returned (.int .u64 (z : Int))) HE.out, HB0.out⟩
    · have hd : ((x : Int) != 0) = true := by simp; omega
      obtain ⟨hq64, hbit⟩ := ctz_bit hne hx
      have HTz := Lib.hid (implTz_any x hne hx W0 HTab.out)
      obtain ⟨q, hqe⟩ : ∃ q, q = Lib.ctz 64 x := ⟨_, rfl⟩
      rw [← hqe] at HTz hq64 hbit
      have hqn := HS.out q (HM.out.1 q hbit)
      have hy := HW.out q hqn
      obtain ⟨r, q', h1, h2⟩ := HT.out q hqn
      have hmlt : m < 1099511627776 := Nat.lt_of_lt_of_le (moveOf_lt HM.out (fun p hp => HW.out p (HS.out p hp))) (Nat.pow_le_pow_right (n := 2) (by decide) hn)
      have HM2 := Lib.hid (moveOf_step HM.out hx hq64 hbit)
      have hdl := dropB_lt hx hq64 hbit
      obtain ⟨y, hye⟩ : ∃ y, y = a.T q k := ⟨_, rfl⟩
      rw [← hye] at hy h2 HM2
      have hor := or_pow (a := m) (q := y) (by omega) (by omega)
      have hdr := drop_pow hx hq64
      have hsh1 := shl_u64 (q := y) (by omega)
      have hsh2 := shl_u64 hq64
      obtain ⟨m2, hm2⟩ : ∃ z, z = m ||| 2 ^ y := ⟨_, rfl⟩
      obtain ⟨x2, hx2⟩ : ∃ z, z = dropB x q := ⟨_, rfl⟩
      rw [← hm2] at hor HM2
      rw [← hx2] at hdr HM2 hdl
      have s1 : (0 : Int) ≤ (q : Int) := by omega
      have s2 : (q : Int) < (n : Int) := by omega
      have s3 : (0 : Int) ≤ (k : Int) := by omega
      have s4 : (k : Int) < 3 := by omega
      have s5 : (0 : Int) ≤ (y : Int) := by omega
      clear hqe hye hm2 hx2 hbit hne
      go_wp2_with (go_at_call 93; refine HTz.out.mono ?_; rintro e w' ⟨rfl, rfl⟩)
      go_roundw
      case rel => exact ⟨x2, m2, rfl, rfl, by omega, HM2, trivial⟩
      case measure => simp [intOf]; omega
end Go.Proofs.YtlkhmpdncimnfaaGreatDoor

/-
  From the row's condition on the listed variable to what the walks ask of the world.
-/
namespace Go.Proofs.YtlkhmpdncimnfaaGreatDoor
open Go.RowKit

theorem gTab : Tryz.prog.globalNamed "math/bits.deBruijn64tab" = some 0 := by kernel_rfl
theorem tab_of_laid {l : List (String × DataW Unit)} {W : World} (hp : (l.all fun x => x.2.handleName?.isNone) = true)
    (hf : (l.filter fun x => x.1 == "math/bits.deBruijn64tab") = [("math/bits.deBruijn64tab", Rows.laid_math_bits_deBruijn64tab)])
    (h : laidMetH Tryz.prog l W) : Tab W := by
  rw [MakeChecks.laidMetH_plain _ _ _ hp] at h
  have h1 := h.filter fun x => x.1 == "math/bits.deBruijn64tab"
  rw [hf] at h1
  have h2 : Lib.TabIs Tryz.prog W "math/bits.deBruijn64tab" .u8 (Lib.deBruijn64tab.map fun x : Nat => (x : Int)) :=
    Lib.tabIs_of_head (t := 151) (e := 5) (n := 64) gTab (by kernel_rfl) Tryz.underlying151 Tryz.underlying5 (by kernel_rfl) (by kernel_rfl) h1
  intro j hj
  have h3 := Lib.TabIs.cell h2 gTab j (by rw [List.length_map]; exact hj)
  rw [h3]
  simp [List.getD_eq_getElem?_getD, hj]
theorem catR_wt {a b y : Dx} {ok : Bool} (h : catR a b y ok) : wtD y ≤ 1048576 := by
  unfold catR at h
  split at h
  · exact srchR_wt h
  · rw [h.1]; decide
theorem starR_wt {d y : Dx} {ok : Bool} (h : starR d y ok) : wtD y ≤ 1048576 := by
  unfold starR at h
  split at h
  · exact srchR_wt h
  · rw [h.1]; decide
end Go.Proofs.YtlkhmpdncimnfaaGreatDoor

/-
  What laws.szRegex and laws.szRegexS answer: what is left of a number behind the nodes and the letters of an expression, or -1.
  What laws.eqRegex and laws.eqRegexS answer of the same expression in two places: true.
-/
namespace Go.Proofs.YtlkhmpdncimnfaaGreatDoor
open Go.RowKit

/-- Nodes and letters. -/
def wt : Fr → Nat
  | .nil => 0
  | .cons _ l a r => wt a + wt r + 1 + l.size
def wtL (L : List (Int × ByteArray × Fr)) : Nat := (L.map fun x => x.2.1.size + wt x.2.2).sum
theorem wt_items : ∀ f : Fr, wt f = f.items.length + wtL f.items
  | .nil => rfl
  | .cons _ l a r => by
    have := wt_items r
    simp only [wt, Fr.items, wtL, List.map_cons, List.sum_cons, List.length_cons] at this ⊢
    omega
theorem wtL_step {f : Fr} {j : Nat} {k : Int} {l : ByteArray} {a : Fr} (h : f.items[j]? = some (k, l, a)) : wtL (f.items.take (j + 1)) = wtL (f.items.take j) + (l.size + wt a) := by
  have hlt := (List.getElem?_eq_some_iff.1 h).1
  rw [List.take_succ_eq_append_getElem hlt, (List.getElem?_eq_some_iff.1 h).2]
  simp [wtL]
theorem wtL_take : ∀ (L : List (Int × ByteArray × Fr)) (j : Nat), wtL (L.take j) ≤ wtL L
  | _, 0 => by simp [wtL]
  | [], _ + 1 => Nat.le_refl _
  | x :: r, j + 1 => by
    have := wtL_take r j
    simp only [wtL, List.take_succ_cons, List.map_cons, List.sum_cons] at this ⊢
    omega
theorem size_wt : ∀ f : Fr, f.size ≤ wt f
  | .nil => Nat.le_refl _
  | .cons _ l a r => by
    have := size_wt a
    have := size_wt r
    simp only [Fr.size, wt]
    omega


set_option maxHeartbeats 800000 in
theorem szNode_of {n : Nat} (ih : ∀ (B : Nat) (u : Value) (f : Fr) (z : Int) (w : World), Sl w B n u f → B ≤ w.heap.size → 0 ≤ z → z ≤ 1048576 → Calls Tryz.prog 13 #[u, .int .i64 z] w (SzPost (wt f) z w))
    (B : Nat) (k : Int) (l : ByteArray) (u : Value) (a : Fr) (z : Int) (w : World) (hS : Sl w B n u a) (hB : B ≤ w.heap.size) (hl : l.size ≤ 9223372036854775807) (hz0 : 0 ≤ z) (hz1 : z ≤ 1048576) :
    Calls Tryz.prog 4 #[.agg #[.int .i64 k, .string l, u], .int .i64 z] w (SzPost (l.size + wt a) z w) := by
  have HB0 := Lib.hid ((Below.refl w.heap.size w).alloc (Nat.le_refl _) (.cells #[.int .i64 k, .string l, u] 24))
  by_cases h1 : (l.size : Int) ≤ z
  · have HI := Lib.hid (fun wr (hb : Below w.heap.size w wr) (hz : B ≤ wr.heap.size) => ih B u a (z - l.size) wr (hS.mono (hb.mono hB) (Nat.le_refl _)) hz (by omega) (by omega))
    clear hS
    by_cases h2 : (wt a : Int) ≤ z - l.size
    · have HR : Hid (leftOf (l.size + wt a) z = z - l.size - wt a) := Lib.hid (by rw [leftOf_yes (by omega)]; omega)
      go_enter Tryz.func4, Tryz.ntmps4
      go_wp2_with fail
      refine (HI.out _ HB0.out (by simp; omega)).mono ?_
      rintro e w1 ⟨he, hb1⟩
      rw [leftOf_yes h2] at he
      subst he
      have HW1 := Lib.hid (HB0.out.trans (hb1.mono (by simp)))
      clear hb1
      go_wp2_with fail
      go_ret
      exact ⟨congrArg (fun z : Int => Ending.returned (.int .i64 z)) HR.out.symm, HW1.out⟩
    · have HR : Hid (leftOf (l.size + wt a) z = -1) := Lib.hid (by rw [leftOf_no (by omega)])
      go_enter Tryz.func4, Tryz.ntmps4
      go_wp2_with fail
      refine (HI.out _ HB0.out (by simp; omega)).mono ?_
      rintro e w1 ⟨he, hb1⟩
      rw [leftOf_no (by omega)] at he
      subst he
      have HW1 := Lib.hid (HB0.out.trans (hb1.mono (by simp)))
      clear hb1
      go_wp2_with fail
      go_ret
      exact ⟨congrArg (fun z : Int => Ending.returned (.int .i64 z)) HR.out.symm, HW1.out⟩
  · have HR : Hid (leftOf (l.size + wt a) z = -1) := Lib.hid (by rw [leftOf_no (by omega)])
    clear hS
    go_enter Tryz.func4, Tryz.ntmps4
    go_wp2_with fail
    go_ret
    exact ⟨congrArg (fun z : Int => Ending.returned (.int .i64 z)) HR.out.symm, HB0.out⟩

set_option maxHeartbeats 1600000 in
theorem szS_any (n : Nat) : ∀ (B : Nat) (v : Value) (f : Fr) (z : Int) (w : World), Sl w B n v f → B ≤ w.heap.size → 0 ≤ z → z ≤ 1048576 → Calls Tryz.prog 13 #[v, .int .i64 z] w (SzPost (wt f) z w) := by
  induction n with
  | zero => intro B v f z w h; exact h.zero.elim
  | succ n ih =>
    intro B v f z w hS hB hz0 hz1
    obtain ⟨hl, A, c, rfl, hE⟩ := hS.open
    have HE := Lib.hid hE
    clear hE hS
    have HWT := Lib.hid (wt_items f)
    by_cases hlen : (f.items.length : Int) ≤ z
    · have hneg : ¬ z - (f.items.length : Int) < 0 := by omega
      go_enter Tryz.func13, Tryz.ntmps13
      go_wp2_with fail
      go_loopw [1, 5] (fun y i wr => ∃ j : Nat, i = .int .i64 j ∧ y = .int .i64 (z - f.items.length - wtL (f.items.take j)) ∧ (f.items.length : Int) + wtL (f.items.take j) ≤ z ∧ j ≤ f.items.length ∧ Below w.heap.size w wr) (fun _ i _ => f.items.length - (intOf i).toNat)
      case atStart => exact ⟨0, rfl, by simp [wtL], by simp [wtL]; omega, Nat.zero_le _, Below.refl _ _⟩
      case round =>
        obtain ⟨j, rfl, rfl, hle, hj, hb⟩ := hrel
        have hwz := hb.size
        have HB := Lib.hid hb
        clear hb
        by_cases hlt : j < f.items.length
        · obtain ⟨g, o, rfl, hg, k, l, a, u, hx, hls, he, h4⟩ := HE.out j hlt
          obtain ⟨hc0, hc1, hc2⟩ := he.below HB.out (Nat.lt_of_lt_of_le hg hB)
          have HS := Lib.hid (wtL_step hx)
          have hsub := h4.mono (HB.out.mono hB) (Nat.le_refl _)
          obtain ⟨m, hm⟩ : ∃ m, m = l.size + wt a := ⟨_, rfl⟩
          obtain ⟨y, hy⟩ : ∃ y : Int, y = z - f.items.length - wtL (f.items.take j) := ⟨_, rfl⟩
          have hy0 : 0 ≤ y := by omega
          have hy1 : y ≤ 1048576 := by omega
          have HI := szNode_of ih B k l u a y wr hsub (by omega) hls hy0 hy1
          rw [← hm] at HI HS
          rw [← hy]
          have HY := Lib.hid hy
          have HI := Lib.hid HI
          have HM := Lib.hid hm
          have hwt1 := wtL_take f.items (j + 1)
          clear hm hy he h4 hsub
          by_cases hfit : (m : Int) ≤ y
          · go_wp2_with fail
            refine HI.out.mono ?_
            rintro e w1 ⟨he, hb1⟩
            rw [leftOf_yes hfit] at he
            subst he
            have HB1 := Lib.hid (HB.out.trans (hb1.mono hwz))
            have hpos : 0 ≤ y - (m : Int) := by omega
            clear hb1
            go_wp2_with fail
            go_roundw
            case rel => exact ⟨j + 1, by go_num, congrArg (Value.int .i64) (by rw [HS.out, HY.out]; omega), by have := HY.out; rw [HS.out]; omega, by omega, HB1.out⟩
            case measure => simp [intOf]; omega
          · have HR : Hid (leftOf (wt f) z = -1) := Lib.hid (by rw [leftOf_no (by have := HY.out; have := HS.out; rw [HWT.out]; omega)])
            go_wp2_with fail
            refine HI.out.mono ?_
            rintro e w1 ⟨he, hb1⟩
            rw [leftOf_no (by omega)] at he
            subst he
            have HB1 := Lib.hid (HB.out.trans (hb1.mono hwz))
            clear hb1
            go_wp2_with fail
            go_ret
            exact ⟨congrArg (fun z : Int => Ending.returned (.int .i64 z)) HR.out.symm, HB1.out⟩
        · obtain rfl : j = f.items.length := by omega
          have HT : Hid (f.items.take f.items.length = f.items) := Lib.hid (List.take_length)
          have hle' := hle
          rw [HT.out] at hle'
          have HR : Hid (leftOf (wt f) z = z - f.items.length - wtL (f.items.take f.items.length)) := Lib.hid (by rw [leftOf_yes (by rw [HWT.out]; omega), HT.out, HWT.out]; omega)
          obtain ⟨y, hy⟩ : ∃ y : Int, y = z - f.items.length - wtL (f.items.take f.items.length) := ⟨_, rfl⟩
          rw [← hy] at HR ⊢
          clear hy hle hle' HT
          go_wp2_with fail
          go_ret
          exact ⟨congrArg (fun z : Int => Ending.returned (.int .i64 z)) HR.out.symm, HB.out⟩
    · have HR : Hid (leftOf (wt f) z = -1) := Lib.hid (by rw [leftOf_no (by rw [HWT.out]; omega)])
      have hneg : z - (f.items.length : Int) < 0 := by omega
      go_enter Tryz.func13, Tryz.ntmps13
      go_wp2_with fail
      go_ret
      exact ⟨congrArg (fun z : Int => Ending.returned (.int .i64 z)) HR.out.symm, Below.refl _ _⟩
end Go.Proofs.YtlkhmpdncimnfaaGreatDoor

namespace Go.Proofs.YtlkhmpdncimnfaaGreatDoor
open Go.RowKit

set_option maxRecDepth 100000 in
set_option maxHeartbeats 800000 in
theorem eqNode_of {n m : Nat} (ih : ∀ (B : Nat) (u u' : Value) (f : Fr) (w : World), Sl w B n u f → Sl w B m u' f → B ≤ w.heap.size → Calls Tryz.prog 21 #[u, u'] w fun e w' => e = .returned (.bool true) ∧ Below w.heap.size w w')
    (B : Nat) (k : Int) (l : ByteArray) (u u' : Value) (a : Fr) (w : World) (hS : Sl w B n u a) (hS' : Sl w B m u' a) (hB : B ≤ w.heap.size) :
    Calls Tryz.prog 9 #[.agg #[.int .i64 k, .string l, u], .agg #[.int .i64 k, .string l, u']] w fun e w' => e = .returned (.bool true) ∧ Below w.heap.size w w' := by
  have HB0 := Lib.hid (((Below.refl w.heap.size w).alloc (Nat.le_refl _) (.cells #[.int .i64 k, .string l, u] 34)).alloc (by simp) (.cells #[.int .i64 k, .string l, u'] 34))
  have HI := Lib.hid (fun wr (hb : Below w.heap.size w wr) => ih B u u' a wr (hS.mono (hb.mono hB) (Nat.le_refl _)) (hS'.mono (hb.mono hB) (Nat.le_refl _)) (Nat.le_trans hB hb.size))
  clear hS hS'
  go_enter Tryz.func9, Tryz.ntmps9
  go_wp2_with fail
  refine (HI.out _ HB0.out).mono ?_
  rintro e w1 ⟨rfl, hb1⟩
  have HW1 := Lib.hid (HB0.out.trans (hb1.mono HB0.out.size))
  clear hb1
  go_wp2_with fail
  go_ret
  exact ⟨rfl, HW1.out⟩

set_option maxRecDepth 100000 in
set_option maxHeartbeats 1600000 in
theorem eqS_any (n : Nat) : ∀ (m B : Nat) (v v' : Value) (f : Fr) (w : World), Sl w B n v f → Sl w B m v' f → B ≤ w.heap.size → Calls Tryz.prog 21 #[v, v'] w fun e w' => e = .returned (.bool true) ∧ Below w.heap.size w w' := by
  induction n with
  | zero => intro m B v v' f w h; exact h.zero.elim
  | succ n ih =>
    intro m B v v' f w hS hS' hB
    cases m with
    | zero => exact hS'.zero.elim
    | succ m =>
      obtain ⟨hl, A, c, rfl, hE⟩ := hS.open
      obtain ⟨_, A', c', rfl, hE'⟩ := hS'.open
      have HE := Lib.hid hE
      have HE' := Lib.hid hE'
      clear hE hE' hS hS'
      go_enter Tryz.func21, Tryz.ntmps21
      go_wp2_with fail
      go_loopw [5] (fun i wr => ∃ j : Nat, i = .int .i64 j ∧ j ≤ f.items.length ∧ Below w.heap.size w wr) (fun i _ => f.items.length - (intOf i).toNat)
      case atStart => exact ⟨0, rfl, Nat.zero_le _, Below.refl _ _⟩
      case round =>
        obtain ⟨j, rfl, hj, hb⟩ := hrel
        have HB := Lib.hid hb
        have hwz := hb.size
        clear hb
        by_cases hlt : j < f.items.length
        · obtain ⟨g, o, rfl, hg, k, l, a, u, hx, hls, he, h4⟩ := HE.out j hlt
          obtain ⟨g', o', rfl, hg', k2, l2, a2, u', hx', _, he', h4'⟩ := HE'.out j hlt
          rw [hx] at hx'
          cases hx'
          obtain ⟨hc0, hc1, hc2⟩ := he.below HB.out (Nat.lt_of_lt_of_le hg hB)
          obtain ⟨hd0, hd1, hd2⟩ := he'.below HB.out (Nat.lt_of_lt_of_le hg' hB)
          have HI := Lib.hid (eqNode_of (fun B u u' f w => ih m B u u' f w) B k l u u' a wr.drew (h4.mono ((HB.out.drew).mono hB) (Nat.le_refl _)) (h4'.mono ((HB.out.drew).mono hB) (Nat.le_refl _)) (by show B ≤ wr.heap.size; omega))
          have HBd := Lib.hid HB.out.drew
          clear he he' h4 h4' hx
          go_wp2_with fail
          go_still_tail 8, (by kernel_rfl)
          go_wp2_with fail
          refine HI.out.mono ?_
          rintro e w1 ⟨rfl, hb1⟩
          have HB1 := Lib.hid (HBd.out.trans (hb1.mono hwz))
          clear hb1
          go_wp2_with fail
          go_roundw
          case rel => exact ⟨j + 1, by go_num, by omega, HB1.out⟩
          case measure => simp [intOf]; omega
        · have hd : decide ((j : Int) < (f.items.length : Int)) = false := by simp; omega
          go_wp2_with fail
          go_ret
          exact ⟨rfl, HB.out⟩
end Go.Proofs.YtlkhmpdncimnfaaGreatDoor

/-
  What laws.toRegex and laws.toRegexS answer: the same expression, in new memory.
-/
namespace Go.Proofs.YtlkhmpdncimnfaaGreatDoor
open Go.RowKit

theorem rxInfo : (Tryz.prog.info? 34).map (fun i => (i.zero, i.size, i.bytes)) = some (some (.agg #[.int .i64 0, .string ⟨#[]⟩, .slice none 0 0]), 3, 48) := by kernel_rfl

/-- A slice that holds the row f, in blocks of the call's own. -/
def ToPostT (n : Nat) (f : Fr) (w : World) (e : Ending) (w' : World) : Prop :=
  ∃ v, e = .returned v ∧ SlT w' n (fun g => w.heap.size ≤ g ∧ g < w'.heap.size) v f ∧ Below w.heap.size w w'
/-- A node whose parts lie in blocks of the call's own. -/
def ToNodeT (n : Nat) (k : Int) (l : ByteArray) (a : Fr) (w : World) (e : Ending) (w' : World) : Prop :=
  ∃ u, e = .returned (.agg #[.int .i64 k, .string l, u]) ∧ SlT w' n (fun g => w.heap.size ≤ g ∧ g < w'.heap.size) u a ∧ Below w.heap.size w w'
def ToPost (n : Nat) (f : Fr) (w : World) (e : Ending) (w' : World) : Prop :=
  ∃ v, e = .returned v ∧ SlP w' (fun g => w.heap.size ≤ g ∧ g < w'.heap.size) n v f ∧ Below w.heap.size w w'
def ToNode (n : Nat) (k : Int) (l : ByteArray) (a : Fr) (w : World) (e : Ending) (w' : World) : Prop :=
  ∃ u, e = .returned (.agg #[.int .i64 k, .string l, u]) ∧ SlP w' (fun g => w.heap.size ≤ g ∧ g < w'.heap.size) n u a ∧ Below w.heap.size w w'

/-- A world with three blocks more. -/
def three (w : World) (o1 o2 o3 : Obj) : World := ((w.alloc o1).alloc o2).alloc o3
theorem three_size (w : World) (o1 o2 o3 : Obj) : (three w o1 o2 o3).heap.size = w.heap.size + 1 + 1 + 1 := by simp [three]
theorem three_two (w : World) (o1 o2 o3 : Obj) : (three w o1 o2 o3).heap[w.heap.size + 1]? = some o2 := by
  have h := heap_alloc_new (w.alloc o1) o2
  rw [World.size_alloc] at h
  exact (Below.heap_alloc _ o3 _ (by simp)).trans h
theorem three_three (w : World) (o1 o2 o3 : Obj) : (three w o1 o2 o3).heap[w.heap.size + 1 + 1]? = some o3 := by
  have h := heap_alloc_new ((w.alloc o1).alloc o2) o3
  rw [World.size_alloc, World.size_alloc] at h
  exact h

/-- The result's cells are written: what is beneath lies as it lay. -/
theorem node_end {w W3 w1 : World} {n : Nat} {k : Int} {l : ByteArray} {u : Value} {a : Fr} {x0 x1 x2 : Value} (hs : SlT w1 n (fun g => W3.heap.size ≤ g ∧ g < w1.heap.size) u a) (hb1 : Below W3.heap.size W3 w1) (hb : Below w.heap.size w W3) (hz : W3.heap.size = w.heap.size + 1 + 1 + 1)
    (b0 : w1.cell? ⟨w.heap.size + 1, 0, none⟩ = some x0) (b1 : w1.cell? ⟨w.heap.size + 1, 1, none⟩ = some x1) (b2 : w1.cell? ⟨w.heap.size + 1, 2, none⟩ = some x2) :
    let W4 := (((w1.setCell ⟨w.heap.size + 1 + 1, 2, none⟩ u).setCell ⟨w.heap.size + 1, 0, none⟩ (.int .i64 k)).setCell ⟨w.heap.size + 1, 1, none⟩ (.string l)).setCell ⟨w.heap.size + 1, 2, none⟩ u
    W4.cell? ⟨w.heap.size + 1, 0, none⟩ = some (.int .i64 k) ∧ W4.cell? ⟨w.heap.size + 1, 1, none⟩ = some (.string l) ∧ W4.cell? ⟨w.heap.size + 1, 2, none⟩ = some u ∧
      SlT W4 n (fun g => w.heap.size ≤ g ∧ g < W4.heap.size) u a ∧ Below w.heap.size w W4 := by
  intro W4
  have ne : ∀ {g o g' o' : Nat}, g ≠ g' ∨ o ≠ o' → (⟨g, o, none⟩ : Addr) ≠ ⟨g', o', none⟩ := fun h e => by
    injection e with e1 e2
    rcases h with h | h
    · exact h e1
    · exact h e2
  have d0 : (w1.setCell ⟨w.heap.size + 1 + 1, 2, none⟩ u).cell? ⟨w.heap.size + 1, 0, none⟩ = some x0 := (World.cell?_setCell_other _ _ _ _ (ne (.inl (by omega)))).trans b0
  have d1 : ((w1.setCell ⟨w.heap.size + 1 + 1, 2, none⟩ u).setCell ⟨w.heap.size + 1, 0, none⟩ (.int .i64 k)).cell? ⟨w.heap.size + 1, 1, none⟩ = some x1 :=
    (World.cell?_setCell_other _ _ _ _ (ne (.inr (by omega)))).trans ((World.cell?_setCell_other _ _ _ _ (ne (.inl (by omega)))).trans b1)
  have d2 : (((w1.setCell ⟨w.heap.size + 1 + 1, 2, none⟩ u).setCell ⟨w.heap.size + 1, 0, none⟩ (.int .i64 k)).setCell ⟨w.heap.size + 1, 1, none⟩ (.string l)).cell? ⟨w.heap.size + 1, 2, none⟩ = some x2 :=
    (World.cell?_setCell_other _ _ _ _ (ne (.inr (by omega)))).trans ((World.cell?_setCell_other _ _ _ _ (ne (.inr (by omega)))).trans ((World.cell?_setCell_other _ _ _ _ (ne (.inl (by omega)))).trans b2))
  have hsz : W4.heap.size = w1.heap.size := by simp [W4, World.setCell]
  refine ⟨?_, ?_, World.cell?_setCell_same _ _ _ d2, ?_, ?_⟩
  · exact (World.cell?_setCell_other _ _ _ _ (ne (.inr (by omega)))).trans ((World.cell?_setCell_other _ _ _ _ (ne (.inr (by omega)))).trans (World.cell?_setCell_same _ _ _ d0))
  · exact (World.cell?_setCell_other _ _ _ _ (ne (.inr (by omega)))).trans (World.cell?_setCell_same _ _ _ d1)
  · refine hs.mono (fun g hg => ?_) (fun g hg => ⟨by omega, by rw [hsz]; exact hg.2⟩)
    have h1 := hg.1
    rw [hz] at h1
    exact ((Below.heap_setCell _ _ _ g (by simp; omega)).trans ((Below.heap_setCell _ _ _ g (by simp; omega)).trans ((Below.heap_setCell _ _ _ g (by simp; omega)).trans (Below.heap_setCell _ _ _ g (by simp; omega)))))
  · have hb' := hb.trans (hb1.mono (by rw [hz]; omega))
    exact (((hb'.setCell (p := ⟨w.heap.size + 1 + 1, 2, none⟩) (by simp; omega) _).setCell (p := ⟨w.heap.size + 1, 0, none⟩) (by simp) _).setCell (p := ⟨w.heap.size + 1, 1, none⟩) (by simp) _).setCell (p := ⟨w.heap.size + 1, 2, none⟩) (by simp) _

set_option maxHeartbeats 800000 in
theorem toNodeT_of {n : Nat} (ih : ∀ (B : Nat) (u : Value) (f : Fr) (w : World), Sl w B n u f → B ≤ w.heap.size → f.size ≤ 2097152 → Calls Tryz.prog 16 #[u] w (ToPostT n f w))
    (B : Nat) (k : Int) (l : ByteArray) (u : Value) (a : Fr) (w : World) (hS : Sl w B n u a) (hB : B ≤ w.heap.size) (hsz : a.size ≤ 2097152) :
    Calls Tryz.prog 6 #[.agg #[.int .i64 k, .string l, u]] w (ToNodeT n k l a w) := by
  have HB3 := Lib.hid ((((Below.refl w.heap.size w).alloc (Nat.le_refl _) (.cells #[.int .i64 k, .string l, u] 24)).alloc (by simp) (.cells #[.int .i64 0, .string ⟨#[]⟩, .slice none 0 0] 34)).alloc (by simp; omega) (.cells #[.int .i64 k, .string l, .slice none 0 0] 34))
  have HI := Lib.hid (fun wr (hb : Below w.heap.size w wr) => ih B u a wr (hS.mono (hb.mono hB) (Nat.le_refl _)) (Nat.le_trans hB hb.size) hsz)
  clear hS
  go_enter Tryz.func6, Tryz.ntmps6
  go_wp2_with fail
  refine (HI.out _ HB3.out).mono ?_
  rintro e w1 ⟨v, rfl, hsl, hb1⟩
  obtain ⟨A, c, rfl⟩ := hsl.shape
  have hz := three_size w (.cells #[.int .i64 k, .string l, u] 24) (.cells #[.int .i64 0, .string ⟨#[]⟩, .slice none 0 0] 34) (.cells #[.int .i64 k, .string l, .slice none 0 0] 34)
  have h2 := three_two w (.cells #[.int .i64 k, .string l, u] 24) (.cells #[.int .i64 0, .string ⟨#[]⟩, .slice none 0 0] 34) (.cells #[.int .i64 k, .string l, .slice none 0 0] 34)
  have h3 := three_three w (.cells #[.int .i64 k, .string l, u] 24) (.cells #[.int .i64 0, .string ⟨#[]⟩, .slice none 0 0] 34) (.cells #[.int .i64 k, .string l, .slice none 0 0] 34)
  unfold three at hz h2 h3
  have hz1 := hb1.size
  rw [hz] at hz1
  have g2 := (hb1.block _ (by rw [hz]; omega)).trans h2
  have g3 := (hb1.block _ (by rw [hz]; omega)).trans h3
  have a0 := (cell_of_row w1 _ 0 _ _ (0, 0) g3).trans (rfl : _ = some (Value.int .i64 k))
  have a1 := (cell_of_row w1 _ 1 _ _ (0, 0) g3).trans (rfl : _ = some (Value.string l))
  have a2 := (cell_of_row w1 _ 2 _ _ (0, 0) g3).trans (rfl : _ = some (Value.slice none 0 0))
  have b0 := (cell_of_row w1 _ 0 _ _ (0, 0) g2).trans (rfl : _ = some (Value.int .i64 0))
  have b1 := (cell_of_row w1 _ 1 _ _ (0, 0) g2).trans (rfl : _ = some (Value.string ⟨#[]⟩))
  have b2 := (cell_of_row w1 _ 2 _ _ (0, 0) g2).trans (rfl : _ = some (Value.slice none 0 0))
  have fa := frozen_of_row w1 _ 2 _ _ g3
  have f0 := frozen_of_row w1 _ 0 _ _ g2
  have f1 := frozen_of_row w1 _ 1 _ _ g2
  have f2 := frozen_of_row w1 _ 2 _ _ g2
  clear g2 g3 h2 h3
  have HSL := Lib.hid hsl
  have HB1 := Lib.hid hb1
  have HZ := Lib.hid hz
  clear hsl hb1 hz
  go_wp2_with fail
  have R := node_end (w := w) (k := k) (l := l) HSL.out HB1.out HB3.out HZ.out b0 b1 b2
  obtain ⟨c0, c1, c2, hR⟩ := R
  refine bodyPost_ret (v := .agg #[.int .i64 k, .string l, .slice A a.items.length c]) (by simp [results, Tryz.results6, go_sem, c0, c1, c2]) rfl ⟨_, rfl, hR.1, hR.2⟩

/-- Block g holds a row of expressions; the first j are filled in, what is beneath them lies in later blocks, part by part. -/
def Filled (wr : World) (g n : Nat) (f : Fr) (j m : Nat) : Prop :=
  (∃ cur : Array Value, wr.heap[g]? = some (.cells cur 34 (0, 0)) ∧ cur.size = f.items.length * 3) ∧
    ∃ s : Nat → Nat, g < s 0 ∧ (∀ i, s i ≤ s (i + 1)) ∧ s j ≤ m ∧ m ≤ wr.heap.size ∧ ∀ i k l a, i < j → f.items[i]? = some (k, l, a) → ∃ u, ElAt wr g (i * 3) k l u ∧ SlT wr n (fun h => s i ≤ h ∧ h < s (i + 1)) u a
def cutAt (s : Nat → Nat) (j z i : Nat) : Nat := if i ≤ j then s i else z
theorem cutAt_le {s : Nat → Nat} {j z i : Nat} (h : i ≤ j) : cutAt s j z i = s i := if_pos h
theorem cutAt_gt {s : Nat → Nat} {j z i : Nat} (h : j < i) : cutAt s j z i = z := if_neg (by omega)
theorem rising {s : Nat → Nat} (h : ∀ i, s i ≤ s (i + 1)) {i j : Nat} (hij : i ≤ j) : s i ≤ s j := by
  induction j with
  | zero => rw [Nat.le_zero.1 hij]; exact Nat.le_refl _
  | succ j ih =>
    by_cases e : i = j + 1
    · rw [e]; exact Nat.le_refl _
    · exact Nat.le_trans (ih (by omega)) (h j)
theorem Filled.cells {wr : World} {g n : Nat} {f : Fr} {j m : Nat} (h : Filled wr g n f j m) (hj : j < f.items.length) :
    (∃ x, wr.cell? ⟨g, j * 3, none⟩ = some x) ∧ (∃ x, wr.cell? ⟨g, j * 3 + 1, none⟩ = some x) ∧ (∃ x, wr.cell? ⟨g, j * 3 + 2, none⟩ = some x) ∧ ∀ o, wr.frozen? ⟨g, o, none⟩ = false := by
  obtain ⟨⟨cur, hh, hs⟩, _⟩ := h
  have at_ : ∀ o, o < cur.size → ∃ x, wr.cell? ⟨g, o, none⟩ = some x := fun o ho => ⟨_, (cell_of_row wr g o _ _ (0, 0) hh).trans (Array.getElem?_eq_getElem ho)⟩
  exact ⟨at_ _ (by omega), at_ _ (by omega), at_ _ (by omega), fun o => frozen_of_row wr g o _ _ hh⟩
theorem Filled.lt {wr : World} {g n : Nat} {f : Fr} {j m : Nat} (h : Filled wr g n f j m) : g < wr.heap.size := by
  obtain ⟨⟨cur, hh, _⟩, _⟩ := h
  exact (Array.getElem?_eq_some_iff.1 hh).1
/-- Over a call that turns nothing old. -/
theorem Filled.below {wr w1 : World} {g n : Nat} {f : Fr} {j m : Nat} (h : Filled wr g n f j m) (hb : Below wr.heap.size wr w1) : Filled w1 g n f j m := by
  have hg := h.lt
  obtain ⟨⟨cur, hh, hs⟩, s, h0, hr, hj, hm, hE⟩ := h
  refine ⟨⟨cur, (hb.block g hg).trans hh, hs⟩, s, h0, hr, hj, Nat.le_trans hm hb.size, fun i k l a hi hx => ?_⟩
  obtain ⟨u, he, hsl⟩ := hE i k l a hi hx
  exact ⟨u, he.below hb hg, hsl.mono (fun g' hg' => hb.block g' (Nat.lt_of_lt_of_le hg'.2 (Nat.le_trans (rising hr hi) (Nat.le_trans hj hm)))) (fun _ hg' => hg')⟩
/-- The next one is stored. -/
theorem Filled.step {w1 : World} {g n m : Nat} {f : Fr} {j : Nat} {k : Int} {l : ByteArray} {u : Value} {a : Fr} (h : Filled w1 g n f j m) (hx : f.items[j]? = some (k, l, a)) (hs : SlT w1 n (fun h => m ≤ h ∧ h < w1.heap.size) u a) :
    let W2 := ((w1.setCell ⟨g, j * 3, none⟩ (.int .i64 k)).setCell ⟨g, j * 3 + 1, none⟩ (.string l)).setCell ⟨g, j * 3 + 2, none⟩ u
    Filled W2 g n f (j + 1) W2.heap.size := by
  intro W2
  have hlt := (List.getElem?_eq_some_iff.1 hx).1
  obtain ⟨⟨x0, b0⟩, ⟨x1, b1⟩, ⟨x2, b2⟩, _⟩ := h.cells hlt
  have hsz : W2.heap.size = w1.heap.size := by simp [W2, World.setCell]
  have ne : ∀ {o o' : Nat}, o ≠ o' → (⟨g, o, none⟩ : Addr) ≠ ⟨g, o', none⟩ := fun h e => by
    injection e with _ e2
    exact h e2
  have far : ∀ o, o < j * 3 ∨ j * 3 + 2 < o → W2.cell? ⟨g, o, none⟩ = w1.cell? ⟨g, o, none⟩ := fun o ho =>
    (World.cell?_setCell_other _ _ _ _ (ne (by omega))).trans ((World.cell?_setCell_other _ _ _ _ (ne (by omega))).trans (World.cell?_setCell_other _ _ _ _ (ne (by omega))))
  have hother : ∀ h, g ≠ h → W2.heap[h]? = w1.heap[h]? := fun h hne =>
    (Below.heap_setCell _ _ _ h (fun e => hne e.symm)).trans ((Below.heap_setCell _ _ _ h (fun e => hne e.symm)).trans (Below.heap_setCell _ _ _ h (fun e => hne e.symm)))
  have d1 : (w1.setCell ⟨g, j * 3, none⟩ (.int .i64 k)).cell? ⟨g, j * 3 + 1, none⟩ = some x1 := (World.cell?_setCell_other _ _ _ _ (ne (by omega))).trans b1
  have d2 : ((w1.setCell ⟨g, j * 3, none⟩ (.int .i64 k)).setCell ⟨g, j * 3 + 1, none⟩ (.string l)).cell? ⟨g, j * 3 + 2, none⟩ = some x2 :=
    (World.cell?_setCell_other _ _ _ _ (ne (by omega))).trans ((World.cell?_setCell_other _ _ _ _ (ne (by omega))).trans b2)
  obtain ⟨⟨cur, hh, hcs⟩, s, h0, hr, hsj, hm, hE⟩ := h
  have hgs : ∀ i, g < s i := fun i => Nat.lt_of_lt_of_le h0 (rising hr (Nat.zero_le i))
  refine ⟨⟨_, heap_setCell_same _ g (j * 3 + 2) _ _ u (heap_setCell_same _ g (j * 3 + 1) _ _ (.string l) (heap_setCell_same w1 g (j * 3) _ _ (.int .i64 k) hh)), by simpa using hcs⟩,
    cutAt s j w1.heap.size, by rw [cutAt_le (Nat.zero_le _)]; exact h0, fun i => ?_, by rw [cutAt_gt (Nat.lt_succ_self _), hsz]; exact Nat.le_refl _, Nat.le_refl _, fun i k' l' a' hi hx' => ?_⟩
  · have := hr i
    by_cases e1 : i + 1 ≤ j
    · rw [cutAt_le (by omega), cutAt_le e1]; exact this
    · rw [cutAt_gt (by omega : j < i + 1)]
      by_cases e2 : i ≤ j
      · rw [cutAt_le e2]
        have := rising hr e2
        omega
      · rw [cutAt_gt (by omega)]; exact Nat.le_refl _
  by_cases e : i = j
  · subst e
    rw [hx] at hx'
    cases hx'
    refine ⟨u, ⟨?_, ?_, World.cell?_setCell_same _ _ _ d2⟩, hs.mono (fun h hh => hother h (by have := hgs i; omega)) (fun h hh => ⟨by rw [cutAt_le (Nat.le_refl _)]; omega, by rw [cutAt_gt (Nat.lt_succ_self _)]; exact hh.2⟩)⟩
    · exact (World.cell?_setCell_other _ _ _ _ (ne (by omega))).trans ((World.cell?_setCell_other _ _ _ _ (ne (by omega))).trans (World.cell?_setCell_same _ _ _ b0))
    · exact (World.cell?_setCell_other _ _ _ _ (ne (by omega))).trans (World.cell?_setCell_same _ _ _ d1)
  · obtain ⟨u', he, hsl⟩ := hE i k' l' a' (by omega) hx'
    refine ⟨u', ⟨(far _ (by omega)).trans he.1, (far _ (by omega)).trans he.2.1, (far _ (by omega)).trans he.2.2⟩, hsl.mono (fun h hh => hother h (by have := hgs i; omega)) (fun h hh => ⟨by rw [cutAt_le (by omega)]; exact hh.1, by rw [cutAt_le (by omega)]; exact hh.2⟩)⟩

theorem to_end {w wr : World} {n : Nat} {f : Fr} (hl : f.items.length ≤ 9223372036854775807) (hls : ∀ (j : Nat) (k : Int) (l : ByteArray) (a : Fr), f.items[j]? = some (k, l, a) → l.size ≤ 9223372036854775807)
    (hF : Filled wr w.heap.size n f f.items.length wr.heap.size) (hb : Below w.heap.size w wr) : ToPostT (n + 1) f w (.returned (.slice (some ⟨w.heap.size, 0, none⟩) f.items.length f.items.length)) wr := by
  have hg := hF.lt
  obtain ⟨⟨cur, hh, hcs⟩, s, h0, hr, hsj, hm, hE⟩ := hF
  have hgs : ∀ i, w.heap.size < s i := fun i => Nat.lt_of_lt_of_le h0 (rising hr (Nat.zero_le i))
  refine ⟨_, rfl, ⟨hl, .inr ⟨w.heap.size, 0, _, fun j h => j < f.items.length ∧ s j ≤ h ∧ h < s (j + 1), rfl, ⟨Nat.le_refl _, hg⟩, ⟨cur, _, hh⟩, fun j h hj => ?_, fun i j h hi hj => ?_, fun j k l a hx => ⟨hls j k l a hx, ?_⟩⟩⟩, hb⟩
  · have h1 := hgs j
    have h2 := rising hr (show j + 1 ≤ f.items.length from hj.1)
    exact ⟨⟨by omega, by omega⟩, by omega⟩
  · by_cases e : i = j
    · exact e
    · by_cases e2 : i < j
      · have := rising hr (show i + 1 ≤ j from e2)
        omega
      · have := rising hr (show j + 1 ≤ i by omega)
        omega
  · obtain ⟨u, he, hsl⟩ := hE j k l a (List.getElem?_eq_some_iff.1 hx).1 hx
    refine ⟨u, by rw [Nat.zero_add]; exact he, hsl.mono (fun _ _ => rfl) (fun h hh => ⟨(List.getElem?_eq_some_iff.1 hx).1, hh.1, hh.2⟩)⟩

set_option maxHeartbeats 1600000 in
theorem toST_any (n : Nat) : ∀ (B : Nat) (v : Value) (f : Fr) (w : World), Sl w B n v f → B ≤ w.heap.size → f.size ≤ 2097152 → Calls Tryz.prog 16 #[v] w (ToPostT n f w) := by
  induction n with
  | zero => intro B v f w h; exact h.zero.elim
  | succ n ih =>
    intro B v f w hS hB hsz
    obtain ⟨i0, hi, hz0, hz1, hz2⟩ := info_parts rxInfo
    obtain ⟨hl, A, c, rfl, hE⟩ := hS.open
    have hlen := f.len_size
    have HE := Lib.hid hE
    have hls : ∀ (j : Nat) (k : Int) (l : ByteArray) (a : Fr), f.items[j]? = some (k, l, a) → l.size ≤ 9223372036854775807 := fun j k l a hx => by
      obtain ⟨g, o, _, _, k', l', a', u, hx', hls, _⟩ := hE j (List.getElem?_eq_some_iff.1 hx).1
      rw [hx] at hx'
      cases hx'
      exact hls
    have HLS := Lib.hid hls
    clear hE hS hls
    go_enter Tryz.func16, Tryz.ntmps16
    go_wp2_with (at_make; refine wpList_make_full _ rfl _ _ 32 rfl w.heap.size 34 i0 _ 3 Tryz.underlying32 hi hz0 hz1 _ _ _ _ f.items.length rfl rfl rfl rfl (by rw [hz2]; omega) (by unfold maxLen; omega) (Nat.le_refl _) ?_; intro w1 hown hgr)
    have hF0 : Filled w1 w.heap.size n f 0 w1.heap.size ∧ Below w.heap.size w w1 := by
      have hsz : w.heap.size < w1.heap.size := by
        rcases hown.2 with ⟨e, _⟩ | ⟨g, cap, cur, e, _, hh, _, _, hcs, _⟩
        · cases e
        · cases e
          exact (Array.getElem?_eq_some_iff.1 hh).1
      refine ⟨⟨?_, fun _ => w.heap.size + 1, Nat.lt_succ_self _, fun _ => Nat.le_refl _, hsz, Nat.le_refl _, fun i k l a hi => absurd hi (Nat.not_lt_zero _)⟩, ⟨hgr.os, hgr.tape, hgr.output, hgr.size, fun k hk => hgr.block k hk (fun e => by cases e)⟩⟩
      rcases hown.2 with ⟨e, _⟩ | ⟨g, cap, cur, e, _, hh, _, _, hcs, _⟩
      · cases e
      · cases e
        exact ⟨cur, hh, hcs⟩
    obtain ⟨hf0, hb0⟩ := hF0
    clear hown hgr
    go_loopw [4] (fun i wr => ∃ j : Nat, i = .int .i64 j ∧ j ≤ f.items.length ∧ Filled wr w.heap.size n f j wr.heap.size ∧ Below w.heap.size w wr) (fun i _ => f.items.length - (intOf i).toNat)
    case atStart => exact ⟨0, rfl, Nat.zero_le _, hf0, hb0⟩
    case round =>
      obtain ⟨j, rfl, hj, hfil, hb⟩ := hrel
      have HF := Lib.hid hfil
      have HB := Lib.hid hb
      have hwz := hb.size
      clear hfil hb
      by_cases hlt : j < f.items.length
      · obtain ⟨g, o, rfl, hg, k, l, a, u, hx, hls, he, h4⟩ := HE.out j hlt
        obtain ⟨hc0, hc1, hc2⟩ := he.below HB.out (Nat.lt_of_lt_of_le hg hB)
        have hsa := Fr.size_item hx
        have HI := Lib.hid (toNodeT_of ih B k l u a wr (h4.mono (HB.out.mono hB) (Nat.le_refl _)) (by omega) (by omega))
        have HX := Lib.hid hx
        clear he h4 hx
        go_wp2_with fail
        refine HI.out.mono ?_
        rintro e w2 ⟨u', rfl, hsl, hb2⟩
        obtain ⟨A', c', rfl⟩ := hsl.shape
        have HF2 := Lib.hid (HF.out.below hb2)
        obtain ⟨⟨x0, b0⟩, ⟨x1, b1⟩, ⟨x2, b2⟩, hfr⟩ := HF2.out.cells hlt
        have f0 := hfr (j * 3)
        have f1 := hfr (j * 3 + 1)
        have f2 := hfr (j * 3 + 2)
        have HS := Lib.hid (HF2.out.step HX.out hsl)
        have HB2 := Lib.hid ((((HB.out.trans (hb2.mono hwz)).setCell (p := ⟨w.heap.size, j * 3, none⟩) (Nat.le_refl _) (.int .i64 k)).setCell (p := ⟨w.heap.size, j * 3 + 1, none⟩) (Nat.le_refl _) (.string l)).setCell (p := ⟨w.heap.size, j * 3 + 2, none⟩) (Nat.le_refl _) (.slice A' a.items.length c'))
        clear hfr hsl hb2
        go_wp2_with fail
        go_roundw
        case rel => exact ⟨j + 1, by go_num, by omega, HS.out, HB2.out⟩
        case measure => simp [intOf]; omega
      · obtain rfl : j = f.items.length := by omega
        go_wp2_with fail
        go_ret
        exact to_end hl HLS.out HF.out HB.out
theorem toNode_of {n : Nat} (ih : ∀ (B : Nat) (u : Value) (f : Fr) (w : World), Sl w B n u f → B ≤ w.heap.size → f.size ≤ 2097152 → Calls Tryz.prog 16 #[u] w (ToPostT n f w))
    (B : Nat) (k : Int) (l : ByteArray) (u : Value) (a : Fr) (w : World) (hS : Sl w B n u a) (hB : B ≤ w.heap.size) (hsz : a.size ≤ 2097152) :
    Calls Tryz.prog 6 #[.agg #[.int .i64 k, .string l, u]] w (ToNode n k l a w) :=
  (toNodeT_of ih B k l u a w hS hB hsz).mono fun _ _ ⟨v, he, hs, hb⟩ => ⟨v, he, hs.sl, hb⟩
theorem toS_any (n : Nat) : ∀ (B : Nat) (v : Value) (f : Fr) (w : World), Sl w B n v f → B ≤ w.heap.size → f.size ≤ 2097152 → Calls Tryz.prog 16 #[v] w (ToPostT n f w) := toST_any n
theorem own_sl {w w' : World} {n : Nat} {v : Value} {f : Fr} (h : SlP w' (fun g => w.heap.size ≤ g ∧ g < w'.heap.size) n v f) : Sl w' w'.heap.size n v f := SlP.mono (fun _ _ => rfl) (fun _ hg => hg.2) h
end Go.Proofs.YtlkhmpdncimnfaaGreatDoor

/-
  The decimal digits of a number, one by one, from the last; a string of one byte made by way of a slice.
-/
namespace Go.Proofs.YtlkhmpdncimnfaaGreatDoor
open Go.RowKit

/-- The last decimal digit of k, as a byte. -/
def dgt (k : Nat) : UInt8 := UInt8.ofNat (48 + k % 10)
theorem dec_step (k : Nat) (L D : List UInt8) (hk : 0 < k) (h : Lib.decDigits k ++ L = D) :
    (k / 10 = 0 → dgt k :: L = D) ∧ (k / 10 ≠ 0 → Lib.decDigits (k / 10) ++ dgt k :: L = D) := by
  rw [Lib.decDigits] at h
  constructor
  · intro h0
    rw [dif_pos (by omega)] at h
    unfold dgt
    rw [show k % 10 = k by omega]
    simpa using h
  · intro h0
    rw [dif_neg (by omega)] at h
    unfold dgt
    simpa using h

def FmtRel (k0 : Nat) (k : Nat) (L : List UInt8) : Prop := (k = 0 → L = Lib.decDigits k0) ∧ (k ≠ 0 → Lib.decDigits k ++ L = Lib.decDigits k0)
theorem FmtRel.start {k : Nat} (h : 0 < k) : FmtRel k k [] := ⟨fun e => by omega, fun _ => by simp⟩
theorem FmtRel.step {k0 k : Nat} {L : List UInt8} (h : FmtRel k0 k L) (hk : 0 < k) : FmtRel k0 (k / 10) (dgt k :: L) :=
  dec_step k L _ hk (h.2 (by omega))

theorem FmtRel.len {n k : Nat} {L : List UInt8} (h : FmtRel n k L) (h1 : n ≤ 9223372036854775807) : L.length ≤ 21 := by
  have hn := Lib.itoa_length_le (n : Int) (by omega) (by omega)
  rw [Lib.itoa_nonneg] at hn
  by_cases hk : k = 0
  · rw [h.1 hk]; exact hn
  · have := congrArg List.length (h.2 hk)
    simp at this
    omega
theorem str_cons (b : UInt8) (L : List UInt8) : (⟨#[b]⟩ : ByteArray) ++ ⟨L.toArray⟩ = ⟨(b :: L).toArray⟩ := by
  rw [ByteArray.mk_append_mk]; simp

/-- string([]byte{b}) -/
theorem conv_one (w : World) (z : Int) (b : UInt8) (hz : z = (b.toNat : Int)) :
    (convert 129 9 (.slice (some ⟨w.heap.size, 0, none⟩) 1 1)).run Tryz.prog (w.alloc (.cells #[.int .u8 z] 5)) = .ok (.string ⟨#[b]⟩) (w.alloc (.cells #[.int .u8 z] 5)) := by
  subst hz
  exact run_convert_bytes_back (P := Tryz.prog) (w.alloc (.cells #[.int .u8 (b.toNat : Int)] 5)) 129 9 5 ⟨w.heap.size, 0, none⟩ 1 [b] Tryz.underlying129 Tryz.underlying5 Tryz.underlying9 (by
    intro j hj
    have : j = 0 := by simp at hj; omega
    subst this
    simp [Addr.add])

theorem digit_cell (k : Nat) : (48 + (k : Int) % 10) = ((dgt k).toNat : Int) := by
  unfold dgt
  rw [UInt8.toNat_ofNat']
  omega

end Go.Proofs.YtlkhmpdncimnfaaGreatDoor

/-
  What the laws' own markText answers.
-/
namespace Go.Proofs.YtlkhmpdncimnfaaGreatDoor
open Go.RowKit

theorem below_drewN {B : Nat} {a w : World} (h : Below B a w) (n : Nat) : Below B a (w.drewN n) := ⟨h.os, h.tape, h.output, h.size, h.block⟩

/-- What markText makes of a number. -/
def markB (k : Nat) : List UInt8 := 109 :: Lib.decDigits k

set_option maxHeartbeats 400000 in
theorem markText_any (n : Nat) (w : World) (h0 : 0 < n) (h1 : n ≤ 9223372036854775807) :
    Calls Tryz.prog 44 #[.int .i64 n] w fun e w' => e = .returned (.string ⟨(markB n).toArray⟩) ∧ Below w.heap.size w w' := by
  have e2 : decide ((n : Int) ≤ 0) = false := by simp; omega
  go_enter Tryz.func44, Tryz.ntmps44
  go_wp2
  go_loopw [0, 3] (fun m o wr => ∃ (k : Nat) (L : List UInt8), m = .int .i64 k ∧ o = .string ⟨L.toArray⟩ ∧ k ≤ n ∧ FmtRel n k L ∧ Below w.heap.size w wr) (fun m _ _ => (intOf m).toNat)
  case atStart => exact ⟨n, [], rfl, rfl, Nat.le_refl _, FmtRel.start h0, Below.refl _ _⟩
  case round =>
    obtain ⟨k, L, rfl, rfl, hkn, hrel, hb⟩ := hrel
    have hlen := hrel.len h1
    by_cases hk : 0 < k
    · have hcv := conv_one wr (48 + (k : Int) % 10) (dgt k) (digit_cell k)
      go_wp2
      all_goals
        go_roundw
        case rel => exact ⟨k / 10, dgt k :: L, by go_num, congrArg Value.string (str_cons _ _), by omega, hrel.step hk, hb.alloc hb.size _⟩
        case measure => simp [intOf]; omega
    · obtain rfl : k = 0 := by omega
      go_wp2
      go_ret
      exact ⟨by unfold markB; rw [← hrel.1 rfl]; exact congrArg (fun s => Ending.returned (Value.string s)) (str_cons _ _), hb⟩

/-- markText, and a cell of an old block. -/
theorem markText_cell (n : Nat) (w0 w : World) (a : Addr) (v : Value) (h0 : 0 < n) (h1 : n ≤ 9223372036854775807) (hb : Below w0.heap.size w0 w) (ha : a.block < w0.heap.size) (hc : w.cell? a = some v) :
    Calls Tryz.prog 44 #[.int .i64 n] w fun e w' => e = .returned (.string ⟨(markB n).toArray⟩) ∧ w'.cell? a = some v ∧ Below w0.heap.size w0 w' :=
  (markText_any n w h0 h1).mono fun _ _ ⟨he, h⟩ => ⟨he, (h.cell (Nat.lt_of_lt_of_le ha hb.size)).trans hc, hb.trans (h.mono hb.size)⟩

end Go.Proofs.YtlkhmpdncimnfaaGreatDoor

/-
  What the laws' own helpers markRegex and heldRegex do to an expression that is a tree of its own: its parts are marked, one by one; the marks are found again.
-/
namespace Go.Proofs.YtlkhmpdncimnfaaGreatDoor
open Go.RowKit

/-- A row whose nodes bear the marks from k on. -/
def mkF : Nat → Fr → Fr
  | _, .nil => .nil
  | k, .cons _ _ a r => .cons (k : Int) ⟨(markB (k + 1)).toArray⟩ (mkF (k + 2) a) (mkF (k + 2 * (a.size + 1)) r)
def szs (L : List (Int × ByteArray × Fr)) : Nat := (L.map fun x => x.2.2.size + 1).sum
theorem szs_items : ∀ f : Fr, f.size = szs f.items
  | .nil => rfl
  | .cons k l a r => by
    have := szs_items r
    simp only [Fr.size, Fr.items, szs, List.map_cons, List.sum_cons] at this ⊢
    omega
theorem szs_step {f : Fr} {j : Nat} {k : Int} {l : ByteArray} {a : Fr} (h : f.items[j]? = some (k, l, a)) : szs (f.items.take (j + 1)) = szs (f.items.take j) + (a.size + 1) := by
  have hlt := (List.getElem?_eq_some_iff.1 h).1
  rw [List.take_succ_eq_append_getElem hlt, (List.getElem?_eq_some_iff.1 h).2]
  simp [szs]
theorem szs_take : ∀ (L : List (Int × ByteArray × Fr)) (j : Nat), szs (L.take j) ≤ szs L
  | _, 0 => by simp [szs]
  | [], _ + 1 => Nat.le_refl _
  | x :: r, j + 1 => by
    have := szs_take r j
    simp only [szs, List.take_succ_cons, List.map_cons, List.sum_cons] at this ⊢
    omega
theorem mk_len : ∀ (f : Fr) (k : Nat), (mkF k f).items.length = f.items.length
  | .nil, _ => rfl
  | .cons _ _ a r, k => by simp [mkF, Fr.items, mk_len r]
theorem mk_items : ∀ (f : Fr) (k j : Nat) (x : Int × ByteArray × Fr), f.items[j]? = some x → (mkF k f).items[j]? = some (((k + 2 * szs (f.items.take j) : Nat) : Int), ⟨(markB (k + 2 * szs (f.items.take j) + 1)).toArray⟩, mkF (k + 2 * szs (f.items.take j) + 2) x.2.2)
  | .nil, _, j, x, h => by simp [Fr.items] at h
  | .cons k0 l a r, k, 0, x, h => by
    simp [Fr.items] at h
    subst h
    simp [mkF, Fr.items, szs]
  | .cons k0 l a r, k, j + 1, x, h => by
    simp only [Fr.items, List.getElem?_cons_succ] at h
    have ih := mk_items r (k + 2 * (a.size + 1)) j x h
    have e : k + 2 * szs ((Fr.cons k0 l a r).items.take (j + 1)) = k + 2 * (a.size + 1) + 2 * szs (r.items.take j) := by
      simp only [Fr.items, List.take_succ_cons, szs, List.map_cons, List.sum_cons]
      omega
    rw [e]
    simpa [mkF, Fr.items] using ih
theorem mk_get {f : Fr} {k j : Nat} {k1 : Int} {l1 : ByteArray} {a1 : Fr} (h : (mkF k f).items[j]? = some (k1, l1, a1)) : ∃ x, f.items[j]? = some x ∧ k1 = ((k + 2 * szs (f.items.take j) : Nat) : Int) ∧ l1 = ⟨(markB (k + 2 * szs (f.items.take j) + 1)).toArray⟩ ∧ a1 = mkF (k + 2 * szs (f.items.take j) + 2) x.2.2 := by
  have hj : j < f.items.length := by have := (List.getElem?_eq_some_iff.1 h).1; rwa [mk_len] at this
  obtain ⟨x, hx⟩ : ∃ x, f.items[j]? = some x := ⟨_, List.getElem?_eq_getElem hj⟩
  rw [mk_items f k j x hx] at h
  cases h
  exact ⟨x, hx, rfl, rfl, rfl⟩
theorem markB_len (n : Nat) (h : n ≤ 9223372036854775807) : (markB n).length ≤ 22 := by
  have := Lib.itoa_length_le (n : Int) (by omega) (by omega)
  rw [Lib.itoa_nonneg] at this
  simp only [markB, List.length_cons]
  omega


/-- The row in block g, its first j nodes marked. -/
structure MkRel (wr : World) (n k g o : Nat) (K : Nat → Nat → Prop) (f : Fr) (j : Nat) : Prop where
  plain : Plain wr g
  done : ∀ i x, i < j → f.items[i]? = some x → ∃ u, ElAt wr g (o + i * 3) ((k + 2 * szs (f.items.take i) : Nat) : Int) ⟨(markB (k + 2 * szs (f.items.take i) + 1)).toArray⟩ u ∧ SlT wr n (K i) u (mkF (k + 2 * szs (f.items.take i) + 2) x.2.2)
  left : ∀ i x, j ≤ i → f.items[i]? = some x → ∃ u, ElAt wr g (o + i * 3) x.1 x.2.1 u ∧ SlT wr n (K i) u x.2.2
theorem plain_set {w : World} {g : Nat} (h : Plain w g) (o : Nat) (v : Value) : Plain (w.setCell ⟨g, o, none⟩ v) g := by
  obtain ⟨cur, t, h⟩ := h
  exact ⟨_, _, heap_setCell_same w g o _ _ v h⟩
theorem ElAt.set_other {w : World} {g o : Nat} {k : Int} {l : ByteArray} {u v : Value} {p : Nat} (h : ElAt w g o k l u) (hp : p < o ∨ o + 2 < p) : ElAt (w.setCell ⟨g, p, none⟩ v) g o k l u := by
  have ne : ∀ {q : Nat}, q ≠ p → (⟨g, p, none⟩ : Addr) ≠ ⟨g, q, none⟩ := fun h e => by
    injection e with _ e2
    exact h e2.symm
  exact ⟨(World.cell?_setCell_other _ _ _ _ (ne (by omega))).trans h.1, (World.cell?_setCell_other _ _ _ _ (ne (by omega))).trans h.2.1, (World.cell?_setCell_other _ _ _ _ (ne (by omega))).trans h.2.2⟩

/-- One node more is marked. -/
theorem mk_step {wr w2 : World} {n k g o j : Nat} {K : Nat → Nat → Prop} {f : Fr} {x : Int × ByteArray × Fr} {A : Option Addr} {c m : Nat} {s : ByteArray} (h : MkRel wr n k g o K f j) (hx : f.items[j]? = some x) (hKg : ∀ i h, K i h → h ≠ g) (hKd : ∀ i j h, K i h → K j h → i = j) (hKl : ∀ i h, K i h → h < wr.heap.size) (hgl : g < wr.heap.size)
    (hu : ElAt wr g (o + j * 3) x.1 x.2.1 (.slice A m c)) (hsu : SlT wr n (K j) (.slice A m c) x.2.2) (hb : Below (wr.setCell ⟨g, o + j * 3, none⟩ (.int .i64 ((k + 2 * szs (f.items.take j) : Nat) : Int))).heap.size (wr.setCell ⟨g, o + j * 3, none⟩ (.int .i64 ((k + 2 * szs (f.items.take j) : Nat) : Int))) w2)
    (hs : s = ⟨(markB (k + 2 * szs (f.items.take j) + 1)).toArray⟩) :
    let W3 := w2.setCell ⟨g, o + j * 3 + 1, none⟩ (.string s)
    SlT W3 n (K j) (.slice A m c) x.2.2 ∧ (∀ h, K j h → h < W3.heap.size) ∧ W3.cell? ⟨g, o + j * 3 + 2, none⟩ = some (.slice A m c) ∧
      ∀ w4 : World, Chg (K j) W3 w4 → SlT w4 n (K j) (.slice A m c) (mkF (k + 2 * szs (f.items.take j) + 2) x.2.2) → MkRel w4 n k g o K f (j + 1) ∧ Chg (fun h => h = g ∨ ∃ i, K i h) wr w4 := by
  intro W3
  have ne : ∀ {p q : Nat}, p ≠ q → (⟨g, p, none⟩ : Addr) ≠ ⟨g, q, none⟩ := fun h e => by
    injection e with _ e2
    exact h e2
  have hz1 : (wr.setCell ⟨g, o + j * 3, none⟩ (.int .i64 ((k + 2 * szs (f.items.take j) : Nat) : Int))).heap.size = wr.heap.size := by simp [World.setCell]
  have hz3 : W3.heap.size = w2.heap.size := by simp [W3, World.setCell]
  have hz : wr.heap.size ≤ W3.heap.size := by rw [hz3, ← hz1]; exact hb.size
  have B1 : ∀ h, h < wr.heap.size → h ≠ g → W3.heap[h]? = wr.heap[h]? := fun h hl hg =>
    ((Below.heap_setCell _ _ _ h hg).trans (hb.block h (by rw [hz1]; exact hl))).trans (Below.heap_setCell _ _ _ h hg)
  have C1 : ∀ p, p ≠ o + j * 3 → p ≠ o + j * 3 + 1 → W3.cell? ⟨g, p, none⟩ = wr.cell? ⟨g, p, none⟩ := fun p h1 h2 =>
    ((World.cell?_setCell_other _ _ _ _ (ne (Ne.symm h2))).trans (hb.cell (p := ⟨g, p, none⟩) (by rw [hz1]; exact hgl))).trans (World.cell?_setCell_other _ _ _ _ (ne (Ne.symm h1)))
  have C2 : W3.cell? ⟨g, o + j * 3, none⟩ = some (.int .i64 ((k + 2 * szs (f.items.take j) : Nat) : Int)) :=
    ((World.cell?_setCell_other _ _ _ _ (ne (by omega))).trans (hb.cell (p := ⟨g, o + j * 3, none⟩) (by rw [hz1]; exact hgl))).trans (World.cell?_setCell_same _ _ _ hu.1)
  have C3 : W3.cell? ⟨g, o + j * 3 + 1, none⟩ = some (.string s) :=
    World.cell?_setCell_same _ _ _ ((hb.cell (p := ⟨g, o + j * 3 + 1, none⟩) (by rw [hz1]; exact hgl)).trans ((World.cell?_setCell_other _ _ _ _ (ne (by omega))).trans hu.2.1))
  refine ⟨hsu.mono (fun h hh => B1 h (hKl j h hh) (hKg j h hh)) (fun _ h => h), fun h hh => Nat.lt_of_lt_of_le (hKl j h hh) hz, (C1 _ (by omega) (by omega)).trans hu.2.2, fun w4 hc h4 => ?_⟩
  have hg4 : w4.heap[g]? = W3.heap[g]? := hc.block g (Nat.lt_of_lt_of_le hgl hz) (fun h => hKg j g h rfl)
  have el : ∀ {i : Nat} {k1 : Int} {l1 : ByteArray} {u : Value}, i ≠ j → ElAt wr g (o + i * 3) k1 l1 u → ElAt w4 g (o + i * 3) k1 l1 u := fun {i k1 l1 u} hij he => by
    have h' : ElAt W3 g (o + i * 3) k1 l1 u := ⟨(C1 _ (by omega) (by omega)).trans he.1, (C1 _ (by omega) (by omega)).trans he.2.1, (C1 _ (by omega) (by omega)).trans he.2.2⟩
    exact h'.same hg4
  have sl : ∀ {i : Nat} {u : Value} {a : Fr}, i ≠ j → SlT wr n (K i) u a → SlT w4 n (K i) u a := fun {i u a} hij hs =>
    hs.mono (fun h hh => (hc.block h (Nat.lt_of_lt_of_le (hKl i h hh) hz) (fun hj => hij (hKd i j h hh hj))).trans (B1 h (hKl i h hh) (hKg i h hh))) (fun _ h => h)
  refine ⟨⟨?_, ?_, ?_⟩, ?_⟩
  · have p1 : Plain W3 g := plain_set ((plain_set h.plain _ _).same (hb.block g (by rw [hz1]; exact hgl))) _ _
    exact p1.same hg4
  · intro i y hi hy
    by_cases hij : i = j
    · subst hij
      rw [hx] at hy
      cases hy
      refine ⟨_, ElAt.same (w := W3) ⟨C2, ?_, (C1 _ (by omega) (by omega)).trans hu.2.2⟩ hg4, h4⟩
      rw [C3, hs]
    · obtain ⟨u, he, hs4⟩ := h.done i y (by omega) hy
      exact ⟨u, el hij he, sl hij hs4⟩
  · intro i y hi hy
    obtain ⟨u, he, hs4⟩ := h.left i y (by omega) hy
    exact ⟨u, el (by omega) he, sl (by omega) hs4⟩
  · refine ⟨hc.os.trans hb.os, hc.tape.trans hb.tape, hc.output.trans hb.output, Nat.le_trans hz hc.size, fun h hl hn => ?_⟩
    exact (hc.block h (Nat.lt_of_lt_of_le hl hz) (fun hj => hn (.inr ⟨j, hj⟩))).trans (B1 h hl (fun e => hn (.inl e)))

theorem mk_two {wr w2 : World} {n k g o j : Nat} {K : Nat → Nat → Prop} {f : Fr} {x : Int × ByteArray × Fr} {u v : Value} (h : MkRel wr n k g o K f j) (hgl : g < wr.heap.size)
    (hu : ElAt wr g (o + j * 3) x.1 x.2.1 u) (hb : Below (wr.setCell ⟨g, o + j * 3, none⟩ v).heap.size (wr.setCell ⟨g, o + j * 3, none⟩ v) w2) :
    (∃ z, w2.cell? ⟨g, o + j * 3 + 1, none⟩ = some z) ∧ w2.frozen? ⟨g, o + j * 3 + 1, none⟩ = false := by
  have hz1 : (wr.setCell ⟨g, o + j * 3, none⟩ v).heap.size = wr.heap.size := by simp [World.setCell]
  have ne : (⟨g, o + j * 3, none⟩ : Addr) ≠ ⟨g, o + j * 3 + 1, none⟩ := fun e => by
    injection e with _ e2
    omega
  refine ⟨⟨_, (hb.cell (p := ⟨g, o + j * 3 + 1, none⟩) (by rw [hz1]; exact hgl)).trans ((World.cell?_setCell_other _ _ _ _ ne).trans hu.2.1)⟩, ?_⟩
  obtain ⟨cur, T, hp⟩ := (plain_set h.plain (o + j * 3) v).same (hb.block g (by rw [hz1]; exact hgl))
  exact frozen_of_row w2 g _ _ _ hp

set_option maxRecDepth 100000 in
set_option maxHeartbeats 1600000 in
theorem markS_any (n : Nat) : ∀ (k : Nat) (S : Nat → Prop) (v : Value) (f : Fr) (w : World), SlT w n S v f → (∀ g, S g → g < w.heap.size) → 0 < k → k + 2 * f.size ≤ 9223372036854775800 →
    Calls Tryz.prog 22 #[v, .int .i64 k] w fun e w' => e = .returned (.int .i64 ((k + 2 * f.size : Nat) : Int)) ∧ SlT w' n S v (mkF k f) ∧ Chg S w w' := by
  induction n with
  | zero => intro k S v f w h; exact h.elim
  | succ n ih =>
    intro k S v f w ⟨hl, h⟩ hSl hk0 hkm
    rcases h with ⟨h0, A, c, rfl⟩ | ⟨g, o, c, K, rfl, hg, hp, hK, hd, hc⟩
    · obtain rfl : f = .nil := by
        cases f with
        | nil => rfl
        | cons _ _ _ _ => simp [Fr.items] at h0
      go_enter Tryz.func22, Tryz.ntmps22
      go_wp2_with fail
      go_loopw [1, 5] (fun kv i wr => kv = .int .i64 k ∧ i = .int .i64 0 ∧ Chg S w wr) (fun _ _ _ => 0)
      case atStart => exact ⟨rfl, rfl, Chg.refl _ _⟩
      case round =>
        obtain ⟨rfl, rfl, hch⟩ := hrel
        have HCH := Lib.hid hch
        clear hch
        go_wp2_with fail
        go_ret
        exact ⟨rfl, SlT.none _ _ _ _ _, HCH.out⟩
    · have hgl := hSl g hg
      have hsz : k + 2 * szs f.items ≤ 9223372036854775800 := by rw [← szs_items]; exact hkm
      have HKL := Lib.hid (fun i h (hh : K i h) => hSl h (hK i h hh).1)
      have HKG := Lib.hid (fun i h (hh : K i h) => (hK i h hh).2)
      have HKS := Lib.hid (fun i h (hh : K i h) => (hK i h hh).1)
      have HD := Lib.hid hd
      have H0 := Lib.hid (show MkRel w n k g o K f 0 from ⟨hp, fun i x hi => absurd hi (Nat.not_lt_zero _), fun i x _ hx => (hc i x.1 x.2.1 x.2.2 hx).2⟩)
      have HLS := Lib.hid (fun j k' l a hj => (hc j k' l a hj).1)
      have HG := Lib.hid hg
      have HSZ := Lib.hid (szs_items f)
      clear hp hK hd hc hSl hg
      go_enter Tryz.func22, Tryz.ntmps22
      go_wp2_with fail
      go_loopw [1, 5] (fun kv i wr => ∃ j q : Nat, i = .int .i64 j ∧ kv = .int .i64 (q : Int) ∧ q = k + 2 * szs (f.items.take j) ∧ j ≤ f.items.length ∧ MkRel wr n k g o K f j ∧ Chg S w wr) (fun _ i _ => f.items.length - (intOf i).toNat)
      case atStart => exact ⟨0, k, rfl, rfl, by simp [szs], Nat.zero_le _, H0.out, Chg.refl _ _⟩
      case round =>
        obtain ⟨j, q, rfl, rfl, hq, hj, hrel, hch⟩ := hrel
        have hglr : g < wr.heap.size := Nat.lt_of_lt_of_le hgl hch.size
        have HCH := Lib.hid hch
        have HR := Lib.hid hrel
        have hwz := hch.size
        clear hch hrel
        by_cases hlt : j < f.items.length
        · obtain ⟨⟨k1, l1, a1⟩, hx⟩ : ∃ x, f.items[j]? = some x := ⟨_, List.getElem?_eq_getElem hlt⟩
          obtain ⟨u, hu, hsu⟩ := HR.out.left j _ (Nat.le_refl _) hx
          obtain ⟨A, m, rfl⟩ := hsu.shape
          have hst := szs_step hx
          have hle := szs_take f.items (j + 1)
          have hq2 : k + 2 * szs (f.items.take (j + 1)) = q + 2 + 2 * a1.size := by omega
          have hq0 : 0 < q := by omega
          have hqm : q + 2 + 2 * a1.size ≤ 9223372036854775800 := by omega
          have HS := Lib.hid (fun w2 hb => mk_step (w2 := w2) (s := ⟨(markB (q + 1)).toArray⟩) HR.out hx (fun i h hh => HKG.out i h hh) (fun i j h hi hj => HD.out i j h hi hj) (fun i h hh => Nat.lt_of_lt_of_le (HKL.out i h hh) hwz) hglr hu hsu hb (by rw [hq]))
          have HT := Lib.hid (fun w2 hb => mk_two (w2 := w2) (v := .int .i64 ((q : Nat) : Int)) HR.out hglr hu hb)
          have hc0 := hu.1
          have hf0 : wr.frozen? ⟨g, o + j * 3, none⟩ = false := by
            obtain ⟨cur, T, hp⟩ := HR.out.plain
            exact frozen_of_row wr g _ _ _ hp
          rw [← hq] at HS
          have HQ2 := Lib.hid hq2
          clear hq hq2
          clear hu hsu hst hle hx
          go_wp2_with fail
          go_at_call 44
          refine (markText_any (q + 1) _ (by omega) (by omega)).mono ?_
          rintro e w1 ⟨rfl, hb1⟩
          obtain ⟨⟨z, hcz⟩, hfz⟩ := HT.out w1 hb1
          obtain ⟨s3, sl3, sc3, s4⟩ := HS.out w1 hb1
          have H4 := Lib.hid s4
          have HI := Lib.hid (ih (q + 2) (K j) _ a1 _ s3 sl3 (by omega) (by omega))
          clear s4 s3 sl3
          go_wp2_with fail
          go_at_call 22
          refine HI.out.mono ?_
          rintro e w4 ⟨rfl, h4, hch4⟩
          obtain ⟨r4, c4⟩ := H4.out w4 hch4 h4
          go_wp2_with fail
          go_roundw
          case rel => exact ⟨j + 1, q + 2 + 2 * a1.size, by go_num, by go_num, HQ2.out.symm, by omega, r4, HCH.out.trans (c4.more (fun h hh => by
            rcases hh with rfl | ⟨i, hh⟩
            · exact HG.out
            · exact HKS.out i h hh))⟩
          case measure => simp [intOf]; omega
        · have hje : j = f.items.length := by omega
          have hqe : q = k + 2 * f.size := by rw [hq, hje, List.take_length, HSZ.out]
          have HQ := Lib.hid hqe
          have HJ := Lib.hid hje
          have hd : decide ((j : Int) < (f.items.length : Int)) = false := by simp; omega
          clear hq hqe hje
          go_wp2_with fail
          go_ret
          obtain rfl := HJ.out
          refine ⟨by rw [HQ.out]; rfl, ⟨by rw [mk_len]; exact hl, .inr ⟨g, o, c, K, by rw [mk_len], HG.out, HR.out.plain, fun j h hh => ⟨HKS.out j h hh, HKG.out j h hh⟩, HD.out, fun j k1 l1 a1 hj1 => ?_⟩⟩, HCH.out⟩
          obtain ⟨x, hx, rfl, rfl, rfl⟩ := mk_get hj1
          obtain ⟨u, hu, hsu⟩ := HR.out.done j x (by have := (List.getElem?_eq_some_iff.1 hx).1; exact this) hx
          have hst := szs_step hx
          have hle := szs_take f.items (j + 1)
          refine ⟨?_, u, hu, hsu⟩
          have := markB_len (k + 2 * szs (f.items.take j) + 1) (by omega)
          show (markB (k + 2 * szs (f.items.take j) + 1)).toArray.size ≤ _
          simp only [List.size_toArray]
          omega
end Go.Proofs.YtlkhmpdncimnfaaGreatDoor

/-
  What the laws' own helpers heldRegex and markRegex answer.
-/
namespace Go.Proofs.YtlkhmpdncimnfaaGreatDoor
open Go.RowKit

/-- markText, and two cells of an old block. -/
theorem markText_two (n : Nat) (w0 w : World) (a b : Addr) (v u : Value) (h0 : 0 < n) (h1 : n ≤ 9223372036854775807) (hb : Below w0.heap.size w0 w) (ha : a.block < w0.heap.size) (hb0 : b.block < w0.heap.size) (hc : w.cell? a = some v) (hd : w.cell? b = some u) :
    Calls Tryz.prog 44 #[.int .i64 n] w fun e w' => e = .returned (.string ⟨(markB n).toArray⟩) ∧ (w'.cell? a = some v ∧ w'.cell? b = some u) ∧ Below w0.heap.size w0 w' :=
  (markText_any n w h0 h1).mono fun _ _ ⟨he, h⟩ => ⟨he, ⟨(h.cell (Nat.lt_of_lt_of_le ha hb.size)).trans hc, (h.cell (Nat.lt_of_lt_of_le hb0 hb.size)).trans hd⟩, hb.trans (h.mono hb.size)⟩

set_option maxRecDepth 100000 in
theorem mark_any (n k : Nat) (S : Nat → Prop) (k1 : Int) (l : ByteArray) (v : Value) (f : Fr) (w : World) (h : SlT w n S v f) (hS : ∀ g, S g → g < w.heap.size) (h0 : 0 < k) (hm : k + 2 * f.size ≤ 9223372036854775800) :
    Calls Tryz.prog 10 #[.agg #[.int .i64 k1, .string l, v], .int .i64 k] w fun e w' => e = .returned (.int .i64 ((k + 2 * f.size : Nat) : Int)) ∧ SlT w' n S v (mkF k f) ∧ Chg S w w' := by
  obtain ⟨A, c, rfl⟩ := h.shape
  have hb0 := (Below.refl w.heap.size w).alloc (Nat.le_refl _) (.cells #[.int .i64 k1, .string l, .slice A f.items.length c] 34)
  have HI := Lib.hid (markS_any n k S _ f _ (h.mono (fun g hg => hb0.block g (hS g hg)) (fun _ h => h)) (fun g hg => Nat.lt_of_lt_of_le (hS g hg) hb0.size) h0 hm)
  have HB0 := Lib.hid hb0
  obtain ⟨r, hr⟩ : ∃ r, r = k + 2 * f.size := ⟨_, rfl⟩
  rw [← hr] at HI ⊢
  clear hb0 h hr
  go_enter Tryz.func10, Tryz.ntmps10
  go_wp2_with fail
  go_at_call 22
  refine HI.out.mono ?_
  rintro e w4 ⟨rfl, h4, hc⟩
  have H4 := Lib.hid h4
  have HC := Lib.hid (show Chg S w w4 from ⟨hc.os.trans HB0.out.os, hc.tape.trans HB0.out.tape, hc.output.trans HB0.out.output, Nat.le_trans HB0.out.size hc.size, fun g hg hn => (hc.block g (Nat.lt_of_lt_of_le hg HB0.out.size) hn).trans (HB0.out.block g hg)⟩)
  clear h4 hc
  go_wp2_with fail
  go_ret
  exact ⟨rfl, H4.out, HC.out⟩

end Go.Proofs.YtlkhmpdncimnfaaGreatDoor

/-
  What spec.l3Depth answers: the depth.
  What spec.l3Left answers: what is left when a tree's nodes are taken from a number.
-/
namespace Go.Proofs.YtlkhmpdncimnfaaGreatDoor
open Go.RowKit

/-- The deepest of the first j, and of all. -/
def deepest (L : List (Int × ByteArray × Fr)) : Nat := L.foldr (fun x n => max (x.2.2.depth + 1) n) 0
theorem depth_items : ∀ f : Fr, f.depth = deepest f.items
  | .nil => rfl
  | .cons _ _ a r => by
    simp only [Fr.depth, Fr.items, deepest, List.foldr_cons]
    rw [depth_items r]
    rfl
theorem deepest_snoc : ∀ (L : List (Int × ByteArray × Fr)) (x : Int × ByteArray × Fr), deepest (L ++ [x]) = max (deepest L) (x.2.2.depth + 1)
  | [], x => by simp [deepest]
  | y :: r, x => by
    have := deepest_snoc r x
    simp only [deepest, List.cons_append, List.foldr_cons] at this ⊢
    rw [this]
    omega

theorem l1Max_any (x y : Nat) (w : World) : Calls Tryz.prog 47 #[.int .i64 x, .int .i64 y] w fun e w' => e = .returned (.int .i64 ((max x y : Nat) : Int)) ∧ w = w' := by
  by_cases h : y < x
  · have e : max x y = x := by omega
    have HE := Lib.hid e
    clear e
    go_enter Tryz.func47, Tryz.ntmps47
    go_wp2
    go_ret
    exact ⟨congrArg (fun z : Nat => Ending.returned (.int .i64 (z : Int))) HE.out.symm, rfl⟩
  · have e : max x y = y := by omega
    have HE := Lib.hid e
    clear e
    go_enter Tryz.func47, Tryz.ntmps47
    go_wp2
    go_ret
    exact ⟨congrArg (fun z : Nat => Ending.returned (.int .i64 (z : Int))) HE.out.symm, rfl⟩

theorem depth_le : ∀ f : Fr, f.depth ≤ f.size
  | .nil => Nat.le_refl _
  | .cons _ _ a r => by
    have := depth_le a
    have := depth_le r
    simp only [Fr.depth, Fr.size]
    omega
theorem deepest_take : ∀ (L : List (Int × ByteArray × Fr)) (j : Nat), deepest (L.take j) ≤ deepest L
  | _, 0 => Nat.zero_le _
  | [], _ + 1 => Nat.le_refl _
  | x :: r, j + 1 => by
    have := deepest_take r j
    simp only [deepest, List.take_succ_cons, List.foldr_cons] at this ⊢
    omega
theorem deepest_le (f : Fr) (j : Nat) : deepest (f.items.take j) ≤ f.size := by
  have h1 := deepest_take f.items j
  rw [← depth_items] at h1
  exact Nat.le_trans h1 (depth_le f)
theorem deepest_step {f : Fr} {j : Nat} {k : Int} {l : ByteArray} {a : Fr} (h : f.items[j]? = some (k, l, a)) : deepest (f.items.take (j + 1)) = max (deepest (f.items.take j)) (a.depth + 1) := by
  have hlt := (List.getElem?_eq_some_iff.1 h).1
  rw [List.take_succ_eq_append_getElem hlt, deepest_snoc]
  rw [(List.getElem?_eq_some_iff.1 h).2]

set_option maxHeartbeats 800000 in
theorem specDepth_any (n : Nat) : ∀ (B : Nat) (k : Int) (l : ByteArray) (u : Value) (a : Fr) (w : World), Sl w B n u a → B ≤ w.heap.size → a.size ≤ 2097152 →
    Calls Tryz.prog 28 #[.agg #[.int .i64 k, .string l, u]] w fun e w' => e = .returned (.int .i64 ((a.depth + 1 : Nat) : Int)) ∧ Below w.heap.size w w' := by
  induction n with
  | zero => intro B k l u a w h; exact h.zero.elim
  | succ n ih =>
    intro B k l u a w hS hB hsz
    obtain ⟨hl, A, c, rfl, hE⟩ := hS.open
    have HE := Lib.hid hE
    clear hE hS
    go_enter Tryz.func28, Tryz.ntmps28
    go_wp2_with fail
    go_loopw [3, 4] (fun m i wr => ∃ j : Nat, i = .int .i64 j ∧ m = .int .i64 (deepest (a.items.take j) : Nat) ∧ j ≤ a.items.length ∧ Below (w.heap.size + 1) (w.alloc (.cells #[.int .i64 k, .string l, .slice A a.items.length c] 34)) wr) (fun _ i _ => a.items.length - (intOf i).toNat)
    case atStart => exact ⟨0, rfl, rfl, Nat.zero_le _, Below.refl _ _⟩
    case round =>
      obtain ⟨j, rfl, rfl, hj, hb⟩ := hrel
      have hbox := (hb.cell (p := ⟨w.heap.size, 2, none⟩) (Nat.lt_succ_self _)).trans (show _ = some (.slice A a.items.length c) by simp)
      have hwz : w.heap.size + 1 ≤ wr.heap.size := by have := hb.size; simpa using this
      have HB := Lib.hid hb
      clear hb
      by_cases hlt : j < a.items.length
      · obtain ⟨g, o, rfl, hg, k', l', a', u, hx, hls, he, h4⟩ := HE.out j hlt
        have hw : Below w.heap.size w wr := ((Below.refl _ w).alloc (Nat.le_refl _) _).trans (HB.out.mono (Nat.le_succ _))
        obtain ⟨hc0, hc1, hc2⟩ := he.below hw (Nat.lt_of_lt_of_le hg hB)
        have hsa := Fr.size_item hx
        have HX := Lib.hid hx
        have HI := Lib.hid (fun w1 (hw1 : w.heap.size ≤ w1.heap.size) (hb1 : Below w.heap.size w w1) => ih B k' l' u a' w1 (h4.mono (hb1.mono hB) (Nat.le_refl _)) (by omega) (by omega))
        have HW := Lib.hid hw
        clear he h4 hx hw
        have hd1 := deepest_le a j
        have hd2 := deepest_le a (j + 1)
        have hd3 := depth_le a'
        go_wp2_with fail
        refine (HI.out wr (by omega) HW.out).mono ?_
        rintro e w1 ⟨rfl, hb1⟩
        have HB1 := Lib.hid (HB.out.trans (hb1.mono hwz))
        clear hb1
        go_wp2_with fail
        refine (l1Max_any _ _ _).mono ?_
        rintro e w' ⟨rfl, rfl⟩
        have HT := Lib.hid (deepest_step HX.out)
        go_wp2_with fail
        go_roundw
        case rel => exact ⟨j + 1, by go_num, congrArg (fun z : Nat => Value.int .i64 (z : Int)) HT.out.symm, by omega, HB1.out⟩
        case measure => simp [intOf]; omega
      · obtain rfl : j = a.items.length := by omega
        have hd : deepest a.items ≤ a.size := by rw [← depth_items]; exact depth_le a
        have HW := Lib.hid (((Below.refl _ w).alloc (Nat.le_refl _) _).trans (HB.out.mono (Nat.le_succ _)))
        go_wp2_with fail
        go_ret
        exact ⟨by rw [depth_items]; rfl, HW.out⟩
end Go.Proofs.YtlkhmpdncimnfaaGreatDoor

namespace Go.Proofs.YtlkhmpdncimnfaaGreatDoor
open Go.RowKit

/-- What is left of z behind the nodes of a row; it stops where it is below 0. -/
def leftRow : Fr → Int → Int
  | .nil, z => z
  | .cons _ _ a r, z => if z < 0 then z else leftRow r (leftRow a (z - 1))
def leftL : List (Int × ByteArray × Fr) → Int → Int
  | [], z => z
  | x :: r, z => if z < 0 then z else leftL r (leftRow x.2.2 (z - 1))
theorem left_items : ∀ (f : Fr) (z : Int), leftRow f z = leftL f.items z
  | .nil, _ => rfl
  | .cons _ _ a r, z => by
    simp only [leftRow, Fr.items, leftL]
    rw [left_items r]
theorem leftRow_le : ∀ (f : Fr) (z : Int), -1 ≤ z → -1 ≤ leftRow f z ∧ leftRow f z ≤ z
  | .nil, z, h => ⟨h, Int.le_refl _⟩
  | .cons _ _ a r, z, h => by
    simp only [leftRow]
    by_cases hz : z < 0
    · rw [if_pos hz]; exact ⟨h, Int.le_refl _⟩
    · rw [if_neg hz]
      have h1 := leftRow_le a (z - 1) (by omega)
      have h2 := leftRow_le r (leftRow a (z - 1)) h1.1
      omega
theorem leftL_neg (L : List (Int × ByteArray × Fr)) (z : Int) (h : z < 0) : leftL L z = z := by
  cases L with
  | nil => rfl
  | cons x r => simp only [leftL]; rw [if_pos h]
theorem leftL_step {f : Fr} {j : Nat} {k : Int} {l : ByteArray} {a : Fr} (h : f.items[j]? = some (k, l, a)) (z : Int) (hz : ¬ z < 0) : leftL (f.items.drop j) z = leftL (f.items.drop (j + 1)) (leftRow a (z - 1)) := by
  have hlt := (List.getElem?_eq_some_iff.1 h).1
  rw [List.drop_eq_getElem_cons hlt, leftL, if_neg hz, (List.getElem?_eq_some_iff.1 h).2]

set_option maxHeartbeats 800000 in
theorem specLeft_any (n : Nat) : ∀ (B : Nat) (k : Int) (l : ByteArray) (u : Value) (a : Fr) (z : Int) (w : World), Sl w B n u a → B ≤ w.heap.size → 0 ≤ z → z ≤ 1000000 →
    Calls Tryz.prog 27 #[.agg #[.int .i64 k, .string l, u], .int .i64 z] w fun e w' => e = .returned (.int .i64 (leftRow a (z - 1))) ∧ Below w.heap.size w w' := by
  induction n with
  | zero => intro B k l u a z w h; exact h.zero.elim
  | succ n ih =>
    intro B k l u a z w hS hB hz0 hz1
    obtain ⟨hl, A, c, rfl, hE⟩ := hS.open
    have HE := Lib.hid hE
    clear hE hS
    go_enter Tryz.func27, Tryz.ntmps27
    go_wp2_with fail
    go_loopw [1, 5] (fun m i wr => ∃ (j : Nat) (y : Int), i = .int .i64 j ∧ m = .int .i64 y ∧ -1 ≤ y ∧ y ≤ 1000000 ∧ leftL (a.items.drop j) y = leftRow a (z - 1) ∧ j ≤ a.items.length ∧ Below (w.heap.size + 1) (w.alloc (.cells #[.int .i64 k, .string l, .slice A a.items.length c] 34)) wr) (fun _ i _ => a.items.length - (intOf i).toNat)
    case atStart => exact ⟨0, z - 1, rfl, rfl, by omega, by omega, by rw [left_items]; rfl, Nat.zero_le _, Below.refl _ _⟩
    case round =>
      obtain ⟨j, y, rfl, rfl, hy0, hy1, hy, hj, hb⟩ := hrel
      have HY := Lib.hid hy
      have hbox := (hb.cell (p := ⟨w.heap.size, 2, none⟩) (Nat.lt_succ_self _)).trans (show _ = some (.slice A a.items.length c) by simp)
      have hwz : w.heap.size + 1 ≤ wr.heap.size := by have := hb.size; simpa using this
      have HB := Lib.hid hb
      have HW := Lib.hid (((Below.refl _ w).alloc (Nat.le_refl _) _).trans (hb.mono (Nat.le_succ _)))
      clear hb hy
      by_cases hlt : j < a.items.length
      · by_cases hneg : y < 0
        · have HN : Hid (y = leftRow a (z - 1)) := Lib.hid (by rw [← HY.out, leftL_neg _ _ hneg])
          have hd : decide (0 ≤ y) = false := by simpa using hneg
          go_wp2_with fail
          go_ret
          exact ⟨congrArg (fun z : Int => Ending.returned (.int .i64 z)) HN.out, HW.out⟩
        · obtain ⟨g, o, rfl, hg, k', l', a', u, hx, hls, he, h4⟩ := HE.out j hlt
          obtain ⟨hc0, hc1, hc2⟩ := he.below HW.out (Nat.lt_of_lt_of_le hg hB)
          have HI := Lib.hid (fun w1 (hw1 : w.heap.size ≤ w1.heap.size) (hb1 : Below w.heap.size w w1) => ih B k' l' u a' y w1 (h4.mono (hb1.mono hB) (Nat.le_refl _)) (by omega) (by omega) hy1)
          have HS := Lib.hid (leftL_step hx y hneg)
          obtain ⟨q0, q1⟩ := leftRow_le a' (y - 1) (by omega)
          have hy2 : 0 ≤ y := by omega
          clear he h4 hx hneg
          go_wp2_with fail
          refine (HI.out wr (by omega) HW.out).mono ?_
          rintro e w1 ⟨rfl, hb1⟩
          have HB1 := Lib.hid (HB.out.trans (hb1.mono hwz))
          clear hb1
          go_wp2_with fail
          go_roundw
          case rel => exact ⟨j + 1, _, by go_num, rfl, q0, by omega, by rw [← HS.out]; exact HY.out, by omega, HB1.out⟩
          case measure => simp [intOf]; omega
      · have HN : Hid (y = leftRow a (z - 1)) := Lib.hid (by rw [← HY.out, List.drop_eq_nil_of_le (by omega)]; rfl)
        have hd : decide ((j : Int) < (a.items.length : Int)) = false := by simp; omega
        go_wp2_with fail
        go_ret
        exact ⟨congrArg (fun z : Int => Ending.returned (.int .i64 z)) HN.out, HW.out⟩
end Go.Proofs.YtlkhmpdncimnfaaGreatDoor

/-
  What spec.LetterIndex answers at every byte: the letter's place, or -1; the world is as it was.
-/
namespace Go.Proofs.YtlkhmpdncimnfaaGreatDoor
open Go.RowKit

set_option maxHeartbeats 400000 in
theorem specLet_any (b : UInt8) (w : World) :
    Calls Tryz.prog 85 #[.int .u8 b.toNat] w fun e w' => e = .returned (.int .i64 (letIdx b)) ∧ w = w' := by
  by_cases h0 : b = 97
  · subst h0
    go_enter Tryz.func85, Tryz.ntmps85
    go_wp2
    refine wp_loop_rounds 1 ?_
    rw [rounds_succ]
    go_wp2
    go_ret
    exact ⟨rfl, rfl⟩
  · by_cases h1 : b = 98
    · subst h1
      go_enter Tryz.func85, Tryz.ntmps85
      go_wp2
      refine wp_loop_rounds 2 ?_
      rw [rounds_succ]
      go_wp2
      rw [rounds_succ]
      go_wp2
      go_ret
      exact ⟨rfl, rfl⟩
    · by_cases h2 : b = 99
      · subst h2
        go_enter Tryz.func85, Tryz.ntmps85
        go_wp2
        refine wp_loop_rounds 3 ?_
        rw [rounds_succ]
        go_wp2
        rw [rounds_succ]
        go_wp2
        rw [rounds_succ]
        go_wp2
        go_ret
        exact ⟨rfl, rfl⟩
      · have e : letIdx b = -1 := by unfold letIdx; rw [if_neg h0, if_neg h1, if_neg h2]
        have HE := Lib.hid e
        have f0 : ((((ByteArray.mk #[97, 98, 99])[0]'(by decide)).toNat : Int) == (b.toNat : Int)) = false := by
          show ((97 : Int) == (b.toNat : Int)) = false
          simp only [beq_eq_false_iff_ne, ne_eq]; intro e; exact h0 (UInt8.toNat_inj.1 (by simp; omega))
        have f1 : ((((ByteArray.mk #[97, 98, 99])[1]'(by decide)).toNat : Int) == (b.toNat : Int)) = false := by
          show ((98 : Int) == (b.toNat : Int)) = false
          simp only [beq_eq_false_iff_ne, ne_eq]; intro e; exact h1 (UInt8.toNat_inj.1 (by simp; omega))
        have f2 : ((((ByteArray.mk #[97, 98, 99])[2]'(by decide)).toNat : Int) == (b.toNat : Int)) = false := by
          show ((99 : Int) == (b.toNat : Int)) = false
          simp only [beq_eq_false_iff_ne, ne_eq]; intro e; exact h2 (UInt8.toNat_inj.1 (by simp; omega))
        clear e h0 h1 h2
        go_enter Tryz.func85, Tryz.ntmps85
        go_wp2
        refine wp_loop_rounds 4 ?_
        rw [rounds_succ]
        go_wp2
        rw [rounds_succ]
        go_wp2
        rw [rounds_succ]
        go_wp2
        rw [rounds_succ]
        go_wp2
        go_ret
        exact ⟨congrArg (fun z => Ending.returned (.int .i64 z)) HE.out.symm, rfl⟩
end Go.Proofs.YtlkhmpdncimnfaaGreatDoor

/-
  What spec.IsWord answers at every string: whether it is a word of at most 30 letters; the world is as it was.
-/
namespace Go.Proofs.YtlkhmpdncimnfaaGreatDoor
open Go.RowKit

set_option maxHeartbeats 400000 in
theorem specIsWord_any (s : ByteArray) (w : World) (hs : s.size ≤ maxLen) :
    Calls Tryz.prog 48 #[.string s] w fun e w' => e = .returned (.bool (isW s.data.toList)) ∧ w = w' := by
  unfold maxLen at hs
  go_enter Tryz.func48, Tryz.ntmps48
  go_wp2
  go_loop [3] (fun i => ∃ k : Nat, i = .int .i64 k ∧ k ≤ s.size ∧ (s.data.toList.take k).all isLetter = true) (fun i => s.size - (intOf i).toNat)
  case atStart => exact ⟨0, rfl, Nat.zero_le _, rfl⟩
  case round =>
    obtain ⟨k, rfl, hk, hall⟩ := hrel
    have HA := Lib.hid hall
    clear hall
    by_cases hlt : k < s.size
    · cases hb : isLetter s[k] with
      | true =>
        have HN := Lib.hid (show (s.data.toList.take (k + 1)).all isLetter = true by rw [all_take_succ s k hlt, HA.out, hb]; rfl)
        obtain ⟨hl, h97, h99⟩ := letIdx_yes hb
        have hl0 : 0 ≤ letIdx s[k] := by omega
        clear hl hb
        go_wp2_with (go_at_call 85; refine (specLet_any _ _).mono ?_; rintro e w' ⟨rfl, rfl⟩)
        go_round
        case rel => exact ⟨k + 1, by go_num, by omega, HN.out⟩
        case measure => simp [intOf]; omega
      | false =>
        have HN := Lib.hid (isW_bad hlt hb)
        have hl := letIdx_no hb
        have hl0 : letIdx s[k] < 0 := by omega
        clear hl hb
        go_wp2_with (go_at_call 85; refine (specLet_any _ _).mono ?_; rintro e w' ⟨rfl, rfl⟩)
        go_ret
        exact ⟨congrArg (fun z => Ending.returned (.bool z)) HN.out.symm, rfl⟩
    · obtain rfl : k = s.size := by omega
      have HN := Lib.hid (isW_all HA.out)
      go_wp2
      go_ret
      exact ⟨congrArg (fun z => Ending.returned (.bool z)) HN.out.symm, rfl⟩

end Go.Proofs.YtlkhmpdncimnfaaGreatDoor

/-
  What spec.l3All answers: whether every node of an expression has one of the nine forms.
-/
namespace Go.Proofs.YtlkhmpdncimnfaaGreatDoor
open Go.RowKit

/-- How many parts a kind has. -/
def argsOf (k : Int) : Int := if k = 5 ∨ k = 6 ∨ k = 7 then 2 else if k = 8 ∨ k = 9 then 1 else 0
theorem l3Args_any (k : Int) (w : World) : Calls Tryz.prog 50 #[.int .i64 k] w fun e w' => e = .returned (.int .i64 (argsOf k)) ∧ w = w' := by
  by_cases h5 : k = 5
  · subst h5
    go_enter Tryz.func50, Tryz.ntmps50
    go_wp2
    go_ret
    exact ⟨rfl, rfl⟩
  by_cases h6 : k = 6
  · subst h6
    go_enter Tryz.func50, Tryz.ntmps50
    go_wp2
    go_ret
    exact ⟨rfl, rfl⟩
  by_cases h7 : k = 7
  · subst h7
    go_enter Tryz.func50, Tryz.ntmps50
    go_wp2
    go_ret
    exact ⟨rfl, rfl⟩
  by_cases h8 : k = 8
  · subst h8
    go_enter Tryz.func50, Tryz.ntmps50
    go_wp2
    go_ret
    exact ⟨rfl, rfl⟩
  by_cases h9 : k = 9
  · subst h9
    go_enter Tryz.func50, Tryz.ntmps50
    go_wp2
    go_ret
    exact ⟨rfl, rfl⟩
  have HA : Hid (argsOf k = 0) := Lib.hid (by unfold argsOf; rw [if_neg (by omega), if_neg (by omega)])
  have e5 : (k == 5) = false := by simpa using h5
  have e6 : (k == 6) = false := by simpa using h6
  have e7 : (k == 7) = false := by simpa using h7
  have e8 : (k == 8) = false := by simpa using h8
  have e9 : (k == 9) = false := by simpa using h9
  clear h5 h6 h7 h8 h9
  go_enter Tryz.func50, Tryz.ntmps50
  go_wp2
  go_ret
  exact ⟨congrArg (fun z : Int => Ending.returned (.int .i64 z)) HA.out.symm, rfl⟩
theorem l1In_all (x lo hi : Int) (b : Bool) (w : World) (h : (decide (lo ≤ x) && decide (x ≤ hi)) = b) : Calls Tryz.prog 49 #[.int .i64 x, .int .i64 lo, .int .i64 hi] w fun e w' => e = .returned (.bool b) ∧ w = w' := by
  by_cases h1 : lo ≤ x
  · by_cases h2 : x ≤ hi
    · have HB := Lib.hid h
      clear h
      go_enter Tryz.func49, Tryz.ntmps49
      go_wp2
      go_ret
      exact ⟨by rw [← HB.out]; simp [h1, h2], rfl⟩
    · have HB := Lib.hid h
      clear h
      go_enter Tryz.func49, Tryz.ntmps49
      go_wp2
      go_ret
      exact ⟨by rw [← HB.out]; simp [h2], rfl⟩
  · have h1' : decide (lo ≤ x) = false := by simpa using h1
    have HN := Lib.hid h1
    have HB := Lib.hid h
    clear h
    go_enter Tryz.func49, Tryz.ntmps49
    go_wp2
    go_ret
    exact ⟨by rw [← HB.out]; simp; intro h; have := HN.out; omega, rfl⟩

/-- Whether a node has one of the nine forms; m: how many parts it has. -/
def nodeOk (k : Int) (l : ByteArray) (m : Nat) : Bool :=
  if k = 3 then decide (l.size = 1) && isW l.data.toList && decide (m = 0) else decide (1 ≤ k ∧ k ≤ 9) && decide (l.size = 0) && decide ((m : Int) = argsOf k)
def allRow : Fr → Bool
  | .nil => true
  | .cons k l a r => allRow a && nodeOk k l a.items.length && allRow r
def okItem (x : Int × ByteArray × Fr) : Bool := allRow x.2.2 && nodeOk x.1 x.2.1 x.2.2.items.length
theorem all_items : ∀ f : Fr, allRow f = f.items.all okItem
  | .nil => rfl
  | .cons k l a r => by
    simp only [allRow, Fr.items, List.all_cons, okItem]
    rw [all_items r]
theorem all_step {f : Fr} {j : Nat} {k : Int} {l : ByteArray} {a : Fr} (h : f.items[j]? = some (k, l, a)) (hall : (f.items.take j).all okItem = true) (ho : (allRow a && nodeOk k l a.items.length) = true) : (f.items.take (j + 1)).all okItem = true := by
  have hlt := (List.getElem?_eq_some_iff.1 h).1
  rw [List.take_succ_eq_append_getElem hlt, List.all_append, hall, (List.getElem?_eq_some_iff.1 h).2]
  simpa [okItem] using ho
theorem all_bad {f : Fr} {j : Nat} {k : Int} {l : ByteArray} {a : Fr} (h : f.items[j]? = some (k, l, a)) (ho : (allRow a && nodeOk k l a.items.length) = false) : allRow f = false := by
  rw [all_items, List.all_eq_false]
  exact ⟨_, List.mem_of_getElem? h, by simp [okItem, ho]⟩
theorem bytes_nil {l : ByteArray} (h : l.size = 0) : l.toList = [] := by
  rw [ByteArray.toList_eq]
  exact List.eq_nil_of_length_eq_zero (by simpa using h)
theorem bytes_some {l : ByteArray} (h : l.size ≠ 0) : ¬ l.toList = [] := by
  rw [ByteArray.toList_eq]
  intro e
  have := congrArg List.length e
  exact h (by simpa using this)

set_option maxHeartbeats 1600000 in
theorem specAll_any (n : Nat) : ∀ (B : Nat) (k : Int) (l : ByteArray) (u : Value) (a : Fr) (w : World), Sl w B n u a → B ≤ w.heap.size → l.size ≤ 9223372036854775807 →
    Calls Tryz.prog 29 #[.agg #[.int .i64 k, .string l, u]] w fun e w' => e = .returned (.bool (allRow a && nodeOk k l a.items.length)) ∧ Below w.heap.size w w' := by
  induction n with
  | zero => intro B k l u a w h; exact h.zero.elim
  | succ n ih =>
    intro B k l u a w hS hB hls
    obtain ⟨hl, A, c, rfl, hE⟩ := hS.open
    have HE := Lib.hid hE
    clear hE hS
    go_enter Tryz.func29, Tryz.ntmps29
    go_wp2_with fail
    go_loopw [3] (fun i wr => ∃ j : Nat, i = .int .i64 j ∧ (a.items.take j).all okItem = true ∧ j ≤ a.items.length ∧ Below (w.heap.size + 1) (w.alloc (.cells #[.int .i64 k, .string l, .slice A a.items.length c] 34)) wr) (fun i _ => a.items.length - (intOf i).toNat)
    case atStart => exact ⟨0, rfl, rfl, Nat.zero_le _, Below.refl _ _⟩
    case round =>
      obtain ⟨j, rfl, hall, hj, hb⟩ := hrel
      have HALL := Lib.hid hall
      have hbox := (hb.cell (p := ⟨w.heap.size, 2, none⟩) (Nat.lt_succ_self _)).trans (show _ = some (.slice A a.items.length c) by simp)
      have hbox0 := (hb.cell (p := ⟨w.heap.size, 0, none⟩) (Nat.lt_succ_self _)).trans (show _ = some (.int .i64 k) by simp)
      have hbox1 := (hb.cell (p := ⟨w.heap.size, 1, none⟩) (Nat.lt_succ_self _)).trans (show _ = some (.string l) by simp)
      have hwz : w.heap.size + 1 ≤ wr.heap.size := by have := hb.size; simpa using this
      have HB := Lib.hid hb
      have HW := Lib.hid (((Below.refl _ w).alloc (Nat.le_refl _) _).trans (hb.mono (Nat.le_succ _)))
      clear hb hall
      by_cases hlt : j < a.items.length
      · obtain ⟨g, o, rfl, hg, k', l', a', u, hx, hls', he, h4⟩ := HE.out j hlt
        obtain ⟨hc0, hc1, hc2⟩ := he.below HW.out (Nat.lt_of_lt_of_le hg hB)
        have HI := Lib.hid (fun w1 (hw1 : w.heap.size ≤ w1.heap.size) (hb1 : Below w.heap.size w w1) => ih B k' l' u a' w1 (h4.mono (hb1.mono hB) (Nat.le_refl _)) (by omega) hls')
        cases hok : (allRow a' && nodeOk k' l' a'.items.length) with
        | true =>
          rw [hok] at HI
          have HS := Lib.hid (all_step hx HALL.out hok)
          clear he h4 hx hok
          go_wp2_with fail
          refine (HI.out wr (by omega) HW.out).mono ?_
          rintro e w1 ⟨rfl, hb1⟩
          have HB1 := Lib.hid (HB.out.trans (hb1.mono hwz))
          clear hb1
          go_wp2_with fail
          go_roundw
          case rel => exact ⟨j + 1, by go_num, HS.out, by omega, HB1.out⟩
          case measure => simp [intOf]; omega
        | false =>
          rw [hok] at HI
          have HS := Lib.hid (all_bad hx hok)
          clear he h4 hx hok
          go_wp2_with fail
          refine (HI.out wr (by omega) HW.out).mono ?_
          rintro e w1 ⟨rfl, hb1⟩
          have HB1 := Lib.hid (HW.out.trans (hb1.mono (Nat.le_of_succ_le hwz)))
          clear hb1
          go_wp2_with fail
          go_ret
          exact ⟨by rw [HS.out]; rfl, HB1.out⟩
      · have HA : Hid (allRow a = true) := Lib.hid (by rw [all_items, ← HALL.out, List.take_of_length_le (by omega)])
        have hd : decide ((j : Int) < (a.items.length : Int)) = false := by simp; omega
        by_cases h3 : k = 3
        · subst h3
          have HN : ∀ b, nodeOk 3 l a.items.length = b → Hid ((allRow a && nodeOk 3 l a.items.length) = b) := fun b h => Lib.hid (by rw [HA.out, h]; rfl)
          by_cases hs : l.size = 1
          · have e1 : ((l.size : Int) == 1) = true := by simp [hs]
            have HI := Lib.hid (fun w => specIsWord_any l w (by unfold maxLen; omega))
            cases hw : isW l.data.toList with
            | true =>
              rw [hw] at HI
              by_cases hm : a.items.length = 0
              · have e2 : ((a.items.length : Int) == 0) = true := by simp [hm]
                have HR := HN true (by simp [nodeOk, hs, hw, hm])
                clear hs hw hm HN
                go_wp2_with (go_at_call 48; refine (HI.out _).mono ?_; rintro e w' ⟨rfl, rfl⟩)
                go_ret
                exact ⟨congrArg (fun z : Bool => Ending.returned (.bool z)) HR.out.symm, HW.out⟩
              · have e2 : ((a.items.length : Int) == 0) = false := by simpa using hm
                have HR := HN false (by simp [nodeOk, hm])
                clear hs hw hm HN
                go_wp2_with (go_at_call 48; refine (HI.out _).mono ?_; rintro e w' ⟨rfl, rfl⟩)
                go_ret
                exact ⟨congrArg (fun z : Bool => Ending.returned (.bool z)) HR.out.symm, HW.out⟩
            | false =>
              rw [hw] at HI
              have HR := HN false (by simp [nodeOk, hw])
              clear hs hw HN
              go_wp2_with (go_at_call 48; refine (HI.out _).mono ?_; rintro e w' ⟨rfl, rfl⟩)
              go_ret
              exact ⟨congrArg (fun z : Bool => Ending.returned (.bool z)) HR.out.symm, HW.out⟩
          · have e1 : ((l.size : Int) == 1) = false := by simp; omega
            have HR := HN false (by simp [nodeOk, hs])
            clear hs HN
            go_wp2_with fail
            go_ret
            exact ⟨congrArg (fun z : Bool => Ending.returned (.bool z)) HR.out.symm, HW.out⟩
        · have e3 : (k == 3) = false := by simpa using h3
          have HN : ∀ b, nodeOk k l a.items.length = b → Hid ((allRow a && nodeOk k l a.items.length) = b) := fun b h => Lib.hid (by rw [HA.out, h]; rfl)
          have HK := Lib.hid h3
          clear h3
          by_cases hr : 1 ≤ k ∧ k ≤ 9
          · have HI := Lib.hid (fun w => l1In_all k 1 9 true w (by simp [hr.1, hr.2]))
            by_cases hs : l.size = 0
            · have e1 := bytes_nil hs
              by_cases hm : (a.items.length : Int) = argsOf k
              · have e2 : ((a.items.length : Int) == argsOf k) = true := by simp [hm]
                have HR := HN true (by simp [nodeOk, HK.out, hr, hs, hm])
                clear hs hm HN hr
                go_wp2_with fail
                go_quiet ((first | (go_at_call 49; exact Calls.quiet_of_same ((HI.out _).mono fun _ _ ⟨he, hw⟩ => ⟨he, hw.symm⟩)) | (go_at_call 50; exact Calls.quiet_of_same ((l3Args_any k _).mono fun _ _ ⟨he, hw⟩ => ⟨he, hw.symm⟩))))
                go_wp2
                go_ret
                exact ⟨congrArg (fun z : Bool => Ending.returned (.bool z)) HR.out.symm, below_draws HW.out _⟩
              · have e2 : ((a.items.length : Int) == argsOf k) = false := by simpa using hm
                have HR := HN false (by simp [nodeOk, HK.out, hm])
                clear hs hm HN hr
                go_wp2_with fail
                go_quiet ((first | (go_at_call 49; exact Calls.quiet_of_same ((HI.out _).mono fun _ _ ⟨he, hw⟩ => ⟨he, hw.symm⟩)) | (go_at_call 50; exact Calls.quiet_of_same ((l3Args_any k _).mono fun _ _ ⟨he, hw⟩ => ⟨he, hw.symm⟩))))
                go_wp2
                go_ret
                exact ⟨congrArg (fun z : Bool => Ending.returned (.bool z)) HR.out.symm, below_draws HW.out _⟩
            · have e1 := bytes_some hs
              have HR := HN false (by simp [nodeOk, HK.out, hs])
              clear hs HN hr
              go_wp2_with fail
              go_quiet ((first | (go_at_call 49; exact Calls.quiet_of_same ((HI.out _).mono fun _ _ ⟨he, hw⟩ => ⟨he, hw.symm⟩)) | (go_at_call 50; exact Calls.quiet_of_same ((l3Args_any k _).mono fun _ _ ⟨he, hw⟩ => ⟨he, hw.symm⟩))))
              go_wp2
              go_ret
              exact ⟨congrArg (fun z : Bool => Ending.returned (.bool z)) HR.out.symm, below_draws HW.out _⟩
          · have HI := Lib.hid (fun w => l1In_all k 1 9 false w (by simpa using hr))
            have HR := HN false (by simp [nodeOk, HK.out, hr])
            clear HN hr
            go_wp2_with fail
            go_quiet ((first | (go_at_call 49; exact Calls.quiet_of_same ((HI.out _).mono fun _ _ ⟨he, hw⟩ => ⟨he, hw.symm⟩)) | (go_at_call 50; exact Calls.quiet_of_same ((l3Args_any k _).mono fun _ _ ⟨he, hw⟩ => ⟨he, hw.symm⟩))))
            go_wp2
            go_ret
            exact ⟨congrArg (fun z : Bool => Ending.returned (.bool z)) HR.out.symm, below_draws HW.out _⟩
end Go.Proofs.YtlkhmpdncimnfaaGreatDoor

/-
  What spec.IsValidRegex answers: whether an expression is valid.
-/
namespace Go.Proofs.YtlkhmpdncimnfaaGreatDoor
open Go.RowKit

/-- Whether the node with this kind, letter and parts is a valid expression. -/
def validRx (k : Int) (l : ByteArray) (a : Fr) : Bool := decide (0 ≤ leftRow a 15) && decide (a.depth + 1 ≤ 6) && (allRow a && nodeOk k l a.items.length)

theorem box_cells {w wr : World} {k : Int} {l : ByteArray} {u : Value} {t : TypeId} (hb : Below (w.heap.size + 1) (w.alloc (.cells #[.int .i64 k, .string l, u] t)) wr) :
    wr.cell? ⟨w.heap.size, 0, none⟩ = some (.int .i64 k) ∧ wr.cell? ⟨w.heap.size, 1, none⟩ = some (.string l) ∧ wr.cell? ⟨w.heap.size, 2, none⟩ = some u :=
  ⟨(hb.cell (p := ⟨w.heap.size, 0, none⟩) (Nat.lt_succ_self _)).trans (by simp), (hb.cell (p := ⟨w.heap.size, 1, none⟩) (Nat.lt_succ_self _)).trans (by simp), (hb.cell (p := ⟨w.heap.size, 2, none⟩) (Nat.lt_succ_self _)).trans (by simp)⟩

set_option maxHeartbeats 800000 in
theorem specValid_any (n B : Nat) (k : Int) (l : ByteArray) (u : Value) (a : Fr) (w : World) (hS : Sl w B n u a) (hB : B ≤ w.heap.size) (hsz : a.size ≤ 2097152) (hls : l.size ≤ 9223372036854775807) :
    Calls Tryz.prog 14 #[.agg #[.int .i64 k, .string l, u]] w fun e w' => e = .returned (.bool (validRx k l a)) ∧ Below w.heap.size w w' := by
  have hL : ∀ wr, Below w.heap.size w wr → B ≤ wr.heap.size → Calls Tryz.prog 27 #[.agg #[.int .i64 k, .string l, u], .int .i64 16] wr fun e w' => e = .returned (.int .i64 (leftRow a 15)) ∧ Below wr.heap.size wr w' :=
    fun wr hb hz => specLeft_any n B k l u a 16 wr (hS.mono (hb.mono hB) (Nat.le_refl _)) hz (by omega) (by omega)
  have HL := Lib.hid hL
  clear hL
  have HD := Lib.hid (fun wr (hb : Below w.heap.size w wr) (hz : B ≤ wr.heap.size) => specDepth_any n B k l u a wr (hS.mono (hb.mono hB) (Nat.le_refl _)) hz hsz)
  have HA := Lib.hid (fun wr (hb : Below w.heap.size w wr) (hz : B ≤ wr.heap.size) => specAll_any n B k l u a wr (hS.mono (hb.mono hB) (Nat.le_refl _)) hz hls)
  have hdl := depth_le a
  clear hS
  have HB0 := Lib.hid ((Below.refl w.heap.size w).alloc (Nat.le_refl _) (.cells #[.int .i64 k, .string l, u] 34))
  have HV : ∀ b, validRx k l a = b → Hid (validRx k l a = b) := fun b h => Lib.hid h
  by_cases hq : 0 ≤ leftRow a 15
  · by_cases hd : a.depth + 1 ≤ 6
    · have hd2 : (a.depth : Int) + 1 ≤ 6 := by omega
      have HR := HV (allRow a && nodeOk k l a.items.length) (by simp [validRx, hq, hd])
      clear HV hd
      go_enter Tryz.func14, Tryz.ntmps14
      go_wp2_with fail
      refine (HL.out _ HB0.out (by simp; omega)).mono ?_
      rintro e w1 ⟨rfl, hb1⟩
      have hb1' : Below (w.heap.size + 1) (w.alloc (.cells #[.int .i64 k, .string l, u] 34)) w1 := by simpa using hb1
      obtain ⟨c0, c1, c2⟩ := box_cells hb1'
      have hz1 := hb1'.size
      rw [World.size_alloc] at hz1
      have HB1 := Lib.hid hb1'
      have HW1 := Lib.hid (HB0.out.trans (hb1'.mono (Nat.le_succ _)))
      clear hb1 hb1'
      go_wp2_with fail
      refine (HD.out _ HW1.out (by omega)).mono ?_
      rintro e w2 ⟨rfl, hb2⟩
      have HB2 := Lib.hid (HB1.out.trans (hb2.mono hz1))
      obtain ⟨d0, d1, d2⟩ := box_cells HB2.out
      have HW2 := Lib.hid (HW1.out.trans (hb2.mono (by omega)))
      have hz2 := hb2.size
      clear hb2 c0 c1 c2
      go_wp2_with fail
      refine (HA.out _ HW2.out (by omega)).mono ?_
      rintro e w3 ⟨rfl, hb3⟩
      have HW3 := Lib.hid (HW2.out.trans (hb3.mono (by omega)))
      clear hb3
      rw [← HR.out]
      go_wp2_with fail
      go_ret
      exact ⟨rfl, HW3.out⟩
    · have hd2 : ¬ ((a.depth : Int) + 1 ≤ 6) := by omega
      have hd3 : decide ((a.depth : Int) + 1 ≤ 6) = false := by simpa using hd2
      have HR := HV false (by simp [validRx, hd])
      clear HV hd hd2
      go_enter Tryz.func14, Tryz.ntmps14
      go_wp2_with fail
      refine (HL.out _ HB0.out (by simp; omega)).mono ?_
      rintro e w1 ⟨rfl, hb1⟩
      have hb1' : Below (w.heap.size + 1) (w.alloc (.cells #[.int .i64 k, .string l, u] 34)) w1 := by simpa using hb1
      obtain ⟨c0, c1, c2⟩ := box_cells hb1'
      have hz1 := hb1'.size
      rw [World.size_alloc] at hz1
      have HW1 := Lib.hid (HB0.out.trans (hb1'.mono (Nat.le_succ _)))
      clear hb1 hb1'
      go_wp2_with fail
      refine (HD.out _ HW1.out (by omega)).mono ?_
      rintro e w2 ⟨rfl, hb2⟩
      have HW2 := Lib.hid (HW1.out.trans (hb2.mono (by omega)))
      clear hb2
      go_wp2_with fail
      go_ret
      exact ⟨congrArg (fun z : Bool => Ending.returned (.bool z)) HR.out.symm, HW2.out⟩
  · have hd3 : decide (0 ≤ leftRow a 15) = false := by simpa using hq
    have HR := HV false (by simp [validRx, hq])
    clear HV hq
    go_enter Tryz.func14, Tryz.ntmps14
    go_wp2_with fail
    refine (HL.out _ HB0.out (by simp; omega)).mono ?_
    rintro e w1 ⟨rfl, hb1⟩
    have HW1 := Lib.hid (HB0.out.trans (hb1.mono (by simp)))
    clear hb1
    go_wp2_with fail
    go_ret
    exact ⟨congrArg (fun z : Bool => Ending.returned (.bool z)) HR.out.symm, HW1.out⟩
end Go.Proofs.YtlkhmpdncimnfaaGreatDoor

/-
  Boxes of expressions; what stays where only some blocks turn. Of no function of the program.
-/
namespace Go.Proofs.YtlkhmpdncimnfaaGreatDoor
open Go.RowKit

/-- Block g is a box of an expression. -/
def Bx (w : World) (g : Nat) (k : Int) (b : ByteArray) (v : Value) : Prop := w.cell? ⟨g, 0, none⟩ = some (.int .i64 k) ∧ w.cell? ⟨g, 1, none⟩ = some (.string b) ∧ w.cell? ⟨g, 2, none⟩ = some v
theorem Bx.below {w w' : World} {g B : Nat} {k : Int} {b : ByteArray} {v : Value} (h : Bx w g k b v) (hb : Below B w w') (hg : g < B) : Bx w' g k b v :=
  ⟨(hb.cell (p := ⟨g, 0, none⟩) hg).trans h.1, (hb.cell (p := ⟨g, 1, none⟩) hg).trans h.2.1, (hb.cell (p := ⟨g, 2, none⟩) hg).trans h.2.2⟩
theorem Bx.chg {w w' : World} {S : Nat → Prop} {g : Nat} {k : Int} {b : ByteArray} {v : Value} (h : Bx w g k b v) (hc : Chg S w w') (hg : g < w.heap.size) (hn : ¬ S g) : Bx w' g k b v :=
  ⟨(hc.cell (p := ⟨g, 0, none⟩) hg hn).trans h.1, (hc.cell (p := ⟨g, 1, none⟩) hg hn).trans h.2.1, (hc.cell (p := ⟨g, 2, none⟩) hg hn).trans h.2.2⟩
/-- A box for an answer is new; what was there stays. -/
theorem box_new (w0 w1 : World) (B : Nat) (k : Int) (b : ByteArray) (v : Value) (t : TypeId) (h : Below B w0 w1) (hB : B ≤ w0.heap.size) :
    Below B w0 (w1.alloc (.cells #[.int .i64 k, .string b, v] t)) ∧ Bx (w1.alloc (.cells #[.int .i64 k, .string b, v] t)) w1.heap.size k b v ∧ Below w1.heap.size w1 (w1.alloc (.cells #[.int .i64 k, .string b, v] t)) ∧ (w1.alloc (.cells #[.int .i64 k, .string b, v] t)).heap.size = w1.heap.size + 1 :=
  ⟨h.alloc (Nat.le_trans hB h.size) _, box_cells (Below.refl _ _), (Below.refl _ _).alloc (Nat.le_refl _) _, by simp⟩
theorem own_slt {w w' wr : World} {n : Nat} {v : Value} {f : Fr} (h : SlT w' n (OwnB w w') v f) (hb : Below w'.heap.size w' wr) (B : Nat) (hB : w'.heap.size ≤ B) : Sl wr B n v f :=
  h.sl.mono (fun g hg => hb.block g hg.2) (fun _ hg => Nat.lt_of_lt_of_le hg.2 hB)
theorem tree_sl {w : World} {S : Nat → Prop} {n B : Nat} {v : Value} {f : Fr} (h : SlT w n S v f) (hS : ∀ g, S g → g < B) : Sl w B n v f := h.sl.mono (fun _ _ => rfl) hS

theorem put3 {w1 : World} {g : Nat} {x0 x1 x2 k l u : Value} (b0 : w1.cell? ⟨g, 0, none⟩ = some x0) (b1 : w1.cell? ⟨g, 1, none⟩ = some x1) (b2 : w1.cell? ⟨g, 2, none⟩ = some x2) :
    let W4 := ((w1.setCell ⟨g, 0, none⟩ k).setCell ⟨g, 1, none⟩ l).setCell ⟨g, 2, none⟩ u
    (W4.cell? ⟨g, 0, none⟩ = some k ∧ W4.cell? ⟨g, 1, none⟩ = some l ∧ W4.cell? ⟨g, 2, none⟩ = some u) ∧ W4.heap.size = w1.heap.size ∧ (∀ h, h ≠ g → W4.heap[h]? = w1.heap[h]?) ∧ ∀ B w, Below B w w1 → B ≤ g → Below B w W4 := by
  intro W4
  have ne : ∀ {o o' : Nat}, o ≠ o' → (⟨g, o, none⟩ : Addr) ≠ ⟨g, o', none⟩ := fun h e => by
    injection e with _ e2
    exact h e2
  have d1 : (w1.setCell ⟨g, 0, none⟩ k).cell? ⟨g, 1, none⟩ = some x1 := (World.cell?_setCell_other _ _ _ _ (ne (by omega))).trans b1
  have d2 : ((w1.setCell ⟨g, 0, none⟩ k).setCell ⟨g, 1, none⟩ l).cell? ⟨g, 2, none⟩ = some x2 := (World.cell?_setCell_other _ _ _ _ (ne (by omega))).trans ((World.cell?_setCell_other _ _ _ _ (ne (by omega))).trans b2)
  refine ⟨⟨?_, ?_, World.cell?_setCell_same _ _ _ d2⟩, by simp [W4, World.setCell], fun h hh => ?_, fun B w hb hB => ?_⟩
  · exact (World.cell?_setCell_other _ _ _ _ (ne (by omega))).trans ((World.cell?_setCell_other _ _ _ _ (ne (by omega))).trans (World.cell?_setCell_same _ _ _ b0))
  · exact (World.cell?_setCell_other _ _ _ _ (ne (by omega))).trans (World.cell?_setCell_same _ _ _ d1)
  · exact (Below.heap_setCell _ _ _ h hh).trans ((Below.heap_setCell _ _ _ h hh).trans (Below.heap_setCell _ _ _ h hh))
  · exact ((hb.setCell (p := ⟨g, 0, none⟩) hB _).setCell (p := ⟨g, 1, none⟩) hB _).setCell (p := ⟨g, 2, none⟩) hB _
theorem slt_one {w : World} {n g c : Nat} {S S' : Nat → Prop} {k : Int} {l : ByteArray} {u : Value} {a : Fr} (hg : S g) (hp : Plain w g) (he : ElAt w g 0 k l u) (hl : l.size ≤ 9223372036854775807) (h : SlT w n S' u a) (hs : ∀ h, S' h → S h ∧ h ≠ g) :
    SlT w (n + 1) S (.slice (some ⟨g, 0, none⟩) 1 c) (.cons k l a .nil) := by
  refine ⟨by simp [Fr.items], .inr ⟨g, 0, c, fun j h => j = 0 ∧ S' h, rfl, hg, hp, fun j h hj => hs h hj.2, fun i j h hi hj => hi.1.trans hj.1.symm, fun j k' l' a' hj => ?_⟩⟩
  match j, hj with
  | 0, hj =>
    simp [Fr.items] at hj
    obtain ⟨rfl, rfl, rfl⟩ := hj
    exact ⟨hl, u, by simpa using he, h.mono (fun _ _ => rfl) (fun _ hh => ⟨rfl, hh⟩)⟩
  | j + 1, hj => simp [Fr.items] at hj
theorem slt_two {w : World} {n g c : Nat} {S S1 S2 : Nat → Prop} {k1 k2 : Int} {l1 l2 : ByteArray} {u1 u2 : Value} {a1 a2 : Fr} (hg : S g) (hp : Plain w g) (he1 : ElAt w g 0 k1 l1 u1) (he2 : ElAt w g 3 k2 l2 u2) (hl1 : l1.size ≤ 9223372036854775807) (hl2 : l2.size ≤ 9223372036854775807)
    (h1 : SlT w n S1 u1 a1) (h2 : SlT w n S2 u2 a2) (hs1 : ∀ h, S1 h → S h ∧ h ≠ g) (hs2 : ∀ h, S2 h → S h ∧ h ≠ g) (hd : ∀ h, S1 h → ¬ S2 h) :
    SlT w (n + 1) S (.slice (some ⟨g, 0, none⟩) 2 c) (.cons k1 l1 a1 (.cons k2 l2 a2 .nil)) := by
  refine ⟨by simp [Fr.items], .inr ⟨g, 0, c, fun j h => (j = 0 ∧ S1 h) ∨ (j = 1 ∧ S2 h), rfl, hg, hp, fun j h hj => hj.elim (fun q => hs1 h q.2) (fun q => hs2 h q.2), fun i j h hi hj => ?_, fun j k' l' a' hj => ?_⟩⟩
  · rcases hi with hi | hi <;> rcases hj with hj | hj
    · exact hi.1.trans hj.1.symm
    · exact absurd hj.2 (hd h hi.2)
    · exact absurd hi.2 (hd h hj.2)
    · exact hi.1.trans hj.1.symm
  · match j, hj with
    | 0, hj =>
      simp [Fr.items] at hj
      obtain ⟨rfl, rfl, rfl⟩ := hj
      exact ⟨hl1, u1, by simpa using he1, h1.mono (fun _ _ => rfl) (fun _ hh => .inl ⟨rfl, hh⟩)⟩
    | 1, hj =>
      simp [Fr.items] at hj
      obtain ⟨rfl, rfl, rfl⟩ := hj
      exact ⟨hl2, u2, by simpa using he2, h2.mono (fun _ _ => rfl) (fun _ hh => .inr ⟨rfl, hh⟩)⟩
    | j + 2, hj => simp [Fr.items] at hj

theorem two_new (w : World) (o1 o2 : Obj) : ((w.alloc o1).alloc o2).heap[w.heap.size]? = some o1 ∧ ((w.alloc o1).alloc o2).heap[w.heap.size + 1]? = some o2 := by
  refine ⟨(Below.heap_alloc _ o2 _ (by simp)).trans (heap_alloc_new w o1), ?_⟩
  have := heap_alloc_new (w.alloc o1) o2
  rwa [World.size_alloc] at this
end Go.Proofs.YtlkhmpdncimnfaaGreatDoor
