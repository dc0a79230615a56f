/-
  What the draws of terms and of values answer: short texts; of what was there nothing has turned.
-/
import Derived.Test.YtiijlpmdnokjfaaDrawW
import Derived.Test.YtiijlpmdnokjfaaTerS
import Derived.Deep.RegionWith
namespace Go.Proofs.Ytiijlpmdnokjfaa
open Go.RowKit

def OnceT (g B : Nat) (A : Option Addr) (n c : Nat) (w : World) (e : Ending) (w' : World) : Prop :=
  ∃ b : Bool, e = .returned (.bool b) ∧ Cur w' g B A n c ∧ w.grownBy w' (some g)
set_option maxRecDepth 100000 in
set_option maxHeartbeats 800000 in
theorem l1Once_t (g B : Nat) (A : Option Addr) (n c m : Nat) (w : World) (hc : Cur w g B A n c) (hn : n ≤ 1048576) (h1 : 1 ≤ m) (h2 : m ≤ 256) :
    Calls Try.prog 73 #[.pointer (some ⟨g, 0, none⟩), .int .i64 m] w (OnceT g B A n c w) := by
  have H3 := Lib.hid (l1Below_small g B A n c m w hc hn h1 h2)
  go_enter Try.func73, Try.ntmps73
  go_wp2_with fail
  go_at_call 83
  refine H3.out.mono ?_
  rintro e w1 ⟨x, rfl, hx, hc1, hg1⟩
  have HC1 := Lib.hid hc1
  have HG1 := Lib.hid hg1
  clear hc1 hg1
  go_wp2_with fail
  go_ret
  exact ⟨_, rfl, HC1.out, HG1.out⟩

def sevens : List (List UInt8) := [[97], [98], [88], [89], [88], [97], [90]]
theorem sevens_one {p : List UInt8} (h : p ∈ sevens) : ∃ c, p = [c] := by
  simp only [sevens, List.mem_cons, List.not_mem_nil, or_false] at h
  rcases h with rfl | rfl | rfl | rfl | rfl | rfl | rfl <;> exact ⟨_, rfl⟩
def nines (x : List UInt8) : List (List UInt8) := [[], [97, 88, 98], [88, 88], [87], [90, 89, 88], List.replicate 12 97, List.replicate 12 97 ++ [88], [120], x]
theorem nines_size (x p : List UInt8) (hx : x.length ≤ 6) (h : p ∈ nines x) : p.length ≤ 13 := by
  simp only [nines, List.mem_cons, List.not_mem_nil, or_false] at h
  rcases h with rfl | rfl | rfl | rfl | rfl | rfl | rfl | rfl | rfl <;> first | (simp; done) | (simp; omega) | omega

set_option maxRecDepth 100000 in
set_option maxHeartbeats 1600000 in
theorem l8Draw_any (g B : Nat) (A : Option Addr) (n c : Nat) (w : World) (hc : Cur w g B A n c) (hn : n ≤ 1048576) :
    Calls Try.prog 72 #[.pointer (some ⟨g, 0, none⟩), .int .i64 6, .string ⟨#[88, 89, 90]⟩] w (ShortPost 6 g B A n c w) := by
  have HC := Lib.hid (l1Below_small g B A n c 7 w hc hn (by omega) (by omega))
  clear hc
  go_enter Try.func72, Try.ntmps72
  go_wp2_with fail
  refine HC.out.mono ?_
  rintro e w1 ⟨x, rfl, hx, hcur, hgr⟩
  have C1 := Lib.hid hcur
  have G1 := Lib.hid hgr
  clear hcur hgr
  go_wp2_with fail
  go_loopw [7, 9] (fun s i wr => ∃ (k : Nat) (p : List UInt8), i = .int .i64 k ∧ s = .string ⟨p.toArray⟩ ∧ k ≤ x ∧ p.length ≤ k ∧ Cur wr g B A n c ∧ w.grownBy wr (some g)) (fun _ i _ => x - (intOf i).toNat)
  case atStart => exact ⟨0, [], rfl, rfl, Nat.zero_le _, Nat.le_refl _, C1.out, G1.out⟩
  case round =>
    obtain ⟨k, p, rfl, rfl, hk, hp, hcur, hgr⟩ := hrel
    have C2 := Lib.hid hcur
    have G2 := Lib.hid hgr
    clear hcur hgr
    by_cases hlt : k < x
    · go_wp2_with fail
      have C3 := Lib.hid (C2.out.alloc (.cells (sevens.map fun p => Value.string ⟨p.toArray⟩).toArray 9))
      have G3 := Lib.hid (grown_made G2.out (.cells (sevens.map fun p => Value.string ⟨p.toArray⟩).toArray 9))
      refine (l1Pick_any g B wr.heap.size A n c 7 sevens _ C3.out hn (by omega) (by omega) rfl (by have := C2.out.lt; omega) (heap_alloc_new wr _)).mono ?_
      rintro e w3 ⟨q, hq, rfl, hcur, hgr⟩
      obtain ⟨b, rfl⟩ := sevens_one hq
      have C4 := Lib.hid hcur
      have G4 := Lib.hid (grown_comp G3.out hgr)
      have HA := Lib.hid (str_app p [b])
      have HS : Hid ((⟨p.toArray⟩ : ByteArray).size = p.length) := Lib.hid (by simp [ByteArray.size])
      have HSL := Lib.hid (fun w => specLet_any b w)
      have HC1 := Lib.hid (fun w => specCnt_any ⟨#[88, 89, 90]⟩ b w (by unfold maxLen; decide))
      have HC2 := Lib.hid (fun w => specCnt_any ⟨p.toArray⟩ b w (by rw [HS.out]; unfold maxLen; omega))
      generalize cntL (⟨#[88, 89, 90]⟩ : ByteArray).data.toList b = m1 at HC1
      generalize cntL (⟨p.toArray⟩ : ByteArray).data.toList b = m2 at HC2
      generalize letIdx b = r at HSL
      have hps : (⟨p.toArray⟩ : ByteArray).size = p.length := HS.out
      clear hcur hgr hq
      have hbe : ((⟨#[b]⟩ : ByteArray)[0]'(by show 0 < 1; omega)) = b := rfl
      by_cases h0 : 0 ≤ r
      · go_wp2_with (first | (go_at_call 52; refine (HSL.out _).mono ?_; rintro e w' ⟨rfl, rfl⟩) | (go_at_call 32; first | (with_reducible refine (HC1.out _).mono ?_; rintro e w' ⟨rfl, rfl⟩) | (with_reducible refine (HC2.out _).mono ?_; rintro e w' ⟨rfl, rfl⟩)))
        go_roundw
        case rel => exact ⟨k + 1, p ++ [b], by go_num, congrArg Value.string HA.out, by omega, by rw [List.length_append]; simp; omega, C4.out, G4.out⟩
        case measure => simp [intOf]; omega
      · by_cases h1 : 0 < m1
        · by_cases h2 : m2 < 2
          · go_wp2_with (first | (go_at_call 52; refine (HSL.out _).mono ?_; rintro e w' ⟨rfl, rfl⟩) | (go_at_call 32; first | (with_reducible refine (HC1.out _).mono ?_; rintro e w' ⟨rfl, rfl⟩) | (with_reducible refine (HC2.out _).mono ?_; rintro e w' ⟨rfl, rfl⟩)))
            go_roundw
            case rel => exact ⟨k + 1, p ++ [b], by go_num, congrArg Value.string HA.out, by omega, by rw [List.length_append]; simp; omega, C4.out, G4.out⟩
            case measure => simp [intOf]; omega
          · go_wp2_with (first | (go_at_call 52; refine (HSL.out _).mono ?_; rintro e w' ⟨rfl, rfl⟩) | (go_at_call 32; first | (with_reducible refine (HC1.out _).mono ?_; rintro e w' ⟨rfl, rfl⟩) | (with_reducible refine (HC2.out _).mono ?_; rintro e w' ⟨rfl, rfl⟩)))
            go_roundw
            case rel => exact ⟨k + 1, p, by go_num, rfl, by omega, by omega, C4.out, G4.out⟩
            case measure => simp [intOf]; omega
        · go_wp2_with (first | (go_at_call 52; refine (HSL.out _).mono ?_; rintro e w' ⟨rfl, rfl⟩) | (go_at_call 32; first | (with_reducible refine (HC1.out _).mono ?_; rintro e w' ⟨rfl, rfl⟩) | (with_reducible refine (HC2.out _).mono ?_; rintro e w' ⟨rfl, rfl⟩)))
          go_roundw
          case rel => exact ⟨k + 1, p, by go_num, rfl, by omega, by omega, C4.out, G4.out⟩
          case measure => simp [intOf]; omega
    · go_wp2_with fail
      go_ret
      exact ⟨p, rfl, by omega, C2.out, G2.out⟩

set_option maxRecDepth 100000 in
set_option maxHeartbeats 1600000 in
theorem l8Any_any (g B : Nat) (A : Option Addr) (n c : Nat) (w : World) (hc : Cur w g B A n c) (hn : n ≤ 1048576) :
    Calls Try.prog 45 #[.pointer (some ⟨g, 0, none⟩)] w (ShortPost 13 g B A n c w) := by
  have HC := Lib.hid (l8Draw_any g B A n c w hc hn)
  clear hc
  go_enter Try.func45, Try.ntmps45
  go_wp2_with fail
  refine HC.out.mono ?_
  rintro e w1 ⟨p, rfl, hp, hcur, hgr⟩
  have C1 := Lib.hid hcur
  have G1 := Lib.hid hgr
  clear hcur hgr
  go_wp2_with fail
  have C3 := Lib.hid (C1.out.alloc (.cells ((nines p).map fun p => Value.string ⟨p.toArray⟩).toArray 9))
  have G3 := Lib.hid (grown_made G1.out (.cells ((nines p).map fun p => Value.string ⟨p.toArray⟩).toArray 9))
  refine (l1Pick_any g B w1.heap.size A n c 9 (nines p) _ C3.out hn (by omega) (by omega) rfl (by have := C1.out.lt; omega) (heap_alloc_new w1 _)).mono ?_
  rintro e w3 ⟨q, hq, rfl, hcur, hgr⟩
  have hq1 := nines_size p q hp hq
  have C4 := Lib.hid hcur
  have G4 := Lib.hid (grown_comp G3.out hgr)
  clear hcur hgr hq
  go_wp2_with fail
  go_ret
  exact ⟨q, rfl, hq1, C4.out, G4.out⟩

/-- Values of short texts; the cursor as a cursor. -/
def ValsPost (g B : Nat) (A : Option Addr) (n c : Nat) (w : World) (e : Ending) (w' : World) : Prop :=
  ∃ x y z : ByteArray, e = .returned (.agg #[.string x, .string y, .string z]) ∧ x.size ≤ 31 ∧ y.size ≤ 31 ∧ z.size ≤ 31 ∧ Cur w' g B A n c ∧ w.grownBy w' (some g)
theorem size_mk (p : List UInt8) : (⟨p.toArray⟩ : ByteArray).size = p.length := by simp [ByteArray.size]

theorem Cur.put {w : World} {g B : Nat} {A : Option Addr} {n c : Nat} (h : Cur w g B A n c) {p : Addr} (hp : g < p.block) (u : Value) : Cur (w.setCell p u) g B A n c := by
  obtain ⟨h1, h2, i, hh, hi, hb⟩ := h
  exact ⟨h1, h2.below ((Below.refl B w).setCell (p := p) (by omega) u), i, hh, hi, (Below.heap_setCell w p u g (by omega)).trans hb⟩
theorem grown_put {a w : World} {g : Nat} (h : a.grownBy w (some g)) {p : Addr} (hp : a.heap.size ≤ p.block) (u : Value) : a.grownBy (w.setCell p u) (some g) :=
  ⟨h.os, h.tape, h.output, by simpa [World.setCell] using h.size, fun k hk hne => (Below.heap_setCell w p u k (by omega)).trans (h.block k hk hne)⟩
/-- A block of three cells, written. -/
def put3s (V : World) (R : Nat) (u0 u1 u2 : Value) : World := ((V.setCell ⟨R, 0, none⟩ u0).setCell ⟨R, 1, none⟩ u1).setCell ⟨R, 2, none⟩ u2
theorem put3s_row {V : World} {R : Nat} {a0 a1 a2 : Value} {T : TypeId} (h : V.heap[R]? = some (.cells #[a0, a1, a2] T (0, 0))) (u0 u1 u2 : Value) : (put3s V R u0 u1 u2).heap[R]? = some (.cells #[u0, u1, u2] T (0, 0)) :=
  heap_setCell_same _ R 2 _ _ u2 (heap_setCell_same _ R 1 _ _ u1 (heap_setCell_same V R 0 _ _ u0 h))
theorem put3s_cells {V : World} {R : Nat} {a0 a1 a2 : Value} {T : TypeId} (h : V.heap[R]? = some (.cells #[a0, a1, a2] T (0, 0))) (u0 u1 u2 : Value) :
    (put3s V R u0 u1 u2).cell? ⟨R, 0, none⟩ = some u0 ∧ (put3s V R u0 u1 u2).cell? ⟨R, 1, none⟩ = some u1 ∧ (put3s V R u0 u1 u2).cell? ⟨R, 2, none⟩ = some u2 :=
  have k := put3s_row h u0 u1 u2
  ⟨cell_of_row _ R 0 _ _ (0, 0) k, cell_of_row _ R 1 _ _ (0, 0) k, cell_of_row _ R 2 _ _ (0, 0) k⟩

set_option maxRecDepth 100000 in
set_option maxHeartbeats 1600000 in
theorem l8Values_any (g B : Nat) (A : Option Addr) (n c : Nat) (w : World) (hc : Cur w g B A n c) (hn : n ≤ 1048576) :
    Calls Try.prog 46 #[.pointer (some ⟨g, 0, none⟩)] w (ValsPost g B A n c w) := by
  have hg := hc.lt
  obtain ⟨W, hW⟩ : ∃ W, W = w.alloc (.cells #[.string ⟨#[]⟩, .string ⟨#[]⟩, .string ⟨#[]⟩] 25) := ⟨_, rfl⟩
  have C0 : Hid (Cur W g B A n c) := Lib.hid (by rw [hW]; exact hc.alloc _)
  have G0 : Hid (w.grownBy W (some g)) := Lib.hid (by rw [hW]; exact grown_made (grown_refl w (some g)) _)
  have K0 : Hid (W.heap[w.heap.size]? = some (.cells #[.string ⟨#[]⟩, .string ⟨#[]⟩, .string ⟨#[]⟩] 25)) := Lib.hid (by rw [hW]; exact heap_alloc_new w _)
  have Z0 : Hid (w.heap.size < W.heap.size) := Lib.hid (by rw [hW]; simp)
  have hne : (some w.heap.size : Option Nat) ≠ some g := fun e => by cases e; omega
  have KK := Lib.hid (fun (V V' : World) (h : V.grownBy V' (some g)) (hz : w.heap.size < V.heap.size) (k : V.heap[w.heap.size]? = some (.cells #[.string ⟨#[]⟩, .string ⟨#[]⟩, .string ⟨#[]⟩] 25)) => (h.block w.heap.size hz hne).trans k)
  clear hc hne
  go_enter Try.func46, Try.ntmps46
  go_wp2_with fail
  rw [← hW]
  clear hW
  refine (l2Word_at 3 (by omega) g B A n c W C0.out hn).mono ?_
  rintro e w1 ⟨x, rfl, hx, hcur, hgr⟩
  have C1 := Lib.hid hcur
  have G1 := Lib.hid (grown_comp G0.out hgr)
  have K1 := Lib.hid (KK.out _ _ hgr Z0.out K0.out)
  have Z1 := Lib.hid (Nat.lt_of_lt_of_le Z0.out hgr.size)
  clear hcur hgr
  go_wp2_with fail
  refine (l2Word_at 3 (by omega) g B A n c w1 C1.out hn).mono ?_
  rintro e w2 ⟨y, rfl, hy, hcur, hgr⟩
  have C2 := Lib.hid hcur
  have G2 := Lib.hid (grown_comp G1.out hgr)
  have K2 := Lib.hid (KK.out _ _ hgr Z1.out K1.out)
  have Z2 := Lib.hid (Nat.lt_of_lt_of_le Z1.out hgr.size)
  clear hcur hgr
  go_wp2_with fail
  refine (l1Once_t g B A n c 10 w2 C2.out hn (by omega) (by omega)).mono ?_
  rintro e w3 ⟨bq, rfl, hcur, hgr⟩
  have C3 := Lib.hid hcur
  have G3 := Lib.hid (grown_comp G2.out hgr)
  have K3 := Lib.hid (KK.out _ _ hgr Z2.out K2.out)
  have Z3 := Lib.hid (Nat.lt_of_lt_of_le Z2.out hgr.size)
  clear hcur hgr
  cases bq with
  | true =>
    go_wp2_with fail
    refine (l2Any_any g B A n c w3 C3.out hn).mono ?_
    rintro e w4 ⟨x', rfl, hx', hcur, hgr⟩
    have C4 := Lib.hid hcur
    have G4 := Lib.hid (grown_comp G3.out hgr)
    have K4 := Lib.hid (KK.out _ _ hgr Z3.out K3.out)
    have Z4 := Lib.hid (Nat.lt_of_lt_of_le Z3.out hgr.size)
    clear hcur hgr
    go_wp2_with fail
    refine (l2Word_at 2 (by omega) g B A n c w4 C4.out hn).mono ?_
    rintro e w5 ⟨z, rfl, hz, hcur, hgr⟩
    have C5 := Lib.hid hcur
    have G5 := Lib.hid (grown_comp G4.out hgr)
    have K5 := Lib.hid (KK.out _ _ hgr Z4.out K4.out)
    clear hcur hgr
    obtain ⟨c0, c1, c2⟩ : w5.cell? ⟨w.heap.size, 0, none⟩ = some (.string ⟨#[]⟩) ∧ w5.cell? ⟨w.heap.size, 1, none⟩ = some (.string ⟨#[]⟩) ∧ w5.cell? ⟨w.heap.size, 2, none⟩ = some (.string ⟨#[]⟩) := ⟨cell_of_row _ _ 0 _ _ (0, 0) K5.out, cell_of_row _ _ 1 _ _ (0, 0) K5.out, cell_of_row _ _ 2 _ _ (0, 0) K5.out⟩
    have f0 := frozen_of_row w5 w.heap.size 0 _ _ K5.out
    have f1 := frozen_of_row w5 w.heap.size 1 _ _ K5.out
    have f2 := frozen_of_row w5 w.heap.size 2 _ _ K5.out
    go_wp2_with fail
    have P := put3s_cells K5.out (.string ⟨x'.toArray⟩) (.string ⟨y.toArray⟩) (.string ⟨z.toArray⟩)
    unfold put3s at P
    refine bodyPost_ret (v := .agg #[.string ⟨x'.toArray⟩, .string ⟨y.toArray⟩, .string ⟨z.toArray⟩]) (by simp [results, Try.results46, go_sem, P]) rfl
      ⟨_, _, _, rfl, by rw [size_mk]; exact hx', by rw [size_mk]; omega, by rw [size_mk]; omega, ((C5.out.put (p := ⟨w.heap.size, 0, none⟩) hg _).put (p := ⟨w.heap.size, 1, none⟩) hg _).put (p := ⟨w.heap.size, 2, none⟩) hg _, grown_put (p := ⟨w.heap.size, 2, none⟩) (grown_put (p := ⟨w.heap.size, 1, none⟩) (grown_put (p := ⟨w.heap.size, 0, none⟩) G5.out (Nat.le_refl _) _) (Nat.le_refl _) _) (Nat.le_refl _) _⟩
  | false =>
    go_wp2_with fail
    refine (l2Word_at 2 (by omega) g B A n c w3 C3.out hn).mono ?_
    rintro e w5 ⟨z, rfl, hz, hcur, hgr⟩
    have C5 := Lib.hid hcur
    have G5 := Lib.hid (grown_comp G3.out hgr)
    have K5 := Lib.hid (KK.out _ _ hgr Z3.out K3.out)
    clear hcur hgr
    obtain ⟨c0, c1, c2⟩ : w5.cell? ⟨w.heap.size, 0, none⟩ = some (.string ⟨#[]⟩) ∧ w5.cell? ⟨w.heap.size, 1, none⟩ = some (.string ⟨#[]⟩) ∧ w5.cell? ⟨w.heap.size, 2, none⟩ = some (.string ⟨#[]⟩) := ⟨cell_of_row _ _ 0 _ _ (0, 0) K5.out, cell_of_row _ _ 1 _ _ (0, 0) K5.out, cell_of_row _ _ 2 _ _ (0, 0) K5.out⟩
    have f0 := frozen_of_row w5 w.heap.size 0 _ _ K5.out
    have f1 := frozen_of_row w5 w.heap.size 1 _ _ K5.out
    have f2 := frozen_of_row w5 w.heap.size 2 _ _ K5.out
    go_wp2_with fail
    have P := put3s_cells K5.out (.string ⟨x.toArray⟩) (.string ⟨y.toArray⟩) (.string ⟨z.toArray⟩)
    unfold put3s at P
    refine bodyPost_ret (v := .agg #[.string ⟨x.toArray⟩, .string ⟨y.toArray⟩, .string ⟨z.toArray⟩]) (by simp [results, Try.results46, go_sem, P]) rfl
      ⟨_, _, _, rfl, by rw [size_mk]; omega, by rw [size_mk]; omega, by rw [size_mk]; omega, ((C5.out.put (p := ⟨w.heap.size, 0, none⟩) hg _).put (p := ⟨w.heap.size, 1, none⟩) hg _).put (p := ⟨w.heap.size, 2, none⟩) hg _, grown_put (p := ⟨w.heap.size, 2, none⟩) (grown_put (p := ⟨w.heap.size, 1, none⟩) (grown_put (p := ⟨w.heap.size, 0, none⟩) G5.out (Nat.le_refl _) _) (Nat.le_refl _) _) (Nat.le_refl _) _⟩
end Go.Proofs.Ytiijlpmdnokjfaa
