/-
  What slices.Reverse does to a row of bytes of the call's own.
-/
import Derived.Test.YthmfncklepkddaaDfaX
import Derived.RegionTactic
import Derived.ChangeAlike
namespace Go.Proofs.Ythmfncklepkddaa
open Go.RowKit

def byts (l : List UInt8) : List Value := l.map fun b => .int .u8 (b.toNat : Int)
theorem byts_length (l : List UInt8) : (byts l).length = l.length := by simp [byts]
/-- With k letters at either end exchanged. -/
def revN (l : List UInt8) (k : Nat) : List UInt8 := (List.range l.length).map fun x => if x < k ∨ l.length ≤ x + k then l.getD (l.length - 1 - x) 0 else l.getD x 0
theorem revN_length (l : List UInt8) (k : Nat) : (revN l k).length = l.length := by simp [revN]
theorem revN_get {l : List UInt8} {k x : Nat} (hx : x < l.length) : (revN l k)[x]? = some (if x < k ∨ l.length ≤ x + k then l.getD (l.length - 1 - x) 0 else l.getD x 0) := by
  simp [revN, hx]
theorem revN_zero (l : List UInt8) : revN l 0 = l := by
  apply List.ext_getElem?
  intro x
  by_cases hx : x < l.length
  · rw [revN_get hx, if_neg (by omega), List.getD_eq_getElem?_getD, List.getElem?_eq_getElem hx]
    rfl
  · rw [List.getElem?_eq_none (by rw [revN_length]; omega), List.getElem?_eq_none (by omega)]
theorem revN_end {l : List UInt8} {k : Nat} (h : l.length ≤ 2 * k + 1) : revN l k = l.reverse := by
  apply List.ext_getElem?
  intro x
  by_cases hx : x < l.length
  · rw [revN_get hx, List.getElem?_reverse hx]
    by_cases hk : x < k ∨ l.length ≤ x + k
    · rw [if_pos hk, List.getD_eq_getElem?_getD, List.getElem?_eq_getElem (by omega)]
      rfl
    · rw [if_neg hk, show l.length - 1 - x = x by omega, List.getD_eq_getElem?_getD, List.getElem?_eq_getElem hx]
      rfl
  · rw [List.getElem?_eq_none (by rw [revN_length]; omega), List.getElem?_eq_none (by simp; omega)]
theorem byts_rev_at {l : List UInt8} {k m : Nat} (h : k + m + 1 = l.length) (hk : k < m) : (byts (revN l k))[k]? = some (.int .u8 ((l.getD k 0).toNat : Int)) ∧ (byts (revN l k))[m]? = some (.int .u8 ((l.getD m 0).toNat : Int)) := by
  unfold byts
  rw [List.getElem?_map, List.getElem?_map, revN_get (show k < l.length by omega), revN_get (show m < l.length by omega), if_neg (by omega), if_neg (by omega)]
  exact ⟨rfl, rfl⟩
theorem byts_rev_step {l : List UInt8} {k m : Nat} (h : k + m + 1 = l.length) (hk : k < m) :
    ((byts (revN l k)).set k (.int .u8 ((l.getD m 0).toNat : Int))).set m (.int .u8 ((l.getD k 0).toNat : Int)) = byts (revN l (k + 1)) := by
  apply List.ext_getElem?
  intro x
  rw [List.getElem?_set, List.getElem?_set, List.length_set, byts_length, revN_length]
  by_cases hx : x < l.length
  · unfold byts
    rw [List.getElem?_map, List.getElem?_map, revN_get hx, revN_get hx]
    by_cases e1 : m = x
    · subst e1
      rw [if_pos rfl, if_pos hx, if_pos (by omega), show l.length - 1 - m = k by omega]
      rfl
    · rw [if_neg e1]
      by_cases e2 : k = x
      · subst e2
        rw [if_pos rfl, if_pos hx, if_pos (by omega), show l.length - 1 - k = m by omega]
        rfl
      · rw [if_neg e2]
        by_cases hc : x < k ∨ l.length ≤ x + k
        · rw [if_pos hc, if_pos (by omega)]
        · rw [if_neg hc, if_neg (by omega)]
  · rw [if_neg (by omega), if_neg (by omega), List.getElem?_eq_none (by rw [byts_length, revN_length]; omega), List.getElem?_eq_none (by rw [byts_length, revN_length]; omega)]

set_option maxRecDepth 100000 in
set_option maxHeartbeats 1600000 in
theorem libRev_any (v : Value) (l : List UInt8) (S : Nat → Prop) (w : World) (h : RowO w S v (byts l)) (hl : l.length ≤ 2000) :
    Calls Try.prog 118 #[v] w fun e w' => e = .returned (.tuple #[]) ∧ RowO w' S v (byts l.reverse) ∧ Chg S w w' ∧ w'.heap.size = w.heap.size := by
  obtain ⟨A, c, rfl⟩ := h.shape
  rw [byts_length] at h ⊢
  obtain ⟨n, hn⟩ : ∃ n, n = l.length := ⟨_, rfl⟩
  have HN := Lib.hid hn
  rw [← hn] at h hl ⊢
  have H0 : Hid (RowO w S (.slice A n c) (byts (revN l 0))) := Lib.hid (by rw [revN_zero]; exact h)
  clear h hn
  go_enter Try.func118, Try.ntmps118
  go_wp2_with fail
  go_loopw [2, 3] (fun i j wr => ∃ (k : Nat) (z : Int), i = .int .i64 k ∧ j = .int .i64 z ∧ Hid (z = (n : Int) - 1 - k) ∧ Hid (k ≤ n) ∧ Hid (RowO wr S (.slice A n c) (byts (revN l k))) ∧ Hid (Chg S w wr ∧ wr.heap.size = w.heap.size)) (fun i j _ => (intOf j - intOf i + 1).toNat)
  case atStart => exact ⟨0, _, rfl, rfl, Lib.hid (by simp), Lib.hid (Nat.zero_le _), H0, Lib.hid ⟨Chg.refl _ _, rfl⟩⟩
  case round =>
    obtain ⟨k, z, rfl, rfl, HZ, HK, HO, HC⟩ := hrel
    by_cases hlt : (k : Int) < z
    · obtain ⟨m, hm⟩ : ∃ m : Nat, z = (m : Int) := ⟨z.toNat, by omega⟩
      subst hm
      have hkm : k < m := by omega
      have hkn := HZ.out
      have hs : k + m + 1 = n := by omega
      have hmn : m < n := by omega
      have HS := Lib.hid hs
      have hkn' : k < n := by omega
      obtain ⟨g, rfl, hS, hgl, hst⟩ := HO.out.set (j := k) (by rw [byts_length, revN_length, ← HN.out]; omega)
      obtain ⟨g2, hg2, -, -, hst2⟩ := HO.out.set (j := m) (by rw [byts_length, revN_length, ← HN.out]; omega)
      cases hg2
      obtain ⟨bk, hbk⟩ : ∃ b : Int, b = ((l.getD k 0).toNat : Int) := ⟨_, rfl⟩
      obtain ⟨bm, hbm⟩ : ∃ b : Int, b = ((l.getD m 0).toNat : Int) := ⟨_, rfl⟩
      obtain ⟨ck, cm⟩ := byts_rev_at (l := l) (k := k) (m := m) (by rw [← HN.out]; exact hs) hkm
      rw [← hbk] at ck
      rw [← hbm] at cm
      obtain ⟨A1, c1, e1, hcell⟩ := HO.out.row.2
      obtain ⟨hk0, hk1⟩ : wr.cell? ⟨g, k, none⟩ = some (.int .u8 bk) ∧ wr.cell? ⟨g, m, none⟩ = some (.int .u8 bm) := by
        injection e1 with e1 _ _
        subst e1
        obtain ⟨a1, h1, -, h2⟩ := hcell k _ ck
        obtain ⟨a2, h3, -, h4⟩ := hcell m _ cm
        cases h1
        cases h3
        rw [Addr.add_lit, Nat.zero_add] at h2 h4
        exact ⟨h2, h4⟩
      obtain ⟨-, hf0, -⟩ := hst wr rfl
      obtain ⟨-, hf1, -⟩ := hst2 wr rfl
      have hn1 : k ≠ m := by omega
      have hn2 : m ≠ k := by omega
      have H1 : Hid (RowO ((wr.drew.setCell ⟨g, k, none⟩ (.int .u8 bm)).setCell ⟨g, m, none⟩ (.int .u8 bk)) S (.slice (some ⟨g, 0, none⟩) n c) (byts (revN l (k + 1)))) := Lib.hid (by
        rw [← byts_rev_step (l := l) (k := k) (m := m) (by rw [← HN.out]; exact hs) hkm, ← hbk, ← hbm]
        have h1 := (hst wr.drew rfl).2.2 (.int .u8 bm)
        obtain ⟨g3, hg3, -, -, hst3⟩ := h1.set (j := m) (by rw [List.length_set, byts_length, revN_length, ← HN.out]; omega)
        cases hg3
        exact (hst3 _ rfl).2.2 _)
      have H2 : Hid (RowO ((wr.drew.setCell ⟨g, m, none⟩ (.int .u8 bk)).setCell ⟨g, k, none⟩ (.int .u8 bm)) S (.slice (some ⟨g, 0, none⟩) n c) (byts (revN l (k + 1)))) := Lib.hid (by
        rw [← byts_rev_step (l := l) (k := k) (m := m) (by rw [← HN.out]; exact hs) hkm, ← hbk, ← hbm, List.set_comm _ _ hn1]
        have h1 := (hst2 wr.drew rfl).2.2 (.int .u8 bk)
        obtain ⟨g3, hg3, -, -, hst3⟩ := h1.set (j := k) (by rw [List.length_set, byts_length, revN_length, ← HN.out]; omega)
        cases hg3
        exact (hst3 _ rfl).2.2 _)
      have HC1 : Hid (∀ x y : Value, ∀ p q : Nat, Chg S w ((wr.drew.setCell ⟨g, p, none⟩ x).setCell ⟨g, q, none⟩ y) ∧ ((wr.drew.setCell ⟨g, p, none⟩ x).setCell ⟨g, q, none⟩ y).heap.size = w.heap.size) := Lib.hid (fun x y p q =>
        ⟨((HC.out.1.below (Below.refl _ _).drew).set (a := ⟨g, p, none⟩) hS x).set (a := ⟨g, q, none⟩) hS y, by simpa [World.setCell] using HC.out.2⟩)
      have s0 : (0 : Int) ≤ (k : Int) := by omega
      have s1 : (0 : Int) ≤ (m : Int) := by omega
      have s2 : (k : Int) < (n : Int) := by omega
      have s3 : (m : Int) < (n : Int) := by omega
      clear hst hst2 hbk hbm ck cm hcell e1 hkn hs
      go_wp2_with fail
      go_region
      all_goals
        go_wp2_with fail
        go_roundw
        case rel => first | exact ⟨k + 1, _, by go_num, rfl, Lib.hid (by have := HS.out; omega), Lib.hid (by have := HS.out; omega), H1, Lib.hid (HC1.out _ _ _ _)⟩ | exact ⟨k + 1, _, by go_num, rfl, Lib.hid (by have := HS.out; omega), Lib.hid (by have := HS.out; omega), H2, Lib.hid (HC1.out _ _ _ _)⟩
        case measure => simp [intOf]; omega
    · have HE : Hid (revN l k = l.reverse) := Lib.hid (revN_end (by have := HZ.out; have := HN.out; omega))
      have HOe : Hid (RowO wr S (.slice A n c) (byts l.reverse)) := Lib.hid (by rw [← HE.out]; exact HO.out)
      clear HO HE
      go_wp2_with fail
      go_end0
      exact ⟨rfl, HOe.out, HC.out.1, HC.out.2⟩
end Go.Proofs.Ythmfncklepkddaa
