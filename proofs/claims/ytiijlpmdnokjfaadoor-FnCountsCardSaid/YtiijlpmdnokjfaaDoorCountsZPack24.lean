/- Texts of one proof. -/
import Derived.ChangeAlike
import Derived.Laws.BytesArg
import Derived.Test.YtiijlpmdnokjfaaDoorCountsZPack22
set_option maxRecDepth 100000
set_option maxHeartbeats 20000000
namespace Go.Proofs.YtiijlpmdnokjfaaDoor
open Go.RowKit
def byts (l : List UInt8) : List Value := l.map λ b => .int .u8 (b.toNat : Int)
theorem byts_length (l : List UInt8) : (byts l).length = l.length := by simp [byts]
def revN (l : List UInt8) (k : Nat) : List UInt8 := (List.range l.length).map λ x => if x < k \/ l.length <= x + k then l.getD (l.length - 1 - x) 0 else l.getD x 0
theorem revN_length (l : List UInt8) (k : Nat) : (revN l k).length = l.length := by simp [revN]
theorem revN_get {l : List UInt8} {k x : Nat} (hx : x < l.length) : (revN l k)[x]? = some (if x < k \/ l.length <= x + k then l.getD (l.length - 1 - x) 0 else l.getD x 0) := by
  simp [revN, hx]
theorem revN_zero (l : List UInt8) : revN l 0 = l := by
  apply List.ext_getElem?
  intro x
  by_cases hx : x < l.length
  . rw [revN_get hx, if_neg (by omega), List.getD_eq_getElem?_getD, List.getElem?_eq_getElem hx]
    rfl
  . rw [List.getElem?_eq_none (by rw [revN_length]; omega), List.getElem?_eq_none (by omega)]
theorem revN_end {l : List UInt8} {k : Nat} (h : l.length <= 2 * k + 1) : revN l k = l.reverse := by
  apply List.ext_getElem?
  intro x
  by_cases hx : x < l.length
  . rw [revN_get hx, List.getElem?_reverse hx]
    by_cases hk : x < k \/ l.length <= x + k
    . rw [if_pos hk, List.getD_eq_getElem?_getD, List.getElem?_eq_getElem (by omega)]
      rfl
    . rw [if_neg hk, show l.length - 1 - x = x by omega, List.getD_eq_getElem?_getD, List.getElem?_eq_getElem hx]
      rfl
  . rw [List.getElem?_eq_none (by rw [revN_length]; omega), List.getElem?_eq_none (by simp; omega)]
theorem byts_rev_at {l : List UInt8} {k m : Nat} (h : k + m + 1 = l.length) (hk : k < m) : (byts (revN l k))[k]? = some (.int .u8 ((l.getD k 0).toNat : Int)) /\ (byts (revN l k))[m]? = some (.int .u8 ((l.getD m 0).toNat : Int)) := by
  unfold byts
  rw [List.getElem?_map, List.getElem?_map, revN_get (show k < l.length by omega), revN_get (show m < l.length by omega), if_neg (by omega), if_neg (by omega)]
  exact ⟨rfl, rfl⟩
theorem byts_rev_step {l : List UInt8} {k m : Nat} (h : k + m + 1 = l.length) (hk : k < m) :
    ((byts (revN l k)).set k (.int .u8 ((l.getD m 0).toNat : Int))).set m (.int .u8 ((l.getD k 0).toNat : Int)) = byts (revN l (k + 1)) := by
  apply List.ext_getElem?
  intro x
  rw [List.getElem?_set, List.getElem?_set, List.length_set, byts_length, revN_length]
  by_cases hx : x < l.length
  . unfold byts
    rw [List.getElem?_map, List.getElem?_map, revN_get hx, revN_get hx]
    by_cases e1 : m = x
    . subst e1
      rw [if_pos rfl, if_pos hx, if_pos (by omega), show l.length - 1 - m = k by omega]
      rfl
    . rw [if_neg e1]
      by_cases e2 : k = x
      . subst e2
        rw [if_pos rfl, if_pos hx, if_pos (by omega), show l.length - 1 - k = m by omega]
        rfl
      . rw [if_neg e2]
        by_cases hc : x < k \/ l.length <= x + k
        . rw [if_pos hc, if_pos (by omega)]
        . rw [if_neg hc, if_neg (by omega)]
  . rw [if_neg (by omega), if_neg (by omega), List.getElem?_eq_none (by rw [byts_length, revN_length]; omega), List.getElem?_eq_none (by rw [byts_length, revN_length]; omega)]
theorem libRev_any (v : Value) (l : List UInt8) (S : Nat -> Prop) (w : World) (h : RowO w S v (byts l)) (hl : l.length <= 2000) :
    Calls Tryd.prog 97 #[v] w λ e w' => e = .returned (.tuple #[]) /\ RowO w' S v (byts l.reverse) /\ Chg S w w' /\ w'.heap.size = w.heap.size := by
  obtain ⟨A, c, rfl⟩ := h.shape
  rw [byts_length] at h ⊢
  obtain ⟨n, hn⟩ : ∃ n, n = l.length := ⟨_, rfl⟩
  have HN := Lib.hid hn
  rw [<- hn] at h hl ⊢
  have H0 : Hid (RowO w S (.slice A n c) (byts (revN l 0))) := Lib.hid (by rw [revN_zero]; exact h)
  clear h hn
  go_enter Tryd.func97, Tryd.ntmps97
  go_wp2_with fail
  go_loopw [2, 3] (λ i j wr => ∃ (k : Nat) (z : Int), i = .int .i64 k /\ j = .int .i64 z /\ Hid (z = (n : Int) - 1 - k) /\ Hid (k <= n) /\ Hid (RowO wr S (.slice A n c) (byts (revN l k))) /\ Hid (Chg S w wr /\ wr.heap.size = w.heap.size)) (λ i j _ => (intOf j - intOf i + 1).toNat)
  case atStart => exact ⟨0, _, rfl, rfl, Lib.hid (by simp), Lib.hid (Nat.zero_le _), H0, Lib.hid ⟨Chg.refl _ _, rfl⟩⟩
  case round =>
    obtain ⟨k, z, rfl, rfl, HZ, HK, HO, HC⟩ := hrel
    by_cases hlt : (k : Int) < z
    . obtain ⟨m, hm⟩ : ∃ m : Nat, z = (m : Int) := ⟨z.toNat, by omega⟩
      subst hm
      have hkm : k < m := by omega
      have hkn := HZ.out
      have hs : k + m + 1 = n := by omega
      have hmn : m < n := by omega
      have HS := Lib.hid hs
      have hkn' : k < n := by omega
      obtain ⟨g, rfl, hS, hgl, hst⟩ := HO.out.set (j := k) (by rw [byts_length, revN_length, <- HN.out]; omega)
      obtain ⟨g2, hg2, -, -, hst2⟩ := HO.out.set (j := m) (by rw [byts_length, revN_length, <- HN.out]; omega)
      cases hg2
      obtain ⟨bk, hbk⟩ : ∃ b : Int, b = ((l.getD k 0).toNat : Int) := ⟨_, rfl⟩
      obtain ⟨bm, hbm⟩ : ∃ b : Int, b = ((l.getD m 0).toNat : Int) := ⟨_, rfl⟩
      obtain ⟨ck, cm⟩ := byts_rev_at (l := l) (k := k) (m := m) (by rw [<- HN.out]; exact hs) hkm
      rw [<- hbk] at ck
      rw [<- hbm] at cm
      obtain ⟨A1, c1, e1, hcell⟩ := HO.out.row.2
      obtain ⟨hk0, hk1⟩ : wr.cell? ⟨g, k, none⟩ = some (.int .u8 bk) /\ wr.cell? ⟨g, m, none⟩ = some (.int .u8 bm) := by
        injection e1 with e1 _ _
        subst e1
        obtain ⟨a1, h1, -, h2⟩ := hcell k _ ck
        obtain ⟨a2, h3, -, h4⟩ := hcell m _ cm
        cases h1
        cases h3
        rw [Addr.add_lit, Nat.zero_add] at h2 h4
        exact ⟨h2, h4⟩
      obtain ⟨-, hf0, -⟩ := hst wr rfl
      obtain ⟨-, hf1, -⟩ := hst2 wr rfl
      have hn1 : k ≠ m := by omega
      have hn2 : m ≠ k := by omega
      have H1 : Hid (RowO ((wr.drew.setCell ⟨g, k, none⟩ (.int .u8 bm)).setCell ⟨g, m, none⟩ (.int .u8 bk)) S (.slice (some ⟨g, 0, none⟩) n c) (byts (revN l (k + 1)))) := Lib.hid (by
        rw [<- byts_rev_step (l := l) (k := k) (m := m) (by rw [<- HN.out]; exact hs) hkm, <- hbk, <- hbm]
        have h1 := (hst wr.drew rfl).2.2 (.int .u8 bm)
        obtain ⟨g3, hg3, -, -, hst3⟩ := h1.set (j := m) (by rw [List.length_set, byts_length, revN_length, <- HN.out]; omega)
        cases hg3
        exact (hst3 _ rfl).2.2 _)
      have H2 : Hid (RowO ((wr.drew.setCell ⟨g, m, none⟩ (.int .u8 bk)).setCell ⟨g, k, none⟩ (.int .u8 bm)) S (.slice (some ⟨g, 0, none⟩) n c) (byts (revN l (k + 1)))) := Lib.hid (by
        rw [<- byts_rev_step (l := l) (k := k) (m := m) (by rw [<- HN.out]; exact hs) hkm, <- hbk, <- hbm, List.set_comm _ _ hn1]
        have h1 := (hst2 wr.drew rfl).2.2 (.int .u8 bk)
        obtain ⟨g3, hg3, -, -, hst3⟩ := h1.set (j := k) (by rw [List.length_set, byts_length, revN_length, <- HN.out]; omega)
        cases hg3
        exact (hst3 _ rfl).2.2 _)
      have HC1 : Hid (∀ x y : Value, ∀ p q : Nat, Chg S w ((wr.drew.setCell ⟨g, p, none⟩ x).setCell ⟨g, q, none⟩ y) /\ ((wr.drew.setCell ⟨g, p, none⟩ x).setCell ⟨g, q, none⟩ y).heap.size = w.heap.size) := Lib.hid (λ x y p q =>
        ⟨((HC.out.1.below (Below.refl _ _).drew).set (a := ⟨g, p, none⟩) hS x).set (a := ⟨g, q, none⟩) hS y, by simpa [World.setCell] using HC.out.2⟩)
      have s0 : (0 : Int) <= (k : Int) := by omega
      have s1 : (0 : Int) <= (m : Int) := by omega
      have s2 : (k : Int) < (n : Int) := by omega
      have s3 : (m : Int) < (n : Int) := by omega
      clear hst hst2 hbk hbm ck cm hcell e1 hkn hs
      go_wp2_with fail
      go_region
      all_goals
        go_wp2_with fail
        go_roundw
        case rel => first | exact ⟨k + 1, _, by go_num, rfl, Lib.hid (by have := HS.out; omega), Lib.hid (by have := HS.out; omega), H1, Lib.hid (HC1.out _ _ _ _)⟩ | exact ⟨k + 1, _, by go_num, rfl, Lib.hid (by have := HS.out; omega), Lib.hid (by have := HS.out; omega), H2, Lib.hid (HC1.out _ _ _ _)⟩
        case measure => simp [intOf]; omega
    . have HE : Hid (revN l k = l.reverse) := Lib.hid (revN_end (by have := HZ.out; have := HN.out; omega))
      have HOe : Hid (RowO wr S (.slice A n c) (byts l.reverse)) := Lib.hid (by rw [<- HE.out]; exact HO.out)
      clear HO HE
      go_wp2_with fail
      go_end0
      exact ⟨rfl, HOe.out, HC.out.1, HC.out.2⟩
end Go.Proofs.YtiijlpmdnokjfaaDoor
namespace Go.Proofs.YtiijlpmdnokjfaaDoor
section
variable {α : Type} [DecidableEq α] [Inhabited α] {s0 : α} {g : α -> Nat -> α}
theorem ords_len_succB (t : Nat) : (ords s0 g (t + 1)).length <= (ords s0 g t).length + 1 := by
  rw [ords]
  split <;> simp
theorem first_long {q : Nat} (h0 : 0 < q) : ∀ t, q < (ords s0 g t).length -> ∃ s, s < t /\ (ords s0 g s).length = q /\ (ords s0 g (s + 1)).length = q + 1
  | 0, h => by simp [ords] at h; omega
  | t + 1, h => by
    by_cases hq : q < (ords s0 g t).length
    . obtain ⟨s, h1, h2⟩ := first_long h0 t hq
      exact ⟨s, by omega, h2⟩
    . have := ords_len_succB (s0 := s0) (g := g) t
      exact ⟨t, by omega, by omega, by omega⟩
def BackW (a : Au) (W : Nat -> List Nat) : Prop :=
  W 0 = [] /\ ∀ q, 0 < q -> q < a.n -> ∃ b l, b < q /\ l < 3 /\ a.T b l = q /\ (∀ b' l', l' < 3 -> 3 * b' + l' < 3 * b + l -> a.T b' l' ≠ q) /\ W q = W b ++ [l]
theorem Ends.back {N : Nat} (h : Ends s0 g N) (acc : α -> Bool) : BackW (found s0 g acc N) λ q => (wds s0 g (3 * N)).getD q [] := by
  refine ⟨?_, λ q h0 hq => ?_⟩
  . show (wds s0 g (3 * N)).getD 0 [] = []
    rw [wds_at (Nat.zero_le _) (by simp [ords])]
    rfl
  . have hq : q < N := hq
    obtain ⟨t, ht, l1, l2⟩ := first_long (s0 := s0) (g := g) h0 (3 * N) (by rw [h.length]; exact hq)
    have hlt := h.alive t ht
    have hT : ∀ i k, i < N -> k < 3 -> (found s0 g acc N).T i k = toA s0 g i k := λ i k hi hk => (found_keyA h acc hi).2 k hk
    have hS : ∀ i k, i < N -> k < 3 -> toA s0 g i k < (ords s0 g (3 * i + k + 1)).length := λ i k hi hk => by
      obtain ⟨h1, h2⟩ := keyA_step (h.on i hi) hk
      by_cases hm : g (keyA s0 g i) k ∈ ords s0 g (3 * i + k)
      . obtain ⟨e1, e2⟩ := h1 hm
        rw [e2, show 3 * i + k + 1 = 3 * i + (k + 1) by omega, e1]
        exact List.idxOf_lt_length_of_mem hm
      . obtain ⟨e1, e2⟩ := h2 hm
        rw [e2, show 3 * i + k + 1 = 3 * i + (k + 1) by omega, e1]
        simp
    have hi : t / 3 < N := by omega
    have hk : t % 3 < 3 := Nat.mod_lt _ (by omega)
    have e3 : 3 * (t / 3) + t % 3 = t := Nat.div_add_mod t 3
    refine ⟨t / 3, t % 3, by omega, hk, ?_, λ b' l' hl' hlt' => ?_, ?_⟩
    . rw [hT _ _ hi hk]
      obtain ⟨h1, h2⟩ := keyA_step (h.on _ hi) hk
      rw [e3] at h1 h2
      by_cases hm : g (keyA s0 g (t / 3)) (t % 3) ∈ ords s0 g t
      . have e1 := (h1 hm).1
        rw [show 3 * (t / 3) + (t % 3 + 1) = t + 1 by omega] at e1
        rw [e1] at l2
        omega
      . rw [(h2 hm).2, l1]
    . have hb : b' < N := by omega
      have h1 := hS b' l' hb hl'
      have h2 := (ords_prefix (s0 := s0) (g := g) (show 3 * b' + l' + 1 <= t by omega)).length_le
      rw [hT _ _ hb hl']
      omega
    . have hn : g ((ords s0 g t).getD (t / 3) default) (t % 3) ∉ ords s0 g t := λ hm => by
        rw [ords, if_pos hm] at l2
        omega
      have hl2 := wds_len (s0 := s0) (g := g) t
      show (wds s0 g (3 * N)).getD q [] = (wds s0 g (3 * N)).getD (t / 3) [] ++ [t % 3]
      rw [wds_at (show t + 1 <= 3 * N by omega) (by omega), wds_at (show t <= 3 * N by omega) hlt, wds, if_neg hn, List.getD_eq_getElem?_getD, List.getElem?_append_right (by omega), hl2, l1]
      simp
theorem BackW.len {a : Au} {W : Nat -> List Nat} (h : BackW a W) : ∀ q, q < a.n -> (W q).length <= q /\ W3 (W q) := by
  intro q
  induction q using Nat.strongRecOn with
  | ind q ih =>
    intro hq
    rcases Nat.eq_zero_or_pos q with rfl | h0
    . rw [h.1]
      exact ⟨Nat.le_refl _, W3.nil⟩
    . obtain ⟨b, l, hb, hl, _, _, e⟩ := h.2 q h0 hq
      obtain ⟨h1, h2⟩ := ih b hb (by omega)
      rw [e]
      refine ⟨by simp; omega, λ x hx => ?_⟩
      rcases List.mem_append.1 hx with hx | hx
      . exact h2 x hx
      . rw [List.mem_singleton.1 hx]
        exact hl
end
end Go.Proofs.YtiijlpmdnokjfaaDoor
namespace Go.Proofs.YtiijlpmdnokjfaaDoor
open Go.RowKit
theorem libIxI_any (ad : Addr) (n c : Nat) (f : Nat -> Int) (v : Int) (w : World) (hn : n <= 2000) (hc : ∀ j, j < n -> w.cell? (ad.add j) = some (.int .i64 (f j))) :
    Calls Tryd.prog 96 #[.slice (some ad) n c, .int .i64 v] w λ e w' => e = .returned (.int .i64 (ixI (λ j => decide (f j = v)) n)) /\ w = w' := by
  have HC := Lib.hid hc
  clear hc
  go_enter Tryd.func96, Tryd.ntmps96
  go_wp2_with fail
  go_loop [8] (λ i => ∃ j : Nat, i = .int .i64 j /\ j <= n /\ Hid (∀ i, i < j -> decide (f i = v) = false)) (λ i => n - (intOf i).toNat)
  case atStart => exact ⟨0, rfl, Nat.zero_le _, Lib.hid (λ i hi => absurd hi (Nat.not_lt_zero _))⟩
  case round =>
    obtain ⟨j, rfl, hj, HA⟩ := hrel
    by_cases hlt : j < n
    . have hcj := HC.out j hlt
      obtain ⟨x, hx⟩ : ∃ x, x = f j := ⟨_, rfl⟩
      rw [<- hx] at hcj
      have s0 : (j : Int) < (n : Int) := by omega
      have s1 : (0 : Int) <= (j : Int) := by omega
      by_cases e : v = x
      . have HE : Hid (ixI (λ j => decide (f j = v)) n = (j : Int)) := Lib.hid (ixI_at hlt (by simp [<- hx, e]) HA.out)
        have hb : (v == x) = true := by simp [e]
        clear hx e HA
        go_wp2_with fail
        go_ret
        exact ⟨congrArg (λ z : Int => Ending.returned (.int .i64 z)) HE.out.symm, rfl⟩
      . have hb : (v == x) = false := by simpa using e
        have HA2 : Hid (∀ i, i < j + 1 -> decide (f i = v) = false) := Lib.hid (λ i hi => by
          by_cases e2 : i = j
          . rw [e2, <- hx]
            simp
            exact λ h => e h.symm
          . exact HA.out i (by omega))
        clear hx e HA
        go_wp2_with fail
        go_round
        case rel => exact ⟨j + 1, by go_num, by omega, HA2⟩
        case measure => simp [intOf]; omega
    . have HE : Hid (ixI (λ j => decide (f j = v)) n = -1) := Lib.hid (ixI_none (λ i hi => HA.out i (by omega)))
      clear HA
      go_wp2_with fail
      go_ret
      exact ⟨congrArg (λ z : Int => Ending.returned (.int .i64 z)) HE.out.symm, rfl⟩
def hasR (f : Nat -> Int) (q : Int) : Bool := decide (0 <= ixI (λ j => decide (f j = q)) 3)
theorem hasR_yes {f : Nat -> Int} {q : Int} {j : Nat} (hj : j < 3) (h : f j = q) (hn : ∀ i, i < j -> f i ≠ q) : hasR f q = true := by
  unfold hasR
  rw [ixI_at hj (by simp [h]) (λ i hi => by simpa using hn i hi)]
  simp
theorem hasR_no {f : Nat -> Int} {q : Int} (hn : ∀ i, i < 3 -> f i ≠ q) : hasR f q = false := by
  unfold hasR
  rw [ixI_none (λ i hi => by simpa using hn i hi)]
  decide
theorem libConI_any (ad : Addr) (c : Nat) (f : Nat -> Int) (v : Int) (w : World) (hc : ∀ j, j < 3 -> w.cell? (ad.add j) = some (.int .i64 (f j))) :
    Calls Tryd.prog 95 #[.slice (some ad) 3 c, .int .i64 v] w λ e w' => e = .returned (.bool (hasR f v)) /\ w = w' := by
  have HI := Lib.hid (libIxI_any ad 3 c f v w (by omega) hc)
  clear hc
  go_enter Tryd.func95, Tryd.ntmps95
  go_wp2_with fail
  go_at_call 96
  refine HI.out.mono ?_
  rintro e w' ⟨rfl, rfl⟩
  obtain ⟨z, hz⟩ : ∃ z, z = ixI (λ j => decide (f j = v)) 3 := ⟨_, rfl⟩
  have HZ : Hid (hasR f v = decide (0 <= z)) := Lib.hid (by rw [hz]; rfl)
  rw [<- hz]
  clear hz
  go_wp2_with fail
  go_ret
  exact ⟨congrArg (λ b : Bool => Ending.returned (.bool b)) HZ.out.symm, rfl⟩
theorem implHas_any (bq : Nat) (f : Nat -> Int) (q : Int) (w : World) (c0 : w.cell? ⟨bq, 0, none⟩ = some (.int .i64 q)) :
    Calls Tryd.prog 94 #[.agg #[.int .i64 (f 0), .int .i64 (f 1), .int .i64 (f 2)], .pointer (some ⟨bq, 0, none⟩)] w λ e w' => e = .returned (.bool (hasR f q)) /\ Below w.heap.size w w' := by
  obtain ⟨W0, hW0⟩ : ∃ W0, W0 = w.alloc (.cells #[.int .i64 (f 0), .int .i64 (f 1), .int .i64 (f 2)] 122) := ⟨_, rfl⟩
  have hb0 : Below w.heap.size w W0 := by rw [hW0]; exact (Below.refl _ _).alloc (Nat.le_refl _) _
  have hx : Bx3 W0 w.heap.size (.int .i64 (f 0)) (.int .i64 (f 1)) (.int .i64 (f 2)) 122 := by rw [hW0]; exact Bx3.new w _ _ _ _
  have HK := Lib.hid (λ (V : World) (hV : Below W0.heap.size W0 V) => (hV.cell (cell_in ((hb0.cell (cell_in c0)).trans c0))).trans ((hb0.cell (cell_in c0)).trans c0))
  have HC := Lib.hid (λ (V : World) (hV : Below W0.heap.size W0 V) => libConI_any ⟨w.heap.size, 0, none⟩ 3 f q V (λ j hj => by
    have hv := (hx.same (hV.block _ hx.lt)).facts.1
    rw [Addr.add_lit, Nat.zero_add]
    rcases (show j = 0 \/ j = 1 \/ j = 2 by omega) with rfl | rfl | rfl
    . exact hv.1
    . exact hv.2.1
    . exact hv.2.2))
  have HB0 := Lib.hid hb0
  have hbw : Below W0.heap.size W0 W0 := Below.refl _ _
  obtain ⟨b, hb⟩ : ∃ b, b = hasR f q := ⟨_, rfl⟩
  rw [<- hb] at HC ⊢
  clear c0 hx hb0 hb
  go_enter Tryd.func94, Tryd.ntmps94
  go_upto_region 1 with fail
  rw [<- hW0]
  clear hW0
  go_region_held3 (λ V => V.cell? ⟨bq, 0, none⟩ = some (.int .i64 q)) (first | exact HK.out _ hbw.drew | exact HK.out _ hbw) (first | (go_at_call 95; (with_reducible refine (HC.out _ hbw.drew).mono ?_); rintro e wa ⟨rfl, rfl⟩; have hbw := hbw.drew))
  go_wp2_with fail
  go_ret
  exact ⟨rfl, HB0.out.trans (hbw.mono HB0.out.size)⟩
def IxPost (p : Nat -> Bool) (n : Nat) (w : World) (e : Ending) (w' : World) : Prop := e = .returned (.int .i64 (ixI p n)) /\ Below w.heap.size w w'
theorem libIxR_any (gr cr n bq : Nat) (T : Nat -> Nat -> Int) (q : Int) (w : World) (hn : n <= 2000) (hT : ∀ b, b < n -> ∀ k, k < 3 -> w.cell? ⟨gr, b * 3 + k, none⟩ = some (.int .i64 (T b k))) (c0 : w.cell? ⟨bq, 0, none⟩ = some (.int .i64 q)) :
    Calls Tryd.prog 93 #[.slice (some ⟨gr, 0, none⟩) n cr, .func (.func 94) #[] #[.pointer (some ⟨bq, 0, none⟩)]] w (IxPost (λ b => hasR (T b) q) n w) := by
  have HT := Lib.hid hT
  have HQ := Lib.hid c0
  clear hT c0
  go_enter Tryd.func93, Tryd.ntmps93
  go_wp2_with fail
  go_loopw [8] (λ i wr => ∃ j : Nat, i = .int .i64 j /\ j <= n /\ Hid (Below w.heap.size w wr) /\ Hid (∀ i, i < j -> hasR (T i) q = false)) (λ i _ => n - (intOf i).toNat)
  case atStart => exact ⟨0, rfl, Nat.zero_le _, Lib.hid (Below.refl _ _), Lib.hid (λ i hi => absurd hi (Nat.not_lt_zero _))⟩
  case round =>
    obtain ⟨j, rfl, hj, HB, HA⟩ := hrel
    by_cases hlt : j < n
    . have t0 := HT.out j hlt 0 (by omega)
      have t1 := HT.out j hlt 1 (by omega)
      have t2 := HT.out j hlt 2 (by omega)
      have u0 := (HB.out.cell (cell_in t0)).trans t0
      have u1 := (HB.out.cell (cell_in t1)).trans t1
      have u2 := (HB.out.cell (cell_in t2)).trans t2
      rw [Nat.add_zero] at u0
      have HC := Lib.hid (implHas_any bq (T j) q wr ((HB.out.cell (cell_in HQ.out)).trans HQ.out))
      obtain ⟨x0, hx0⟩ : ∃ x, x = T j 0 := ⟨_, rfl⟩
      obtain ⟨x1, hx1⟩ : ∃ x, x = T j 1 := ⟨_, rfl⟩
      obtain ⟨x2, hx2⟩ : ∃ x, x = T j 2 := ⟨_, rfl⟩
      obtain ⟨b, hb⟩ : ∃ b, b = hasR (T j) q := ⟨_, rfl⟩
      rw [<- hx0] at u0 HC
      rw [<- hx1] at u1 HC
      rw [<- hx2] at u2 HC
      rw [<- hb] at HC
      have HBb := Lib.hid hb
      have s0 : (j : Int) < (n : Int) := by omega
      have s1 : (0 : Int) <= (j : Int) := by omega
      clear t0 t1 t2 hx0 hx1 hx2 hb
      go_wp2_with fail
      refine HC.out.mono ?_
      rintro e w1 ⟨rfl, hb1⟩
      have HB1 := Lib.hid (HB.out.trans (hb1.mono HB.out.size))
      clear u0 u1 u2 hb1
      cases b with
      | true =>
        have HE : Hid (ixI (λ b => hasR (T b) q) n = (j : Int)) := Lib.hid (ixI_at hlt HBb.out.symm HA.out)
        clear HA
        go_wp2_with fail
        go_ret
        exact ⟨congrArg (λ z : Int => Ending.returned (.int .i64 z)) HE.out.symm, HB1.out⟩
      | false =>
        have HA2 : Hid (∀ i, i < j + 1 -> hasR (T i) q = false) := Lib.hid (λ i hi => by
          by_cases e2 : i = j
          . rw [e2]
            exact HBb.out.symm
          . exact HA.out i (by omega))
        clear HA
        go_wp2_with fail
        go_roundw
        case rel => exact ⟨j + 1, by go_num, by omega, HB1, HA2⟩
        case measure => simp [intOf]; omega
    . have HE : Hid (ixI (λ b => hasR (T b) q) n = -1) := Lib.hid (ixI_none (λ i hi => HA.out i (by omega)))
      clear HA
      go_wp2_with fail
      go_ret
      exact ⟨congrArg (λ z : Int => Ending.returned (.int .i64 z)) HE.out.symm, HB.out⟩
theorem byteInfoF : (Tryd.prog.info? 5).map (λ i => (i.zero, i.size, i.bytes)) = some (some (.int .u8 0), 1, 1) := by kernel_rfl
theorem enters_ixI (args : Array Value) (w : World) : (callFunc 96 args).run Tryd.prog w = .ok (.enter 96 args) w := enters_of Tryd.func96 (by kernel_rfl) rfl args w
def wl (u : List Nat) : List UInt8 := u.map λ k => UInt8.ofNat (97 + k)
theorem wl_length (u : List Nat) : (wl u).length = u.length := by simp [wl]
structure FwR (w : World) (va vr v : Value) (q : Nat) (u : List Nat) (wr : World) : Prop where
  box : wr.heap[w.heap.size]? = some (.cells #[va, vr] 103 (0, 0))
  at_ : wr.heap[w.heap.size + 1]? = some (.cells #[.int .i64 (q : Int)] 3 (0, 0))
  own : wr.ownsRow (w.heap.size + 2) 5 1 v u.length (byts (wl u).reverse)
  low : Below w.heap.size w wr
theorem FwR.below {w : World} {va vr v : Value} {q : Nat} {u : List Nat} {wr wc : World} (h : FwR w va vr v q u wr) (hb : Below wr.heap.size wr wc) : FwR w va vr v q u wc :=
  ⟨(hb.block _ (blk_lt h.box)).trans h.box, (hb.block _ (blk_lt h.at_)).trans h.at_, owns_below h.own hb, h.low.trans (hb.mono h.low.size)⟩
theorem FwR.push {w : World} {va vr v v' : Value} {q l : Nat} {u : List Nat} {wr wc : World} (h : FwR w va vr v q u wr) (x : Value) (hx : x = .int .u8 ((UInt8.ofNat (97 + l)).toNat : Int))
    (ho : wc.ownsRow (w.heap.size + 2) 5 1 v' (u.length + 1) (byts (wl u).reverse ++ [x])) (hg : wr.grownBy wc v.ownBlock) : FwR w va vr v' q (l :: u) wc := by
  have hne : ∀ k, k < w.heap.size + 2 -> some k ≠ v.ownBlock := λ k hk e => by
    have := (h.own.lt k e.symm).1
    omega
  refine ⟨(hg.block _ (blk_lt h.box) (hne _ (by omega))).trans h.box, (hg.block _ (blk_lt h.at_) (hne _ (by omega))).trans h.at_, ?_, h.low.grown hg h.low.size (λ k e => by have := (h.own.lt k e).1; omega)⟩
  have e : byts (wl (l :: u)).reverse = byts (wl u).reverse ++ [x] := by
    rw [hx]
    simp [byts, wl]
  rw [e]
  exact ho
theorem FwR.go {w : World} {va vr v : Value} {q b : Nat} {u : List Nat} {wr : World} (h : FwR w va vr v q u wr) : FwR w va vr v b u (wr.setCell ⟨w.heap.size + 1, 0, none⟩ (.int .i64 (b : Int))) := by
  refine ⟨(Below.heap_setCell _ _ _ _ (by show w.heap.size ≠ w.heap.size + 1; omega)).trans h.box, heap_setCell_same wr (w.heap.size + 1) 0 _ _ _ h.at_, ownsRow_setCell_other h.own (λ e => ?_) _, h.low.setCell (p := ⟨w.heap.size + 1, 0, none⟩) (by show w.heap.size <= w.heap.size + 1; omega) _⟩
  have := (h.own.lt _ e).1
  have e2 : w.heap.size + 2 <= w.heap.size + 1 := this
  omega
theorem implFwt_any (va vr : Value) (a : Au) (W : Nat -> List Nat) (q0 : Nat) (w : World) (hW : BackW a W) (hn : a.n <= 2000) (hq : q0 < a.n) (h : AutoV w va vr a) :
    Calls Tryd.prog 77 #[.agg #[va, vr], .int .i64 (q0 : Int)] w λ e w' => e = .returned (.string (wbytes (W q0))) /\ Below w.heap.size w w' := by
  have hmf : ∀ (fn : Fn) (first cap : Array Value) (w : World), (Instr.makeFunc fn first cap).run Tryd.prog w = .ok (.func fn first cap) w := λ _ _ _ _ => rfl
  obtain ⟨i0, hi, hz0, hz1, hz2⟩ := info_parts byteInfoF
  obtain ⟨ga, ca, gr, cr, rfl, rfl, -, hT⟩ := h
  obtain ⟨n, hne⟩ : ∃ n, n = a.n := ⟨_, rfl⟩
  rw [<- hne] at hT hn hq ⊢
  have HT := Lib.hid hT
  have HW := Lib.hid hW
  have HQ := Lib.hid (And.intro hne hq)
  obtain ⟨W0, hW0⟩ : ∃ W0, W0 = (w.alloc (.cells #[.slice (some ⟨ga, 0, none⟩) n ca, .slice (some ⟨gr, 0, none⟩) n cr] 103)).alloc (.cells #[.int .i64 (q0 : Int)] 3) := ⟨_, rfl⟩
  have HS0 : Hid (FwR w (.slice (some ⟨ga, 0, none⟩) n ca) (.slice (some ⟨gr, 0, none⟩) n cr) (.slice none 0 0) q0 [] W0) := Lib.hid (by
    rw [hW0]
    refine ⟨(Below.heap_alloc _ _ _ (by simp)).trans (heap_alloc_new w _), ?_, ⟨rfl, .inl ⟨rfl, rfl⟩⟩, ((Below.refl _ _).alloc (Nat.le_refl _) _).alloc (by simp) _⟩
    have := heap_alloc_new (w.alloc (.cells #[.slice (some ⟨ga, 0, none⟩) n ca, .slice (some ⟨gr, 0, none⟩) n cr] 103)) (.cells #[.int .i64 (q0 : Int)] 3)
    rwa [World.size_alloc] at this)
  clear hT hW hne hq
  go_enter Tryd.func77, Tryd.ntmps77
  go_wp2_with fail
  rw [<- hW0]
  clear hW0
  go_loopw [5] (λ v wr => ∃ (q : Nat) (u : List Nat), Hid (W q0 = W q ++ u /\ u.length + q <= q0) /\ Hid (FwR w (.slice (some ⟨ga, 0, none⟩) n ca) (.slice (some ⟨gr, 0, none⟩) n cr) v q u wr)) (λ _ wr => (intOf ((wr.cell? ⟨w.heap.size + 1, 0, none⟩).getD undef)).toNat)
  case atStart => exact ⟨q0, [], Lib.hid ⟨by simp, by simp⟩, HS0⟩
  case round =>
    obtain ⟨q, u, HU, HS⟩ := hrel
    have cq : wr.cell? ⟨w.heap.size + 1, 0, none⟩ = some (.int .i64 (q : Int)) := (cell_of_row wr (w.heap.size + 1) 0 _ _ (0, 0) HS.out.at_).trans rfl
    obtain ⟨c0, c1, -, -⟩ := box2_facts HS.out.box
    by_cases hq0 : 0 < q
    . have hq1 : (0 : Int) < (q : Int) := by omega
      obtain ⟨b, l, hb, hl, hTl, hmin, hWq⟩ := HW.out.2 q hq0 (by have := HU.out.2; have := HQ.out; omega)
      have hbn : b < n := by have := HU.out.2; have := HQ.out; omega
      have HIx := Lib.hid (λ (V : World) (hV : Below w.heap.size w V) (hc : V.cell? ⟨w.heap.size + 1, 0, none⟩ = some (.int .i64 (q : Int))) => libIxR_any gr cr n (w.heap.size + 1) (λ b k => ((a.T b k : Nat) : Int)) (q : Int) V hn (λ b hb k hk => (hV.cell (cell_in (HT.out b hb k hk))).trans (HT.out b hb k hk)) hc)
      have HI2 := Lib.hid (λ (V : World) (hV : Below w.heap.size w V) => libIxI_any ⟨gr, b * 3, none⟩ 3 3 (λ k => ((a.T b k : Nat) : Int)) (q : Int) V (by omega) (λ j hj => by rw [Addr.add_lit]; exact (hV.cell (cell_in (HT.out b hbn j hj))).trans (HT.out b hbn j hj)))
      rw [ixI_at (j := l) hl (by simp [hTl]) (λ i hi => by have := hmin b i (by omega) (by omega); simp; omega)] at HI2
      have e1 : ixI (λ b => hasR (λ k => ((a.T b k : Nat) : Int)) (q : Int)) n = (b : Int) := ixI_at hbn (hasR_yes hl (by simp [hTl]) (λ i hi => by have := hmin b i (by omega) (by omega); omega)) (λ i hi => hasR_no (λ k hk => by have := hmin i k hk (by omega); omega))
      unfold IxPost at HIx
      rw [e1] at HIx
      have HWq := Lib.hid (And.intro hWq hb)
      clear e1 hTl hmin hWq
      go_wp2_with fail
      refine (HIx.out wr HS.out.low cq).mono ?_
      rintro e w1 ⟨rfl, hb1⟩
      have HS1 := Lib.hid (HS.out.below hb1)
      clear cq c0 c1 hb1
      have cq : w1.cell? ⟨w.heap.size + 1, 0, none⟩ = some (.int .i64 (q : Int)) := (cell_of_row w1 (w.heap.size + 1) 0 _ _ (0, 0) HS1.out.at_).trans rfl
      obtain ⟨c0, c1, -, -⟩ := box2_facts HS1.out.box
      have s0 : (b : Int) < (n : Int) := by omega
      have s1 : (0 : Int) <= (b : Int) := by omega
      have s2 : (l : Int) < 3 := by omega
      have s3 : (0 : Int) <= (l : Int) := by omega
      obtain ⟨x, hx⟩ : ∃ x : Int, x = ((UInt8.ofNat (97 + l)).toNat : Int) := ⟨_, rfl⟩
      have hix : ∀ V : World, (Instr.index 9 (.string { data := #[97, 98, 99] }) (.int .i64 (l : Int))).run Tryd.prog V = .ok (.int .u8 x) V := λ V => by
        rcases (show l = 0 \/ l = 1 \/ l = 2 by omega) with rfl | rfl | rfl <;> (rw [hx]; kernel_rfl)
      have HX := Lib.hid hx
      have hbz : w.heap.size + 2 <= w1.heap.size := by have := blk_lt HS1.out.at_; omega
      have hul : u.length <= 2000 := by have := HU.out.2; have := HQ.out; omega
      have HSd := Lib.hid (HS1.out.below (Below.refl _ _).drew)
      have HI3 := Lib.hid (HI2.out w1.drew HSd.out.low)
      have cqd : w1.drew.cell? ⟨w.heap.size + 1, 0, none⟩ = some (.int .i64 (q : Int)) := (cell_of_row w1.drew (w.heap.size + 1) 0 _ _ (0, 0) HSd.out.at_).trans rfl
      obtain ⟨d0, d1, -, -⟩ := box2_facts HSd.out.box
      clear hx
      go_upto_region 4 with fail
      go_cut [5] from 13 to 23 (λ v wc => Hid (FwR w (.slice (some ⟨ga, 0, none⟩) n ca) (.slice (some ⟨gr, 0, none⟩) n cr) v q (l :: u) wc))
      case first =>
        first | go_region_law (first
          | (refine step_call rfl _ _ _ rfl enters_ixI #[.slice (some ⟨gr, b * 3, none⟩) 3 3, .int .i64 (q : Int)] (by simp [Act.eval, Act.put]) HI3.out ?_; rintro e w2 ⟨rfl, rfl⟩; refine ⟨_, rfl, ?_⟩)
          | (refine step_append_own_at rfl (.tmp 13) (.tmp 22) 22 rfl (w.heap.size + 2) 5 i0 (.int .u8 0) 1 1 Tryd.underlying22 hi hz0 hz1 hz2 rfl (by decide) _ _ _ rfl (HSd.out.own.alloc _) ⟨w1.heap.size, 0, none⟩ 1 1 [.int .u8 x] rfl rfl (cell_one_new w1.drew _ _) (by simp [Value.oneCell']) (by unfold maxLen; omega) (by omega) (by simp; omega) ?_; intro v' w9 hown' hgrow hat) | fail) | fail
        all_goals
          have HS9 := Lib.hid ((HSd.out.below ((Below.refl _ _).alloc (Nat.le_refl _) (.cells #[.int .u8 x] 5))).push (.int .u8 x) (by rw [HX.out]) hown' hgrow)
          clear hown' hgrow hat
          go_wp2_with fail
          go_meet
          exact HS9
      case rest =>
        have HS9 := Lib.hid hcut.out
        clear cq c0 c1 cqd d0 d1
        have hz9 := cell_of_row wc (w.heap.size + 1) 0 _ _ (0, 0) HS9.out.at_
        have hf9 := frozen_of_row wc (w.heap.size + 1) 0 _ _ HS9.out.at_
        have cz9 : wc.cell? ⟨w.heap.size + 1, 0, none⟩ = some (.int .i64 (q : Int)) := hz9.trans rfl
        have HSn := Lib.hid (HS9.out.go (b := b))
        have cn9 : (wc.setCell ⟨w.heap.size + 1, 0, none⟩ (.int .i64 (b : Int))).cell? ⟨w.heap.size + 1, 0, none⟩ = some (.int .i64 (b : Int)) := World.cell?_setCell_same _ _ _ cz9
        have cr9 : wr.cell? ⟨w.heap.size + 1, 0, none⟩ = some (.int .i64 (q : Int)) := (cell_of_row wr (w.heap.size + 1) 0 _ _ (0, 0) HS.out.at_).trans rfl
        have HM := Lib.hid (And.intro cn9 cr9)
        clear hz9 cn9 cr9
        go_wp2_with fail
        go_roundw
        case rel => exact ⟨b, l :: u, Lib.hid ⟨by rw [HU.out.1, HWq.out.1]; simp, by have := HU.out.2; have := HWq.out.2; simp; omega⟩, HSn⟩
        case measure =>
          rw [HM.out.1, HM.out.2]
          simp [intOf]
          exact HWq.out.2
    . obtain rfl : q = 0 := by omega
      have HWe : Hid (W q0 = u) := Lib.hid (by rw [HU.out.1, HW.out.1]; rfl)
      have hul : u.length <= 2000 := by have := HU.out.2; have := HQ.out; omega
      have HO := RowO.of_owns HS.out.own (by omega)
      have HRv := Lib.hid (libRev_any u5 (wl u).reverse (λ g => u5.ownBlock = some g) wr HO (by rw [List.length_reverse, wl_length]; omega))
      obtain ⟨Aw, cw, hv⟩ := HO.shape
      rw [byts_length, List.length_reverse, wl_length] at hv
      obtain ⟨k, hk⟩ : ∃ k, k = u.length := ⟨_, rfl⟩
      rw [<- hk] at hv
      have HK := Lib.hid hk
      have HOb := Lib.hid (λ g (hg : u5.ownBlock = some g) => (HS.out.own.lt g hg).1)
      subst hv
      clear HO hk
      go_wp2_with fail
      refine HRv.out.mono ?_
      rintro e w3 ⟨rfl, ho3, hc3, hz3⟩
      have HB3 := Lib.hid (HS.out.low.trans (hc3.old (B := w.heap.size) (λ g hg => by have := HOb.out g hg; omega) HS.out.low.size))
      rw [List.reverse_reverse] at ho3
      have hcv : (convert 22 9 (.slice Aw k cw)).run Tryd.prog w3 = .ok (.string (wbytes u)) w3 := by
        obtain ⟨-, A1, cx, e1, hcell⟩ := ho3.row
        have hkl : k = (wl u).length := by rw [wl_length]; exact HK.out
        cases Aw with
        | none =>
          have h0 : wl u = [] := by
            rcases hcl : wl u with _ | ⟨y, ys⟩
            . rfl
            . injection e1 with e1 _ _
              obtain ⟨ad, h1, _⟩ := hcell 0 (.int .u8 (y.toNat : Int)) (by rw [hcl]; rfl)
              rw [<- e1] at h1
              cases h1
          have e : wbytes u = ByteArray.empty := by show (⟨(wl u).toArray⟩ : ByteArray) = _; rw [h0]; rfl
          rw [e]
          exact run_convert_bytes_nil (P := Tryd.prog) w3 22 5 Tryd.underlying22 Tryd.underlying5 k cw 9 Tryd.underlying9
        | some ad =>
          injection e1 with e1 _ _
          show (convert 22 9 (.slice (some ad) k cw)).run Tryd.prog w3 = .ok (.string ⟨(wl u).toArray⟩) w3
          rw [hkl]
          refine run_convert_bytes_back (P := Tryd.prog) w3 22 9 5 ad cw (wl u) Tryd.underlying22 Tryd.underlying5 Tryd.underlying9 (λ j hj => ?_)
          obtain ⟨a2, h1, -, h2⟩ := hcell j (.int .u8 ((wl u)[j].toNat : Int)) (by simp [byts, hj])
          rw [<- e1] at h1
          cases h1
          exact h2
      clear ho3 hc3 hz3 cq c0 c1
      go_wp2_with fail
      go_ret
      exact ⟨congrArg (λ z : List Nat => Ending.returned (.string (wbytes z))) HWe.out.symm, HB3.out⟩
end Go.Proofs.YtiijlpmdnokjfaaDoor
namespace Go.Proofs.YtiijlpmdnokjfaaDoor
open Go.RowKit Go.Maps
end Go.Proofs.YtiijlpmdnokjfaaDoor
namespace Go.Proofs.YtiijlpmdnokjfaaDoor
open Go.RowKit
end Go.Proofs.YtiijlpmdnokjfaaDoor
namespace Go.Proofs.YtiijlpmdnokjfaaDoor
open Go.RowKit
def FwPost (P : List Nat -> Prop) (w : World) (e : Ending) (w' : World) : Prop := ∃ r, FirstR P r /\ e = .returned (.tuple #[.string (wO r), .bool r.isSome]) /\ Below w.heap.size w w'
end Go.Proofs.YtiijlpmdnokjfaaDoor
namespace Go.Proofs.YtiijlpmdnokjfaaDoor
open Go.RowKit Go.Maps
theorem pairInfo : (Tryd.prog.info? 73).map (λ i => (i.zero, i.size, i.bytes)) = some (some (.agg #[.int .i64 0, .int .i64 0]), 2, 16) := by kernel_rfl
theorem laidOut_progP : laidOutB Tryd.prog = true := by kernel_rfl
theorem lawPair : Keyed Tryd.prog 73 := Keyed.of_law (deep_law_gate laidOut_progP (of_decide_eq_true (by kernel_rfl)) (of_decide_eq_true (by kernel_rfl)) (by kernel_rfl) (by kernel_rfl))
def klP (x : Nat × Nat) : Lit := .string (keyBytes [.int .i64 (x.1 : Int), .int .i64 (x.2 : Int)])
def okP (Ma Mb : Nat) (x : Nat × Nat) : Prop := x.1 < Ma /\ x.2 < Mb
theorem klP_key {Ma Mb : Nat} (ha : Ma <= 2000) (hb : Mb <= 2000) {x : Nat × Nat} (h : okP Ma Mb x) : keyOf Tryd.prog 73 (.agg #[.int .i64 (x.1 : Int), .int .i64 (x.2 : Int)]) = some (klP x) := by
  have h1 := klN_wf (x := x.1) (by have := h.1; omega)
  have h2 := klN_wf (x := x.2) (by have := h.2; omega)
  have hk : Tryd.prog.keyType 73 = true := by kernel_rfl
  have hc : Tryd.prog.cellsOf 73 = 2 := by kernel_rfl
  have hi : Tryd.prog.cellsOf 3 = 1 := by kernel_rfl
  have hsz : 73 < Tryd.prog.types.size := of_decide_eq_true (by kernel_rfl)
  obtain ⟨m, hm⟩ : ∃ m, Tryd.prog.types.size = m + 1 := ⟨Tryd.prog.types.size - 1, by omega⟩
  have hu := Tryd.underlying73
  have hv := Tryd.underlying3
  obtain ⟨P, hP⟩ : ∃ P, P = Tryd.prog := ⟨_, rfl⟩
  rw [<- hP] at hk hc hi hm hu hv ⊢
  simp [keyOf, hu, hk, Value.formed, Program.keyLits, hc, hi, Value.cells, hm, hv, h1, h2, klP]
theorem klP_inj {Ma Mb : Nat} (ha : Ma <= 2000) (hb : Mb <= 2000) (x y : Nat × Nat) (hx : okP Ma Mb x) (hy : okP Ma Mb y) (h : klP x = klP y) : x = y := by
  have h1 := klP_key ha hb hx
  have h2 := klP_key ha hb hy
  rw [<- h] at h2
  have h3 := lawPair.inj h1 h2
  have e1 : x.1 = y.1 /\ x.2 = y.2 := by
    simp at h3
    omega
  exact Prod.ext e1.1 e1.2
def pairC (l : List (Nat × Nat)) : List Value := l.flatMap λ x => [.int .i64 (x.1 : Int), .int .i64 (x.2 : Int)]
theorem pairC_snoc (l : List (Nat × Nat)) (x : Nat × Nat) : pairC (l ++ [x]) = pairC l ++ [.int .i64 (x.1 : Int), .int .i64 (x.2 : Int)] := by simp [pairC]
theorem pairC_at : ∀ (l : List (Nat × Nat)) (i : Nat), i < l.length -> (pairC l)[i * 2]? = some (.int .i64 (((l.getD i default)).1 : Int)) /\ (pairC l)[i * 2 + 1]? = some (.int .i64 (((l.getD i default)).2 : Int))
  | [], i, h => absurd h (Nat.not_lt_zero _)
  | x :: l, 0, _ => ⟨rfl, rfl⟩
  | x :: l, i + 1, h => by
    have ih := pairC_at l i (by simpa using h)
    have e : pairC (x :: l) = .int .i64 (x.1 : Int) :: .int .i64 (x.2 : Int) :: pairC l := rfl
    rw [e, show (i + 1) * 2 = i * 2 + 1 + 1 by omega]
    simpa using ih
theorem implExpP_any (g1 g2 : Nat) (fa1 lb1 lb2 : Array Value) (eg1 : ∀ args w, (callFunc g1 args).run Tryd.prog w = .ok (.enter g1 args) w) (eg2 : ∀ args w, (callFunc g2 args).run Tryd.prog w = .ok (.enter g2 args) w)
    (T : Nat × Nat -> Nat -> Nat × Nat) (acc : Nat × Nat -> Bool) (Ma Mb : Nat) (M : Nat) (x0 : Nat × Nat) (w : World) (ha : Ma <= 2000) (hb : Mb <= 2000) (hM : M <= 2000) (hM1 : 1 <= M) (h0 : okP Ma Mb x0) (hT : ∀ x k, okP Ma Mb x -> k < 3 -> okP Ma Mb (T x k))
    (H1 : ∀ (V : World) (x : Nat × Nat) (k : Nat), Below w.heap.size w V -> okP Ma Mb x -> k < 3 -> Calls Tryd.prog g1 (fa1 ++ (#[.agg #[.int .i64 (x.1 : Int), .int .i64 (x.2 : Int)], .int .i64 (k : Int)] ++ lb1)) V λ e w' => e = .returned (.agg #[.int .i64 (((T x k)).1 : Int), .int .i64 (((T x k)).2 : Int)]) /\ Below V.heap.size V w')
    (H2 : ∀ (V : World) (x : Nat × Nat), Below w.heap.size w V -> okP Ma Mb x -> Calls Tryd.prog g2 (#[.agg #[.int .i64 (x.1 : Int), .int .i64 (x.2 : Int)]] ++ lb2) V λ e w' => e = .returned (.bool (acc x)) /\ Below V.heap.size V w') :
    Calls Tryd.prog 76 #[.agg #[.int .i64 (x0.1 : Int), .int .i64 (x0.2 : Int)], .func (.func g1) fa1 lb1, .func (.func g2) #[] lb2, .int .i64 (M : Int)] w (ExpPost x0 T acc M w) := by
  obtain ⟨i0, hi, hz0, hz1, hz2⟩ := info_parts pairInfo
  obtain ⟨b0, hbi, hb0, hb1, hb2⟩ := info_parts boolInfo
  obtain ⟨r0, hri, hr0, hr1, hr2⟩ := info_parts rowInfo3
  have hmm := @run_makeMap Tryd.prog
  have HIn : Hid (∀ x y, okP Ma Mb x -> okP Ma Mb y -> klP x = klP y -> x = y) := Lib.hid (λ x y hx hy h => klP_inj ha hb x y hx hy h)
  have HKy : Hid (∀ x, okP Ma Mb x -> keyOf Tryd.prog 73 (.agg #[.int .i64 (x.1 : Int), .int .i64 (x.2 : Int)]) = some (klP x)) := Lib.hid (λ x h => klP_key ha hb h)
  have HKeys : Hid (∀ i, (∀ j, j < i -> j < (ords x0 T (3 * j)).length) -> ∀ t, t <= 3 * i -> ∀ x ∈ ords x0 T t, okP Ma Mb x) := Lib.hid (λ i ha t => ords_ok (Ok := okP Ma Mb) h0 hT ha t)
  have HTT := Lib.hid hT
  have HH1 := Lib.hid H1
  have HH2 := Lib.hid H2
  clear hT H1 H2
  obtain ⟨W2, hW2⟩ : ∃ W2, W2 = ((w.alloc (.cells #[.int .i64 (x0.1 : Int), .int .i64 (x0.2 : Int)] 73)).alloc (.cells #[.slice none 0 0, .slice none 0 0] 103)).alloc (.cells #[.slice none 0 0, .slice none 0 0] 103) := ⟨_, rfl⟩
  have HB2 : Hid (Below w.heap.size w W2) := Lib.hid (by rw [hW2]; exact (((Below.refl _ _).alloc (Nat.le_refl _) _).alloc (by simp) _).alloc (by simp; omega) _)
  have HZ2 : Hid (W2.heap.size = w.heap.size + 1 + 1 + 1) := Lib.hid (by rw [hW2]; simp)
  have HX2 : Hid (W2.heap[w.heap.size + 1]? = some (.cells #[.slice none 0 0, .slice none 0 0] 103 (0, 0)) /\ W2.heap[w.heap.size + 1 + 1]? = some (.cells #[.slice none 0 0, .slice none 0 0] 103 (0, 0))) := Lib.hid (by
    rw [hW2]
    have h1 := heap_alloc_new (w.alloc (.cells #[.int .i64 (x0.1 : Int), .int .i64 (x0.2 : Int)] 73)) (.cells #[.slice none 0 0, .slice none 0 0] 103)
    have h2 := heap_alloc_new ((w.alloc (.cells #[.int .i64 (x0.1 : Int), .int .i64 (x0.2 : Int)] 73)).alloc (.cells #[.slice none 0 0, .slice none 0 0] 103)) (.cells #[.slice none 0 0, .slice none 0 0] 103)
    rw [World.size_alloc] at h1 h2
    rw [World.size_alloc] at h2
    exact ⟨(Below.heap_alloc _ _ _ (by simp)).trans h1, h2⟩)
  have HP2 : Hid (W2.heap[w.heap.size]? = some (.cells #[.int .i64 (x0.1 : Int), .int .i64 (x0.2 : Int)] 73 (0, 0))) := Lib.hid (by
    rw [hW2]
    exact (Below.heap_alloc _ _ _ (by simp; omega)).trans ((Below.heap_alloc _ _ _ (by simp)).trans (heap_alloc_new w _)))
  go_enter Tryd.func76, Tryd.ntmps76
  go_upto_region 2 with fail
  rw [<- hW2]
  clear hW2
  have hk0 := HKy.out x0 h0
  have hown0 := World.ownsMap_made (H := Unit) W2 Tryd.prog 73 (plainElem Tryd.prog 3)
  have hpa : (W2.alloc (.map #[] 0)).heap[w.heap.size]? = some (.cells #[.int .i64 (x0.1 : Int), .int .i64 (x0.2 : Int)] 73 (0, 0)) := (Below.heap_alloc _ _ _ (by have := HZ2.out; omega)).trans HP2.out
  obtain ⟨p0, p1, -, -⟩ := box2_facts hpa
  have HPa := Lib.hid hpa
  clear hpa
  go_upto_region 3 with (refine wpList_insert_own _ rfl (.tmp 19) (.tmp 20) _ 119 rfl 73 3 lawPair Tryd.underlying119 _ W2.heap.size 0 _ rfl hown0 (by unfold maxLen; omega) _ _ _ rfl rfl hk0 _ [] (plainElem_int Tryd.underlying3 (a := 0) (by decide)) ?_; intro w3 hown3 hg3)
  have hp3 : w3.heap[w.heap.size]? = some (.cells #[.int .i64 (x0.1 : Int), .int .i64 (x0.2 : Int)] 73 (0, 0)) := (hg3.block _ (blk_lt HPa.out) (λ e => by injection e with e; have := HZ2.out; omega)).trans HPa.out
  obtain ⟨p2, p3, -, -⟩ := box2_facts hp3
  clear p0 p1 hp3
  go_wp2_with fail
  clear p2 p3
  obtain ⟨bM, hbM⟩ : ∃ bM, bM = W2.heap.size := ⟨_, rfl⟩
  rw [<- hbM] at hown3 hg3 ⊢
  obtain ⟨W4, hW4⟩ : ∃ W4, W4 = w3.alloc (.cells #[.int .i64 (x0.1 : Int), .int .i64 (x0.2 : Int)] 73) := ⟨_, rfl⟩
  rw [<- hW4]
  obtain ⟨B, hB⟩ : ∃ B, B = w.heap.size + 1 + 1 := ⟨_, rfl⟩
  rw [<- hB] at HX2 HZ2 ⊢
  have HBe := Lib.hid hB
  have hmx : MapOf klP (okP Ma Mb) ((DataW.map []).put (klP x0) (.lit (.int .i64 0))) [x0] := (MapOf.nil klP (okP Ma Mb)).put HIn.out (λ x _ => by trivial) h0 (by simp)
  have HS4 : Hid (ExpS 73 2 B bM B (.slice none 0 0) (.slice none 0 0) (.slice (some ⟨w3.heap.size, 0, none⟩) 1 1) [] 0 [] 1 (pairC [x0]) 1 ((DataW.map []).put (klP x0) (.lit (.int .i64 0))) W4 /\ Below B W2 W4) := Lib.hid (by
    have hg2 : W2.grownBy (W2.alloc (.map #[] 0)) none := World.grownBy_alloc _ _ _
    have hz := HZ2.out
    have hba : Below B W2 (W2.alloc (.map #[] 0)) := (Below.refl _ _).alloc (by omega) _
    have hb3 : Below B W2 w3 := hba.grown hg3 (by simp; omega) (λ k e => by cases e; omega)
    have hb4 : Below B W2 W4 := by rw [hW4]; exact hb3.alloc (by have := hb3.size; omega) _
    refine ⟨⟨⟨rfl, .inl ⟨rfl, rfl⟩⟩, ⟨rfl, .inl ⟨rfl, rfl⟩⟩, ?_, ?_, ?_, ⟨Nat.le_refl _, by omega⟩, by decide, by decide, by decide⟩, hb4⟩
    . rw [hW4]
      exact ⟨rfl, .inr ⟨w3.heap.size, 1, #[.int .i64 (x0.1 : Int), .int .i64 (x0.2 : Int)], rfl, by have := hb3.size; omega, heap_alloc_new w3 _, Nat.le_refl _, by decide, rfl, rfl⟩⟩
    . rw [hW4]
      exact hown3.alloc _
    . rw [hW4]
      have h1 := (hg3.block B (by simp; omega) (λ e => by injection e with e; omega)).trans ((Below.heap_alloc W2 _ B (by omega)).trans HX2.out.2)
      exact (Below.heap_alloc w3 _ B (blk_lt h1)).trans h1)
  have HM4 := Lib.hid hmx
  clear hown0 hown3 hg3 hW4 hmx hB hbM hk0
  have HE0 : Hid (ords x0 T (3 * 0) = [x0]) := Lib.hid rfl
  go_loopw [12, 13] (λ vo iv wr => ∃ (i : Nat) (va vr : Value) (D : DataW Unit), iv = .int .i64 i /\ i <= M /\ Hid ((ords x0 T (3 * i)).length <= M) /\ Hid (Below B W2 wr) /\ Hid (∀ j, j < i -> j < (ords x0 T (3 * j)).length) /\ Hid (ExpS 73 2 B bM B va vr vo ((List.range i).map λ j => acc (keyA x0 T j)) i (rowsC x0 T i) (ords x0 T (3 * i)).length (pairC (ords x0 T (3 * i))) (ords x0 T (3 * i)).length D wr /\ MapOf klP (okP Ma Mb) D (ords x0 T (3 * i)))) (λ _ iv _ => M + 1 - (intOf iv).toNat)
  case atStart => exact ⟨0, _, _, _, rfl, Nat.zero_le _, Lib.hid hM1, Lib.hid HS4.out.2, Lib.hid (λ j hj => absurd hj (Nat.not_lt_zero _)), Lib.hid ⟨HS4.out.1, HM4.out⟩⟩
  case round =>
    obtain ⟨i, va, vr, D, rfl, hin, HLe, HBr, hon, HS⟩ := hrel
    clear HS4 HM4 HE0
    obtain ⟨l, hl⟩ : ∃ l, l = ords x0 T (3 * i) := ⟨_, rfl⟩
    rw [<- hl] at HS
    have hll : l.length <= M := by rw [hl]; exact HLe.out
    have hl0 : 0 < l.length := by rw [hl]; exact ords_pos _
    obtain ⟨go, co, hvo, -, -⟩ := own_cell HS.out.1.ord hl0
    subst hvo
    have HL := Lib.hid hl
    by_cases hlt : i < l.length
    . have hi1 : i < (ords x0 T (3 * i)).length := by rw [<- hl]; exact hlt
      have HON : Hid (∀ j, j < i + 1 -> j < (ords x0 T (3 * j)).length) := Lib.hid (λ j hj => by
        rcases Nat.lt_or_eq_of_le (Nat.le_of_lt_succ hj) with h | h
        . exact hon.out j h
        . rw [h]; exact hi1)
      clear hl
      have hd : decide ((i : Int) < (l.length : Int)) = true := by simp; omega
      go_upto_region 9 with fail
      obtain ⟨bx, hbx⟩ : ∃ bx, bx = wr.heap.size := ⟨_, rfl⟩
      obtain ⟨V0, hV0⟩ : ∃ V0, V0 = wr.alloc (.cells #[.int .i64 0, .int .i64 0, .int .i64 0] 122) := ⟨_, rfl⟩
      rw [<- hV0, <- hbx]
      obtain ⟨accs, hacc⟩ : ∃ accs, accs = (List.range i).map λ j => acc (keyA x0 T j) := ⟨_, rfl⟩
      obtain ⟨rows, hrows⟩ : ∃ rows, rows = rowsC x0 T i := ⟨_, rfl⟩
      rw [<- hacc, <- hrows] at HS
      have HAc := Lib.hid (And.intro hacc hrows)
      have hal : accs.length = i := by rw [hacc]; simp
      have HAl := Lib.hid hal
      have HNx : Hid (ExpN B bM B va vr (.slice (some ⟨go, 0, none⟩) l.length co) bx) := Lib.hid (HS.out.1.fresh (by rw [hbx]; exact Nat.le_refl _))
      have HS0 : Hid (Below B W2 V0 /\ (ExpS 73 2 B bM B va vr (.slice (some ⟨go, 0, none⟩) l.length co) accs i rows (ords x0 T (3 * i + 0)).length (pairC (ords x0 T (3 * i + 0))) (ords x0 T (3 * i + 0)).length D V0 /\ MapOf klP (okP Ma Mb) D (ords x0 T (3 * i + 0))) /\ Arr3 V0 bx (cutV (toA x0 T i) 0)) := Lib.hid (by
        rw [Nat.add_zero, <- HL.out]
        refine ⟨by rw [hV0]; exact HBr.out.alloc (Nat.le_of_lt HS.out.1.base) _, ⟨HS.out.1.below (by rw [hV0]; exact (Below.refl _ _).alloc (Nat.le_refl _) _), HS.out.2⟩, ?_⟩
        rw [hV0, hbx]
        exact heap_alloc_new wr _)
      clear hd hV0 hacc hrows hal HS hbx
      go_loopw [12, 30] (λ vo kv wq => ∃ (k : Nat) (D : DataW Unit), kv = .int .i64 k /\ k <= 3 /\ Hid ((ords x0 T (3 * i + k)).length <= M) /\ Hid (Below B W2 wq /\ (ExpS 73 2 B bM B va vr vo accs i rows (ords x0 T (3 * i + k)).length (pairC (ords x0 T (3 * i + k))) (ords x0 T (3 * i + k)).length D wq /\ MapOf klP (okP Ma Mb) D (ords x0 T (3 * i + k))) /\ Arr3 wq bx (cutV (toA x0 T i) k))) (λ _ kv _ => 3 - (intOf kv).toNat)
      case atStart => exact ⟨0, _, rfl, Nat.zero_le _, HLe, HS0⟩
      case round =>
        obtain ⟨k, Dk, rfl, hk, HLk, HQ⟩ := hrel
        clear HS0
        by_cases hk3 : k < 3
        . obtain ⟨st1, st2⟩ := keyA_step (s0 := x0) (g := T) hi1 hk3
          obtain ⟨hil, hkey⟩ := keyA_at (s0 := x0) (g := T) (t := 3 * i + k) hi1 (by omega)
          have hxM : okP Ma Mb (keyA x0 T i) := HKeys.out (i + 1) HON.out (3 * i) (by omega) _ (getD_mem hi1)
          obtain ⟨x, hx⟩ : ∃ x, x = keyA x0 T i := ⟨_, rfl⟩
          obtain ⟨lq, hlq⟩ : ∃ lq, lq = ords x0 T (3 * i + k) := ⟨_, rfl⟩
          rw [<- hx, <- hlq] at st1 st2
          rw [<- hlq] at HQ hil hkey
          rw [<- hx] at hkey hxM
          have hlqM : lq.length <= M := by rw [hlq]; exact HLk.out
          have HLq := Lib.hid (And.intro hlq hx)
          have HLe2 := Lib.hid hlqM
          clear hlq hx
          obtain ⟨y, hy⟩ : ∃ y, y = T x k := ⟨_, rfl⟩
          have hyM : okP Ma Mb y := by rw [hy]; exact HTT.out x k hxM hk3
          rw [<- hy] at st1 st2
          obtain ⟨gq, cq, hvq, -, hcq⟩ := own_cell HQ.out.2.1.1.ord (by omega)
          subst hvq
          have hpc := pairC_at lq i hil
          rw [hkey] at hpc
          have hci := (hcq (i * 2) (by omega)).trans hpc.1
          have hcj := (hcq (i * 2 + 1) (by omega)).trans hpc.2
          clear hpc
          have HC1 : Hid (Calls Tryd.prog g1 (fa1 ++ (#[.agg #[.int .i64 (x.1 : Int), .int .i64 (x.2 : Int)], .int .i64 (k : Int)] ++ lb1)) wr λ e w' => e = .returned (.agg #[.int .i64 (y.1 : Int), .int .i64 (y.2 : Int)]) /\ Below wr.heap.size wr w') := Lib.hid (by
            rw [hy]
            refine HH1.out wr x k (HB2.out.trans (HQ.out.1.mono ?_)) hxM hk3
            have := HBe.out
            omega)
          have HSt := Lib.hid (And.intro st1 st2)
          have s1 : (i : Int) < (lq.length : Int) := by omega
          have s2 : (0 : Int) <= (i : Int) := by omega
          have s3 : (k : Int) < 3 := by omega
          have s4 : (0 : Int) <= (k : Int) := by omega
          clear hcq st1 st2 hkey hy
          go_wp2_with fail
          refine HC1.out.mono ?_
          rintro e w4 ⟨rfl, hb4⟩
          clear hci hcj
          go_upto_region 12 with fail
          obtain ⟨be, hbe⟩ : ∃ be, be = w4.heap.size := ⟨_, rfl⟩
          obtain ⟨w5, hw5⟩ : ∃ w5, w5 = w4.alloc (.cells #[.int .i64 (y.1 : Int), .int .i64 (y.2 : Int)] 73) := ⟨_, rfl⟩
          rw [<- hw5, <- hbe]
          have hb5 : Below wr.heap.size wr w5 := by rw [hw5]; exact hb4.alloc hb4.size _
          have HE5 : Hid (w5.heap[be]? = some (.cells #[.int .i64 (y.1 : Int), .int .i64 (y.2 : Int)] 73 (0, 0)) /\ bM ≠ be) := Lib.hid (by
            rw [hw5, hbe]
            refine ⟨heap_alloc_new w4 _, λ e => ?_⟩
            have h1 := HQ.out.2.1.1.map.lt
            have h2 := hb4.size
            omega)
          obtain ⟨p0, p1, -, -⟩ := box2_facts HE5.out.1
          clear hb4 hbe hw5
          have HQ5 := Lib.hid (And.intro (HQ.out.1.trans (hb5.mono (Nat.le_trans (by have := HZ2.out; omega) HQ.out.1.size))) (And.intro (HQ.out.2.1.1.below hb5) (HQ.out.2.2.same (hb5.block _ HQ.out.2.2.lt))))
          have HMo := Lib.hid HQ.out.2.1.2
          obtain ⟨kf1, kf2⟩ := HQ5.out.2.2.facts hk3
          have hky := HKy.out y hyM
          clear hb5
          by_cases hyl : y ∈ lq
          . have hhas : Maps.has Dk (klP y) = true := by rw [(HMo.out.2 y hyM).1]; simpa using hyl
            have HHit := Lib.hid (And.intro ((HMo.out.2 y hyM).2 hyl) (HSt.out.1 hyl))
            clear hyl
            go_wp2_with (at_lookup; refine wpList_lookup_own_ok_int _ rfl (.tmp 41) (.tmp 42) 119 rfl 73 3 .i64 lawPair Tryd.underlying119 Tryd.underlying3 (zeroInt _) bM _ _ rfl HQ5.out.2.1.map _ _ rfl hky ?_; intro c hat hwc)
            have hc : c = ((toA x0 T i k : Nat) : Int) := by
              have h1 := HHit.out.1 (.lit (.int .i64 0))
              rw [hat] at h1
              rw [HHit.out.2.2]
              injection h1 with h1
              injection h1 with _ h1
            subst hc
            have HQ6 : Hid (Below B W2 (w5.setCell ⟨bx, k, none⟩ (.int .i64 ((toA x0 T i k : Nat) : Int))) /\ (ExpS 73 2 B bM B va vr (.slice (some ⟨gq, 0, none⟩) lq.length cq) accs i rows (ords x0 T (3 * i + (k + 1))).length (pairC (ords x0 T (3 * i + (k + 1)))) (ords x0 T (3 * i + (k + 1))).length Dk (w5.setCell ⟨bx, k, none⟩ (.int .i64 ((toA x0 T i k : Nat) : Int))) /\ MapOf klP (okP Ma Mb) Dk (ords x0 T (3 * i + (k + 1)))) /\ Arr3 (w5.setCell ⟨bx, k, none⟩ (.int .i64 ((toA x0 T i k : Nat) : Int))) bx (cutV (toA x0 T i) (k + 1))) := Lib.hid (by
              have hN := HNx.out
              rw [HHit.out.2.1]
              refine ⟨below_set HQ5.out.1 hN.2.2.2.2.2 _, ⟨HQ5.out.2.1.set ⟨hN.1, hN.2.1, λ e => ?_, hN.2.2.2.1, hN.2.2.2.2.1, hN.2.2.2.2.2⟩ _, HMo.out⟩, HQ5.out.2.2.set hk3 (cutV_step _ k).1 (λ j _ hj => (cutV_step _ k).2 j hj)⟩
              obtain ⟨cur, hh⟩ := blk_ofz HQ5.out.2.1.ord e
              exact blk_ne hh HQ5.out.2.2 (by decide) rfl)
            clear kf1 kf2 hat hhas hwc p0 p1
            go_wp2_with fail
            go_roundw
            case rel => exact ⟨k + 1, Dk, by go_num, by omega, Lib.hid (by rw [HHit.out.2.1]; exact HLe2.out), HQ6⟩
            case measure => simp [intOf]; omega
          . have hhas : Maps.has Dk (klP y) = false := by rw [(HMo.out.2 y hyM).1]; simpa using hyl
            have HMiss := Lib.hid (And.intro hyl (HSt.out.2 hyl))
            clear hyl
            by_cases hfull : lq.length = M
            . have hcmp : ((lq.length : Int) == (M : Int)) = true := by simp; omega
              have HBig := Lib.hid (exp_big (M := M) HON.out hk3 (by rw [HMiss.out.2.1, List.length_append, hfull]; rfl))
              obtain ⟨c0, c1, k0, k1⟩ := box2_facts ((HQ5.out.1.block _ (by have := HBe.out; omega)).trans HX2.out.1)
              obtain ⟨hcl, hsz, hot, hBl⟩ := put2 (k := .slice none 0 0) (l := .slice none 0 0) c0 c1
              obtain ⟨hc0, hc1⟩ := hcl
              have HOt := Lib.hid (And.intro HQ5.out.1 hBl)
              clear hsz hot hBl kf1 kf2
              go_wp2_with (at_lookup; refine wpList_lookup_own_ok_int _ rfl (.tmp 41) (.tmp 42) 119 rfl 73 3 .i64 lawPair Tryd.underlying119 Tryd.underlying3 (zeroInt _) bM _ _ rfl HQ5.out.2.1.map _ _ rfl hky ?_; intro c hat hwc)
              refine bodyPost_ret (v := .tuple #[.agg #[.slice none 0 0, .slice none 0 0], .bool false]) (by simp [results, Tryd.results76, go_sem, hc0, hc1]) rfl ?_
              exact .inr ⟨HBig.out, rfl, HOt.out.2 _ _ (HB2.out.trans (HOt.out.1.mono (by have := HBe.out; omega))) (Nat.le_succ _)⟩
            have hcmp : ((lq.length : Int) == (M : Int)) = false := by simp; omega
            have hroom : lq.length + 1 <= M := by omega
            have HRoom := Lib.hid hroom
            clear hfull
            go_upto_region 17 with (at_lookup; refine wpList_lookup_own_ok_int _ rfl (.tmp 41) (.tmp 42) 119 rfl 73 3 .i64 lawPair Tryd.underlying119 Tryd.underlying3 (zeroInt _) bM _ _ rfl HQ5.out.2.1.map _ _ rfl hky ?_; intro c hat hwc)
            go_upto_region 18 with (at_mapUpdate; refine wpList_mapUpdate_own _ rfl (.tmp 55) (.tmp 56) (.tmp 57) 119 rfl 73 3 lawPair Tryd.underlying119 _ bM lq.length Dk rfl HQ5.out.2.1.map (by unfold maxLen; omega) _ _ _ rfl rfl hky _ [] (plainElem_int Tryd.underlying3 (klN_wf (x := lq.length) (by omega))) ?_; intro w6 hown6 hg6)
            have HQ6 := Lib.hid (HQ5.out.2.1.map_put hown6 hg6)
            have HA6 : Hid (Below B W2 w6 /\ Arr3 w6 bx (cutV (toA x0 T i) k)) := Lib.hid ⟨HQ5.out.1.grown hg6 (Nat.le_of_lt HQ5.out.2.1.base) (λ j e => by injection e with e; rw [<- e]; exact HQ5.out.2.1.low.2), HQ5.out.2.2.same (hg6.block bx HQ5.out.2.2.lt (λ e => HNx.out.2.2.2.1 (by injection e with e; exact e.symm)))⟩
            have hbw6 : B <= w6.heap.size := Nat.le_of_lt HQ6.out.base
            have HMp := Lib.hid (HMo.out.put HIn.out (λ x _ => by trivial) hyM HMiss.out.1)
            obtain ⟨p4, p5, -, -⟩ := box2_facts ((hg6.block be (blk_lt HE5.out.1) (λ e => HE5.out.2 (by injection e with e; exact e.symm))).trans HE5.out.1)
            clear hown6 hg6 hat hwc hhas kf1 kf2 p0 p1
            go_wp2_with (at_builtin; refine wpList_append_own_at _ rfl (.tmp 58) (.tmp 60) 120 rfl B 73 i0 (.agg #[.int .i64 0, .int .i64 0]) 2 16 Tryd.underlying120 hi hz0 hz1 hz2 rfl (by decide) _ _ _ rfl (HQ6.out.ord.alloc _) ⟨w6.heap.size, 0, none⟩ 1 1 [.int .i64 (y.1 : Int), .int .i64 (y.2 : Int)] rfl rfl (newB2 _ _ _ _) (by simp [Value.oneCell']) (by unfold maxLen; omega) (by omega) (by simp; omega) ?_)
            intro v' w7 hown' hgrow hnil hat
            have HQ7 : Hid (ExpS 73 2 B bM B va vr v' accs i rows (ords x0 T (3 * i + (k + 1))).length (pairC (ords x0 T (3 * i + (k + 1)))) (ords x0 T (3 * i + (k + 1))).length (Dk.put (klP y) (.lit (.int .i64 ((lq.length : Nat) : Int)))) w7) := Lib.hid (by
              have h1 := (HQ6.out.below ((Below.refl _ _).alloc (Nat.le_refl _) (.cells #[.int .i64 (y.1 : Int), .int .i64 (y.2 : Int)] 73))).ord_push hown' hgrow
              rw [HMiss.out.2.1]
              rw [pairC_snoc, List.length_append]
              exact h1)
            have HA7 : Hid (Below B W2 w7 /\ Arr3 w7 bx (cutV (toA x0 T i) k)) := Lib.hid (by
              refine ⟨(HA6.out.1.alloc hbw6 (.cells #[.int .i64 (y.1 : Int), .int .i64 (y.2 : Int)] 73)).grown hgrow (by simp; omega) (λ j e => (HQ6.out.ord.lt j e).1), ?_⟩
              have h1 : Arr3 (w6.alloc (.cells #[.int .i64 (y.1 : Int), .int .i64 (y.2 : Int)] 73)) bx (cutV (toA x0 T i) k) := HA6.out.2.same (Below.heap_alloc _ _ _ HA6.out.2.lt)
              refine h1.same (hgrow.block bx h1.lt (λ e => ?_))
              obtain ⟨cur, hh⟩ := blk_ofz HQ6.out.ord e.symm
              exact blk_ne hh HA6.out.2 (by decide) rfl)
            obtain ⟨kf1, kf2⟩ := HA7.out.2.facts hk3
            clear hown' hgrow hnil hat p4 p5
            have HQ8 : Hid (Below B W2 (w7.setCell ⟨bx, k, none⟩ (.int .i64 ((lq.length : Nat) : Int))) /\ (ExpS 73 2 B bM B va vr v' accs i rows (ords x0 T (3 * i + (k + 1))).length (pairC (ords x0 T (3 * i + (k + 1)))) (ords x0 T (3 * i + (k + 1))).length (Dk.put (klP y) (.lit (.int .i64 ((lq.length : Nat) : Int)))) (w7.setCell ⟨bx, k, none⟩ (.int .i64 ((lq.length : Nat) : Int))) /\ MapOf klP (okP Ma Mb) (Dk.put (klP y) (.lit (.int .i64 ((lq.length : Nat) : Int)))) (ords x0 T (3 * i + (k + 1)))) /\ Arr3 (w7.setCell ⟨bx, k, none⟩ (.int .i64 ((lq.length : Nat) : Int))) bx (cutV (toA x0 T i) (k + 1))) := Lib.hid (by
              have hN := HNx.out
              refine ⟨below_set HA7.out.1 hN.2.2.2.2.2 _, ⟨HQ7.out.set ⟨hN.1, hN.2.1, λ e => ?_, hN.2.2.2.1, hN.2.2.2.2.1, hN.2.2.2.2.2⟩ _, by rw [HMiss.out.2.1]; exact HMp.out⟩, HA7.out.2.set hk3 ?_ (λ j _ hj => (cutV_step _ k).2 j hj)⟩
              . obtain ⟨cur, hh⟩ := blk_ofz HQ7.out.ord e
                exact blk_ne hh HA7.out.2 (by decide) rfl
              . rw [(cutV_step _ k).1, HMiss.out.2.2])
            go_wp2_with fail
            go_roundw
            case rel => exact ⟨k + 1, _, by go_num, by omega, Lib.hid (by rw [HMiss.out.2.1, List.length_append]; exact HRoom.out), HQ8⟩
            case measure => simp [intOf]; omega
        . obtain rfl : k = 3 := by omega
          obtain ⟨hil, hkey⟩ := keyA_at (s0 := x0) (g := T) (t := 3 * i + 3) hi1 (by omega)
          have hxM : okP Ma Mb (keyA x0 T i) := HKeys.out (i + 1) HON.out (3 * i) (by omega) _ (getD_mem hi1)
          obtain ⟨x, hx⟩ : ∃ x, x = keyA x0 T i := ⟨_, rfl⟩
          obtain ⟨lq, hlq⟩ : ∃ lq, lq = ords x0 T (3 * i + 3) := ⟨_, rfl⟩
          rw [<- hlq] at HQ hil hkey
          rw [<- hx] at hkey hxM
          have hlqM : lq.length <= M := by rw [hlq]; exact HLk.out
          have HLq := Lib.hid (And.intro hlq hx)
          have HLe2 := Lib.hid hlqM
          clear hlq hx
          obtain ⟨gq, cq, hvq, -, hcq⟩ := own_cell HQ.out.2.1.1.ord (by omega)
          subst hvq
          have hpc := pairC_at lq i hil
          rw [hkey] at hpc
          have hci := (hcq (i * 2) (by omega)).trans hpc.1
          have hcj := (hcq (i * 2 + 1) (by omega)).trans hpc.2
          clear hpc
          obtain ⟨b, hb⟩ : ∃ b, b = acc x := ⟨_, rfl⟩
          have HC2 : Hid (Calls Tryd.prog g2 (#[.agg #[.int .i64 (x.1 : Int), .int .i64 (x.2 : Int)]] ++ lb2) wr.drew λ e w' => e = .returned (.bool b) /\ Below wr.drew.heap.size wr.drew w') := Lib.hid (by
            rw [hb]
            refine HH2.out wr.drew x ((HB2.out.trans (HQ.out.1.mono ?_)).drew) hxM
            have := HBe.out
            omega)
          have HBb' := Lib.hid hb
          have s1 : (i : Int) < (lq.length : Int) := by omega
          have s2 : (0 : Int) <= (i : Int) := by omega
          have hal : accs.length <= 2000 := by rw [HAl.out]; omega
          have hbwr : B <= wr.heap.size := Nat.le_of_lt HQ.out.2.1.1.base
          have HQd := Lib.hid (HQ.out.2.1.1.below (Below.refl _ _).drew)
          obtain ⟨e0, -, e2, -⟩ := box2_facts HQ.out.2.1.1.box
          obtain ⟨e4, -, e6, -⟩ := box2_facts HQd.out.box
          obtain ⟨Aa, qa, hva⟩ := (RowO.of_owns HQ.out.2.1.1.acc (by omega)).row.shape
          rw [bools_length] at hva
          subst hva
          clear hcq hkey hb
          go_upto_region 21 with fail
          go_cut [] from 66 to 76 (λ wc => ∃ va2, Hid (ExpS 73 2 B bM B va2 vr (.slice (some ⟨gq, 0, none⟩) lq.length cq) (accs ++ [b]) i rows lq.length (pairC lq) lq.length Dk wc) /\ Hid (Below B W2 wc /\ Arr3 wc bx (cutV (toA x0 T i) 3)))
          case first =>
            go_region_law (first
              | (refine step_call_val rfl (.tmp 68) _ _ rfl g2 lb2 (by simp [Act.eval]) eg2 #[.agg #[.int .i64 (x.1 : Int), .int .i64 (x.2 : Int)]] (by simp [Act.eval]) HC2.out ?_; rintro e w1 ⟨rfl, hb1⟩; have HO1 := Lib.hid (HQd.out.below hb1); have HA1 := Lib.hid (And.intro (HQ.out.1.drew.trans (hb1.mono (by show B <= wr.heap.size; omega))) (HQ.out.2.2.same (hb1.block bx HQ.out.2.2.lt))); obtain ⟨l0, -, l2, -⟩ := box2_facts HO1.out.box; have HO1a := Lib.hid (HO1.out.below ((Below.refl _ _).alloc (Nat.le_refl _) (.cells #[.bool b] 4))); obtain ⟨l4, -, l6, -⟩ := box2_facts HO1a.out.box; have hbw1 : B <= w1.heap.size := Nat.le_of_lt HO1.out.base; clear hb1; refine ⟨_, rfl, ?_⟩)
              | (refine step_append_own_at rfl (.tmp 67) (.tmp 74) 24 rfl B 4 b0 (.bool false) 1 1 Tryd.underlying24 hbi hb0 hb1 hb2 rfl (by decide) _ _ _ rfl (HO1.out.acc.alloc _) ⟨w1.heap.size, 0, none⟩ 1 1 [.bool b] rfl rfl (cell_one_new w1 _ _) (by simp [Value.oneCell']) (by unfold maxLen; omega) (by omega) (by simp; omega) ?_; intro v' w9 hown' hgrow hat; obtain ⟨g', cap', rfl⟩ := own_succ hown'; have HB9 := Lib.hid (((HA1.out.1.alloc hbw1 (.cells #[.bool b] 4)).grown hgrow (by simp; omega) (λ g e => (HO1.out.acc.lt g e).1)).setCell (p := ⟨B, 0, none⟩) (Nat.le_refl _) (.slice (some ⟨g', 0, none⟩) (accs.length + 1) cap')); obtain ⟨z1, z2, HQ9⟩ := HO1a.out.acc_push hown' hgrow; obtain ⟨z0, z1⟩ := z1; have HQ9 := Lib.hid HQ9; have HG9 := Lib.hid hgrow))
            all_goals
              have HX9 : Hid (Arr3 (w9.setCell ⟨B, 0, none⟩ (.slice (some ⟨g', 0, none⟩) (accs.length + 1) cap')) bx (cutV (toA x0 T i) 3)) := Lib.hid (by
                have hxa : Arr3 (w1.alloc (.cells #[.bool b] 4)) bx (cutV (toA x0 T i) 3) := HA1.out.2.same (Below.heap_alloc _ _ _ HA1.out.2.lt)
                refine (hxa.same (HG9.out.block bx hxa.lt (λ e => HNx.out.1 ?_))).same (Below.heap_setCell _ _ _ _ (λ e => HNx.out.2.2.2.2.1 (Eq.symm e)))
                exact e.symm)
              clear hown' hgrow hat z1 z2 l0 l2 l4 l6 e0 e2 e4 e6
              go_wp2_with fail
              go_meet
              exact ⟨_, HQ9, Lib.hid ⟨HB9.out, HX9.out⟩⟩
          case rest =>
            obtain ⟨va2, HQ9, HA9⟩ := hcut
            clear e0 e2 e4 e6 hci hcj
            have hbw9 : B <= wc.heap.size := Nat.le_of_lt HQ9.out.base
            obtain ⟨-, e1, -, e3⟩ := box2_facts HQ9.out.box
            have hx3 : Bx3 wc bx (.int .i64 ((toA x0 T i 0 : Nat) : Int)) (.int .i64 ((toA x0 T i 1 : Nat) : Int)) (.int .i64 ((toA x0 T i 2 : Nat) : Int)) 122 := HA9.out.2
            obtain ⟨⟨c0, c1, c2⟩, -⟩ := hx3.facts
            clear hx3
            obtain ⟨t0, ht0⟩ : ∃ y : Int, y = ((toA x0 T i 0 : Nat) : Int) := ⟨_, rfl⟩
            obtain ⟨t1, ht1⟩ : ∃ y : Int, y = ((toA x0 T i 1 : Nat) : Int) := ⟨_, rfl⟩
            obtain ⟨t2, ht2⟩ : ∃ y : Int, y = ((toA x0 T i 2 : Nat) : Int) := ⟨_, rfl⟩
            rw [<- ht0] at c0
            rw [<- ht1] at c1
            rw [<- ht2] at c2
            have HRw : Hid (rows ++ [.int .i64 t0, .int .i64 t1, .int .i64 t2] = rowsC x0 T (i + 1)) := Lib.hid (by rw [rowsC_succ, HAc.out.2, ht0, ht1, ht2]; rfl)
            clear ht0 ht1 ht2
            go_wp2_with (at_builtin; refine wpList_append_own_at _ rfl (.tmp 78) (.tmp 80) 101 rfl B 122 r0 (.agg #[.int .i64 0, .int .i64 0, .int .i64 0]) 3 24 Tryd.underlying101 hri hr0 hr1 hr2 rfl (by decide) _ _ _ rfl (HQ9.out.row.alloc _) ⟨wc.heap.size, 0, none⟩ 1 1 [.int .i64 t0, .int .i64 t1, .int .i64 t2] rfl rfl (newB3 wc _ _ _ _) (by simp [Value.oneCell']) (by unfold maxLen; omega) (by omega) (by simp; omega) ?_)
            intro v' w9 hown' hgrow hnil hat
            obtain ⟨gn, capn, rfl⟩ := own_succ hown'
            obtain ⟨⟨z0, z1⟩, z2, HQb⟩ := (HQ9.out.below ((Below.refl _ _).alloc (Nat.le_refl _) (.cells #[.int .i64 t0, .int .i64 t1, .int .i64 t2] 122))).row_push hown' hgrow
            rw [HRw.out] at HQb
            have HQb := Lib.hid HQb
            have HBb := Lib.hid (((HA9.out.1.alloc hbw9 (.cells #[.int .i64 t0, .int .i64 t1, .int .i64 t2] 122)).grown hgrow (by simp; omega) (λ g e => (HQ9.out.row.lt g e).1)).setCell (p := ⟨B, 1, none⟩) (Nat.le_refl _) (.slice (some ⟨gn, 0, none⟩) (i + 1) capn))
            have HA1 : Hid (accs ++ [b] = (List.range (i + 1)).map λ j => acc (keyA x0 T j)) := Lib.hid (by rw [List.range_succ, List.map_append, HAc.out.1, HBb'.out, HLq.out.2]; rfl)
            rw [HA1.out] at HQb
            have HMk := Lib.hid HQ.out.2.1.2
            clear hown' hgrow hnil hat
            go_wp2_with fail
            go_roundw
            case rel => exact ⟨i + 1, _, _, Dk, by go_num, by omega, Lib.hid (by rw [show 3 * (i + 1) = 3 * i + 3 by omega]; exact HLk.out), HBb, HON, by
              rw [show 3 * (i + 1) = 3 * i + 3 by omega, <- HLq.out.1]
              exact Lib.hid ⟨HQb.out, HMk.out⟩⟩
            case measure => simp [intOf]; omega
    . have hE : Ends x0 T i := ⟨hon.out, by rw [<- hl]; omega⟩
      have hEl := hE.length
      have hiM : i <= M := by rw [<- hEl]; exact HLe.out
      have hi0 := hE.pos
      have HE := Lib.hid hE
      obtain ⟨ga, ca, rfl, hga, hca⟩ := own_cell HS.out.1.acc (by simp; omega)
      obtain ⟨gr, cr, rfl, hgr, hcr⟩ := own_cell HS.out.1.row hi0
      have HAu : Hid (∀ V : World, (∀ g, g ≠ w.heap.size + 1 -> V.heap[g]? = wr.heap[g]?) -> AutoV V (.slice (some ⟨ga, 0, none⟩) i ca) (.slice (some ⟨gr, 0, none⟩) i cr) (found x0 T acc i)) := Lib.hid (λ V hV => ⟨ga, ca, gr, cr, rfl, rfl, λ q hq => by
          have hq' : q < i := hq
          have hBe := HBe.out
          rw [World.cell?_of_block (w := wr) (a := ⟨ga, q, none⟩) (hV ga (by omega))]
          rw [hca q (by simp; omega), (found_keyA hE acc hq').1]
          simp [bools, hq'], λ q hq k hk => by
          have hq' : q < i := hq
          have hBe := HBe.out
          rw [World.cell?_of_block (w := wr) (a := ⟨gr, q * 3 + k, none⟩) (hV gr (by omega))]
          rw [hcr (q * 3 + k) (by omega), rowsC_at i q k hq' hk, (found_keyA hE acc hq').2 k hk]⟩)
      obtain ⟨e0, e1, -, -⟩ := box2_facts HS.out.1.box
      have hln : ((List.range i).map λ j => acc (keyA x0 T j)).length = i := by simp
      rw [hln] at e0
      have hyb := (HBr.out.block _ (by have := HBe.out; omega)).trans HX2.out.1
      obtain ⟨c0, c1, k0, k1⟩ := box2_facts hyb
      have hd : decide ((i : Int) < (l.length : Int)) = false := by simp; omega
      obtain ⟨hcl, hsz, hot, hBl⟩ := put2 (k := .slice (some ⟨ga, 0, none⟩) i ca) (l := .slice (some ⟨gr, 0, none⟩) i cr) c0 c1
      obtain ⟨hc0, hc1⟩ := hcl
      have HOt := Lib.hid (And.intro hsz (And.intro hot hBl))
      clear hsz hot hBl hyb hl hca hcr hln hE hEl hga hgr
      go_wp2_with fail
      refine bodyPost_ret (v := .tuple #[.agg #[.slice (some ⟨ga, 0, none⟩) i ca, .slice (some ⟨gr, 0, none⟩) i cr], .bool true]) (by simp [results, Tryd.results76, go_sem, hc0, hc1]) rfl ?_
      exact .inl ⟨i, _, _, HE.out, hiM, rfl, HAu.out _ HOt.out.2.1, HOt.out.2.2 _ _ (HB2.out.trans (HBr.out.mono (by have := HBe.out; omega))) (Nat.le_succ _)⟩
end Go.Proofs.YtiijlpmdnokjfaaDoor
namespace Go.Proofs.YtiijlpmdnokjfaaDoor
open Go.RowKit
end Go.Proofs.YtiijlpmdnokjfaaDoor
