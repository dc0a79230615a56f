/-
  Texts of one proof, one behind the other.
-/
import Derived.Maps.AppendAt
import Derived.IntWalk
import Derived.Deep.RegionLaw
import Derived.Deep.CutRange
import Derived.Shelf.Abstract
import Derived.BigQuiet
import Derived.Below
import Derived.Deep.QuietTactic
import Derived.WalkKit
import Derived.Test.YtlkhmpdncimnfaaDoorDividedPack3

/-
  What spec.WordsOfLength answers at every number: the words of that length, in order, in a new row of their own; none where it is not from 0 to 5. Behind the call nothing that was there has turned.
-/
namespace Go.Proofs.YtlkhmpdncimnfaaDoor
open Go.RowKit



/-- Every word with every letter behind it. -/
def ext (L : List (List UInt8)) : List (List UInt8) := L.flatMap fun w => letters.map fun b => w ++ [b]
theorem wordsOf_succ (k : Nat) : wordsOf (k + 1) = ext (wordsOf k) := rfl
theorem ext_length (L : List (List UInt8)) : (ext L).length = 3 * L.length := by
  unfold ext
  rw [List.length_flatMap]
  simp [letters, List.map_const']
  omega
/-- What has come when i words are done and j letters of the next one. -/
def wpart (L : List (List UInt8)) (i j : Nat) : List (List UInt8) := ext (L.take i) ++ (letters.take j).map fun b => L.getD i [] ++ [b]
theorem wpart_length (L : List (List UInt8)) (i j : Nat) (hi : i ≤ L.length) (hj : j ≤ 3) : (wpart L i j).length = 3 * i + j := by
  unfold wpart
  rw [List.length_append, ext_length, List.length_map, List.length_take, List.length_take]
  simp [letters]
  omega
theorem wpart_next (L : List (List UInt8)) (i : Nat) (hi : i < L.length) : wpart L i 3 = wpart L (i + 1) 0 := by
  unfold wpart ext
  rw [List.take_succ_eq_append_getElem hi, List.flatMap_append]
  simp [letters, hi]
theorem wpart_all (L : List (List UInt8)) : wpart L L.length 0 = ext L := by simp [wpart]
theorem wpart_start (L : List (List UInt8)) : wpart L 0 0 = [] := by simp [wpart, ext]
theorem wpart_step (L : List (List UInt8)) (i j : Nat) (hj : j < 3) : wpart L i (j + 1) = wpart L i j ++ [L.getD i [] ++ [letters.getD j 0]] := by
  unfold wpart
  have h : j < letters.length := by simpa [letters] using hj
  rw [List.take_succ_eq_append_getElem h, List.map_append, ← List.append_assoc]
  simp [h]

theorem letter_bytes (x : ByteArray) (p : List UInt8) (hx : x = ⟨p.toArray⟩) (j : Nat) (hj : j < 3) : x ++ (ByteArray.mk #[97, 98, 99]).extract j (j + 1) = ⟨(p ++ [letters.getD j 0]).toArray⟩ := by
  subst hx
  apply ByteArray.ext
  apply Array.toList_inj.1
  have h : j = 0 ∨ j = 1 ∨ j = 2 := by omega
  rcases h with rfl | rfl | rfl <;> simp [letters]

set_option maxRecDepth 100000 in
set_option maxHeartbeats 400000 in
theorem specWords_none (n : Int) (w : World) (h : n < 0 ∨ 5 < n) : Calls Tryd.prog 44 #[.int .i64 n] w (SplPost [] w) := by
  have HC := Lib.hid (fun w => l1In_no n 0 5 w (by omega))
  clear h
  go_enter Tryd.func44, Tryd.ntmps44
  go_wp2_with (go_at_call 62; refine (HC.out _).mono ?_; rintro e w' ⟨rfl, rfl⟩)
  go_ret
  exact ⟨_, rfl, World.ownsRow_made w #[] 0 (Nat.le_refl _) (by unfold maxLen; omega) rfl, (Below.refl _ _).alloc (Nat.le_refl _) _⟩

/-- One word more. -/
theorem wpart_grow {wo wr w1 : World} {u v' : Value} {L : List (List UInt8)} {a b : Nat} {x : ByteArray} {o : Obj} (hb3 : b < 3) (hx : x = ⟨(L.getD a []).toArray⟩) (hown : wr.ownsRow wo.heap.size 9 1 u (wpart L a b).length (strs (wpart L a b))) (hb : Below wo.heap.size wo wr)
    (hown' : w1.ownsRow wo.heap.size 9 1 v' ((wpart L a b).length + 1) (strs (wpart L a b) ++ [.string (x ++ (ByteArray.mk #[97, 98, 99]).extract b (b + 1))])) (hg : (wr.alloc o).drew.grownBy w1 u.ownBlock) :
    w1.ownsRow wo.heap.size 9 1 v' (wpart L a (b + 1)).length (strs (wpart L a (b + 1))) ∧ Below wo.heap.size wo w1 := by
  rw [letter_bytes x _ hx b hb3] at hown'
  refine ⟨?_, ((hb.alloc hb.size o).drew).grown hg (by have := hb.size; simp; omega) (fun k hk => (hown.lt k hk).1)⟩
  rw [wpart_step L a b hb3, strs_append, List.length_append]
  exact hown'
theorem own_one (w : World) (x : Value) {B : Nat} (hB : B ≤ w.heap.size) : (w.alloc (.cells #[x] 9)).ownsRow B 9 1 (.slice (some ⟨w.heap.size, 0, none⟩) 1 1) 1 [x] :=
  ⟨rfl, .inr ⟨w.heap.size, 1, #[x], rfl, hB, heap_alloc_new w _, Nat.le_refl _, by unfold maxLen; omega, rfl, rfl⟩⟩
theorem wordsOf_len : ∀ (n : Nat) (x : List UInt8), x ∈ wordsOf n → x.length = n
  | 0, x, h => by simp [wordsOf] at h; rw [h]; rfl
  | n + 1, x, h => by
    unfold wordsOf at h
    rw [List.mem_flatMap] at h
    obtain ⟨y, hy, hx⟩ := h
    have hl := wordsOf_len n y hy
    rw [List.mem_map] at hx
    obtain ⟨b, _, rfl⟩ := hx
    simp [hl]
theorem wordsOf_small (k : Nat) (h : k ≤ 5) : 1 ≤ (wordsOf k).length ∧ (wordsOf k).length ≤ 243 := by
  rw [wordsOf_length]
  exact ⟨Nat.one_le_pow k 3 (by omega), Nat.pow_le_pow_right (by omega) h⟩

set_option maxRecDepth 100000 in
set_option maxHeartbeats 1600000 in
theorem specWords_any (n : Nat) (w : World) (hn : n ≤ 5) : Calls Tryd.prog 44 #[.int .i64 n] w (SplPost (wordsOf n) w) := by
  obtain ⟨i0, hi, hz0, hz1, hz2⟩ := info_parts strInfo
  have HC := Lib.hid (fun w => l1In_yes n 0 5 w (by omega))
  go_enter Tryd.func44, Tryd.ntmps44
  go_wp2_with (go_at_call 62; refine (HC.out _).mono ?_; rintro e w' ⟨rfl, rfl⟩)
  go_loopw [3, 4] (fun v i wr => ∃ k : Nat, i = .int .i64 k ∧ k ≤ n ∧ wr.ownsRow w.heap.size 9 1 v (wordsOf k).length (strs (wordsOf k)) ∧ Below w.heap.size w wr) (fun _ i _ => n - (intOf i).toNat)
  case atStart => exact ⟨0, rfl, Nat.zero_le _, own_one w (.string ⟨#[]⟩) (Nat.le_refl _), (Below.refl _ _).alloc (Nat.le_refl _) _⟩
  case round =>
    obtain ⟨k, rfl, hk, hown, hb⟩ := hrel
    have HO := Lib.hid hown
    have HB := Lib.hid hb
    clear hown hb
    by_cases hlt : k < n
    · obtain ⟨hs1, hs2⟩ := wordsOf_small k (by omega)
      obtain ⟨L, hL⟩ : ∃ L, L = wordsOf k := ⟨_, rfl⟩
      rw [← hL] at HO hs1 hs2
      have HL := Lib.hid hL
      clear hL
      have HLEN : Hid (∀ a, (L.getD a []).length ≤ 5) := Lib.hid fun a => by
        by_cases h : a < L.length
        · have hm := wordsOf_len k (L.getD a []) (by rw [← HL.out]; simp [h])
          omega
        · simp [h]
      obtain ⟨g, c, rfl⟩ : ∃ g c, u3 = .slice (some ⟨g, 0, none⟩) L.length c := by
        rcases own_cases HO.out with ⟨h0, _⟩ | h
        · omega
        · exact h
      have hgl := (HO.out.lt g (by simp [Value.ownBlock])).2
      obtain ⟨wo, rfl⟩ : ∃ wo : World, wo = wr := ⟨_, rfl⟩
      have hz := HB.out.size
      go_wp2
      go_loopw [5, 6] (fun u i wr => ∃ a : Nat, i = .int .i64 a ∧ a ≤ L.length ∧ wr.ownsRow wo.heap.size 9 1 u (wpart L a 0).length (strs (wpart L a 0)) ∧ Below wo.heap.size wo wr) (fun _ i _ => L.length - (intOf i).toNat)
      case atStart => exact ⟨0, rfl, Nat.zero_le _, by rw [wpart_start]; exact World.ownsRow_made wo #[] 0 (Nat.le_refl _) (by unfold maxLen; omega) rfl, (Below.refl _ _).alloc (Nat.le_refl _) _⟩
      case round =>
        obtain ⟨a, rfl, ha, hown, hb⟩ := hrel
        have HO2 := Lib.hid hown
        have HB2 := Lib.hid hb
        clear hown hb
        by_cases hlt2 : a < L.length
        · obtain ⟨w2, rfl⟩ : ∃ w2 : World, w2 = wr := ⟨_, rfl⟩
          go_wp2
          go_loopw [5, 7] (fun u j wr => ∃ b : Nat, j = .int .i64 b ∧ b ≤ 3 ∧ wr.ownsRow wo.heap.size 9 1 u (wpart L a b).length (strs (wpart L a b)) ∧ Below wo.heap.size wo wr) (fun _ j _ => 3 - (intOf j).toNat)
          case atStart => exact ⟨0, rfl, Nat.zero_le _, HO2.out, HB2.out⟩
          case round =>
            obtain ⟨b, rfl, hb3, hown, hb⟩ := hrel
            have HO3 := Lib.hid hown
            have HB3 := Lib.hid hb
            clear hown hb
            by_cases hlt3 : b < 3
            · have hcell : ∀ w1, Below wo.heap.size wo w1 → w1.cell? ⟨g, a, none⟩ = some (.string ⟨(L.getD a []).toArray⟩) := fun w1 h1 => by
                rw [h1.cell (p := ⟨g, a, none⟩) hgl, HO.out.cellAt a (by omega)]
                simp [strs, hlt2]
              obtain ⟨x, hx⟩ : ∃ x : ByteArray, x = ⟨(L.getD a []).toArray⟩ := ⟨_, rfl⟩
              rw [← hx] at hcell
              have hc0 := hcell wr HB3.out
              have hxs : x.size ≤ 5 := by rw [hx]; exact HLEN.out a
              have HX := Lib.hid hx
              clear hcell hx
              go_wp2
              have s1 : IntKind.i64.wrap ((b : Int) + 1) = (b : Int) + 1 := IntWalk.i64_in _ (by omega)
              have s2 : 0 ≤ (b : Int) + 1 := by omega
              have s3 : (b : Int) + 1 ≤ 3 := by omega
              have s4 : ((b : Int) + 1).toNat = b + 1 := by omega
              have s5 : (b : Int) ≤ (b : Int) + 1 := by omega
              have s6 : (9223372036854775807 < x.size + (min (b + 1) 3 - b)) = False := by simp; omega
              have hpl : (wpart L a b).length ≤ 800 := by rw [wpart_length L a b (by omega) hb3]; omega
              go_region_law (refine step_append_own rfl (.tmp 29) (.tmp 39) 35 rfl wo.heap.size 9 i0 (.string ⟨#[]⟩) 1 16 Tryd.underlying35 hi hz0 hz1 hz2 rfl (by decide) _ _ _ rfl (HO3.out.drew.alloc _) ⟨wr.heap.size, 0, none⟩ 1 1 _ rfl rfl (cell_one_new _ _ _) (by simp [Value.oneCell']) (by unfold maxLen; omega) (by omega) (by have := HB3.out.size; simp; omega) ?_; intro v' w1 hown' hgrow)
              all_goals
                have R := wpart_grow hlt3 HX.out HO3.out HB3.out hown' hgrow
                clear hown' hgrow s1 s2 s3 s4 s5 s6
                go_wp2
                go_roundw
                case rel => exact ⟨b + 1, by go_num, by omega, R.1, R.2⟩
                case measure => simp [intOf]; omega
            · obtain rfl : b = 3 := by omega
              have HP := Lib.hid (wpart_next L a hlt2)
              go_wp2
              go_roundw
              case rel => exact ⟨a + 1, by go_num, by omega, by rw [← HP.out]; exact HO3.out, HB3.out⟩
              case measure => simp [intOf]; omega
        · obtain rfl : a = L.length := by omega
          have HP := Lib.hid (wpart_all L)
          have HE : Hid (ext L = wordsOf (k + 1)) := Lib.hid (by rw [HL.out]; rfl)
          go_wp2
          go_roundw
          case rel => exact ⟨k + 1, by go_num, by omega, by rw [← HE.out, ← HP.out]; exact own_lower HO2.out hz, HB.out.trans (HB2.out.mono hz)⟩
          case measure => simp [intOf]; omega
    · obtain rfl : k = n := by omega
      go_wp2
      go_ret
      exact ⟨_, rfl, HO.out, HB.out⟩
end Go.Proofs.YtlkhmpdncimnfaaDoor

/-
  What spec.WordsUpTo answers at every number: the words of at most so many letters (at most 5), in order, in a new row of their own. Behind the call nothing that was there has turned.
-/
namespace Go.Proofs.YtlkhmpdncimnfaaDoor
open Go.RowKit

/-- The words of fewer than k letters. -/
def under : Nat → List (List UInt8)
  | 0 => []
  | k + 1 => under k ++ wordsOf k
theorem under_succ : ∀ k, under (k + 1) = wordsTo k
  | 0 => rfl
  | k + 1 => by
    rw [under, under_succ k]
    rfl
theorem under_small : ((List.range 7).all fun k => decide ((under k).length ≤ 364)) = true := by decide +kernel
theorem under_le (k : Nat) (h : k ≤ 6) : (under k).length ≤ 364 := of_decide_eq_true (List.all_eq_true.1 under_small k (List.mem_range.2 (by omega)))

/-- The words of one length come to what is there. -/
theorem under_grow {w wr w1 w2 : World} {u v' : Value} {k : Nat} (hown : wr.ownsRow w.heap.size 9 1 u (under k).length (strs (under k))) (hb : Below w.heap.size w wr) (hb1 : Below wr.heap.size wr w1)
    (hown' : w2.ownsRow w.heap.size 9 1 v' ((under k).length + (wordsOf k).length) (strs (under k) ++ strs (wordsOf k))) (hg : w1.grownBy w2 u.ownBlock) :
    w2.ownsRow w.heap.size 9 1 v' (under (k + 1)).length (strs (under (k + 1))) ∧ Below w.heap.size w w2 := by
  refine ⟨?_, (hb.trans (hb1.mono hb.size)).grown hg (Nat.le_trans hb.size hb1.size) (fun j hj => (hown.lt j hj).1)⟩
  rw [under, strs_append, List.length_append]
  exact hown'
theorem word_cells {w : World} {B g c : Nat} {ps : List (List UInt8)} (h : w.ownsRow B 9 1 (.slice (some ⟨g, 0, none⟩) ps.length c) ps.length (strs ps)) : ∀ j u, (strs ps)[j]? = some u → w.cell? ((⟨g, 0, none⟩ : Addr).add j) = some u := by
  intro j u hj
  have hlt : j < ps.length := by have := (List.getElem?_eq_some_iff.1 hj).1; simpa [strs] using this
  rw [Addr.add_lit, Nat.zero_add, h.cellAt j (by omega)]
  exact hj
theorem strs_one (ps : List (List UInt8)) : ∀ u ∈ strs ps, u.oneCell' = true := by
  intro u hu
  obtain ⟨p, _, rfl⟩ := List.mem_map.1 hu
  rfl

/-- Where there is a word the slice is not nil. -/
theorem SplPost.row {ps : List (List UInt8)} {w : World} {e : Ending} {w' : World} (h : SplPost ps w e w') (hne : 1 ≤ ps.length) :
    ∃ g c, e = .returned (.slice (some ⟨g, 0, none⟩) ps.length c) ∧ w'.ownsRow w.heap.size 9 1 (.slice (some ⟨g, 0, none⟩) ps.length c) ps.length (strs ps) ∧ Below w.heap.size w w' := by
  obtain ⟨v, rfl, hown, hb⟩ := h
  rcases hown.2 with ⟨_, h0⟩ | ⟨g, cap, cur, rfl, _⟩
  · omega
  · exact ⟨g, cap, rfl, hown, hb⟩

set_option maxRecDepth 100000 in
set_option maxHeartbeats 1600000 in
theorem specTo_any (n : Int) (m : Nat) (w : World) (hm : m ≤ 6) (h1 : ∀ k : Nat, k < m → (k : Int) ≤ n) (h2 : (m : Int) ≤ n → 6 ≤ m) (hn : n ≤ 9223372036854775807) : Calls Tryd.prog 14 #[.int .i64 n] w (SplPost (under m) w) := by
  obtain ⟨i0, hi, hz0, hz1, hz2⟩ := info_parts strInfo
  have H1 := Lib.hid h1
  have H2 := Lib.hid h2
  clear h1 h2
  go_enter Tryd.func14, Tryd.ntmps14
  go_wp2
  go_loopw [3, 4] (fun v i wr => ∃ k : Nat, i = .int .i64 k ∧ k ≤ m ∧ wr.ownsRow w.heap.size 9 1 v (under k).length (strs (under k)) ∧ Below w.heap.size w wr) (fun _ i _ => m - (intOf i).toNat)
  case atStart => exact ⟨0, rfl, Nat.zero_le _, World.ownsRow_made w #[] 0 (Nat.le_refl _) (by unfold maxLen; omega) rfl, (Below.refl _ _).alloc (Nat.le_refl _) _⟩
  case round =>
    obtain ⟨k, rfl, hk, hown, hb⟩ := hrel
    have HO := Lib.hid hown
    have HB := Lib.hid hb
    clear hown hb
    by_cases hlt : k < m
    · have hkn := H1.out k hlt
      have hk5 : (k : Int) ≤ 5 := by omega
      have hpl := under_le k (by omega)
      obtain ⟨hw1, hw2⟩ := wordsOf_small k (by omega)
      have HC := Lib.hid (fun w => specWords_any k w (by omega))
      go_wp2_with fail
      refine (HC.out _).mono ?_
      intro e w1 hp
      obtain ⟨g, c, rfl, hown1, hb1⟩ := hp.row hw1
      have HO1 := Lib.hid hown1
      have HB1 := Lib.hid hb1
      clear hp hown1 hb1
      go_wp2_with (at_builtin; refine wpList_append_own _ rfl (.tmp 15) (.tmp 17) 35 rfl w.heap.size 9 i0 (.string ⟨#[]⟩) 1 16 Tryd.underlying35 hi hz0 hz1 hz2 rfl (by decide) _ _ _ rfl (owns_below HO.out HB1.out) ⟨g, 0, none⟩ (wordsOf k).length c (strs (wordsOf k)) rfl (by rw [strs_length]; omega) (word_cells HO1.out) (strs_one _) (by unfold maxLen; omega) (by omega) (Nat.le_trans HB.out.size HB1.out.size) ?_)
      intro v' w2 hown' hgrow _
      have R := under_grow HO.out HB.out HB1.out hown' hgrow
      clear hown' hgrow
      go_wp2
      go_roundw
      case rel => exact ⟨k + 1, by go_num, by omega, R.1, R.2⟩
      case measure => simp [intOf]; omega
    · obtain rfl : k = m := by omega
      by_cases hkn : (k : Int) ≤ n
      · have h6 := H2.out hkn
        have hk5 : ¬ (k : Int) ≤ 5 := by omega
        go_wp2
        go_ret
        exact ⟨_, rfl, HO.out, HB.out⟩
      · have hd : decide ((k : Int) ≤ n) = false := by simpa using hkn
        go_wp2
        go_ret
        exact ⟨_, rfl, HO.out, HB.out⟩
end Go.Proofs.YtlkhmpdncimnfaaDoor

/-
  What a product and a complement accept, word by word. Of no function of the program but the answers' names.
-/
namespace Go.Proofs.YtlkhmpdncimnfaaDoor
open Go.RowKit

theorem fields_run {m : Au} (h : m.wf) : ∀ (u : List Nat) (q : Nat), W3 u → q < m.n → (auD (fieldsOf m)).run q u = m.run q u
  | [], _, _, _ => rfl
  | k :: u, q, hu, hq => by
    obtain ⟨hk, hu'⟩ := hu.tail
    have e : (auD (fieldsOf m)).T q k = m.T q k := by
      show ((((fieldsOf m).nxt).getD q []).getD k 0).toNat = m.T q k
      have h1 : (fieldsOf m).nxt = nxtOf m := rfl
      rw [h1, List.getD_eq_getElem?_getD, List.getD_eq_getElem?_getD, nxtOf_at m hq]
      simp [hk]
    show (auD (fieldsOf m)).run ((auD (fieldsOf m)).T q k) u = m.run (m.T q k) u
    rw [e]
    exact fields_run h u _ hu' (h.2 q k hq hk)
theorem fields_valid {m : Au} (h : m.wf) (hn : m.n ≤ 40) : validD (fieldsOf m) = true := validF_of h hn
theorem isW_W3 {s : List UInt8} (hs : isW s = true) : W3 (idxs s) := by
  unfold isW at hs
  simp only [Bool.and_eq_true] at hs
  exact idxs_W3 hs.1
theorem acc_of {d : Dx} (hv : validD d = true) {s : List UInt8} (hs : isW s = true) : accR d s = (auD d).A ((auD d).run 0 (idxs s)) := by
  have h1 : 1 ≤ d.acc.length := by
    have := (fieldsOf_au hv).1.1
    exact this
  unfold accR runOk
  rw [hv, hs]
  have h2 : decide ((0 : Int) ≤ (d.acc.length : Int) - 1) = true := by simp; omega
  rw [h2]
  simp
theorem acc_not {d : Dx} (hv : validD d = false) (s : List UInt8) : accR d s = false := by
  unfold accR runOk
  rw [hv]
  simp
theorem acc_fields {m : Au} (h : m.wf) (hn : m.n ≤ 40) {s : List UInt8} (hs : isW s = true) : accR (fieldsOf m) s = m.A (m.run 0 (idxs s)) := by
  rw [acc_of (fields_valid h hn) hs, fields_run h _ 0 (isW_W3 hs) h.1]
  have hq := Au.run_lt h (idxs s) 0 (isW_W3 hs) h.1
  show ((fieldsOf m).acc).getD _ false = _
  have h1 : (fieldsOf m).acc = accOf m := rfl
  rw [h1, List.getD_eq_getElem?_getD, accOf_at m hq]
  rfl
theorem pro_acc {a b y : Dx} {kind : Int} (h : proR a b kind y true) {s : List UInt8} (hs : isW s = true) : accR y s = fK kind (accR a s) (accR b s) := by
  unfold proR at h
  by_cases hc : validD a = true ∧ validD b = true ∧ (kind = 6 ∨ kind = 7)
  · rw [if_pos hc] at h
    obtain ⟨m, h1, h2, rfl, h3⟩ := h
    have hn : m.n ≤ 40 := by simpa using h3.symm
    rw [show fitD m = fieldsOf m by unfold fitD; rw [if_pos hn], acc_fields h1.wf hn hs, acc_of hc.1 hs, acc_of hc.2.1 hs, h2 _ (isW_W3 hs)]
    exact prd_lang (fieldsOf_au hc.2.1).1 _ (isW_W3 hs)
  · rw [if_neg hc] at h
    exact absurd h.2 (by simp)
theorem pro_kind {a b y : Dx} {kind : Int} (h : proR a b kind y true) : kind = 6 ∨ kind = 7 := by
  unfold proR at h
  by_cases hc : validD a = true ∧ validD b = true ∧ (kind = 6 ∨ kind = 7)
  · exact hc.2.2
  · rw [if_neg hc] at h
    exact absurd h.2 (by simp)
theorem com_acc {x y : Dx} (h : minR x y) (hv : validD x = true) {s : List UInt8} (hs : isW s = true) : accR (comD y) s = !accR x s := by
  unfold minR at h
  rw [if_pos hv] at h
  obtain ⟨m, h1, h2, rfl⟩ := h
  have hn : m.n ≤ 40 := by
    obtain ⟨m', n1, n2, n3⟩ := exists_min (fieldsOf_au hv).1
    have := (canon_unique h1 n1 (h2.swap n2)).1
    have := (fieldsOf_au hv).2.1
    omega
  have e : comD (fieldsOf m) = fieldsOf ⟨m.n, fun q => !m.A q, m.T⟩ := by
    unfold comD fieldsOf accOf nxtOf
    simp
  have hr : ∀ (u : List Nat) (q : Nat), Au.run ⟨m.n, fun q => !m.A q, m.T⟩ q u = m.run q u := by
    intro u
    induction u with
    | nil => intro q; rfl
    | cons k u ih => intro q; exact ih _
  rw [e, acc_fields (m := ⟨m.n, fun q => !m.A q, m.T⟩) h1.wf hn hs, hr, acc_of hv hs, ← h2 _ (isW_W3 hs)]
theorem words3 : ((under 4).all fun s => isW s && decide (s.length ≤ 30)) = true := by decide +kernel
end Go.Proofs.YtlkhmpdncimnfaaDoor

/-
  What concatenations and repetitions accept, word by word: as the loops over all places of a division count it. Of no function of the program but the answers' names.
-/
namespace Go.Proofs.YtlkhmpdncimnfaaDoor
open Go.RowKit

/-- Behind n places: one of them divides s. -/
def splitB (f g : List UInt8 → Bool) (s : List UInt8) (n : Nat) : Bool := (List.range n).any fun i => f (s.take i) && g (s.drop i)
def moreB (f g : List UInt8 → Bool) (s : List UInt8) (n : Nat) : Bool := s.isEmpty || (List.range n).any fun i => decide (0 < i) && f (s.take i) && g (s.drop i)
theorem splitB_zero (f g : List UInt8 → Bool) (s : List UInt8) : splitB f g s 0 = false := rfl
theorem splitB_succ (f g : List UInt8 → Bool) (s : List UInt8) (n : Nat) : splitB f g s (n + 1) = (splitB f g s n || f (s.take n) && g (s.drop n)) := by
  unfold splitB
  rw [List.range_succ, List.any_append]
  simp
theorem moreB_zero (f g : List UInt8 → Bool) (s : List UInt8) : moreB f g s 0 = s.isEmpty := by simp [moreB]
theorem moreB_succ (f g : List UInt8 → Bool) (s : List UInt8) (n : Nat) : moreB f g s (n + 1) = (moreB f g s n || decide (0 < n) && f (s.take n) && g (s.drop n)) := by
  unfold moreB
  rw [List.range_succ, List.any_append, Bool.or_assoc]
  simp
theorem splitB_iff {f g : List UInt8 → Bool} {s : List UInt8} : splitB f g s (s.length + 1) = true ↔ ∃ i, i ≤ s.length ∧ f (s.take i) = true ∧ g (s.drop i) = true := by
  unfold splitB
  rw [List.any_eq_true]
  constructor
  · rintro ⟨i, hi, h⟩
    rw [Bool.and_eq_true] at h
    exact ⟨i, by have := List.mem_range.1 hi; omega, h.1, h.2⟩
  · rintro ⟨i, hi, h1, h2⟩
    exact ⟨i, List.mem_range.2 (by omega), by rw [h1, h2]; rfl⟩
theorem moreB_iff {f g : List UInt8 → Bool} {s : List UInt8} : moreB f g s (s.length + 1) = true ↔ s = [] ∨ ∃ i, 0 < i ∧ i ≤ s.length ∧ f (s.take i) = true ∧ g (s.drop i) = true := by
  unfold moreB
  rw [Bool.or_eq_true, List.any_eq_true, List.isEmpty_iff]
  constructor
  · rintro (h | ⟨i, hi, h⟩)
    · exact .inl h
    · rw [Bool.and_eq_true, Bool.and_eq_true, decide_eq_true_eq] at h
      exact .inr ⟨i, h.1.1, by have := List.mem_range.1 hi; omega, h.1.2, h.2⟩
  · rintro (h | ⟨i, h0, hi, h1, h2⟩)
    · exact .inl h
    · exact .inr ⟨i, List.mem_range.2 (by omega), by rw [h1, h2]; simp [h0]⟩
theorem isW_take {s : List UInt8} (hs : isW s = true) (i : Nat) : isW (s.take i) = true := by
  unfold isW at hs ⊢
  rw [Bool.and_eq_true, List.all_eq_true, decide_eq_true_eq] at hs
  rw [Bool.and_eq_true, List.all_eq_true, decide_eq_true_eq]
  refine ⟨fun x hx => hs.1 x (List.mem_of_mem_take hx), ?_⟩
  have := hs.2
  rw [List.length_take]
  omega
theorem isW_drop {s : List UInt8} (hs : isW s = true) (i : Nat) : isW (s.drop i) = true := by
  unfold isW at hs ⊢
  rw [Bool.and_eq_true, List.all_eq_true, decide_eq_true_eq] at hs
  rw [Bool.and_eq_true, List.all_eq_true, decide_eq_true_eq]
  refine ⟨fun x hx => hs.1 x (List.mem_of_mem_drop hx), ?_⟩
  have := hs.2
  rw [List.length_drop]
  omega
theorem idxs_take (s : List UInt8) (i : Nat) : idxs (s.take i) = (idxs s).take i := by
  unfold idxs
  rw [List.map_take]
theorem idxs_drop (s : List UInt8) (i : Nat) : idxs (s.drop i) = (idxs s).drop i := by
  unfold idxs
  rw [List.map_drop]
theorem idxs_len (s : List UInt8) : (idxs s).length = s.length := by
  unfold idxs
  rw [List.length_map]
/-- A concatenation accepts what can be divided. -/
theorem cat_split {a b y : Dx} (h : catR a b y true) {s : List UInt8} (hs : isW s = true) : accR y s = splitB (accR a) (accR b) s (s.length + 1) := by
  obtain ⟨ha, hb, m, h1, h2, rfl, h4⟩ := catR_lang h
  rw [acc_fields h1.wf h2 hs, Bool.eq_iff_iff, h4 _ (isW_W3 hs), splitB_iff]
  constructor
  · rintro ⟨u, v, e, hu, hv⟩
    have hl : u.length ≤ s.length := by
      have := congrArg List.length e
      rw [idxs_len, List.length_append] at this
      omega
    have e1 : idxs (s.take u.length) = u := by rw [idxs_take, e, List.take_left]
    have e2 : idxs (s.drop u.length) = v := by rw [idxs_drop, e, List.drop_left]
    refine ⟨u.length, hl, ?_, ?_⟩
    · rw [acc_of ha (isW_take hs _), e1]
      exact hu
    · rw [acc_of hb (isW_drop hs _), e2]
      exact hv
  · rintro ⟨i, hi, hu, hv⟩
    rw [acc_of ha (isW_take hs _)] at hu
    rw [acc_of hb (isW_drop hs _)] at hv
    refine ⟨idxs (s.take i), idxs (s.drop i), ?_, hu, hv⟩
    rw [idxs_take, idxs_drop, List.take_append_drop]
/-- A repetition accepts what begins with a word that is not empty, and goes on as a repetition. -/
theorem star_more {d y : Dx} (h : starR d y true) {s : List UInt8} (hs : isW s = true) : accR y s = moreB (accR d) (accR y) s (s.length + 1) := by
  obtain ⟨hd, m, h1, h2, rfl, h4⟩ := starR_lang h
  have hy : ∀ t : List UInt8, isW t = true → (accR (fieldsOf m) t = true ↔ StarW (auD d) (idxs t)) := fun t ht => by
    rw [acc_fields h1.wf h2 ht, h4 _ (isW_W3 ht)]
  rw [Bool.eq_iff_iff, hy s hs, moreB_iff]
  constructor
  · intro hw
    generalize hz : idxs s = z at hw
    cases hw with
    | nil =>
      left
      have := idxs_len s
      rw [hz] at this
      exact List.length_eq_zero_iff.1 this.symm
    | app u v hu ha hv =>
      right
      have hl : u.length ≤ s.length := by
        have := congrArg List.length hz
        rw [idxs_len, List.length_append] at this
        omega
      have e1 : idxs (s.take u.length) = u := by rw [idxs_take, hz, List.take_left]
      have e2 : idxs (s.drop u.length) = v := by rw [idxs_drop, hz, List.drop_left]
      refine ⟨u.length, List.length_pos_iff.2 hu, hl, ?_, ?_⟩
      · rw [acc_of hd (isW_take hs _), e1]
        exact ha
      · rw [hy _ (isW_drop hs _), e2]
        exact hv
  · rintro (rfl | ⟨i, h0, hi, hu, hv⟩)
    · exact StarW.nil
    · rw [acc_of hd (isW_take hs _)] at hu
      rw [hy _ (isW_drop hs _)] at hv
      have e : idxs s = idxs (s.take i) ++ idxs (s.drop i) := by rw [idxs_take, idxs_drop, List.take_append_drop]
      rw [e]
      exact hv.more hu
end Go.Proofs.YtlkhmpdncimnfaaDoor

/-
  A cell of a literal, behind a draw. Of no function of the program but the draws'.
-/
namespace Go.Proofs.YtlkhmpdncimnfaaDoor
open Go.RowKit

/-- A cell of a literal, behind a draw. -/
theorem pick_cell {w w1 : World} {g gl x : Nat} {l : List Value} {T : TypeId} {v : Value} (hg : w.grownBy w1 (some g)) (hne : gl ≠ g) (hl : w.heap[gl]? = some (.cells l.toArray T (0, 0))) (hx : l[x]? = some v) : w1.cell? ⟨gl, x, none⟩ = some v := by
  have hlt := (Array.getElem?_eq_some_iff.1 hl).1
  have h1 : w1.heap[gl]? = some (.cells l.toArray T (0, 0)) := (hg.block gl hlt (by simpa using hne)).trans hl
  rw [cell_of_row w1 gl x _ _ (0, 0) h1]
  simpa using hx
end Go.Proofs.YtlkhmpdncimnfaaDoor

/-
  The cursor of the draws over what is made beside it.
-/
namespace Go.Proofs.YtlkhmpdncimnfaaDoor
open Go.RowKit

theorem Cur.lt {w : World} {g B : Nat} {A : Option Addr} {n c : Nat} (h : Cur w g B A n c) : g < w.heap.size := by
  obtain ⟨_, _, i, x, _, hh⟩ := h
  exact (Array.getElem?_eq_some_iff.1 hh).1
theorem Cur.alloc {w : World} {g B : Nat} {A : Option Addr} {n c : Nat} (h : Cur w g B A n c) (o : Obj) : Cur (w.alloc o) g B A n c := by
  have hlt := h.lt
  obtain ⟨hB, hb, i, x, hi, hh⟩ := h
  refine ⟨hB, hb.grown (g := g) ⟨rfl, rfl, rfl, by simp, fun k hk _ => Below.heap_alloc w o k hk⟩ hB, i, x, hi, (Below.heap_alloc w o g hlt).trans hh⟩
theorem grown_made {a w : World} {row : Option Nat} (h : a.grownBy w row) (o : Obj) : a.grownBy (w.alloc o) row :=
  ⟨h.os, h.tape, h.output, Nat.le_trans h.size (by simp), fun k hk hne => (Below.heap_alloc w o k (Nat.lt_of_lt_of_le hk h.size)).trans (h.block k hk hne)⟩
theorem grown_comp {a b c : World} {row : Option Nat} (h : a.grownBy b row) (k : b.grownBy c row) : a.grownBy c row :=
  ⟨k.os.trans h.os, k.tape.trans h.tape, k.output.trans h.output, Nat.le_trans h.size k.size, fun i hi hne => (k.block i (Nat.lt_of_lt_of_le hi h.size) hne).trans (h.block i hi hne)⟩
/-- Below the heap's old size nothing has turned: the cursor's block lies above. -/
theorem below_of_grown {w w1 w2 : World} {g : Nat} (hb : Below w.heap.size w w1) (hg : w1.grownBy w2 (some g)) (h : w.heap.size ≤ g) : Below w.heap.size w w2 :=
  hb.grown hg hb.size (fun k e => by cases e; exact h)
theorem BL.more {w : World} {B B' : Nat} {A : Option Addr} {n : Nat} (h : BL w B A n) (hB : B ≤ B') : BL w B' A n := fun k hk => by
  obtain ⟨ad, z, e, hlt, hc⟩ := h k hk
  exact ⟨ad, z, e, Nat.lt_of_lt_of_le hlt hB, hc⟩
theorem below_row {w w1 w2 : World} {g : Nat} (hb : Below w.heap.size w w1) (hg : w1.grownBy w2 (some g)) (h : w.heap.size ≤ g) : Below w.heap.size w w2 :=
  hb.grown hg hb.size (fun k e => by cases e; exact h)
end Go.Proofs.YtlkhmpdncimnfaaDoor

/-
  What the model's draw of an automaton answers: an automaton in rows of its own; of what was there the cursor's block alone has turned.
-/
namespace Go.Proofs.YtlkhmpdncimnfaaDoor
open Go.RowKit

variable {w w' W0 : World} {B : Nat} {bo : Nat} {va vn : Value} {accs : List Bool} {us : List Value} {rss : List (List Value)} {rs : List (List Int)} {K : Nat → Nat → Prop} {vo : Value} {lo : List Int}
/-- The cursor's block g is older than W0; since W0 it alone has turned. -/
def DS (W0 w : World) (g C : Nat) (A : Option Addr) (n c : Nat) : Prop := g < W0.heap.size ∧ Cur w g C A n c ∧ W0.grownBy w (some g)
variable {g C : Nat} {A : Option Addr} {n c : Nat}
theorem DS.call (h : DS W0 w g C A n c) (hc : Cur w' g C A n c) (hg : w.grownBy w' (some g)) : DS W0 w' g C A n c := ⟨h.1, hc, grown_comp h.2.2 hg⟩
theorem DS.alloc (h : DS W0 w g C A n c) (o : Obj) : DS W0 (w.alloc o) g C A n c := ⟨h.1, h.2.1.alloc o, grown_made h.2.2 o⟩
theorem DS.drew (h : DS W0 w g C A n c) : DS W0 w.drew g C A n c := ⟨h.1, h.2.1, h.2.2.os, h.2.2.tape, h.2.2.output, h.2.2.size, h.2.2.block⟩
theorem DS.app {row : Option Nat} (h : DS W0 w g C A n c) (hg : w.grownBy w' row) (hr : ∀ q, row = some q → W0.heap.size ≤ q) : DS W0 w' g C A n c := by
  obtain ⟨h1, ⟨hB, hbl, i, x, hi, hh⟩, h3⟩ := h
  have hgl := blk_lt hh
  exact ⟨h1, ⟨hB, hbl.below ((Below.refl C w).grown hg (by omega) (fun q e => by have := hr q e; omega)), i, x, hi, (hg.block g hgl (fun e => by have := hr g e.symm; omega)).trans hh⟩,
    hg.os.trans h3.os, hg.tape.trans h3.tape, hg.output.trans h3.output, Nat.le_trans h3.size hg.size, fun k hk hne => (hg.block k (Nat.lt_of_lt_of_le hk h3.size) (fun e => by have := hr k e.symm; omega)).trans (h3.block k hk hne)⟩
theorem DS.set (h : DS W0 w g C A n c) {r o : Nat} {u : Value} (hr : W0.heap.size ≤ r) : DS W0 (w.setCell ⟨r, o, none⟩ u) g C A n c := by
  obtain ⟨h1, ⟨hB, hbl, i, x, hi, hh⟩, h3⟩ := h
  refine ⟨h1, ⟨hB, hbl.below ((Below.refl C w).setCell (p := ⟨r, o, none⟩) (by show C ≤ r; omega) u), i, x, hi, (Below.heap_setCell _ _ _ g (by show g ≠ r; omega)).trans hh⟩,
    h3.os, h3.tape, h3.output, by simpa [World.setCell] using h3.size, fun k hk hne => (Below.heap_setCell _ _ _ k (by show k ≠ r; omega)).trans (h3.block k hk hne)⟩
theorem DS.from (h : DS W0 w g C A n c) {w0 : World} (hw : w0.grownBy W0 (some g)) (hg : g < w0.heap.size) : DS w0 w g C A n c := ⟨hg, h.2.1, grown_comp hw h.2.2⟩

/-- The drawn automaton so far. -/
structure Gr (W0 w : World) (g C : Nat) (A : Option Addr) (n c bo : Nat) (va vn : Value) (accs : List Bool) (us : List Value) (rs : List (List Int)) (K : Nat → Nat → Prop) : Prop where
  ds : DS W0 w g C A n c
  out : Out W0.heap.size w bo va vn accs us (intss rs) K
  ows : Ows w W0.heap.size us rs K
structure Gr1 (W0 w : World) (g C : Nat) (A : Option Addr) (n c bo : Nat) (va vn : Value) (accs : List Bool) (us : List Value) (rs : List (List Int)) (K : Nat → Nat → Prop) (vo : Value) (lo : List Int) : Prop where
  ds : DS W0 w g C A n c
  one : One W0.heap.size w bo va vn accs us (intss rs) K vo lo
  ows : Ows w W0.heap.size us rs K
theorem Gr.call (h : Gr W0 w g C A n c bo va vn accs us rs K) (hc : Cur w' g C A n c) (hg : w.grownBy w' (some g)) : Gr W0 w' g C A n c bo va vn accs us rs K := by
  have hs : ∀ q, W0.heap.size ≤ q → q < w.heap.size → w'.heap[q]? = w.heap[q]? := fun q h1 h2 => hg.block q h2 (fun e => by cases e; have := h.ds.1; omega)
  exact ⟨h.ds.call hc hg, h.out.off hs hg.size (Nat.le_refl _), h.ows.keep (fun j q hk => hs q (h.out.rows.sub j q hk) (h.out.rows.lt j q hk)) (Nat.le_refl _)⟩
theorem Gr.drew (h : Gr W0 w g C A n c bo va vn accs us rs K) : Gr W0 w.drew g C A n c bo va vn accs us rs K := ⟨h.ds.drew, h.out.below (Below.refl _ _).drew, h.ows.keep (fun _ _ _ => rfl) (Nat.le_refl _)⟩
theorem Gr.alloc (h : Gr W0 w g C A n c bo va vn accs us rs K) (o : Obj) : Gr W0 (w.alloc o) g C A n c bo va vn accs us rs K :=
  ⟨h.ds.alloc o, h.out.below ((Below.refl _ _).alloc (Nat.le_refl _) o), h.ows.keep (fun j q hk => Below.heap_alloc _ _ _ (h.out.rows.lt j q hk)) (Nat.le_refl _)⟩
theorem Gr.acc_push {va' : Value} {b : Bool} (h : Gr W0 w g C A n c bo va vn accs us rs K) (hown : w'.ownsRow W0.heap.size 4 1 va' (accs.length + 1) (bools accs ++ [.bool b])) (hg : w.grownBy w' va.ownBlock) :
    (∃ x, w'.cell? ⟨bo, 0, none⟩ = some x) ∧ w'.frozen? ⟨bo, 0, none⟩ = false ∧ Gr W0 (w'.setCell ⟨bo, 0, none⟩ va') g C A n c bo va' vn (accs ++ [b]) us rs K := by
  obtain ⟨h1, h2, h3⟩ := h.out.acc_push hown hg
  exact ⟨h1, h2, (h.ds.app hg (fun q e => (h.out.acc.lt q e).1)).set h.out.low, h3, h.ows.keep (h.out.k_acc hg va') (Nat.le_refl _)⟩
theorem Gr.one (h : Gr W0 w g C A n c bo va vn accs us rs K) : Gr1 W0 (w.alloc (.cells #[] 3)) g C A n c bo va vn accs us rs K (.slice (some ⟨w.heap.size, 0, none⟩) 0 0) [] :=
  ⟨h.ds.alloc _, h.out.one, (h.alloc _).ows⟩
theorem Gr1.call (h : Gr1 W0 w g C A n c bo va vn accs us rs K vo lo) (hc : Cur w' g C A n c) (hg : w.grownBy w' (some g)) : Gr1 W0 w' g C A n c bo va vn accs us rs K vo lo := by
  have hs : ∀ q, W0.heap.size ≤ q → q < w.heap.size → w'.heap[q]? = w.heap[q]? := fun q h1 h2 => hg.block q h2 (fun e => by cases e; have := h.ds.1; omega)
  exact ⟨h.ds.call hc hg, ⟨h.one.out.off hs hg.size (Nat.le_refl _), own_on h.one.ord (fun q e => hs q (h.one.ord.lt q e).1 (h.one.ord.lt q e).2) (Nat.le_refl _), h.one.ordK⟩, h.ows.keep (fun j q hk => hs q (h.one.out.rows.sub j q hk) (h.one.out.rows.lt j q hk)) (Nat.le_refl _)⟩
theorem Gr1.alloc (h : Gr1 W0 w g C A n c bo va vn accs us rs K vo lo) (o : Obj) : Gr1 W0 (w.alloc o) g C A n c bo va vn accs us rs K vo lo :=
  ⟨h.ds.alloc o, h.one.below ((Below.refl _ _).alloc (Nat.le_refl _) o), h.ows.keep (fun j q hk => Below.heap_alloc _ _ _ (h.one.out.rows.lt j q hk)) (Nat.le_refl _)⟩
theorem Gr1.ord_push {v' : Value} {x : Int} (h : Gr1 W0 w g C A n c bo va vn accs us rs K vo lo) (hown : w'.ownsRow W0.heap.size 3 1 v' (lo.length + 1) (ints lo ++ [.int .i64 x])) (hg : w.grownBy w' vo.ownBlock) (hat : v'.ownBlock = vo.ownBlock ∨ v'.ownBlock = some w.heap.size) :
    Gr1 W0 w' g C A n c bo va vn accs us rs K v' (lo ++ [x]) :=
  ⟨h.ds.app hg (fun q e => (h.one.ord.lt q e).1), h.one.ord_push hown hg hat, h.ows.keep (h.one.k_ord hg) (Nat.le_refl _)⟩
theorem Gr1.nxt_push {vn' : Value} (h : Gr1 W0 w g C A n c bo va vn accs us rs K vo lo) (hrl : lo.length ≤ 9223372036854775807) (hul : us.length = rs.length) (hown : w'.ownsRow W0.heap.size 52 1 vn' (us.length + 1) (us ++ [vo])) (hg : w.grownBy w' vn.ownBlock) :
    (∃ x, w'.cell? ⟨bo, 1, none⟩ = some x) ∧ w'.frozen? ⟨bo, 1, none⟩ = false ∧ Gr W0 (w'.setCell ⟨bo, 1, none⟩ vn') g C A n c bo va vn' accs (us ++ [vo]) (rs ++ [lo]) (fun j g => if j < us.length then K j g else j = us.length ∧ vo.ownBlock = some g) := by
  obtain ⟨h1, h2, h3⟩ := h.one.out.nxt_push h.one.ord hrl h.one.ordK hown hg
  refine ⟨h1, h2, (h.ds.app hg (fun q e => (h.one.out.nxt.lt q e).1)).set h.one.out.low, by rw [intss_snoc]; exact h3, fun j u r hu hr => ?_⟩
  have hk := h.one.out.k_nxt hg vn'
  by_cases hj : j < us.length
  · rw [List.getElem?_append_left hj] at hu
    rw [List.getElem?_append_left (by omega)] at hr
    obtain ⟨q1, q2⟩ := (h.ows.keep hk (Nat.le_refl _)) j u r hu hr
    exact ⟨q1, fun q e => by simpa [hj] using q2 q e⟩
  · have e : j = us.length := by
      have := (List.getElem?_eq_some_iff.1 hu).1
      simp at this
      omega
    subst e
    rw [List.getElem?_append_right (Nat.le_refl _), Nat.sub_self] at hu
    rw [List.getElem?_append_right (by omega), hul, Nat.sub_self] at hr
    cases hu
    cases hr
    refine ⟨own_on h.one.ord (fun q e => ?_) (Nat.le_refl _), fun q e => by simpa using e⟩
    obtain ⟨cur, hh⟩ := blk_of h.one.ord e
    refine (Below.heap_setCell _ _ _ q (fun er => blk_ne hh h.one.out.box (by decide) er)).trans (hg.block q (blk_lt hh) (fun er => ?_))
    obtain ⟨cur', hh'⟩ := blk_of h.one.out.nxt er.symm
    exact blk_ne hh hh' (by decide) rfl
theorem Gr.start (h : DS W0 w g C A n c) : Gr W0 (w.alloc (.cells #[.slice none 0 0, .slice none 0 0] 27)) g C A n c w.heap.size (.slice none 0 0) (.slice none 0 0) [] [] [] (fun _ _ => False) :=
  ⟨h.alloc _, Out.start w h.2.2.size, fun j u r hu => by simp at hu⟩

def OnceM (g B : Nat) (A : Option Addr) (n c : Nat) (w : World) (e : Ending) (w' : World) : Prop :=
  ∃ b : Bool, e = .returned (.bool b) ∧ Cur w' g B A n c ∧ w.grownBy w' (some g)
set_option maxRecDepth 100000 in
set_option maxHeartbeats 800000 in
theorem l1Once_m (g B : Nat) (A : Option Addr) (n c m : Nat) (w : World) (hc : Cur w g B A n c) (hn : n ≤ 1048576) (h1 : 1 ≤ m) (h2 : m ≤ 256) :
    Calls Tryd.prog 37 #[.pointer (some ⟨g, 0, none⟩), .int .i64 m] w (OnceM g B A n c w) := by
  have H3 := Lib.hid (l1Below_small g B A n c m w hc hn h1 h2)
  go_enter Tryd.func37, Tryd.ntmps37
  go_wp2_with fail
  go_at_call 64
  refine H3.out.mono ?_
  rintro e w1 ⟨x, rfl, hx, hc1, hg1⟩
  have HC1 := Lib.hid hc1
  have HG1 := Lib.hid hg1
  clear hc1 hg1
  go_wp2_with fail
  go_ret
  exact ⟨_, rfl, HC1.out, HG1.out⟩
theorem enters_once : ∀ args w, (callFunc 37 args).run Tryd.prog w = .ok (.enter 37 args) w := enters_of Tryd.func37 (by kernel_rfl) rfl

/-- What the draw of an automaton answers. -/
def DrawnD (m g B : Nat) (A : Option Addr) (n c : Nat) (w : World) (e : Ending) (w' : World) : Prop :=
  ∃ (va vn : Value) (bo : Nat) (accs : List Bool) (us : List Value) (rs : List (List Int)) (K : Nat → Nat → Prop), e = .returned (.agg #[va, vn]) ∧ Gr w w' g B A n c bo va vn accs us rs K ∧
    1 ≤ accs.length ∧ accs.length ≤ m ∧ us.length = accs.length ∧ rs.length = accs.length ∧ ∀ r ∈ rs, r.length = 3

set_option maxRecDepth 100000 in
set_option maxHeartbeats 6400000 in
theorem l5Draw_any (m : Nat) (hm1 : 1 ≤ m) (hm : m ≤ 200) (g B : Nat) (A : Option Addr) (n c : Nat) (w : World) (hc : Cur w g B A n c) (hn : n ≤ 1048576) :
    Calls Tryd.prog 39 #[.pointer (some ⟨g, 0, none⟩), .int .i64 (m : Int)] w (DrawnD m g B A n c w) := by
  have hgl := hc.lt
  obtain ⟨W0, hW0⟩ : ∃ W0, W0 = w.alloc (.cells #[.slice none 0 0, .slice none 0 0] 27) := ⟨_, rfl⟩
  have hwz : W0.heap.size = w.heap.size + 1 := by rw [hW0]; simp
  have HD0 : Hid (DS W0 W0 g B A n c) := Lib.hid (by rw [hW0]; exact ⟨by simp; omega, hc.alloc _, grown_refl _ _⟩)
  have HY : Hid (W0.heap[w.heap.size]? = some (.cells #[.slice none 0 0, .slice none 0 0] 27 (0, 0))) := Lib.hid (by rw [hW0]; exact heap_alloc_new w _)
  have HGw : Hid (w.grownBy W0 (some g)) := Lib.hid (by rw [hW0]; exact World.grownBy_alloc w _ _)
  have HC1 := Lib.hid (fun V k (h1 : 1 ≤ k) (h2 : k ≤ 256) (h : Cur V g B A n c) => l1Below_small g B A n c k V h hn h1 h2)
  have HO := Lib.hid (fun V (h : Cur V g B A n c) => show Calls Tryd.prog 37 #[.pointer (some ⟨g, 0, none⟩), .int .i64 2] V (OnceM g B A n c V) from l1Once_m g B A n c 2 V h hn (by omega) (by omega))
  have HM := Lib.hid hm1
  obtain ⟨b0, hbi, hb0, hb1, hb2⟩ := info_parts boolInfo
  obtain ⟨i0, hi, hz0, hz1, hz2⟩ := info_parts intInfo
  obtain ⟨r0, hri, hr0, hr1, hr2⟩ := info_parts rowInfo
  have HWZ := Lib.hid hwz
  clear hc hwz
  go_enter Tryd.func39, Tryd.ntmps39
  go_wp2_with fail
  rw [← hW0]
  clear hW0
  go_at_call 64
  refine (HC1.out _ m HM.out (by omega) HD0.out.2.1).mono ?_
  rintro e w1 ⟨x, rfl, hx, hc1, hg1⟩
  have HD1 := Lib.hid (HD0.out.call hc1 hg1)
  have HS := Lib.hid (Gr.start HD1.out)
  clear hc1 hg1
  go_wp2_with fail
  go_loopw [7] (fun iv wr => ∃ (i : Nat) (va vn : Value) (accs : List Bool) (us : List Value) (rs : List (List Int)) (K : Nat → Nat → Prop), iv = .int .i64 i ∧ i ≤ 1 + x ∧ accs.length = i ∧ us.length = i ∧ rs.length = i ∧ (∀ r ∈ rs, r.length = 3) ∧ Hid (Gr W0 wr g B A n c w1.heap.size va vn accs us rs K)) (fun iv _ => 1 + x - (intOf iv).toNat)
  case atStart => exact ⟨0, _, _, [], [], [], _, rfl, Nat.zero_le _, rfl, rfl, rfl, by simp, HS⟩
  clear HS
  case round =>
    obtain ⟨i, va, vn, accs, us, rs, K, rfl, hin, hal, hul, hrl, hr3, HG⟩ := hrel
    have HR3 := Lib.hid hr3
    subst hal
    have HUL := Lib.hid hul
    have HRL := Lib.hid hrl
    clear hr3 hul hrl
    by_cases hlt : accs.length < 1 + x
    · have hd : decide ((accs.length : Int) < 1 + (x : Int)) = true := by simp; omega
      have HGd := Lib.hid HG.out.drew
      obtain ⟨e0, -, e2, -⟩ := box2_facts HG.out.out.box
      obtain ⟨e4, -, e6, -⟩ := box2_facts HGd.out.out.box
      obtain ⟨Aa, qa, hva⟩ := (RowO.of_owns HG.out.out.acc (by omega)).row.shape
      rw [bools_length] at hva
      subst hva
      have HOn := Lib.hid (HO.out wr.drew HGd.out.ds.2.1)
      go_upto_region 8 with fail
      go_cut [] from 20 to 26 (fun wc => ∃ va2 b, Hid (Gr W0 wc g B A n c w1.heap.size va2 vn (accs ++ [b]) us rs K))
      case first =>
        go_region_law (first
          | (refine step_call rfl _ _ _ rfl enters_once #[.pointer (some ⟨g, 0, none⟩), .int .i64 2] (by simp [Act.eval, Act.put]) HOn.out ?_; rintro e w2 ⟨b, rfl, hc2, hg2⟩; have HG2 := Lib.hid (HGd.out.call hc2 hg2); obtain ⟨l0, -, l2, -⟩ := box2_facts HG2.out.out.box; have HG2a := Lib.hid (HG2.out.alloc (.cells #[.bool b] 4)); obtain ⟨l4, -, l6, -⟩ := box2_facts HG2a.out.out.box; clear hc2 hg2; refine ⟨_, rfl, ?_⟩)
          | (refine step_append_own_at rfl (.tmp 21) (.tmp 24) 24 rfl W0.heap.size 4 b0 (.bool false) 1 1 Tryd.underlying24 hbi hb0 hb1 hb2 rfl (by decide) _ _ _ rfl HG2a.out.out.acc ⟨w2.heap.size, 0, none⟩ 1 1 [.bool b] rfl rfl (cell_one_new w2 _ _) (by simp [Value.oneCell']) (by unfold maxLen; omega) (by omega) (by have := HG2.out.ds.2.2.size; simp; omega) ?_; intro v' w9 hown' hgrow hat; obtain ⟨g', cap', rfl⟩ := own_succ hown'; obtain ⟨z1, z2, HQ9⟩ := HG2a.out.acc_push hown' hgrow; obtain ⟨z0, z1⟩ := z1; have HQ9 := Lib.hid HQ9))
        all_goals
          clear hown' hgrow hat z1 z2 l0 l2 l4 l6 e0 e2 e4 e6
          go_wp2_with fail
          go_meet
          exact ⟨_, _, HQ9⟩
      case rest =>
        obtain ⟨va2, b, HG9⟩ := hcut
        clear e0 e2 e4 e6 hd
        have HG1 := Lib.hid HG9.out.one
        go_wp2_with fail
        go_loopw [8, 9] (fun vr kv wq => ∃ (k : Nat) (lr : List Int), kv = .int .i64 k ∧ k ≤ 3 ∧ lr.length = k ∧ Hid (Gr1 W0 wq g B A n c w1.heap.size va2 vn (accs ++ [b]) us rs K vr lr)) (fun _ kv _ => 3 - (intOf kv).toNat)
        case atStart => exact ⟨0, [], rfl, Nat.zero_le _, rfl, HG1⟩
        clear HG1
        case round =>
          obtain ⟨k, lr, rfl, hk, hlr, HQ⟩ := hrel
          subst hlr
          obtain ⟨-, Ar, cr, rfl⟩ := (HQ.out.one.ord.row (by omega)).row.ints_shape
          by_cases hk3 : lr.length < 3
          · have hd : decide ((lr.length : Int) < 3) = true := by simp; omega
            have HCq := Lib.hid (HC1.out wr (1 + x) (by omega) (by omega) HQ.out.ds.2.1)
            rw [show (((1 + x : Nat) : Nat) : Int) = 1 + (x : Int) by omega] at HCq
            go_wp2_with fail
            go_at_call 64
            refine HCq.out.mono ?_
            rintro e w8 ⟨y, rfl, hy, hc8, hg8⟩
            have HQ8 := Lib.hid (HQ.out.call hc8 hg8)
            have hz8 : W0.heap.size ≤ w8.heap.size := HQ8.out.ds.2.2.size
            clear hc8 hg8
            go_wp2_with (at_builtin; refine wpList_append_own_at _ rfl (.tmp 32) (.tmp 36) 52 rfl W0.heap.size 3 i0 (.int .i64 0) 1 8 Tryd.underlying52 hi hz0 hz1 hz2 rfl (by decide) _ _ _ rfl (HQ8.out.one.ord.alloc _) ⟨w8.heap.size, 0, none⟩ 1 1 [.int .i64 (y : Int)] rfl rfl (cell_one_new _ _ _) (by simp [Value.oneCell']) (by unfold maxLen; omega) (by omega) (by simp; omega) ?_)
            intro v' w9 hown' hgrow hnil hat
            have HQ9 := Lib.hid ((HQ8.out.alloc (.cells #[.int .i64 (y : Int)] 3)).ord_push hown' hgrow (by simpa using hat))
            clear hown' hgrow hnil hat
            go_wp2_with fail
            go_roundw
            case rel => exact ⟨lr.length + 1, _, by go_num, by omega, by simp, HQ9⟩
            case measure => simp [intOf]; omega
          · have hd : decide ((lr.length : Int) < 3) = false := by simp; omega
            have hl3 : lr.length = 3 := by omega
            have HL3 := Lib.hid hl3
            have hul := HUL.out
            have hux : us.length ≤ 200 := by omega
            clear hl3 hul
            obtain ⟨-, e1, -, e3⟩ := box2_facts HQ.out.one.out.box
            have hz8 : W0.heap.size ≤ wr.heap.size := HQ.out.ds.2.2.size
            obtain ⟨An, cn, hvn⟩ := (RowO.of_owns HQ.out.one.out.nxt (by omega)).row.shape
            subst hvn
            go_wp2_with (at_builtin; refine wpList_append_own_at _ rfl (.tmp 39) (.tmp 41) 25 rfl W0.heap.size 52 r0 (.slice none 0 0) 1 24 Tryd.underlying25 hri hr0 hr1 hr2 rfl (by decide) _ _ _ rfl (HQ.out.one.out.nxt.alloc _) ⟨wr.heap.size, 0, none⟩ 1 1 [.slice Ar lr.length cr] rfl rfl (cell_one_new _ _ _) (by simp [Value.oneCell']) (by unfold maxLen; omega) (by omega) (by simp; omega) ?_)
            intro v' wa hown' hgrow hnil hat
            obtain ⟨gn, capn, rfl⟩ := own_succ hown'
            obtain ⟨⟨z0, z1⟩, z2, HQb⟩ := (HQ.out.alloc (.cells #[.slice Ar lr.length cr] 52)).nxt_push (by omega) (by rw [HUL.out, HRL.out]) hown' hgrow
            have HQb := Lib.hid HQb
            have HR4 : Hid (∀ r ∈ rs ++ [lr], r.length = 3) := Lib.hid (fun r hr => by
              rcases List.mem_append.1 hr with h | h
              · exact HR3.out r h
              · rw [List.mem_singleton.1 h]; exact HL3.out)
            clear hown' hgrow hnil hat
            go_wp2_with fail
            go_roundw
            case rel => exact ⟨accs.length + 1, _, _, accs ++ [b], us ++ [Value.slice Ar lr.length cr], rs ++ [lr], _, by go_num, by omega, by simp, by simp [HUL.out], by simp [HRL.out], HR4.out, HQb⟩
            case measure => simp [intOf]; omega
    · have hd : decide ((accs.length : Int) < 1 + (x : Int)) = false := by simp; omega
      obtain ⟨e0, e1, -, -⟩ := box2_facts HG.out.out.box
      have hyb := (HG.out.ds.2.2.block _ (blk_lt HY.out) (by simp; omega)).trans HY.out
      obtain ⟨c0, c1, k0, k1⟩ := box2_facts hyb
      obtain ⟨hcl, hsz, hot, hBl⟩ := put2 (k := va) (l := vn) c0 c1
      obtain ⟨hc0, hc1⟩ := hcl
      obtain ⟨Aa, qa, hva⟩ := (RowO.of_owns HG.out.out.acc (by omega)).row.shape
      rw [bools_length] at hva
      obtain ⟨An, qn, hvn⟩ := (RowO.of_owns HG.out.out.nxt (by rw [HUL.out]; omega)).row.shape
      subst hva
      subst hvn
      have HOt := Lib.hid (And.intro hsz hot)
      clear hsz hot hBl hyb
      go_wp2_with fail
      refine bodyPost_ret (v := .agg #[.slice Aa accs.length qa, .slice An us.length qn]) (by simp [results, Tryd.results39, go_sem, hc0, hc1]) rfl ?_
      refine ⟨_, _, w1.heap.size, accs, us, rs, K, rfl, ⟨((HG.out.ds.from HGw.out hgl).set (Nat.le_refl _)).set (Nat.le_refl _), HG.out.out.off (fun q h1 _ => HOt.out.2 q (by have := HWZ.out; omega)) (by rw [HOt.out.1]; exact Nat.le_refl _) (by have := HWZ.out; omega), HG.out.ows.keep (fun j q hk => HOt.out.2 q (by have := HG.out.out.rows.sub j q hk; have := HWZ.out; omega)) (by have := HWZ.out; omega)⟩, by omega, by omega, HUL.out, HRL.out, HR3.out⟩
end Go.Proofs.YtlkhmpdncimnfaaDoor

/-
  What the model's bent draw of an automaton answers: some automaton in rows of its own, valid or not.
-/
namespace Go.Proofs.YtlkhmpdncimnfaaDoor
open Go.RowKit

variable {w w' W0 : World} {B : Nat} {bo : Nat} {va vn u0 u1 : Value} {accs : List Bool} {us : List Value} {rs : List (List Int)} {r0 : List Int} {K : Nat → Nat → Prop} {g C : Nat} {A : Option Addr} {n c : Nat}

/-- A number of the first row is written over. -/
theorem Out.poke (h : Out B w bo va vn accs (u0 :: us) (intss (r0 :: rs)) K) (hr0 : 0 < r0.length) : ∃ g0 c0, u0 = .slice (some ⟨g0, 0, none⟩) r0.length c0 ∧ (∃ x, w.cell? ⟨g0, 0, none⟩ = some x) ∧ w.frozen? ⟨g0, 0, none⟩ = false ∧ B ≤ g0 ∧
    ∀ z, Out B (w.setCell ⟨g0, 0, none⟩ (.int .i64 z)) bo va vn accs (u0 :: us) (intss (r0.set 0 z :: rs)) K := by
  have h0 : RowO w (K 0) u0 (ints r0) := h.rows.row 0 u0 (ints r0) rfl rfl
  obtain ⟨A, c, hu⟩ := h0.shape
  rw [hu] at h0
  obtain ⟨g0, rfl, hK, hlt, H⟩ := h0.set (j := 0) (by rw [ints_length]; exact hr0)
  obtain ⟨hc, hf, hs⟩ := H w rfl
  rw [ints_length] at hu
  refine ⟨g0, c, hu, hc, hf, h.rows.sub 0 g0 hK, fun z => ?_⟩
  obtain ⟨cur0, hh0⟩ := h.kint 0 g0 hK
  have far : ∀ (q : Nat), q ≠ g0 → (w.setCell ⟨g0, 0, none⟩ (.int .i64 z)).heap[q]? = w.heap[q]? := fun q hq => Below.heap_setCell _ _ _ q hq
  refine ⟨own_on h.acc (fun q e => far q (fun er => ?_)) (Nat.le_refl _), own_on h.nxt (fun q e => far q (fun er => ?_)) (Nat.le_refl _), ⟨by have := h.rows.len; simpa [intss] using this, fun j u r hu' hr' => ?_, h.rows.sub, fun j q hk => by simpa [World.setCell] using h.rows.lt j q hk, h.rows.sep⟩, fun j q hk => ?_, (far bo (fun er => ?_)).trans h.box, h.low⟩
  · obtain ⟨cur, hh⟩ := blk_of h.acc e
    exact blk_ne hh hh0 (by decide) er
  · obtain ⟨cur, hh⟩ := blk_of h.nxt e
    exact blk_ne hh hh0 (by decide) er
  · cases j with
    | zero =>
      cases hu'
      have e : ints (r0.set 0 z) = (ints r0).set 0 (.int .i64 z) := by simp [ints, List.map_set]
      have hr2 : r = ints (r0.set 0 z) := by simpa [intss] using hr'.symm
      rw [hr2, e]
      have := hs (.int .i64 z)
      rw [ints_length] at this
      rw [hu]
      exact this
    | succ j =>
      have := h.rows.row (j + 1) u r hu' (by simpa [intss] using hr')
      exact this.mono (fun q hq => far q (fun er => by
        subst er
        have := h.rows.sep _ _ _ hq hK
        omega)) (fun _ hq => hq)
  · by_cases hq : q = g0
    · subst hq
      exact ⟨_, heap_setCell_same w q 0 _ _ (.int .i64 z) hh0⟩
    · obtain ⟨cur, hh⟩ := h.kint j q hk
      exact ⟨cur, (far q hq).trans hh⟩
  · exact blk_ne h.box hh0 (by decide) er
/-- The first row has grown by a number. -/
theorem Out.regrow {z : Int} (h : Out B w bo va vn accs (u0 :: us) (intss (r0 :: rs)) K) (hal : accs.length ≤ 9223372036854775807) (hrl : r0.length + 1 ≤ 9223372036854775807) (hul : us.length + 1 ≤ 9223372036854775807) (hk0 : ∀ q, u0.ownBlock = some q → K 0 q) (hown : w'.ownsRow B 3 1 u1 (r0.length + 1) (ints r0 ++ [.int .i64 z])) (hg : w.grownBy w' u0.ownBlock) (hat : u1.ownBlock = u0.ownBlock ∨ u1.ownBlock = some w.heap.size) :
    ∃ gn cn, vn = .slice (some ⟨gn, 0, none⟩) (us.length + 1) cn ∧ (∃ x, w'.cell? ⟨gn, 0, none⟩ = some x) ∧ w'.frozen? ⟨gn, 0, none⟩ = false ∧ B ≤ gn ∧ w'.heap[bo]? = some (.cells #[va, vn] 27 (0, 0)) ∧ (w'.setCell ⟨gn, 0, none⟩ u1).heap[bo]? = some (.cells #[va, vn] 27 (0, 0)) ∧
      DfaO (w'.setCell ⟨gn, 0, none⟩ u1) (fun q => B ≤ q ∧ q < (w'.setCell ⟨gn, 0, none⟩ u1).heap.size) va vn ⟨accs, (r0 ++ [z]) :: rs⟩ := by
  obtain ⟨gn, cn, hvn⟩ := own_succ h.nxt
  have hgn : vn.ownBlock = some gn := by rw [hvn]; simp [Value.ownBlock]
  obtain ⟨curn, hhn⟩ := blk_of h.nxt hgn
  have hn' : w'.heap[gn]? = w.heap[gn]? := hg.block gn (blk_lt hhn) (fun er => by
    obtain ⟨cur, hh⟩ := h.kint 0 gn (hk0 gn er.symm)
    exact blk_ne hhn hh (by decide) rfl)
  have hR : RowO w (fun q => vn.ownBlock = some q) vn (u0 :: us) := RowO.of_owns h.nxt (by simpa using hul)
  have hR0 := hR
  rw [hvn] at hR0
  obtain ⟨gn', e', hS, hlt, H⟩ := hR0.set (j := 0) (by simp)
  cases e'
  obtain ⟨hc, hf, hs⟩ := H w' hn'
  have hs := hs u1
  have hsz : (w'.setCell ⟨gn, 0, none⟩ u1).heap.size = w'.heap.size := by simp [World.setCell]
  have hbx : w'.heap[bo]? = some (.cells #[va, vn] 27 (0, 0)) := (hg.block bo (blk_lt h.box) (fun er => by
    obtain ⟨cur, hh⟩ := h.kint 0 bo (hk0 bo er.symm)
    exact blk_ne h.box hh (by decide) rfl)).trans h.box
  refine ⟨gn, cn, hvn, hc, hf, (h.nxt.lt gn hgn).1, hbx, (Below.heap_setCell _ _ _ bo (fun er => blk_ne h.box hhn (by decide) er)).trans hbx, ?_⟩
  have far : ∀ (q : Nat), q < w.heap.size → u0.ownBlock ≠ some q → q ≠ gn → (w'.setCell ⟨gn, 0, none⟩ u1).heap[q]? = w.heap[q]? := fun q hq h1 h2 => (Below.heap_setCell _ _ _ q h2).trans (hg.block q hq (fun er => h1 er.symm))
  have kint : ∀ j q, K j q → q ≠ gn := fun j q hk er => by
    obtain ⟨cur, hh⟩ := h.kint j q hk
    exact blk_ne hh hhn (by decide) er
  have own1 : ∀ q, u1.ownBlock = some q → q ≠ gn := fun q hq er => by
    obtain ⟨cur, hh⟩ := blk_of hown hq
    exact blk_ne hh (hn'.trans hhn) (by decide) er
  have own1k : ∀ q, u1.ownBlock = some q → ∀ j, K j q → j = 0 := fun q hq j hk => by
    rcases hat with a | a
    · exact h.rows.sep j 0 q hk (hk0 q (a.symm.trans hq))
    · rw [a] at hq
      cases hq
      have := h.rows.lt j _ hk
      omega
  have acc1 : ∀ q, va.ownBlock = some q → q < w.heap.size ∧ u0.ownBlock ≠ some q ∧ q ≠ gn ∧ u1.ownBlock ≠ some q ∧ ∀ j, ¬ K j q := fun q hq => by
    obtain ⟨cur, hh⟩ := blk_of h.acc hq
    have hlt := blk_lt hh
    have hka : ∀ j, ¬ K j q := fun j hk => by
      obtain ⟨cur', hh'⟩ := h.kint j q hk
      exact blk_ne hh hh' (by decide) rfl
    refine ⟨hlt, fun er => hka 0 (hk0 q er), fun er => blk_ne hh hhn (by decide) er, fun er => ?_, hka⟩
    rcases hat with a | a
    · exact hka 0 (hk0 q (a.symm.trans er))
    · rw [a] at er
      cases er
      omega
  refine ⟨fun q => va.ownBlock = some q, fun q => B ≤ q ∧ q < w'.heap.size ∧ va.ownBlock ≠ some q, ?_, ⟨u1 :: us, fun q => vn.ownBlock = some q, fun j q => if j = 0 then u1.ownBlock = some q else K j q, ?_, ⟨?_, fun j u r hu hr => ?_, fun j q hk => ?_, fun j q hk => ?_, fun i j q hi hj => ?_⟩, fun q hq => ?_⟩, fun q hq => ⟨⟨(h.acc.lt q hq).1, by rw [hsz]; exact Nat.lt_of_lt_of_le (h.acc.lt q hq).2 hg.size⟩, fun h2 => h2.2.2 hq⟩, fun q hq => ⟨hq.1, by rw [hsz]; exact hq.2.1⟩⟩
  · refine RowO.mono (RowO.of_owns h.acc hal) (fun q hq => ?_) (fun _ hq => hq)
    obtain ⟨a1, a2, a3, -, -⟩ := acc1 q hq
    exact far q a1 a2 a3
  · rw [hvn]
    simpa [hgn] using hs
  · have := h.rows.len
    simpa [intss] using this
  · cases j with
    | zero =>
      cases hu
      have hr2 : r = ints r0 ++ [.int .i64 z] := by
        have : r = ints (r0 ++ [z]) := by simpa [intss] using hr.symm
        rw [this, ints_snoc]
      rw [hr2]
      exact (RowO.of_owns hown (by omega)).mono (fun q hq => Below.heap_setCell _ _ _ q (own1 q hq)) (fun q hq => by simpa using hq)
    | succ j =>
      have := h.rows.row (j + 1) u r hu (by simpa [intss] using hr)
      exact this.mono (fun q hq => far q (h.rows.lt _ q hq) (fun er => by
        have := h.rows.sep _ _ _ hq (hk0 q er)
        omega) (kint _ q hq)) (fun q hq => by simpa using hq)
  · by_cases hj : j = 0
    · subst hj
      simp only [if_true] at hk
      refine ⟨(hown.lt q hk).1, (hown.lt q hk).2, fun er => (acc1 q er).2.2.2.1 hk⟩
    · simp only [hj, if_false] at hk
      exact ⟨h.rows.sub j q hk, Nat.lt_of_lt_of_le (h.rows.lt j q hk) hg.size, fun er => (acc1 q er).2.2.2.2 j hk⟩
  · rw [hsz]
    by_cases hj : j = 0
    · subst hj
      simp only [if_true] at hk
      exact (hown.lt q hk).2
    · simp only [hj, if_false] at hk
      exact Nat.lt_of_lt_of_le (h.rows.lt j q hk) hg.size
  · by_cases h1 : i = 0 <;> by_cases h2 : j = 0 <;> simp only [h1, h2, if_true, if_false] at hi hj
    · omega
    · exact absurd (own1k q hi j hj) h2
    · exact absurd (own1k q hj i hi) h1
    · exact h.rows.sep i j q hi hj
  · rw [hgn] at hq
    cases hq
    refine ⟨⟨(h.nxt.lt gn hgn).1, Nat.lt_of_lt_of_le (h.nxt.lt gn hgn).2 hg.size, fun er => (acc1 gn er).2.2.1 rfl⟩, fun j hk => ?_⟩
    by_cases hj : j = 0
    · subst hj
      simp only [if_true] at hk
      exact own1 gn hk rfl
    · simp only [hj, if_false] at hk
      exact kint j gn hk rfl
theorem Gr.dfa (h : Gr W0 w g C A n c bo va vn accs us rs K) (hl1 : accs.length ≤ 9223372036854775807) (hl2 : us.length ≤ 9223372036854775807) : DfaO w (fun q => W0.heap.size ≤ q ∧ q < w.heap.size) va vn ⟨accs, rs⟩ := h.out.whole rfl rfl hl1 hl2
/-- The automaton lies in another box. -/
theorem Gr.move (h : Gr W0 w g C A n c bo va vn accs us rs K) : Gr W0 (w.alloc (.cells #[va, vn] 27)) g C A n c w.heap.size va vn accs us rs K := by
  have h1 := h.alloc (.cells #[va, vn] 27)
  exact ⟨h1.ds, ⟨h1.out.acc, h1.out.nxt, h1.out.rows, h1.out.kint, heap_alloc_new w _, h.ds.2.2.size⟩, h1.ows⟩

/-- What the bent draw answers. -/
def BentD (g C : Nat) (A : Option Addr) (n c : Nat) (w : World) (e : Ending) (w' : World) : Prop :=
  ∃ (va vn : Value) (d : Dx), e = .returned (.agg #[va, vn]) ∧ DfaO w' (OwnB w w') va vn d ∧ d.acc.length ≤ 200 ∧ Cur w' g C A n c ∧ w.grownBy w' (some g)
theorem BentD.drew {e : Ending} (h : BentD g C A n c w e w') : BentD g C A n c w e w'.drew := by
  obtain ⟨va, vn, d, h1, h2, h3, h4, h5⟩ := h
  exact ⟨va, vn, d, h1, h2.mono (fun _ _ => rfl) (fun _ h => h) (Nat.le_refl _), h3, h4, h5.os, h5.tape, h5.output, h5.size, h5.block⟩
theorem bentd_end {x0 x1 : Value} {d : Dx} (hds : DS W0 w' g C A n c) (hw : w.grownBy W0 (some g)) (hgl : g < w.heap.size) (hz : W0.heap.size = w.heap.size + 1) (hY : W0.heap[w.heap.size]? = some (.cells #[x0, x1] 27 (0, 0)))
    (hd : DfaO w' (fun q => W0.heap.size ≤ q ∧ q < w'.heap.size) va vn d) (hl : d.acc.length ≤ 200) :
    ((∃ x, w'.cell? ⟨w.heap.size, 0, none⟩ = some x) ∧ (∃ x, w'.cell? ⟨w.heap.size, 1, none⟩ = some x) ∧ w'.frozen? ⟨w.heap.size, 0, none⟩ = false ∧ w'.frozen? ⟨w.heap.size, 1, none⟩ = false) ∧
    let W6 := (w'.setCell ⟨w.heap.size, 0, none⟩ va).setCell ⟨w.heap.size, 1, none⟩ vn
    (W6.cell? ⟨w.heap.size, 0, none⟩ = some va ∧ W6.cell? ⟨w.heap.size, 1, none⟩ = some vn) ∧ BentD g C A n c w (.returned (.agg #[va, vn])) W6 := by
  have hyb := (hds.2.2.block _ (blk_lt hY) (by simp; omega)).trans hY
  obtain ⟨c0, c1, k0, k1⟩ := box2_facts hyb
  obtain ⟨hcl, hsz, hot, hBl⟩ := put2 (k := va) (l := vn) c0 c1
  refine ⟨⟨⟨_, c0⟩, ⟨_, c1⟩, k0, k1⟩, hcl, va, vn, d, rfl, hd.mono (fun q hq => hot q (by have := hq.1; omega)) (fun q hq => ⟨by have := hq.1; omega, by rw [hsz]; exact hq.2⟩) (by rw [hsz]; exact Nat.le_refl _), hl, ?_⟩
  have h2 := ((hds.from hw hgl).set (r := w.heap.size) (o := 0) (u := va) (Nat.le_refl _)).set (r := w.heap.size) (o := 1) (u := vn) (Nat.le_refl _)
  exact ⟨h2.2.1, h2.2.2⟩

set_option maxRecDepth 100000 in
set_option maxHeartbeats 6400000 in
theorem l5Bent_any (g B : Nat) (A : Option Addr) (n c : Nat) (w : World) (hc : Cur w g B A n c) (hn : n ≤ 1048576) :
    Calls Tryd.prog 38 #[.pointer (some ⟨g, 0, none⟩)] w (BentD g B A n c w) := by
  have hgl := hc.lt
  obtain ⟨W0, hW0⟩ : ∃ W0, W0 = w.alloc (.cells #[.slice none 0 0, .slice none 0 0] 27) := ⟨_, rfl⟩
  have HWZ : Hid (W0.heap.size = w.heap.size + 1) := Lib.hid (by rw [hW0]; simp)
  have HD0 : Hid (DS W0 W0 g B A n c) := Lib.hid (by rw [hW0]; exact ⟨by simp; omega, hc.alloc _, grown_refl _ _⟩)
  have HY : Hid (W0.heap[w.heap.size]? = some (.cells #[.slice none 0 0, .slice none 0 0] 27 (0, 0))) := Lib.hid (by rw [hW0]; exact heap_alloc_new w _)
  have HGw : Hid (w.grownBy W0 (some g)) := Lib.hid (by rw [hW0]; exact World.grownBy_alloc w _ _)
  have HC := Lib.hid (show Calls Tryd.prog 39 #[.pointer (some ⟨g, 0, none⟩), .int .i64 5] W0 (DrawnD 5 g B A n c W0) from l5Draw_any 5 (by omega) (by omega) g B A n c W0 HD0.out.2.1 hn)
  have HC1 := Lib.hid (fun V (h : Cur V g B A n c) => (show Calls Tryd.prog 64 #[.pointer (some ⟨g, 0, none⟩), .int .i64 12] V (BelowPost 12 g B A n c V) from l1Below_small g B A n c 12 V h hn (by omega) (by omega)))
  obtain ⟨b0, hbi, hb0, hb1, hb2⟩ := info_parts boolInfo
  obtain ⟨i0, hi, hz0, hz1, hz2⟩ := info_parts intInfo
  clear hc
  go_enter Tryd.func38, Tryd.ntmps38
  go_wp2_with fail
  rw [← hW0]
  clear hW0
  go_at_call 39
  refine HC.out.mono ?_
  rintro e w1 ⟨va, vn, bo, accs, us, rs, K, rfl, hG, hl1, hl2, hul, hrl, hr3⟩
  have HG1 := Lib.hid hG.move
  obtain ⟨Aa, qa, hva⟩ := (RowO.of_owns hG.out.acc (by omega)).row.shape
  rw [bools_length] at hva
  obtain ⟨u0, us, rfl⟩ : ∃ u0 us', us = u0 :: us' := by
    cases us with
    | nil => simp at hul; omega
    | cons a b => exact ⟨a, b, rfl⟩
  obtain ⟨r0, rs, rfl⟩ : ∃ r0 rs', rs = r0 :: rs' := by
    cases rs with
    | nil => simp at hrl; omega
    | cons a b => exact ⟨a, b, rfl⟩
  obtain ⟨gn, cn, hvn⟩ := own_succ hG.out.nxt
  subst hva
  subst hvn
  have hr0 : r0.length = 3 := hr3 r0 (by simp)
  have HR0 := Lib.hid hr0
  have hull : us.length + 1 ≤ 5 := by simp at hul; omega
  clear hG hr3 hr0 hul hrl
  go_wp2_with fail
  go_at_call 64
  refine (HC1.out _ HG1.out.ds.2.1).mono ?_
  rintro e w3 ⟨y, rfl, hy, hc3, hg3⟩
  have HG := Lib.hid (HG1.out.call hc3 hg3)
  clear hc3 hg3
  by_cases h0 : y = 0
  · subst h0
    obtain ⟨g0, c0, hu0, ⟨z0, z1⟩, z2, hBg, hpk⟩ := HG.out.out.poke (by rw [HR0.out]; omega)
    rw [HR0.out] at hu0
    subst hu0
    obtain ⟨e0, e1, -, -⟩ := box2_facts HG.out.out.box
    obtain ⟨adn, hadn, -, n0⟩ := (RowO.of_owns HG.out.out.nxt (by simp; omega)).row.at (j := 0) (by simp)
    cases hadn
    have n1 : w3.cell? ⟨gn, 0, none⟩ = some (.slice (some ⟨g0, 0, none⟩) 3 c0) := n0
    clear n0
    have HP := Lib.hid (hpk (accs.length : Int))
    have HDs := Lib.hid (HG.out.ds.set (r := g0) (o := 0) (u := .int .i64 (accs.length : Int)) hBg)
    have HF := Lib.hid (bentd_end HDs.out HGw.out hgl HWZ.out HY.out (HP.out.whole (d := ⟨accs, r0.set 0 (accs.length : Int) :: rs⟩) rfl rfl (by omega) (by simp; omega)) (by show accs.length ≤ 200; omega))
    obtain ⟨p0, p1, -, -⟩ := box2_facts HP.out.box
    obtain ⟨⟨⟨x0, k0⟩, ⟨x1, k1⟩, k2, k3⟩, -⟩ := HF.out
    have s1 : (0 : Int) < (us.length : Int) + 1 := by omega
    clear hpk
    go_wp2_with fail
    go_region
    all_goals
      go_wp2_with fail
      obtain ⟨-, ⟨hc0, hc1⟩, hP⟩ := HF.out
      exact bodyPost_ret (v := .agg #[.slice Aa accs.length qa, .slice (some ⟨gn, 0, none⟩) (us.length + 1) cn]) (by simp [results, Tryd.results38, go_sem, hc0, hc1]) rfl hP.drew
  by_cases h1 : y = 1
  · subst h1
    obtain ⟨e0, -, e2, -⟩ := box2_facts HG.out.out.box
    have hz3 : W0.heap.size ≤ w3.heap.size := HG.out.ds.2.2.size
    go_wp2_with (at_builtin; refine wpList_append_own_at _ rfl (.tmp 21) (.tmp 22) 24 rfl W0.heap.size 4 b0 (.bool false) 1 1 Tryd.underlying24 hbi hb0 hb1 hb2 rfl (by decide) _ _ _ rfl (HG.out.out.acc.alloc _) ⟨w3.heap.size, 0, none⟩ 1 1 [.bool true] rfl rfl (cell_one_new _ _ _) (by simp [Value.oneCell']) (by unfold maxLen; omega) (by omega) (by simp; omega) ?_)
    intro v' w9 hown' hgrow hnil hat
    obtain ⟨g', cap', rfl⟩ := own_succ hown'
    obtain ⟨⟨z0, z1⟩, z2, HQ9⟩ := (HG.out.alloc (.cells #[.bool true] 4)).acc_push hown' hgrow
    have HF := Lib.hid (bentd_end HQ9.ds HGw.out hgl HWZ.out HY.out (HQ9.dfa (by simp; omega) (by simp; omega)) (by simp; omega))
    obtain ⟨p0, p1, -, -⟩ := box2_facts HQ9.out.box
    obtain ⟨⟨⟨x0, k0⟩, ⟨x1, k1⟩, k2, k3⟩, -⟩ := HF.out
    clear hown' hgrow hnil hat HQ9
    go_wp2_with fail
    obtain ⟨-, ⟨hc0, hc1⟩, hP⟩ := HF.out
    exact bodyPost_ret (v := .agg #[.slice (some ⟨g', 0, none⟩) (accs.length + 1) cap', .slice (some ⟨gn, 0, none⟩) (us.length + 1) cn]) (by simp [results, Tryd.results38, go_sem, hc0, hc1]) rfl hP
  by_cases h2 : y = 2
  · subst h2
    obtain ⟨e0, e1, -, -⟩ := box2_facts HG.out.out.box
    obtain ⟨adn, hadn, -, n0⟩ := (RowO.of_owns HG.out.out.nxt (by simp; omega)).row.at (j := 0) (by simp)
    cases hadn
    have n1 : w3.cell? ⟨gn, 0, none⟩ = some u0 := n0
    clear n0
    obtain ⟨hir, hk0⟩ := HG.out.ows 0 u0 r0 rfl rfl
    obtain ⟨-, A0, c0, rfl⟩ := (hir.row (by rw [HR0.out]; omega)).row.ints_shape
    rw [HR0.out] at n1
    have n2 := (((Below.refl w3.heap.size w3).alloc (Nat.le_refl _) (.cells #[.int .i64 0] 3)).cell (cell_in n1)).trans n1
    obtain ⟨y0, y1, -, -⟩ := box2_facts (HG.out.alloc (.cells #[.int .i64 0] 3)).out.box
    have HGa := Lib.hid ((HG.out.alloc (.cells #[.int .i64 0] 3)).drew)
    have hira := (HGa.out.ows 0 _ r0 rfl rfl).1
    unfold IR at hira
    rw [HR0.out] at hira
    have HIR := Lib.hid hira
    have HK0 := Lib.hid hk0
    have s1 : (0 : Int) < (us.length : Int) + 1 := by omega
    have hz3 : W0.heap.size ≤ w3.heap.size := HG.out.ds.2.2.size
    have HRG := Lib.hid (fun (V : World) (v' : Value) (ho : V.ownsRow W0.heap.size 3 1 v' (3 + 1) (ints r0 ++ [.int .i64 0])) (hg : ((w3.alloc (.cells #[.int .i64 0] 3)).drew).grownBy V (Value.slice A0 3 c0).ownBlock) (hat : v'.ownBlock = (Value.slice A0 3 c0).ownBlock ∨ v'.ownBlock = some ((w3.alloc (.cells #[.int .i64 0] 3)).drew).heap.size) => HGa.out.out.regrow (u1 := v') (z := 0) (by omega) (by rw [HR0.out]; omega) (by omega) HK0.out (by rw [HR0.out]; exact ho) (by rw [HR0.out]; exact hg) (by rw [HR0.out]; exact hat))
    have HDA := Lib.hid (fun (V : World) (v' : Value) (gx : Nat) (hx : W0.heap.size ≤ gx) (hg : ((w3.alloc (.cells #[.int .i64 0] 3)).drew).grownBy V (Value.slice A0 3 c0).ownBlock) => ((HGa.out.ds.app hg (fun q e => (HIR.out.lt q e).1)).set (r := gx) (o := 0) (u := v') hx))
    clear hir hira hk0
    go_wp2_with fail
    go_region_law (refine step_append_own_at rfl (.tmp 32) (.tmp 33) 52 rfl W0.heap.size 3 i0 (.int .i64 0) 1 8 Tryd.underlying52 hi hz0 hz1 hz2 rfl (by decide) _ _ _ rfl HIR.out ⟨w3.heap.size, 0, none⟩ 1 1 [.int .i64 0] rfl rfl (cell_one_new w3 _ _) (by simp [Value.oneCell']) (by unfold maxLen; omega) (by omega) (by simp; omega) ?_; intro v' w9 hown' hgrow hat; obtain ⟨g', cap', rfl⟩ := own_succ hown'; obtain ⟨gn', cn', e', ⟨z0, z1⟩, z2, hgn, hbx0, hbx, hD⟩ := HRG.out _ _ hown' hgrow hat; cases e'; have HF := Lib.hid (bentd_end (HDA.out _ (.slice (some ⟨g', 0, none⟩) (3 + 1) cap') _ hgn hgrow) HGw.out hgl HWZ.out HY.out hD (by show accs.length ≤ 200; omega)); obtain ⟨p0, p1, -, -⟩ := box2_facts hbx; obtain ⟨t0, t1, -, -⟩ := box2_facts hbx0; clear hbx0; obtain ⟨⟨⟨x0, k0⟩, ⟨x1, k1⟩, k2, k3⟩, -⟩ := HF.out; clear hD hbx hown' hgrow hat)
    all_goals
      go_wp2_with fail
      obtain ⟨-, ⟨hc0, hc1⟩, hP⟩ := HF.out
      exact bodyPost_ret (v := .agg #[.slice Aa accs.length qa, .slice (some ⟨gn, 0, none⟩) (us.length + 1) cn]) (by simp [results, Tryd.results38, go_sem, hc0, hc1]) rfl hP
  · have HF := Lib.hid (bentd_end HG.out.ds HGw.out hgl HWZ.out HY.out (HG.out.dfa (by omega) (by simp; omega)) (by show accs.length ≤ 200; omega))
    obtain ⟨p0, p1, -, -⟩ := box2_facts HG.out.out.box
    obtain ⟨⟨⟨x0, k0⟩, ⟨x1, k1⟩, k2, k3⟩, -⟩ := HF.out
    have d0 : ((y : Int) == 0) = false := by simp; omega
    have d1 : ((y : Int) == 1) = false := by simp; omega
    have d2 : ((y : Int) == 2) = false := by simp; omega
    go_wp2_with fail
    obtain ⟨-, ⟨hc0, hc1⟩, hP⟩ := HF.out
    exact bodyPost_ret (v := .agg #[.slice Aa accs.length qa, .slice (some ⟨gn, 0, none⟩) (us.length + 1) cn]) (by simp [results, Tryd.results38, go_sem, hc0, hc1]) rfl hP
end Go.Proofs.YtlkhmpdncimnfaaDoor

/-
  What the model's picks of a number answer: an element of the list; the cursor's block alone has turned.
-/
namespace Go.Proofs.YtlkhmpdncimnfaaDoor
open Go.RowKit

def l1PickIntPost (ps : List Int) (g B : Nat) (A : Option Addr) (n c : Nat) (w : World) (e : Ending) (w' : World) : Prop :=
  ∃ p ∈ ps, e = .returned (.int .i64 p) ∧ Cur w' g B A n c ∧ w.grownBy w' (some g)

set_option maxRecDepth 100000 in
set_option maxHeartbeats 800000 in
theorem l1PickInt_any (g B gl : Nat) (A : Option Addr) (n c m : Nat) (ps : List Int) (w : World) (hc : Cur w g B A n c) (hn : n ≤ 1048576) (h1 : 1 ≤ m) (h2 : m ≤ 256) (hm : ps.length = m) (hne : gl ≠ g)
    (hl : w.heap[gl]? = some (.cells (ps.map fun p => .int .i64 p).toArray 3 (0, 0))) :
    Calls Tryd.prog 56 #[.pointer (some ⟨g, 0, none⟩), .slice (some ⟨gl, 0, none⟩) m m] w (l1PickIntPost ps g B A n c w) := by
  have HC := Lib.hid (l1Below_small g B A n c m w hc hn h1 h2)
  have HL := Lib.hid hl
  have HM := Lib.hid hm
  clear hc hl hm
  go_enter Tryd.func56, Tryd.ntmps56
  go_wp2_with (go_at_call 64; refine HC.out.mono ?_; rintro e w1 ⟨x, rfl, hx, hcur, hgr⟩; obtain ⟨p, hp⟩ : ∃ p, ps[x]? = some p := ⟨_, List.getElem?_eq_getElem (by rw [HM.out]; exact hx)⟩; have hcell : w1.cell? ⟨gl, x, none⟩ = some (.int .i64 p) := pick_cell hgr hne HL.out (by rw [List.getElem?_map, hp]; rfl); have HP := Lib.hid hp; clear hp)
  go_ret
  exact ⟨p, List.mem_of_getElem? HP.out, rfl, hcur, hgr⟩

end Go.Proofs.YtlkhmpdncimnfaaDoor

/-
  Automata that can be read, as a law's draws answer them; two drawn automata and a kind; nothing old has turned.
-/
namespace Go.Proofs.YtlkhmpdncimnfaaDoor
open Go.RowKit

def AnyB (_ : Nat) : Prop := True
def AnyD (w : World) (e : Ending) (w' : World) : Prop := ∃ va vn d, e = .returned (.agg #[va, vn]) ∧ DfaV w' AnyB va vn d ∧ Below w.heap.size w w'
def AnyR (w : World) (e : Ending) (w' : World) : Prop := ∃ va vn d z p, e = .returned (.tuple #[.agg #[va, vn], .int .i64 z, .string p]) ∧ DfaV w' AnyB va vn d ∧ p.size ≤ 31 ∧ Below w.heap.size w w'
def AnyP (w : World) (e : Ending) (w' : World) : Prop := ∃ va vn d vb vm d' z, e = .returned (.tuple #[.agg #[va, vn], .agg #[vb, vm], .int .i64 z]) ∧ DfaV w' AnyB va vn d ∧ DfaV w' AnyB vb vm d' ∧ Below w.heap.size w w'

/-- Blocks that lie behind w. -/
def FromB (w : World) (q : Nat) : Prop := w.heap.size ≤ q
def AnyF (w : World) (e : Ending) (w' : World) : Prop := ∃ va vn d vb vm d' z, e = .returned (.tuple #[.agg #[va, vn], .agg #[vb, vm], .int .i64 z]) ∧ DfaV w' (FromB w) va vn d ∧ DfaV w' (FromB w) vb vm d' ∧ Below w.heap.size w w'

variable {w w' W0 : World} {g C : Nat} {A : Option Addr} {n c : Nat} {va vn : Value} {d : Dx}
/-- Over what turns the cursor's block alone. -/
theorem dfa_call {S : Nat → Prop} (h : DfaV w S va vn d) (hS : ∀ q, S q → q < w.heap.size ∧ q ≠ g) (hg : w.grownBy w' (some g)) : DfaV w' S va vn d :=
  h.mono (fun q hq => hg.block q (hS q hq).1 (fun e => by cases e; exact (hS g hq).2 rfl)) (fun _ h => h)
theorem dfa_off {S : Nat → Prop} (h : DfaV w S va vn d) {r o : Nat} {u : Value} (hS : ∀ q, S q → q ≠ r) : DfaV (w.setCell ⟨r, o, none⟩ u) S va vn d :=
  h.mono (fun q hq => Below.heap_setCell _ _ _ q (hS q hq)) (fun _ h => h)
/-- A result's box, and its end. -/
theorem one_end {x0 x1 : Value} {S : Nat → Prop} (hb : Below W0.heap.size W0 w') (hw : W0 = w.alloc (.cells #[x0, x1] 27)) (hd : DfaV w' S va vn d) (hS : ∀ q, S q → q ≠ w.heap.size) :
    ((∃ x, w'.cell? ⟨w.heap.size, 0, none⟩ = some x) ∧ (∃ x, w'.cell? ⟨w.heap.size, 1, none⟩ = some x) ∧ w'.frozen? ⟨w.heap.size, 0, none⟩ = false ∧ w'.frozen? ⟨w.heap.size, 1, none⟩ = false) ∧
    let W6 := (w'.setCell ⟨w.heap.size, 0, none⟩ va).setCell ⟨w.heap.size, 1, none⟩ vn
    (W6.cell? ⟨w.heap.size, 0, none⟩ = some va ∧ W6.cell? ⟨w.heap.size, 1, none⟩ = some vn) ∧ DfaV W6 AnyB va vn d ∧ Below w.heap.size w W6 := by
  have hyb : w'.heap[w.heap.size]? = some (.cells #[x0, x1] 27 (0, 0)) := (hb.block _ (by rw [hw]; simp)).trans (by rw [hw]; exact heap_alloc_new w _)
  obtain ⟨c0, c1, k0, k1⟩ := box2_facts hyb
  obtain ⟨hcl, hsz, hot, hBl⟩ := put2 (k := va) (l := vn) c0 c1
  have hb0 : Below w.heap.size w w' := by
    have h1 : Below w.heap.size w W0 := by rw [hw]; exact (Below.refl _ _).alloc (Nat.le_refl _) _
    exact h1.trans (hb.mono h1.size)
  exact ⟨⟨⟨_, c0⟩, ⟨_, c1⟩, k0, k1⟩, hcl, hd.mono (fun q hq => hot q (hS q hq)) (fun _ _ => trivial), hBl _ _ hb0 (Nat.le_refl _)⟩

theorem enters_pickInt : ∀ args w, (callFunc 56 args).run Tryd.prog w = .ok (.enter 56 args) w := enters_of Tryd.func56 (by kernel_rfl) rfl
theorem two_end {S S' : Nat → Prop} {vb vm : Value} {d' : Dx} (hb : Below W0.heap.size W0 w') (hw : W0 = (w.alloc (.cells #[.slice none 0 0, .slice none 0 0] 27)).alloc (.cells #[.slice none 0 0, .slice none 0 0] 27)) (hd : DfaV w' S va vn d) (hS : ∀ q, S q → W0.heap.size ≤ q) (hd' : DfaV w' S' vb vm d') (hS' : ∀ q, S' q → W0.heap.size ≤ q) :
    ((∃ x, w'.cell? ⟨w.heap.size, 0, none⟩ = some x) ∧ (∃ x, w'.cell? ⟨w.heap.size, 1, none⟩ = some x) ∧ w'.frozen? ⟨w.heap.size, 0, none⟩ = false ∧ w'.frozen? ⟨w.heap.size, 1, none⟩ = false) ∧
    ((∃ x, w'.cell? ⟨w.heap.size + 1, 0, none⟩ = some x) ∧ (∃ x, w'.cell? ⟨w.heap.size + 1, 1, none⟩ = some x) ∧ w'.frozen? ⟨w.heap.size + 1, 0, none⟩ = false ∧ w'.frozen? ⟨w.heap.size + 1, 1, none⟩ = false) ∧
    let W6 := (((w'.setCell ⟨w.heap.size, 0, none⟩ va).setCell ⟨w.heap.size, 1, none⟩ vn).setCell ⟨w.heap.size + 1, 0, none⟩ vb).setCell ⟨w.heap.size + 1, 1, none⟩ vm
    (W6.cell? ⟨w.heap.size, 0, none⟩ = some va ∧ W6.cell? ⟨w.heap.size, 1, none⟩ = some vn) ∧ (W6.cell? ⟨w.heap.size + 1, 0, none⟩ = some vb ∧ W6.cell? ⟨w.heap.size + 1, 1, none⟩ = some vm) ∧ DfaV W6 (FromB w) va vn d ∧ DfaV W6 (FromB w) vb vm d' ∧ Below w.heap.size w W6 := by
  have hz0 : W0.heap.size = w.heap.size + 2 := by rw [hw]; simp
  have hy0 : W0.heap[w.heap.size]? = some (.cells #[.slice none 0 0, .slice none 0 0] 27 (0, 0)) := by
    rw [hw]
    exact (Below.heap_alloc _ _ _ (by simp)).trans (heap_alloc_new w _)
  have hy1 : W0.heap[w.heap.size + 1]? = some (.cells #[.slice none 0 0, .slice none 0 0] 27 (0, 0)) := by
    rw [hw]
    exact three2 w _ _ _ _
  have hx0 := (hb.block _ (by omega)).trans hy0
  have hx1 := (hb.block _ (by omega)).trans hy1
  obtain ⟨c0, c1, k0, k1⟩ := box2_facts hx0
  obtain ⟨c2, c3, k2, k3⟩ := box2_facts hx1
  obtain ⟨hcl, hsz, hot, hBl⟩ := put2 (k := va) (l := vn) c0 c1
  have c4 := (World.cell?_of_block (a := ⟨w.heap.size + 1, 0, none⟩) (hot (w.heap.size + 1) (by omega))).trans c2
  have c5 := (World.cell?_of_block (a := ⟨w.heap.size + 1, 1, none⟩) (hot (w.heap.size + 1) (by omega))).trans c3
  obtain ⟨hcl2, hsz2, hot2, hBl2⟩ := put2 (k := vb) (l := vm) c4 c5
  have hb0 : Below w.heap.size w w' := by
    have h1 : Below w.heap.size w W0 := by rw [hw]; exact ((Below.refl _ _).alloc (Nat.le_refl _) _).alloc (by simp) _
    exact h1.trans (hb.mono h1.size)
  refine ⟨⟨⟨_, c0⟩, ⟨_, c1⟩, k0, k1⟩, ⟨⟨_, c2⟩, ⟨_, c3⟩, k2, k3⟩, ⟨?_, ?_⟩, hcl2, hd.mono (fun q hq => (hot2 q (by have := hS q hq; omega)).trans (hot q (by have := hS q hq; omega))) (fun q hq => by have := hS q hq; show w.heap.size ≤ q; omega), hd'.mono (fun q hq => (hot2 q (by have := hS' q hq; omega)).trans (hot q (by have := hS' q hq; omega))) (fun q hq => by have := hS' q hq; show w.heap.size ≤ q; omega), hBl2 _ _ (hBl _ _ hb0 (Nat.le_refl _)) (by omega)⟩
  · exact (World.cell?_of_block (a := ⟨w.heap.size, 0, none⟩) (hot2 w.heap.size (by omega))).trans hcl.1
  · exact (World.cell?_of_block (a := ⟨w.heap.size, 1, none⟩) (hot2 w.heap.size (by omega))).trans hcl.2

def kinds : List Int := [6, 7, 6, 7, 9]

set_option maxRecDepth 100000 in
set_option maxHeartbeats 6400000 in
theorem drawProF_any (A : Option Addr) (n c : Nat) (w : World) (h : BL w w.heap.size A n) (hn : n ≤ 1048576) :
    Calls Tryd.prog 21 #[.slice A n c] w (AnyF w) := by
  obtain ⟨W0, hW0⟩ : ∃ W0, W0 = (w.alloc (.cells #[.slice none 0 0, .slice none 0 0] 27)).alloc (.cells #[.slice none 0 0, .slice none 0 0] 27) := ⟨_, rfl⟩
  have hb0 : Below w.heap.size w W0 := by rw [hW0]; exact ((Below.refl w.heap.size w).alloc (Nat.le_refl _) _).alloc (by simp) _
  have HN := Lib.hid (l1New_any A n c W0 ((h.below hb0).more hb0.size) hn)
  have HW0 := Lib.hid hW0
  clear h hb0
  go_enter Tryd.func21, Tryd.ntmps21
  go_wp2_with fail
  rw [← hW0]
  clear hW0
  go_at_call 36
  refine HN.out.mono ?_
  rintro e w1 ⟨g, rfl, hc1, hb1⟩
  have HC1 := Lib.hid hc1
  have HB1 := Lib.hid hb1
  have HDr := Lib.hid (fun V (h : Cur V g W0.heap.size A n c) => (show Calls Tryd.prog 39 #[.pointer (some ⟨g, 0, none⟩), .int .i64 4] V (DrawnD 4 g W0.heap.size A n c V) from l5Draw_any 4 (by omega) (by omega) g W0.heap.size A n c V h hn))
  have HOn := Lib.hid (fun V (h : Cur V g W0.heap.size A n c) => (show Calls Tryd.prog 37 #[.pointer (some ⟨g, 0, none⟩), .int .i64 12] V (OnceM g W0.heap.size A n c V) from l1Once_m g W0.heap.size A n c 12 V h hn (by omega) (by omega)))
  clear hc1 hb1
  go_wp2_with fail
  go_at_call 39
  refine (HDr.out _ HC1.out).mono ?_
  rintro e w2 ⟨va, vn, bo, accs, us, rs, K, rfl, hG, hl1, hl2, hul, hrl, -⟩
  have hd2 := (hG.dfa (by omega) (by omega)).dfa
  obtain ⟨d, hde⟩ : ∃ d : Dx, d = ⟨accs, rs⟩ := ⟨_, rfl⟩
  rw [← hde] at hd2
  obtain ⟨⟨Aa, qa, rfl⟩, An, qn, rfl⟩ := hd2.shape
  have HC2 := Lib.hid hG.ds.2.1
  have HG2 := Lib.hid hG.ds.2.2
  have hg1 : g < w1.heap.size := HC1.out.lt
  have HBX := Lib.hid (heap_alloc_new w2 (.cells #[.slice Aa d.acc.length qa, .slice An d.nxt.length qn] 27))
  have HGb := Lib.hid (World.grownBy_alloc w2 (.cells #[.slice Aa d.acc.length qa, .slice An d.nxt.length qn] 27) (some g))
  have HD2 := Lib.hid hd2
  have HCb := Lib.hid (HC2.out.alloc (.cells #[.slice Aa d.acc.length qa, .slice An d.nxt.length qn] 27))
  clear hG hl1 hl2 hul hrl hd2 hde
  go_wp2_with fail
  obtain ⟨w3, hw3⟩ : ∃ w3, w3 = w2.alloc (.cells #[.slice Aa d.acc.length qa, .slice An d.nxt.length qn] 27) := ⟨_, rfl⟩
  rw [← hw3] at HBX HGb HCb ⊢
  have HZ3 := Lib.hid hw3
  clear hw3
  go_at_call 39
  refine (HDr.out _ HCb.out).mono ?_
  rintro e w4 ⟨vb, vm, bo', accs', us', rs', K', rfl, hG, hl1, hl2, hul, hrl, -⟩
  have hd4 := (hG.dfa (by omega) (by omega)).dfa
  obtain ⟨d', hde⟩ : ∃ d' : Dx, d' = ⟨accs', rs'⟩ := ⟨_, rfl⟩
  rw [← hde] at hd4
  obtain ⟨⟨Ba, pa, rfl⟩, Bn, pn, rfl⟩ := hd4.shape
  have HC4 := Lib.hid hG.ds.2.1
  have HG4 := Lib.hid hG.ds.2.2
  have HBY := Lib.hid (heap_alloc_new w4 (.cells #[.slice Ba d'.acc.length pa, .slice Bn d'.nxt.length pn] 27))
  have HGc := Lib.hid (World.grownBy_alloc w4 (.cells #[.slice Ba d'.acc.length pa, .slice Bn d'.nxt.length pn] 27) (some g))
  have HD4 := Lib.hid hd4
  have HCc := Lib.hid (HC4.out.alloc (.cells #[.slice Ba d'.acc.length pa, .slice Bn d'.nxt.length pn] 27))
  clear hG hl1 hl2 hul hrl hd4 hde
  go_wp2_with fail
  obtain ⟨w5, hw5⟩ : ∃ w5, w5 = w4.alloc (.cells #[.slice Ba d'.acc.length pa, .slice Bn d'.nxt.length pn] 27) := ⟨_, rfl⟩
  rw [← hw5] at HBY HGc HCc ⊢
  have HZ5 := Lib.hid hw5
  clear hw5
  go_at_call 37
  refine (HOn.out _ HCc.out).mono ?_
  rintro e w6 ⟨b, rfl, hc6, hg6⟩
  have HC6 := Lib.hid hc6
  have HG6 := Lib.hid hg6
  clear hc6 hg6
  have hz3 : w2.heap.size + 1 = w3.heap.size := by rw [HZ3.out]; simp
  have hz5 : w4.heap.size + 1 = w5.heap.size := by rw [HZ5.out]; simp
  have hz12 := HG2.out.size
  have hz34 := HG4.out.size
  have hz56 := HG6.out.size
  have hz01 := HB1.out.size
  have G36 := Lib.hid (grown_comp (grown_comp HG4.out HGc.out) HG6.out)
  have G56 := Lib.hid (grown_comp HGc.out HG6.out)
  have HXa6 := Lib.hid ((G36.out.block _ (blk_lt HBX.out) (by simp; omega)).trans HBX.out)
  have HXb6 := Lib.hid ((HG6.out.block _ (blk_lt HBY.out) (by have := HC4.out.lt; simp; omega)).trans HBY.out)
  have HDa6 := Lib.hid (dfa_call HD2.out (fun q hq => ⟨hq.2, by have := hq.1; omega⟩) (grown_comp HGb.out G36.out))
  have HDb6 := Lib.hid (dfa_call HD4.out (fun q hq => ⟨hq.2, by have := hq.1; omega⟩) G56.out)
  have HB6 := Lib.hid ((HB1.out.grown (grown_comp HG2.out (grown_comp HGb.out G36.out)) HB1.out.size (fun q e => by cases e; exact HC1.out.1)))
  cases b with
  | false =>
    obtain ⟨w8, hw8⟩ : ∃ w8, w8 = w6 := ⟨_, rfl⟩
    obtain ⟨dd, hdd⟩ : ∃ dd, dd = d' := ⟨_, rfl⟩
    obtain ⟨Ca, hCa⟩ : ∃ Ca, Ca = Ba := ⟨_, rfl⟩
    obtain ⟨Cn, hCn⟩ : ∃ Cn, Cn = Bn := ⟨_, rfl⟩
    obtain ⟨sa, hsa⟩ : ∃ sa, sa = pa := ⟨_, rfl⟩
    obtain ⟨sn, hsn⟩ : ∃ sn, sn = pn := ⟨_, rfl⟩
    have HXa := Lib.hid HXa6.out
    have HXb := Lib.hid HXb6.out
    have HDa := Lib.hid HDa6.out
    have HDb := Lib.hid HDb6.out
    have HC8 := Lib.hid HC6.out
    have HB8 := Lib.hid HB6.out
    have HSa : Hid (∀ q, (fun q => w1.heap.size ≤ q ∧ q < w2.heap.size) q → W0.heap.size ≤ q ∧ q < w6.heap.size ∧ q ≠ g) := Lib.hid (fun q hq => by
      have h1 : w1.heap.size ≤ q := hq.1
      have h2 : q < w2.heap.size := hq.2
      omega)
    have HSb : Hid (∀ q, (fun q => w3.heap.size ≤ q ∧ q < w4.heap.size) q → W0.heap.size ≤ q ∧ q < w6.heap.size ∧ q ≠ g) := Lib.hid (fun q hq => by
      have h1 : w3.heap.size ≤ q := hq.1
      have h2 : q < w4.heap.size := hq.2
      omega)
    rw [← hdd, ← hCa, ← hCn, ← hsa, ← hsn] at HXb HDb
    rw [← hw8] at HXa HXb HDa HDb HC8 HB8 HSa HSb ⊢
    clear HXa6 HXb6 HDa6 HDb6 HC6 HB6 HG6 G36 G56 hz56
    clear hw8 hdd hCa hCn hsa hsn
    have HLit := Lib.hid (World.grownBy_alloc w8 (.cells #[.int .i64 6, .int .i64 7, .int .i64 6, .int .i64 7, .int .i64 9] 3) (some g))
    have HLd : Hid (w8.grownBy (w8.alloc (.cells #[.int .i64 6, .int .i64 7, .int .i64 6, .int .i64 7, .int .i64 9] 3)).drew (some g)) := Lib.hid ⟨HLit.out.os, HLit.out.tape, HLit.out.output, HLit.out.size, HLit.out.block⟩
    have hg8 : g < w8.heap.size := HC8.out.lt
    have HPk := Lib.hid (l1PickInt_any g W0.heap.size w8.heap.size A n c 5 kinds (w8.alloc (.cells #[.int .i64 6, .int .i64 7, .int .i64 6, .int .i64 7, .int .i64 9] 3)).drew (HC8.out.alloc _) hn (by omega) (by omega) rfl (by omega) (heap_alloc_new w8 _))
    have HAfter := Lib.hid (fun (V : World) (hV : w8.grownBy V (some g)) => two_end (d := d) (va := .slice Aa d.acc.length qa) (vn := .slice An d.nxt.length qn) (d' := dd) (vb := .slice Ca dd.acc.length sa) (vm := .slice Cn dd.nxt.length sn) (w' := V) (HB8.out.grown hV HB8.out.size (fun q e => by cases e; exact HC1.out.1)) HW0.out (dfa_call HDa.out (fun q hq => (HSa.out q hq).2) hV) (fun q hq => (HSa.out q hq).1) (dfa_call HDb.out (fun q hq => (HSb.out q hq).2) hV) (fun q hq => (HSb.out q hq).1))
    have HBoxA := Lib.hid (fun (V : World) (hV : w8.grownBy V (some g)) => box2_facts ((hV.block _ (blk_lt HXa.out) (by simp; omega)).trans HXa.out))
    have HBoxB := Lib.hid (fun (V : World) (hV : w8.grownBy V (some g)) => box2_facts ((hV.block _ (blk_lt HXb.out) (by simp; omega)).trans HXb.out))
    obtain ⟨e0, e1, -, -⟩ := HBoxA.out w8 (grown_refl _ _)
    obtain ⟨e2, e3, -, -⟩ := HBoxB.out w8 (grown_refl _ _)
    obtain ⟨f0, f1, -, -⟩ := HBoxA.out _ HLit.out
    obtain ⟨f2, f3, -, -⟩ := HBoxB.out _ HLit.out
    obtain ⟨hs2, hs4⟩ : w.heap.size + 1 < w2.heap.size ∧ w.heap.size + 1 < w4.heap.size := by
      have hz0 : W0.heap.size = w.heap.size + 2 := by rw [HW0.out]; simp
      omega
    have n1 : w.heap.size ≠ w2.heap.size := by omega
    have n2 : w.heap.size ≠ w4.heap.size := by omega
    have n3 : w.heap.size + 1 ≠ w2.heap.size := by omega
    have n4 : w.heap.size + 1 ≠ w4.heap.size := by omega
    have n5 := n1.symm
    have n6 := n2.symm
    have n7 := n3.symm
    have n8 := n4.symm
    clear hs2 hs4
    go_wp2_with fail
    go_region_law (refine step_call rfl _ _ _ rfl enters_pickInt #[.pointer (some ⟨g, 0, none⟩), .slice (some ⟨w8.heap.size, 0, none⟩) 5 5] (by simp [Act.eval]) HPk.out ?_; rintro e w9 ⟨z, hz, rfl, hc9, hg9⟩; have HF := Lib.hid (HAfter.out w9 (grown_comp HLd.out hg9)); obtain ⟨t0, t1, -, -⟩ := HBoxA.out w9 (grown_comp HLd.out hg9); obtain ⟨t2, t3, -, -⟩ := HBoxB.out w9 (grown_comp HLd.out hg9); obtain ⟨⟨⟨x0, k0⟩, ⟨x1, k1⟩, k2, k3⟩, ⟨⟨x4, k4⟩, ⟨x5, k5⟩, k6, k7⟩, -⟩ := HF.out; clear hc9 hg9; refine ⟨_, rfl, ?_⟩)
    all_goals
      go_wp2_with fail
      obtain ⟨-, -, ⟨hc0, hc1⟩, ⟨hc2, hc3⟩, hd, hd', hb⟩ := HF.out
      refine bodyPost_ret (v := .tuple #[.agg #[.slice Aa d.acc.length qa, .slice An d.nxt.length qn], .agg #[.slice Ca dd.acc.length sa, .slice Cn dd.nxt.length sn], .int .i64 z]) (by simp [results, Tryd.results21, go_sem, hc0, hc1, hc2, hc3]) rfl ?_
      first
        | exact ⟨_, _, _, _, _, _, _, rfl, hd, hd', hb⟩
        | exact ⟨_, _, _, _, _, _, _, rfl, hd.mono (fun _ _ => rfl) (fun _ h => h), hd'.mono (fun _ _ => rfl) (fun _ h => h), hb.drew⟩
  | true =>
    go_wp2_with fail
    go_at_call 38
    refine (l5Bent_any g _ A n c w6 HC6.out hn).mono ?_
    rintro e w7 ⟨vb, vm, dd, rfl, hdd, hldd, hc7, hg7⟩
    obtain ⟨⟨Ca, sa, rfl⟩, Cn, sn, rfl⟩ := hdd.dfa.shape
    have hz67 := hg7.size
    have HXa7 := Lib.hid ((hg7.block _ (blk_lt HXa6.out) (by simp; omega)).trans HXa6.out)
    have hXb7 := (hg7.block _ (blk_lt HXb6.out) (by have := HC4.out.lt; simp; omega)).trans HXb6.out
    obtain ⟨y0, y1, y2, y3⟩ := box2_facts hXb7
    have HDa7 := Lib.hid (dfa_call HDa6.out (fun q hq => ⟨by have := hq.2; omega, by have := hq.1; omega⟩) hg7)
    have HB7 := Lib.hid (HB6.out.grown hg7 HB6.out.size (fun q e => by cases e; exact HC1.out.1))
    obtain ⟨w8, hw8⟩ : ∃ w8, w8 = (w7.setCell ⟨w4.heap.size, 0, none⟩ (.slice Ca dd.acc.length sa)).setCell ⟨w4.heap.size, 1, none⟩ (.slice Cn dd.nxt.length sn) := ⟨_, rfl⟩
    obtain ⟨hcl, hsz, hot, hBl⟩ := put2 (k := .slice Ca dd.acc.length sa) (l := .slice Cn dd.nxt.length sn) y0 y1
    have hx8 : w8.heap[w4.heap.size]? = some (.cells #[.slice Ca dd.acc.length sa, .slice Cn dd.nxt.length sn] 27 (0, 0)) := by
      rw [hw8]
      exact heap_setCell_same _ _ 1 _ _ _ (heap_setCell_same w7 _ 0 _ _ _ hXb7)
    rw [← hw8] at hsz hot hBl
    have hg4 := HC4.out.lt
    have HXa := Lib.hid ((hot w2.heap.size (by omega)).trans HXa7.out)
    have HXb := Lib.hid hx8
    have HDa := Lib.hid (HDa7.out.mono (w' := w8) (fun q hq => hot q (by have := hq.2; omega)) (fun _ h => h))
    have HDb := Lib.hid (hdd.dfa.mono (w' := w8) (fun q hq => hot q (by have := hq.1; omega)) (fun _ h => h))
    have HB8 := Lib.hid (hBl _ _ HB7.out (by omega))
    have HC8 : Hid (Cur w8 g W0.heap.size A n c) := Lib.hid (by
      have h2 : DS w6 w7 g W0.heap.size A n c := ⟨HC6.out.lt, hc7, hg7⟩
      obtain ⟨-, ⟨hB, hbl, i, x, hi, hh⟩, -⟩ := h2
      exact ⟨hB, hbl.below (hBl _ _ (Below.refl _ _) (by omega)), i, x, hi, (hot g (by omega)).trans hh⟩)
    have HSa : Hid (∀ q, (fun q => w1.heap.size ≤ q ∧ q < w2.heap.size) q → W0.heap.size ≤ q ∧ q < w8.heap.size ∧ q ≠ g) := Lib.hid (fun q hq => by
      have h1 : w1.heap.size ≤ q := hq.1
      have h2 : q < w2.heap.size := hq.2
      rw [hsz]
      omega)
    have HSb : Hid (∀ q, OwnB w6 w7 q → W0.heap.size ≤ q ∧ q < w8.heap.size ∧ q ≠ g) := Lib.hid (fun q hq => by
      have h1 : w6.heap.size ≤ q := hq.1
      have h2 : q < w7.heap.size := hq.2
      rw [hsz]
      omega)
    have HW8 := Lib.hid hw8
    clear hdd hldd hc7 hg7 hcl hsz hot hBl hx8 hXb7 HXa7 HDa7 HB7 hw8 hz67
    clear HXa6 HXb6 HDa6 HDb6 HC6 HB6 HG6 G36 G56 hz56
    go_upto_region 7 with fail
    rw [← HW8.out]
    clear HW8 y0 y1 y2 y3
    have HLit := Lib.hid (World.grownBy_alloc w8 (.cells #[.int .i64 6, .int .i64 7, .int .i64 6, .int .i64 7, .int .i64 9] 3) (some g))
    have HLd : Hid (w8.grownBy (w8.alloc (.cells #[.int .i64 6, .int .i64 7, .int .i64 6, .int .i64 7, .int .i64 9] 3)).drew (some g)) := Lib.hid ⟨HLit.out.os, HLit.out.tape, HLit.out.output, HLit.out.size, HLit.out.block⟩
    have hg8 : g < w8.heap.size := HC8.out.lt
    have HPk := Lib.hid (l1PickInt_any g W0.heap.size w8.heap.size A n c 5 kinds (w8.alloc (.cells #[.int .i64 6, .int .i64 7, .int .i64 6, .int .i64 7, .int .i64 9] 3)).drew (HC8.out.alloc _) hn (by omega) (by omega) rfl (by omega) (heap_alloc_new w8 _))
    have HAfter := Lib.hid (fun (V : World) (hV : w8.grownBy V (some g)) => two_end (d := d) (va := .slice Aa d.acc.length qa) (vn := .slice An d.nxt.length qn) (d' := dd) (vb := .slice Ca dd.acc.length sa) (vm := .slice Cn dd.nxt.length sn) (w' := V) (HB8.out.grown hV HB8.out.size (fun q e => by cases e; exact HC1.out.1)) HW0.out (dfa_call HDa.out (fun q hq => (HSa.out q hq).2) hV) (fun q hq => (HSa.out q hq).1) (dfa_call HDb.out (fun q hq => (HSb.out q hq).2) hV) (fun q hq => (HSb.out q hq).1))
    have HBoxA := Lib.hid (fun (V : World) (hV : w8.grownBy V (some g)) => box2_facts ((hV.block _ (blk_lt HXa.out) (by simp; omega)).trans HXa.out))
    have HBoxB := Lib.hid (fun (V : World) (hV : w8.grownBy V (some g)) => box2_facts ((hV.block _ (blk_lt HXb.out) (by simp; omega)).trans HXb.out))
    obtain ⟨e0, e1, -, -⟩ := HBoxA.out w8 (grown_refl _ _)
    obtain ⟨e2, e3, -, -⟩ := HBoxB.out w8 (grown_refl _ _)
    obtain ⟨f0, f1, -, -⟩ := HBoxA.out _ HLit.out
    obtain ⟨f2, f3, -, -⟩ := HBoxB.out _ HLit.out
    obtain ⟨hs2, hs4⟩ : w.heap.size + 1 < w2.heap.size ∧ w.heap.size + 1 < w4.heap.size := by
      have hz0 : W0.heap.size = w.heap.size + 2 := by rw [HW0.out]; simp
      omega
    have n1 : w.heap.size ≠ w2.heap.size := by omega
    have n2 : w.heap.size ≠ w4.heap.size := by omega
    have n3 : w.heap.size + 1 ≠ w2.heap.size := by omega
    have n4 : w.heap.size + 1 ≠ w4.heap.size := by omega
    have n5 := n1.symm
    have n6 := n2.symm
    have n7 := n3.symm
    have n8 := n4.symm
    clear hs2 hs4
    go_wp2_with fail
    go_region_law (refine step_call rfl _ _ _ rfl enters_pickInt #[.pointer (some ⟨g, 0, none⟩), .slice (some ⟨w8.heap.size, 0, none⟩) 5 5] (by simp [Act.eval]) HPk.out ?_; rintro e w9 ⟨z, hz, rfl, hc9, hg9⟩; have HF := Lib.hid (HAfter.out w9 (grown_comp HLd.out hg9)); obtain ⟨t0, t1, -, -⟩ := HBoxA.out w9 (grown_comp HLd.out hg9); obtain ⟨t2, t3, -, -⟩ := HBoxB.out w9 (grown_comp HLd.out hg9); obtain ⟨⟨⟨x0, k0⟩, ⟨x1, k1⟩, k2, k3⟩, ⟨⟨x4, k4⟩, ⟨x5, k5⟩, k6, k7⟩, -⟩ := HF.out; clear hc9 hg9; refine ⟨_, rfl, ?_⟩)
    all_goals
      go_wp2_with fail
      obtain ⟨-, -, ⟨hc0, hc1⟩, ⟨hc2, hc3⟩, hd, hd', hb⟩ := HF.out
      refine bodyPost_ret (v := .tuple #[.agg #[.slice Aa d.acc.length qa, .slice An d.nxt.length qn], .agg #[.slice Ca dd.acc.length sa, .slice Cn dd.nxt.length sn], .int .i64 z]) (by simp [results, Tryd.results21, go_sem, hc0, hc1, hc2, hc3]) rfl ?_
      first
        | exact ⟨_, _, _, _, _, _, _, rfl, hd, hd', hb⟩
        | exact ⟨_, _, _, _, _, _, _, rfl, hd.mono (fun _ _ => rfl) (fun _ h => h), hd'.mono (fun _ _ => rfl) (fun _ h => h), hb.drew⟩
theorem drawPro_any (A : Option Addr) (n c : Nat) (w : World) (h : BL w w.heap.size A n) (hn : n ≤ 1048576) :
    Calls Tryd.prog 21 #[.slice A n c] w (AnyP w) :=
  (drawProF_any A n c w h hn).mono fun _ _ ⟨va, vn, d, vb, vm, d', z, h1, h2, h3, h4⟩ => ⟨va, vn, d, vb, vm, d', z, h1, h2.mono (fun _ _ => rfl) (fun _ _ => trivial), h3.mono (fun _ _ => rfl) (fun _ _ => trivial), h4⟩
end Go.Proofs.YtlkhmpdncimnfaaDoor

/-
  What spec.DrawConcatDfa and spec.DrawStarDfa answer: automata that can be read; nothing old has turned.
-/
namespace Go.Proofs.YtlkhmpdncimnfaaDoor
open Go.RowKit

def AnyQ (w : World) (e : Ending) (w' : World) : Prop := ∃ va vn d vb vm d', e = .returned (.tuple #[.agg #[va, vn], .agg #[vb, vm]]) ∧ DfaV w' AnyB va vn d ∧ DfaV w' AnyB vb vm d' ∧ Below w.heap.size w w'

set_option maxRecDepth 100000 in
set_option maxHeartbeats 6400000 in
theorem drawCat_any (A : Option Addr) (n c : Nat) (w : World) (h : BL w w.heap.size A n) (hn : n ≤ 1048576) :
    Calls Tryd.prog 7 #[.slice A n c] w (AnyQ w) := by
  obtain ⟨W0, hW0⟩ : ∃ W0, W0 = (w.alloc (.cells #[.slice none 0 0, .slice none 0 0] 27)).alloc (.cells #[.slice none 0 0, .slice none 0 0] 27) := ⟨_, rfl⟩
  have hb0 : Below w.heap.size w W0 := by rw [hW0]; exact ((Below.refl w.heap.size w).alloc (Nat.le_refl _) _).alloc (by simp) _
  have HP := Lib.hid (drawProF_any A n c W0 ((h.below hb0).more hb0.size) hn)
  have HW0 := Lib.hid hW0
  clear h hb0
  go_enter Tryd.func7, Tryd.ntmps7
  go_wp2_with fail
  rw [← hW0]
  clear hW0
  go_at_call 21
  refine HP.out.mono ?_
  rintro e w1 ⟨va, vn, d, vb, vm, d', z, rfl, hd, hd', hb1⟩
  obtain ⟨⟨Aa, qa, rfl⟩, An, qn, rfl⟩ := hd.shape
  obtain ⟨⟨Ba, pa, rfl⟩, Bn, pn, rfl⟩ := hd'.shape
  obtain ⟨w3, hw3⟩ : ∃ w3, w3 = (w1.alloc (.cells #[.slice Aa d.acc.length qa, .slice An d.nxt.length qn] 27)).alloc (.cells #[.slice Ba d'.acc.length pa, .slice Bn d'.nxt.length pn] 27) := ⟨_, rfl⟩
  have hb3 : Below w1.heap.size w1 w3 := by rw [hw3]; exact ((Below.refl _ _).alloc (Nat.le_refl _) _).alloc (by simp) _
  have hx0 : w3.heap[w1.heap.size]? = some (.cells #[.slice Aa d.acc.length qa, .slice An d.nxt.length qn] 27 (0, 0)) := by rw [hw3]; exact (Below.heap_alloc _ _ _ (by simp)).trans (heap_alloc_new w1 _)
  have hx1 : w3.heap[w1.heap.size + 1]? = some (.cells #[.slice Ba d'.acc.length pa, .slice Bn d'.nxt.length pn] 27 (0, 0)) := by rw [hw3]; exact three2 w1 _ _ _ _
  obtain ⟨e0, e1, -, -⟩ := box2_facts hx0
  obtain ⟨e2, e3, -, -⟩ := box2_facts hx1
  have HF := Lib.hid (two_end (w' := w3) (hb1.trans (hb3.mono hb1.size)) HW0.out (hd.kept hb3) (fun q hq => hq) (hd'.kept hb3) (fun q hq => hq))
  obtain ⟨⟨⟨x0, k0⟩, ⟨x1, k1⟩, k2, k3⟩, ⟨⟨x4, k4⟩, ⟨x5, k5⟩, k6, k7⟩, -⟩ := HF.out
  have hs2 : w.heap.size + 1 < w1.heap.size := by
    have hz0 : W0.heap.size = w.heap.size + 2 := by rw [HW0.out]; simp
    have := hb1.size
    omega
  have n1 : w.heap.size ≠ w1.heap.size := by omega
  have n2 : w.heap.size ≠ w1.heap.size + 1 := by omega
  have n3 : w.heap.size + 1 ≠ w1.heap.size := by omega
  have n4 : w.heap.size + 1 ≠ w1.heap.size + 1 := by omega
  have n5 := n1.symm
  have n6 := n2.symm
  have n7 := n3.symm
  have n8 := n4.symm
  clear hs2 hd hd' hb1 hb3 hx0 hx1
  go_wp2_with fail
  rw [← hw3]
  clear hw3
  go_region_law fail
  all_goals
    go_wp2_with fail
    obtain ⟨-, -, ⟨hc0, hc1⟩, ⟨hc2, hc3⟩, hd, hd', hb⟩ := HF.out
    refine bodyPost_ret (v := .tuple #[.agg #[.slice Aa d.acc.length qa, .slice An d.nxt.length qn], .agg #[.slice Ba d'.acc.length pa, .slice Bn d'.nxt.length pn]]) (by simp [results, Tryd.results7, go_sem, hc0, hc1, hc2, hc3]) rfl ?_
    first
      | exact ⟨_, _, _, _, _, _, rfl, hd.mono (fun _ _ => rfl) (fun _ _ => trivial), hd'.mono (fun _ _ => rfl) (fun _ _ => trivial), hb⟩
      | exact ⟨_, _, _, _, _, _, rfl, hd.mono (fun _ _ => rfl) (fun _ _ => trivial), hd'.mono (fun _ _ => rfl) (fun _ _ => trivial), hb.drew⟩

set_option maxRecDepth 100000 in
set_option maxHeartbeats 3200000 in
theorem drawSta_any (A : Option Addr) (n c : Nat) (w : World) (h : BL w w.heap.size A n) (hn : n ≤ 1048576) :
    Calls Tryd.prog 10 #[.slice A n c] w (AnyD w) := by
  obtain ⟨W0, hW0⟩ : ∃ W0, W0 = w.alloc (.cells #[.slice none 0 0, .slice none 0 0] 27) := ⟨_, rfl⟩
  have hb0 : Below w.heap.size w W0 := by rw [hW0]; exact (Below.refl w.heap.size w).alloc (Nat.le_refl _) _
  have HN := Lib.hid (l1New_any A n c W0 ((h.below hb0).more hb0.size) hn)
  have HW0 := Lib.hid hW0
  have HWZ : Hid (w.heap.size < W0.heap.size) := Lib.hid (by rw [hW0]; simp)
  clear h hb0
  go_enter Tryd.func10, Tryd.ntmps10
  go_wp2_with fail
  rw [← hW0]
  clear hW0
  go_at_call 36
  refine HN.out.mono ?_
  rintro e w1 ⟨g, rfl, hc1, hb1⟩
  have HC1 := Lib.hid hc1
  have HB1 := Lib.hid hb1
  have hg1 : g < w1.heap.size := hc1.lt
  have HDr := Lib.hid (fun V (h : Cur V g W0.heap.size A n c) => (show Calls Tryd.prog 39 #[.pointer (some ⟨g, 0, none⟩), .int .i64 4] V (DrawnD 4 g W0.heap.size A n c V) from l5Draw_any 4 (by omega) (by omega) g W0.heap.size A n c V h hn))
  have HOn := Lib.hid (fun V (h : Cur V g W0.heap.size A n c) => (show Calls Tryd.prog 37 #[.pointer (some ⟨g, 0, none⟩), .int .i64 12] V (OnceM g W0.heap.size A n c V) from l1Once_m g W0.heap.size A n c 12 V h hn (by omega) (by omega)))
  clear hc1 hb1
  go_wp2_with fail
  go_at_call 37
  refine (HOn.out _ HC1.out).mono ?_
  rintro e w2 ⟨b, rfl, hc2, hg2⟩
  have HC2 := Lib.hid hc2
  have HB2 := Lib.hid (HB1.out.grown hg2 HB1.out.size (fun q e => by cases e; exact HC1.out.1))
  clear hc2 hg2
  cases b with
  | false =>
    go_wp2_with fail
    go_at_call 39
    refine (HDr.out _ HC2.out).mono ?_
    rintro e w3 ⟨va, vn, bo, accs, us, rs, K, rfl, hG, hl1, hl2, hul, hrl, -⟩
    have hd := (hG.dfa (by omega) (by omega)).dfa
    obtain ⟨d, hde⟩ : ∃ d : Dx, d = ⟨accs, rs⟩ := ⟨_, rfl⟩
    rw [← hde] at hd
    obtain ⟨⟨Aa, qa, rfl⟩, An, qn, rfl⟩ := hd.shape
    have HF := Lib.hid (one_end (HB2.out.grown hG.ds.2.2 HB2.out.size (fun q e => by cases e; exact HC1.out.1)) HW0.out hd (fun q hq => by have := hq.1; have := HB2.out.size; have := HWZ.out; omega))
    obtain ⟨⟨⟨x0, k0⟩, ⟨x1, k1⟩, k2, k3⟩, -⟩ := HF.out
    clear hG hl1 hl2 hul hrl hd hde
    go_wp2_with fail
    obtain ⟨-, ⟨hc0, hc1⟩, hd, hb⟩ := HF.out
    refine bodyPost_ret (v := .agg #[.slice Aa d.acc.length qa, .slice An d.nxt.length qn]) (by simp [results, Tryd.results10, go_sem, hc0, hc1]) rfl ?_
    exact ⟨_, _, _, rfl, hd, hb⟩
  | true =>
    go_wp2_with fail
    go_at_call 38
    refine (l5Bent_any g _ A n c w2 HC2.out hn).mono ?_
    rintro e w3 ⟨va, vn, d, rfl, hd, hl, hc3, hg3⟩
    obtain ⟨⟨Aa, qa, rfl⟩, An, qn, rfl⟩ := hd.dfa.shape
    have HF := Lib.hid (one_end (HB2.out.grown hg3 HB2.out.size (fun q e => by cases e; exact HC1.out.1)) HW0.out hd.dfa (fun q hq => by have := hq.1; have := HB2.out.size; have := HWZ.out; omega))
    obtain ⟨⟨⟨x0, k0⟩, ⟨x1, k1⟩, k2, k3⟩, -⟩ := HF.out
    clear hd hc3 hg3
    go_wp2_with fail
    obtain ⟨-, ⟨hc0, hc1⟩, hd, hb⟩ := HF.out
    refine bodyPost_ret (v := .agg #[.slice Aa d.acc.length qa, .slice An d.nxt.length qn]) (by simp [results, Tryd.results10, go_sem, hc0, hc1]) rfl ?_
    exact ⟨_, _, _, rfl, hd, hb⟩
end Go.Proofs.YtlkhmpdncimnfaaDoor

/-
  A region that draws its order, over calls that make memory and turn nothing old: one walk. Of no function of the program.
-/
namespace Go.Proofs.YtlkhmpdncimnfaaDoor
open Go.RowKit

/-- The worlds that turn nothing of W. -/
structure UpW (W : World) where
  w : World
  up : Below W.heap.size W w
instance upW_some (W : World) : Nonempty (UpW W) := ⟨⟨W, Below.refl _ _⟩⟩
/-- A region that draws, over calls that turn nothing old: one walk, in the order of the text. -/
theorem wp_region_up {P : Program} {W : World} {id : Nat} {Q : Exit → Act → World → Prop} {a : Act} {l : List Oper} (hm : P.follows .mixedOrders = true) (hB : Region.lexB .any l.toArray = true)
    (h : wpQuiet P l.toArray (fun w' => ∃ n : UpW W, w' = n.w) (fun a' => ∀ w', (∃ n : UpW W, w' = n.w) → Q .normal a' w') l a) : (Code.region id l.toArray true).wp P Q a W :=
  wp_region_quiet (C := fun w' => ∃ n : UpW W, w' = n.w) hm hB ⟨⟨_, (Below.refl W.heap.size W).drew⟩, rfl⟩ (by simpa using h)
theorem up_call {P : Program} {f : FuncId} {args : Array Value} {W : World} {n : UpW W} {v : Value} (h : Calls P f args n.w fun e w' => e = .returned v ∧ Below n.w.heap.size n.w w') : Calls P f args n.w fun e w'' => e = .returned v ∧ ∃ m : UpW W, w'' = m.w :=
  h.mono fun _ w' ⟨he, hb⟩ => ⟨he, ⟨w', n.up.trans (hb.mono n.up.size)⟩, rfl⟩
end Go.Proofs.YtlkhmpdncimnfaaDoor
