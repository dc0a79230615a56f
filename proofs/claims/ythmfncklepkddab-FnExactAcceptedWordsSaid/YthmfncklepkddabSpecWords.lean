/-
  What spec.WordsOfLength answers at every number: the words of that length, in order, in a new row of their own; none where it is not from 0 to 5. Behind the call nothing that was there has turned.
-/
import Derived.Test.YthmfncklepkddabStrBase
import Derived.Test.YthmfncklepkddabWords
import Derived.Test.YthmfncklepkddabL1In
import Derived.Test.YthmfncklepkddabStepOwn
import Derived.Maps.AppendAt
import Derived.IntWalk
namespace Go.Proofs.Ythmfncklepkddab
open Go.RowKit



/-- Every word with every letter behind it. -/
def ext (L : List (List UInt8)) : List (List UInt8) := L.flatMap fun w => letters.map fun b => w ++ [b]
theorem wordsOf_succ (k : Nat) : wordsOf (k + 1) = ext (wordsOf k) := rfl
theorem ext_length (L : List (List UInt8)) : (ext L).length = 3 * L.length := by
  unfold ext
  rw [List.length_flatMap]
  simp [letters, List.map_const']
  omega
/-- What has come when i words are done and j letters of the next one. -/
def wpart (L : List (List UInt8)) (i j : Nat) : List (List UInt8) := ext (L.take i) ++ (letters.take j).map fun b => L.getD i [] ++ [b]
theorem wpart_length (L : List (List UInt8)) (i j : Nat) (hi : i ≤ L.length) (hj : j ≤ 3) : (wpart L i j).length = 3 * i + j := by
  unfold wpart
  rw [List.length_append, ext_length, List.length_map, List.length_take, List.length_take]
  simp [letters]
  omega
theorem wpart_next (L : List (List UInt8)) (i : Nat) (hi : i < L.length) : wpart L i 3 = wpart L (i + 1) 0 := by
  unfold wpart ext
  rw [List.take_succ_eq_append_getElem hi, List.flatMap_append]
  simp [letters, hi]
theorem wpart_all (L : List (List UInt8)) : wpart L L.length 0 = ext L := by simp [wpart]
theorem wpart_start (L : List (List UInt8)) : wpart L 0 0 = [] := by simp [wpart, ext]
theorem wpart_step (L : List (List UInt8)) (i j : Nat) (hj : j < 3) : wpart L i (j + 1) = wpart L i j ++ [L.getD i [] ++ [letters.getD j 0]] := by
  unfold wpart
  have h : j < letters.length := by simpa [letters] using hj
  rw [List.take_succ_eq_append_getElem h, List.map_append, ← List.append_assoc]
  simp [h]

theorem letter_bytes (x : ByteArray) (p : List UInt8) (hx : x = ⟨p.toArray⟩) (j : Nat) (hj : j < 3) : x ++ (ByteArray.mk #[97, 98, 99]).extract j (j + 1) = ⟨(p ++ [letters.getD j 0]).toArray⟩ := by
  subst hx
  apply ByteArray.ext
  apply Array.toList_inj.1
  have h : j = 0 ∨ j = 1 ∨ j = 2 := by omega
  rcases h with rfl | rfl | rfl <;> simp [letters]

set_option maxRecDepth 100000 in
set_option maxHeartbeats 400000 in
theorem specWords_none (n : Int) (w : World) (h : n < 0 ∨ 5 < n) : Calls Try.prog 38 #[.int .i64 n] w (SplPost [] w) := by
  have HC := Lib.hid (fun w => l1In_no n 0 5 w (by omega))
  clear h
  go_enter Try.func38, Try.ntmps38
  go_wp2_with (go_at_call 19; refine (HC.out _).mono ?_; rintro e w' ⟨rfl, rfl⟩)
  go_ret
  exact ⟨_, rfl, World.ownsRow_made w #[] 0 (Nat.le_refl _) (by unfold maxLen; omega) rfl, (Below.refl _ _).alloc (Nat.le_refl _) _⟩

/-- One word more. -/
theorem wpart_grow {wo wr w1 : World} {u v' : Value} {L : List (List UInt8)} {a b : Nat} {x : ByteArray} {o : Obj} (hb3 : b < 3) (hx : x = ⟨(L.getD a []).toArray⟩) (hown : wr.ownsRow wo.heap.size 9 1 u (wpart L a b).length (strs (wpart L a b))) (hb : Below wo.heap.size wo wr)
    (hown' : w1.ownsRow wo.heap.size 9 1 v' ((wpart L a b).length + 1) (strs (wpart L a b) ++ [.string (x ++ (ByteArray.mk #[97, 98, 99]).extract b (b + 1))])) (hg : (wr.alloc o).drew.grownBy w1 u.ownBlock) :
    w1.ownsRow wo.heap.size 9 1 v' (wpart L a (b + 1)).length (strs (wpart L a (b + 1))) ∧ Below wo.heap.size wo w1 := by
  rw [letter_bytes x _ hx b hb3] at hown'
  refine ⟨?_, ((hb.alloc hb.size o).drew).grown hg (by have := hb.size; simp; omega) (fun k hk => (hown.lt k hk).1)⟩
  rw [wpart_step L a b hb3, strs_append, List.length_append]
  exact hown'
theorem own_one (w : World) (x : Value) {B : Nat} (hB : B ≤ w.heap.size) : (w.alloc (.cells #[x] 9)).ownsRow B 9 1 (.slice (some ⟨w.heap.size, 0, none⟩) 1 1) 1 [x] :=
  ⟨rfl, .inr ⟨w.heap.size, 1, #[x], rfl, hB, heap_alloc_new w _, Nat.le_refl _, by unfold maxLen; omega, rfl, rfl⟩⟩
theorem wordsOf_len : ∀ (n : Nat) (x : List UInt8), x ∈ wordsOf n → x.length = n
  | 0, x, h => by simp [wordsOf] at h; rw [h]; rfl
  | n + 1, x, h => by
    unfold wordsOf at h
    rw [List.mem_flatMap] at h
    obtain ⟨y, hy, hx⟩ := h
    have hl := wordsOf_len n y hy
    rw [List.mem_map] at hx
    obtain ⟨b, _, rfl⟩ := hx
    simp [hl]
theorem wordsOf_small (k : Nat) (h : k ≤ 5) : 1 ≤ (wordsOf k).length ∧ (wordsOf k).length ≤ 243 := by
  rw [wordsOf_length]
  exact ⟨Nat.one_le_pow k 3 (by omega), Nat.pow_le_pow_right (by omega) h⟩

set_option maxRecDepth 100000 in
set_option maxHeartbeats 1600000 in
theorem specWords_any (n : Nat) (w : World) (hn : n ≤ 5) : Calls Try.prog 38 #[.int .i64 n] w (SplPost (wordsOf n) w) := by
  obtain ⟨i0, hi, hz0, hz1, hz2⟩ := info_parts strInfo
  have HC := Lib.hid (fun w => l1In_yes n 0 5 w (by omega))
  go_enter Try.func38, Try.ntmps38
  go_wp2_with (go_at_call 19; refine (HC.out _).mono ?_; rintro e w' ⟨rfl, rfl⟩)
  go_loopw [3, 4] (fun v i wr => ∃ k : Nat, i = .int .i64 k ∧ k ≤ n ∧ wr.ownsRow w.heap.size 9 1 v (wordsOf k).length (strs (wordsOf k)) ∧ Below w.heap.size w wr) (fun _ i _ => n - (intOf i).toNat)
  case atStart => exact ⟨0, rfl, Nat.zero_le _, own_one w (.string ⟨#[]⟩) (Nat.le_refl _), (Below.refl _ _).alloc (Nat.le_refl _) _⟩
  case round =>
    obtain ⟨k, rfl, hk, hown, hb⟩ := hrel
    have HO := Lib.hid hown
    have HB := Lib.hid hb
    clear hown hb
    by_cases hlt : k < n
    · obtain ⟨hs1, hs2⟩ := wordsOf_small k (by omega)
      obtain ⟨L, hL⟩ : ∃ L, L = wordsOf k := ⟨_, rfl⟩
      rw [← hL] at HO hs1 hs2
      have HL := Lib.hid hL
      clear hL
      have HLEN : Hid (∀ a, (L.getD a []).length ≤ 5) := Lib.hid fun a => by
        by_cases h : a < L.length
        · have hm := wordsOf_len k (L.getD a []) (by rw [← HL.out]; simp [h])
          omega
        · simp [h]
      obtain ⟨g, c, rfl⟩ : ∃ g c, u3 = .slice (some ⟨g, 0, none⟩) L.length c := by
        rcases own_cases HO.out with ⟨h0, _⟩ | h
        · omega
        · exact h
      have hgl := (HO.out.lt g (by simp [Value.ownBlock])).2
      obtain ⟨wo, rfl⟩ : ∃ wo : World, wo = wr := ⟨_, rfl⟩
      have hz := HB.out.size
      go_wp2
      go_loopw [5, 6] (fun u i wr => ∃ a : Nat, i = .int .i64 a ∧ a ≤ L.length ∧ wr.ownsRow wo.heap.size 9 1 u (wpart L a 0).length (strs (wpart L a 0)) ∧ Below wo.heap.size wo wr) (fun _ i _ => L.length - (intOf i).toNat)
      case atStart => exact ⟨0, rfl, Nat.zero_le _, by rw [wpart_start]; exact World.ownsRow_made wo #[] 0 (Nat.le_refl _) (by unfold maxLen; omega) rfl, (Below.refl _ _).alloc (Nat.le_refl _) _⟩
      case round =>
        obtain ⟨a, rfl, ha, hown, hb⟩ := hrel
        have HO2 := Lib.hid hown
        have HB2 := Lib.hid hb
        clear hown hb
        by_cases hlt2 : a < L.length
        · obtain ⟨w2, rfl⟩ : ∃ w2 : World, w2 = wr := ⟨_, rfl⟩
          go_wp2
          go_loopw [5, 7] (fun u j wr => ∃ b : Nat, j = .int .i64 b ∧ b ≤ 3 ∧ wr.ownsRow wo.heap.size 9 1 u (wpart L a b).length (strs (wpart L a b)) ∧ Below wo.heap.size wo wr) (fun _ j _ => 3 - (intOf j).toNat)
          case atStart => exact ⟨0, rfl, Nat.zero_le _, HO2.out, HB2.out⟩
          case round =>
            obtain ⟨b, rfl, hb3, hown, hb⟩ := hrel
            have HO3 := Lib.hid hown
            have HB3 := Lib.hid hb
            clear hown hb
            by_cases hlt3 : b < 3
            · have hcell : ∀ w1, Below wo.heap.size wo w1 → w1.cell? ⟨g, a, none⟩ = some (.string ⟨(L.getD a []).toArray⟩) := fun w1 h1 => by
                rw [h1.cell (p := ⟨g, a, none⟩) hgl, HO.out.cellAt a (by omega)]
                simp [strs, hlt2]
              obtain ⟨x, hx⟩ : ∃ x : ByteArray, x = ⟨(L.getD a []).toArray⟩ := ⟨_, rfl⟩
              rw [← hx] at hcell
              have hc0 := hcell wr HB3.out
              have hxs : x.size ≤ 5 := by rw [hx]; exact HLEN.out a
              have HX := Lib.hid hx
              clear hcell hx
              go_wp2
              have s1 : IntKind.i64.wrap ((b : Int) + 1) = (b : Int) + 1 := IntWalk.i64_in _ (by omega)
              have s2 : 0 ≤ (b : Int) + 1 := by omega
              have s3 : (b : Int) + 1 ≤ 3 := by omega
              have s4 : ((b : Int) + 1).toNat = b + 1 := by omega
              have s5 : (b : Int) ≤ (b : Int) + 1 := by omega
              have s6 : (9223372036854775807 < x.size + (min (b + 1) 3 - b)) = False := by simp; omega
              have hpl : (wpart L a b).length ≤ 800 := by rw [wpart_length L a b (by omega) hb3]; omega
              go_region_law (refine step_append_own rfl (.tmp 29) (.tmp 39) 32 rfl wo.heap.size 9 i0 (.string ⟨#[]⟩) 1 16 Try.underlying32 hi hz0 hz1 hz2 rfl (by decide) _ _ _ rfl (HO3.out.drew.alloc _) ⟨wr.heap.size, 0, none⟩ 1 1 _ rfl rfl (cell_one_new _ _ _) (by simp [Value.oneCell']) (by unfold maxLen; omega) (by omega) (by have := HB3.out.size; simp; omega) ?_; intro v' w1 hown' hgrow)
              all_goals
                have R := wpart_grow hlt3 HX.out HO3.out HB3.out hown' hgrow
                clear hown' hgrow s1 s2 s3 s4 s5 s6
                go_wp2
                go_roundw
                case rel => exact ⟨b + 1, by go_num, by omega, R.1, R.2⟩
                case measure => simp [intOf]; omega
            · obtain rfl : b = 3 := by omega
              have HP := Lib.hid (wpart_next L a hlt2)
              go_wp2
              go_roundw
              case rel => exact ⟨a + 1, by go_num, by omega, by rw [← HP.out]; exact HO3.out, HB3.out⟩
              case measure => simp [intOf]; omega
        · obtain rfl : a = L.length := by omega
          have HP := Lib.hid (wpart_all L)
          have HE : Hid (ext L = wordsOf (k + 1)) := Lib.hid (by rw [HL.out]; rfl)
          go_wp2
          go_roundw
          case rel => exact ⟨k + 1, by go_num, by omega, by rw [← HE.out, ← HP.out]; exact own_lower HO2.out hz, HB.out.trans (HB2.out.mono hz)⟩
          case measure => simp [intOf]; omega
    · obtain rfl : k = n := by omega
      go_wp2
      go_ret
      exact ⟨_, rfl, HO.out, HB.out⟩
end Go.Proofs.Ythmfncklepkddab
