/-
  What strings.IndexRune and strings.ContainsRune answer over the letters and the names of the variables, at every rune.
-/
import Derived.Test.YtiijlpmdnokjfaaTerI
import Derived.Deep.QuietTactic
import Derived.BigQuiet
import Derived.Deep.RegionWith
import Derived.RegionTactic
import Derived.Outline
import Derived.WalkMore
namespace Go.Proofs.Ytiijlpmdnokjfaa
open Go.RowKit

def signs : ByteArray := ⟨#[97, 98, 99, 88, 89, 90]⟩

theorem ret_noGoto {Q : Exit → Act → World → Prop} {a : Act} {w : World} (h : Q .ret a w) : Exit.noGoto Q .ret a w := h
theorem ret_inBlock {n : Nat} {Q : Exit → Act → World → Prop} {a : Act} {w : World} (h : Q .ret a w) : Exit.inBlock n Q .ret a w := h
theorem ret_then {K : Act → World → Prop} {Q : Exit → Act → World → Prop} {a : Act} {w : World} (h : Q .ret a w) : Exit.then K Q .ret a w := h
theorem validRune_eq' (r : Int) : Utf8.valid r = Lib.validRune r := by
  simp only [Utf8.valid, Lib.validRune]
  by_cases h : (0 ≤ r ∧ r < 55296) ∨ (57343 < r ∧ r ≤ 1114111)
  · rw [decide_eq_true h]; rcases h with h | h <;> simp <;> omega
  · rw [decide_eq_false h]; simp; omega

theorem high_not (b : UInt8) (h : 128 ≤ b.toNat) : ∀ l : List UInt8, (∀ x ∈ l, x.toNat < 128) → Lib.indexByte l b = -1
  | [], _ => rfl
  | a :: r, hl => by
    have ha := hl a (List.mem_cons_self ..)
    have hne : ¬ a = b := by rintro rfl; omega
    unfold Lib.indexByte
    rw [if_neg (by simpa using hne), high_not b h r (fun x hx => hl x (List.mem_cons_of_mem _ hx))]
    rfl

set_option maxRecDepth 100000 in
set_option maxHeartbeats 3200000 in
theorem idxHigh_err (w : World) :
    Calls Try.prog 79 #[.string signs, .int .i32 65533] w fun e w' => e = .returned (.int .i64 (-1)) ∧ Below w.heap.size w w' := by
  have HBW : ∀ p, Below w.heap.size w (w.iter signs p) := fun p => (Below.refl _ _).alloc (Nat.le_refl _) _
  have HB := Lib.hid HBW
  clear HBW
  have N0 : Hid (∀ ty, (Instr.next (.pointer (some ⟨w.heap.size, 0, none⟩)) true ty).run Try.prog (w.iter signs 0) = .ok (.tuple #[.bool true, .int .i64 0, .int .i32 97]) (w.iter signs 1)) := Lib.hid (fun ty => run_next_ascii (P := Try.prog) w signs 0 ty (by decide) (by decide))
  have N1 : Hid (∀ ty, (Instr.next (.pointer (some ⟨w.heap.size, 0, none⟩)) true ty).run Try.prog (w.iter signs 1) = .ok (.tuple #[.bool true, .int .i64 1, .int .i32 98]) (w.iter signs 2)) := Lib.hid (fun ty => run_next_ascii (P := Try.prog) w signs 1 ty (by decide) (by decide))
  have N2 : Hid (∀ ty, (Instr.next (.pointer (some ⟨w.heap.size, 0, none⟩)) true ty).run Try.prog (w.iter signs 2) = .ok (.tuple #[.bool true, .int .i64 2, .int .i32 99]) (w.iter signs 3)) := Lib.hid (fun ty => run_next_ascii (P := Try.prog) w signs 2 ty (by decide) (by decide))
  have N3 : Hid (∀ ty, (Instr.next (.pointer (some ⟨w.heap.size, 0, none⟩)) true ty).run Try.prog (w.iter signs 3) = .ok (.tuple #[.bool true, .int .i64 3, .int .i32 88]) (w.iter signs 4)) := Lib.hid (fun ty => run_next_ascii (P := Try.prog) w signs 3 ty (by decide) (by decide))
  have N4 : Hid (∀ ty, (Instr.next (.pointer (some ⟨w.heap.size, 0, none⟩)) true ty).run Try.prog (w.iter signs 4) = .ok (.tuple #[.bool true, .int .i64 4, .int .i32 89]) (w.iter signs 5)) := Lib.hid (fun ty => run_next_ascii (P := Try.prog) w signs 4 ty (by decide) (by decide))
  have N5 : Hid (∀ ty, (Instr.next (.pointer (some ⟨w.heap.size, 0, none⟩)) true ty).run Try.prog (w.iter signs 5) = .ok (.tuple #[.bool true, .int .i64 5, .int .i32 90]) (w.iter signs 6)) := Lib.hid (fun ty => run_next_ascii (P := Try.prog) w signs 5 ty (by decide) (by decide))
  have N6 := Lib.hid (fun ty => run_next_end (P := Try.prog) w signs 6 ty (by decide))
  go_enter Try.func79, Try.ntmps79
  go_wp2
  go_loopw [] (fun wr => wr = w.iter signs 0 ∨ wr = w.iter signs 1 ∨ wr = w.iter signs 2 ∨ wr = w.iter signs 3 ∨ wr = w.iter signs 4 ∨ wr = w.iter signs 5 ∨ wr = w.iter signs 6) (fun wr => 6 - wr.iterPos w.heap.size)
  case atStart => exact Or.inl rfl
  case round =>
    rcases hrel with rfl | rfl | rfl | rfl | rfl | rfl | rfl
    · have hnx := N0.out
      go_wp2
      go_roundw
      case rel => simp
      case measure => simp
    · have hnx := N1.out
      go_wp2
      go_roundw
      case rel => simp
      case measure => simp
    · have hnx := N2.out
      go_wp2
      go_roundw
      case rel => simp
      case measure => simp
    · have hnx := N3.out
      go_wp2
      go_roundw
      case rel => simp
      case measure => simp
    · have hnx := N4.out
      go_wp2
      go_roundw
      case rel => simp
      case measure => simp
    · have hnx := N5.out
      go_wp2
      go_roundw
      case rel => simp
      case measure => simp
    · have hnx := N6.out
      go_wp2
      go_ret
      exact ⟨rfl, HB.out 6⟩

theorem extract_not (a e : Nat) (b : UInt8) (h : 128 ≤ b.toNat) : Lib.indexByte (signs.extract a e).data.toList b = -1 :=
  high_not b h _ (fun x hx => by
    have := mem_extract hx
    have key : (signs.data.toList.all fun y => decide (y.toNat < 128)) = true := by decide
    simpa using List.all_eq_true.1 key x this)

set_option maxRecDepth 100000 in
set_option maxHeartbeats 3200000 in
theorem idxHigh_enc (r : Int) (m : Nat) (e : ByteArray) (w : World) (h0 : 128 ≤ r) (h1 : r ≤ 2147483647) (hne : ¬ r = 65533) (hv : Lib.validRune r = true) (he : Utf8.encode r = e) (hm : e.size = m) (hm2 : 2 ≤ m) (hm4 : m ≤ 4)
    (b : UInt8) (hb : ∀ h : m - 1 < e.size, e[m - 1]'h = b) (hb8 : 128 ≤ b.toNat) :
    Calls Try.prog 79 #[.string signs, .int .i32 r] w fun e w' => e = .returned (.int .i64 (-1)) ∧ Below w.heap.size w w' := by
  have HV := Lib.hid (fun w => Try.utf8_ValidRune r w)
  rw [hv] at HV
  have hs6 : signs.size = 6 := rfl
  have HI := Lib.hid (fun (a : Nat) (w : World) => (Try.strings_IndexByte (signs.extract a 6) b.toNat w).mono (R' := fun e w' => e = .returned (.int .i64 (-1)) ∧ w' = w) fun e w' ⟨h, k⟩ => ⟨by rw [h, show ((b.toNat : Int).toNat.toUInt8) = b by simp, extract_not a 6 b hb8], k⟩)
  clear hv
  rcases (by omega : m = 2 ∨ m = 3 ∨ m = 4) with rfl | rfl | rfl
  · have hlt : 1 < e.size := by omega
    have hb' := hb hlt
    have f0 : (((signs[1]'(by decide)).toNat : Int) == (b.toNat : Int)) = false := by
      show ((98 : Int) == (b.toNat : Int)) = false
      simp only [beq_eq_false_iff_ne, ne_eq]; omega
    go_enter Try.func79, Try.ntmps79
    go_wp2_with (first | rw [he] | (go_at_call 93; refine (HV.out _).mono ?_; rintro e w' ⟨rfl, rfl⟩))
    go_step3
    go_wp2_with (first | rw [he] | fail)
    refine wp_loop_rounds 1 ?_
    rw [rounds_succ]
    go_wp2
    go_step3
    go_wp2
    go_quiet (fail)
    all_goals go_wp2
    go_region_with (go_at_call 49; refine (HI.out _ _).mono ?_; rintro e w' ⟨rfl, rfl⟩)
    all_goals go_wp2
    all_goals
      repeat (first | with_reducible refine ret_noGoto ?_ | with_reducible refine ret_inBlock ?_ | with_reducible refine ret_then ?_)
      go_ret
      exact ⟨rfl, by first | exact Below.refl _ _ | exact ⟨rfl, rfl, rfl, Nat.le_refl _, fun _ _ => rfl⟩ | exact (Below.refl _ _).drew | exact (Below.refl _ _).drew.drew⟩
  · have hlt : 2 < e.size := by omega
    have hb' := hb hlt
    have f0 : (((signs[2]'(by decide)).toNat : Int) == (b.toNat : Int)) = false := by
      show ((99 : Int) == (b.toNat : Int)) = false
      simp only [beq_eq_false_iff_ne, ne_eq]; omega
    go_enter Try.func79, Try.ntmps79
    go_wp2_with (first | rw [he] | (go_at_call 93; refine (HV.out _).mono ?_; rintro e w' ⟨rfl, rfl⟩))
    go_step3
    go_wp2_with (first | rw [he] | fail)
    refine wp_loop_rounds 1 ?_
    rw [rounds_succ]
    go_wp2
    go_step3
    go_wp2
    go_quiet (fail)
    all_goals go_wp2
    go_region_with (go_at_call 49; refine (HI.out _ _).mono ?_; rintro e w' ⟨rfl, rfl⟩)
    all_goals go_wp2
    all_goals
      repeat (first | with_reducible refine ret_noGoto ?_ | with_reducible refine ret_inBlock ?_ | with_reducible refine ret_then ?_)
      go_ret
      exact ⟨rfl, by first | exact Below.refl _ _ | exact ⟨rfl, rfl, rfl, Nat.le_refl _, fun _ _ => rfl⟩ | exact (Below.refl _ _).drew | exact (Below.refl _ _).drew.drew⟩
  · have hlt : 3 < e.size := by omega
    have hb' := hb hlt
    have f0 : (((signs[3]'(by decide)).toNat : Int) == (b.toNat : Int)) = false := by
      show ((88 : Int) == (b.toNat : Int)) = false
      simp only [beq_eq_false_iff_ne, ne_eq]; omega
    go_enter Try.func79, Try.ntmps79
    go_wp2_with (first | rw [he] | (go_at_call 93; refine (HV.out _).mono ?_; rintro e w' ⟨rfl, rfl⟩))
    go_step3
    go_wp2_with (first | rw [he] | fail)
    refine wp_loop_rounds 1 ?_
    rw [rounds_succ]
    go_wp2
    go_step3
    go_wp2
    go_quiet (fail)
    all_goals go_wp2
    go_region_with (go_at_call 49; refine (HI.out _ _).mono ?_; rintro e w' ⟨rfl, rfl⟩)
    all_goals go_wp2
    all_goals
      repeat (first | with_reducible refine ret_noGoto ?_ | with_reducible refine ret_inBlock ?_ | with_reducible refine ret_then ?_)
      go_ret
      exact ⟨rfl, by first | exact Below.refl _ _ | exact ⟨rfl, rfl, rfl, Nat.le_refl _, fun _ _ => rfl⟩ | exact (Below.refl _ _).drew | exact (Below.refl _ _).drew.drew⟩

set_option maxRecDepth 100000 in
set_option maxHeartbeats 3200000 in
theorem idxHigh_any (r : Int) (w : World) (h0 : 128 ≤ r) (h1 : r ≤ 2147483647) :
    Calls Try.prog 79 #[.string signs, .int .i32 r] w fun e w' => e = .returned (.int .i64 (-1)) ∧ Below w.heap.size w w' := by
  by_cases hne : r = 65533
  · subst hne
    exact idxHigh_err w
  · cases hv : Lib.validRune r with
    | true =>
      obtain ⟨f1, f2, f3⟩ := encode_facts r ((validRune_eq' r).trans hv) h0
      have hlt : (Utf8.encode r).size - 1 < (Utf8.encode r).size := by omega
      exact idxHigh_enc r _ _ w h0 h1 hne hv rfl rfl f1 f2 _ (fun _ => rfl) (f3 hlt)
    | false =>
      have HV := Lib.hid (fun w => Try.utf8_ValidRune r w)
      rw [hv] at HV
      clear hv
      go_enter Try.func79, Try.ntmps79
      go_wp2_with (go_at_call 93; refine (HV.out _).mono ?_; rintro e w' ⟨rfl, rfl⟩)
      go_ret
      exact ⟨rfl, Below.refl _ _⟩

set_option maxRecDepth 100000 in
theorem contains_high (r : Int) (w : World) (h0 : 128 ≤ r) (h1 : r ≤ 2147483647) :
    Calls Try.prog 51 #[.string signs, .int .i32 r] w fun e w' => e = .returned (.bool false) ∧ Below w.heap.size w w' := by
  have HI := Lib.hid (fun w => idxHigh_any r w h0 h1)
  go_enter Try.func51, Try.ntmps51
  go_wp2_with (go_at_call 79; refine (HI.out _).mono ?_; rintro e w' ⟨rfl, hb⟩)
  go_ret
  exact ⟨rfl, hb⟩
theorem contains_low (b : UInt8) (w : World) (h : b.toNat < 128) :
    Calls Try.prog 51 #[.string signs, .int .i32 b.toNat] w fun e w' => e = .returned (.bool (tLet b)) ∧ w' = w :=
  (Try.strings_ContainsRune_ascii signs b.toNat w (by omega) (by omega)).mono fun e w' ⟨he, hw⟩ => ⟨by
    rw [he, show ((b.toNat : Int).toNat.toUInt8) = b by simp, show signs.data.toList = [97, 98, 99, 88, 89, 90] from rfl, tLet_idx], hw⟩

/-- Whether a rune is a letter or a variable's name. -/
def tRune (s : ByteArray) (k : Nat) (h : k < s.size) : Bool := tLet (s[k]'h)
theorem tLet_high {b : UInt8} (h : 128 ≤ b.toNat) : tLet b = false := by
  simp only [tLet, isLetter, isVarB, Bool.or_eq_false_iff, Bool.and_eq_false_iff, decide_eq_false_iff_not]
  omega

set_option maxRecDepth 100000 in
set_option maxHeartbeats 3200000 in
theorem implIsT_any (s : ByteArray) (w : World) (hs : s.size ≤ maxLen) :
    Calls Try.prog 20 #[.string s] w fun e w' => e = .returned (.bool (isT s.data.toList)) ∧ Below w.heap.size w w' := by
  unfold maxLen at hs
  by_cases h12 : 12 < s.size
  · have HN := Lib.hid (isT_long h12)
    go_enter Try.func20, Try.ntmps20
    go_wp2
    go_ret
    exact ⟨by rw [HN.out]; rfl, Below.refl _ _⟩
  · obtain ⟨B, hB⟩ : ∃ B, B = w.heap.size := ⟨_, rfl⟩
    have HB0 : Hid (Below B w (w.iter s 0)) := Lib.hid (by rw [hB]; exact (Below.refl _ _).alloc (Nat.le_refl _) _)
    have hI0 : (w.iter s 0).heap[B]? = some (.stringIter s 0) := by rw [hB]; exact World.iter_heap w s 0
    have HI0 := Lib.hid hI0
    clear hI0
    rw [show w.heap.size = B from hB.symm]
    go_enter Try.func20, Try.ntmps20
    go_wp2
    rw [show (ByteArray.mk #[97, 98, 99, 88, 89, 90]) = signs from rfl]
    rw [← hB]
    clear hB
    go_loopw [] (fun wr => ∃ k : Nat, k ≤ s.size ∧ wr.heap[B]? = some (.stringIter s k) ∧ Below B w wr ∧ (s.data.toList.take k).all tLet = true) (fun wr => s.size - wr.iterPos B)
    case atStart => exact ⟨0, Nat.zero_le _, HI0.out, HB0.out, rfl⟩
    case round =>
      obtain ⟨k, hk, hit, hbw, hall⟩ := hrel
      have HA := Lib.hid hall
      clear hall
      have hsz : B < wr.heap.size := (Array.getElem?_eq_some_iff.1 hit).1
      by_cases hlt : k < s.size
      · by_cases ha : (s[k]'hlt).toNat < 128
        · have hnx : ∀ ty, (Instr.next (.pointer (some ⟨B, 0, none⟩)) true ty).run Try.prog wr = _ := fun ty => Lib.run_next_ascii_at wr B s k ty hit hlt ha
          have HC := Lib.hid (fun V => contains_low (s[k]'hlt) V ha)
          have hit2 := Lib.iterAt_heap wr B s k (k + 1) hit
          have hbw2 := Lib.below_iterAt hbw (k := B) (by omega) s (k + 1)
          cases hb : tLet (s[k]'hlt) with
          | true =>
            have HN := Lib.hid (show (s.data.toList.take (k + 1)).all tLet = true by rw [tAll_succ s k hlt, HA.out, hb]; rfl)
            rw [hb] at HC
            have HE := Lib.hid (And.intro hit2 hbw2)
            have hip := iterPos_of hit
            have hip2 := iterPos_of hit2
            clear hb ha hit2 hbw2 hit hbw
            go_wp2_with (go_at_call 51; refine (HC.out _).mono ?_; rintro e w' ⟨rfl, rfl⟩)
            go_roundw
            case rel => exact ⟨k + 1, by omega, HE.out.1, HE.out.2, HN.out⟩
            case measure => rw [hip, hip2]; omega
          | false =>
            have HN := Lib.hid (isT_bad hlt hb)
            rw [hb] at HC
            have HE := Lib.hid (And.intro hit2 hbw2)
            clear hb ha hit2 hbw2 hit hbw
            go_wp2_with (go_at_call 51; refine (HC.out _).mono ?_; rintro e w' ⟨rfl, rfl⟩)
            go_ret
            exact ⟨by rw [HN.out]; rfl, HE.out.2⟩
        · have hnx : ∀ ty, (Instr.next (.pointer (some ⟨B, 0, none⟩)) true ty).run Try.prog wr = _ := fun ty => Lib.run_next_any_at wr B s k ty hit hlt
          have hd := decode_high s k hlt (by omega)
          have hd2 := decode_le s k
          have HC := Lib.hid (fun V => contains_high ((Utf8.decode s k).1 : Nat) V (by omega) (by omega))
          have hbw2 := Lib.below_iterAt hbw (k := B) (by omega) s (k + (Utf8.decode s k).2)
          have HN := Lib.hid (isT_bad hlt (tLet_high (by omega)))
          have HE := Lib.hid hbw2
          have hz2 : B ≤ (wr.iterAt B s (k + (Utf8.decode s k).2)).heap.size := by rw [Lib.iterAt_size]; omega
          have HZ := Lib.hid hz2
          clear ha hbw2 hit hbw hz2
          go_wp2_with (go_at_call 51; refine (HC.out _).mono ?_; rintro e w' ⟨rfl, hb⟩)
          go_ret
          exact ⟨by rw [HN.out]; rfl, HE.out.trans (hb.mono HZ.out)⟩
      · obtain rfl : k = s.size := by omega
        have hnx : ∀ ty, (Instr.next (.pointer (some ⟨B, 0, none⟩)) true ty).run Try.prog wr = _ := fun ty => Lib.run_next_end_at wr B s s.size ty hit (by omega)
        have HN := Lib.hid (isT_all HA.out)
        rw [show decide ((s.size : Int) ≤ 12) = true by simp; omega] at HN
        have HE := Lib.hid hbw
        clear hbw
        go_wp2
        go_ret
        exact ⟨by rw [HN.out]; rfl, HE.out⟩
end Go.Proofs.Ytiijlpmdnokjfaa
