/-
  What spec.SplitByte and impl.SplitByte answer at a string of at most 2^20 bytes: the substrings between the occurrences of the byte, in a new row of their own. Behind the call nothing that was there has turned.
-/
import Derived.Test.YtbedmckgjhhkaaaStrBase
import Derived.Test.YtbedmckgjhhkaaaShelf
import Derived.Test.YtbedmckgjhhkaaaSpl
namespace Go.Proofs.Ytbedmckgjhhkaaa
open Go.RowKit

set_option maxHeartbeats 800000 in
theorem specSplit_any (s : ByteArray) (c : UInt8) (w : World) (hl : s.size ≤ 1048576) :
    Calls Try.prog 10 #[.string s, .int .u8 c.toNat] w (SplPost (spl c s.data.toList) w) := by
  obtain ⟨i0, hi, hz0, hz1, hz2⟩ := info_parts strInfo
  have hlen : s.data.toList.length = s.size := by simp
  have HLEN := Lib.hid hlen
  clear hlen
  go_enter Try.func10, Try.ntmps10
  go_wp2
  go_loopw [5, 6, 7] (fun v fr i wr => ∃ (k f : Nat) (P : List (List UInt8)), i = .int .i64 k ∧ fr = .int .i64 f ∧ k ≤ s.size + 1 ∧ SplRel c s.data.toList P f k ∧ wr.ownsRow w.heap.size 9 1 v P.length (strs P) ∧ Below w.heap.size w wr) (fun _ _ i _ => s.size + 1 - (intOf i).toNat)
  case atStart => exact ⟨0, 0, [], rfl, rfl, by omega, SplRel.start _ _, World.ownsRow_made w #[] 0 (Nat.le_refl _) (by unfold maxLen; omega) rfl, (Below.refl _ _).alloc (Nat.le_refl _) _⟩
  case round =>
    obtain ⟨k, f, P, rfl, rfl, hk, hrel, hown, hb⟩ := hrel
    have hbd := hrel.bound
    rw [HLEN.out] at hbd
    obtain ⟨hf, hP, hfk⟩ := hbd
    have HR := Lib.hid hrel
    clear hrel
    by_cases hlt : k < s.size
    · have e1 : ((k : Int) == (s.size : Int)) = false := by simp; omega
      have hget : s.data.toList[k]? = some s[k] := by simp [hlt]; rfl
      have HG := Lib.hid hget
      clear hget
      obtain ⟨hfk1, hfk2⟩ := hfk (by omega)
      by_cases hq : s[k] = c
      · have hrel' := HR.out.hit (by rw [HLEN.out]; exact hlt) (HG.out.trans (by rw [hq]))
        have HR' := Lib.hid hrel'
        clear hrel'
        have e2 : ((s[k].toNat : Int) == (c.toNat : Int)) = true := by rw [hq]; simp
        clear hq
        go_wp2_with (at_builtin; refine wpList_append_own _ rfl (.tmp 26) (.tmp 31) 26 rfl w.heap.size 9 i0 (.string ⟨#[]⟩) 1 16 Try.underlying26 hi hz0 hz1 hz2 rfl (by decide) _ _ _ rfl (hown.alloc _) ⟨wr.heap.size, 0, none⟩ 1 1 [.string (s.extract f k)] rfl rfl (newCell wr _ (s.extract f k)) (oneCell_str _) (by unfold maxLen; omega) (by omega) (by have := hb.size; simp; omega) ?_)
        intro v' w1 hown' hgrow _
        have R := grow_strs (w := w) (extract_str s f k) hown hb hb.size hown' hgrow
        clear hown' hgrow hown hb
        go_wp2
        go_roundw
        case rel => exact ⟨k + 1, k + 1, _, by go_num, by go_num, by omega, HR'.out, R.1, R.2⟩
        case measure => simp [intOf]; omega
      · have hrel' := HR.out.pass (by rw [HLEN.out]; exact hlt) (fun e => hq (Option.some.inj (HG.out.symm.trans e)))
        have HR' := Lib.hid hrel'
        clear hrel'
        have e2 : ((s[k].toNat : Int) == (c.toNat : Int)) = false := by
          simp only [beq_eq_false_iff_ne, ne_eq]
          intro e
          exact hq (UInt8.toNat_inj.1 (by omega))
        clear hq
        go_wp2
        go_roundw
        case rel => exact ⟨k + 1, f, P, by go_num, rfl, by omega, HR'.out, hown, hb⟩
        case measure => simp [intOf]; omega
    · by_cases hle : k = s.size
      · subst hle
        have e1 : ((s.size : Int) == (s.size : Int)) = true := by simp
        have hrel' := HR.out
        rw [← HLEN.out] at hrel'
        have hrel'' := hrel'.last
        rw [HLEN.out] at hrel''
        have HR' := Lib.hid hrel''
        clear hrel' hrel''
        obtain ⟨hfk1, hfk2⟩ := hfk (by omega)
        go_wp2_with (at_builtin; refine wpList_append_own _ rfl (.tmp 26) (.tmp 31) 26 rfl w.heap.size 9 i0 (.string ⟨#[]⟩) 1 16 Try.underlying26 hi hz0 hz1 hz2 rfl (by decide) _ _ _ rfl (hown.alloc _) ⟨wr.heap.size, 0, none⟩ 1 1 [.string (s.extract f s.size)] rfl rfl (newCell wr _ (s.extract f s.size)) (oneCell_str _) (by unfold maxLen; omega) (by omega) (by have := hb.size; simp; omega) ?_)
        intro v' w1 hown' hgrow _
        have R := grow_strs (w := w) (extract_str s f s.size) hown hb hb.size hown' hgrow
        clear hown' hgrow hown hb
        go_wp2
        go_roundw
        case rel => exact ⟨s.size + 1, s.size + 1, _, by go_num, by go_num, by omega, HR'.out, R.1, R.2⟩
        case measure => simp [intOf]
      · have hk1 : k = s.size + 1 := by omega
        subst hk1
        go_wp2
        go_ret
        exact ⟨_, rfl, by rw [HR.out.done (by rw [HLEN.out])]; exact hown, hb⟩

/-- The size of a string in a slot. -/
def strSize : Value → Nat
  | .string t => t.size
  | _ => 0
theorem extract_rest (t : ByteArray) (o : Nat) : (t.extract (o + 1) t.size).data.toList = t.data.toList.drop (o + 1) := by
  simp
  exact List.take_of_length_le (by simp)
theorem extract_rest_size (t : ByteArray) (o : Nat) : (t.extract (o + 1) t.size).size = t.size - (o + 1) := by simp [ByteArray.size_extract]
/-- strings.IndexByte: nothing found. -/
theorem index_no (t : ByteArray) (c : UInt8) (w : World) (h : Lib.indexByte t.data.toList c = -1) :
    Calls Try.prog 20 #[.string t, .int .u8 c.toNat] w fun e w' => e = .returned (.int .i64 (-1)) ∧ w = w' := by
  refine (Try.strings_IndexByte t c.toNat w).mono ?_
  rintro e w' ⟨rfl, rfl⟩
  have hc : ((c.toNat : Int)).toNat.toUInt8 = c := by simp
  rw [hc, h]
  exact ⟨rfl, rfl⟩
/-- strings.IndexByte: found at o. -/
theorem index_yes (t : ByteArray) (c : UInt8) (o : Nat) (w : World) (h : Lib.indexByte t.data.toList c = o) :
    Calls Try.prog 20 #[.string t, .int .u8 c.toNat] w fun e w' => e = .returned (.int .i64 o) ∧ w = w' := by
  refine (Try.strings_IndexByte t c.toNat w).mono ?_
  rintro e w' ⟨rfl, rfl⟩
  have hc : ((c.toNat : Int)).toNat.toUInt8 = c := by simp
  rw [hc, h]
  exact ⟨rfl, rfl⟩

set_option maxHeartbeats 800000 in
theorem implSplit_any (s : ByteArray) (c : UInt8) (w : World) (hl : s.size ≤ 1048576) :
    Calls Try.prog 8 #[.string s, .int .u8 c.toNat] w (SplPost (spl c s.data.toList) w) := by
  obtain ⟨i0, hi, hz0, hz1, hz2⟩ := info_parts strInfo
  go_enter Try.func8, Try.ntmps8
  go_wp2
  go_loopw [0, 5] (fun sv v wr => ∃ (t : ByteArray) (P : List (List UInt8)), sv = .string t ∧ t.size + P.length ≤ s.size ∧ spl c s.data.toList = P ++ spl c t.data.toList ∧ wr.ownsRow w.heap.size 9 1 v P.length (strs P) ∧ Below w.heap.size w wr) (fun sv _ _ => strSize sv)
  case atStart => exact ⟨s, [], rfl, by simp, by simp, World.ownsRow_nil _ _ _ _, Below.refl _ _⟩
  case round =>
    obtain ⟨t, P, rfl, hsz, hsp, hown, hb⟩ := hrel
    have HSP := Lib.hid hsp
    clear hsp
    have hlen : t.data.toList.length = t.size := by simp
    have HLEN := Lib.hid hlen
    clear hlen
    by_cases hq : Lib.indexByte t.data.toList c = -1
    · have HI := Lib.hid (fun w => index_no t c w hq)
      have hone := spl_none c t.data.toList (fun b hbm e => by
        obtain ⟨k, hk⟩ := List.getElem?_of_mem hbm
        exact Lib.indexByte_none hq k (hk.trans (by rw [e])))
      have HONE := Lib.hid hone
      clear hq hone
      go_wp2_with (first
        | (go_at_call 20; refine (HI.out _).mono ?_; rintro e w' ⟨rfl, rfl⟩)
        | (at_builtin; refine wpList_append_own _ rfl (.tmp 12) (.tmp 14) 26 rfl w.heap.size 9 i0 (.string ⟨#[]⟩) 1 16 Try.underlying26 hi hz0 hz1 hz2 rfl (by decide) _ _ _ rfl (hown.alloc _) ⟨wr.heap.size, 0, none⟩ 1 1 [.string t] rfl rfl (newCell wr _ t) (oneCell_str _) (by unfold maxLen; omega) (by omega) (by have := hb.size; simp; omega) ?_))
      intro v' w1 hown' hgrow _
      have R := grow_strs (p := t.data.toList) (w := w) rfl hown hb hb.size hown' hgrow
      clear hown' hgrow hown hb
      go_wp2
      go_ret
      exact ⟨_, rfl, by rw [HSP.out, HONE.out]; exact R.1, R.2⟩
    · have hge := Lib.indexByte_ge t.data.toList c
      obtain ⟨o, ho⟩ : ∃ o : Nat, Lib.indexByte t.data.toList c = o := ⟨(Lib.indexByte t.data.toList c).toNat, by omega⟩
      have HI := Lib.hid (fun w => index_yes t c o w ho)
      obtain ⟨hat, hbef⟩ := Lib.indexByte_some ho
      have hot : o < t.size := by
        have := (List.getElem?_eq_some_iff.1 hat).1
        rw [HLEN.out] at this
        exact this
      have hone := spl_at c t.data.toList o hat hbef
      have HONE := Lib.hid hone
      clear hq hone hat hbef ho hge
      go_wp2_with (first
        | (go_at_call 20; refine (HI.out _).mono ?_; rintro e w' ⟨rfl, rfl⟩)
        | (at_builtin; refine wpList_append_own _ rfl (.tmp 16) (.tmp 20) 26 rfl w.heap.size 9 i0 (.string ⟨#[]⟩) 1 16 Try.underlying26 hi hz0 hz1 hz2 rfl (by decide) _ _ _ rfl (hown.alloc _) ⟨wr.heap.size, 0, none⟩ 1 1 [.string (t.extract 0 o)] rfl rfl (newCell wr _ (t.extract 0 o)) (oneCell_str _) (by unfold maxLen; omega) (by omega) (by have := hb.size; simp; omega) ?_))
      intro v' w1 hown' hgrow _
      have R := grow_strs (w := w) (extract_str t 0 o) hown hb hb.size hown' hgrow
      clear hown' hgrow hown hb
      go_wp2
      go_roundw
      case rel => exact ⟨t.extract (o + 1) t.size, P ++ [(t.data.toList.drop 0).take (o - 0)], rfl, by rw [extract_rest_size]; simp; omega, by rw [HSP.out, HONE.out, extract_rest]; simp, R.1, R.2⟩
      case measure => show (t.extract (o + 1) t.size).size < t.size; rw [extract_rest_size]; omega
#print axioms implSplit_any
end Go.Proofs.Ytbedmckgjhhkaaa
